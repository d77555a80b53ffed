/-
  DERIVED. GIVEN WITH THE SEED: THE CARDS: each row of YtjacgamgjjpllaaGreatDoorRows.lean that lists a variable, with what it lists TIED to the program's text (the seventh form; the later family's looks); each row that meets fmt, with fmt's text TOLD by the authors' own Lean function (tested against real Go, not proved from fmt's source: count such statements apart). THE CARD IS WHAT COUNTS. Prove the row's statement (the work); the ties are given (YtjacgamgjjpllaaGreatDoorTie.lean); close each card by the builder's one call (the guide's Derived/Test/ToyasCard.lean, 'card_holds'). Laid BY PROGRAM, IN A SANDBOX (cutbox-door.mjs). By AI agents, Wed Nov 11 2026. No macro, syntax, notation, axiom, sorry.
-/
import Derived.Test.YtjacgamgjjpllaaGreatDoorRows
import GoSem.ClaimSeven
namespace Go.Proofs.YtjacgamgjjpllaaGreatDoor
namespace Rows

/-- THE TIED CARD OF 'laws.FnMemBack'. -/
def fnMemBackCard : Claim7 := { stood := { row := fnMemBackRow, standIns := [], harness := (true, "691286b28451a1b20c796f4a6d3dd5feeeb7f26e45e689e49e81e5b3830b465b"), looks := true }, kinds := [], alts := [], laidByText := true, laidKinds := [.data, .data, .data, .data, .sentinel, .sentinel, .data, .data, .pinned], laidTests := true, laidLooks := .later }
def FnMemBackCardSaid : Prop := Claim7.holds Tryz.pinned (.plain (OpenSpec.ofChange fnMemBackSpec)) fnMemBackCard

/-- THE TIED CARD OF 'laws.FnExactMemRead'. -/
def fnExactMemReadCard : Claim7 := { stood := { row := fnExactMemReadRow, standIns := [], harness := (true, "691286b28451a1b20c796f4a6d3dd5feeeb7f26e45e689e49e81e5b3830b465b"), looks := true }, kinds := [], alts := [], laidByText := true, laidKinds := [.data, .data, .data, .data, .sentinel, .sentinel, .data, .data, .pinned], laidTests := true, laidLooks := .later }
def FnExactMemReadCardSaid : Prop := Claim7.holds Tryz.pinned (.plain (OpenSpec.ofChange fnExactMemReadSpec)) fnExactMemReadCard

/-- THE SECOND FORM's CARD OF 'laws.FnMemBack'. -/
def fnMemBackUptoCard : Claim7 := { stood := { row := fnMemBackUptoRow, standIns := [], harness := (true, "691286b28451a1b20c796f4a6d3dd5feeeb7f26e45e689e49e81e5b3830b465b"), looks := true }, kinds := [], alts := [], laidByText := true, laidKinds := [.data, .data, .data, .data, .sentinel, .sentinel, .data, .data, .pinned], laidTests := true, laidLooks := .later }
def FnMemBackUptoCardSaid : Prop := Claim7.holds Tryz.pinned (.plain (OpenSpec.upto fnMemBackSpec)) fnMemBackUptoCard

/-- THE SECOND FORM's CARD OF 'laws.FnExactMemRead'. -/
def fnExactMemReadUptoCard : Claim7 := { stood := { row := fnExactMemReadUptoRow, standIns := [], harness := (true, "691286b28451a1b20c796f4a6d3dd5feeeb7f26e45e689e49e81e5b3830b465b"), looks := true }, kinds := [], alts := [], laidByText := true, laidKinds := [.data, .data, .data, .data, .sentinel, .sentinel, .data, .data, .pinned], laidTests := true, laidLooks := .later }
def FnExactMemReadUptoCardSaid : Prop := Claim7.holds Tryz.pinned (.plain (OpenSpec.upto fnExactMemReadSpec)) fnExactMemReadUptoCard
end Rows
end Go.Proofs.YtjacgamgjjpllaaGreatDoor
