/-
  DERIVED. GIVEN WITH THE SEED: THE CARDS: each row of YtanikehmgcbgpacDoorRows.lean that lists a variable, with what it lists TIED to the program's text (the seventh form; the later family's looks); each row that meets fmt, with fmt's text TOLD by the authors' own Lean function (tested against real Go, not proved from fmt's source: count such statements apart). THE CARD IS WHAT COUNTS. Prove the row's statement (the work); the ties are given (YtanikehmgcbgpacDoorTie.lean); close each card by the builder's one call (the guide's Derived/Test/ToyasCard.lean, 'card_holds'). Laid BY PROGRAM, IN A SANDBOX (cutbox-door.mjs). By AI agents, Wed Nov 11 2026. No macro, syntax, notation, axiom, sorry.
-/
import Derived.Test.YtanikehmgcbgpacDoorRows
import GoSem.ClaimSeven
namespace Go.Proofs.YtanikehmgcbgpacDoor
namespace Rows

/-- THE TIED CARD OF 'laws.FnMemSame'. -/
def fnMemSameCard : Claim7 := { stood := { row := fnMemSameRow, standIns := [], harness := (true, "1c61c2e1ebd1c4fd6238b4df89a8c1691132c3dce8580d7a260f2dcf32ec7d3b"), looks := false }, kinds := [], alts := [], laidByText := true, laidKinds := [.data, .data, .data, .data, .data], laidTests := true, laidLooks := .later }
def FnMemSameCardSaid : Prop := Claim7.holds Tryd.pinned (.plain (OpenSpec.ofChange fnMemSameSpec)) fnMemSameCard

/-- THE TIED CARD OF 'laws.FnMemRound'. -/
def fnMemRoundCard : Claim7 := { stood := { row := fnMemRoundRow, standIns := [], harness := (true, "1c61c2e1ebd1c4fd6238b4df89a8c1691132c3dce8580d7a260f2dcf32ec7d3b"), looks := false }, kinds := [], alts := [], laidByText := true, laidKinds := [.data], laidTests := true, laidLooks := .later }
def FnMemRoundCardSaid : Prop := Claim7.holds Tryd.pinned (.plain (OpenSpec.ofChange fnMemRoundSpec)) fnMemRoundCard

/-- THE SECOND FORM's CARD OF 'laws.FnMemSame'. -/
def fnMemSameUptoCard : Claim7 := { stood := { row := fnMemSameUptoRow, standIns := [], harness := (true, "1c61c2e1ebd1c4fd6238b4df89a8c1691132c3dce8580d7a260f2dcf32ec7d3b"), looks := false }, kinds := [], alts := [], laidByText := true, laidKinds := [.data, .data, .data, .data, .data], laidTests := true, laidLooks := .later }
def FnMemSameUptoCardSaid : Prop := Claim7.holds Tryd.pinned (.plain (OpenSpec.upto fnMemSameSpec)) fnMemSameUptoCard

/-- THE SECOND FORM's CARD OF 'laws.FnMemRound'. -/
def fnMemRoundUptoCard : Claim7 := { stood := { row := fnMemRoundUptoRow, standIns := [], harness := (true, "1c61c2e1ebd1c4fd6238b4df89a8c1691132c3dce8580d7a260f2dcf32ec7d3b"), looks := false }, kinds := [], alts := [], laidByText := true, laidKinds := [.data], laidTests := true, laidLooks := .later }
def FnMemRoundUptoCardSaid : Prop := Claim7.holds Tryd.pinned (.plain (OpenSpec.upto fnMemRoundSpec)) fnMemRoundUptoCard
end Rows
end Go.Proofs.YtanikehmgcbgpacDoor
