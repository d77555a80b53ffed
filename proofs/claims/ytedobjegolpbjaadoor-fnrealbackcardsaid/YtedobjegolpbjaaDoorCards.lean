/-
  DERIVED. GIVEN WITH THE SEED: THE CARDS: each row of YtedobjegolpbjaaDoorRows.lean that lists a variable, with what it lists TIED to the program's text (the seventh form; the later family's looks); each row that meets fmt, with fmt's text TOLD by the authors' own Lean function (tested against real Go, not proved from fmt's source: count such statements apart). THE CARD IS WHAT COUNTS. Prove the row's statement (the work); the ties are given (YtedobjegolpbjaaDoorTie.lean); close each card by the builder's one call (the guide's Derived/Test/ToyasCard.lean, 'card_holds'). Laid BY PROGRAM, IN A SANDBOX (cutbox-door.mjs). By AI agents, Wed Nov 11 2026. No macro, syntax, notation, axiom, sorry.
-/
import Derived.Test.YtedobjegolpbjaaDoorRows
import GoSem.ClaimSeven
namespace Go.Proofs.YtedobjegolpbjaaDoor
namespace Rows

/-- THE TIED CARD OF 'laws.FnFlip'. -/
def fnFlipCard : Claim7 := { stood := { row := fnFlipRow, standIns := [], harness := (true, "3932ad08922b3884f188c77860b02e2917f8d8bed467008d0e13b5ec07f81d3a"), looks := true }, kinds := [], alts := [], laidByText := true, laidKinds := [.data], laidTests := true, laidLooks := .later }
def FnFlipCardSaid : Prop := Claim7.holds Tryd.pinned (.plain (OpenSpec.ofChange fnFlipSpec)) fnFlipCard

/-- THE TIED CARD OF 'laws.FnRealBack'. -/
def fnRealBackCard : Claim7 := { stood := { row := fnRealBackRow, standIns := [], harness := (true, "3932ad08922b3884f188c77860b02e2917f8d8bed467008d0e13b5ec07f81d3a"), looks := true }, kinds := [], alts := [], laidByText := true, laidKinds := [.data, .data, .data, .sentinel, .sentinel], laidTests := true, laidLooks := .later }
def FnRealBackCardSaid : Prop := Claim7.holds Tryd.pinned (.plain (OpenSpec.ofChange fnRealBackSpec)) fnRealBackCard

/-- THE SECOND FORM's CARD OF 'laws.FnFlip'. -/
def fnFlipUptoCard : Claim7 := { stood := { row := fnFlipUptoRow, standIns := [], harness := (true, "3932ad08922b3884f188c77860b02e2917f8d8bed467008d0e13b5ec07f81d3a"), looks := true }, kinds := [], alts := [], laidByText := true, laidKinds := [.data], laidTests := true, laidLooks := .later }
def FnFlipUptoCardSaid : Prop := Claim7.holds Tryd.pinned (.plain (OpenSpec.upto fnFlipSpec)) fnFlipUptoCard

/-- THE SECOND FORM's CARD OF 'laws.FnRealBack'. -/
def fnRealBackUptoCard : Claim7 := { stood := { row := fnRealBackUptoRow, standIns := [], harness := (true, "3932ad08922b3884f188c77860b02e2917f8d8bed467008d0e13b5ec07f81d3a"), looks := true }, kinds := [], alts := [], laidByText := true, laidKinds := [.data, .data, .data, .sentinel, .sentinel], laidTests := true, laidLooks := .later }
def FnRealBackUptoCardSaid : Prop := Claim7.holds Tryd.pinned (.plain (OpenSpec.upto fnRealBackSpec)) fnRealBackUptoCard
end Rows
end Go.Proofs.YtedobjegolpbjaaDoor
