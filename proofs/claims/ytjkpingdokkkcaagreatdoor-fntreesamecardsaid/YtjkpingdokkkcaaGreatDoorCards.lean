/-
  DERIVED. GIVEN WITH THE SEED: THE CARDS: each row of YtjkpingdokkkcaaGreatDoorRows.lean that lists a variable, with what it lists TIED to the program's text (the seventh form; the later family's looks); each row that meets fmt, with fmt's text TOLD by the authors' own Lean function (tested against real Go, not proved from fmt's source: count such statements apart). THE CARD IS WHAT COUNTS. Prove the row's statement (the work); the ties are given (YtjkpingdokkkcaaGreatDoorTie.lean); close each card by the builder's one call (the guide's Derived/Test/ToyasCard.lean, 'card_holds'). Laid BY PROGRAM, IN A SANDBOX (cutbox-door.mjs). By AI agents, Wed Nov 11 2026. No macro, syntax, notation, axiom, sorry.
-/
import Derived.Test.YtjkpingdokkkcaaGreatDoorRows
import GoSem.ClaimSeven
namespace Go.Proofs.YtjkpingdokkkcaaGreatDoor
namespace Rows

/-- THE TIED CARD OF 'laws.FnTreeSame'. -/
def fnTreeSameCard : Claim7 := { stood := { row := fnTreeSameRow, standIns := [], harness := (true, "14d22e58948ca674162df6e8e3a0b7f0abf97eb6d95b5474c35567d58622118d"), looks := true }, kinds := [], alts := [], laidByText := true, laidKinds := [.handle], laidTests := true, laidLooks := .later }
def FnTreeSameCardSaid : Prop := Claim7.holds Tryz.pinned (.plain (OpenSpec.ofChange fnTreeSameSpec)) fnTreeSameCard

/-- THE SECOND FORM's CARD OF 'laws.FnTreeSame'. -/
def fnTreeSameUptoCard : Claim7 := { stood := { row := fnTreeSameUptoRow, standIns := [], harness := (true, "14d22e58948ca674162df6e8e3a0b7f0abf97eb6d95b5474c35567d58622118d"), looks := true }, kinds := [], alts := [], laidByText := true, laidKinds := [.handle], laidTests := true, laidLooks := .later }
def FnTreeSameUptoCardSaid : Prop := Claim7.holds Tryz.pinned (.plain (OpenSpec.upto fnTreeSameSpec)) fnTreeSameUptoCard
end Rows
end Go.Proofs.YtjkpingdokkkcaaGreatDoor
