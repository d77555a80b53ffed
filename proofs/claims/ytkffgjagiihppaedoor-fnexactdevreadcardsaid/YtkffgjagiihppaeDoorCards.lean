/-
  DERIVED. GIVEN WITH THE SEED: THE CARDS: each row of YtkffgjagiihppaeDoorRows.lean that lists a variable, with what it lists TIED to the program's text (the seventh form; the later family's looks); each row that meets fmt, with fmt's text TOLD by the authors' own Lean function (tested against real Go, not proved from fmt's source: count such statements apart). THE CARD IS WHAT COUNTS. Prove the row's statement (the work); the ties are given (YtkffgjagiihppaeDoorTie.lean); close each card by the builder's one call (the guide's Derived/Test/ToyasCard.lean, 'card_holds'). Laid BY PROGRAM, IN A SANDBOX (cutbox-door.mjs). By AI agents, Wed Nov 11 2026. No macro, syntax, notation, axiom, sorry.
-/
import Derived.Test.YtkffgjagiihppaeDoorRows
import GoSem.ClaimSeven
namespace Go.Proofs.YtkffgjagiihppaeDoor
namespace Rows

/-- THE TIED CARD OF 'laws.FnExactDevText'. -/
def fnExactDevTextCard : Claim7 := { stood := { row := fnExactDevTextRow, standIns := [], harness := (true, "921c0485add1bacc7b160364601aa95acbd55252dfabc22d72c4ee8bdb9f2e89"), looks := false }, kinds := [], alts := [], laidByText := true, laidKinds := [.data, .data, .data, .data, .data], laidTests := true, laidLooks := .later }
def FnExactDevTextCardSaid : Prop := Claim7.holds Tryd.pinned (.plain (OpenSpec.ofChange fnExactDevTextSpec)) fnExactDevTextCard

/-- THE TIED CARD OF 'laws.FnExactDevRead'. -/
def fnExactDevReadCard : Claim7 := { stood := { row := fnExactDevReadRow, standIns := [], harness := (true, "921c0485add1bacc7b160364601aa95acbd55252dfabc22d72c4ee8bdb9f2e89"), looks := false }, kinds := [], alts := [], laidByText := true, laidKinds := [.data, .data, .data, .data, .data], laidTests := true, laidLooks := .later }
def FnExactDevReadCardSaid : Prop := Claim7.holds Tryd.pinned (.plain (OpenSpec.ofChange fnExactDevReadSpec)) fnExactDevReadCard

/-- THE SECOND FORM's CARD OF 'laws.FnExactDevText'. -/
def fnExactDevTextUptoCard : Claim7 := { stood := { row := fnExactDevTextUptoRow, standIns := [], harness := (true, "921c0485add1bacc7b160364601aa95acbd55252dfabc22d72c4ee8bdb9f2e89"), looks := false }, kinds := [], alts := [], laidByText := true, laidKinds := [.data, .data, .data, .data, .data], laidTests := true, laidLooks := .later }
def FnExactDevTextUptoCardSaid : Prop := Claim7.holds Tryd.pinned (.plain (OpenSpec.upto fnExactDevTextSpec)) fnExactDevTextUptoCard

/-- THE SECOND FORM's CARD OF 'laws.FnExactDevRead'. -/
def fnExactDevReadUptoCard : Claim7 := { stood := { row := fnExactDevReadUptoRow, standIns := [], harness := (true, "921c0485add1bacc7b160364601aa95acbd55252dfabc22d72c4ee8bdb9f2e89"), looks := false }, kinds := [], alts := [], laidByText := true, laidKinds := [.data, .data, .data, .data, .data], laidTests := true, laidLooks := .later }
def FnExactDevReadUptoCardSaid : Prop := Claim7.holds Tryd.pinned (.plain (OpenSpec.upto fnExactDevReadSpec)) fnExactDevReadUptoCard
end Rows
end Go.Proofs.YtkffgjagiihppaeDoor
