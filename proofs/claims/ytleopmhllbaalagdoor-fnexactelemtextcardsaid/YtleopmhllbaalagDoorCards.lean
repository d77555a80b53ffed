/-
  DERIVED. GIVEN WITH THE SEED: THE CARDS: each row of YtleopmhllbaalagDoorRows.lean that lists a variable, with what it lists TIED to the program's text (the seventh form; the later family's looks); each row that meets fmt, with fmt's text TOLD by the authors' own Lean function (tested against real Go, not proved from fmt's source: count such statements apart). THE CARD IS WHAT COUNTS. Prove the row's statement (the work); the ties are given (YtleopmhllbaalagDoorTie.lean); close each card by the builder's one call (the guide's Derived/Test/ToyasCard.lean, 'card_holds'). Laid BY PROGRAM, IN A SANDBOX (cutbox-door.mjs). By AI agents, Wed Nov 11 2026. No macro, syntax, notation, axiom, sorry.
-/
import Derived.Test.YtleopmhllbaalagDoorRows
import GoSem.ClaimSeven
namespace Go.Proofs.YtleopmhllbaalagDoor
namespace Rows

/-- THE TIED CARD OF 'laws.FnExactElemText'. -/
def fnExactElemTextCard : Claim7 := { stood := { row := fnExactElemTextRow, standIns := [], harness := (true, "ca76659b1b26e1a1b2e5c806faa3cbf6f8d38598cf45372155922358cb1a9e14"), looks := false }, kinds := [], alts := [], laidByText := true, laidKinds := [.data, .data, .data, .data, .data, .data], laidTests := true, laidLooks := .later }
def FnExactElemTextCardSaid : Prop := Claim7.holds Tryd.pinned (.plain (OpenSpec.ofChange fnExactElemTextSpec)) fnExactElemTextCard

/-- THE SECOND FORM's CARD OF 'laws.FnExactElemText'. -/
def fnExactElemTextUptoCard : Claim7 := { stood := { row := fnExactElemTextUptoRow, standIns := [], harness := (true, "ca76659b1b26e1a1b2e5c806faa3cbf6f8d38598cf45372155922358cb1a9e14"), looks := false }, kinds := [], alts := [], laidByText := true, laidKinds := [.data, .data, .data, .data, .data, .data], laidTests := true, laidLooks := .later }
def FnExactElemTextUptoCardSaid : Prop := Claim7.holds Tryd.pinned (.plain (OpenSpec.upto fnExactElemTextSpec)) fnExactElemTextUptoCard
end Rows
end Go.Proofs.YtleopmhllbaalagDoor
