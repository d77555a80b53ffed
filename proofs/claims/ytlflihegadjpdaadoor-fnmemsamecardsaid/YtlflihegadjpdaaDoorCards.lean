/-
  DERIVED. GIVEN WITH THE SEED: THE CARDS: each row of YtlflihegadjpdaaDoorRows.lean that lists a variable, with what it lists TIED to the program's text (the seventh form; the later family's looks); each row that meets fmt, with fmt's text TOLD by the authors' own Lean function (tested against real Go, not proved from fmt's source: count such statements apart). THE CARD IS WHAT COUNTS. Prove the row's statement (the work); the ties are given (YtlflihegadjpdaaDoorTie.lean); close each card by the builder's one call (the guide's Derived/Test/ToyasCard.lean, 'card_holds'). Laid BY PROGRAM, IN A SANDBOX (cutbox-door.mjs). By AI agents, Wed Nov 11 2026. No macro, syntax, notation, axiom, sorry.
-/
import Derived.Test.YtlflihegadjpdaaDoorRows
import GoSem.ClaimSeven
namespace Go.Proofs.YtlflihegadjpdaaDoor
namespace Rows

/-- THE TIED CARD OF 'laws.FnMemSame'. -/
def fnMemSameCard : Claim7 := { stood := { row := fnMemSameRow, standIns := [], harness := (true, "4a5e831859b11c532c0942b169a14295601c532ca3aa3ba52d6e8281ef3f847a"), looks := false }, kinds := [], alts := [], laidByText := true, laidKinds := [.data, .data, .data, .data, .data], laidTests := true, laidLooks := .later }
def FnMemSameCardSaid : Prop := Claim7.holds Tryd.pinned (.plain (OpenSpec.ofChange fnMemSameSpec)) fnMemSameCard

/-- THE TIED CARD OF 'laws.FnExactMemText'. -/
def fnExactMemTextCard : Claim7 := { stood := { row := fnExactMemTextRow, standIns := [], harness := (true, "4a5e831859b11c532c0942b169a14295601c532ca3aa3ba52d6e8281ef3f847a"), looks := false }, kinds := [], alts := [], laidByText := true, laidKinds := [.data, .data, .data, .data, .data], laidTests := true, laidLooks := .later }
def FnExactMemTextCardSaid : Prop := Claim7.holds Tryd.pinned (.plain (OpenSpec.ofChange fnExactMemTextSpec)) fnExactMemTextCard

/-- THE SECOND FORM's CARD OF 'laws.FnMemSame'. -/
def fnMemSameUptoCard : Claim7 := { stood := { row := fnMemSameUptoRow, standIns := [], harness := (true, "4a5e831859b11c532c0942b169a14295601c532ca3aa3ba52d6e8281ef3f847a"), looks := false }, kinds := [], alts := [], laidByText := true, laidKinds := [.data, .data, .data, .data, .data], laidTests := true, laidLooks := .later }
def FnMemSameUptoCardSaid : Prop := Claim7.holds Tryd.pinned (.plain (OpenSpec.upto fnMemSameSpec)) fnMemSameUptoCard

/-- THE SECOND FORM's CARD OF 'laws.FnExactMemText'. -/
def fnExactMemTextUptoCard : Claim7 := { stood := { row := fnExactMemTextUptoRow, standIns := [], harness := (true, "4a5e831859b11c532c0942b169a14295601c532ca3aa3ba52d6e8281ef3f847a"), looks := false }, kinds := [], alts := [], laidByText := true, laidKinds := [.data, .data, .data, .data, .data], laidTests := true, laidLooks := .later }
def FnExactMemTextUptoCardSaid : Prop := Claim7.holds Tryd.pinned (.plain (OpenSpec.upto fnExactMemTextSpec)) fnExactMemTextUptoCard
end Rows
end Go.Proofs.YtlflihegadjpdaaDoor
