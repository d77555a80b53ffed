/-
  DERIVED. GIVEN WITH THE SEED: THE CARDS: each row of YtljhpagpohihcabDoorRows.lean that lists a variable, with what it lists TIED to the program's text (the seventh form; the later family's looks); each row that meets fmt, with fmt's text TOLD by the authors' own Lean function (tested against real Go, not proved from fmt's source: count such statements apart). THE CARD IS WHAT COUNTS. Prove the row's statement (the work); the ties are given (YtljhpagpohihcabDoorTie.lean); close each card by the builder's one call (the guide's Derived/Test/ToyasCard.lean, 'card_holds'). Laid BY PROGRAM, IN A SANDBOX (cutbox-door.mjs). By AI agents, Wed Nov 11 2026. No macro, syntax, notation, axiom, sorry.
-/
import Derived.Test.YtljhpagpohihcabDoorRows
import GoSem.ClaimSeven
namespace Go.Proofs.YtljhpagpohihcabDoor
namespace Rows

/-- THE TIED CARD OF 'laws.FnExactMemReal'. -/
def fnExactMemRealCard : Claim7 := { stood := { row := fnExactMemRealRow, standIns := [], harness := (true, "c8742efeaf6294867aa54a57bb5814d8f042d851c020b0503b8360da8c77e257"), looks := false }, kinds := [], alts := [], laidByText := true, laidKinds := [.data], laidTests := true, laidLooks := .later }
def FnExactMemRealCardSaid : Prop := Claim7.holds Tryd.pinned (.plain (OpenSpec.ofChange fnExactMemRealSpec)) fnExactMemRealCard

/-- THE TIED CARD OF 'laws.FnExactMemPutReal'. -/
def fnExactMemPutRealCard : Claim7 := { stood := { row := fnExactMemPutRealRow, standIns := [], harness := (true, "c8742efeaf6294867aa54a57bb5814d8f042d851c020b0503b8360da8c77e257"), looks := false }, kinds := [], alts := [], laidByText := true, laidKinds := [.data], laidTests := true, laidLooks := .later }
def FnExactMemPutRealCardSaid : Prop := Claim7.holds Tryd.pinned (.plain (OpenSpec.ofChange fnExactMemPutRealSpec)) fnExactMemPutRealCard

/-- THE SECOND FORM's CARD OF 'laws.FnExactMemReal'. -/
def fnExactMemRealUptoCard : Claim7 := { stood := { row := fnExactMemRealUptoRow, standIns := [], harness := (true, "c8742efeaf6294867aa54a57bb5814d8f042d851c020b0503b8360da8c77e257"), looks := false }, kinds := [], alts := [], laidByText := true, laidKinds := [.data], laidTests := true, laidLooks := .later }
def FnExactMemRealUptoCardSaid : Prop := Claim7.holds Tryd.pinned (.plain (OpenSpec.upto fnExactMemRealSpec)) fnExactMemRealUptoCard

/-- THE SECOND FORM's CARD OF 'laws.FnExactMemPutReal'. -/
def fnExactMemPutRealUptoCard : Claim7 := { stood := { row := fnExactMemPutRealUptoRow, standIns := [], harness := (true, "c8742efeaf6294867aa54a57bb5814d8f042d851c020b0503b8360da8c77e257"), looks := false }, kinds := [], alts := [], laidByText := true, laidKinds := [.data], laidTests := true, laidLooks := .later }
def FnExactMemPutRealUptoCardSaid : Prop := Claim7.holds Tryd.pinned (.plain (OpenSpec.upto fnExactMemPutRealSpec)) fnExactMemPutRealUptoCard
end Rows
end Go.Proofs.YtljhpagpohihcabDoor
