/-
  DERIVED. GIVEN WITH THE SEED: THE CARDS: each row of YtleopmhllbaalafDoorRows.lean that lists a variable, with what it lists TIED to the program's text (the seventh form; the later family's looks); each row that meets fmt, with fmt's text TOLD by the authors' own Lean function (tested against real Go, not proved from fmt's source: count such statements apart). THE CARD IS WHAT COUNTS. Prove the row's statement (the work); the ties are given (YtleopmhllbaalafDoorTie.lean); close each card by the builder's one call (the guide's Derived/Test/ToyasCard.lean, 'card_holds'). Laid BY PROGRAM, IN A SANDBOX (cutbox-door.mjs). By AI agents, Wed Nov 11 2026. No macro, syntax, notation, axiom, sorry.
-/
import Derived.Test.YtleopmhllbaalafDoorRows
import GoSem.ClaimSeven
namespace Go.Proofs.YtleopmhllbaalafDoor
namespace Rows

/-- THE TIED CARD OF 'laws.FnExactRealArg'. -/
def fnExactRealArgCard : Claim7 := { stood := { row := fnExactRealArgRow, standIns := [], harness := (true, "03add7cb0bb9253559d9d695c2be7aeeff4d0d1c5ebd6c61aff9e034ccd7f3fe"), looks := true }, kinds := [], alts := [], laidByText := true, laidKinds := [.data], laidTests := true, laidLooks := .later }
def FnExactRealArgCardSaid : Prop := Claim7.holds Tryd.pinned (.plain (OpenSpec.ofChange fnExactRealArgSpec)) fnExactRealArgCard

/-- THE TIED CARD OF 'laws.FnExactRealText'. -/
def fnExactRealTextCard : Claim7 := { stood := { row := fnExactRealTextRow, standIns := [], harness := (true, "03add7cb0bb9253559d9d695c2be7aeeff4d0d1c5ebd6c61aff9e034ccd7f3fe"), looks := true }, kinds := [], alts := [], laidByText := true, laidKinds := [.data, .data, .data], laidTests := true, laidLooks := .later }
def FnExactRealTextCardSaid : Prop := Claim7.holds Tryd.pinned (.plain (OpenSpec.ofChange fnExactRealTextSpec)) fnExactRealTextCard

/-- THE TIED CARD OF 'laws.FnExactRealRead'. -/
def fnExactRealReadCard : Claim7 := { stood := { row := fnExactRealReadRow, standIns := [], harness := (true, "03add7cb0bb9253559d9d695c2be7aeeff4d0d1c5ebd6c61aff9e034ccd7f3fe"), looks := true }, kinds := [], alts := [], laidByText := true, laidKinds := [.data, .data, .data, .sentinel, .sentinel], laidTests := true, laidLooks := .later }
def FnExactRealReadCardSaid : Prop := Claim7.holds Tryd.pinned (.plain (OpenSpec.ofChange fnExactRealReadSpec)) fnExactRealReadCard

/-- THE TIED CARD OF 'laws.FnExactElemIsCoil'. -/
def fnExactElemIsCoilCard : Claim7 := { stood := { row := fnExactElemIsCoilRow, standIns := [], harness := (true, "03add7cb0bb9253559d9d695c2be7aeeff4d0d1c5ebd6c61aff9e034ccd7f3fe"), looks := true }, kinds := [], alts := [], laidByText := true, laidKinds := [.data], laidTests := true, laidLooks := .later }
def FnExactElemIsCoilCardSaid : Prop := Claim7.holds Tryd.pinned (.plain (OpenSpec.ofChange fnExactElemIsCoilSpec)) fnExactElemIsCoilCard

/-- THE SECOND FORM's CARD OF 'laws.FnExactRealArg'. -/
def fnExactRealArgUptoCard : Claim7 := { stood := { row := fnExactRealArgUptoRow, standIns := [], harness := (true, "03add7cb0bb9253559d9d695c2be7aeeff4d0d1c5ebd6c61aff9e034ccd7f3fe"), looks := true }, kinds := [], alts := [], laidByText := true, laidKinds := [.data], laidTests := true, laidLooks := .later }
def FnExactRealArgUptoCardSaid : Prop := Claim7.holds Tryd.pinned (.plain (OpenSpec.upto fnExactRealArgSpec)) fnExactRealArgUptoCard

/-- THE SECOND FORM's CARD OF 'laws.FnExactRealText'. -/
def fnExactRealTextUptoCard : Claim7 := { stood := { row := fnExactRealTextUptoRow, standIns := [], harness := (true, "03add7cb0bb9253559d9d695c2be7aeeff4d0d1c5ebd6c61aff9e034ccd7f3fe"), looks := true }, kinds := [], alts := [], laidByText := true, laidKinds := [.data, .data, .data], laidTests := true, laidLooks := .later }
def FnExactRealTextUptoCardSaid : Prop := Claim7.holds Tryd.pinned (.plain (OpenSpec.upto fnExactRealTextSpec)) fnExactRealTextUptoCard

/-- THE SECOND FORM's CARD OF 'laws.FnExactRealRead'. -/
def fnExactRealReadUptoCard : Claim7 := { stood := { row := fnExactRealReadUptoRow, standIns := [], harness := (true, "03add7cb0bb9253559d9d695c2be7aeeff4d0d1c5ebd6c61aff9e034ccd7f3fe"), looks := true }, kinds := [], alts := [], laidByText := true, laidKinds := [.data, .data, .data, .sentinel, .sentinel], laidTests := true, laidLooks := .later }
def FnExactRealReadUptoCardSaid : Prop := Claim7.holds Tryd.pinned (.plain (OpenSpec.upto fnExactRealReadSpec)) fnExactRealReadUptoCard

/-- THE SECOND FORM's CARD OF 'laws.FnExactElemIsCoil'. -/
def fnExactElemIsCoilUptoCard : Claim7 := { stood := { row := fnExactElemIsCoilUptoRow, standIns := [], harness := (true, "03add7cb0bb9253559d9d695c2be7aeeff4d0d1c5ebd6c61aff9e034ccd7f3fe"), looks := true }, kinds := [], alts := [], laidByText := true, laidKinds := [.data], laidTests := true, laidLooks := .later }
def FnExactElemIsCoilUptoCardSaid : Prop := Claim7.holds Tryd.pinned (.plain (OpenSpec.upto fnExactElemIsCoilSpec)) fnExactElemIsCoilUptoCard
end Rows
end Go.Proofs.YtleopmhllbaalafDoor
