/-
  DERIVED. GIVEN WITH THE SEED: THE CARDS: each row of YtceepaboaoffkabDoorRows.lean that lists a variable, with what it lists TIED to the program's text (the seventh form; the later family's looks); each row that meets fmt, with fmt's text TOLD by the authors' own Lean function (tested against real Go, not proved from fmt's source: count such statements apart). THE CARD IS WHAT COUNTS. Prove the row's statement (the work); the ties are given (YtceepaboaoffkabDoorTie.lean); close each card by the builder's one call (the guide's Derived/Test/ToyasCard.lean, 'card_holds'). Laid BY PROGRAM, IN A SANDBOX (cutbox-door.mjs). By AI agents, Wed Nov 11 2026. No macro, syntax, notation, axiom, sorry.
-/
import Derived.Test.YtceepaboaoffkabDoorRows
import GoSem.ClaimSeven
namespace Go.Proofs.YtceepaboaoffkabDoor
namespace Rows

/-- THE TIED CARD OF 'laws.FnExactRealArg'. -/
def fnExactRealArgCard : Claim7 := { stood := { row := fnExactRealArgRow, standIns := [], harness := (true, "615dfac758eb50e633db1f94f7ef86876d1949e557ddda05fe042ec385067198"), looks := true }, kinds := [], alts := [], laidByText := true, laidKinds := [.data], laidTests := true, laidLooks := .later }
def FnExactRealArgCardSaid : Prop := Claim7.holds Tryd.pinned (.plain (OpenSpec.ofChange fnExactRealArgSpec)) fnExactRealArgCard

/-- THE TIED CARD OF 'laws.FnExactRealText'. -/
def fnExactRealTextCard : Claim7 := { stood := { row := fnExactRealTextRow, standIns := [], harness := (true, "615dfac758eb50e633db1f94f7ef86876d1949e557ddda05fe042ec385067198"), looks := true }, kinds := [], alts := [], laidByText := true, laidKinds := [.data, .data, .data], laidTests := true, laidLooks := .later }
def FnExactRealTextCardSaid : Prop := Claim7.holds Tryd.pinned (.plain (OpenSpec.ofChange fnExactRealTextSpec)) fnExactRealTextCard

/-- THE TIED CARD OF 'laws.FnExactRealRead'. -/
def fnExactRealReadCard : Claim7 := { stood := { row := fnExactRealReadRow, standIns := [], harness := (true, "615dfac758eb50e633db1f94f7ef86876d1949e557ddda05fe042ec385067198"), looks := true }, kinds := [], alts := [], laidByText := true, laidKinds := [.data, .data, .data, .sentinel, .sentinel], laidTests := true, laidLooks := .later }
def FnExactRealReadCardSaid : Prop := Claim7.holds Tryd.pinned (.plain (OpenSpec.ofChange fnExactRealReadSpec)) fnExactRealReadCard

/-- THE SECOND FORM's CARD OF 'laws.FnExactRealArg'. -/
def fnExactRealArgUptoCard : Claim7 := { stood := { row := fnExactRealArgUptoRow, standIns := [], harness := (true, "615dfac758eb50e633db1f94f7ef86876d1949e557ddda05fe042ec385067198"), looks := true }, kinds := [], alts := [], laidByText := true, laidKinds := [.data], laidTests := true, laidLooks := .later }
def FnExactRealArgUptoCardSaid : Prop := Claim7.holds Tryd.pinned (.plain (OpenSpec.upto fnExactRealArgSpec)) fnExactRealArgUptoCard

/-- THE SECOND FORM's CARD OF 'laws.FnExactRealText'. -/
def fnExactRealTextUptoCard : Claim7 := { stood := { row := fnExactRealTextUptoRow, standIns := [], harness := (true, "615dfac758eb50e633db1f94f7ef86876d1949e557ddda05fe042ec385067198"), looks := true }, kinds := [], alts := [], laidByText := true, laidKinds := [.data, .data, .data], laidTests := true, laidLooks := .later }
def FnExactRealTextUptoCardSaid : Prop := Claim7.holds Tryd.pinned (.plain (OpenSpec.upto fnExactRealTextSpec)) fnExactRealTextUptoCard

/-- THE SECOND FORM's CARD OF 'laws.FnExactRealRead'. -/
def fnExactRealReadUptoCard : Claim7 := { stood := { row := fnExactRealReadUptoRow, standIns := [], harness := (true, "615dfac758eb50e633db1f94f7ef86876d1949e557ddda05fe042ec385067198"), looks := true }, kinds := [], alts := [], laidByText := true, laidKinds := [.data, .data, .data, .sentinel, .sentinel], laidTests := true, laidLooks := .later }
def FnExactRealReadUptoCardSaid : Prop := Claim7.holds Tryd.pinned (.plain (OpenSpec.upto fnExactRealReadSpec)) fnExactRealReadUptoCard
end Rows
end Go.Proofs.YtceepaboaoffkabDoor
