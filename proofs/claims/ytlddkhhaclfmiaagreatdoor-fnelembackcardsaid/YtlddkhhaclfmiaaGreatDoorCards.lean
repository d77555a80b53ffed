/-
  DERIVED. GIVEN WITH THE SEED: THE CARDS: each row of YtlddkhhaclfmiaaGreatDoorRows.lean that lists a variable, with what it lists TIED to the program's text (the seventh form; the later family's looks); each row that meets fmt, with fmt's text TOLD by the authors' own Lean function (tested against real Go, not proved from fmt's source: count such statements apart). THE CARD IS WHAT COUNTS. Prove the row's statement (the work); the ties are given (YtlddkhhaclfmiaaGreatDoorTie.lean); close each card by the builder's one call (the guide's Derived/Test/ToyasCard.lean, 'card_holds'). Laid BY PROGRAM, IN A SANDBOX (cutbox-door.mjs). By AI agents, Wed Nov 11 2026. No macro, syntax, notation, axiom, sorry.
-/
import Derived.Test.YtlddkhhaclfmiaaGreatDoorRows
import GoSem.ClaimSeven
namespace Go.Proofs.YtlddkhhaclfmiaaGreatDoor
namespace Rows

/-- THE TIED CARD OF 'laws.FnElemBack'. -/
def fnElemBackCard : Claim7 := { stood := { row := fnElemBackRow, standIns := [], harness := (true, "91c5681c9f11d2aa529384c12910c7d43788664f5203acb1aa5234d7889680f8"), looks := true }, kinds := [], alts := [], laidByText := true, laidKinds := [.data, .data, .data, .data, .handle, .data, .data, .data, .pinned], laidTests := true, laidLooks := .later }
def FnElemBackCardSaid : Prop := Claim7.holds Tryz.pinned (.plain (OpenSpec.ofChange fnElemBackSpec)) fnElemBackCard

/-- THE TIED CARD OF 'laws.FnExactElemRead'. -/
def fnExactElemReadCard : Claim7 := { stood := { row := fnExactElemReadRow, standIns := [], harness := (true, "91c5681c9f11d2aa529384c12910c7d43788664f5203acb1aa5234d7889680f8"), looks := true }, kinds := [], alts := [], laidByText := true, laidKinds := [.data, .data, .data, .data, .handle, .data, .data, .data, .pinned], laidTests := true, laidLooks := .later }
def FnExactElemReadCardSaid : Prop := Claim7.holds Tryz.pinned (.plain (OpenSpec.ofChange fnExactElemReadSpec)) fnExactElemReadCard

/-- THE SECOND FORM's CARD OF 'laws.FnElemBack'. -/
def fnElemBackUptoCard : Claim7 := { stood := { row := fnElemBackUptoRow, standIns := [], harness := (true, "91c5681c9f11d2aa529384c12910c7d43788664f5203acb1aa5234d7889680f8"), looks := true }, kinds := [], alts := [], laidByText := true, laidKinds := [.data, .data, .data, .data, .handle, .data, .data, .data, .pinned], laidTests := true, laidLooks := .later }
def FnElemBackUptoCardSaid : Prop := Claim7.holds Tryz.pinned (.plain (OpenSpec.upto fnElemBackSpec)) fnElemBackUptoCard

/-- THE SECOND FORM's CARD OF 'laws.FnExactElemRead'. -/
def fnExactElemReadUptoCard : Claim7 := { stood := { row := fnExactElemReadUptoRow, standIns := [], harness := (true, "91c5681c9f11d2aa529384c12910c7d43788664f5203acb1aa5234d7889680f8"), looks := true }, kinds := [], alts := [], laidByText := true, laidKinds := [.data, .data, .data, .data, .handle, .data, .data, .data, .pinned], laidTests := true, laidLooks := .later }
def FnExactElemReadUptoCardSaid : Prop := Claim7.holds Tryz.pinned (.plain (OpenSpec.upto fnExactElemReadSpec)) fnExactElemReadUptoCard
end Rows
end Go.Proofs.YtlddkhhaclfmiaaGreatDoor
