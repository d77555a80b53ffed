/-
  DERIVED. GIVEN WITH THE SEED: THE CARDS: each row of YtmgjngihngddfaaGreatDoorRows.lean that lists a variable, with what it lists TIED to the program's text (the seventh form; the later family's looks); each row that meets fmt, with fmt's text TOLD by the authors' own Lean function (tested against real Go, not proved from fmt's source: count such statements apart). THE CARD IS WHAT COUNTS. Prove the row's statement (the work); the ties are given (YtmgjngihngddfaaGreatDoorTie.lean); close each card by the builder's one call (the guide's Derived/Test/ToyasCard.lean, 'card_holds'). Laid BY PROGRAM, IN A SANDBOX (cutbox-door.mjs). By AI agents, Wed Nov 11 2026. No macro, syntax, notation, axiom, sorry.
-/
import Derived.Test.YtmgjngihngddfaaGreatDoorRows
import GoSem.ClaimSeven
namespace Go.Proofs.YtmgjngihngddfaaGreatDoor
namespace Rows

/-- THE TIED CARD OF 'laws.FnActShut'. -/
def fnActShutCard : Claim7 := { stood := { row := fnActShutRow, standIns := [], harness := (true, "c420f95c7900e471d74deb5af3fabaafcec8ed10f06b6eb2bf8f5f8f06acb3da"), looks := false }, kinds := [], alts := [], laidByText := true, laidKinds := [.data], laidTests := true, laidLooks := .later }
def FnActShutCardSaid : Prop := Claim7.holds Tryz.pinned (.plain (OpenSpec.ofChange fnActShutSpec)) fnActShutCard

/-- THE SECOND FORM's CARD OF 'laws.FnActShut'. -/
def fnActShutUptoCard : Claim7 := { stood := { row := fnActShutUptoRow, standIns := [], harness := (true, "c420f95c7900e471d74deb5af3fabaafcec8ed10f06b6eb2bf8f5f8f06acb3da"), looks := false }, kinds := [], alts := [], laidByText := true, laidKinds := [.data], laidTests := true, laidLooks := .later }
def FnActShutUptoCardSaid : Prop := Claim7.holds Tryz.pinned (.plain (OpenSpec.upto fnActShutSpec)) fnActShutUptoCard
end Rows
end Go.Proofs.YtmgjngihngddfaaGreatDoor
