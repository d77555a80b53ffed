/-
  DERIVED. GIVEN WITH THE SEED: THE CARDS: each row of YtljhpagpohihcaaDoorRows.lean that lists a variable, with what it lists TIED to the program's text (the seventh form; the later family's looks); each row that meets fmt, with fmt's text TOLD by the authors' own Lean function (tested against real Go, not proved from fmt's source: count such statements apart). THE CARD IS WHAT COUNTS. Prove the row's statement (the work); the ties are given (YtljhpagpohihcaaDoorTie.lean); close each card by the builder's one call (the guide's Derived/Test/ToyasCard.lean, 'card_holds'). Laid BY PROGRAM, IN A SANDBOX (cutbox-door.mjs). By AI agents, Wed Nov 11 2026. No macro, syntax, notation, axiom, sorry.
-/
import Derived.Test.YtljhpagpohihcaaDoorRows
import GoSem.ClaimSeven
namespace Go.Proofs.YtljhpagpohihcaaDoor
namespace Rows

/-- THE TIED CARD OF 'laws.FnMemPut'. -/
def fnMemPutCard : Claim7 := { stood := { row := fnMemPutRow, standIns := [], harness := (true, "a446b16192fcd4a8bb217916957ed02871286df0e64748f13ee20dae3857ab11"), looks := false }, kinds := [], alts := [], laidByText := true, laidKinds := [.data], laidTests := true, laidLooks := .later }
def FnMemPutCardSaid : Prop := Claim7.holds Tryd.pinned (.plain (OpenSpec.ofChange fnMemPutSpec)) fnMemPutCard

/-- THE TIED CARD OF 'laws.FnMemPutNumber'. -/
def fnMemPutNumberCard : Claim7 := { stood := { row := fnMemPutNumberRow, standIns := [], harness := (true, "a446b16192fcd4a8bb217916957ed02871286df0e64748f13ee20dae3857ab11"), looks := false }, kinds := [], alts := [], laidByText := true, laidKinds := [.data], laidTests := true, laidLooks := .later }
def FnMemPutNumberCardSaid : Prop := Claim7.holds Tryd.pinned (.plain (OpenSpec.ofChange fnMemPutNumberSpec)) fnMemPutNumberCard

/-- THE TIED CARD OF 'laws.FnMemRound'. -/
def fnMemRoundCard : Claim7 := { stood := { row := fnMemRoundRow, standIns := [], harness := (true, "a446b16192fcd4a8bb217916957ed02871286df0e64748f13ee20dae3857ab11"), looks := false }, kinds := [], alts := [], laidByText := true, laidKinds := [.data], laidTests := true, laidLooks := .later }
def FnMemRoundCardSaid : Prop := Claim7.holds Tryd.pinned (.plain (OpenSpec.ofChange fnMemRoundSpec)) fnMemRoundCard

/-- THE TIED CARD OF 'laws.FnActStep'. -/
def fnActStepCard : Claim7 := { stood := { row := fnActStepRow, standIns := [], harness := (true, "a446b16192fcd4a8bb217916957ed02871286df0e64748f13ee20dae3857ab11"), looks := false }, kinds := [], alts := [], laidByText := true, laidKinds := [.data], laidTests := true, laidLooks := .later }
def FnActStepCardSaid : Prop := Claim7.holds Tryd.pinned (.plain (OpenSpec.ofChange fnActStepSpec)) fnActStepCard

/-- THE TIED CARD OF 'laws.FnExactMemPut'. -/
def fnExactMemPutCard : Claim7 := { stood := { row := fnExactMemPutRow, standIns := [], harness := (true, "a446b16192fcd4a8bb217916957ed02871286df0e64748f13ee20dae3857ab11"), looks := false }, kinds := [], alts := [], laidByText := true, laidKinds := [.data], laidTests := true, laidLooks := .later }
def FnExactMemPutCardSaid : Prop := Claim7.holds Tryd.pinned (.plain (OpenSpec.ofChange fnExactMemPutSpec)) fnExactMemPutCard

/-- THE TIED CARD OF 'laws.FnExactMemPutWhole'. -/
def fnExactMemPutWholeCard : Claim7 := { stood := { row := fnExactMemPutWholeRow, standIns := [], harness := (true, "a446b16192fcd4a8bb217916957ed02871286df0e64748f13ee20dae3857ab11"), looks := false }, kinds := [], alts := [], laidByText := true, laidKinds := [.data], laidTests := true, laidLooks := .later }
def FnExactMemPutWholeCardSaid : Prop := Claim7.holds Tryd.pinned (.plain (OpenSpec.ofChange fnExactMemPutWholeSpec)) fnExactMemPutWholeCard

/-- THE SECOND FORM's CARD OF 'laws.FnMemPut'. -/
def fnMemPutUptoCard : Claim7 := { stood := { row := fnMemPutUptoRow, standIns := [], harness := (true, "a446b16192fcd4a8bb217916957ed02871286df0e64748f13ee20dae3857ab11"), looks := false }, kinds := [], alts := [], laidByText := true, laidKinds := [.data], laidTests := true, laidLooks := .later }
def FnMemPutUptoCardSaid : Prop := Claim7.holds Tryd.pinned (.plain (OpenSpec.upto fnMemPutSpec)) fnMemPutUptoCard

/-- THE SECOND FORM's CARD OF 'laws.FnMemPutNumber'. -/
def fnMemPutNumberUptoCard : Claim7 := { stood := { row := fnMemPutNumberUptoRow, standIns := [], harness := (true, "a446b16192fcd4a8bb217916957ed02871286df0e64748f13ee20dae3857ab11"), looks := false }, kinds := [], alts := [], laidByText := true, laidKinds := [.data], laidTests := true, laidLooks := .later }
def FnMemPutNumberUptoCardSaid : Prop := Claim7.holds Tryd.pinned (.plain (OpenSpec.upto fnMemPutNumberSpec)) fnMemPutNumberUptoCard

/-- THE SECOND FORM's CARD OF 'laws.FnMemRound'. -/
def fnMemRoundUptoCard : Claim7 := { stood := { row := fnMemRoundUptoRow, standIns := [], harness := (true, "a446b16192fcd4a8bb217916957ed02871286df0e64748f13ee20dae3857ab11"), looks := false }, kinds := [], alts := [], laidByText := true, laidKinds := [.data], laidTests := true, laidLooks := .later }
def FnMemRoundUptoCardSaid : Prop := Claim7.holds Tryd.pinned (.plain (OpenSpec.upto fnMemRoundSpec)) fnMemRoundUptoCard

/-- THE SECOND FORM's CARD OF 'laws.FnActStep'. -/
def fnActStepUptoCard : Claim7 := { stood := { row := fnActStepUptoRow, standIns := [], harness := (true, "a446b16192fcd4a8bb217916957ed02871286df0e64748f13ee20dae3857ab11"), looks := false }, kinds := [], alts := [], laidByText := true, laidKinds := [.data], laidTests := true, laidLooks := .later }
def FnActStepUptoCardSaid : Prop := Claim7.holds Tryd.pinned (.plain (OpenSpec.upto fnActStepSpec)) fnActStepUptoCard

/-- THE SECOND FORM's CARD OF 'laws.FnExactMemPut'. -/
def fnExactMemPutUptoCard : Claim7 := { stood := { row := fnExactMemPutUptoRow, standIns := [], harness := (true, "a446b16192fcd4a8bb217916957ed02871286df0e64748f13ee20dae3857ab11"), looks := false }, kinds := [], alts := [], laidByText := true, laidKinds := [.data], laidTests := true, laidLooks := .later }
def FnExactMemPutUptoCardSaid : Prop := Claim7.holds Tryd.pinned (.plain (OpenSpec.upto fnExactMemPutSpec)) fnExactMemPutUptoCard

/-- THE SECOND FORM's CARD OF 'laws.FnExactMemPutWhole'. -/
def fnExactMemPutWholeUptoCard : Claim7 := { stood := { row := fnExactMemPutWholeUptoRow, standIns := [], harness := (true, "a446b16192fcd4a8bb217916957ed02871286df0e64748f13ee20dae3857ab11"), looks := false }, kinds := [], alts := [], laidByText := true, laidKinds := [.data], laidTests := true, laidLooks := .later }
def FnExactMemPutWholeUptoCardSaid : Prop := Claim7.holds Tryd.pinned (.plain (OpenSpec.upto fnExactMemPutWholeSpec)) fnExactMemPutWholeUptoCard
end Rows
end Go.Proofs.YtljhpagpohihcaaDoor
