/-
  DERIVED. GIVEN WITH THE SEED: THE CARDS: each row of YtafepkialkojbaaDoorRows.lean that lists a variable, with what it lists TIED to the program's text (the seventh form; the later family's looks); each row that meets fmt, with fmt's text TOLD by the authors' own Lean function (tested against real Go, not proved from fmt's source: count such statements apart). THE CARD IS WHAT COUNTS. Prove the row's statement (the work); the ties are given (YtafepkialkojbaaDoorTie.lean); close each card by the builder's one call (the guide's Derived/Test/ToyasCard.lean, 'card_holds'). Laid BY PROGRAM, IN A SANDBOX (cutbox-door.mjs). By AI agents, Wed Nov 11 2026. No macro, syntax, notation, axiom, sorry.
-/
import Derived.Test.YtafepkialkojbaaDoorRows
import GoSem.ClaimSeven
namespace Go.Proofs.YtafepkialkojbaaDoor
namespace Rows

/-- THE TIED CARD OF 'laws.FnMemPut'. -/
def fnMemPutCard : Claim7 := { stood := { row := fnMemPutRow, standIns := [], harness := (true, "d072924f3ed219527f458f0b6ebe04bce89bb628becbda664311eb0ae12940c7"), looks := false }, kinds := [], alts := [], laidByText := true, laidKinds := [.data], laidTests := true, laidLooks := .later }
def FnMemPutCardSaid : Prop := Claim7.holds Tryd.pinned (.plain (OpenSpec.ofChange fnMemPutSpec)) fnMemPutCard

/-- THE TIED CARD OF 'laws.FnMemPutNumber'. -/
def fnMemPutNumberCard : Claim7 := { stood := { row := fnMemPutNumberRow, standIns := [], harness := (true, "d072924f3ed219527f458f0b6ebe04bce89bb628becbda664311eb0ae12940c7"), looks := false }, kinds := [], alts := [], laidByText := true, laidKinds := [.data], laidTests := true, laidLooks := .later }
def FnMemPutNumberCardSaid : Prop := Claim7.holds Tryd.pinned (.plain (OpenSpec.ofChange fnMemPutNumberSpec)) fnMemPutNumberCard

/-- THE TIED CARD OF 'laws.FnActStep'. -/
def fnActStepCard : Claim7 := { stood := { row := fnActStepRow, standIns := [], harness := (true, "d072924f3ed219527f458f0b6ebe04bce89bb628becbda664311eb0ae12940c7"), looks := false }, kinds := [], alts := [], laidByText := true, laidKinds := [.data], laidTests := true, laidLooks := .later }
def FnActStepCardSaid : Prop := Claim7.holds Tryd.pinned (.plain (OpenSpec.ofChange fnActStepSpec)) fnActStepCard

/-- THE SECOND FORM's CARD OF 'laws.FnMemPut'. -/
def fnMemPutUptoCard : Claim7 := { stood := { row := fnMemPutUptoRow, standIns := [], harness := (true, "d072924f3ed219527f458f0b6ebe04bce89bb628becbda664311eb0ae12940c7"), looks := false }, kinds := [], alts := [], laidByText := true, laidKinds := [.data], laidTests := true, laidLooks := .later }
def FnMemPutUptoCardSaid : Prop := Claim7.holds Tryd.pinned (.plain (OpenSpec.upto fnMemPutSpec)) fnMemPutUptoCard

/-- THE SECOND FORM's CARD OF 'laws.FnMemPutNumber'. -/
def fnMemPutNumberUptoCard : Claim7 := { stood := { row := fnMemPutNumberUptoRow, standIns := [], harness := (true, "d072924f3ed219527f458f0b6ebe04bce89bb628becbda664311eb0ae12940c7"), looks := false }, kinds := [], alts := [], laidByText := true, laidKinds := [.data], laidTests := true, laidLooks := .later }
def FnMemPutNumberUptoCardSaid : Prop := Claim7.holds Tryd.pinned (.plain (OpenSpec.upto fnMemPutNumberSpec)) fnMemPutNumberUptoCard

/-- THE SECOND FORM's CARD OF 'laws.FnActStep'. -/
def fnActStepUptoCard : Claim7 := { stood := { row := fnActStepUptoRow, standIns := [], harness := (true, "d072924f3ed219527f458f0b6ebe04bce89bb628becbda664311eb0ae12940c7"), looks := false }, kinds := [], alts := [], laidByText := true, laidKinds := [.data], laidTests := true, laidLooks := .later }
def FnActStepUptoCardSaid : Prop := Claim7.holds Tryd.pinned (.plain (OpenSpec.upto fnActStepSpec)) fnActStepUptoCard
end Rows
end Go.Proofs.YtafepkialkojbaaDoor
