/-
  DERIVED. GIVEN WITH THE SEED: THE CARDS: each row of YtkffgjagiihppaaDoorRows.lean that lists a variable, with what it lists TIED to the program's text (the seventh form; the later family's looks); each row that meets fmt, with fmt's text TOLD by the authors' own Lean function (tested against real Go, not proved from fmt's source: count such statements apart). THE CARD IS WHAT COUNTS. Prove the row's statement (the work); the ties are given (YtkffgjagiihppaaDoorTie.lean); close each card by the builder's one call (the guide's Derived/Test/ToyasCard.lean, 'card_holds'). Laid BY PROGRAM, IN A SANDBOX (cutbox-door.mjs). By AI agents, Wed Nov 11 2026. No macro, syntax, notation, axiom, sorry.
-/
import Derived.Test.YtkffgjagiihppaaDoorRows
import GoSem.ClaimSeven
namespace Go.Proofs.YtkffgjagiihppaaDoor
namespace Rows

/-- THE TIED CARD OF 'laws.FnDevBack'. -/
def fnDevBackCard : Claim7 := { stood := { row := fnDevBackRow, standIns := [], harness := (true, "fdd341065bbcbf8d75e80f627c88ad8089491c08f6f0d060685552ed97fe3829"), looks := false }, kinds := [], alts := [], laidByText := true, laidKinds := [.data, .data, .data, .data, .data], laidTests := true, laidLooks := .later }
def FnDevBackCardSaid : Prop := Claim7.holds Tryd.pinned (.plain (OpenSpec.ofChange fnDevBackSpec)) fnDevBackCard

/-- THE TIED CARD OF 'laws.FnDevKinds'. -/
def fnDevKindsCard : Claim7 := { stood := { row := fnDevKindsRow, standIns := [], harness := (true, "fdd341065bbcbf8d75e80f627c88ad8089491c08f6f0d060685552ed97fe3829"), looks := false }, kinds := [], alts := [], laidByText := true, laidKinds := [.data], laidTests := true, laidLooks := .later }
def FnDevKindsCardSaid : Prop := Claim7.holds Tryd.pinned (.plain (OpenSpec.ofChange fnDevKindsSpec)) fnDevKindsCard

/-- THE SECOND FORM's CARD OF 'laws.FnDevBack'. -/
def fnDevBackUptoCard : Claim7 := { stood := { row := fnDevBackUptoRow, standIns := [], harness := (true, "fdd341065bbcbf8d75e80f627c88ad8089491c08f6f0d060685552ed97fe3829"), looks := false }, kinds := [], alts := [], laidByText := true, laidKinds := [.data, .data, .data, .data, .data], laidTests := true, laidLooks := .later }
def FnDevBackUptoCardSaid : Prop := Claim7.holds Tryd.pinned (.plain (OpenSpec.upto fnDevBackSpec)) fnDevBackUptoCard

/-- THE SECOND FORM's CARD OF 'laws.FnDevKinds'. -/
def fnDevKindsUptoCard : Claim7 := { stood := { row := fnDevKindsUptoRow, standIns := [], harness := (true, "fdd341065bbcbf8d75e80f627c88ad8089491c08f6f0d060685552ed97fe3829"), looks := false }, kinds := [], alts := [], laidByText := true, laidKinds := [.data], laidTests := true, laidLooks := .later }
def FnDevKindsUptoCardSaid : Prop := Claim7.holds Tryd.pinned (.plain (OpenSpec.upto fnDevKindsSpec)) fnDevKindsUptoCard
end Rows
end Go.Proofs.YtkffgjagiihppaaDoor
