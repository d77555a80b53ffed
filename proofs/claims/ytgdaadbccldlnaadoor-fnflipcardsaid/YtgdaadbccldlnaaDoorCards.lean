/-
  DERIVED. GIVEN WITH THE SEED: THE CARDS: each row of YtgdaadbccldlnaaDoorRows.lean that lists a variable, with what it lists TIED to the program's text (the seventh form; the later family's looks); each row that meets fmt, with fmt's text TOLD by the authors' own Lean function (tested against real Go, not proved from fmt's source: count such statements apart). THE CARD IS WHAT COUNTS. Prove the row's statement (the work); the ties are given (YtgdaadbccldlnaaDoorTie.lean); close each card by the builder's one call (the guide's Derived/Test/ToyasCard.lean, 'card_holds'). Laid BY PROGRAM, IN A SANDBOX (cutbox-door.mjs). By AI agents, Wed Nov 11 2026. No macro, syntax, notation, axiom, sorry.
-/
import Derived.Test.YtgdaadbccldlnaaDoorRows
import GoSem.ClaimSeven
namespace Go.Proofs.YtgdaadbccldlnaaDoor
namespace Rows

/-- THE TIED CARD OF 'laws.FnDevBack'. -/
def fnDevBackCard : Claim7 := { stood := { row := fnDevBackRow, standIns := [], harness := (true, "51f30345727491f6a0e1741f13eb5e3731b733971d65ff3583d5b8892666043a"), looks := true }, kinds := [], alts := [], laidByText := true, laidKinds := [.data, .data, .data, .data, .data], laidTests := true, laidLooks := .later }
def FnDevBackCardSaid : Prop := Claim7.holds Tryd.pinned (.plain (OpenSpec.ofChange fnDevBackSpec)) fnDevBackCard

/-- THE TIED CARD OF 'laws.FnDevKinds'. -/
def fnDevKindsCard : Claim7 := { stood := { row := fnDevKindsRow, standIns := [], harness := (true, "51f30345727491f6a0e1741f13eb5e3731b733971d65ff3583d5b8892666043a"), looks := true }, kinds := [], alts := [], laidByText := true, laidKinds := [.data], laidTests := true, laidLooks := .later }
def FnDevKindsCardSaid : Prop := Claim7.holds Tryd.pinned (.plain (OpenSpec.ofChange fnDevKindsSpec)) fnDevKindsCard

/-- THE TIED CARD OF 'laws.FnFlip'. -/
def fnFlipCard : Claim7 := { stood := { row := fnFlipRow, standIns := [], harness := (true, "51f30345727491f6a0e1741f13eb5e3731b733971d65ff3583d5b8892666043a"), looks := true }, kinds := [], alts := [], laidByText := true, laidKinds := [.data], laidTests := true, laidLooks := .later }
def FnFlipCardSaid : Prop := Claim7.holds Tryd.pinned (.plain (OpenSpec.ofChange fnFlipSpec)) fnFlipCard

/-- THE TIED CARD OF 'laws.FnSwap'. -/
def fnSwapCard : Claim7 := { stood := { row := fnSwapRow, standIns := [], harness := (true, "51f30345727491f6a0e1741f13eb5e3731b733971d65ff3583d5b8892666043a"), looks := true }, kinds := [], alts := [], laidByText := true, laidKinds := [.data], laidTests := true, laidLooks := .later }
def FnSwapCardSaid : Prop := Claim7.holds Tryd.pinned (.plain (OpenSpec.ofChange fnSwapSpec)) fnSwapCard

/-- THE TIED CARD OF 'laws.FnRealBack'. -/
def fnRealBackCard : Claim7 := { stood := { row := fnRealBackRow, standIns := [], harness := (true, "51f30345727491f6a0e1741f13eb5e3731b733971d65ff3583d5b8892666043a"), looks := true }, kinds := [], alts := [], laidByText := true, laidKinds := [.data, .data, .data, .sentinel, .sentinel], laidTests := true, laidLooks := .later }
def FnRealBackCardSaid : Prop := Claim7.holds Tryd.pinned (.plain (OpenSpec.ofChange fnRealBackSpec)) fnRealBackCard

/-- THE SECOND FORM's CARD OF 'laws.FnDevBack'. -/
def fnDevBackUptoCard : Claim7 := { stood := { row := fnDevBackUptoRow, standIns := [], harness := (true, "51f30345727491f6a0e1741f13eb5e3731b733971d65ff3583d5b8892666043a"), looks := true }, kinds := [], alts := [], laidByText := true, laidKinds := [.data, .data, .data, .data, .data], laidTests := true, laidLooks := .later }
def FnDevBackUptoCardSaid : Prop := Claim7.holds Tryd.pinned (.plain (OpenSpec.upto fnDevBackSpec)) fnDevBackUptoCard

/-- THE SECOND FORM's CARD OF 'laws.FnDevKinds'. -/
def fnDevKindsUptoCard : Claim7 := { stood := { row := fnDevKindsUptoRow, standIns := [], harness := (true, "51f30345727491f6a0e1741f13eb5e3731b733971d65ff3583d5b8892666043a"), looks := true }, kinds := [], alts := [], laidByText := true, laidKinds := [.data], laidTests := true, laidLooks := .later }
def FnDevKindsUptoCardSaid : Prop := Claim7.holds Tryd.pinned (.plain (OpenSpec.upto fnDevKindsSpec)) fnDevKindsUptoCard

/-- THE SECOND FORM's CARD OF 'laws.FnFlip'. -/
def fnFlipUptoCard : Claim7 := { stood := { row := fnFlipUptoRow, standIns := [], harness := (true, "51f30345727491f6a0e1741f13eb5e3731b733971d65ff3583d5b8892666043a"), looks := true }, kinds := [], alts := [], laidByText := true, laidKinds := [.data], laidTests := true, laidLooks := .later }
def FnFlipUptoCardSaid : Prop := Claim7.holds Tryd.pinned (.plain (OpenSpec.upto fnFlipSpec)) fnFlipUptoCard

/-- THE SECOND FORM's CARD OF 'laws.FnSwap'. -/
def fnSwapUptoCard : Claim7 := { stood := { row := fnSwapUptoRow, standIns := [], harness := (true, "51f30345727491f6a0e1741f13eb5e3731b733971d65ff3583d5b8892666043a"), looks := true }, kinds := [], alts := [], laidByText := true, laidKinds := [.data], laidTests := true, laidLooks := .later }
def FnSwapUptoCardSaid : Prop := Claim7.holds Tryd.pinned (.plain (OpenSpec.upto fnSwapSpec)) fnSwapUptoCard

/-- THE SECOND FORM's CARD OF 'laws.FnRealBack'. -/
def fnRealBackUptoCard : Claim7 := { stood := { row := fnRealBackUptoRow, standIns := [], harness := (true, "51f30345727491f6a0e1741f13eb5e3731b733971d65ff3583d5b8892666043a"), looks := true }, kinds := [], alts := [], laidByText := true, laidKinds := [.data, .data, .data, .sentinel, .sentinel], laidTests := true, laidLooks := .later }
def FnRealBackUptoCardSaid : Prop := Claim7.holds Tryd.pinned (.plain (OpenSpec.upto fnRealBackSpec)) fnRealBackUptoCard
end Rows
end Go.Proofs.YtgdaadbccldlnaaDoor
