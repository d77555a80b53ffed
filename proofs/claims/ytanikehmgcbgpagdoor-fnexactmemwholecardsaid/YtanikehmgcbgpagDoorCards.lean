/-
  DERIVED. GIVEN WITH THE SEED: THE CARDS: each row of YtanikehmgcbgpagDoorRows.lean that lists a variable, with what it lists TIED to the program's text (the seventh form; the later family's looks); each row that meets fmt, with fmt's text TOLD by the authors' own Lean function (tested against real Go, not proved from fmt's source: count such statements apart). THE CARD IS WHAT COUNTS. Prove the row's statement (the work); the ties are given (YtanikehmgcbgpagDoorTie.lean); close each card by the builder's one call (the guide's Derived/Test/ToyasCard.lean, 'card_holds'). Laid BY PROGRAM, IN A SANDBOX (cutbox-door.mjs). By AI agents, Wed Nov 11 2026. No macro, syntax, notation, axiom, sorry.
-/
import Derived.Test.YtanikehmgcbgpagDoorRows
import GoSem.ClaimSeven
namespace Go.Proofs.YtanikehmgcbgpagDoor
namespace Rows

/-- THE TIED CARD OF 'laws.FnExactElemText'. -/
def fnExactElemTextCard : Claim7 := { stood := { row := fnExactElemTextRow, standIns := [], harness := (true, "c36e477b06b7dbca96c383d2834cd4c1b0e6f75ff2ce0a83ed378a9cb8d01a74"), looks := false }, kinds := [], alts := [], laidByText := true, laidKinds := [.data, .data, .data, .data, .data, .data], laidTests := true, laidLooks := .later }
def FnExactElemTextCardSaid : Prop := Claim7.holds Tryd.pinned (.plain (OpenSpec.ofChange fnExactElemTextSpec)) fnExactElemTextCard

/-- THE TIED CARD OF 'laws.FnExactMemBit'. -/
def fnExactMemBitCard : Claim7 := { stood := { row := fnExactMemBitRow, standIns := [], harness := (true, "c36e477b06b7dbca96c383d2834cd4c1b0e6f75ff2ce0a83ed378a9cb8d01a74"), looks := false }, kinds := [], alts := [], laidByText := true, laidKinds := [.data], laidTests := true, laidLooks := .later }
def FnExactMemBitCardSaid : Prop := Claim7.holds Tryd.pinned (.plain (OpenSpec.ofChange fnExactMemBitSpec)) fnExactMemBitCard

/-- THE TIED CARD OF 'laws.FnExactMemPut'. -/
def fnExactMemPutCard : Claim7 := { stood := { row := fnExactMemPutRow, standIns := [], harness := (true, "c36e477b06b7dbca96c383d2834cd4c1b0e6f75ff2ce0a83ed378a9cb8d01a74"), looks := false }, kinds := [], alts := [], laidByText := true, laidKinds := [.data], laidTests := true, laidLooks := .later }
def FnExactMemPutCardSaid : Prop := Claim7.holds Tryd.pinned (.plain (OpenSpec.ofChange fnExactMemPutSpec)) fnExactMemPutCard

/-- THE TIED CARD OF 'laws.FnExactMemWhole'. -/
def fnExactMemWholeCard : Claim7 := { stood := { row := fnExactMemWholeRow, standIns := [], harness := (true, "c36e477b06b7dbca96c383d2834cd4c1b0e6f75ff2ce0a83ed378a9cb8d01a74"), looks := false }, kinds := [], alts := [], laidByText := true, laidKinds := [.data], laidTests := true, laidLooks := .later }
def FnExactMemWholeCardSaid : Prop := Claim7.holds Tryd.pinned (.plain (OpenSpec.ofChange fnExactMemWholeSpec)) fnExactMemWholeCard

/-- THE SECOND FORM's CARD OF 'laws.FnExactElemText'. -/
def fnExactElemTextUptoCard : Claim7 := { stood := { row := fnExactElemTextUptoRow, standIns := [], harness := (true, "c36e477b06b7dbca96c383d2834cd4c1b0e6f75ff2ce0a83ed378a9cb8d01a74"), looks := false }, kinds := [], alts := [], laidByText := true, laidKinds := [.data, .data, .data, .data, .data, .data], laidTests := true, laidLooks := .later }
def FnExactElemTextUptoCardSaid : Prop := Claim7.holds Tryd.pinned (.plain (OpenSpec.upto fnExactElemTextSpec)) fnExactElemTextUptoCard

/-- THE SECOND FORM's CARD OF 'laws.FnExactMemBit'. -/
def fnExactMemBitUptoCard : Claim7 := { stood := { row := fnExactMemBitUptoRow, standIns := [], harness := (true, "c36e477b06b7dbca96c383d2834cd4c1b0e6f75ff2ce0a83ed378a9cb8d01a74"), looks := false }, kinds := [], alts := [], laidByText := true, laidKinds := [.data], laidTests := true, laidLooks := .later }
def FnExactMemBitUptoCardSaid : Prop := Claim7.holds Tryd.pinned (.plain (OpenSpec.upto fnExactMemBitSpec)) fnExactMemBitUptoCard

/-- THE SECOND FORM's CARD OF 'laws.FnExactMemPut'. -/
def fnExactMemPutUptoCard : Claim7 := { stood := { row := fnExactMemPutUptoRow, standIns := [], harness := (true, "c36e477b06b7dbca96c383d2834cd4c1b0e6f75ff2ce0a83ed378a9cb8d01a74"), looks := false }, kinds := [], alts := [], laidByText := true, laidKinds := [.data], laidTests := true, laidLooks := .later }
def FnExactMemPutUptoCardSaid : Prop := Claim7.holds Tryd.pinned (.plain (OpenSpec.upto fnExactMemPutSpec)) fnExactMemPutUptoCard

/-- THE SECOND FORM's CARD OF 'laws.FnExactMemWhole'. -/
def fnExactMemWholeUptoCard : Claim7 := { stood := { row := fnExactMemWholeUptoRow, standIns := [], harness := (true, "c36e477b06b7dbca96c383d2834cd4c1b0e6f75ff2ce0a83ed378a9cb8d01a74"), looks := false }, kinds := [], alts := [], laidByText := true, laidKinds := [.data], laidTests := true, laidLooks := .later }
def FnExactMemWholeUptoCardSaid : Prop := Claim7.holds Tryd.pinned (.plain (OpenSpec.upto fnExactMemWholeSpec)) fnExactMemWholeUptoCard
end Rows
end Go.Proofs.YtanikehmgcbgpagDoor
