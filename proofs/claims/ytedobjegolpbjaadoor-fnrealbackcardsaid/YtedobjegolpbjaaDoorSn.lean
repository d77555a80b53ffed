/- Decimal numerals: the library's Itoa, and the document's own. Helper text: no statement is claimed here. -/
import Derived.Test.YtedobjegolpbjaaDoorRows
import Derived.WalkKit
import Derived.ProofKit
import Derived.OpenShut
import Derived.Below
import Derived.WalkSmall
import Derived.BigQuiet
import Derived.Test.YtedobjegolpbjaaDoorShelf
import Derived.Test.YtedobjegolpbjaaDoorSi
import Derived.Lib.LaidTab
import Derived.Lib.ItoaLen
namespace Go.Proofs.YtedobjegolpbjaaDoor
open Go.ChangeShapes Go.WideShapes Go.ChangeAt Go.RowKit

/-- The library's table of powers of ten reads as its initialiser lays it. -/
def PowTab (w : World) : Prop := Lib.TabIs Tryd.prog w (Rows.fnRealBackRow.named.getD 0 "") .u64 Lib.pow10Tab
theorem gPow : Tryd.prog.globalNamed (Rows.fnRealBackRow.named.getD 0 "") = some 2 := by kernel_rfl
theorem PowTab.lt {w : World} (h : PowTab w) : 2 < w.heap.size :=
  World.block_lt_of_cell? w ⟨2, 0, none⟩ (Lib.TabIs.cell h gPow 0 (by decide))
theorem PowTab.to {w w' : World} (h : PowTab w) (hb : Below w.heap.size w w') : PowTab w' := by
  have hlt := h.lt
  unfold PowTab Lib.TabIs World.var? at *
  rw [gPow] at *
  simp only [Option.bind_some] at *
  rw [hb.block _ hlt]; exact h
theorem PowTab.alloc {w : World} (h : PowTab w) (o : Obj) : PowTab (w.alloc o) := h.to ((Below.refl _ _).alloc (Nat.le_refl _) o)

theorem below_grow (w : World) (k : Nat) (os : Array Obj) : Below w.heap.size w (Sort.grow (w.drewN k) os) :=
  ⟨rfl, rfl, rfl, by simp [Sort.grow], fun i hi => by
    have h : i < (w.drewN k).heap.size := hi
    simp only [Sort.grow]
    rw [Array.getElem?_append_left h]; rfl⟩

theorem itoa_any (n : Int) (w : World) (h0 : -9223372036854775808 ≤ n) (h1 : n ≤ 9223372036854775807) (hP : PowTab w) :
    Calls Tryd.prog 50 #[.int .i64 n] w fun e w' => e = .returned (.string ⟨(Lib.itoa n).toArray⟩) ∧ Below w.heap.size w w' :=
  (Any.strconv_Itoa Tryd.laysM171 n h0 h1 w hP).mono fun _ _ ⟨he, k, os, hw⟩ => ⟨he, by rw [hw]; exact below_grow w k os⟩
end Go.Proofs.YtedobjegolpbjaaDoor
