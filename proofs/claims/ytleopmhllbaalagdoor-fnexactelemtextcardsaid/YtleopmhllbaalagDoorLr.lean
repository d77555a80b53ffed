/- A contact or coil in memory of the call's own. Helper text: no statement is claimed here. -/
import Derived.Test.YtleopmhllbaalagDoorLd
import Derived.Test.YtleopmhllbaalagDoorOa
namespace Go.Proofs.YtleopmhllbaalagDoor
open Go.ChangeShapes Go.WideShapes Go.ChangeAt Go.RowKit

theorem resElem {fn : Func} {W : World} {b p : Nat} {tmps : Array Value} {x y : Value} (h : fn.results = #[.cell p 29]) (hp : tmps.getD p undef = .pointer (some ⟨b, 0, none⟩))
    (hc : W.cell? ⟨b, 0, none⟩ = some x ∧ W.cell? ⟨b, 1, none⟩ = some y) : (results fn tmps).run Tryd.prog W = .ok (.agg #[x, y]) W := by
  obtain ⟨h0, h1⟩ := hc
  simp only [results, h]
  simp [go_sem]
  rw [show tmps[p]?.getD undef = .pointer (some ⟨b, 0, none⟩) by simpa [Array.getD_eq_getD_getElem?] using hp]
  simp [go_sem, h0, h1]
theorem put2 {w1 : World} {b : Nat} {x y u0 u1 : Value} (hc : w1.cell? ⟨b, 0, none⟩ = some u0 ∧ w1.cell? ⟨b, 1, none⟩ = some u1) :
    ((w1.setCell ⟨b, 0, none⟩ x).setCell ⟨b, 1, none⟩ y).cell? ⟨b, 0, none⟩ = some x ∧ ((w1.setCell ⟨b, 0, none⟩ x).setCell ⟨b, 1, none⟩ y).cell? ⟨b, 1, none⟩ = some y := by
  obtain ⟨h0, h1⟩ := hc
  have e1 : (w1.setCell ⟨b, 0, none⟩ x).cell? ⟨b, 1, none⟩ = some u1 := by rw [World.cell?_setCell_other _ _ _ _ (by simp)]; exact h1
  refine ⟨?_, World.cell?_setCell_same _ _ _ e1⟩
  rw [World.cell?_setCell_other _ _ _ _ (by simp)]; exact World.cell?_setCell_same _ _ _ h0
/-- An Elem of the call's own lies in block b. -/
def Own2 (w : World) (b : Nat) (x y : Value) : Prop := (w.cell? ⟨b, 0, none⟩ = some x ∧ w.cell? ⟨b, 1, none⟩ = some y) ∧ w.frozen? ⟨b, 0, none⟩ = false ∧ w.frozen? ⟨b, 1, none⟩ = false
theorem Own2.new (w : World) (x y : Value) : Own2 (w.alloc (.cells #[x, y] 29)) w.heap.size x y := by
  refine ⟨⟨?_, ?_⟩, ?_, ?_⟩ <;> simp [go_sem]
theorem Own2.lt {w : World} {b : Nat} {x y : Value} (h : Own2 w b x y) : b < w.heap.size := World.block_lt_of_cell? w ⟨b, 0, none⟩ h.1.1
theorem Own2.below {w w' : World} {b : Nat} {x y : Value} (h : Own2 w b x y) (hb : Below w.heap.size w w') : Own2 w' b x y := by
  have hlt := h.lt
  unfold Own2
  rw [hb.cell (p := ⟨b, 0, none⟩) hlt, hb.cell (p := ⟨b, 1, none⟩) hlt, hb.frozen (p := ⟨b, 0, none⟩) hlt, hb.frozen (p := ⟨b, 1, none⟩) hlt]
  exact h
theorem Own2.alloc {b : Nat} {w : World} {x y : Value} (h : Own2 w b x y) (o : Obj) : Own2 (w.alloc o) b x y := h.below (one w o)
theorem Own2.put {w : World} {b : Nat} {x y : Value} (h : Own2 w b x y) (x' y' : Value) : Own2 ((w.setCell ⟨b, 0, none⟩ x').setCell ⟨b, 1, none⟩ y') b x' y' :=
  ⟨put2 h.1, by rw [World.frozen?_setCell, World.frozen?_setCell]; exact h.2.1, by rw [World.frozen?_setCell, World.frozen?_setCell]; exact h.2.2⟩
theorem Own2.set {w : World} {b c i : Nat} {x y v : Value} (h : Own2 w b x y) (hc : c ≠ b) : Own2 (w.setCell ⟨c, i, none⟩ v) b x y := by
  unfold Own2
  rw [World.cell?_setCell_other w ⟨c, i, none⟩ ⟨b, 0, none⟩ _ (by simp <;> omega), World.cell?_setCell_other w ⟨c, i, none⟩ ⟨b, 1, none⟩ _ (by simp <;> omega), World.frozen?_setCell, World.frozen?_setCell]
  exact h

/-- The cells of operands in a row. -/
def arCells (ys : List Ar) : List Value := ys.flatMap fun a => [.int .i64 a.1, .int .i64 a.2.1, .int .i64 a.2.2]
theorem arCells_at : ∀ (ys : List Ar) (i : Nat), i < ys.length → (arCells ys)[i * 3]? = some (.int .i64 (at3 ys i).1) ∧ (arCells ys)[i * 3 + 1]? = some (.int .i64 (at3 ys i).2.1) ∧ (arCells ys)[i * 3 + 2]? = some (.int .i64 (at3 ys i).2.2)
  | [], i, h => by simp at h
  | a :: l, 0, _ => by simp [arCells, at3]
  | a :: l, i + 1, h => by
    have ih := arCells_at l i (by simpa using h)
    rw [show (i + 1) * 3 = i * 3 + 1 + 1 + 1 by omega]
    simpa [arCells, at3] using ih
theorem arCells_len (ys : List Ar) : (arCells ys).length = ys.length * 3 := by
  induction ys with
  | nil => rfl
  | cons a l ih => simp only [arCells, List.flatMap_cons, List.length_append, List.length_cons, List.length_nil] at ih ⊢; omega
theorem argsAt_new (w : World) (ys : List Ar) (t : TypeId) : ArgsAt (w.alloc (.cells (arCells ys).toArray t)) w.heap.size ys := fun i hi => by
  obtain ⟨a, b, c⟩ := arCells_at ys i hi
  refine ⟨?_, ?_, ?_⟩ <;> rw [World.cell?_alloc_mark] <;> simpa
theorem ArgsAt.set {w : World} {b c i : Nat} {v : Value} {ys : List Ar} (h : ArgsAt w b ys) (hc : c ≠ b) : ArgsAt (w.setCell ⟨c, i, none⟩ v) b ys := fun j hj => by
  rw [World.cell?_setCell_other w ⟨c, i, none⟩ ⟨b, _, none⟩ _ (by simp <;> omega), World.cell?_setCell_other w ⟨c, i, none⟩ ⟨b, _, none⟩ _ (by simp <;> omega), World.cell?_setCell_other w ⟨c, i, none⟩ ⟨b, _, none⟩ _ (by simp <;> omega)]
  exact h j hj
theorem Own.set1 {w : World} {b : Nat} {x y z : Value} (h : Own w b x y z) (v : Value) : Own (w.setCell ⟨b, 1, none⟩ v) b x v z := by
  unfold Own
  rw [World.cell?_setCell_other w ⟨b, 1, none⟩ ⟨b, 0, none⟩ _ (by simp), World.cell?_setCell_other w ⟨b, 1, none⟩ ⟨b, 2, none⟩ _ (by simp), World.cell?_setCell_same w ⟨b, 1, none⟩ _ h.1.2.1, World.frozen?_setCell, World.frozen?_setCell, World.frozen?_setCell]
  exact ⟨⟨h.1.1, rfl, h.1.2.2⟩, h.2⟩
end Go.Proofs.YtleopmhllbaalagDoor
