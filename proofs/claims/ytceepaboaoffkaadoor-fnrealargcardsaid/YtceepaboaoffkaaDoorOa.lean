/- An operand in memory of the call's own. Helper text: no statement is claimed here. -/
import Derived.Test.YtceepaboaoffkaaDoorDc
namespace Go.Proofs.YtceepaboaoffkaaDoor
open Go.ChangeShapes Go.WideShapes Go.ChangeAt Go.RowKit

/-- A result of type DevArg that lies in memory. -/
theorem resArg {fn : Func} {W : World} {b p : Nat} {tmps : Array Value} {x y z : Value} (h : fn.results = #[.cell p 41]) (hp : tmps.getD p undef = .pointer (some ⟨b, 0, none⟩))
    (hc : W.cell? ⟨b, 0, none⟩ = some x ∧ W.cell? ⟨b, 1, none⟩ = some y ∧ W.cell? ⟨b, 2, none⟩ = some z) : (results fn tmps).run Tryd.prog W = .ok (.agg #[x, y, z]) W := by
  obtain ⟨h0, h1, h2⟩ := hc
  simp only [results, h]
  simp [go_sem]
  rw [show tmps[p]?.getD undef = .pointer (some ⟨b, 0, none⟩) by simpa [Array.getD_eq_getD_getElem?] using hp]
  simp [go_sem, h0, h1, h2]
theorem put3 {w1 : World} {b : Nat} {x y z u0 u1 u2 : Value} (hc : w1.cell? ⟨b, 0, none⟩ = some u0 ∧ w1.cell? ⟨b, 1, none⟩ = some u1 ∧ w1.cell? ⟨b, 2, none⟩ = some u2) :
    (((w1.setCell ⟨b, 0, none⟩ x).setCell ⟨b, 1, none⟩ y).setCell ⟨b, 2, none⟩ z).cell? ⟨b, 0, none⟩ = some x ∧ (((w1.setCell ⟨b, 0, none⟩ x).setCell ⟨b, 1, none⟩ y).setCell ⟨b, 2, none⟩ z).cell? ⟨b, 1, none⟩ = some y ∧ (((w1.setCell ⟨b, 0, none⟩ x).setCell ⟨b, 1, none⟩ y).setCell ⟨b, 2, none⟩ z).cell? ⟨b, 2, none⟩ = some z := by
  obtain ⟨h0, h1, h2⟩ := hc
  have e1 : (w1.setCell ⟨b, 0, none⟩ x).cell? ⟨b, 1, none⟩ = some u1 := by rw [World.cell?_setCell_other _ _ _ _ (by simp)]; exact h1
  have e2 : ((w1.setCell ⟨b, 0, none⟩ x).setCell ⟨b, 1, none⟩ y).cell? ⟨b, 2, none⟩ = some u2 := by rw [World.cell?_setCell_other _ _ _ _ (by simp), World.cell?_setCell_other _ _ _ _ (by simp)]; exact h2
  refine ⟨?_, ?_, World.cell?_setCell_same _ _ _ e2⟩
  · rw [World.cell?_setCell_other _ _ _ _ (by simp), World.cell?_setCell_other _ _ _ _ (by simp)]; exact World.cell?_setCell_same _ _ _ h0
  · rw [World.cell?_setCell_other _ _ _ _ (by simp)]; exact World.cell?_setCell_same _ _ _ e1
/-- A DevArg of the call's own lies in block b. -/
def Own (w : World) (b : Nat) (x y z : Value) : Prop :=
  (w.cell? ⟨b, 0, none⟩ = some x ∧ w.cell? ⟨b, 1, none⟩ = some y ∧ w.cell? ⟨b, 2, none⟩ = some z) ∧ w.frozen? ⟨b, 0, none⟩ = false ∧ w.frozen? ⟨b, 1, none⟩ = false ∧ w.frozen? ⟨b, 2, none⟩ = false
theorem Own.new (w : World) (x y z : Value) : Own (w.alloc (.cells #[x, y, z] 41)) w.heap.size x y z := by
  refine ⟨⟨?_, ?_, ?_⟩, ?_, ?_, ?_⟩ <;> simp [go_sem]
theorem Own.lt {w : World} {b : Nat} {x y z : Value} (h : Own w b x y z) : b < w.heap.size := World.block_lt_of_cell? w ⟨b, 0, none⟩ h.1.1
theorem Own.below {w w' : World} {b : Nat} {x y z : Value} (h : Own w b x y z) (hb : Below w.heap.size w w') : Own w' b x y z := by
  have hlt := h.lt
  unfold Own
  rw [hb.cell (p := ⟨b, 0, none⟩) hlt, hb.cell (p := ⟨b, 1, none⟩) hlt, hb.cell (p := ⟨b, 2, none⟩) hlt, hb.frozen (p := ⟨b, 0, none⟩) hlt, hb.frozen (p := ⟨b, 1, none⟩) hlt, hb.frozen (p := ⟨b, 2, none⟩) hlt]
  exact h
theorem Own.alloc {b : Nat} {w : World} {x y z : Value} (h : Own w b x y z) (o : Obj) : Own (w.alloc o) b x y z := h.below (one w o)
theorem Own.put {w : World} {b : Nat} {x y z : Value} (h : Own w b x y z) (x' y' z' : Value) : Own (((w.setCell ⟨b, 0, none⟩ x').setCell ⟨b, 1, none⟩ y').setCell ⟨b, 2, none⟩ z') b x' y' z' :=
  ⟨put3 h.1, by rw [World.frozen?_setCell, World.frozen?_setCell, World.frozen?_setCell]; exact h.2.1, by rw [World.frozen?_setCell, World.frozen?_setCell, World.frozen?_setCell]; exact h.2.2.1, by rw [World.frozen?_setCell, World.frozen?_setCell, World.frozen?_setCell]; exact h.2.2.2⟩
theorem Own.set {w : World} {b c i : Nat} {x y z v : Value} (h : Own w b x y z) (hc : c ≠ b) : Own (w.setCell ⟨c, i, none⟩ v) b x y z := by
  unfold Own
  rw [World.cell?_setCell_other w ⟨c, i, none⟩ ⟨b, 0, none⟩ _ (by simp <;> omega), World.cell?_setCell_other w ⟨c, i, none⟩ ⟨b, 1, none⟩ _ (by simp <;> omega), World.cell?_setCell_other w ⟨c, i, none⟩ ⟨b, 2, none⟩ _ (by simp <;> omega), World.frozen?_setCell, World.frozen?_setCell, World.frozen?_setCell]
  exact h
end Go.Proofs.YtceepaboaoffkaaDoor
