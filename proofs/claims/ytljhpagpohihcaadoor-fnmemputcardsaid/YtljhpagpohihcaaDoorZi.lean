/- A memory that is drawn, in a region that draws its order. Helper text: no statement is claimed here. -/
import Derived.Test.YtljhpagpohihcaaDoorZb
import Derived.Test.YtljhpagpohihcaaDoorJz
import Derived.Test.YtljhpagpohihcaaDoorOa
namespace Go.Proofs.YtljhpagpohihcaaDoor
open Go.ChangeShapes Go.WideShapes Go.ChangeAt Go.RowKit

theorem Rd.drewZ {w : World} {rb m : Nat} (h : Rd w rb m) : Rd w.drew rb m := h.to (Below.refl _ _).drew
theorem Step.drewZ (rb : Nat) (w : World) : Step rb w w.drew := .of (Below.refl _ _).drew
theorem runMem {W : World} {b : Nat} {m : Mm} (h : MemAt W b m) : (loadVar 37 ⟨b, 0, none⟩).run Tryd.prog W = .ok m.val W := by
  have := run_loadVar_mid (P := Tryd.prog) W b 0 37 m.cells.toList _ h.range Tryd.underlying37 rfl (by rw [Array.length_toList, cells_size]; kernel_rfl)
  rwa [Array.toArray_toList] at this
theorem Own.byBlock {w w2 : World} {b : Nat} {x y z : Value} (h : Own w b x y z) (e : w2.heap[b]? = w.heap[b]?) : Own w2 b x y z := by
  unfold Own
  rw [World.cell?_of_block (w := w) (a := ⟨b, 0, none⟩) e, World.cell?_of_block (w := w) (a := ⟨b, 1, none⟩) e, World.cell?_of_block (w := w) (a := ⟨b, 2, none⟩) e, World.frozen?_of_block (w := w) (a := ⟨b, 0, none⟩) e, World.frozen?_of_block (w := w) (a := ⟨b, 1, none⟩) e, World.frozen?_of_block (w := w) (a := ⟨b, 2, none⟩) e]
  exact h
theorem wp_callDrawn {o : Oper} {a : Act} {w : World} {K : Act → World → Prop} {Q : Exit → Act → World → Prop} {f : FuncId} {xs : Array Operand} {ts : Array TypeId} {rb m : Nat} (hf : ∀ (xs : Array Value) (w : World), (callFunc f xs).run Tryd.prog w = .ok (.enter f xs) w) (ho : o.op = .call { callee := .value (.func f), args := xs, argTypes := ts })
    {args : Array Value} (ha : xs.map a.eval = args) (hC : Calls Tryd.prog f args w (DrawnM rb m w)) (hk : ∀ mm w', Mm.Ok mm → Rd w' rb m → Step rb w w' → K (a.put o.dst mm.val) w') : o.wp Tryd.prog a w K Q := by
  subst ha
  have he : (execOp a.eval o).run Tryd.prog w = .ok (.enter f (xs.map a.eval)) w := by
    unfold execOp
    rw [ho]
    simp [go_sem, resolve, hf]
  unfold Oper.wp
  rw [he, Oper.upon_enter]
  refine hC.mono ?_
  rintro e w' ⟨mm, rfl, h1, h2, h3⟩
  exact hk mm w' h1 h2 h3
theorem wp_storeMemK {o : Oper} {a : Act} {w : World} {K : Act → World → Prop} {Q : Exit → Act → World → Prop} {b : Nat} {m : Mm} (x y : Operand) (ho : o.op = .store 37 x y) (hx : a.eval x = .pointer (some ⟨b, 0, none⟩)) (hy : a.eval y = m.val) {f : Nat → Value} (hR : RowAt w b 37 136 f)
    (hk : ∀ w2, MemAt w2 b m → w2.heap.size = w.heap.size → (∀ j, j ≠ b → w2.heap[j]? = w.heap[j]?) → (w2.os = w.os ∧ w2.tape = w.tape ∧ w2.output = w.output) → K (a.put o.dst undef) w2) : o.wp Tryd.prog a w K Q := by
  obtain ⟨w2, hs, hR2, hz2, hk2, hb2⟩ := hR.store 0 136 m.cell m.cell (by omega) (fun i _ => cell_one m i) (fun i hi => by rw [if_pos ⟨by omega, by omega⟩, Nat.sub_zero])
  have hv : (storeVar 37 ⟨b, 0, none⟩ m.val).run Tryd.prog w = .ok () w2 := storeVar_row (by kernel_rfl) hs
  unfold Oper.wp execOp
  rw [ho]
  simp only [hx, hy, Instr.storeAt, Instr.sureAddr, Sem.run_bind, Sem.run_pure, Result.andThen_ok, hv]
  exact hk w2 hR2 hz2 hk2 (same_of hb2)
end Go.Proofs.YtljhpagpohihcaaDoor
