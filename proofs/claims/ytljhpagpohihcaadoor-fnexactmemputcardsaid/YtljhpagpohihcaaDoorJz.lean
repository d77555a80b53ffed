/- Steps of a walk at calls and at whole memories. Helper text: no statement is claimed here. -/
import Derived.Test.YtljhpagpohihcaaDoorJb
import Derived.Deep.RegionHeld3
namespace Go.Proofs.YtljhpagpohihcaaDoor
open Go.ChangeShapes Go.WideShapes Go.ChangeAt Go.RowKit

theorem RowAt.range {w : World} {b n : Nat} {t : TypeId} {f : Nat → Value} (h : RowAt w b t n f) : w.rangeAt b 0 (cellsOf n f).toList := fun j v hv => by
  have hj : j < n := by
    have := (List.getElem?_eq_some_iff.1 hv).1
    simpa [cellsOf_size] using this
  rw [Nat.zero_add, h.cell hj]
  rw [Array.getElem?_toList, cellsOf_at _ hj] at hv
  exact hv
/-- A call of a function of the program, whatever it is called with. -/
theorem wp_callGo {o : Oper} {a : Act} {w : World} {K : Act → World → Prop} {Q : Exit → Act → World → Prop} {f : FuncId} {xs : Array Operand} {ts : Array TypeId} {v : Value} {R : World → Prop} (hf : ∀ (xs : Array Value) (w : World), (callFunc f xs).run Tryd.prog w = .ok (.enter f xs) w) (ho : o.op = .call { callee := .value (.func f), args := xs, argTypes := ts })
    {args : Array Value} (ha : xs.map a.eval = args) (hC : Calls Tryd.prog f args w fun e w' => e = .returned v ∧ R w') (hk : ∀ w', R w' → K (a.put o.dst v) w') : o.wp Tryd.prog a w K Q := by
  subst ha
  have he : (execOp a.eval o).run Tryd.prog w = .ok (.enter f (xs.map a.eval)) w := by
    unfold execOp
    rw [ho]
    simp [go_sem, resolve, hf]
  unfold Oper.wp
  rw [he, Oper.upon_enter]
  refine hC.mono ?_
  rintro e w' ⟨rfl, h⟩
  exact hk w' h
theorem wp_allocMem {o : Oper} {a : Act} {w : World} {K : Act → World → Prop} {Q : Exit → Act → World → Prop} (ho : o.op = .alloc 37) (hz : ∀ w, (zeroValue 37).run Tryd.prog w = .ok (.agg zeroM.cells) w)
    (hk : K (a.put o.dst (.pointer (some ⟨w.heap.size, 0, none⟩))) (w.alloc (.cells zeroM.cells 37))) : o.wp Tryd.prog a w K Q := by
  unfold Oper.wp execOp
  rw [ho]
  simp [go_sem, hz]
  exact hk
theorem storeVar_row {w w2 : World} {ty : TypeId} {b o k : Nat} {g : Nat → Value} (hi : (Tryd.prog.info? ty).map (·.size) = some k) (hs : (storeCells ⟨b, o, none⟩ (cellsOf k g).toList 0).run Tryd.prog w = .ok () w2) :
    (storeVar ty ⟨b, o, none⟩ (.agg (cellsOf k g))).run Tryd.prog w = .ok () w2 := by
  cases hq : Tryd.prog.info? ty with
  | none => simp [hq] at hi
  | some i =>
    have hs' : i.size = k := by simpa [hq] using hi
    simp [storeVar, sizeOf, typeInfo, hq, Value.cells, hs', cellsOf_size, hs]
theorem yields_row {ops : Array Oper} {S : World → Prop} {op : Oper} {a : Act} {b n : Nat} {t ty : TypeId} {f : Nat → Value} {d : TypeDesc} (hw : Region.wanted op (yielded ops a.tmps) = true) (x : Operand) (ho : op.op = .load ty x) (hx : a.eval x = .pointer (some ⟨b, 0, none⟩))
    (hS : ∀ w, S w → RowAt w b t n f) (hu : Tryd.prog.underlying ty = some d) (hd : d.isRow = true) (hi : (Tryd.prog.info? ty).map (·.size) = some n) : YieldsIf Tryd.prog ops S op (.agg (cellsOf n f)) a := by
  have := yieldsIf_load_mid (P := Tryd.prog) (ops := ops) (S := S) hw ty x ho b 0 hx (cellsOf n f).toList d (fun w h => (hS w h).range) hu hd (by rw [Array.length_toList, cellsOf_size]; exact hi)
  rwa [Array.toArray_toList] at this
theorem wp_storeMem {o : Oper} {a : Act} {w : World} {K : Act → World → Prop} {Q : Exit → Act → World → Prop} {b : Nat} {m : Mm} (x y : Operand) (ho : o.op = .store 37 x y) (hx : a.eval x = .pointer (some ⟨b, 0, none⟩)) (hy : a.eval y = m.val) {f : Nat → Value} (hR : RowAt w b 37 136 f)
    (hk : ∀ w2, MemAt w2 b m → (∀ B a, Below B a w → B ≤ b → Below B a w2) → K (a.put o.dst undef) w2) : o.wp Tryd.prog a w K Q := by
  obtain ⟨w2, hs, hR2, hz2, hk2, hb2⟩ := hR.store 0 136 m.cell m.cell (by omega) (fun i _ => cell_one m i) (fun i hi => by rw [if_pos ⟨by omega, by omega⟩, Nat.sub_zero])
  have hv : (storeVar 37 ⟨b, 0, none⟩ m.val).run Tryd.prog w = .ok () w2 := storeVar_row (by kernel_rfl) hs
  unfold Oper.wp execOp
  rw [ho]
  simp only [hx, hy, Instr.storeAt, Instr.sureAddr, Sem.run_bind, Sem.run_pure, Result.andThen_ok, hv]
  exact hk w2 hR2 hb2
end Go.Proofs.YtljhpagpohihcaaDoor
