/- A memory is the same as itself: the program's MemSame, its one long row of tests. Helper text: no statement is claimed here. -/
import Derived.Test.YtljhpagpohihcaaDoorIb
import Derived.Deep.Cut
import Derived.Deep.RegionHeld3
namespace Go.Proofs.YtljhpagpohihcaaDoor
open Go.ChangeShapes Go.WideShapes Go.ChangeAt Go.RowKit Fl

/-- The walk's step at a load of many cells that is asked for. -/
theorem wpList_rowLoadG {ops : Array Oper} {rest : List Oper} {op : Oper} {a : Act} {w : World} {Q : Exit → Act → World → Prop} {n : Nat} {t : TypeId} {f : Nat → Value} {d : TypeDesc} (hw : Region.wanted op (yielded ops a.tmps) = true) (ty : TypeId) (x : Operand) (ho : op.op = .load ty x)
    (b o k : Nat) (g : Nat → Value) (hx : a.eval x = .pointer (some ⟨b, o, none⟩)) (hR : RowAt w b t n f) (hok : o + k ≤ n) (e : ∀ i, i < k → f (o + i) = g i)
    (hu : Tryd.prog.underlying ty = some d) (hd : d.isRow = true) (hi : (Tryd.prog.info? ty).map (·.size) = some k) (h : wpList Tryd.prog ops Q rest (a.put op.dst (.agg (cellsOf k g))) w) : wpList Tryd.prog ops Q (op :: rest) a w :=
  wpList_step fun K hK => by
    rw [if_pos hw]
    exact wp_load_mid ty x ho b o hx (cellsOf k g).toList d (fun j v hv => by
      have hj : j < k := by
        have := (List.getElem?_eq_some_iff.1 hv).1
        simpa [cellsOf_size] using this
      rw [hR.cell (by omega), e j hj]
      rw [Array.getElem?_toList, cellsOf_at _ hj] at hv
      exact hv) hu hd (by rw [hi]; simp [cellsOf_size]) (hK _ _ (by simpa using h))
set_option maxRecDepth 10000 in
/-- The walk's step at the box of a memory. -/
theorem wpList_boxMem {ops : Array Oper} {rest : List Oper} {op : Oper} {a : Act} {w : World} {Q : Exit → Act → World → Prop} {m : Mm} (hgd : op.guard = none) (x : Operand) (ho : op.op = .box 37 x) (hx : a.eval x = .agg m.cells)
    (h : ∀ w1, MemAt w1 w.heap.size m → Below w.heap.size w w1 → w1.heap.size = w.heap.size + 1 → wpList Tryd.prog ops Q rest (a.put op.dst (.pointer (some ⟨w.heap.size, 0, none⟩))) w1) : wpList Tryd.prog ops Q (op :: rest) a w :=
  wpList_plain hgd fun K hK => by
    have hv : (Instr.box 37 (.agg m.cells)).run Tryd.prog w = .ok (.pointer (some ⟨w.heap.size, 0, none⟩)) (w.alloc (.cells m.cells 37)) := by
      generalize m.cells = cs
      simp [go_sem]
    have hM : MemAt (w.alloc (.cells m.cells 37)) w.heap.size m := RowAt.new w 37 136 m.cell
    have hn := h (w.alloc (.cells m.cells 37)) hM ((Below.refl _ _).alloc (Nat.le_refl _) _) (by simp)
    unfold Oper.wp execOp
    rw [ho]
    simp only [hx, Sem.run_bind, hv, Result.andThen_ok, Sem.run_pure, Oper.upon_value]
    exact hK _ _ hn
/-- The walk's step at two arrays held against each other. -/
theorem wpList_eqG {ops : Array Oper} {rest : List Oper} {op : Oper} {a : Act} {w : World} {Q : Exit → Act → World → Prop} {u v : Array Value} {b : Bool} (hw : Region.wanted op (yielded ops a.tmps) = true) (ty ty2 : TypeId) (x y : Operand) (ho : op.op = .binOp .eql ty x y ty2)
    (hx : a.eval x = .agg u) (hy : a.eval y = .agg v) (hm : Tryd.prog.eqGuardType Tryd.prog.depth ty = false) (he : (Op.equal ty (.agg u) (.agg v)).run Tryd.prog w = .ok b w) (h : wpList Tryd.prog ops Q rest (a.put op.dst (.bool b)) w) : wpList Tryd.prog ops Q (op :: rest) a w :=
  wpList_step fun K hK => by
    rw [if_pos hw]
    have hb : (binOp .eql ty (.agg u) (.agg v)).run Tryd.prog w = .ok (.bool b) w := by
      show (Op.equal ty (.agg u) (.agg v) >>= fun r => pure (Value.bool r)).run Tryd.prog w = _
      rw [Sem.run_bind, he]
      rfl
    unfold Oper.wp execOp
    rw [ho]
    simp only [hx, hy, Sem.run_bind, run_eqGuard_agg w .eql ty x y u v hm, hb, Result.andThen_ok, Sem.run_pure, Oper.upon_value]
    exact hK _ _ h
theorem sameT_self (m : Mm) : sameT m m = true := by simp [sameT]
theorem sameC_self (m : Mm) : sameC m m = true := by simp [sameC]
theorem sameD_self (m : Mm) : sameD m m = true := by simp [sameD]

set_option maxHeartbeats 2000000 in
set_option maxRecDepth 100000 in
theorem memSame_self (m : Mm) (hm : m.Ok) (w : World) :
    Calls Tryd.prog 12 #[m.val, m.val] w fun e w' => e = .returned (.bool true) ∧ Below w.heap.size w w' := by
  have HX : Hid (∀ i, m.r i < 2 ^ 64) := hm.hr
  have eT : Hid (∀ w, (Op.equal 28 (.agg (cellsOf 32 m.tcell)) (.agg (cellsOf 32 m.tcell))).run Tryd.prog w = .ok true w) := fun w => by have := eqT_run m m w; rw [sameT_self] at this; exact this
  have eC : Hid (∀ w, (Op.equal 31 (.agg (cellsOf 48 m.ccell)) (.agg (cellsOf 48 m.ccell))).run Tryd.prog w = .ok true w) := fun w => by have := eqC_run m m w; rw [sameC_self] at this; exact this
  have eD : Hid (∀ w, (Op.equal 33 (.agg (cellsOf 32 m.dcell)) (.agg (cellsOf 32 m.dcell))).run Tryd.prog w = .ok true w) := fun w => by have := eqD_run m m w; rw [sameD_self] at this; exact this
  have hb1 : (m.ran == m.ran) = true := by cases m.ran <;> rfl
  have hb2 : (m.fault == m.fault) = true := by cases m.fault <;> rfl
  clear hm
  unfold Mm.val
  go_enter Tryd.func12, Tryd.ntmps12
  apply wp_seq_k
  intro K0 hK0
  apply wp_region_lit
  refine wpList_boxMem (m := m) rfl (.tmp 0) rfl rfl ?_
  intro w1 HI0 HB1 hz1
  simp only [Act.put, List.setIfInBounds_toArray, List.set_cons_zero, List.set_cons_succ]
  refine wpList_boxMem (m := m) rfl (.tmp 1) rfl rfl ?_
  intro w2 HJ0 HB2 hz2
  simp only [Act.put, List.setIfInBounds_toArray, List.set_cons_zero, List.set_cons_succ]
  have HI : Hid (RowAt w2 w.heap.size 37 136 m.cell) := RowAt.to HI0 HB2
  have HJ : Hid (RowAt w2 w1.heap.size 37 136 m.cell) := HJ0
  have HB : Hid (Below w.heap.size w w2) := HB1.trans (HB2.mono HB1.size)
  have i0 : World.cell? w2 ⟨w.heap.size, 0, none⟩ = some (.int .u32 m.x) := HI.out.cell (i := 0) (by omega)
  have i1 : World.cell? w2 ⟨w.heap.size, 1, none⟩ = some (.int .u32 m.y) := HI.out.cell (i := 1) (by omega)
  have i2 : World.cell? w2 ⟨w.heap.size, 2, none⟩ = some (.int .u64 m.m) := HI.out.cell (i := 2) (by omega)
  have i3 : World.cell? w2 ⟨w.heap.size, 3, none⟩ = some (.int .u16 m.s) := HI.out.cell (i := 3) (by omega)
  have i4 : World.cell? w2 ⟨w.heap.size, 4, none⟩ = some (.int .u32 m.e) := HI.out.cell (i := 4) (by omega)
  have i133 : World.cell? w2 ⟨w.heap.size, 133, none⟩ = some (.int .u32 m.time) := HI.out.cell (i := 133) (by omega)
  have i134 : World.cell? w2 ⟨w.heap.size, 134, none⟩ = some (.bool m.ran) := HI.out.cell (i := 134) (by omega)
  have i135 : World.cell? w2 ⟨w.heap.size, 135, none⟩ = some (.bool m.fault) := HI.out.cell (i := 135) (by omega)
  have j0 : World.cell? w2 ⟨w1.heap.size, 0, none⟩ = some (.int .u32 m.x) := HJ.out.cell (i := 0) (by omega)
  have j1 : World.cell? w2 ⟨w1.heap.size, 1, none⟩ = some (.int .u32 m.y) := HJ.out.cell (i := 1) (by omega)
  have j2 : World.cell? w2 ⟨w1.heap.size, 2, none⟩ = some (.int .u64 m.m) := HJ.out.cell (i := 2) (by omega)
  have j3 : World.cell? w2 ⟨w1.heap.size, 3, none⟩ = some (.int .u16 m.s) := HJ.out.cell (i := 3) (by omega)
  have j4 : World.cell? w2 ⟨w1.heap.size, 4, none⟩ = some (.int .u32 m.e) := HJ.out.cell (i := 4) (by omega)
  have j133 : World.cell? w2 ⟨w1.heap.size, 133, none⟩ = some (.int .u32 m.time) := HJ.out.cell (i := 133) (by omega)
  have j134 : World.cell? w2 ⟨w1.heap.size, 134, none⟩ = some (.bool m.ran) := HJ.out.cell (i := 134) (by omega)
  have j135 : World.cell? w2 ⟨w1.heap.size, 135, none⟩ = some (.bool m.fault) := HJ.out.cell (i := 135) (by omega)
  clear HI0 HJ0 HB1 HB2 hz1 hz2
  repeat (refine wpList_step (fun K hK => ?_); go_simp; refine hK _ _ ?_; clear hK K)
  refine wpList_nil ?_
  refine hK0 _ _ ?_
  clear hK0 K0
  apply wp_seq_k
  intro K0 hK0
  apply wp_region_lit
  repeat (first | (refine wpList_rowLoadG (by rfl) 28 (.tmp 39) rfl w.heap.size 5 32 m.tcell rfl HI.out (by omega) (fun i hi => m.cell_t hi) Tryd.underlying28 rfl (by kernel_rfl) ?_; simp only [Act.put, List.setIfInBounds_toArray, List.set_cons_zero, List.set_cons_succ]) | (refine wpList_rowLoadG (by rfl) 28 (.tmp 41) rfl w1.heap.size 5 32 m.tcell rfl HJ.out (by omega) (fun i hi => m.cell_t hi) Tryd.underlying28 rfl (by kernel_rfl) ?_; simp only [Act.put, List.setIfInBounds_toArray, List.set_cons_zero, List.set_cons_succ]) | (refine wpList_rowLoadG (by rfl) 31 (.tmp 46) rfl w.heap.size 37 48 m.ccell rfl HI.out (by omega) (fun i hi => m.cell_c hi) Tryd.underlying31 rfl (by kernel_rfl) ?_; simp only [Act.put, List.setIfInBounds_toArray, List.set_cons_zero, List.set_cons_succ]) | (refine wpList_rowLoadG (by rfl) 31 (.tmp 48) rfl w1.heap.size 37 48 m.ccell rfl HJ.out (by omega) (fun i hi => m.cell_c hi) Tryd.underlying31 rfl (by kernel_rfl) ?_; simp only [Act.put, List.setIfInBounds_toArray, List.set_cons_zero, List.set_cons_succ]) | (refine wpList_rowLoadG (by rfl) 33 (.tmp 53) rfl w.heap.size 85 32 m.dcell rfl HI.out (by omega) (fun i hi => m.cell_d hi) Tryd.underlying33 rfl (by kernel_rfl) ?_; simp only [Act.put, List.setIfInBounds_toArray, List.set_cons_zero, List.set_cons_succ]) | (refine wpList_rowLoadG (by rfl) 33 (.tmp 55) rfl w1.heap.size 85 32 m.dcell rfl HJ.out (by omega) (fun i hi => m.cell_d hi) Tryd.underlying33 rfl (by kernel_rfl) ?_; simp only [Act.put, List.setIfInBounds_toArray, List.set_cons_zero, List.set_cons_succ]) | (refine wpList_rowLoadG (by rfl) 35 (.tmp 60) rfl w.heap.size 117 16 m.rcell rfl HI.out (by omega) (fun i hi => m.cell_r hi) Tryd.underlying35 rfl (by kernel_rfl) ?_; simp only [Act.put, List.setIfInBounds_toArray, List.set_cons_zero, List.set_cons_succ]) | (refine wpList_rowLoadG (by rfl) 35 (.tmp 62) rfl w1.heap.size 117 16 m.rcell rfl HJ.out (by omega) (fun i hi => m.cell_r hi) Tryd.underlying35 rfl (by kernel_rfl) ?_; simp only [Act.put, List.setIfInBounds_toArray, List.set_cons_zero, List.set_cons_succ]) | (refine wpList_eqG (by rfl) 28 28 (.tmp 40) (.tmp 42) rfl rfl rfl (by kernel_rfl) (eT.out _) ?_; simp only [Act.put, List.setIfInBounds_toArray, List.set_cons_zero, List.set_cons_succ]) | (refine wpList_eqG (by rfl) 31 31 (.tmp 47) (.tmp 49) rfl rfl rfl (by kernel_rfl) (eC.out _) ?_; simp only [Act.put, List.setIfInBounds_toArray, List.set_cons_zero, List.set_cons_succ]) | (refine wpList_eqG (by rfl) 33 33 (.tmp 54) (.tmp 56) rfl rfl rfl (by kernel_rfl) (eD.out _) ?_; simp only [Act.put, List.setIfInBounds_toArray, List.set_cons_zero, List.set_cons_succ]) | (refine wpList_step (fun K hK => ?_); go_simp; refine hK _ _ ?_; clear hK K))
  refine wpList_step (fun K hK => ?_)
  go_simp
  refine (sameReals_self m HX.out _).mono ?_
  rintro e w3 ⟨rfl, hb3⟩
  refine hK _ _ ?_
  clear hK K
  have HI3 : Hid (RowAt w3 w.heap.size 37 136 m.cell) := HI.out.to hb3
  have HJ3 : Hid (RowAt w3 w1.heap.size 37 136 m.cell) := HJ.out.to hb3
  have HB3 : Hid (Below w.heap.size w w3) := HB.out.trans (hb3.mono HB.out.size)
  have a133 : w3.cell? ⟨w.heap.size, 133, none⟩ = some (.int .u32 m.time) := HI3.out.cell (i := 133) (by omega)
  have a134 : w3.cell? ⟨w.heap.size, 134, none⟩ = some (.bool m.ran) := HI3.out.cell (i := 134) (by omega)
  have a135 : w3.cell? ⟨w.heap.size, 135, none⟩ = some (.bool m.fault) := HI3.out.cell (i := 135) (by omega)
  have d133 : w3.cell? ⟨w1.heap.size, 133, none⟩ = some (.int .u32 m.time) := HJ3.out.cell (i := 133) (by omega)
  have d134 : w3.cell? ⟨w1.heap.size, 134, none⟩ = some (.bool m.ran) := HJ3.out.cell (i := 134) (by omega)
  have d135 : w3.cell? ⟨w1.heap.size, 135, none⟩ = some (.bool m.fault) := HJ3.out.cell (i := 135) (by omega)
  clear hb3
  repeat (refine wpList_step (fun K hK => ?_); go_simp; refine hK _ _ ?_; clear hK K)
  refine wpList_nil ?_
  refine hK0 _ _ ?_
  clear hK0 K0
  go_wp2
  go_ret
  exact ⟨rfl, HB3.out⟩
end Go.Proofs.YtljhpagpohihcaaDoor
