/- The program's MemSame of two memories, by the first test that fails. Helper text: no statement is claimed here. -/
import Derived.Test.YtlflihegadjpdaaDoorIk
import Derived.Test.YtlflihegadjpdaaDoorIc
namespace Go.Proofs.YtlflihegadjpdaaDoor
open Go.ChangeShapes Go.WideShapes Go.ChangeAt Go.RowKit Fl

set_option maxHeartbeats 8000000 in
set_option maxRecDepth 100000 in
theorem ms_8 (m n : Mm) (hm : m.Ok) (hn : n.Ok) (w : World) (q0 : ((m.x : Int) == (n.x : Int)) = true) (q1 : ((m.y : Int) == (n.y : Int)) = true) (q2 : ((m.m : Int) == (n.m : Int)) = true) (q3 : ((m.s : Int) == (n.s : Int)) = true) (q4 : ((m.e : Int) == (n.e : Int)) = true) (q5 : sameT m n = true) (q6 : sameC m n = true) (q7 : sameD m n = true) (q8 : sameR m n = false) :
    Calls Tryd.prog 6 #[m.val, n.val] w fun e w' => e = .returned (.bool false) ∧ Below w.heap.size w w' := by
  have HX : Hid (∀ i, m.r i < 2 ^ 64) := hm.hr
  have HY : Hid (∀ i, n.r i < 2 ^ 64) := hn.hr
  have eT : Hid (∀ w, (Op.equal 28 (.agg (cellsOf 32 m.tcell)) (.agg (cellsOf 32 n.tcell))).run Tryd.prog w = .ok true w) := fun w => by have := eqT_run m n w; rw [q5] at this; exact this
  have eC : Hid (∀ w, (Op.equal 31 (.agg (cellsOf 48 m.ccell)) (.agg (cellsOf 48 n.ccell))).run Tryd.prog w = .ok true w) := fun w => by have := eqC_run m n w; rw [q6] at this; exact this
  have eD : Hid (∀ w, (Op.equal 33 (.agg (cellsOf 32 m.dcell)) (.agg (cellsOf 32 n.dcell))).run Tryd.prog w = .ok true w) := fun w => by have := eqD_run m n w; rw [q7] at this; exact this
  have HRR : Hid (∀ W, Calls Tryd.prog 17 #[.agg m.rArr, .agg n.rArr] W fun e w' => e = .returned (.bool false) ∧ Below W.heap.size W w') := fun W => by have := sameReals_any m n HX.out HY.out W; rwa [q8] at this
  clear hm hn HX HY q5 q6 q7 q8
  unfold Mm.val
  go_enter Tryd.func6, Tryd.ntmps6
  apply wp_seq_k
  intro K0 hK0
  apply wp_region_lit
  refine wpList_boxMem (m := m) rfl (.tmp 0) rfl rfl ?_
  intro w1 HI0 HB1 hz1
  simp only [Act.put, List.setIfInBounds_toArray, List.set_cons_zero, List.set_cons_succ]
  refine wpList_boxMem (m := n) rfl (.tmp 1) rfl rfl ?_
  intro w2 HJ0 HB2 hz2
  simp only [Act.put, List.setIfInBounds_toArray, List.set_cons_zero, List.set_cons_succ]
  have HI : Hid (RowAt w2 w.heap.size 37 136 m.cell) := RowAt.to HI0 HB2
  have HJ : Hid (RowAt w2 w1.heap.size 37 136 n.cell) := HJ0
  have HB : Hid (Below w.heap.size w w2) := HB1.trans (HB2.mono HB1.size)
  have i0 : World.cell? w2 ⟨w.heap.size, 0, none⟩ = some (.int .u32 (m.x : Int)) := HI.out.cell (i := 0) (by omega)
  have j0 : World.cell? w2 ⟨w1.heap.size, 0, none⟩ = some (.int .u32 (n.x : Int)) := HJ.out.cell (i := 0) (by omega)
  have i1 : World.cell? w2 ⟨w.heap.size, 1, none⟩ = some (.int .u32 (m.y : Int)) := HI.out.cell (i := 1) (by omega)
  have j1 : World.cell? w2 ⟨w1.heap.size, 1, none⟩ = some (.int .u32 (n.y : Int)) := HJ.out.cell (i := 1) (by omega)
  have i2 : World.cell? w2 ⟨w.heap.size, 2, none⟩ = some (.int .u64 (m.m : Int)) := HI.out.cell (i := 2) (by omega)
  have j2 : World.cell? w2 ⟨w1.heap.size, 2, none⟩ = some (.int .u64 (n.m : Int)) := HJ.out.cell (i := 2) (by omega)
  have i3 : World.cell? w2 ⟨w.heap.size, 3, none⟩ = some (.int .u16 (m.s : Int)) := HI.out.cell (i := 3) (by omega)
  have j3 : World.cell? w2 ⟨w1.heap.size, 3, none⟩ = some (.int .u16 (n.s : Int)) := HJ.out.cell (i := 3) (by omega)
  have i4 : World.cell? w2 ⟨w.heap.size, 4, none⟩ = some (.int .u32 (m.e : Int)) := HI.out.cell (i := 4) (by omega)
  have j4 : World.cell? w2 ⟨w1.heap.size, 4, none⟩ = some (.int .u32 (n.e : Int)) := HJ.out.cell (i := 4) (by omega)
  clear HI0 HJ0 HB1 HB2 hz1 hz2
  generalize (m.x : Int) = a0 at *
  generalize (n.x : Int) = b0 at *
  generalize (m.y : Int) = a1 at *
  generalize (n.y : Int) = b1 at *
  generalize (m.m : Int) = a2 at *
  generalize (n.m : Int) = b2 at *
  generalize (m.s : Int) = a3 at *
  generalize (n.s : Int) = b3 at *
  generalize (m.e : Int) = a4 at *
  generalize (n.e : Int) = b4 at *
  repeat (refine wpList_step (fun K hK => ?_); go_simp; refine hK _ _ ?_; clear hK K)
  refine wpList_nil ?_
  refine hK0 _ _ ?_
  clear hK0 K0
  apply wp_seq_k
  intro K0 hK0
  apply wp_region_lit
  repeat (first | (refine wpList_rowLoadG (by rfl) 28 (.tmp 39) rfl w.heap.size 5 32 m.tcell rfl HI.out (by omega) (fun i hi => m.cell_t hi) Tryd.underlying28 rfl (by kernel_rfl) ?_; simp only [Act.put, List.setIfInBounds_toArray, List.set_cons_zero, List.set_cons_succ]) | (refine wpList_rowLoadG (by rfl) 28 (.tmp 41) rfl w1.heap.size 5 32 n.tcell rfl HJ.out (by omega) (fun i hi => n.cell_t hi) Tryd.underlying28 rfl (by kernel_rfl) ?_; simp only [Act.put, List.setIfInBounds_toArray, List.set_cons_zero, List.set_cons_succ]) | (refine wpList_eqG (by rfl) 28 28 (.tmp 40) (.tmp 42) rfl rfl rfl (by kernel_rfl) (eT.out _) ?_; simp only [Act.put, List.setIfInBounds_toArray, List.set_cons_zero, List.set_cons_succ]) | (refine wpList_rowLoadG (by rfl) 31 (.tmp 46) rfl w.heap.size 37 48 m.ccell rfl HI.out (by omega) (fun i hi => m.cell_c hi) Tryd.underlying31 rfl (by kernel_rfl) ?_; simp only [Act.put, List.setIfInBounds_toArray, List.set_cons_zero, List.set_cons_succ]) | (refine wpList_rowLoadG (by rfl) 31 (.tmp 48) rfl w1.heap.size 37 48 n.ccell rfl HJ.out (by omega) (fun i hi => n.cell_c hi) Tryd.underlying31 rfl (by kernel_rfl) ?_; simp only [Act.put, List.setIfInBounds_toArray, List.set_cons_zero, List.set_cons_succ]) | (refine wpList_eqG (by rfl) 31 31 (.tmp 47) (.tmp 49) rfl rfl rfl (by kernel_rfl) (eC.out _) ?_; simp only [Act.put, List.setIfInBounds_toArray, List.set_cons_zero, List.set_cons_succ]) | (refine wpList_rowLoadG (by rfl) 33 (.tmp 53) rfl w.heap.size 85 32 m.dcell rfl HI.out (by omega) (fun i hi => m.cell_d hi) Tryd.underlying33 rfl (by kernel_rfl) ?_; simp only [Act.put, List.setIfInBounds_toArray, List.set_cons_zero, List.set_cons_succ]) | (refine wpList_rowLoadG (by rfl) 33 (.tmp 55) rfl w1.heap.size 85 32 n.dcell rfl HJ.out (by omega) (fun i hi => n.cell_d hi) Tryd.underlying33 rfl (by kernel_rfl) ?_; simp only [Act.put, List.setIfInBounds_toArray, List.set_cons_zero, List.set_cons_succ]) | (refine wpList_eqG (by rfl) 33 33 (.tmp 54) (.tmp 56) rfl rfl rfl (by kernel_rfl) (eD.out _) ?_; simp only [Act.put, List.setIfInBounds_toArray, List.set_cons_zero, List.set_cons_succ]) | (refine wpList_rowLoadG (by rfl) 35 (.tmp 60) rfl w.heap.size 117 16 m.rcell rfl HI.out (by omega) (fun i hi => m.cell_r hi) Tryd.underlying35 rfl (by kernel_rfl) ?_; simp only [Act.put, List.setIfInBounds_toArray, List.set_cons_zero, List.set_cons_succ]) | (refine wpList_rowLoadG (by rfl) 35 (.tmp 62) rfl w1.heap.size 117 16 n.rcell rfl HJ.out (by omega) (fun i hi => n.cell_r hi) Tryd.underlying35 rfl (by kernel_rfl) ?_; simp only [Act.put, List.setIfInBounds_toArray, List.set_cons_zero, List.set_cons_succ]) | (refine wpList_step (fun K hK => ?_); go_simp; refine hK _ _ ?_; clear hK K))
  refine wpList_step (fun K hK => ?_)
  go_simp
  refine (HRR.out _).mono ?_
  rintro e w3 ⟨rfl, hb3⟩
  refine hK _ _ ?_
  clear hK K
  have HI3 : Hid (RowAt w3 w.heap.size 37 136 m.cell) := HI.out.to hb3
  have HJ3 : Hid (RowAt w3 w1.heap.size 37 136 n.cell) := HJ.out.to hb3
  have HB3 : Hid (Below w.heap.size w w3) := HB.out.trans (hb3.mono HB.out.size)
  clear hb3 HI HJ
  repeat (refine wpList_step (fun K hK => ?_); go_simp; refine hK _ _ ?_; clear hK K)
  refine wpList_nil ?_
  refine hK0 _ _ ?_
  clear hK0 K0
  go_wp2
  go_ret
  exact ⟨rfl, HB3.out⟩

end Go.Proofs.YtlflihegadjpdaaDoor
