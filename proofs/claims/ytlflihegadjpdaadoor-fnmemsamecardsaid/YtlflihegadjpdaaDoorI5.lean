/- The program's MemSame of two memories, by the first test that fails. Helper text: no statement is claimed here. -/
import Derived.Test.YtlflihegadjpdaaDoorIk
import Derived.Test.YtlflihegadjpdaaDoorIc
namespace Go.Proofs.YtlflihegadjpdaaDoor
open Go.ChangeShapes Go.WideShapes Go.ChangeAt Go.RowKit Fl

set_option maxHeartbeats 8000000 in
set_option maxRecDepth 100000 in
theorem ms_5 (m n : Mm) (hm : m.Ok) (hn : n.Ok) (w : World) (q0 : ((m.x : Int) == (n.x : Int)) = true) (q1 : ((m.y : Int) == (n.y : Int)) = true) (q2 : ((m.m : Int) == (n.m : Int)) = true) (q3 : ((m.s : Int) == (n.s : Int)) = true) (q4 : ((m.e : Int) == (n.e : Int)) = true) (q5 : sameT m n = false) :
    Calls Tryd.prog 6 #[m.val, n.val] w fun e w' => e = .returned (.bool false) ∧ Below w.heap.size w w' := by
  have HX : Hid (∀ i, m.r i < 2 ^ 64) := hm.hr
  have HY : Hid (∀ i, n.r i < 2 ^ 64) := hn.hr
  have eT : Hid (∀ w, (Op.equal 28 (.agg (cellsOf 32 m.tcell)) (.agg (cellsOf 32 n.tcell))).run Tryd.prog w = .ok false w) := fun w => by have := eqT_run m n w; rw [q5] at this; exact this
  clear hm hn HX HY q5
  unfold Mm.val
  go_enter Tryd.func6, Tryd.ntmps6
  apply wp_seq_k
  intro K0 hK0
  apply wp_region_lit
  refine wpList_boxMem (m := m) rfl (.tmp 0) rfl rfl ?_
  intro w1 HI0 HB1 hz1
  simp only [Act.put, List.setIfInBounds_toArray, List.set_cons_zero, List.set_cons_succ]
  refine wpList_boxMem (m := n) rfl (.tmp 1) rfl rfl ?_
  intro w2 HJ0 HB2 hz2
  simp only [Act.put, List.setIfInBounds_toArray, List.set_cons_zero, List.set_cons_succ]
  have HI : Hid (RowAt w2 w.heap.size 37 136 m.cell) := RowAt.to HI0 HB2
  have HJ : Hid (RowAt w2 w1.heap.size 37 136 n.cell) := HJ0
  have HB : Hid (Below w.heap.size w w2) := HB1.trans (HB2.mono HB1.size)
  have i0 : World.cell? w2 ⟨w.heap.size, 0, none⟩ = some (.int .u32 (m.x : Int)) := HI.out.cell (i := 0) (by omega)
  have j0 : World.cell? w2 ⟨w1.heap.size, 0, none⟩ = some (.int .u32 (n.x : Int)) := HJ.out.cell (i := 0) (by omega)
  have i1 : World.cell? w2 ⟨w.heap.size, 1, none⟩ = some (.int .u32 (m.y : Int)) := HI.out.cell (i := 1) (by omega)
  have j1 : World.cell? w2 ⟨w1.heap.size, 1, none⟩ = some (.int .u32 (n.y : Int)) := HJ.out.cell (i := 1) (by omega)
  have i2 : World.cell? w2 ⟨w.heap.size, 2, none⟩ = some (.int .u64 (m.m : Int)) := HI.out.cell (i := 2) (by omega)
  have j2 : World.cell? w2 ⟨w1.heap.size, 2, none⟩ = some (.int .u64 (n.m : Int)) := HJ.out.cell (i := 2) (by omega)
  have i3 : World.cell? w2 ⟨w.heap.size, 3, none⟩ = some (.int .u16 (m.s : Int)) := HI.out.cell (i := 3) (by omega)
  have j3 : World.cell? w2 ⟨w1.heap.size, 3, none⟩ = some (.int .u16 (n.s : Int)) := HJ.out.cell (i := 3) (by omega)
  have i4 : World.cell? w2 ⟨w.heap.size, 4, none⟩ = some (.int .u32 (m.e : Int)) := HI.out.cell (i := 4) (by omega)
  have j4 : World.cell? w2 ⟨w1.heap.size, 4, none⟩ = some (.int .u32 (n.e : Int)) := HJ.out.cell (i := 4) (by omega)
  clear HI0 HJ0 HB1 HB2 hz1 hz2
  generalize (m.x : Int) = a0 at *
  generalize (n.x : Int) = b0 at *
  generalize (m.y : Int) = a1 at *
  generalize (n.y : Int) = b1 at *
  generalize (m.m : Int) = a2 at *
  generalize (n.m : Int) = b2 at *
  generalize (m.s : Int) = a3 at *
  generalize (n.s : Int) = b3 at *
  generalize (m.e : Int) = a4 at *
  generalize (n.e : Int) = b4 at *
  repeat (refine wpList_step (fun K hK => ?_); go_simp; refine hK _ _ ?_; clear hK K)
  refine wpList_nil ?_
  refine hK0 _ _ ?_
  clear hK0 K0
  apply wp_seq_k
  intro K0 hK0
  apply wp_region_lit
  repeat (first | (refine wpList_rowLoadG (by rfl) 28 (.tmp 39) rfl w.heap.size 5 32 m.tcell rfl HI.out (by omega) (fun i hi => m.cell_t hi) Tryd.underlying28 rfl (by kernel_rfl) ?_; simp only [Act.put, List.setIfInBounds_toArray, List.set_cons_zero, List.set_cons_succ]) | (refine wpList_rowLoadG (by rfl) 28 (.tmp 41) rfl w1.heap.size 5 32 n.tcell rfl HJ.out (by omega) (fun i hi => n.cell_t hi) Tryd.underlying28 rfl (by kernel_rfl) ?_; simp only [Act.put, List.setIfInBounds_toArray, List.set_cons_zero, List.set_cons_succ]) | (refine wpList_eqG (by rfl) 28 28 (.tmp 40) (.tmp 42) rfl rfl rfl (by kernel_rfl) (eT.out _) ?_; simp only [Act.put, List.setIfInBounds_toArray, List.set_cons_zero, List.set_cons_succ]) | (refine wpList_step (fun K hK => ?_); go_simp; refine hK _ _ ?_; clear hK K))
  refine wpList_nil ?_
  refine hK0 _ _ ?_
  clear hK0 K0
  go_wp2
  go_ret
  exact ⟨rfl, HB.out⟩

end Go.Proofs.YtlflihegadjpdaaDoor
