/- MemPutWhole of the document. Helper text: no statement is claimed here. -/
import Derived.Test.YtljhpagpohihcaaDoorJg
import Derived.Test.YtljhpagpohihcaaDoorYe
import Derived.Deep.Cut
namespace Go.Proofs.YtljhpagpohihcaaDoor
open Go.ChangeShapes Go.WideShapes Go.ChangeAt Go.RowKit

set_option maxHeartbeats 1000000 in
set_option maxRecDepth 10000 in
theorem sPutW_any (m : Mm) (k n p : Int) (v : Int) (w : World) :
    Calls Tryd.prog 31 #[m.val, .agg #[.int .i64 k, .int .i64 n, .int .i64 p], .int .i16 v] w fun e w' => e = .returned (m.putD k n v).val ∧ Below w.heap.size w w' := by
  have hz : ∀ w, (zeroValue 37).run Tryd.prog w = .ok (.agg zeroM.cells) w := fun _ => by kernel_rfl
  unfold Mm.val
  by_cases hk : k = 9
  case neg =>
    rw [show m.putD k n v = m from if_neg hk]
    have hk' : (k == 9) = false := by simpa using hk
    clear hk
    go_enter Tryd.func31, Tryd.ntmps31
    go_upto_region 1 with fail
    have HB : Hid (Below w.heap.size w (((w.alloc (.cells m.cells 37)).alloc (.cells #[.int .i64 k, .int .i64 n, .int .i64 p] 39)).alloc (.cells zeroM.cells 37))) := (((Below.refl _ _).alloc (Nat.le_refl _) _).alloc (by simp) _).alloc (by simp; omega) _
    have HI : Hid (MemAt (((w.alloc (.cells m.cells 37)).alloc (.cells #[.int .i64 k, .int .i64 n, .int .i64 p] 39)).alloc (.cells zeroM.cells 37)) w.heap.size m) := ((RowAt.new w 37 136 m.cell).alloc _).alloc _
    have HR : Hid (MemAt (((w.alloc (.cells m.cells 37)).alloc (.cells #[.int .i64 k, .int .i64 n, .int .i64 p] 39)).alloc (.cells zeroM.cells 37)) (w.heap.size + 1 + 1) zeroM) := by
      have := RowAt.new ((w.alloc (.cells m.cells 37)).alloc (.cells #[.int .i64 k, .int .i64 n, .int .i64 p] 39)) 37 136 zeroM.cell
      rw [show ((w.alloc (.cells m.cells 37)).alloc (.cells #[.int .i64 k, .int .i64 n, .int .i64 p] 39)).heap.size = w.heap.size + 1 + 1 by simp] at this
      exact this
    have a0 : World.cell? (((w.alloc (.cells m.cells 37)).alloc (.cells #[.int .i64 k, .int .i64 n, .int .i64 p] 39)).alloc (.cells zeroM.cells 37)) ⟨w.heap.size + 1, 0, none⟩ = some (.int .i64 k) := by simp [go_sem]
    have a1 : World.cell? (((w.alloc (.cells m.cells 37)).alloc (.cells #[.int .i64 k, .int .i64 n, .int .i64 p] 39)).alloc (.cells zeroM.cells 37)) ⟨w.heap.size + 1, 1, none⟩ = some (.int .i64 n) := by simp [go_sem]
    have a2 : World.cell? (((w.alloc (.cells m.cells 37)).alloc (.cells #[.int .i64 k, .int .i64 n, .int .i64 p] 39)).alloc (.cells zeroM.cells 37)) ⟨w.heap.size + 1, 2, none⟩ = some (.int .i64 p) := by simp [go_sem]
    generalize (((w.alloc (.cells m.cells 37)).alloc (.cells #[.int .i64 k, .int .i64 n, .int .i64 p] 39)).alloc (.cells zeroM.cells 37)) = V at *
    clear hz
    go_wp2_with (first
      | refine wpList_rowLoad rfl 37 (.tmp 3) rfl _ 0 136 m.cell rfl HI.out (by omega) (fun i _ => by rw [Nat.zero_add]) Tryd.underlying37 rfl (by kernel_rfl) ?_
      | (refine wpList_rowStore rfl 37 (.tmp 6) (.tmp 15) rfl _ 0 136 m.cell m.cell rfl rfl HR.out (by omega) (fun i _ => cell_one m i) (fun i hi => by rw [if_pos ⟨by omega, by omega⟩, Nat.sub_zero]) (by kernel_rfl) ?_; intro w2 HZ2 hz2 hk2 hb2))
    exact bodyPost_ret (v := .agg m.cells) (resRow Tryd.results31 rfl HZ2 Tryd.underlying37 rfl (by kernel_rfl)) rfl ⟨rfl, hb2 _ _ HB.out (by omega)⟩
  case pos =>
    subst hk
    obtain ⟨q, hq⟩ := Int.eq_ofNat_of_zero_le (plc_range 9 n).1
    have hlt : q < 32 := by
      have := (plc_range 9 n).2
      rw [hq, show sz4 9 = 32 from rfl] at this
      omega
    have hlt' : (q : Int) < 32 := by omega
    have HC : Hid (∀ i, i < 136 → (if i = 85 + q then .int .i16 v else m.cell i) = (m.putD 9 n v).cell i) := putD_cell m n v q hq hlt
    generalize m.putD 9 n v = m' at *
    go_enter Tryd.func31, Tryd.ntmps31
    go_upto_region 1 with fail
    have HB : Hid (Below w.heap.size w (((w.alloc (.cells m.cells 37)).alloc (.cells #[.int .i64 9, .int .i64 n, .int .i64 p] 39)).alloc (.cells zeroM.cells 37))) := (((Below.refl _ _).alloc (Nat.le_refl _) _).alloc (by simp) _).alloc (by simp; omega) _
    have HI : Hid (MemAt (((w.alloc (.cells m.cells 37)).alloc (.cells #[.int .i64 9, .int .i64 n, .int .i64 p] 39)).alloc (.cells zeroM.cells 37)) w.heap.size m) := ((RowAt.new w 37 136 m.cell).alloc _).alloc _
    have HR : Hid (MemAt (((w.alloc (.cells m.cells 37)).alloc (.cells #[.int .i64 9, .int .i64 n, .int .i64 p] 39)).alloc (.cells zeroM.cells 37)) (w.heap.size + 1 + 1) zeroM) := by
      have := RowAt.new ((w.alloc (.cells m.cells 37)).alloc (.cells #[.int .i64 9, .int .i64 n, .int .i64 p] 39)) 37 136 zeroM.cell
      rw [show ((w.alloc (.cells m.cells 37)).alloc (.cells #[.int .i64 9, .int .i64 n, .int .i64 p] 39)).heap.size = w.heap.size + 1 + 1 by simp] at this
      exact this
    have a0 : World.cell? (((w.alloc (.cells m.cells 37)).alloc (.cells #[.int .i64 9, .int .i64 n, .int .i64 p] 39)).alloc (.cells zeroM.cells 37)) ⟨w.heap.size + 1, 0, none⟩ = some (.int .i64 9) := by simp [go_sem]
    have a1 : World.cell? (((w.alloc (.cells m.cells 37)).alloc (.cells #[.int .i64 9, .int .i64 n, .int .i64 p] 39)).alloc (.cells zeroM.cells 37)) ⟨w.heap.size + 1, 1, none⟩ = some (.int .i64 n) := by simp [go_sem]
    have a2 : World.cell? (((w.alloc (.cells m.cells 37)).alloc (.cells #[.int .i64 9, .int .i64 n, .int .i64 p] 39)).alloc (.cells zeroM.cells 37)) ⟨w.heap.size + 1, 2, none⟩ = some (.int .i64 p) := by simp [go_sem]
    generalize (((w.alloc (.cells m.cells 37)).alloc (.cells #[.int .i64 9, .int .i64 n, .int .i64 p] 39)).alloc (.cells zeroM.cells 37)) = V at *
    clear hz
    go_wp2_with fail
    refine (at_any 9 n p _).mono ?_
    rw [hq]
    rintro e w1 ⟨rfl, hb1⟩
    have HB1 : Hid (Below w.heap.size w w1) := HB.out.trans (hb1.mono HB.out.size)
    have HI1 : Hid (MemAt w1 w.heap.size m) := HI.out.to hb1
    have HR1 : Hid (MemAt w1 (w.heap.size + 1 + 1) zeroM) := HR.out.to hb1
    have c0 := HI1.out.cell (i := 85 + q) (by omega)
    have f0 := HI1.out.frozen (85 + q)
    have HS : Hid (MemAt (w1.setCell ⟨w.heap.size, 85 + q, none⟩ (.int .i16 v)) w.heap.size m') := (HI1.out.set (85 + q) (.int .i16 v)).ext HC.out
    have HR2 : Hid (MemAt (w1.setCell ⟨w.heap.size, 85 + q, none⟩ (.int .i16 v)) (w.heap.size + 1 + 1) zeroM) := HR1.out.other _ (by omega)
    have HB2 : Hid (Below w.heap.size w (w1.setCell ⟨w.heap.size, 85 + q, none⟩ (.int .i16 v))) := HB1.out.setCell (p := ⟨_, _, none⟩) (Nat.le_refl _) _
    clear hb1 HB HI HR HB1 HI1 HR1 HC hq a0 a1 a2
    go_wp2_with (first
      | refine wpList_rowLoad rfl 37 (.tmp 3) rfl _ 0 136 m'.cell rfl HS.out (by omega) (fun i _ => by rw [Nat.zero_add]) Tryd.underlying37 rfl (by kernel_rfl) ?_
      | (refine wpList_rowStore rfl 37 (.tmp 6) (.tmp 15) rfl _ 0 136 m'.cell m'.cell rfl rfl HR2.out (by omega) (fun i _ => cell_one m' i) (fun i hi => by rw [if_pos ⟨by omega, by omega⟩, Nat.sub_zero]) (by kernel_rfl) ?_; intro w2 HZ2 hz2 hk2 hb2))
    exact bodyPost_ret (v := .agg m'.cells) (resRow Tryd.results31 rfl HZ2 Tryd.underlying37 rfl (by kernel_rfl)) rfl ⟨rfl, hb2 _ _ HB2.out (by omega)⟩
end Go.Proofs.YtljhpagpohihcaaDoor
