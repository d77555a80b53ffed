/- MemPutReal of the document. Helper text: no statement is claimed here. -/
import Derived.Test.YtljhpagpohihcabDoorJg
import Derived.Test.YtljhpagpohihcabDoorYf
import Derived.Deep.Cut
namespace Go.Proofs.YtljhpagpohihcabDoor
open Go.ChangeShapes Go.WideShapes Go.ChangeAt Go.RowKit

attribute [local go_sem] store_float2
set_option maxHeartbeats 1000000 in
set_option maxRecDepth 10000 in
theorem sPutR_any (m : Mm) (k n p : Int) (v : Nat) (w : World) :
    Calls Tryd.prog 10 #[m.val, .agg #[.int .i64 k, .int .i64 n, .int .i64 p], .float .f64 v] w fun e w' => e = .returned (m.putR k n v).val ∧ Below w.heap.size w w' := by
  have hz : ∀ w, (zeroValue 45).run Tryd.prog w = .ok (.agg zeroM.cells) w := fun _ => by kernel_rfl
  unfold Mm.val
  by_cases hk : k = 10
  case neg =>
    rw [show m.putR k n v = m from if_neg hk]
    have hk' : (k == 10) = false := by simpa using hk
    clear hk
    go_enter Tryd.func10, Tryd.ntmps10
    go_upto_region 1 with fail
    have HB : Hid (Below w.heap.size w (((w.alloc (.cells m.cells 45)).alloc (.cells #[.int .i64 k, .int .i64 n, .int .i64 p] 47)).alloc (.cells zeroM.cells 45))) := (((Below.refl _ _).alloc (Nat.le_refl _) _).alloc (by simp) _).alloc (by simp; omega) _
    have HI : Hid (MemAt (((w.alloc (.cells m.cells 45)).alloc (.cells #[.int .i64 k, .int .i64 n, .int .i64 p] 47)).alloc (.cells zeroM.cells 45)) w.heap.size m) := ((RowAt.new w 45 136 m.cell).alloc _).alloc _
    have HR : Hid (MemAt (((w.alloc (.cells m.cells 45)).alloc (.cells #[.int .i64 k, .int .i64 n, .int .i64 p] 47)).alloc (.cells zeroM.cells 45)) (w.heap.size + 1 + 1) zeroM) := by
      have := RowAt.new ((w.alloc (.cells m.cells 45)).alloc (.cells #[.int .i64 k, .int .i64 n, .int .i64 p] 47)) 45 136 zeroM.cell
      rw [show ((w.alloc (.cells m.cells 45)).alloc (.cells #[.int .i64 k, .int .i64 n, .int .i64 p] 47)).heap.size = w.heap.size + 1 + 1 by simp] at this
      exact this
    have a0 : World.cell? (((w.alloc (.cells m.cells 45)).alloc (.cells #[.int .i64 k, .int .i64 n, .int .i64 p] 47)).alloc (.cells zeroM.cells 45)) ⟨w.heap.size + 1, 0, none⟩ = some (.int .i64 k) := by simp [go_sem]
    have a1 : World.cell? (((w.alloc (.cells m.cells 45)).alloc (.cells #[.int .i64 k, .int .i64 n, .int .i64 p] 47)).alloc (.cells zeroM.cells 45)) ⟨w.heap.size + 1, 1, none⟩ = some (.int .i64 n) := by simp [go_sem]
    have a2 : World.cell? (((w.alloc (.cells m.cells 45)).alloc (.cells #[.int .i64 k, .int .i64 n, .int .i64 p] 47)).alloc (.cells zeroM.cells 45)) ⟨w.heap.size + 1, 2, none⟩ = some (.int .i64 p) := by simp [go_sem]
    generalize (((w.alloc (.cells m.cells 45)).alloc (.cells #[.int .i64 k, .int .i64 n, .int .i64 p] 47)).alloc (.cells zeroM.cells 45)) = V at *
    clear hz
    go_wp2_with (first
      | refine wpList_rowLoad rfl 45 (.tmp 3) rfl _ 0 136 m.cell rfl HI.out (by omega) (fun i _ => by rw [Nat.zero_add]) Tryd.underlying45 rfl (by kernel_rfl) ?_
      | (refine wpList_rowStore rfl 45 (.tmp 6) (.tmp 15) rfl _ 0 136 m.cell m.cell rfl rfl HR.out (by omega) (fun i _ => cell_one m i) (fun i hi => by rw [if_pos ⟨by omega, by omega⟩, Nat.sub_zero]) (by kernel_rfl) ?_; intro w2 HZ2 hz2 hk2 hb2))
    exact bodyPost_ret (v := .agg m.cells) (resRow Tryd.results10 rfl HZ2 Tryd.underlying45 rfl (by kernel_rfl)) rfl ⟨rfl, hb2 _ _ HB.out (by omega)⟩
  case pos =>
    subst hk
    obtain ⟨q, hq⟩ := Int.eq_ofNat_of_zero_le (plc_range 10 n).1
    have hlt : q < 16 := by
      have := (plc_range 10 n).2
      rw [hq, show sz4 10 = 16 from rfl] at this
      omega
    have hlt' : (q : Int) < 16 := by omega
    have HC : Hid (∀ i, i < 136 → (if i = 117 + q then .float .f64 v else m.cell i) = (m.putR 10 n v).cell i) := putR_cell m n v q hq hlt
    generalize m.putR 10 n v = m' at *
    go_enter Tryd.func10, Tryd.ntmps10
    go_upto_region 1 with fail
    have HB : Hid (Below w.heap.size w (((w.alloc (.cells m.cells 45)).alloc (.cells #[.int .i64 10, .int .i64 n, .int .i64 p] 47)).alloc (.cells zeroM.cells 45))) := (((Below.refl _ _).alloc (Nat.le_refl _) _).alloc (by simp) _).alloc (by simp; omega) _
    have HI : Hid (MemAt (((w.alloc (.cells m.cells 45)).alloc (.cells #[.int .i64 10, .int .i64 n, .int .i64 p] 47)).alloc (.cells zeroM.cells 45)) w.heap.size m) := ((RowAt.new w 45 136 m.cell).alloc _).alloc _
    have HR : Hid (MemAt (((w.alloc (.cells m.cells 45)).alloc (.cells #[.int .i64 10, .int .i64 n, .int .i64 p] 47)).alloc (.cells zeroM.cells 45)) (w.heap.size + 1 + 1) zeroM) := by
      have := RowAt.new ((w.alloc (.cells m.cells 45)).alloc (.cells #[.int .i64 10, .int .i64 n, .int .i64 p] 47)) 45 136 zeroM.cell
      rw [show ((w.alloc (.cells m.cells 45)).alloc (.cells #[.int .i64 10, .int .i64 n, .int .i64 p] 47)).heap.size = w.heap.size + 1 + 1 by simp] at this
      exact this
    have a0 : World.cell? (((w.alloc (.cells m.cells 45)).alloc (.cells #[.int .i64 10, .int .i64 n, .int .i64 p] 47)).alloc (.cells zeroM.cells 45)) ⟨w.heap.size + 1, 0, none⟩ = some (.int .i64 10) := by simp [go_sem]
    have a1 : World.cell? (((w.alloc (.cells m.cells 45)).alloc (.cells #[.int .i64 10, .int .i64 n, .int .i64 p] 47)).alloc (.cells zeroM.cells 45)) ⟨w.heap.size + 1, 1, none⟩ = some (.int .i64 n) := by simp [go_sem]
    have a2 : World.cell? (((w.alloc (.cells m.cells 45)).alloc (.cells #[.int .i64 10, .int .i64 n, .int .i64 p] 47)).alloc (.cells zeroM.cells 45)) ⟨w.heap.size + 1, 2, none⟩ = some (.int .i64 p) := by simp [go_sem]
    generalize (((w.alloc (.cells m.cells 45)).alloc (.cells #[.int .i64 10, .int .i64 n, .int .i64 p] 47)).alloc (.cells zeroM.cells 45)) = V at *
    clear hz
    go_wp2_with fail
    refine (at_any 10 n p _).mono ?_
    rw [hq]
    rintro e w1 ⟨rfl, hb1⟩
    have HB1 : Hid (Below w.heap.size w w1) := HB.out.trans (hb1.mono HB.out.size)
    have HI1 : Hid (MemAt w1 w.heap.size m) := HI.out.to hb1
    have HR1 : Hid (MemAt w1 (w.heap.size + 1 + 1) zeroM) := HR.out.to hb1
    have c0 := HI1.out.cell (i := 117 + q) (by omega)
    have f0 := HI1.out.frozen (117 + q)
    have HS : Hid (MemAt (w1.setCell ⟨w.heap.size, 117 + q, none⟩ (.float .f64 v)) w.heap.size m') := (HI1.out.set (117 + q) (.float .f64 v)).ext HC.out
    have HR2 : Hid (MemAt (w1.setCell ⟨w.heap.size, 117 + q, none⟩ (.float .f64 v)) (w.heap.size + 1 + 1) zeroM) := HR1.out.other _ (by omega)
    have HB2 : Hid (Below w.heap.size w (w1.setCell ⟨w.heap.size, 117 + q, none⟩ (.float .f64 v))) := HB1.out.setCell (p := ⟨_, _, none⟩) (Nat.le_refl _) _
    clear hb1 HB HI HR HB1 HI1 HR1 HC hq a0 a1 a2
    go_wp2_with (first
      | refine wpList_rowLoad rfl 45 (.tmp 3) rfl _ 0 136 m'.cell rfl HS.out (by omega) (fun i _ => by rw [Nat.zero_add]) Tryd.underlying45 rfl (by kernel_rfl) ?_
      | (refine wpList_rowStore rfl 45 (.tmp 6) (.tmp 15) rfl _ 0 136 m'.cell m'.cell rfl rfl HR2.out (by omega) (fun i _ => cell_one m' i) (fun i hi => by rw [if_pos ⟨by omega, by omega⟩, Nat.sub_zero]) (by kernel_rfl) ?_; intro w2 HZ2 hz2 hk2 hb2))
    exact bodyPost_ret (v := .agg m'.cells) (resRow Tryd.results10 rfl HZ2 Tryd.underlying45 rfl (by kernel_rfl)) rfl ⟨rfl, hb2 _ _ HB2.out (by omega)⟩
end Go.Proofs.YtljhpagpohihcabDoor
