/- MemPutReal of the program. Helper text: no statement is claimed here. -/
import Derived.Test.YtljhpagpohihcabDoorYa
import Derived.Deep.Cut
namespace Go.Proofs.YtljhpagpohihcabDoor
open Go.ChangeShapes Go.WideShapes Go.ChangeAt Go.RowKit

theorem store_float2 (P : Program) (w : World) (a : Addr) (k : FloatKind) (x : Nat) (m : Mode) : (store a (.float k x) m).run P w = stored P w a (.float k x) m := run_store P w a _ m rfl
attribute [local go_sem] store_float2
/-- The memory with a register put. -/
def Mm.putR (m : Mm) (k n : Int) (v : Nat) : Mm := if k = 10 then { m with r := fun i => if i = (plc 10 n).toNat then v else m.r i } else m
theorem putR_cell (m : Mm) (n : Int) (v : Nat) (q : Nat) (hq : plc 10 n = (q : Int)) (hl : q < 16) (i : Nat) (_hi : i < 136) : (if i = 117 + q then .float .f64 v else m.cell i) = (m.putR 10 n v).cell i := by
  have e : m.putR 10 n v = { m with r := fun i => if i = q then v else m.r i } := by
    unfold Mm.putR
    rw [if_pos rfl, hq]
    rfl
  rw [e]
  by_cases h : 117 ≤ i ∧ i < 133
  · obtain ⟨j, rfl⟩ : ∃ j, i = 117 + j := ⟨i - 117, by omega⟩
    rw [Mm.cell_r _ (by omega), Mm.cell_r _ (by omega)]
    show _ = Value.float .f64 (if j = q then v else m.r j)
    by_cases hj : j = q
    · subst hj; rw [if_pos rfl, if_pos rfl]
    · rw [if_neg (by omega), if_neg hj]; rfl
  · rw [if_neg (by omega)]
    unfold Mm.cell
    by_cases h5 : i < 5
    · rw [if_pos h5, if_pos h5]
    · rw [if_neg h5, if_neg h5]
      by_cases h37 : i < 37
      · rw [if_pos h37, if_pos h37]; rfl
      · rw [if_neg h37, if_neg h37]
        by_cases h85 : i < 85
        · rw [if_pos h85, if_pos h85]; rfl
        · rw [if_neg h85, if_neg h85]
          by_cases h117 : i < 117
          · rw [if_pos h117, if_pos h117]; first | omega | rfl
          · rw [if_neg h117, if_neg h117]
            by_cases h133 : i < 133
            · rw [if_pos h133, if_pos h133]; first | omega | rfl
            · rw [if_neg h133, if_neg h133]

set_option maxHeartbeats 1000000 in
set_option maxRecDepth 10000 in
theorem iPutR_any (m : Mm) (k n p : Int) (v : Nat) (w : World) (hT : DevTab w) :
    Calls Tryd.prog 11 #[m.val, .agg #[.int .i64 k, .int .i64 n, .int .i64 p], .float .f64 v] w fun e w' => e = .returned (m.putR k n v).val ∧ Below w.heap.size w w' := by
  have HT : Hid (DevTab w) := hT
  clear hT
  have hz : ∀ w, (zeroValue 45).run Tryd.prog w = .ok (.agg zeroM.cells) w := fun _ => by kernel_rfl
  unfold Mm.val
  by_cases hk : k = 10
  case neg =>
    rw [show m.putR k n v = m from if_neg hk]
    have hk' : (k == 10) = false := by simpa using hk
    clear hk
    go_enter Tryd.func11, Tryd.ntmps11
    go_upto_region 1 with fail
    have HB : Hid (Below w.heap.size w (((w.alloc (.cells m.cells 45)).alloc (.cells #[.int .i64 k, .int .i64 n, .int .i64 p] 47)).alloc (.cells zeroM.cells 45))) := (((Below.refl _ _).alloc (Nat.le_refl _) _).alloc (by simp) _).alloc (by simp; omega) _
    have HI : Hid (MemAt (((w.alloc (.cells m.cells 45)).alloc (.cells #[.int .i64 k, .int .i64 n, .int .i64 p] 47)).alloc (.cells zeroM.cells 45)) w.heap.size m) := ((RowAt.new w 45 136 m.cell).alloc _).alloc _
    have HR : Hid (MemAt (((w.alloc (.cells m.cells 45)).alloc (.cells #[.int .i64 k, .int .i64 n, .int .i64 p] 47)).alloc (.cells zeroM.cells 45)) (w.heap.size + 1 + 1) zeroM) := by
      have := RowAt.new ((w.alloc (.cells m.cells 45)).alloc (.cells #[.int .i64 k, .int .i64 n, .int .i64 p] 47)) 45 136 zeroM.cell
      rw [show ((w.alloc (.cells m.cells 45)).alloc (.cells #[.int .i64 k, .int .i64 n, .int .i64 p] 47)).heap.size = w.heap.size + 1 + 1 by simp] at this
      exact this
    have a0 : World.cell? (((w.alloc (.cells m.cells 45)).alloc (.cells #[.int .i64 k, .int .i64 n, .int .i64 p] 47)).alloc (.cells zeroM.cells 45)) ⟨w.heap.size + 1, 0, none⟩ = some (.int .i64 k) := by simp [go_sem]
    have a1 : World.cell? (((w.alloc (.cells m.cells 45)).alloc (.cells #[.int .i64 k, .int .i64 n, .int .i64 p] 47)).alloc (.cells zeroM.cells 45)) ⟨w.heap.size + 1, 1, none⟩ = some (.int .i64 n) := by simp [go_sem]
    have a2 : World.cell? (((w.alloc (.cells m.cells 45)).alloc (.cells #[.int .i64 k, .int .i64 n, .int .i64 p] 47)).alloc (.cells zeroM.cells 45)) ⟨w.heap.size + 1, 2, none⟩ = some (.int .i64 p) := by simp [go_sem]
    generalize (((w.alloc (.cells m.cells 45)).alloc (.cells #[.int .i64 k, .int .i64 n, .int .i64 p] 47)).alloc (.cells zeroM.cells 45)) = V at *
    clear hz
    go_wp2_with (first
      | refine wpList_rowLoad rfl 45 (.tmp 3) rfl _ 0 136 m.cell rfl HI.out (by omega) (fun i _ => by rw [Nat.zero_add]) Tryd.underlying45 rfl (by kernel_rfl) ?_
      | (refine wpList_rowStore rfl 45 (.tmp 6) (.tmp 15) rfl _ 0 136 m.cell m.cell rfl rfl HR.out (by omega) (fun i _ => cell_one m i) (fun i hi => by rw [if_pos ⟨by omega, by omega⟩, Nat.sub_zero]) (by kernel_rfl) ?_; intro w2 HZ2 hz2 hk2 hb2))
    exact bodyPost_ret (v := .agg m.cells) (resRow Tryd.results11 rfl HZ2 Tryd.underlying45 rfl (by kernel_rfl)) rfl ⟨rfl, hb2 _ _ HB.out (by omega)⟩
  case pos =>
    subst hk
    obtain ⟨q, hq⟩ := Int.eq_ofNat_of_zero_le (plc_range 10 n).1
    have hlt : q < 16 := by
      have := (plc_range 10 n).2
      rw [hq, show sz4 10 = 16 from rfl] at this
      omega
    have hlt' : (q : Int) < 16 := by omega
    have HC : Hid (∀ i, i < 136 → (if i = 117 + q then .float .f64 v else m.cell i) = (m.putR 10 n v).cell i) := putR_cell m n v q hq hlt
    generalize m.putR 10 n v = m' at *
    go_enter Tryd.func11, Tryd.ntmps11
    go_upto_region 1 with fail
    have HB : Hid (Below w.heap.size w (((w.alloc (.cells m.cells 45)).alloc (.cells #[.int .i64 10, .int .i64 n, .int .i64 p] 47)).alloc (.cells zeroM.cells 45))) := (((Below.refl _ _).alloc (Nat.le_refl _) _).alloc (by simp) _).alloc (by simp; omega) _
    have HI : Hid (MemAt (((w.alloc (.cells m.cells 45)).alloc (.cells #[.int .i64 10, .int .i64 n, .int .i64 p] 47)).alloc (.cells zeroM.cells 45)) w.heap.size m) := ((RowAt.new w 45 136 m.cell).alloc _).alloc _
    have HR : Hid (MemAt (((w.alloc (.cells m.cells 45)).alloc (.cells #[.int .i64 10, .int .i64 n, .int .i64 p] 47)).alloc (.cells zeroM.cells 45)) (w.heap.size + 1 + 1) zeroM) := by
      have := RowAt.new ((w.alloc (.cells m.cells 45)).alloc (.cells #[.int .i64 10, .int .i64 n, .int .i64 p] 47)) 45 136 zeroM.cell
      rw [show ((w.alloc (.cells m.cells 45)).alloc (.cells #[.int .i64 10, .int .i64 n, .int .i64 p] 47)).heap.size = w.heap.size + 1 + 1 by simp] at this
      exact this
    have a0 : World.cell? (((w.alloc (.cells m.cells 45)).alloc (.cells #[.int .i64 10, .int .i64 n, .int .i64 p] 47)).alloc (.cells zeroM.cells 45)) ⟨w.heap.size + 1, 0, none⟩ = some (.int .i64 10) := by simp [go_sem]
    have a1 : World.cell? (((w.alloc (.cells m.cells 45)).alloc (.cells #[.int .i64 10, .int .i64 n, .int .i64 p] 47)).alloc (.cells zeroM.cells 45)) ⟨w.heap.size + 1, 1, none⟩ = some (.int .i64 n) := by simp [go_sem]
    have a2 : World.cell? (((w.alloc (.cells m.cells 45)).alloc (.cells #[.int .i64 10, .int .i64 n, .int .i64 p] 47)).alloc (.cells zeroM.cells 45)) ⟨w.heap.size + 1, 2, none⟩ = some (.int .i64 p) := by simp [go_sem]
    generalize (((w.alloc (.cells m.cells 45)).alloc (.cells #[.int .i64 10, .int .i64 n, .int .i64 p] 47)).alloc (.cells zeroM.cells 45)) = V at *
    clear hz
    go_wp2_with fail
    refine (place_any 10 n p _ (HT.out.to HB.out)).mono ?_
    rw [hq]
    rintro e w1 ⟨rfl, hb1⟩
    have HB1 : Hid (Below w.heap.size w w1) := HB.out.trans (hb1.mono HB.out.size)
    have HI1 : Hid (MemAt w1 w.heap.size m) := HI.out.to hb1
    have HR1 : Hid (MemAt w1 (w.heap.size + 1 + 1) zeroM) := HR.out.to hb1
    have c0 := HI1.out.cell (i := 117 + q) (by omega)
    have f0 := HI1.out.frozen (117 + q)
    have HS : Hid (MemAt (w1.setCell ⟨w.heap.size, 117 + q, none⟩ (.float .f64 v)) w.heap.size m') := (HI1.out.set (117 + q) (.float .f64 v)).ext HC.out
    have HR2 : Hid (MemAt (w1.setCell ⟨w.heap.size, 117 + q, none⟩ (.float .f64 v)) (w.heap.size + 1 + 1) zeroM) := HR1.out.other _ (by omega)
    have HB2 : Hid (Below w.heap.size w (w1.setCell ⟨w.heap.size, 117 + q, none⟩ (.float .f64 v))) := HB1.out.setCell (p := ⟨_, _, none⟩) (Nat.le_refl _) _
    clear hb1 HB HI HR HB1 HI1 HR1 HC hq a0 a1 a2
    go_wp2_with (first
      | refine wpList_rowLoad rfl 45 (.tmp 3) rfl _ 0 136 m'.cell rfl HS.out (by omega) (fun i _ => by rw [Nat.zero_add]) Tryd.underlying45 rfl (by kernel_rfl) ?_
      | (refine wpList_rowStore rfl 45 (.tmp 6) (.tmp 15) rfl _ 0 136 m'.cell m'.cell rfl rfl HR2.out (by omega) (fun i _ => cell_one m' i) (fun i hi => by rw [if_pos ⟨by omega, by omega⟩, Nat.sub_zero]) (by kernel_rfl) ?_; intro w2 HZ2 hz2 hk2 hb2))
    exact bodyPost_ret (v := .agg m'.cells) (resRow Tryd.results11 rfl HZ2 Tryd.underlying45 rfl (by kernel_rfl)) rfl ⟨rfl, hb2 _ _ HB2.out (by omega)⟩

theorem putR_real {m : Mm} (h : m.Ok) {v : Nat} (hv : v < 2 ^ 64) (k n : Int) (i : Nat) : (m.putR k n v).r i < 2 ^ 64 := by
  unfold Mm.putR
  split
  · show (if i = (plc 10 n).toNat then v else m.r i) < 2 ^ 64
    split
    · exact hv
    · exact h.hr i
  · exact h.hr i
end Go.Proofs.YtljhpagpohihcabDoor
