/- DevIsBit, DevIsWhole, DevIsReal, and the document's own. Helper text: no statement is claimed here. -/
import Derived.Test.YtkffgjagiihppaaDoorDc
namespace Go.Proofs.YtkffgjagiihppaaDoor
open Go.ChangeShapes Go.WideShapes Go.ChangeAt Go.RowKit
attribute [local go_sem] field_0 field_1 field_2 field_3 field_4

def isB (k n p : Int) : Bool := okB k n p && rB (kz k)
def isW (k n p : Int) : Bool := okB k n p && rW (kz k)
def isR (k n p : Int) : Bool := okB k n p && rR (kz k)

theorem of_one {w w1 : World} {o : Obj} (h : Below (w.alloc o).heap.size (w.alloc o) w1) : Below w.heap.size w w1 := (one w o).trans (h.mono (by simp))
theorem of_two {w w1 w2 : World} {o : Obj} (h : Below (w.alloc o).heap.size (w.alloc o) w1) (h2 : Below w1.heap.size w1 w2) : Below w.heap.size w w2 := (of_one h).trans (h2.mono (of_one h).size)

set_option maxHeartbeats 400000 in
theorem isBit_any (k n p : Int) (w : World) (hT : DevTab w) :
    Calls Tryd.prog 13 #[.agg #[.int .i64 k, .int .i64 n, .int .i64 p]] w fun e w' => e = .returned (.bool (isB k n p)) ∧ Below w.heap.size w w' := by
  cases hok : okB k n p
  · rw [show isB k n p = false by simp [isB, hok]]
    have hk : Hid (okB k n p = false) := hok
    clear hok
    go_enter Tryd.func13, Tryd.ntmps13
    go_wp2_with fail
    refine (devOk_any _ _ _ _ (hT.alloc _)).mono ?_
    rintro e w' ⟨rfl, hb⟩
    rw [hk.out]
    go_wp2
    go_ret
    exact ⟨rfl, of_one hb⟩
  · rw [show isB k n p = rB (kz k) by simp [isB, hok]]
    have hk : Hid (okB k n p = true) := hok
    clear hok
    go_enter Tryd.func13, Tryd.ntmps13
    go_wp2_with fail
    refine (devOk_any _ _ _ _ (hT.alloc _)).mono ?_
    rintro e w' ⟨rfl, hb⟩
    rw [hk.out]
    obtain ⟨hc, hf⟩ := bcell hb
    go_wp2_with fail
    refine (rowOf_any _ _ ((hT.alloc _).to hb)).mono ?_
    rintro e w2 ⟨rfl, hb2⟩
    go_wp2
    go_ret
    exact ⟨rfl, of_two hb hb2⟩

set_option maxHeartbeats 400000 in
theorem isWhole_any (k n p : Int) (w : World) (hT : DevTab w) :
    Calls Tryd.prog 14 #[.agg #[.int .i64 k, .int .i64 n, .int .i64 p]] w fun e w' => e = .returned (.bool (isW k n p)) ∧ Below w.heap.size w w' := by
  cases hok : okB k n p
  · rw [show isW k n p = false by simp [isW, hok]]
    have hk : Hid (okB k n p = false) := hok
    clear hok
    go_enter Tryd.func14, Tryd.ntmps14
    go_wp2_with fail
    refine (devOk_any _ _ _ _ (hT.alloc _)).mono ?_
    rintro e w' ⟨rfl, hb⟩
    rw [hk.out]
    go_wp2
    go_ret
    exact ⟨rfl, of_one hb⟩
  · rw [show isW k n p = rW (kz k) by simp [isW, hok]]
    have hk : Hid (okB k n p = true) := hok
    clear hok
    go_enter Tryd.func14, Tryd.ntmps14
    go_wp2_with fail
    refine (devOk_any _ _ _ _ (hT.alloc _)).mono ?_
    rintro e w' ⟨rfl, hb⟩
    rw [hk.out]
    obtain ⟨hc, hf⟩ := bcell hb
    go_wp2_with fail
    refine (rowOf_any _ _ ((hT.alloc _).to hb)).mono ?_
    rintro e w2 ⟨rfl, hb2⟩
    go_wp2
    go_ret
    exact ⟨rfl, of_two hb hb2⟩

set_option maxHeartbeats 400000 in
theorem isReal_any (k n p : Int) (w : World) (hT : DevTab w) :
    Calls Tryd.prog 15 #[.agg #[.int .i64 k, .int .i64 n, .int .i64 p]] w fun e w' => e = .returned (.bool (isR k n p)) ∧ Below w.heap.size w w' := by
  cases hok : okB k n p
  · rw [show isR k n p = false by simp [isR, hok]]
    have hk : Hid (okB k n p = false) := hok
    clear hok
    go_enter Tryd.func15, Tryd.ntmps15
    go_wp2_with fail
    refine (devOk_any _ _ _ _ (hT.alloc _)).mono ?_
    rintro e w' ⟨rfl, hb⟩
    rw [hk.out]
    go_wp2
    go_ret
    exact ⟨rfl, of_one hb⟩
  · rw [show isR k n p = rR (kz k) by simp [isR, hok]]
    have hk : Hid (okB k n p = true) := hok
    clear hok
    go_enter Tryd.func15, Tryd.ntmps15
    go_wp2_with fail
    refine (devOk_any _ _ _ _ (hT.alloc _)).mono ?_
    rintro e w' ⟨rfl, hb⟩
    rw [hk.out]
    obtain ⟨hc, hf⟩ := bcell hb
    go_wp2_with fail
    refine (rowOf_any _ _ ((hT.alloc _).to hb)).mono ?_
    rintro e w2 ⟨rfl, hb2⟩
    go_wp2
    go_ret
    exact ⟨rfl, of_two hb hb2⟩

/-! The document's own. -/
theorem kind_cases (k : Int) : k = 1 ∨ k = 2 ∨ k = 3 ∨ k = 4 ∨ k = 5 ∨ k = 6 ∨ k = 7 ∨ k = 8 ∨ k = 9 ∨ k = 10 ∨ ((k == 1) = false ∧ (k == 2) = false ∧ (k == 3) = false ∧ (k == 4) = false ∧ (k == 5) = false ∧ (k == 6) = false ∧ (k == 7) = false ∧ (k == 8) = false ∧ (k == 9) = false ∧ (k == 10) = false ∧ rN (kz k) = 0) := by
  by_cases h : 1 ≤ k ∧ k ≤ 10
  · omega
  · right; right; right; right; right; right; right; right; right; right
    simp only [beq_eq_false_iff_ne, ne_eq]
    refine ⟨by omega, by omega, by omega, by omega, by omega, by omega, by omega, by omega, by omega, by omega, ?_⟩
    by_cases h2 : 1 ≤ k ∧ k ≤ 13
    · have : k = 11 ∨ k = 12 ∨ k = 13 := by omega
      rcases this with rfl | rfl | rfl <;> rfl
    · unfold kz; rw [if_neg h2]; rfl

set_option maxHeartbeats 400000 in
theorem ssize_any (k : Int) (w : World) :
    Calls Tryd.prog 37 #[.int .i64 k] w fun e w' => e = .returned (.int .i64 (rN (kz k))) ∧ w' = w := by
  rcases kind_cases k with rfl | rfl | rfl | rfl | rfl | rfl | rfl | rfl | rfl | rfl | ⟨h1, h2, h3, h4, h5, h6, h7, h8, h9, h10, h0⟩
  case inr.inr.inr.inr.inr.inr.inr.inr.inr.inr =>
    rw [h0]
    clear h0
    go_enter Tryd.func37, Tryd.ntmps37
    go_wp2
    go_ret
    exact ⟨rfl, rfl⟩
  all_goals
    go_enter Tryd.func37, Tryd.ntmps37
    go_wp2
    go_ret
    exact ⟨rfl, rfl⟩
end Go.Proofs.YtkffgjagiihppaaDoor
