/- The document's DevOk. Helper text: no statement is claimed here. -/
import Derived.Test.YtljhpagpohihcabDoorDz
namespace Go.Proofs.YtljhpagpohihcabDoor
open Go.ChangeShapes Go.WideShapes Go.ChangeAt Go.RowKit

set_option maxHeartbeats 400000 in
theorem sOk_11 (n p : Int) (w : World) :
    Calls Tryd.prog 26 #[.agg #[.int .i64 11, .int .i64 n, .int .i64 p]] w fun e w' => e = .returned (.bool (okB 11 n p)) ∧ Below w.heap.size w w' := by
  rw [okB_11]
  go_enter Tryd.func26, Tryd.ntmps26
  go_wp2
  all_goals go_ret
  all_goals exact ⟨ret_bool (by rw [Bool.eq_iff_iff]; simp <;> omega), one _ _⟩

set_option maxHeartbeats 400000 in
theorem sOk_12 (n p : Int) (w : World) :
    Calls Tryd.prog 26 #[.agg #[.int .i64 12, .int .i64 n, .int .i64 p]] w fun e w' => e = .returned (.bool (okB 12 n p)) ∧ Below w.heap.size w w' := by
  rw [okB_12]
  by_cases h5 : p = 1
  · subst h5
    go_enter Tryd.func26, Tryd.ntmps26
    go_wp2
    all_goals go_ret
    all_goals exact ⟨ret_bool (by rw [Bool.eq_iff_iff]; simp [decOk] <;> omega), one _ _⟩
  · have h5' : (p == 1) = false := by simpa using h5
    have h6 : Hid (p ≠ 1) := h5
    clear h5
    go_enter Tryd.func26, Tryd.ntmps26
    go_wp2
    all_goals go_ret
    all_goals exact ⟨ret_bool (by have h7 := h6.out; rw [Bool.eq_iff_iff]; simp [decOk, h7] <;> omega), one _ _⟩

set_option maxHeartbeats 400000 in
theorem sOk_13 (n p : Int) (w : World) :
    Calls Tryd.prog 26 #[.agg #[.int .i64 13, .int .i64 n, .int .i64 p]] w fun e w' => e = .returned (.bool (okB 13 n p)) ∧ Below w.heap.size w w' := by
  rw [okB_13]
  go_enter Tryd.func26, Tryd.ntmps26
  go_wp2
  all_goals go_ret
  all_goals exact ⟨ret_bool (by rw [Bool.eq_iff_iff]; simp <;> omega), one _ _⟩

set_option maxHeartbeats 400000 in
theorem sOk_dev (k n p : Int) (w : World) (h1 : (k == 11) = false) (h2 : (k == 12) = false) (h3 : (k == 13) = false) :
    Calls Tryd.prog 26 #[.agg #[.int .i64 k, .int .i64 n, .int .i64 p]] w fun e w' => e = .returned (.bool (decide (0 ≤ n ∧ n < rN (kz k) ∧ p = 0))) ∧ Below w.heap.size w w' := by
  have hb := rN_bd (kz k)
  by_cases hn : n < 0
  · rw [show decide (0 ≤ n ∧ n < rN (kz k) ∧ p = 0) = false by simp; omega]
    have hd : decide (0 ≤ n) = false := by simp; omega
    go_enter Tryd.func26, Tryd.ntmps26
    go_wp2
    go_quiet (fail)
    go_wp2
    go_ret
    exact ⟨rfl, below_drewN (one _ _) _⟩
  have hn : 0 ≤ n := by omega
  by_cases hl : n < rN (kz k)
  · rw [show decide (0 ≤ n ∧ n < rN (kz k) ∧ p = 0) = (p == 0) by rw [Bool.eq_iff_iff]; simp; omega]
    go_enter Tryd.func26, Tryd.ntmps26
    go_wp2
    go_quiet ((go_at_call 25; exact Calls.quiet_of_same (ssize_any _ _)))
    go_wp2
    go_ret
    exact ⟨rfl, below_drewN (one _ _) _⟩
  · rw [show decide (0 ≤ n ∧ n < rN (kz k) ∧ p = 0) = false by simp; omega]
    have hd : decide (n < rN (kz k)) = false := by simp; omega
    go_enter Tryd.func26, Tryd.ntmps26
    go_wp2
    go_quiet ((go_at_call 25; exact Calls.quiet_of_same (ssize_any _ _)))
    go_wp2
    go_ret
    exact ⟨rfl, below_drewN (one _ _) _⟩

theorem sOk_any (k n p : Int) (w : World) :
    Calls Tryd.prog 26 #[.agg #[.int .i64 k, .int .i64 n, .int .i64 p]] w fun e w' => e = .returned (.bool (okB k n p)) ∧ Below w.heap.size w w' := by
  by_cases h1 : k = 11
  · subst h1; exact sOk_11 n p w
  by_cases h2 : k = 12
  · subst h2; exact sOk_12 n p w
  by_cases h3 : k = 13
  · subst h3; exact sOk_13 n p w
  rw [okB_dev k n p h1 h2 h3]
  exact sOk_dev k n p w (by simpa using h1) (by simpa using h2) (by simpa using h3)

theorem okB_kind {k n p : Int} (h : okB k n p = true) : 1 ≤ k ∧ k ≤ 13 := by
  by_cases hk : 1 ≤ k ∧ k ≤ 13
  · exact hk
  · rw [okB_dev k n p (by omega) (by omega) (by omega), kz_no k (by omega)] at h
    simp [rN] at h
    omega
theorem kinds {k : Int} (h : 1 ≤ k ∧ k ≤ 13) : k = 1 ∨ k = 2 ∨ k = 3 ∨ k = 4 ∨ k = 5 ∨ k = 6 ∨ k = 7 ∨ k = 8 ∨ k = 9 ∨ k = 10 ∨ k = 11 ∨ k = 12 ∨ k = 13 := by omega

end Go.Proofs.YtljhpagpohihcabDoor
