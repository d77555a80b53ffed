/- DevOk, the program's and the document's. Helper text: no statement is claimed here. -/
import Derived.Test.YtljhpagpohihcabDoorDb
import Derived.WalkSmall
import Derived.Lib.QuietBelow
namespace Go.Proofs.YtljhpagpohihcabDoor
open Go.ChangeShapes Go.WideShapes Go.ChangeAt Go.RowKit

def okB (k n p : Int) : Bool := decide ((k = 11 ∧ -32768 ≤ n ∧ n ≤ 32767 ∧ p = 0) ∨ (k = 12 ∧ decOk n p = true) ∨ (k = 13 ∧ 0 ≤ n ∧ n < 4 ∧ p = 0) ∨ (k ≠ 11 ∧ k ≠ 12 ∧ k ≠ 13 ∧ 0 ≤ n ∧ n < rN (kz k) ∧ p = 0))
theorem okB_11 (n p : Int) : okB 11 n p = decide (-32768 ≤ n ∧ n ≤ 32767 ∧ p = 0) := by simp [okB]
theorem okB_12 (n p : Int) : okB 12 n p = decOk n p := by simp [okB]
theorem okB_13 (n p : Int) : okB 13 n p = decide (0 ≤ n ∧ n < 4 ∧ p = 0) := by simp [okB]
theorem okB_dev (k n p : Int) (h1 : k ≠ 11) (h2 : k ≠ 12) (h3 : k ≠ 13) : okB k n p = decide (0 ≤ n ∧ n < rN (kz k) ∧ p = 0) := by simp [okB, h1, h2, h3]
theorem rN_bd (i : Nat) : 0 ≤ rN i ∧ rN i ≤ 64 := by unfold rN; split <;> omega

theorem one (w : World) (o : Obj) : Below w.heap.size w (w.alloc o) := (Below.refl _ _).alloc (Nat.le_refl _) _

set_option maxHeartbeats 400000 in
theorem devOk_11 (n p : Int) (w : World) :
    Calls Tryd.prog 31 #[.agg #[.int .i64 11, .int .i64 n, .int .i64 p]] w fun e w' => e = .returned (.bool (okB 11 n p)) ∧ Below w.heap.size w w' := by
  rw [okB_11]
  go_enter Tryd.func31, Tryd.ntmps31
  go_wp2
  all_goals go_ret
  all_goals exact ⟨ret_bool (by rw [Bool.eq_iff_iff]; simp <;> omega), one _ _⟩

set_option maxHeartbeats 400000 in
theorem devOk_12 (n p : Int) (w : World) :
    Calls Tryd.prog 31 #[.agg #[.int .i64 12, .int .i64 n, .int .i64 p]] w fun e w' => e = .returned (.bool (okB 12 n p)) ∧ Below w.heap.size w w' := by
  rw [okB_12]
  go_enter Tryd.func31, Tryd.ntmps31
  go_wp2_with fail
  refine (decOk_any _ _ _).mono ?_
  rintro e w' ⟨rfl, rfl⟩
  go_wp2
  go_ret
  exact ⟨rfl, one _ _⟩

set_option maxHeartbeats 400000 in
theorem devOk_13 (n p : Int) (w : World) :
    Calls Tryd.prog 31 #[.agg #[.int .i64 13, .int .i64 n, .int .i64 p]] w fun e w' => e = .returned (.bool (okB 13 n p)) ∧ Below w.heap.size w w' := by
  rw [okB_13]
  go_enter Tryd.func31, Tryd.ntmps31
  go_wp2
  all_goals go_ret
  all_goals exact ⟨ret_bool (by rw [Bool.eq_iff_iff]; simp <;> omega), one _ _⟩

set_option maxHeartbeats 400000 in
theorem devOk_dev0 (k n p : Int) (w : World) (h1 : (k == 11) = false) (h2 : (k == 12) = false) (h3 : (k == 13) = false) (hn : n < 0) :
    Calls Tryd.prog 31 #[.agg #[.int .i64 k, .int .i64 n, .int .i64 p]] w fun e w' => e = .returned (.bool false) ∧ Below w.heap.size w w' := by
  have hd : decide (0 ≤ n) = false := by simp; omega
  go_enter Tryd.func31, Tryd.ntmps31
  go_wp2
  go_quiet (fail)
  go_wp2
  go_ret
  exact ⟨rfl, below_drewN (one _ _) _⟩
abbrev argO (k n p : Int) : Obj := .cells #[.int .i64 k, .int .i64 n, .int .i64 p] 47
theorem arg_at (k n p : Int) (w : World) : (w.alloc (argO k n p)).cell? ⟨w.heap.size, 0, none⟩ = some (.int .i64 k) ∧ (w.alloc (argO k n p)).cell? ⟨w.heap.size, 1, none⟩ = some (.int .i64 n) ∧ (w.alloc (argO k n p)).cell? ⟨w.heap.size, 2, none⟩ = some (.int .i64 p) := by
  refine ⟨?_, ?_, ?_⟩ <;> simp [go_sem]
theorem size_grown {k n p : Int} {w : World} (hT : DevTab w) (d : Nat) (os : Array Obj) :
    Calls Tryd.prog 30 #[.int .i64 k] (Sort.grow (redrawn (w.alloc (argO k n p)) d) os) fun e w'' => e = .returned (.int .i64 (rN (kz k))) ∧ ∃ p' : Regrown, w'' = Sort.grow (redrawn (w.alloc (argO k n p)) p'.d) p'.os :=
  Calls.regrown_of (size_any _ _ ((hT.alloc _).to (below_regrown _ d os)))

set_option maxHeartbeats 400000 in
theorem devOk_dev1 (k n p : Int) (w : World) (hT : DevTab w) (h1 : (k == 11) = false) (h2 : (k == 12) = false) (h3 : (k == 13) = false) (hn : 0 ≤ n) (hl : n < rN (kz k)) :
    Calls Tryd.prog 31 #[.agg #[.int .i64 k, .int .i64 n, .int .i64 p]] w fun e w' => e = .returned (.bool (p == 0)) ∧ Below w.heap.size w w' := by
  have hb := rN_bd (kz k)
  obtain ⟨c0, c1, c2⟩ := arg_at k n p w
  have k0 := cell_regrown c0
  have k1 := cell_regrown c1
  have k2 := cell_regrown c2
  clear c0 c1 c2
  go_enter Tryd.func31, Tryd.ntmps31
  go_wp2
  refine wp_region_quiet_below (by kernel_rfl) (by kernel_rfl) ?_
  repeat (first | go_big_quiet_step (exact size_grown hT _ _) | quiet_step (exact size_grown hT _ _))
  refine wpQuiet_nil ?_
  intro _ hw'
  obtain ⟨⟨dq, osq⟩, hw''⟩ := hw'
  subst hw''
  go_wp2
  go_ret
  exact ⟨rfl, (one _ _).trans ((below_regrown _ dq osq).mono (by simp))⟩
set_option maxHeartbeats 400000 in
theorem devOk_dev2 (k n p : Int) (w : World) (hT : DevTab w) (h1 : (k == 11) = false) (h2 : (k == 12) = false) (h3 : (k == 13) = false) (hn : 0 ≤ n) (hl : rN (kz k) ≤ n) :
    Calls Tryd.prog 31 #[.agg #[.int .i64 k, .int .i64 n, .int .i64 p]] w fun e w' => e = .returned (.bool false) ∧ Below w.heap.size w w' := by
  have hb := rN_bd (kz k)
  have hd : decide (n < rN (kz k)) = false := by simp; omega
  obtain ⟨c0, c1, c2⟩ := arg_at k n p w
  have k0 := cell_regrown c0
  have k1 := cell_regrown c1
  have k2 := cell_regrown c2
  clear c0 c1 c2
  go_enter Tryd.func31, Tryd.ntmps31
  go_wp2
  refine wp_region_quiet_below (by kernel_rfl) (by kernel_rfl) ?_
  repeat (first | go_big_quiet_step (exact size_grown hT _ _) | quiet_step (exact size_grown hT _ _))
  refine wpQuiet_nil ?_
  intro _ hw'
  obtain ⟨⟨dq, osq⟩, hw''⟩ := hw'
  subst hw''
  go_wp2
  go_ret
  exact ⟨rfl, (one _ _).trans ((below_regrown _ dq osq).mono (by simp))⟩

theorem of_one {w w1 : World} {o : Obj} (h : Below (w.alloc o).heap.size (w.alloc o) w1) : Below w.heap.size w w1 := (one w o).trans (h.mono (by simp))
theorem of_two {w w1 w2 : World} {o : Obj} (h : Below (w.alloc o).heap.size (w.alloc o) w1) (h2 : Below w1.heap.size w1 w2) : Below w.heap.size w w2 := (of_one h).trans (h2.mono (of_one h).size)

theorem devOk_any (k n p : Int) (w : World) (hT : DevTab w) :
    Calls Tryd.prog 31 #[.agg #[.int .i64 k, .int .i64 n, .int .i64 p]] w fun e w' => e = .returned (.bool (okB k n p)) ∧ Below w.heap.size w w' := by
  by_cases h1 : k = 11
  · subst h1; exact devOk_11 n p w
  by_cases h2 : k = 12
  · subst h2; exact devOk_12 n p w
  by_cases h3 : k = 13
  · subst h3; exact devOk_13 n p w
  rw [okB_dev k n p h1 h2 h3]
  have e1 : (k == 11) = false := by simpa using h1
  have e2 : (k == 12) = false := by simpa using h2
  have e3 : (k == 13) = false := by simpa using h3
  by_cases hn : n < 0
  · rw [show decide (0 ≤ n ∧ n < rN (kz k) ∧ p = 0) = false by simp; omega]
    exact devOk_dev0 k n p w e1 e2 e3 hn
  by_cases hl : n < rN (kz k)
  · rw [show decide (0 ≤ n ∧ n < rN (kz k) ∧ p = 0) = (p == 0) by rw [Bool.eq_iff_iff]; simp; omega]
    exact devOk_dev1 k n p w hT e1 e2 e3 (by omega) hl
  · rw [show decide (0 ≤ n ∧ n < rN (kz k) ∧ p = 0) = false by simp; omega]
    exact devOk_dev2 k n p w hT e1 e2 e3 (by omega) (by omega)
end Go.Proofs.YtljhpagpohihcabDoor
