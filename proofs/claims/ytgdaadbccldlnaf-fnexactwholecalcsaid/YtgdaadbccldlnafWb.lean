/- Reckoning with whole numbers: the document's own, and the walk of FnExactWholeCalc. Helper text: no statement is claimed here. -/
import Derived.Test.YtgdaadbccldlnafWa
namespace Go.Proofs.Ytgdaadbccldlnaf
open Go.ChangeShapes Go.WideShapes Go.ChangeAt Go.RowKit

theorem ret_i16 {a b : Int} (h : a = b) : Ending.returned (.int .i16 a) = .returned (.int .i16 b) := by rw [h]
set_option maxHeartbeats 400000 in
theorem swrap_any (n : Int) (w : World) (h1 : -1073741824 ≤ n) (h2 : n ≤ 1073741824) :
    Calls Try.prog 16 #[.int .i64 n] w fun e w' => e = .returned (.int .i16 (w16 n)) ∧ w' = w := by
  have hm : n.tmod 65536 = if n < 0 then -((-n) % 65536) else n % 65536 := by
    split
    · have : n.tmod 65536 = -((-n).tmod 65536) := by rw [Int.neg_tmod]; omega
      rw [this, Int.tmod_eq_emod_of_nonneg (by omega)]
    · exact Int.tmod_eq_emod_of_nonneg (by omega)
  have hb : -65535 ≤ n.tmod 65536 ∧ n.tmod 65536 ≤ 65535 := by rw [hm]; split <;> omega
  have hw : w16 n = if n.tmod 65536 < -32768 then n.tmod 65536 + 65536 else if 32767 < n.tmod 65536 then n.tmod 65536 - 65536 else n.tmod 65536 := by
    rw [hm]; unfold w16; split <;> split <;> (try split) <;> omega
  have HW : Hid (w16 n = _) := hw
  obtain ⟨b1, b2⟩ := hb
  clear hm hw
  by_cases c1 : n.tmod 65536 < -32768
  · have c2 : ¬ 32767 < n.tmod 65536 + 65536 := by omega
    go_enter Try.func16, Try.ntmps16
    go_wp2
    go_ret
    exact ⟨ret_i16 (by rw [HW.out]; split <;> (try split) <;> omega), rfl⟩
  · by_cases c2 : 32767 < n.tmod 65536
    · go_enter Try.func16, Try.ntmps16
      go_wp2
      go_ret
      exact ⟨ret_i16 (by rw [HW.out]; split <;> (try split) <;> omega), rfl⟩
    · go_enter Try.func16, Try.ntmps16
      go_wp2
      go_ret
      exact ⟨ret_i16 (by rw [HW.out]; split <;> (try split) <;> omega), rfl⟩
set_option maxHeartbeats 400000 in
theorem scalc_1 (a b : Int) (w : World) (ha : -32768 ≤ a) (ha2 : a ≤ 32767) (hb : -32768 ≤ b) (hb2 : b ≤ 32767) :
    Calls Try.prog 6 #[.int .i64 1, .int .i16 a, .int .i16 b] w fun e w' => e = .returned (.tuple #[.int .i16 (w16 (a + b)), .bool true]) ∧ w' = w := by
  go_enter Try.func6, Try.ntmps6
  go_wp2_with fail
  refine (swrap_any (a + b) _ (by omega) (by omega)).mono ?_
  rintro e w1 ⟨rfl, rfl⟩
  go_wp2
  exact bodyPost_ret (v := .tuple #[.int .i16 _, .bool true]) (post_cal Try.results6 rfl rfl rfl rfl rfl) rfl ⟨rfl, rfl⟩
set_option maxHeartbeats 400000 in
theorem scalc_2 (a b : Int) (w : World) (ha : -32768 ≤ a) (ha2 : a ≤ 32767) (hb : -32768 ≤ b) (hb2 : b ≤ 32767) :
    Calls Try.prog 6 #[.int .i64 2, .int .i16 a, .int .i16 b] w fun e w' => e = .returned (.tuple #[.int .i16 (w16 (a - b)), .bool true]) ∧ w' = w := by
  go_enter Try.func6, Try.ntmps6
  go_wp2_with fail
  refine (swrap_any (a - b) _ (by omega) (by omega)).mono ?_
  rintro e w1 ⟨rfl, rfl⟩
  go_wp2
  exact bodyPost_ret (v := .tuple #[.int .i16 _, .bool true]) (post_cal Try.results6 rfl rfl rfl rfl rfl) rfl ⟨rfl, rfl⟩
set_option maxHeartbeats 400000 in
theorem scalc_3 (a b : Int) (w : World) (ha : -32768 ≤ a) (ha2 : a ≤ 32767) (hb : -32768 ≤ b) (hb2 : b ≤ 32767) :
    Calls Try.prog 6 #[.int .i64 3, .int .i16 a, .int .i16 b] w fun e w' => e = .returned (.tuple #[.int .i16 (w16 (a * b)), .bool true]) ∧ w' = w := by
  have ⟨m1, m2⟩ := mul_bd ha ha2 hb hb2
  go_enter Try.func6, Try.ntmps6
  go_wp2_with fail
  refine (swrap_any (a * b) _ (by omega) (by omega)).mono ?_
  rintro e w1 ⟨rfl, rfl⟩
  go_wp2
  exact bodyPost_ret (v := .tuple #[.int .i16 _, .bool true]) (post_cal Try.results6 rfl rfl rfl rfl rfl) rfl ⟨rfl, rfl⟩
set_option maxHeartbeats 400000 in
theorem scalc_4 (a b : Int) (w : World) (ha : -32768 ≤ a) (ha2 : a ≤ 32767) (hb : -32768 ≤ b) (hb2 : b ≤ 32767) (h0 : (b == 0) = false) :
    Calls Try.prog 6 #[.int .i64 4, .int .i16 a, .int .i16 b] w fun e w' => e = .returned (.tuple #[.int .i16 (w16 (a.tdiv b)), .bool true]) ∧ w' = w := by
  have ⟨m1, m2⟩ := tdiv_bd b ha ha2
  go_enter Try.func6, Try.ntmps6
  go_wp2_with fail
  · rename_i hz; simp [hz] at h0
  refine (swrap_any (a.tdiv b) _ (by omega) (by omega)).mono ?_
  rintro e w1 ⟨rfl, rfl⟩
  go_wp2
  exact bodyPost_ret (v := .tuple #[.int .i16 _, .bool true]) (post_cal Try.results6 rfl rfl rfl rfl rfl) rfl ⟨rfl, rfl⟩
set_option maxHeartbeats 400000 in
theorem scalc_5 (a b : Int) (w : World) (ha : -32768 ≤ a) (ha2 : a ≤ 32767) (hb : -32768 ≤ b) (hb2 : b ≤ 32767) (h0 : (b == 0) = false) :
    Calls Try.prog 6 #[.int .i64 5, .int .i16 a, .int .i16 b] w fun e w' => e = .returned (.tuple #[.int .i16 (w16 (a.tmod b)), .bool true]) ∧ w' = w := by
  have ⟨m1, m2⟩ := tmod_bd b ha ha2
  go_enter Try.func6, Try.ntmps6
  go_wp2_with fail
  · rename_i hz; simp [hz] at h0
  refine (swrap_any (a.tmod b) _ (by omega) (by omega)).mono ?_
  rintro e w1 ⟨rfl, rfl⟩
  go_wp2
  exact bodyPost_ret (v := .tuple #[.int .i16 _, .bool true]) (post_cal Try.results6 rfl rfl rfl rfl rfl) rfl ⟨rfl, rfl⟩
set_option maxHeartbeats 400000 in
theorem scalc_40 (a : Int) (w : World) (ha : -32768 ≤ a) (ha2 : a ≤ 32767) :
    Calls Try.prog 6 #[.int .i64 4, .int .i16 a, .int .i16 0] w fun e w' => e = .returned (.tuple #[.int .i16 0, .bool false]) ∧ w' = w := by
  go_enter Try.func6, Try.ntmps6
  go_wp2
  exact bodyPost_ret (v := .tuple #[.int .i16 _, .bool false]) (post_cal Try.results6 rfl rfl rfl rfl rfl) rfl ⟨rfl, rfl⟩
set_option maxHeartbeats 400000 in
theorem scalc_50 (a : Int) (w : World) (ha : -32768 ≤ a) (ha2 : a ≤ 32767) :
    Calls Try.prog 6 #[.int .i64 5, .int .i16 a, .int .i16 0] w fun e w' => e = .returned (.tuple #[.int .i16 0, .bool false]) ∧ w' = w := by
  go_enter Try.func6, Try.ntmps6
  go_wp2
  exact bodyPost_ret (v := .tuple #[.int .i16 _, .bool false]) (post_cal Try.results6 rfl rfl rfl rfl rfl) rfl ⟨rfl, rfl⟩
set_option maxHeartbeats 400000 in
theorem scalc_no (op a b : Int) (w : World) (ha : -32768 ≤ a) (ha2 : a ≤ 32767) (hb : -32768 ≤ b) (hb2 : b ≤ 32767) (h1 : (op == 1) = false) (h2 : (op == 2) = false) (h3 : (op == 3) = false) (h4 : (op == 4) = false) (h5 : (op == 5) = false) :
    Calls Try.prog 6 #[.int .i64 op, .int .i16 a, .int .i16 b] w fun e w' => e = .returned (.tuple #[.int .i16 0, .bool false]) ∧ w' = w := by
  by_cases h0 : b = 0
  · subst h0
    go_enter Try.func6, Try.ntmps6
    go_wp2
    exact bodyPost_ret (v := .tuple #[.int .i16 _, .bool false]) (post_cal Try.results6 rfl rfl rfl rfl rfl) rfl ⟨rfl, rfl⟩
  · have h0' : (b == 0) = false := by simpa using h0
    clear h0
    go_enter Try.func6, Try.ntmps6
    go_wp2
    exact bodyPost_ret (v := .tuple #[.int .i16 _, .bool false]) (post_cal Try.results6 rfl rfl rfl rfl rfl) rfl ⟨rfl, rfl⟩

theorem scalc_any (op a b : Int) (w : World) (ha : -32768 ≤ a) (ha2 : a ≤ 32767) (hb : -32768 ≤ b) (hb2 : b ≤ 32767) :
    Calls Try.prog 6 #[.int .i64 op, .int .i16 a, .int .i16 b] w fun e w' => e = .returned (.tuple #[.int .i16 (wcN op a b), .bool (wcB op b)]) ∧ w' = w := by
  rcases ops op with rfl | rfl | rfl | rfl | rfl | ⟨h1, h2, h3, h4, h5⟩
  · exact scalc_1 a b w ha ha2 hb hb2
  · exact scalc_2 a b w ha ha2 hb hb2
  · exact scalc_3 a b w ha ha2 hb hb2
  · by_cases h : b = 0
    · subst h; exact scalc_40 a w ha ha2
    · rw [show wcN 4 a b = w16 (a.tdiv b) by simp [wcN, h], show wcB 4 b = true by simp [wcB, h]]
      exact scalc_4 a b w ha ha2 hb hb2 (by simpa using h)
  · by_cases h : b = 0
    · subst h; exact scalc_50 a w ha ha2
    · rw [show wcN 5 a b = w16 (a.tmod b) by simp [wcN, h], show wcB 5 b = true by simp [wcB, h]]
      exact scalc_5 a b w ha ha2 hb hb2 (by simpa using h)
  · have e := scalc_no op a b w ha ha2 hb hb2 h1 h2 h3 h4 h5
    simp only [beq_eq_false_iff_ne] at h1 h2 h3 h4 h5
    rw [show wcN op a b = 0 by simp [wcN, h1, h2, h3, h4, h5], show wcB op b = false by simp [wcB, h1, h2, h3, h4, h5]]
    exact e

set_option maxHeartbeats 400000 in
theorem calc_walk (op a b : Int) (w : World) (ha : -32768 ≤ a) (ha2 : a ≤ 32767) (hb : -32768 ≤ b) (hb2 : b ≤ 32767) :
    Calls Try.prog 3 #[.int .i64 op, .int .i16 a, .int .i16 b] w fun e w' => e = .returned (.bool true) ∧ w' = w := by
  go_enter Try.func3, Try.ntmps3
  go_wp2_with fail
  refine (scalc_any op a b _ ha ha2 hb hb2).mono ?_
  rintro e w1 ⟨rfl, rfl⟩
  go_wp2_with fail
  refine (calc_any op a b _ ha ha2 hb hb2).mono ?_
  rintro e w2 ⟨rfl, rfl⟩
  generalize wcN op a b = x
  generalize wcB op b = y
  go_wp2
  go_ret
  exact ⟨rfl, rfl⟩
end Go.Proofs.Ytgdaadbccldlnaf
