/- The document's DevText. Helper text: no statement is claimed here. -/
import Derived.Test.YtleopmhllbaalagDoorSc
namespace Go.Proofs.YtleopmhllbaalagDoor
open Go.ChangeShapes Go.WideShapes Go.ChangeAt Go.RowKit

theorem kz_out {k : Int} (h : rN (kz k) = 0) : rL (kz k) = [] := by
  unfold rN at h; unfold rL; split at h <;> simp_all
theorem rN_pos {k : Int} (h1 : 1 ≤ k) (h2 : k ≤ 10) : (rN (kz k) == 0) = false := by
  have : k = 1 ∨ k = 2 ∨ k = 3 ∨ k = 4 ∨ k = 5 ∨ k = 6 ∨ k = 7 ∨ k = 8 ∨ k = 9 ∨ k = 10 := by omega
  rcases this with rfl | rfl | rfl | rfl | rfl | rfl | rfl | rfl | rfl | rfl <;> decide +kernel
theorem ret_strv {s t : ByteArray} (h : s = t) : Ending.returned (.string s) = .returned (.string t) := by rw [h]
theorem letters_at {k : Int} (h1 : 1 ≤ k) (h2 : k ≤ 10) : (⟨#[88, 89, 77, 83, 69, 71, 84, 67, 68, 82]⟩ : ByteArray).extract (k - 1).toNat k.toNat = ⟨(rL (kz k)).toArray⟩ := by
  have : k = 1 ∨ k = 2 ∨ k = 3 ∨ k = 4 ∨ k = 5 ∨ k = 6 ∨ k = 7 ∨ k = 8 ∨ k = 9 ∨ k = 10 := by omega
  rcases this with rfl | rfl | rfl | rfl | rfl | rfl | rfl | rfl | rfl | rfl <;> rfl

set_option maxHeartbeats 400000 in
theorem sletter_any (k : Int) (w : World) :
    Calls Tryd.prog 32 #[.int .i64 k] w fun e w' => e = .returned (.string ⟨(rL (kz k)).toArray⟩) ∧ w' = w := by
  rcases kind_cases k with rfl | rfl | rfl | rfl | rfl | rfl | rfl | rfl | rfl | rfl | ⟨-, -, -, -, -, -, -, -, -, -, h0⟩
  case inr.inr.inr.inr.inr.inr.inr.inr.inr.inr =>
    have hz : (rN (kz k) == 0) = true := by simp [h0]
    have he : Hid (rL (kz k) = []) := kz_out h0
    clear h0
    go_enter Tryd.func32, Tryd.ntmps32
    go_wp2_with fail
    refine (ssize_any _ _).mono ?_
    rintro e w1 ⟨rfl, rfl⟩
    go_wp2
    go_ret
    exact ⟨ret_strv (by rw [he.out]), rfl⟩
  all_goals
    go_enter Tryd.func32, Tryd.ntmps32
    go_wp2_with fail
    refine (ssize_any _ _).mono ?_
    rintro e w1 ⟨rfl, rfl⟩
    simp only [kz, rN]
    go_wp2
    go_ret
    exact ⟨ret_strv rfl, rfl⟩

abbrev wordsO : Obj := .cells #[.string ⟨#[110, 97, 110]⟩, .string ⟨#[105, 110, 102]⟩, .string ⟨#[45, 105, 110, 102]⟩, .string ⟨#[45, 48, 46, 48]⟩] 9
set_option maxHeartbeats 400000 in
theorem words_any (w : World) :
    Calls Tryd.prog 31 #[] w fun e w' => e = .returned (.slice (some ⟨w.heap.size, 0, none⟩) 4 4) ∧ w' = w.alloc wordsO := by
  go_enter Tryd.func31, Tryd.ntmps31
  go_wp2
  go_ret
  exact ⟨rfl, rfl⟩
theorem words_at (w : World) (i : Nat) (h : i < 4) : (w.alloc wordsO).cell? ⟨w.heap.size, i, none⟩ = some (.string ⟨(wordL i).toArray⟩) := by
  rw [World.cell?_alloc_new]
  have : i = 0 ∨ i = 1 ∨ i = 2 ∨ i = 3 := by omega
  rcases this with rfl | rfl | rfl | rfl <;> rfl

set_option maxHeartbeats 400000 in
theorem stext_no (k n p : Int) (w : World) (h : okB k n p = false) :
    Calls Tryd.prog 12 #[.agg #[.int .i64 k, .int .i64 n, .int .i64 p]] w fun e w' => e = .returned (.string ⟨#[]⟩) ∧ Below w.heap.size w w' := by
  have hk : Hid (okB k n p = false) := h
  clear h
  go_enter Tryd.func12, Tryd.ntmps12
  go_wp2_with fail
  refine (sOk_any _ _ _ _).mono ?_
  rintro e w1 ⟨rfl, hb⟩
  rw [hk.out]
  go_wp2
  go_ret
  exact ⟨rfl, of_one hb⟩

set_option maxHeartbeats 400000 in
theorem stext_11 (n p : Int) (w : World) (h : okB 11 n p = true) :
    Calls Tryd.prog 12 #[.agg #[.int .i64 11, .int .i64 n, .int .i64 p]] w fun e w' => e = .returned (.string ⟨(Lib.itoa n).toArray⟩) ∧ Below w.heap.size w w' := by
  obtain ⟨n0, n1, -⟩ := okB_int h
  have hk : Hid (okB 11 n p = true) := h
  clear h
  go_enter Tryd.func12, Tryd.ntmps12
  go_wp2_with fail
  refine (sOk_any _ _ _ _).mono ?_
  rintro e w1 ⟨rfl, hb⟩
  rw [hk.out]
  obtain ⟨hc, hf⟩ := bcell hb
  go_wp2_with fail
  refine (dec_any _ _ (by omega) (by omega)).mono ?_
  rintro e w2 ⟨rfl, hb2⟩
  go_wp2
  go_ret
  exact ⟨rfl, of_two hb hb2⟩

set_option maxHeartbeats 400000 in
theorem stext_12 (n : Int) (p : Nat) (w : World) (h : okB 12 n p = true) :
    Calls Tryd.prog 12 #[.agg #[.int .i64 12, .int .i64 n, .int .i64 (p : Int)]] w fun e w' => e = .returned (.string ⟨(decT n p).toArray⟩) ∧ Below w.heap.size w w' := by
  obtain ⟨n0, n1, p0, p1⟩ := okB_dec h
  have hk : Hid (okB 12 n p = true) := h
  clear h
  go_enter Tryd.func12, Tryd.ntmps12
  go_wp2_with fail
  refine (sOk_any _ _ _ _).mono ?_
  rintro e w1 ⟨rfl, hb⟩
  rw [hk.out]
  obtain ⟨hc, hf⟩ := bcell hb
  go_wp2_with fail
  refine (sdec_any n p _ n0 n1 (by omega) (by omega)).mono ?_
  rintro e w2 ⟨rfl, hb2⟩
  go_wp2
  go_ret
  exact ⟨rfl, of_two hb hb2⟩

set_option maxHeartbeats 400000 in
theorem stext_13 (i : Nat) (p : Int) (w : World) (h : okB 13 i p = true) :
    Calls Tryd.prog 12 #[.agg #[.int .i64 13, .int .i64 (i : Int), .int .i64 p]] w fun e w' => e = .returned (.string ⟨(wordL i).toArray⟩) ∧ Below w.heap.size w w' := by
  obtain ⟨n0, n1, -⟩ := okB_word h
  have hk : Hid (okB 13 i p = true) := h
  clear h
  go_enter Tryd.func12, Tryd.ntmps12
  go_wp2_with fail
  refine (sOk_any _ _ _ _).mono ?_
  rintro e w1 ⟨rfl, hb⟩
  rw [hk.out]
  obtain ⟨c0, c1, c2⟩ := arg_at 13 i p w
  have d0 : w1.cell? ⟨w.heap.size, 0, none⟩ = some (.int .i64 13) := by rw [hb.cell (p := ⟨w.heap.size, 0, none⟩) (by simp)]; exact c0
  have d1 : w1.cell? ⟨w.heap.size, 1, none⟩ = some (.int .i64 (i : Int)) := by rw [hb.cell (p := ⟨w.heap.size, 1, none⟩) (by simp)]; exact c1
  clear c0 c1 c2
  have hw := words_at w1 i (by omega)
  have hlt : w.heap.size < w1.heap.size := by have := hb.size; simp at this; omega
  go_wp2
  go_region_with (go_at_call 31; refine (words_any _).mono ?_; rintro e w2 ⟨rfl, rfl⟩)
  all_goals go_wp2
  all_goals go_ret
  all_goals exact ⟨rfl, of_two hb ((one _ _).drew)⟩

theorem sletter_grown {W : World} {k : Int} (d : Nat) (os : Array Obj) :
    Calls Tryd.prog 32 #[.int .i64 k] (Sort.grow (redrawn W d) os) fun e w'' => e = .returned (.string ⟨(rL (kz k)).toArray⟩) ∧ ∃ q : Regrown, w'' = Sort.grow (redrawn W q.d) q.os :=
  (sletter_any _ _).mono fun _ _ ⟨he, hw⟩ => ⟨he, ⟨d, os⟩, hw⟩
theorem dec_grown {W : World} {n : Int} (h0 : 0 ≤ n) (h1 : n < 64) (d : Nat) (os : Array Obj) :
    Calls Tryd.prog 29 #[.int .i64 n] (Sort.grow (redrawn W d) os) fun e w'' => e = .returned (.string ⟨(Lib.itoa n).toArray⟩) ∧ ∃ q : Regrown, w'' = Sort.grow (redrawn W q.d) q.os :=
  Calls.regrown_of (dec_any _ _ (by omega) (by omega))

set_option maxHeartbeats 400000 in
theorem stext_dev (k n p : Int) (w : World) (h1 : k ≠ 11) (h2 : k ≠ 12) (h3 : k ≠ 13) (h : okB k n p = true) :
    Calls Tryd.prog 12 #[.agg #[.int .i64 k, .int .i64 n, .int .i64 p]] w fun e w' => e = .returned (.string ⟨(rL (kz k) ++ Lib.itoa n).toArray⟩) ∧ Below w.heap.size w w' := by
  obtain ⟨n0, n1, n2, n3, n4, n5⟩ := okB_device h1 h2 h3 h
  have e1 : (k == 11) = false := by simpa using h1
  have e2 : (k == 12) = false := by simpa using h2
  have e3 : (k == 13) = false := by simpa using h3
  have hl1 := rL_len (kz k)
  have hl2 := Lib.itoa_length_le n (by omega) (by omega)
  have hk : Hid (okB k n p = true) := h
  clear h h1 h2 h3 n2 n3
  go_enter Tryd.func12, Tryd.ntmps12
  go_wp2_with fail
  refine (sOk_any _ _ _ _).mono ?_
  rintro e w1 ⟨rfl, hb⟩
  rw [hk.out]
  obtain ⟨c0, c1, c2⟩ := arg_at k n p w
  have d0 : w1.cell? ⟨w.heap.size, 0, none⟩ = some (.int .i64 k) := by rw [hb.cell (p := ⟨w.heap.size, 0, none⟩) (by simp)]; exact c0
  have d1 : w1.cell? ⟨w.heap.size, 1, none⟩ = some (.int .i64 n) := by rw [hb.cell (p := ⟨w.heap.size, 1, none⟩) (by simp)]; exact c1
  clear c0 c1 c2
  have k0 := cell_regrown d0
  have k1 := cell_regrown d1
  go_wp2
  refine wp_region_quiet_below (by kernel_rfl) (by kernel_rfl) ?_
  repeat (first | go_big_quiet_step ((first | exact sletter_grown _ _ | exact dec_grown n0 n1 _ _)) | quiet_step ((first | exact sletter_grown _ _ | exact dec_grown n0 n1 _ _)))
  refine wpQuiet_nil ?_
  intro _ hw'
  obtain ⟨⟨dq, osq⟩, hw''⟩ := hw'
  subst hw''
  go_wp2
  go_ret
  exact ⟨ret_str (cat _ _), of_two hb (below_regrown _ dq osq)⟩

theorem stext_any (k n p : Int) (w : World) :
    Calls Tryd.prog 12 #[.agg #[.int .i64 k, .int .i64 n, .int .i64 p]] w fun e w' => e = .returned (.string ⟨(txt k n p).toArray⟩) ∧ Below w.heap.size w w' := by
  unfold txt
  cases h : okB k n p
  · simpa using stext_no k n p w h
  · simp only [if_true]
    by_cases h1 : k = 11
    · subst h1; simpa using stext_11 n p w h
    by_cases h2 : k = 12
    · subst h2
      obtain ⟨q, rfl⟩ := Int.eq_ofNat_of_zero_le (show 0 ≤ p by have := okB_dec h; omega)
      simpa using stext_12 n q w h
    by_cases h3 : k = 13
    · subst h3
      obtain ⟨i, rfl⟩ := Int.eq_ofNat_of_zero_le (okB_word h).1
      simpa using stext_13 i p w h
    simp only [h1, h2, h3, if_false]
    exact stext_dev k n p w h1 h2 h3 h
end Go.Proofs.YtleopmhllbaalagDoor
