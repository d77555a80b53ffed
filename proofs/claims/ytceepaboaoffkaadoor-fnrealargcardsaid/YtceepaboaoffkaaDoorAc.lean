/- RealArg of the document. Helper text: no statement is claimed here. -/
import Derived.Test.YtceepaboaoffkaaDoorAb
namespace Go.Proofs.YtceepaboaoffkaaDoor
open Go.ChangeShapes Go.WideShapes Go.ChangeAt Go.RowKit Fl

/-! The document's own. -/
set_option maxHeartbeats 400000 in
theorem sarg_bad (k n p : Int) (w : World) (hok : okB k n p = false) : Calls Tryd.prog 23 #[.agg #[.int .i64 k, .int .i64 n, .int .i64 p]] w (ArgCame k n p w) := by
  have HO : Hid (okB k n p = false) := hok
  clear hok
  go_enter Tryd.func23, Tryd.ntmps23
  go_wp2_with fail
  refine (sOk_any _ _ _ _).mono ?_
  rintro e w1 ⟨rfl, hb⟩
  rw [HO.out]
  go_wp2
  go_ret
  exact ⟨0, rfl, ⟨by omega, .inr (.inr ⟨by rw [HO.out]; simp, rfl⟩)⟩, of_one hb⟩
set_option maxHeartbeats 400000 in
theorem sarg_13 (n p : Int) (w : World) (hok : okB 13 n p = true) : Calls Tryd.prog 23 #[.agg #[.int .i64 13, .int .i64 n, .int .i64 p]] w (ArgCame 13 n p w) := by
  have HO : Hid (okB 13 n p = true) := hok
  clear hok
  go_enter Tryd.func23, Tryd.ntmps23
  go_wp2_with fail
  refine (sOk_any _ _ _ _).mono ?_
  rintro e w1 ⟨rfl, hb⟩
  rw [HO.out]
  obtain ⟨c0, c1, c2⟩ := arg_at 13 n p w
  have hlt : w.heap.size < (w.alloc (argO 13 n p)).heap.size := by simp
  rw [← hb.cell (p := ⟨w.heap.size, 0, none⟩) hlt] at c0
  rw [← hb.cell (p := ⟨w.heap.size, 1, none⟩) hlt] at c1
  go_wp2_with fail
  refine (sword_any n _).mono ?_
  rintro e w2 ⟨r, rfl, hr, hb2⟩
  have HR : Hid (WordR n r) := hr
  clear hr
  go_wp2
  go_ret
  exact ⟨r, rfl, ⟨HR.out.1, .inr (.inl ⟨HO.out, rfl, HR.out⟩)⟩, of_two hb hb2⟩
set_option maxHeartbeats 400000 in
theorem sarg_no (k n p : Int) (w : World) (hok : okB k n p = true) (h1 : (k == 12) = false) (h2 : (k == 13) = false) (h1' : (k != 12) = true) : Calls Tryd.prog 23 #[.agg #[.int .i64 k, .int .i64 n, .int .i64 p]] w (ArgCame k n p w) := by
  have H : Hid (k ≠ 12 ∧ k ≠ 13) := ⟨by simpa using h1, by simpa using h2⟩
  have HO : Hid (okB k n p = true) := hok
  clear hok
  go_enter Tryd.func23, Tryd.ntmps23
  go_wp2_with fail
  refine (sOk_any _ _ _ _).mono ?_
  rintro e w1 ⟨rfl, hb⟩
  rw [HO.out]
  obtain ⟨c0, c1, c2⟩ := arg_at k n p w
  have hlt : w.heap.size < (w.alloc (argO k n p)).heap.size := by simp
  rw [← hb.cell (p := ⟨w.heap.size, 0, none⟩) hlt] at c0
  go_wp2
  go_ret
  exact ⟨0, rfl, ⟨by omega, .inr (.inr ⟨by have := H.out; omega, rfl⟩)⟩, of_one hb⟩
set_option maxHeartbeats 400000 in
theorem sarg_12 (n : Int) (p : Nat) (w : World) (hok : okB 12 n (p : Int) = true) : Calls Tryd.prog 23 #[.agg #[.int .i64 12, .int .i64 n, .int .i64 (p : Int)]] w (ArgCame 12 n (p : Int) w) := by
  obtain ⟨h0, h9, p1, p6⟩ := decOk_in hok
  have HO : Hid (okB 12 n (p : Int) = true) := hok
  clear hok
  go_enter Tryd.func23, Tryd.ntmps23
  go_wp2_with fail
  refine (sOk_any _ _ _ _).mono ?_
  rintro e w1 ⟨rfl, hb⟩
  rw [HO.out]
  obtain ⟨c0, c1, c2⟩ := arg_at 12 n (p : Int) w
  have hlt : w.heap.size < (w.alloc (argO 12 n (p : Int))).heap.size := by simp
  rw [← hb.cell (p := ⟨w.heap.size, 0, none⟩) hlt] at c0
  rw [← hb.cell (p := ⟨w.heap.size, 1, none⟩) hlt] at c1
  rw [← hb.cell (p := ⟨w.heap.size, 2, none⟩) hlt] at c2
  go_wp2
  go_loop [3, 4] (fun t c => ∃ k : Nat, k ≤ p ∧ t = .int .i64 ((10 ^ k : Nat) : Int) ∧ c = .int .i64 (k : Int)) (fun _ c => 10 - (intOf c).toNat)
  case atStart => exact ⟨0, by omega, rfl, rfl⟩
  case round =>
    obtain ⟨k, hk, rfl, rfl⟩ := hrel
    obtain ⟨t1, t2⟩ := ten_le (k := k) (by omega)
    by_cases hlt : k < p
    · have hlt' : (k : Int) < p := by omega
      have hs := ten_step k
      generalize hT : (10 ^ k : Nat) = T at *
      have HS : Hid ((T : Int) * 10 = _) := hs
      clear hs hT
      go_wp2
      refine ⟨⟨k + 1, by omega, ?_, by go_num⟩, by simp [intOf]; omega⟩
      rw [← HS.out]
    · have hlt' : ¬ (k : Int) < p := by omega
      have hkp : k = p := by omega
      obtain ⟨r, hr, hl, -⟩ := dec_some (p := p) h0 h9 (by omega)
      rw [← hkp] at hr
      have hrun := run_some hr
      have HR : Hid (floatBits .quo .f64 (floatOfInt .f64 n) (floatOfInt .f64 ((10 ^ p : Nat) : Int)) = some r) := by rw [← hkp]; exact hr
      clear hr
      generalize hT : (10 ^ k : Nat) = T at *
      go_wp2
      go_ret
      exact ⟨r, rfl, ⟨hl, .inl ⟨HO.out, rfl, HR.out⟩⟩, of_one hb⟩
theorem sarg_any (k n p : Int) (w : World) : Calls Tryd.prog 23 #[.agg #[.int .i64 k, .int .i64 n, .int .i64 p]] w (ArgCame k n p w) := by
  cases hok : okB k n p
  · exact sarg_bad k n p w hok
  by_cases h1 : k = 12
  · subst h1
    have := decOk_in hok
    obtain ⟨q, rfl⟩ := Int.eq_ofNat_of_zero_le (show 0 ≤ p by omega)
    exact sarg_12 n q w hok
  by_cases h2 : k = 13
  · subst h2; exact sarg_13 n p w hok
  · exact sarg_no k n p w hok (by simpa using h1) (by simpa using h2) (by simpa using h1)
end Go.Proofs.YtceepaboaoffkaaDoor
