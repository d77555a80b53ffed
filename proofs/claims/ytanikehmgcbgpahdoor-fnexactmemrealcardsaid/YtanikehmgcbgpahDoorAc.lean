/- RealArg of the program and of the document, on; the walk of FnExactRealArg. Helper text: no statement is claimed here. -/
import Derived.Test.YtanikehmgcbgpahDoorAb
namespace Go.Proofs.YtanikehmgcbgpahDoor
open Go.ChangeShapes Go.WideShapes Go.ChangeAt Go.RowKit Fl

theorem word_ok {n : Int} (h0 : 0 ≤ n) (h4 : n < 4) : n = 0 ∨ n = 1 ∨ n = 2 ∨ n = 3 := by omega
theorem wordR_lib {n : Int} {r : Nat} (h : (n = 0 ∧ r = 9221120237041090561) ∨ (n = 1 ∧ r = wi false) ∨ (n = 2 ∧ r = wi true) ∨ (n = 3 ∧ r = wd true 0 0)) : WordR n r := by
  rcases h with ⟨rfl, rfl⟩ | ⟨rfl, rfl⟩ | ⟨rfl, rfl⟩ | ⟨rfl, rfl⟩
  · exact ⟨by omega, nan_lib⟩
  · exact ⟨wi_lt _, rfl⟩
  · exact ⟨wi_lt _, rfl⟩
  · exact ⟨wd_lt sc00 (by omega) _, rfl⟩

set_option maxHeartbeats 400000 in
theorem iarg_13n (n p : Int) (w : World) (hT : DevTab w) (hok : okB 13 n p = false) : Calls Tryd.prog 30 #[.agg #[.int .i64 13, .int .i64 n, .int .i64 p]] w (ArgCame 13 n p w) := by
  have HO : Hid (okB 13 n p = false) := hok
  clear hok
  go_enter Tryd.func30, Tryd.ntmps30
  go_wp2_with fail
  refine (devOk_any _ _ _ _ (hT.alloc _)).mono ?_
  rintro e w1 ⟨rfl, hb⟩
  rw [HO.out]
  go_wp2
  go_ret
  exact ⟨0, rfl, ⟨by omega, .inr (.inr ⟨by rw [HO.out]; simp, rfl⟩)⟩, of_one hb⟩
set_option maxHeartbeats 400000 in
theorem iarg_no (k n p : Int) (w : World) (h1 : (k == 12) = false) (h2 : (k == 13) = false) : Calls Tryd.prog 30 #[.agg #[.int .i64 k, .int .i64 n, .int .i64 p]] w (ArgCame k n p w) := by
  have H : Hid (k ≠ 12 ∧ k ≠ 13) := ⟨by simpa using h1, by simpa using h2⟩
  go_enter Tryd.func30, Tryd.ntmps30
  go_wp2
  go_ret
  exact ⟨0, rfl, ⟨by omega, .inr (.inr ⟨by have := H.out; omega, rfl⟩)⟩, one _ _⟩
theorem index_0 (a b c d : Value) (w : World) : Sem.run Tryd.prog (Instr.index 85 (.agg #[a, b, c, d]) (.int .i64 0)) w = .ok a w := by kernel_rfl
theorem index_1 (a b c d : Value) (w : World) : Sem.run Tryd.prog (Instr.index 85 (.agg #[a, b, c, d]) (.int .i64 1)) w = .ok b w := by kernel_rfl
theorem index_2 (a b c d : Value) (w : World) : Sem.run Tryd.prog (Instr.index 85 (.agg #[a, b, c, d]) (.int .i64 2)) w = .ok c w := by kernel_rfl
theorem index_3 (a b c d : Value) (w : World) : Sem.run Tryd.prog (Instr.index 85 (.agg #[a, b, c, d]) (.int .i64 3)) w = .ok d w := by kernel_rfl
section
attribute [local go_sem] index_0 index_1 index_2 index_3
theorem words_letters (W : World) : ∃ x0 x1 x2 x3 : Nat, (x0 = 9221120237041090561 ∧ x1 = wi false ∧ x2 = wi true ∧ x3 = wd true 0 0) ∧ ∀ (d : Nat) (os : Array Obj),
    Calls Tryd.prog 50 #[] (Sort.grow (redrawn W d) os) fun e w'' => e = .returned (.agg #[.float .f64 x0, .float .f64 x1, .float .f64 x2, .float .f64 x3]) ∧ ∃ p' : Regrown, w'' = Sort.grow (redrawn W p'.d) p'.os :=
  ⟨_, _, _, _, ⟨rfl, rfl, rfl, rfl⟩, fun _ _ => Calls.regrown_of (words_any _)⟩
set_option maxHeartbeats 400000 in
theorem iarg_13_0 (w : World) (hT : DevTab w) : Calls Tryd.prog 30 #[.agg #[.int .i64 13, .int .i64 0, .int .i64 0]] w (ArgCame 13 0 0 w) := by
  have HO : Hid (okB 13 0 0 = true) := (okB_13 0 0).trans (by decide)
  go_enter Tryd.func30, Tryd.ntmps30
  go_wp2_with fail
  refine (devOk_any _ _ _ _ (hT.alloc _)).mono ?_
  rintro e w1 ⟨rfl, hb⟩
  rw [HO.out]
  obtain ⟨c0, c1, c2⟩ := arg_at 13 0 0 w
  have hlt : w.heap.size < (w.alloc (argO 13 0 0)).heap.size := by simp
  rw [← hb.cell (p := ⟨w.heap.size, 1, none⟩) hlt] at c1
  have k1 := cell_regrown c1
  clear c0 c1 c2
  obtain ⟨x0, x1, x2, x3, hX, hg⟩ := words_letters w1
  have HX : Hid _ := hX
  clear hX
  go_wp2
  refine wp_region_quiet_below (by kernel_rfl) (by kernel_rfl) ?_
  repeat (first | go_big_quiet_step (with_reducible exact hg _ _) | quiet_step (with_reducible exact hg _ _))
  refine wpQuiet_nil ?_
  intro _ hw'
  obtain ⟨⟨dq, osq⟩, hw''⟩ := hw'
  subst hw''
  go_wp2
  go_ret
  have hwr : WordR 0 x0 := wordR_lib (.inl ⟨rfl, HX.out.1⟩)
  exact ⟨_, rfl, ⟨hwr.1, .inr (.inl ⟨HO.out, rfl, hwr⟩)⟩, of_two hb (below_regrown _ dq osq)⟩
set_option maxHeartbeats 400000 in
theorem iarg_13_1 (w : World) (hT : DevTab w) : Calls Tryd.prog 30 #[.agg #[.int .i64 13, .int .i64 1, .int .i64 0]] w (ArgCame 13 1 0 w) := by
  have HO : Hid (okB 13 1 0 = true) := (okB_13 1 0).trans (by decide)
  go_enter Tryd.func30, Tryd.ntmps30
  go_wp2_with fail
  refine (devOk_any _ _ _ _ (hT.alloc _)).mono ?_
  rintro e w1 ⟨rfl, hb⟩
  rw [HO.out]
  obtain ⟨c0, c1, c2⟩ := arg_at 13 1 0 w
  have hlt : w.heap.size < (w.alloc (argO 13 1 0)).heap.size := by simp
  rw [← hb.cell (p := ⟨w.heap.size, 1, none⟩) hlt] at c1
  have k1 := cell_regrown c1
  clear c0 c1 c2
  obtain ⟨x0, x1, x2, x3, hX, hg⟩ := words_letters w1
  have HX : Hid _ := hX
  clear hX
  go_wp2
  refine wp_region_quiet_below (by kernel_rfl) (by kernel_rfl) ?_
  repeat (first | go_big_quiet_step (with_reducible exact hg _ _) | quiet_step (with_reducible exact hg _ _))
  refine wpQuiet_nil ?_
  intro _ hw'
  obtain ⟨⟨dq, osq⟩, hw''⟩ := hw'
  subst hw''
  go_wp2
  go_ret
  have hwr : WordR 1 x1 := wordR_lib (.inr (.inl ⟨rfl, HX.out.2.1⟩))
  exact ⟨_, rfl, ⟨hwr.1, .inr (.inl ⟨HO.out, rfl, hwr⟩)⟩, of_two hb (below_regrown _ dq osq)⟩
set_option maxHeartbeats 400000 in
theorem iarg_13_2 (w : World) (hT : DevTab w) : Calls Tryd.prog 30 #[.agg #[.int .i64 13, .int .i64 2, .int .i64 0]] w (ArgCame 13 2 0 w) := by
  have HO : Hid (okB 13 2 0 = true) := (okB_13 2 0).trans (by decide)
  go_enter Tryd.func30, Tryd.ntmps30
  go_wp2_with fail
  refine (devOk_any _ _ _ _ (hT.alloc _)).mono ?_
  rintro e w1 ⟨rfl, hb⟩
  rw [HO.out]
  obtain ⟨c0, c1, c2⟩ := arg_at 13 2 0 w
  have hlt : w.heap.size < (w.alloc (argO 13 2 0)).heap.size := by simp
  rw [← hb.cell (p := ⟨w.heap.size, 1, none⟩) hlt] at c1
  have k1 := cell_regrown c1
  clear c0 c1 c2
  obtain ⟨x0, x1, x2, x3, hX, hg⟩ := words_letters w1
  have HX : Hid _ := hX
  clear hX
  go_wp2
  refine wp_region_quiet_below (by kernel_rfl) (by kernel_rfl) ?_
  repeat (first | go_big_quiet_step (with_reducible exact hg _ _) | quiet_step (with_reducible exact hg _ _))
  refine wpQuiet_nil ?_
  intro _ hw'
  obtain ⟨⟨dq, osq⟩, hw''⟩ := hw'
  subst hw''
  go_wp2
  go_ret
  have hwr : WordR 2 x2 := wordR_lib (.inr (.inr (.inl ⟨rfl, HX.out.2.2.1⟩)))
  exact ⟨_, rfl, ⟨hwr.1, .inr (.inl ⟨HO.out, rfl, hwr⟩)⟩, of_two hb (below_regrown _ dq osq)⟩
set_option maxHeartbeats 400000 in
theorem iarg_13_3 (w : World) (hT : DevTab w) : Calls Tryd.prog 30 #[.agg #[.int .i64 13, .int .i64 3, .int .i64 0]] w (ArgCame 13 3 0 w) := by
  have HO : Hid (okB 13 3 0 = true) := (okB_13 3 0).trans (by decide)
  go_enter Tryd.func30, Tryd.ntmps30
  go_wp2_with fail
  refine (devOk_any _ _ _ _ (hT.alloc _)).mono ?_
  rintro e w1 ⟨rfl, hb⟩
  rw [HO.out]
  obtain ⟨c0, c1, c2⟩ := arg_at 13 3 0 w
  have hlt : w.heap.size < (w.alloc (argO 13 3 0)).heap.size := by simp
  rw [← hb.cell (p := ⟨w.heap.size, 1, none⟩) hlt] at c1
  have k1 := cell_regrown c1
  clear c0 c1 c2
  obtain ⟨x0, x1, x2, x3, hX, hg⟩ := words_letters w1
  have HX : Hid _ := hX
  clear hX
  go_wp2
  refine wp_region_quiet_below (by kernel_rfl) (by kernel_rfl) ?_
  repeat (first | go_big_quiet_step (with_reducible exact hg _ _) | quiet_step (with_reducible exact hg _ _))
  refine wpQuiet_nil ?_
  intro _ hw'
  obtain ⟨⟨dq, osq⟩, hw''⟩ := hw'
  subst hw''
  go_wp2
  go_ret
  have hwr : WordR 3 x3 := wordR_lib (.inr (.inr (.inr ⟨rfl, HX.out.2.2.2⟩)))
  exact ⟨_, rfl, ⟨hwr.1, .inr (.inl ⟨HO.out, rfl, hwr⟩)⟩, of_two hb (below_regrown _ dq osq)⟩
end
theorem iarg_any (k n p : Int) (w : World) (hT : DevTab w) : Calls Tryd.prog 30 #[.agg #[.int .i64 k, .int .i64 n, .int .i64 p]] w (ArgCame k n p w) := by
  by_cases h1 : k = 12
  · subst h1; exact iarg_12 n p w hT
  by_cases h2 : k = 13
  · subst h2
    cases hok : okB 13 n p
    · exact iarg_13n n p w hT hok
    · obtain ⟨n0, n4, rfl⟩ := wordOk_in hok
      rcases word_ok n0 n4 with rfl | rfl | rfl | rfl
      · exact iarg_13_0 w hT
      · exact iarg_13_1 w hT
      · exact iarg_13_2 w hT
      · exact iarg_13_3 w hT
  · exact iarg_no k n p w (by simpa using h1) (by simpa using h2)

/-! The document's own. -/
set_option maxHeartbeats 400000 in
theorem sarg_bad (k n p : Int) (w : World) (hok : okB k n p = false) : Calls Tryd.prog 29 #[.agg #[.int .i64 k, .int .i64 n, .int .i64 p]] w (ArgCame k n p w) := by
  have HO : Hid (okB k n p = false) := hok
  clear hok
  go_enter Tryd.func29, Tryd.ntmps29
  go_wp2_with fail
  refine (sOk_any _ _ _ _).mono ?_
  rintro e w1 ⟨rfl, hb⟩
  rw [HO.out]
  go_wp2
  go_ret
  exact ⟨0, rfl, ⟨by omega, .inr (.inr ⟨by rw [HO.out]; simp, rfl⟩)⟩, of_one hb⟩
set_option maxHeartbeats 400000 in
theorem sarg_13 (n p : Int) (w : World) (hok : okB 13 n p = true) : Calls Tryd.prog 29 #[.agg #[.int .i64 13, .int .i64 n, .int .i64 p]] w (ArgCame 13 n p w) := by
  have HO : Hid (okB 13 n p = true) := hok
  clear hok
  go_enter Tryd.func29, Tryd.ntmps29
  go_wp2_with fail
  refine (sOk_any _ _ _ _).mono ?_
  rintro e w1 ⟨rfl, hb⟩
  rw [HO.out]
  obtain ⟨c0, c1, c2⟩ := arg_at 13 n p w
  have hlt : w.heap.size < (w.alloc (argO 13 n p)).heap.size := by simp
  rw [← hb.cell (p := ⟨w.heap.size, 0, none⟩) hlt] at c0
  rw [← hb.cell (p := ⟨w.heap.size, 1, none⟩) hlt] at c1
  go_wp2_with fail
  refine (sword_any n _).mono ?_
  rintro e w2 ⟨r, rfl, hr, hb2⟩
  have HR : Hid (WordR n r) := hr
  clear hr
  go_wp2
  go_ret
  exact ⟨r, rfl, ⟨HR.out.1, .inr (.inl ⟨HO.out, rfl, HR.out⟩)⟩, of_two hb hb2⟩
set_option maxHeartbeats 400000 in
theorem sarg_no (k n p : Int) (w : World) (hok : okB k n p = true) (h1 : (k == 12) = false) (h2 : (k == 13) = false) (h1' : (k != 12) = true) : Calls Tryd.prog 29 #[.agg #[.int .i64 k, .int .i64 n, .int .i64 p]] w (ArgCame k n p w) := by
  have H : Hid (k ≠ 12 ∧ k ≠ 13) := ⟨by simpa using h1, by simpa using h2⟩
  have HO : Hid (okB k n p = true) := hok
  clear hok
  go_enter Tryd.func29, Tryd.ntmps29
  go_wp2_with fail
  refine (sOk_any _ _ _ _).mono ?_
  rintro e w1 ⟨rfl, hb⟩
  rw [HO.out]
  obtain ⟨c0, c1, c2⟩ := arg_at k n p w
  have hlt : w.heap.size < (w.alloc (argO k n p)).heap.size := by simp
  rw [← hb.cell (p := ⟨w.heap.size, 0, none⟩) hlt] at c0
  go_wp2
  go_ret
  exact ⟨0, rfl, ⟨by omega, .inr (.inr ⟨by have := H.out; omega, rfl⟩)⟩, of_one hb⟩
set_option maxHeartbeats 400000 in
theorem sarg_12 (n : Int) (p : Nat) (w : World) (hok : okB 12 n (p : Int) = true) : Calls Tryd.prog 29 #[.agg #[.int .i64 12, .int .i64 n, .int .i64 (p : Int)]] w (ArgCame 12 n (p : Int) w) := by
  obtain ⟨h0, h9, p1, p6⟩ := decOk_in hok
  have HO : Hid (okB 12 n (p : Int) = true) := hok
  clear hok
  go_enter Tryd.func29, Tryd.ntmps29
  go_wp2_with fail
  refine (sOk_any _ _ _ _).mono ?_
  rintro e w1 ⟨rfl, hb⟩
  rw [HO.out]
  obtain ⟨c0, c1, c2⟩ := arg_at 12 n (p : Int) w
  have hlt : w.heap.size < (w.alloc (argO 12 n (p : Int))).heap.size := by simp
  rw [← hb.cell (p := ⟨w.heap.size, 0, none⟩) hlt] at c0
  rw [← hb.cell (p := ⟨w.heap.size, 1, none⟩) hlt] at c1
  rw [← hb.cell (p := ⟨w.heap.size, 2, none⟩) hlt] at c2
  go_wp2
  go_loop [3, 4] (fun t c => ∃ k : Nat, k ≤ p ∧ t = .int .i64 ((10 ^ k : Nat) : Int) ∧ c = .int .i64 (k : Int)) (fun _ c => 10 - (intOf c).toNat)
  case atStart => exact ⟨0, by omega, rfl, rfl⟩
  case round =>
    obtain ⟨k, hk, rfl, rfl⟩ := hrel
    obtain ⟨t1, t2⟩ := ten_le (k := k) (by omega)
    by_cases hlt : k < p
    · have hlt' : (k : Int) < p := by omega
      have hs := ten_step k
      generalize hT : (10 ^ k : Nat) = T at *
      have HS : Hid ((T : Int) * 10 = _) := hs
      clear hs hT
      go_wp2
      refine ⟨⟨k + 1, by omega, ?_, by go_num⟩, by simp [intOf]; omega⟩
      rw [← HS.out]
    · have hlt' : ¬ (k : Int) < p := by omega
      have hkp : k = p := by omega
      obtain ⟨r, hr, hl, -⟩ := dec_some (p := p) h0 h9 (by omega)
      rw [← hkp] at hr
      have hrun := run_some hr
      have HR : Hid (floatBits .quo .f64 (floatOfInt .f64 n) (floatOfInt .f64 ((10 ^ p : Nat) : Int)) = some r) := by rw [← hkp]; exact hr
      clear hr
      generalize hT : (10 ^ k : Nat) = T at *
      go_wp2
      go_ret
      exact ⟨r, rfl, ⟨hl, .inl ⟨HO.out, rfl, HR.out⟩⟩, of_one hb⟩
theorem sarg_any (k n p : Int) (w : World) : Calls Tryd.prog 29 #[.agg #[.int .i64 k, .int .i64 n, .int .i64 p]] w (ArgCame k n p w) := by
  cases hok : okB k n p
  · exact sarg_bad k n p w hok
  by_cases h1 : k = 12
  · subst h1
    have := decOk_in hok
    obtain ⟨q, rfl⟩ := Int.eq_ofNat_of_zero_le (show 0 ≤ p by omega)
    exact sarg_12 n q w hok
  by_cases h2 : k = 13
  · subst h2; exact sarg_13 n p w hok
  · exact sarg_no k n p w hok (by simpa using h1) (by simpa using h2) (by simpa using h1)
end Go.Proofs.YtanikehmgcbgpahDoor
