/- RealArg of the program. Helper text: no statement is claimed here. -/
import Derived.Test.YtljhpagpohihcabDoorAa
import Derived.Test.YtljhpagpohihcabDoorDc
import Derived.Test.YtljhpagpohihcabDoorFf
import Derived.Test.YtljhpagpohihcabDoorCq
namespace Go.Proofs.YtljhpagpohihcabDoor
open Go.ChangeShapes Go.WideShapes Go.ChangeAt Go.RowKit Fl

/-- The real number of a word. -/
def WordR (n : Int) (r : Nat) : Prop := r < 2 ^ 64 ∧ (if n = 0 then nan r else if n = 1 then r = wi false else if n = 2 then r = wi true else r = wd true 0 0)
theorem WordR.one {n : Int} {r r' : Nat} (h : WordR n r) (h' : WordR n r') : SameV r r' := by
  have a := h.2
  have b := h'.2
  split at a
  · exact .inr ⟨a, by simpa [*] using b⟩
  split at a
  · left; rw [a]; simp_all
  split at a
  · left; rw [a]; simp_all
  · left; rw [a]; simp_all

theorem ten_step (k : Nat) : ((10 ^ k : Nat) : Int) * 10 = ((10 ^ (k + 1) : Nat) : Int) := by rw [Nat.pow_succ]; push_cast; rfl
theorem ten_le {k : Nat} (h : k ≤ 6) : 1 ≤ (10 ^ k : Nat) ∧ (10 ^ k : Nat) ≤ 1000000 :=
  ⟨Nat.pow_pos (by omega), Nat.pow_le_pow_right (n := 10) (by omega) h⟩
theorem dec_some {n : Int} {p : Nat} (h0 : -999999999 ≤ n) (h9 : n ≤ 999999999) (hp : p ≤ 6) : ∃ r, floatBits .quo .f64 (floatOfInt .f64 n) (floatOfInt .f64 ((10 ^ p : Nat) : Int)) = some r ∧ r < 2 ^ 64 ∧ ¬ nan r := by
  have := ten_le hp
  generalize (10 ^ p : Nat) = t at *
  exact quo_ints (by omega) (by omega) (by omega)
def DecR (n : Int) (p : Nat) (w : World) (e : Ending) (w' : World) : Prop := ∃ r, e = .returned (.float .f64 r) ∧ floatBits .quo .f64 (floatOfInt .f64 n) (floatOfInt .f64 ((10 ^ p : Nat) : Int)) = some r ∧ r < 2 ^ 64 ∧ w' = w

set_option maxHeartbeats 400000 in
theorem dec_loop (n : Int) (p : Nat) (w : World) (h0 : -999999999 ≤ n) (h9 : n ≤ 999999999) (hp : p ≤ 6) :
    Calls Tryd.prog 32 #[.int .i64 n, .int .i64 (p : Int)] w (DecR n p w) := by
  go_enter Tryd.func32, Tryd.ntmps32
  go_wp2
  go_loop [5, 7] (fun t c => ∃ k : Nat, k ≤ p ∧ t = .int .i64 ((10 ^ k : Nat) : Int) ∧ c = .int .i64 (k : Int)) (fun _ c => 10 - (intOf c).toNat)
  case atStart => exact ⟨0, by omega, rfl, rfl⟩
  case round =>
    obtain ⟨k, hk, rfl, rfl⟩ := hrel
    obtain ⟨t1, t2⟩ := ten_le (k := k) (by omega)
    by_cases hlt : k < p
    · have hlt' : (k : Int) < p := by omega
      have hs := ten_step k
      generalize hT : (10 ^ k : Nat) = T at *
      have HS : Hid ((T : Int) * 10 = _) := hs
      clear hs hT
      go_wp2
      refine ⟨⟨k + 1, by omega, ?_, by go_num⟩, by simp [intOf]; omega⟩
      rw [← HS.out]
    · have hlt' : ¬ (k : Int) < p := by omega
      have hkp : k = p := by omega
      obtain ⟨r, hr, hl, -⟩ := dec_some h0 h9 hp
      rw [← hkp] at hr
      have hrun := run_some hr
      have HR : Hid (floatBits .quo .f64 (floatOfInt .f64 n) (floatOfInt .f64 ((10 ^ p : Nat) : Int)) = some r) := by rw [← hkp]; exact hr
      clear hr
      generalize hT : (10 ^ k : Nat) = T at *
      go_wp2
      go_ret
      exact ⟨r, rfl, HR.out, hl, rfl⟩

/-- What RealArg may answer. -/
def ArgR (k n p : Int) (r : Nat) : Prop := r < 2 ^ 64 ∧
  ((okB k n p = true ∧ k = 12 ∧ floatBits .quo .f64 (floatOfInt .f64 n) (floatOfInt .f64 ((10 ^ p.toNat : Nat) : Int)) = some r) ∨ (okB k n p = true ∧ k = 13 ∧ WordR n r) ∨ (¬ (okB k n p = true ∧ (k = 12 ∨ k = 13)) ∧ r = 0))
theorem ArgR.one {k n p : Int} {r r' : Nat} (h : ArgR k n p r) (h' : ArgR k n p r') : SameV r r' := by
  rcases h.2 with ⟨a1, a2, a3⟩ | ⟨a1, a2, a3⟩ | ⟨a1, a2⟩ <;> rcases h'.2 with ⟨b1, b2, b3⟩ | ⟨b1, b2, b3⟩ | ⟨b1, b2⟩
  · left; rw [a3] at b3; exact Option.some.inj b3
  · omega
  · exact absurd ⟨a1, .inl a2⟩ b1
  · omega
  · exact a3.one b3
  · exact absurd ⟨a1, .inr a2⟩ b1
  · exact absurd ⟨b1, .inl b2⟩ a1
  · exact absurd ⟨b1, .inr b2⟩ a1
  · left; rw [a2, b2]
def ArgCame (k n p : Int) (w : World) (e : Ending) (w' : World) : Prop := ∃ r, e = .returned (.float .f64 r) ∧ ArgR k n p r ∧ Below w.heap.size w w'
theorem decOk_in {n p : Int} (h : okB 12 n p = true) : -999999999 ≤ n ∧ n ≤ 999999999 ∧ 1 ≤ p ∧ p ≤ 6 := by
  rw [okB_12] at h
  simp [decOk] at h
  omega
theorem wordOk_in {n p : Int} (h : okB 13 n p = true) : 0 ≤ n ∧ n < 4 ∧ p = 0 := by
  rw [okB_13] at h
  simpa using h

set_option maxHeartbeats 400000 in
theorem iarg_12 (n p : Int) (w : World) (hT : DevTab w) : Calls Tryd.prog 20 #[.agg #[.int .i64 12, .int .i64 n, .int .i64 p]] w (ArgCame 12 n p w) := by
  cases hok : okB 12 n p
  · have HO : Hid (okB 12 n p = false) := hok
    clear hok
    go_enter Tryd.func20, Tryd.ntmps20
    go_wp2_with fail
    refine (devOk_any _ _ _ _ (hT.alloc _)).mono ?_
    rintro e w1 ⟨rfl, hb⟩
    rw [HO.out]
    obtain ⟨c0, c1, c2⟩ := arg_at 12 n p w
    have hlt : w.heap.size < (w.alloc (argO 12 n p)).heap.size := by simp
    rw [← hb.cell (p := ⟨w.heap.size, 0, none⟩) hlt] at c0
    go_wp2
    go_ret
    exact ⟨0, rfl, ⟨by omega, .inr (.inr ⟨by rw [HO.out]; simp, rfl⟩)⟩, of_one hb⟩
  · obtain ⟨h0, h9, p1, p6⟩ := decOk_in hok
    obtain ⟨q, rfl⟩ := Int.eq_ofNat_of_zero_le (show 0 ≤ p by omega)
    have HO : Hid (okB 12 n (q : Int) = true) := hok
    clear hok
    go_enter Tryd.func20, Tryd.ntmps20
    go_wp2_with fail
    refine (devOk_any _ _ _ _ (hT.alloc _)).mono ?_
    rintro e w1 ⟨rfl, hb⟩
    rw [HO.out]
    obtain ⟨c0, c1, c2⟩ := arg_at 12 n (q : Int) w
    have hlt : w.heap.size < (w.alloc (argO 12 n (q : Int))).heap.size := by simp
    rw [← hb.cell (p := ⟨w.heap.size, 0, none⟩) hlt] at c0
    rw [← hb.cell (p := ⟨w.heap.size, 1, none⟩) hlt] at c1
    rw [← hb.cell (p := ⟨w.heap.size, 2, none⟩) hlt] at c2
    go_wp2_with fail
    refine (dec_loop n q _ h0 h9 (by omega)).mono ?_
    rintro e w2 ⟨r, rfl, hr, hl, rfl⟩
    have HR : Hid (floatBits .quo .f64 (floatOfInt .f64 n) (floatOfInt .f64 ((10 ^ q : Nat) : Int)) = some r) := hr
    clear hr
    go_wp2
    go_ret
    exact ⟨r, rfl, ⟨hl, .inl ⟨HO.out, rfl, HR.out⟩⟩, of_one hb⟩
theorem word_ok {n : Int} (h0 : 0 ≤ n) (h4 : n < 4) : n = 0 ∨ n = 1 ∨ n = 2 ∨ n = 3 := by omega
theorem wordR_lib {n : Int} {r : Nat} (h : (n = 0 ∧ r = 9221120237041090561) ∨ (n = 1 ∧ r = wi false) ∨ (n = 2 ∧ r = wi true) ∨ (n = 3 ∧ r = wd true 0 0)) : WordR n r := by
  rcases h with ⟨rfl, rfl⟩ | ⟨rfl, rfl⟩ | ⟨rfl, rfl⟩ | ⟨rfl, rfl⟩
  · exact ⟨by omega, nan_lib⟩
  · exact ⟨wi_lt _, rfl⟩
  · exact ⟨wi_lt _, rfl⟩
  · exact ⟨wd_lt sc00 (by omega) _, rfl⟩

set_option maxHeartbeats 400000 in
theorem iarg_13n (n p : Int) (w : World) (hT : DevTab w) (hok : okB 13 n p = false) : Calls Tryd.prog 20 #[.agg #[.int .i64 13, .int .i64 n, .int .i64 p]] w (ArgCame 13 n p w) := by
  have HO : Hid (okB 13 n p = false) := hok
  clear hok
  go_enter Tryd.func20, Tryd.ntmps20
  go_wp2_with fail
  refine (devOk_any _ _ _ _ (hT.alloc _)).mono ?_
  rintro e w1 ⟨rfl, hb⟩
  rw [HO.out]
  go_wp2
  go_ret
  exact ⟨0, rfl, ⟨by omega, .inr (.inr ⟨by rw [HO.out]; simp, rfl⟩)⟩, of_one hb⟩
set_option maxHeartbeats 400000 in
theorem iarg_no (k n p : Int) (w : World) (h1 : (k == 12) = false) (h2 : (k == 13) = false) : Calls Tryd.prog 20 #[.agg #[.int .i64 k, .int .i64 n, .int .i64 p]] w (ArgCame k n p w) := by
  have H : Hid (k ≠ 12 ∧ k ≠ 13) := ⟨by simpa using h1, by simpa using h2⟩
  go_enter Tryd.func20, Tryd.ntmps20
  go_wp2
  go_ret
  exact ⟨0, rfl, ⟨by omega, .inr (.inr ⟨by have := H.out; omega, rfl⟩)⟩, one _ _⟩
theorem index_0 (a b c d : Value) (w : World) : Sem.run Tryd.prog (Instr.index 70 (.agg #[a, b, c, d]) (.int .i64 0)) w = .ok a w := by kernel_rfl
theorem index_1 (a b c d : Value) (w : World) : Sem.run Tryd.prog (Instr.index 70 (.agg #[a, b, c, d]) (.int .i64 1)) w = .ok b w := by kernel_rfl
theorem index_2 (a b c d : Value) (w : World) : Sem.run Tryd.prog (Instr.index 70 (.agg #[a, b, c, d]) (.int .i64 2)) w = .ok c w := by kernel_rfl
theorem index_3 (a b c d : Value) (w : World) : Sem.run Tryd.prog (Instr.index 70 (.agg #[a, b, c, d]) (.int .i64 3)) w = .ok d w := by kernel_rfl
section
attribute [local go_sem] index_0 index_1 index_2 index_3
theorem words_letters (W : World) : ∃ x0 x1 x2 x3 : Nat, (x0 = 9221120237041090561 ∧ x1 = wi false ∧ x2 = wi true ∧ x3 = wd true 0 0) ∧ ∀ (d : Nat) (os : Array Obj),
    Calls Tryd.prog 33 #[] (Sort.grow (redrawn W d) os) fun e w'' => e = .returned (.agg #[.float .f64 x0, .float .f64 x1, .float .f64 x2, .float .f64 x3]) ∧ ∃ p' : Regrown, w'' = Sort.grow (redrawn W p'.d) p'.os :=
  ⟨_, _, _, _, ⟨rfl, rfl, rfl, rfl⟩, fun _ _ => Calls.regrown_of (words_any _)⟩
set_option maxHeartbeats 400000 in
theorem iarg_13_0 (w : World) (hT : DevTab w) : Calls Tryd.prog 20 #[.agg #[.int .i64 13, .int .i64 0, .int .i64 0]] w (ArgCame 13 0 0 w) := by
  have HO : Hid (okB 13 0 0 = true) := (okB_13 0 0).trans (by decide)
  go_enter Tryd.func20, Tryd.ntmps20
  go_wp2_with fail
  refine (devOk_any _ _ _ _ (hT.alloc _)).mono ?_
  rintro e w1 ⟨rfl, hb⟩
  rw [HO.out]
  obtain ⟨c0, c1, c2⟩ := arg_at 13 0 0 w
  have hlt : w.heap.size < (w.alloc (argO 13 0 0)).heap.size := by simp
  rw [← hb.cell (p := ⟨w.heap.size, 1, none⟩) hlt] at c1
  have k1 := cell_regrown c1
  clear c0 c1 c2
  obtain ⟨x0, x1, x2, x3, hX, hg⟩ := words_letters w1
  have HX : Hid _ := hX
  clear hX
  go_wp2
  refine wp_region_quiet_below (by kernel_rfl) (by kernel_rfl) ?_
  repeat (first | go_big_quiet_step (with_reducible exact hg _ _) | quiet_step (with_reducible exact hg _ _))
  refine wpQuiet_nil ?_
  intro _ hw'
  obtain ⟨⟨dq, osq⟩, hw''⟩ := hw'
  subst hw''
  go_wp2
  go_ret
  have hwr : WordR 0 x0 := wordR_lib (.inl ⟨rfl, HX.out.1⟩)
  exact ⟨_, rfl, ⟨hwr.1, .inr (.inl ⟨HO.out, rfl, hwr⟩)⟩, of_two hb (below_regrown _ dq osq)⟩
set_option maxHeartbeats 400000 in
theorem iarg_13_1 (w : World) (hT : DevTab w) : Calls Tryd.prog 20 #[.agg #[.int .i64 13, .int .i64 1, .int .i64 0]] w (ArgCame 13 1 0 w) := by
  have HO : Hid (okB 13 1 0 = true) := (okB_13 1 0).trans (by decide)
  go_enter Tryd.func20, Tryd.ntmps20
  go_wp2_with fail
  refine (devOk_any _ _ _ _ (hT.alloc _)).mono ?_
  rintro e w1 ⟨rfl, hb⟩
  rw [HO.out]
  obtain ⟨c0, c1, c2⟩ := arg_at 13 1 0 w
  have hlt : w.heap.size < (w.alloc (argO 13 1 0)).heap.size := by simp
  rw [← hb.cell (p := ⟨w.heap.size, 1, none⟩) hlt] at c1
  have k1 := cell_regrown c1
  clear c0 c1 c2
  obtain ⟨x0, x1, x2, x3, hX, hg⟩ := words_letters w1
  have HX : Hid _ := hX
  clear hX
  go_wp2
  refine wp_region_quiet_below (by kernel_rfl) (by kernel_rfl) ?_
  repeat (first | go_big_quiet_step (with_reducible exact hg _ _) | quiet_step (with_reducible exact hg _ _))
  refine wpQuiet_nil ?_
  intro _ hw'
  obtain ⟨⟨dq, osq⟩, hw''⟩ := hw'
  subst hw''
  go_wp2
  go_ret
  have hwr : WordR 1 x1 := wordR_lib (.inr (.inl ⟨rfl, HX.out.2.1⟩))
  exact ⟨_, rfl, ⟨hwr.1, .inr (.inl ⟨HO.out, rfl, hwr⟩)⟩, of_two hb (below_regrown _ dq osq)⟩
set_option maxHeartbeats 400000 in
theorem iarg_13_2 (w : World) (hT : DevTab w) : Calls Tryd.prog 20 #[.agg #[.int .i64 13, .int .i64 2, .int .i64 0]] w (ArgCame 13 2 0 w) := by
  have HO : Hid (okB 13 2 0 = true) := (okB_13 2 0).trans (by decide)
  go_enter Tryd.func20, Tryd.ntmps20
  go_wp2_with fail
  refine (devOk_any _ _ _ _ (hT.alloc _)).mono ?_
  rintro e w1 ⟨rfl, hb⟩
  rw [HO.out]
  obtain ⟨c0, c1, c2⟩ := arg_at 13 2 0 w
  have hlt : w.heap.size < (w.alloc (argO 13 2 0)).heap.size := by simp
  rw [← hb.cell (p := ⟨w.heap.size, 1, none⟩) hlt] at c1
  have k1 := cell_regrown c1
  clear c0 c1 c2
  obtain ⟨x0, x1, x2, x3, hX, hg⟩ := words_letters w1
  have HX : Hid _ := hX
  clear hX
  go_wp2
  refine wp_region_quiet_below (by kernel_rfl) (by kernel_rfl) ?_
  repeat (first | go_big_quiet_step (with_reducible exact hg _ _) | quiet_step (with_reducible exact hg _ _))
  refine wpQuiet_nil ?_
  intro _ hw'
  obtain ⟨⟨dq, osq⟩, hw''⟩ := hw'
  subst hw''
  go_wp2
  go_ret
  have hwr : WordR 2 x2 := wordR_lib (.inr (.inr (.inl ⟨rfl, HX.out.2.2.1⟩)))
  exact ⟨_, rfl, ⟨hwr.1, .inr (.inl ⟨HO.out, rfl, hwr⟩)⟩, of_two hb (below_regrown _ dq osq)⟩
set_option maxHeartbeats 400000 in
theorem iarg_13_3 (w : World) (hT : DevTab w) : Calls Tryd.prog 20 #[.agg #[.int .i64 13, .int .i64 3, .int .i64 0]] w (ArgCame 13 3 0 w) := by
  have HO : Hid (okB 13 3 0 = true) := (okB_13 3 0).trans (by decide)
  go_enter Tryd.func20, Tryd.ntmps20
  go_wp2_with fail
  refine (devOk_any _ _ _ _ (hT.alloc _)).mono ?_
  rintro e w1 ⟨rfl, hb⟩
  rw [HO.out]
  obtain ⟨c0, c1, c2⟩ := arg_at 13 3 0 w
  have hlt : w.heap.size < (w.alloc (argO 13 3 0)).heap.size := by simp
  rw [← hb.cell (p := ⟨w.heap.size, 1, none⟩) hlt] at c1
  have k1 := cell_regrown c1
  clear c0 c1 c2
  obtain ⟨x0, x1, x2, x3, hX, hg⟩ := words_letters w1
  have HX : Hid _ := hX
  clear hX
  go_wp2
  refine wp_region_quiet_below (by kernel_rfl) (by kernel_rfl) ?_
  repeat (first | go_big_quiet_step (with_reducible exact hg _ _) | quiet_step (with_reducible exact hg _ _))
  refine wpQuiet_nil ?_
  intro _ hw'
  obtain ⟨⟨dq, osq⟩, hw''⟩ := hw'
  subst hw''
  go_wp2
  go_ret
  have hwr : WordR 3 x3 := wordR_lib (.inr (.inr (.inr ⟨rfl, HX.out.2.2.2⟩)))
  exact ⟨_, rfl, ⟨hwr.1, .inr (.inl ⟨HO.out, rfl, hwr⟩)⟩, of_two hb (below_regrown _ dq osq)⟩
end
theorem iarg_any (k n p : Int) (w : World) (hT : DevTab w) : Calls Tryd.prog 20 #[.agg #[.int .i64 k, .int .i64 n, .int .i64 p]] w (ArgCame k n p w) := by
  by_cases h1 : k = 12
  · subst h1; exact iarg_12 n p w hT
  by_cases h2 : k = 13
  · subst h2
    cases hok : okB 13 n p
    · exact iarg_13n n p w hT hok
    · obtain ⟨n0, n4, rfl⟩ := wordOk_in hok
      rcases word_ok n0 n4 with rfl | rfl | rfl | rfl
      · exact iarg_13_0 w hT
      · exact iarg_13_1 w hT
      · exact iarg_13_2 w hT
      · exact iarg_13_3 w hT
  · exact iarg_no k n p w (by simpa using h1) (by simpa using h2)
end Go.Proofs.YtljhpagpohihcabDoor
