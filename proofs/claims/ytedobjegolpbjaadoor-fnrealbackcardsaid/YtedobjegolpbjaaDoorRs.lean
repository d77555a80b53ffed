/- The drawing of real numbers: l2Real. Helper text: no statement is claimed here. -/
import Derived.Test.YtedobjegolpbjaaDoorRr
namespace Go.Proofs.YtedobjegolpbjaaDoor
open Go.ChangeShapes Go.WideShapes Go.ChangeAt Go.RowKit Fl

theorem unary_negR (k : FloatKind) (b : Nat) : Op.unary .neg (.float k b) = pure (.float k (Op.negFloat k b)) := rfl
theorem ofInt_lt (n : Int) : floatOfInt .f64 n < 2 ^ 64 := (ofInt_keeps n).1
section
attribute [local go_sem] unary_negR
set_option maxHeartbeats 4000000 in
theorem real_any (rb m : Nat) (w : World) (hr : Rd w rb m) (hm : m ≤ 8800) :
    Calls Tryd.prog 21 #[.pointer (some ⟨rb, 0, none⟩)] w (DrawnR rb (m + 120) w) := by
  go_enter Tryd.func21, Tryd.ntmps21
  go_wp2_with fail
  refine (pick_any rb m 16 _ (by omega) hr (by omega)).mono ?_
  rintro e w1 ⟨q, rfl, q0, q1, -, hr1, st1⟩
  have hlt1 := hr1.lt
  clear q1
  by_cases h0 : q = 0
  · subst h0
    go_wp2_with fail
    refine (nanR_any _).mono ?_
    rintro e w2 ⟨r, rfl, -, hl, hb⟩
    go_wp2
    go_ret
    exact ⟨r, rfl, hl, (hr1.to hb).mono (by omega), st1.trans (Step.of hb)⟩
  have h0' : (q == 0) = false := by simpa using h0
  clear h0
  by_cases h1 : q = 1
  · subst h1
    go_wp2_with fail
    refine (infR_any _).mono ?_
    rintro e w2 ⟨rfl, rfl⟩
    go_wp2
    go_ret
    exact ⟨_, rfl, wi_lt false, hr1.mono (by omega), st1⟩
  have h1' : (q == 1) = false := by simpa using h1
  clear h1
  by_cases h2 : q = 2
  · subst h2
    go_wp2_with fail
    refine (infR_any _).mono ?_
    rintro e w2 ⟨rfl, rfl⟩
    go_wp2
    go_ret
    exact ⟨_, rfl, by rw [neg_wi]; exact wi_lt true, hr1.mono (by omega), st1⟩
  have h2' : (q == 2) = false := by simpa using h2
  clear h2
  by_cases h3 : q = 3
  · subst h3
    go_wp2
    go_ret
    exact ⟨0, rfl, by omega, hr1.mono (by omega), st1⟩
  have h3' : (q == 3) = false := by simpa using h3
  clear h3
  by_cases h4 : q = 4
  · subst h4
    go_wp2
    go_ret
    have e : Op.negFloat .f64 0 = wd true 0 0 := neg_wd sc00 (by omega) false
    exact ⟨_, rfl, by rw [e]; exact wd_lt sc00 (by omega) true, hr1.mono (by omega), st1⟩
  have h4' : (q == 4) = false := by simpa using h4
  clear h4
  by_cases h5 : q = 5
  · subst h5
    go_wp2_with fail
    refine (pick_any rb (m + 1) 40 _ (by omega) hr1 (by omega)).mono ?_
    rintro e w2 ⟨u, rfl, u0, u1, -, hr2, st2⟩
    have u1 : u < 40 := u1 (by omega)
    obtain ⟨r, w3, hrun, hl, -, hb⟩ := run_real .mul (by simp [arith]) 1 (floatOfInt .f64 (1 + u)) w2
    go_wp2
    go_ret
    exact ⟨r, rfl, hl, (hr2.to hb).mono (by omega), (st1.trans st2).trans (Step.of hb)⟩
  have h5' : (q == 5) = false := by simpa using h5
  clear h5
  by_cases h6 : q = 6
  · subst h6
    go_wp2
    go_ret
    exact ⟨_, rfl, by omega, hr1.mono (by omega), st1⟩
  have h6' : (q == 6) = false := by simpa using h6
  clear h6
  by_cases h7 : q = 7
  · subst h7
    go_wp2
    go_ret
    exact ⟨_, rfl, by omega, hr1.mono (by omega), st1⟩
  have h7' : (q == 7) = false := by simpa using h7
  clear h7
  by_cases h8 : q = 8
  · subst h8
    go_wp2_with fail
    refine (pick_any rb (m + 1) 9 _ (by omega) hr1 (by omega)).mono ?_
    rintro e w2 ⟨u, rfl, u0, u1, -, hr2, st2⟩
    have u1 : u < 9 := u1 (by omega)
    obtain ⟨r, w3, hrun, hl, -, hb⟩ := run_real .mul (by simp [arith]) 1 (floatOfInt .f64 (u - 4)) w2
    obtain ⟨r', w4, hrun', hl', -, hb'⟩ := run_real .add (by simp [arith]) 4503599627370496 r w3
    go_wp2
    go_ret
    exact ⟨r', rfl, hl', ((hr2.to hb).to hb').mono (by omega), ((st1.trans st2).trans (Step.of hb)).trans (Step.of hb')⟩
  have h8' : (q == 8) = false := by simpa using h8
  clear h8
  by_cases h9 : q = 9
  · subst h9
    go_wp2_with fail
    refine (word_any rb (m + 1) _ hr1 (by omega)).mono ?_
    rintro e w2 ⟨v, rfl, v0, v1, hr2, st2⟩
    go_wp2_with fail
    refine (pick_any rb (m + 9) 200 _ (by omega) hr2 (by omega)).mono ?_
    rintro e w3 ⟨u, rfl, u0, u1, -, hr3, st3⟩
    have u1 : u < 200 := u1 (by omega)
    obtain ⟨r, w4, hrun, hl, -, hb⟩ := run_real .quo (by simp [arith]) (floatOfInt .f64 (wrap64 v)) (floatOfInt .f64 (1 + u)) w3
    have hr4 := hr3.to hb
    have st4 : Step rb w w4 := ((st1.trans st2).trans st3).trans (Step.of hb)
    clear hr3 hr2 st1 st2 st3 hr1 hb
    go_wp2_with fail
    refine (pick_any rb (m + 10) 100 _ (by omega) hr4 (by omega)).mono ?_
    rintro e w5 ⟨z, rfl, z0, z1, -, hr5, st5⟩
    have z1 : z < 100 := z1 (by omega)
    obtain ⟨z, rfl⟩ := Int.eq_ofNat_of_zero_le z0
    have st5' := st4.trans st5
    clear st5 st4 hr4
    go_wp2
    go_loopw [4, 5] (fun x c w' => ∃ (r : Nat) (j : Nat), j < 100 ∧ x = .float .f64 r ∧ r < 2 ^ 64 ∧ c = .int .i64 (j : Int) ∧ Rd w' rb (m + 11) ∧ Step rb w w') (fun _ c _ => (intOf c).toNat)
    case atStart => exact ⟨r, z, by omega, rfl, hl, rfl, hr5, st5'⟩
    case round =>
      clear hr5 st5' hl
      obtain ⟨r1, j, hj, rfl, hl1, rfl, hr6, st6⟩ := hrel
      rename_i wr
      by_cases hlt : 0 < j
      · have hlt' : (0 : Int) < (j : Int) := by omega
        obtain ⟨r2, w7, hrun2, hl2, -, hb2⟩ := run_real .mul (by simp [arith]) r1 4563638014722897556 wr
        go_wp2
        exact ⟨⟨r2, j - 1, by omega, rfl, hl2, by go_num, hr6.to hb2, st6.trans (Step.of hb2)⟩, by simp [intOf]; omega⟩
      · have hlt' : ¬ (0 : Int) < (j : Int) := by omega
        go_wp2
        go_ret
        exact ⟨r1, rfl, hl1, hr6.mono (by omega), st6⟩
  have h9' : (q == 9) = false := by simpa using h9
  clear h9
  by_cases h10 : q = 10
  · subst h10
    go_wp2_with fail
    refine (num_any rb (m + 1) w1.heap.size 5 _ (by omega) (by omega) (hr1.alloc _) (by omega) ?_ (by omega)).mono ?_
    · have := nums_of w1 [32767, 32768, -32768, -32769, 32766] 3 (by simp)
      simpa using this
    rintro e w2 ⟨v, rfl, v0, v1, hr2, st2⟩
    have st2' : Step rb w w2 := (st1.trans (Step.alloc rb _ _)).trans st2
    go_wp2_with fail
    refine (pick_any rb (m + 2) 5 _ (by omega) hr2 (by omega)).mono ?_
    rintro e w3 ⟨u, rfl, u0, u1, -, hr3, st3⟩
    have u1 : u < 5 := u1 (by omega)
    obtain ⟨r, w4, hrun, hl, -, hb⟩ := run_real .mul (by simp [arith]) (floatOfInt .f64 (u - 2)) 4598175219545276416 w3
    obtain ⟨r', w5, hrun', hl', -, hb'⟩ := run_real .add (by simp [arith]) (floatOfInt .f64 v) r w4
    go_wp2
    go_ret
    exact ⟨r', rfl, hl', ((hr3.to hb).to hb').mono (by omega), ((st2'.trans st3).trans (Step.of hb)).trans (Step.of hb')⟩
  have h10' : (q == 10) = false := by simpa using h10
  clear h10
  by_cases h11 : q = 11
  · subst h11
    go_wp2_with fail
    refine (word_any rb (m + 1) _ hr1 (by omega)).mono ?_
    rintro e w2 ⟨v, rfl, v0, v1, hr2, st2⟩
    go_wp2
    go_ret
    exact ⟨_, rfl, ofInt_lt _, hr2.mono (by omega), st1.trans st2⟩
  have h11' : (q == 11) = false := by simpa using h11
  clear h11
  go_wp2_with fail
  refine (pick_any rb (m + 1) 41 _ (by omega) hr1 (by omega)).mono ?_
  rintro e w2 ⟨u, rfl, u0, u1, -, hr2, st2⟩
  have u1 : u < 41 := u1 (by omega)
  obtain ⟨r, w3, hrun, hl, -, hb⟩ := run_real .mul (by simp [arith]) (floatOfInt .f64 (u - 20)) 4598175219545276416 w2
  go_wp2
  go_ret
  exact ⟨r, rfl, hl, (hr2.to hb).mono (by omega), (st1.trans st2).trans (Step.of hb)⟩
end
end Go.Proofs.YtedobjegolpbjaaDoor
