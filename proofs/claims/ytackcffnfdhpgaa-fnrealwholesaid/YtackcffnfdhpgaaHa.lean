/- Cutting a real number to a whole one: RealWhole, and the walk of FnRealWhole. Helper text: no statement is claimed here. -/
import Derived.Test.YtackcffnfdhpgaaRs
import Derived.Test.YtackcffnfdhpgaaHc
import Derived.Test.YtackcffnfdhpgaaFk
namespace Go.Proofs.Ytackcffnfdhpgaa
open Go.ChangeShapes Go.WideShapes Go.ChangeAt Go.RowKit Fl

theorem post_cut {fn : Func} {t u : Tmp} {tmps : Array Value} {W : World} {x y : Value} (h : fn.results = #[.tmp t, .tmp u]) (h1 : tmps.getD t undef = x) (h2 : tmps.getD u undef = y) :
    (results fn tmps).run Try.prog W = .ok (.tuple #[x, y]) W := by
  rw [results_tmp2 h, h1, h2]
set_option maxHeartbeats 400000 in
theorem cut_no (x : Nat) (w : World) (h : (ord x 13898108587504304128 == some .gt && ord x 4674736413210574848 == some .lt) = false) :
    Calls Try.prog 6 #[.float .f64 x] w fun e w' => e = .returned (.tuple #[.int .i16 0, .bool false]) ∧ w' = w := by
  cases h1 : (ord x 13898108587504304128 == some .gt)
  · clear h
    go_enter Try.func6, Try.ntmps6
    go_wp2
    exact bodyPost_ret (v := .tuple #[.int .i16 0, .bool false]) (post_cut Try.results6 rfl rfl) rfl ⟨rfl, rfl⟩
  · rw [h1] at h
    have h2 : (ord x 4674736413210574848 == some .lt) = false := by simpa using h
    clear h
    go_enter Try.func6, Try.ntmps6
    go_wp2
    exact bodyPost_ret (v := .tuple #[.int .i16 0, .bool false]) (post_cut Try.results6 rfl rfl) rfl ⟨rfl, rfl⟩
set_option maxHeartbeats 400000 in
theorem cut_yes (x : Nat) (n : Int) (w : World) (h1 : (ord x 13898108587504304128 == some .gt) = true) (h2 : (ord x 4674736413210574848 == some .lt) = true)
    (h3 : ∀ w : World, (convert 28 23 (.float .f64 x)).run Try.prog w = .ok (.int .i16 n) w) :
    Calls Try.prog 6 #[.float .f64 x] w fun e w' => e = .returned (.tuple #[.int .i16 n, .bool true]) ∧ w' = w := by
  go_enter Try.func6, Try.ntmps6
  go_wp2
  exact bodyPost_ret (v := .tuple #[.int .i16 n, .bool true]) (post_cut Try.results6 rfl rfl) rfl ⟨rfl, rfl⟩
theorem run_cut16 {x : Nat} {n : Int} (h : floatToIntVal .f64 x .i16 = some n) (w : World) : (convert 28 23 (.float .f64 x)).run Try.prog w = .ok (.int .i16 n) w :=
  run_convert_float_int w 28 23 .f64 .i16 x n (by rw [Try.underlying28]; rfl) Try.underlying23 h

def DrawnReal (w : World) (e : Ending) (w' : World) : Prop := ∃ x : Nat, e = .returned (.float .f64 x) ∧ x < 2 ^ 64 ∧ Below w.heap.size w w'
set_option maxHeartbeats 400000 in
theorem drawReal_any (a : Option Addr) (len cap : Nat) (w : World) (h : IsRow w a len) (hlc : len ≤ cap) :
    Calls Try.prog 7 #[.slice a len cap] w (DrawnReal w) := by
  have hH : Hid (IsRow w a len) := h
  clear h
  go_enter Try.func7, Try.ntmps7
  go_wp2_with fail
  refine (open_any a len cap _ hH.out hlc).mono ?_
  rintro e w1 ⟨rfl, hr1, hb1⟩
  go_wp2_with fail
  refine (real_any w.heap.size 0 _ hr1 (by omega)).mono ?_
  rintro e w2 ⟨x, rfl, hx, hr2, st2⟩
  have sw2 : Below w.heap.size w w2 := hb1.trans (st2.below (by omega) hb1.size)
  go_wp2
  go_ret
  exact ⟨x, rfl, hx, sw2⟩

/-- A whole number of 16 bits as a real one is cut to itself. -/
theorem own_cut {a : Int} (h1 : -32768 ≤ a) (h2 : a ≤ 32767) :
    (ord (floatOfInt .f64 a) 13898108587504304128 == some .gt) = true ∧ (ord (floatOfInt .f64 a) 4674736413210574848 == some .lt) = true ∧ floatToIntVal .f64 (floatOfInt .f64 a) .i16 = some a := by
  obtain ⟨z, hz⟩ : ∃ z, z = 1074 := ⟨_, rfl⟩
  obtain ⟨m, k, g1, g2, g3, g4, g5⟩ := ofInt_z (n := a) (by omega) z hz
  have hU : 0 < 2 ^ z := Nat.two_pow_pos z
  have hdiv : m * 2 ^ k / 2 ^ z = a.natAbs := by rw [g4, Nat.mul_div_cancel _ hU]
  have hsg : sg (decide (a < 0)) a.natAbs = a := by
    by_cases h : a < 0
    · simp [sg, h]; omega
    · simp [sg, h]; omega
  have hV : sg (decide (a < 0)) (m * 2 ^ k) = a * ((2 ^ z : Nat) : Int) := by rw [g4, sg_scale, hsg]
  have hk : k ≤ 2045 := by omega
  rw [g3]
  refine ⟨?_, ?_, ?_⟩
  · rw [ask_lo g1 hk, hV, ← hz]
    generalize 2 ^ z = U at *
    simp only [decide_eq_true_eq]
    have : (-32768 : Int) * U ≤ a * U := Int.mul_le_mul_of_nonneg_right h1 (by omega)
    omega
  · rw [ask_hi g1 hk, hV, ← hz]
    generalize 2 ^ z = U at *
    simp only [decide_eq_true_eq]
    have : a * (U : Int) ≤ 32767 * U := Int.mul_le_mul_of_nonneg_right h2 (by omega)
    omega
  · have := toInt_i16 g1 hk (decide (a < 0)) z hz (by rw [hdiv, hsg]; exact h1) (by rw [hdiv, hsg]; exact h2)
    rw [this, hdiv, hsg]

set_option maxHeartbeats 4000000 in
theorem whole_walk (s : Option Addr) (len cap : Nat) (w : World) (h : IsRow w s len) (hlc : len ≤ cap) :
    Calls Try.prog 3 #[.slice s len cap] w fun e w' => e = .returned (.bool true) ∧ Below w.heap.size w w' := by
  by_cases hl : 1048576 < len
  · have hl1 : (1048576 : Int) < len := by omega
    clear h
    go_enter Try.func3, Try.ntmps3
    go_wp2
    go_ret
    exact ⟨rfl, Below.refl _ _⟩
  have hl1 : ¬ (1048576 : Int) < len := by omega
  have hH : Hid (IsRow w s len) := h
  clear h
  go_enter Try.func3, Try.ntmps3
  go_wp2_with fail
  refine (drawCmp_any s len cap _ hH.out hlc).mono ?_
  rintro e w1 ⟨o, a, b, rfl, a0, a1, -, -, hb1⟩
  obtain ⟨q1, q2, q3⟩ := own_cut a0 a1
  go_wp2_with fail
  refine (cut_yes _ a _ q1 q2 (run_cut16 q3)).mono ?_
  rintro e w2 ⟨rfl, rfl⟩
  clear q1 q2 q3
  have hH1 : Hid (IsRow w2 s len) := by
    rcases hH.out with h | ⟨b, off, f, rfl, hc⟩
    · exact .inl h
    · refine .inr ⟨b, off, f, rfl, fun i hi => ?_⟩
      have := hc i hi
      rw [hb1.cell (p := ⟨b, off + i, none⟩) (World.block_lt_of_cell? w ⟨b, off + i, none⟩ this.1)]
      exact this
  go_wp2_with fail
  refine (drawReal_any s len cap _ hH1.out hlc).mono ?_
  rintro e w3 ⟨x, rfl, hx, hb3⟩
  have hb13 := hb1.trans (hb3.mono hb1.size)
  rcases whole_cases hx with hno | ⟨t, m, k, hs, hk, rfl, y1, y2, y3, n1, n2⟩
  · go_wp2_with fail
    refine (cut_no x _ hno).mono ?_
    rintro e w4 ⟨rfl, rfl⟩
    cases h1 : (ord x 13898108587504304128 == some .gt)
    · clear hno
      go_wp2
      go_ret
      exact ⟨rfl, hb13⟩
    · rw [h1] at hno
      have h2 : (ord x 4674736413210574848 == some .lt) = false := by simpa using hno
      clear hno
      go_wp2
      go_ret
      exact ⟨rfl, hb13⟩
  · obtain ⟨d, hd, hR⟩ := rest_ok hs hk t 1074 rfl n1 n2
    obtain ⟨r1, r2, r3, r4⟩ := hR
    generalize sg t (m * 2 ^ k / 2 ^ 1074) = n at *
    generalize wd t m k = x at *
    have hrun := run_somR hd
    go_wp2_with fail
    refine (cut_yes _ n _ y1 y2 (run_cut16 y3)).mono ?_
    rintro e w4 ⟨rfl, rfl⟩
    clear hd y1 y2 y3
    rcases r3 with r3 | ⟨r3, r5⟩ <;> rcases r4 with r4 | ⟨r4, r6⟩
    all_goals
      go_wp2
      go_ret
      exact ⟨rfl, hb13⟩
end Go.Proofs.Ytackcffnfdhpgaa
