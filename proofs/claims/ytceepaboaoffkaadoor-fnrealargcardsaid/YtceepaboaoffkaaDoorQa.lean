/- The drawing of decimal numbers and words; the law's own wrSame and wrDec. Helper text: no statement is claimed here. -/
import Derived.Test.YtceepaboaoffkaaDoorRc
import Derived.Test.YtceepaboaoffkaaDoorAc
namespace Go.Proofs.YtceepaboaoffkaaDoor
open Go.ChangeShapes Go.WideShapes Go.ChangeAt Go.RowKit Fl

set_option maxHeartbeats 1000000 in
theorem drawArg_any (a : Option Addr) (len cap : Nat) (w : World) (h : IsRow w a len) (hlc : len ≤ cap) :
    Calls Tryd.prog 21 #[.slice a len cap] w (DrawnNew w) := by
  have hH : Hid (IsRow w a len) := h
  clear h
  go_enter Tryd.func21, Tryd.ntmps21
  go_wp2_with fail
  refine (open_any a len cap _ (hH.out.alloc _) hlc).mono ?_
  rintro e w1 ⟨rfl, hr1, hb1⟩
  have hrb : (w.alloc (.cells #[.int .i64 0, .int .i64 0, .int .i64 0] 41)).heap.size = w.heap.size + 1 := by simp
  rw [hrb] at hr1
  have oa : Own w1 w.heap.size (.int .i64 0) (.int .i64 0) (.int .i64 0) := (Own.new w (.int .i64 0) (.int .i64 0) (.int .i64 0)).below hb1
  have sw : Below w.heap.size w w1 := of_one hb1
  clear hb1
  go_wp2_with fail
  refine (pick_any (w.heap.size + 1) 0 4 _ (by omega) hr1 (by omega)).mono ?_
  rintro e w2 ⟨u, rfl, u0, u1, -, hr2, st2⟩
  have oa2 := oa.step st2 (by omega)
  have sw2 : Below w.heap.size w w2 := sw.trans (st2.below (by omega) sw.size)
  clear st2 oa sw hr1 u1
  by_cases hu : u = 0
  · subst hu
    go_wp2_with fail
    refine (argAny_any (w.heap.size + 1) 1 _ hr2 (by omega)).mono ?_
    rintro e w3 ⟨k, n, p, rfl, hk, hn, hp, hr3, st3⟩
    have oa3 := oa2.step st3 (by omega)
    have sw3 : Below w.heap.size w w3 := sw2.trans (st3.below (by omega) sw2.size)
    obtain ⟨⟨r0, r1, r2⟩, y0, y1, y2⟩ := oa3
    go_wp2
    exact bodyPost_ret (v := .agg #[.int .i64 k, .int .i64 n, .int .i64 p]) (resArg Tryd.results21 rfl (put3 ⟨r0, r1, r2⟩)) rfl ⟨k, n, p, rfl, hk, hn, hp, put3_below sw3 (Nat.le_refl _)⟩
  · have hu' : (u == 0) = false := by simpa using hu
    clear hu
    go_wp2_with fail
    refine (pick_any (w.heap.size + 1) 1 2 _ (by omega) hr2 (by omega)).mono ?_
    rintro e w3 ⟨v, rfl, v0, v1, -, hr3, st3⟩
    have v1 : v < 2 := v1 (by omega)
    have oa3 := oa2.step st3 (by omega)
    have sw3 : Below w.heap.size w w3 := sw2.trans (st3.below (by omega) sw2.size)
    clear st3 oa2 sw2
    go_wp2_with fail
    refine (arg_any (w.heap.size + 1) 2 (12 + v) _ hr3 (by omega) (by unfold Sm; omega)).mono ?_
    rintro e w4 ⟨k, n, p, rfl, hk, hn, hp, hr4, st4⟩
    have oa4 := oa3.step st4 (by omega)
    have sw4 : Below w.heap.size w w4 := sw3.trans (st4.below (by omega) sw3.size)
    obtain ⟨⟨r0, r1, r2⟩, y0, y1, y2⟩ := oa4
    go_wp2
    exact bodyPost_ret (v := .agg #[.int .i64 k, .int .i64 n, .int .i64 p]) (resArg Tryd.results21 rfl (put3 ⟨r0, r1, r2⟩)) rfl ⟨k, n, p, rfl, hk, hn, hp, put3_below sw4 (Nat.le_refl _)⟩

theorem tens {n : Int} (d : Nat) (h1 : -999999999 ≤ n) (h2 : n ≤ 999999999) (hd : d ≤ 6) : -999999999000000 ≤ n * ((10 ^ d : Nat) : Int) ∧ n * ((10 ^ d : Nat) : Int) ≤ 999999999000000 := by
  have h : (n * ((10 ^ d : Nat) : Int)).natAbs ≤ 999999999 * 1000000 := by
    rw [Int.natAbs_mul, Int.natAbs_natCast]
    exact Nat.mul_le_mul (by omega) (ten_le hd).2
  omega
/-- A decimal number in units of its sixth digit. -/
def decV (n : Int) (p : Nat) : Int := n * ((10 ^ (6 - p) : Nat) : Int)
theorem ret_i64 {a b : Int} (h : a = b) : Ending.returned (.int .i64 a) = .returned (.int .i64 b) := by rw [h]
theorem tens_step (n : Int) (d : Nat) : n * ((10 ^ d : Nat) : Int) * 10 = n * ((10 ^ (d + 1) : Nat) : Int) := by rw [Int.mul_assoc, ten_step]

set_option maxHeartbeats 400000 in
theorem wrDec_any (k n : Int) (p : Nat) (w : World) (hn : -999999999 ≤ n) (hn2 : n ≤ 999999999) (hp : p ≤ 6) :
    Calls Tryd.prog 25 #[.agg #[.int .i64 k, .int .i64 n, .int .i64 (p : Int)]] w fun e w' => e = .returned (.int .i64 (decV n p)) ∧ Below w.heap.size w w' := by
  go_enter Tryd.func25, Tryd.ntmps25
  go_wp2
  go_loop [3, 4] (fun v c => ∃ d : Nat, p + d ≤ 6 ∧ v = .int .i64 (n * ((10 ^ d : Nat) : Int)) ∧ c = .int .i64 ((p + d : Nat) : Int)) (fun _ c => 10 - (intOf c).toNat)
  case atStart => exact ⟨0, by omega, by simp, rfl⟩
  case round =>
    obtain ⟨d, hd, rfl, rfl⟩ := hrel
    obtain ⟨b1, b2⟩ := tens d hn hn2 (by omega)
    by_cases hlt : p + d < 6
    · have hlt' : ((p + d : Nat) : Int) < 6 := by omega
      have HS : Hid (n * ((10 ^ d : Nat) : Int) * 10 = n * ((10 ^ (d + 1) : Nat) : Int)) := tens_step n d
      generalize n * ((10 ^ d : Nat) : Int) = V at *
      generalize hc : p + d = c at *
      have HC : Hid (p + d = c) := hc
      clear hc
      go_wp2
      refine ⟨⟨d + 1, by have := HC.out; omega, by rw [← HS.out], by have := HC.out; go_num⟩, by simp [intOf]; omega⟩
    · have hlt' : ¬ ((p + d : Nat) : Int) < 6 := by omega
      have HD : Hid (d = 6 - p) := by show d = 6 - p; omega
      generalize hV : n * ((10 ^ d : Nat) : Int) = V at *
      have HV : Hid (n * ((10 ^ d : Nat) : Int) = V) := hV
      clear hV
      generalize hc : p + d = c at *
      clear hc hd
      go_wp2
      go_ret
      exact ⟨ret_i64 (by unfold decV; rw [← HD.out, HV.out]), one _ _⟩

set_option maxHeartbeats 400000 in
theorem wrSame_nan (x y : Nat) (w : World) (hx : nan x) (hy : nan y) :
    Calls Tryd.prog 18 #[.float .f64 x, .float .f64 y] w fun e w' => e = .returned (.bool true) ∧ w' = w := by
  have h1 := (asks_nan hx).n
  have h2 := (asks_nan hy).n
  clear hx hy
  go_enter Tryd.func18, Tryd.ntmps18
  go_wp2
  go_ret
  exact ⟨rfl, rfl⟩
set_option maxHeartbeats 400000 in
theorem wrSame_z (x y : Nat) (w : World) (h1 : (ord x x != some .eq) = false) (h2 : (ord x 0 != some .eq) = false) (h4 : (ord x x == some .eq) = true)
    (h6 : ∀ (t : TypeId) (w : World), (binOp .quo t (.float .f64 4607182418800017408) (.float .f64 x)).run Tryd.prog w = .ok (.float .f64 y) w) :
    Calls Tryd.prog 18 #[.float .f64 x, .float .f64 x] w fun e w' => e = .returned (.bool true) ∧ w' = w := by
  go_enter Tryd.func18, Tryd.ntmps18
  go_wp2
  go_ret
  exact ⟨rfl, rfl⟩
set_option maxHeartbeats 400000 in
theorem wrSame_o (x : Nat) (w : World) (h1 : (ord x x != some .eq) = false) (h2 : (ord x 0 != some .eq) = true) (h4 : (ord x x == some .eq) = true) :
    Calls Tryd.prog 18 #[.float .f64 x, .float .f64 x] w fun e w' => e = .returned (.bool true) ∧ w' = w := by
  go_enter Tryd.func18, Tryd.ntmps18
  go_wp2
  go_ret
  exact ⟨rfl, rfl⟩
theorem eq_selfQ {x : Nat} (h : x < 2 ^ 64) (hn : ¬ nan x) : (ord x x == some .eq) = true := by
  simp only [ord, Go.FloatKind.format, order_self h hn]; rfl
theorem wd_zeroQ {s : Bool} {m k : Nat} (h : Sc m k) (h0 : m = 0) : wd s m k = wd s 0 0 := by
  subst h0
  rcases h.hk with rfl | h
  · rfl
  · omega
theorem bne_of {o : Option Ordering} {b : Bool} (h : (o == some .eq) = b) : (o != some .eq) = !b := by rw [← h]; rfl
theorem wrSame_any (x y : Nat) (w : World) (h : SameV x y) (hx : x < 2 ^ 64) :
    Calls Tryd.prog 18 #[.float .f64 x, .float .f64 y] w fun e w' => e = .returned (.bool true) ∧ w' = w := by
  rcases h with rfl | ⟨h1, h2⟩
  · rcases cases_wd hx with ⟨s, m, k, hs, hk, rfl⟩ | ⟨s, rfl⟩ | hn
    · by_cases h0 : m = 0
      · rw [wd_zeroQ hs h0]
        have a := asks_wd sc00 (by omega) s
        exact wrSame_z _ _ w a.n (bne_of a.z) (eq_selfQ (wd_lt sc00 (by omega) s) (not_nan_wd sc00 (by omega) s)) (run_some (one_by_zero s))
      · have a := asks_wd hs hk s
        exact wrSame_o _ w a.n (by rw [bne_of a.z]; simp [h0]) (eq_selfQ hx (not_nan_wd hs hk s))
    · have a := asks_wi s
      exact wrSame_o _ w a.n (bne_of a.z) (eq_selfQ hx (not_nan_wi s))
    · exact wrSame_nan x x w hn hn
  · exact wrSame_nan x y w h1 h2
end Go.Proofs.YtceepaboaoffkaaDoor
