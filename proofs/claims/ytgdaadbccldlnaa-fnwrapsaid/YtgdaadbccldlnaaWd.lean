/- The walk of FnWrap. Helper text: no statement is claimed here. -/
import Derived.Test.YtgdaadbccldlnaaRw
namespace Go.Proofs.Ytgdaadbccldlnaa
open Go.ChangeShapes Go.WideShapes Go.ChangeAt Go.RowKit

def DrawnCalc (w : World) (e : Ending) (w' : World) : Prop := ∃ o a b : Int, e = .returned (.tuple #[.int .i64 o, .int .i16 a, .int .i16 b]) ∧ -32768 ≤ a ∧ a ≤ 32767 ∧ -32768 ≤ b ∧ b ≤ 32767 ∧ Below w.heap.size w w'
theorem post_3 {fn : Func} {t u v : Tmp} {tmps : Array Value} {W : World} {x y z : Value} (h : fn.results = #[.tmp t, .tmp u, .tmp v]) (h1 : tmps.getD t undef = x) (h2 : tmps.getD u undef = y) (h3 : tmps.getD v undef = z) :
    (results fn tmps).run Try.prog W = .ok (.tuple #[x, y, z]) W := by
  rw [results_tmp3 h, h1, h2, h3]

set_option maxHeartbeats 400000 in
theorem drawCalc_any (a : Option Addr) (len cap : Nat) (w : World) (h : IsRow w a len) (hlc : len ≤ cap) :
    Calls Try.prog 4 #[.slice a len cap] w (DrawnCalc w) := by
  have hH : Hid (IsRow w a len) := h
  clear h
  go_enter Try.func4, Try.ntmps4
  go_wp2_with fail
  refine (open_any a len cap _ hH.out hlc).mono ?_
  rintro e w1 ⟨rfl, hr1, hb1⟩
  go_wp2_with fail
  refine (op_any w.heap.size 0 _ hr1 (by omega)).mono ?_
  rintro e w2 ⟨o, rfl, o0, o1, hr2, st2⟩
  have sw2 : Below w.heap.size w w2 := hb1.trans (st2.below (by omega) hb1.size)
  clear hb1 hr1 st2
  go_wp2_with fail
  refine (whole_any w.heap.size 2 _ hr2 (by omega)).mono ?_
  rintro e w3 ⟨x, rfl, x0, x1, hr3, st3⟩
  have sw3 : Below w.heap.size w w3 := sw2.trans (st3.below (by omega) sw2.size)
  clear sw2 hr2 st3
  go_wp2_with fail
  refine (pick_any w.heap.size 4 3 _ (by omega) hr3 (by omega)).mono ?_
  rintro e w4 ⟨u, rfl, u0, u1, -, hr4, st4⟩
  have sw4 : Below w.heap.size w w4 := sw3.trans (st4.below (by omega) sw3.size)
  clear st4 sw3 hr3 u1
  by_cases h0 : u = 0
  · subst h0
    go_wp2_with fail
    refine (pick_any w.heap.size 5 9 _ (by omega) hr4 (by omega)).mono ?_
    rintro e w5 ⟨y, rfl, y0, y1, -, hr5, st5⟩
    have sw5 : Below w.heap.size w w5 := sw4.trans (st5.below (by omega) sw4.size)
    have y1 : y < 9 := y1 (by omega)
    go_wp2
    exact bodyPost_ret (post_3 Try.results4 rfl rfl rfl) rfl ⟨o, x, _, rfl, x0, x1, by omega, by omega, sw5⟩
  · have h0' : (u == 0) = false := by simpa using h0
    clear h0
    go_wp2_with fail
    refine (whole_any w.heap.size 5 _ hr4 (by omega)).mono ?_
    rintro e w5 ⟨y, rfl, y0, y1, hr5, st5⟩
    have sw5 : Below w.heap.size w w5 := sw4.trans (st5.below (by omega) sw4.size)
    go_wp2
    exact bodyPost_ret (post_3 Try.results4 rfl rfl rfl) rfl ⟨o, x, _, rfl, x0, x1, y0, y1, sw5⟩

theorem w16_k (n : Int) : ∃ k, w16 n = n + 65536 * k := ⟨-((n + 32768) / 65536), by unfold w16; omega⟩
theorem w16_same {m n : Int} (k : Int) (h : m = n + 65536 * k) : w16 m = w16 n := by unfold w16; omega
theorem w16_fix {n : Int} (h : -32768 ≤ n) (h2 : n ≤ 32767) : w16 n = n := by unfold w16; omega

theorem back_ok {a b : Int} (h : -32768 ≤ a) (h2 : a ≤ 32767) : w16 (w16 (a + b) - b) = a := by
  obtain ⟨k, hk⟩ := w16_k (a + b)
  rw [w16_same (n := a) k (by rw [hk]; omega), w16_fix h h2]
theorem all_ok {a b : Int} (h : -32768 ≤ a) (h2 : a ≤ 32767) : w16 (w16 (w16 (a.tdiv b) * b) + w16 (a.tmod b)) = a := by
  obtain ⟨k1, e1⟩ := w16_k (a.tdiv b)
  obtain ⟨k2, e2⟩ := w16_k (w16 (a.tdiv b) * b)
  obtain ⟨k3, e3⟩ := w16_k (a.tmod b)
  have e4 : w16 (a.tdiv b) * b = a.tdiv b * b + 65536 * (k1 * b) := by rw [e1, Int.add_mul, Int.mul_assoc]
  have e5 := Int.mul_tdiv_add_tmod a b
  rw [Int.mul_comm] at e5
  rw [w16_same (n := a) (k2 + k3 + k1 * b) (by rw [e2, e3, e4]; omega), w16_fix h h2]

/-- The answers that FnWrap asks for. -/
structure Wrap (a b : Int) : Prop where
  back : w16 (w16 (a + b) - b) = a
  sum : w16 (a + b) = w16 (b + a)
  mul : w16 (a * b) = w16 (b * a)
  all : w16 (w16 (w16 (a.tdiv b) * b) + w16 (a.tmod b)) = a

set_option maxHeartbeats 1000000 in
theorem wrap_walk (s : Option Addr) (len cap : Nat) (w : World) (h : IsRow w s len) (hlc : len ≤ cap) :
    Calls Try.prog 3 #[.slice s len cap] w fun e w' => e = .returned (.bool true) ∧ Below w.heap.size w w' := by
  by_cases hl : 1048576 < len
  · have hl1 : (1048576 : Int) < len := by omega
    clear h
    go_enter Try.func3, Try.ntmps3
    go_wp2
    go_ret
    exact ⟨rfl, Below.refl _ _⟩
  have hl1 : ¬ (1048576 : Int) < len := by omega
  have hH : Hid (IsRow w s len) := h
  clear h
  go_enter Try.func3, Try.ntmps3
  go_wp2_with fail
  refine (drawCalc_any s len cap _ hH.out hlc).mono ?_
  rintro e w1 ⟨o, a, b, rfl, a0, a1, b0, b1, hb1⟩
  have hs := w16_in (a + b)
  go_wp2_with fail
  refine (calc_1 a b _ a0 a1 b0 b1).mono ?_
  rintro e w2 ⟨rfl, rfl⟩
  go_wp2_with fail
  refine (calc_2 (w16 (a + b)) b _ hs.1 hs.2 b0 b1).mono ?_
  rintro e w2 ⟨rfl, rfl⟩
  rw [back_ok a0 a1]
  go_wp2_with fail
  refine (calc_1 b a _ b0 b1 a0 a1).mono ?_
  rintro e w2 ⟨rfl, rfl⟩
  rw [Int.add_comm b a]
  go_wp2_with fail
  refine (calc_3 a b _ a0 a1 b0 b1).mono ?_
  rintro e w2 ⟨rfl, rfl⟩
  go_wp2_with fail
  refine (calc_3 b a _ b0 b1 a0 a1).mono ?_
  rintro e w2 ⟨rfl, rfl⟩
  rw [Int.mul_comm b a]
  by_cases hz : b = 0
  · subst hz
    go_wp2_with fail
    refine (calc_40 a _ a0 a1).mono ?_
    rintro e w2 ⟨rfl, rfl⟩
    go_wp2_with fail
    refine (calc_50 a _ a0 a1).mono ?_
    rintro e w2 ⟨rfl, rfl⟩
    go_wp2_with fail
    refine (calc_3 0 0 _ (by omega) (by omega) (by omega) (by omega)).mono ?_
    rintro e w2 ⟨rfl, rfl⟩
    rw [show w16 (0 * 0) = 0 from rfl]
    go_wp2_with fail
    refine (calc_1 0 0 _ (by omega) (by omega) (by omega) (by omega)).mono ?_
    rintro e w2 ⟨rfl, rfl⟩
    go_wp2
    go_ret
    exact ⟨rfl, hb1⟩
  · have h0 : (b == 0) = false := by simpa using hz
    have h0' : (b != 0) = true := by simpa using hz
    clear hz
    have hq := w16_in (a.tdiv b)
    have hm := w16_in (a.tmod b)
    have hp := w16_in (w16 (a.tdiv b) * b)
    go_wp2_with fail
    refine (calc_4 a b _ a0 a1 b0 b1 h0 h0').mono ?_
    rintro e w2 ⟨rfl, rfl⟩
    go_wp2_with fail
    refine (calc_5 a b _ a0 a1 b0 b1 h0 h0').mono ?_
    rintro e w2 ⟨rfl, rfl⟩
    go_wp2_with fail
    refine (calc_3 _ b _ hq.1 hq.2 b0 b1).mono ?_
    rintro e w2 ⟨rfl, rfl⟩
    go_wp2_with fail
    refine (calc_1 _ _ _ hp.1 hp.2 hm.1 hm.2).mono ?_
    rintro e w2 ⟨rfl, rfl⟩
    rw [all_ok a0 a1]
    go_wp2
    go_ret
    exact ⟨rfl, hb1⟩
end Go.Proofs.Ytgdaadbccldlnaa
