/- Drawing a test of two numbers, whole and real ones. Helper text: no statement is claimed here. -/
import Derived.Test.YtackcffnfdhpgaaRw
namespace Go.Proofs.Ytackcffnfdhpgaa
open Go.ChangeShapes Go.WideShapes Go.ChangeAt Go.RowKit

def DrawnCmp (w : World) (e : Ending) (w' : World) : Prop := ∃ o a b : Int, e = .returned (.tuple #[.int .i64 o, .int .i16 a, .int .i16 b]) ∧ -32768 ≤ a ∧ a ≤ 32767 ∧ -32768 ≤ b ∧ b ≤ 32767 ∧ Below w.heap.size w w'
theorem post_3c {fn : Func} {t u v : Tmp} {tmps : Array Value} {W : World} {x y z : Value} (h : fn.results = #[.tmp t, .tmp u, .tmp v]) (h1 : tmps.getD t undef = x) (h2 : tmps.getD u undef = y) (h3 : tmps.getD v undef = z) :
    (results fn tmps).run Try.prog W = .ok (.tuple #[x, y, z]) W := by
  rw [results_tmp3 h, h1, h2, h3]
set_option maxHeartbeats 400000 in
theorem drawCmp_any (a : Option Addr) (len cap : Nat) (w : World) (h : IsRow w a len) (hlc : len ≤ cap) :
    Calls Try.prog 5 #[.slice a len cap] w (DrawnCmp w) := by
  have hH : Hid (IsRow w a len) := h
  clear h
  go_enter Try.func5, Try.ntmps5
  go_wp2_with fail
  refine (open_any a len cap _ hH.out hlc).mono ?_
  rintro e w1 ⟨rfl, hr1, hb1⟩
  go_wp2_with fail
  refine (op_any w.heap.size 0 _ hr1 (by omega)).mono ?_
  rintro e w2 ⟨o, rfl, o0, o1, hr2, st2⟩
  have sw2 : Below w.heap.size w w2 := hb1.trans (st2.below (by omega) hb1.size)
  clear hb1 hr1 st2
  go_wp2_with fail
  refine (whole_any w.heap.size 2 _ hr2 (by omega)).mono ?_
  rintro e w3 ⟨x, rfl, x0, x1, hr3, st3⟩
  have sw3 : Below w.heap.size w w3 := sw2.trans (st3.below (by omega) sw2.size)
  clear sw2 hr2 st3
  go_wp2_with fail
  refine (pick_any w.heap.size 4 3 _ (by omega) hr3 (by omega)).mono ?_
  rintro e w4 ⟨u, rfl, u0, u1, -, hr4, st4⟩
  have sw4 : Below w.heap.size w w4 := sw3.trans (st4.below (by omega) sw3.size)
  clear st4 sw3 hr3 u1
  by_cases h0 : u = 0
  · subst h0
    go_wp2
    exact bodyPost_ret (post_3c Try.results5 rfl rfl rfl) rfl ⟨o, x, _, rfl, x0, x1, x0, x1, sw4⟩
  · have h0' : (u == 0) = false := by simpa using h0
    clear h0
    go_wp2_with fail
    refine (whole_any w.heap.size 5 _ hr4 (by omega)).mono ?_
    rintro e w5 ⟨y, rfl, y0, y1, hr5, st5⟩
    have sw5 : Below w.heap.size w w5 := sw4.trans (st5.below (by omega) sw4.size)
    go_wp2
    exact bodyPost_ret (post_3c Try.results5 rfl rfl rfl) rfl ⟨o, x, _, rfl, x0, x1, y0, y1, sw5⟩
end Go.Proofs.Ytackcffnfdhpgaa
