/- nan, as the library and as the document make it; RealCalc at every number of what is reckoned; the walk of FnExactRealCalc. Helper text: no statement is claimed here. -/
import Derived.Test.YtackcffnfdhpgaaCc
namespace Go.Proofs.Ytackcffnfdhpgaa
open Go.ChangeShapes Go.WideShapes Go.ChangeAt Go.RowKit Fl

theorem frombits (n : Int) (w : World) : (callFunc 21 #[.int .u64 n]).run Try.prog w = .ok (.value (.float .f64 n.toNat)) w := by
  rw [run_callFunc_extern Try.func21 (by kernel_rfl) (by kernel_rfl) (by kernel_rfl) (e := Extern.MathFloatBits.float64frombits) (by kernel_rfl)]
  rfl
section
attribute [local go_sem] frombits
set_option maxHeartbeats 400000 in
theorem mathNaN_any (w : World) : Calls Try.prog 17 #[] w fun e w' => e = .returned (.float .f64 9221120237041090561) ∧ w' = w := by
  go_enter Try.func17, Try.ntmps17
  go_wp2
  go_ret
  exact ⟨rfl, rfl⟩
end
theorem nan_lib : nan 9221120237041090561 := by rfl

def IsNan (w : World) (e : Ending) (w' : World) : Prop := ∃ r, e = .returned (.float .f64 r) ∧ nan r ∧ r < 2 ^ 64 ∧ Below w.heap.size w w'
set_option maxHeartbeats 400000 in
theorem l2Nan_any (w : World) : Calls Try.prog 16 #[] w (IsNan w) := by
  obtain ⟨r, hr, hn, hl⟩ := run_nan .quo (by simp [arith]) 28 0 0 w (by rfl)
  go_enter Try.func16, Try.ntmps16
  go_wp2
  go_ret
  exact ⟨r, rfl, hn, hl, drewW_below (Below.refl _ _)⟩

theorem RcOk.no {op : Int} {x y r : Nat} (h1 : (op == 1) = false) (h2 : (op == 2) = false) (h3 : (op == 3) = false) (h4 : (op == 4) = false) (hn : nan r) (hl : r < 2 ^ 64) : RcOk op x y r := by
  simp only [beq_eq_false_iff_ne] at h1 h2 h3 h4
  exact ⟨hl, by simp [h1, h2, h3, h4, hn]⟩
set_option maxHeartbeats 400000 in
theorem irc_no (op : Int) (x y : Nat) (w : World) (h1 : (op == 1) = false) (h2 : (op == 2) = false) (h3 : (op == 3) = false) (h4 : (op == 4) = false) :
    Calls Try.prog 9 #[.int .i64 op, .float .f64 x, .float .f64 y] w (Came op x y w) := by
  go_enter Try.func9, Try.ntmps9
  go_wp2_with fail
  refine (mathNaN_any _).mono ?_
  rintro e w1 ⟨rfl, rfl⟩
  go_wp2
  go_ret
  exact ⟨_, rfl, RcOk.no h1 h2 h3 h4 nan_lib (by omega), Below.refl _ _⟩
set_option maxHeartbeats 400000 in
theorem src_no (op : Int) (x y : Nat) (w : World) (h1 : (op == 1) = false) (h2 : (op == 2) = false) (h3 : (op == 3) = false) (h4 : (op == 4) = false) :
    Calls Try.prog 8 #[.int .i64 op, .float .f64 x, .float .f64 y] w (Came op x y w) := by
  go_enter Try.func8, Try.ntmps8
  go_wp2_with fail
  refine (l2Nan_any _).mono ?_
  rintro e w1 ⟨r, rfl, hn, hl, hb⟩
  go_wp2
  go_ret
  exact ⟨_, rfl, RcOk.no h1 h2 h3 h4 hn hl, hb⟩
theorem irc_any (op : Int) (x y : Nat) (w : World) : Calls Try.prog 9 #[.int .i64 op, .float .f64 x, .float .f64 y] w (Came op x y w) := by
  rcases ops4 op with rfl | rfl | rfl | rfl | ⟨h1, h2, h3, h4⟩
  · exact irc_1 x y w
  · exact irc_2 x y w
  · exact irc_3 x y w
  · exact irc_4 x y w
  · exact irc_no op x y w h1 h2 h3 h4
theorem src_any (op : Int) (x y : Nat) (w : World) : Calls Try.prog 8 #[.int .i64 op, .float .f64 x, .float .f64 y] w (Came op x y w) := by
  rcases ops4 op with rfl | rfl | rfl | rfl | ⟨h1, h2, h3, h4⟩
  · exact src_1 x y w
  · exact src_2 x y w
  · exact src_3 x y w
  · exact src_4 x y w
  · exact src_no op x y w h1 h2 h3 h4

set_option maxHeartbeats 400000 in
theorem rcalc_walk (op : Int) (x y : Nat) (w : World) :
    Calls Try.prog 4 #[.int .i64 op, .float .f64 x, .float .f64 y] w fun e w' => e = .returned (.bool true) ∧ Below w.heap.size w w' := by
  go_enter Try.func4, Try.ntmps4
  go_wp2_with fail
  refine (src_any op x y _).mono ?_
  rintro e w1 ⟨r1, rfl, hr1, hb1⟩
  go_wp2_with fail
  refine (irc_any op x y _).mono ?_
  rintro e w2 ⟨r2, rfl, hr2, hb2⟩
  have hb12 := hb1.trans (hb2.mono hb1.size)
  have hs : Hid (SameV r2 r1) := hr2.one hr1
  have hl := hr2.1
  clear hr1 hr2
  go_wp2_with fail
  refine (sameFloat_any _ _ _ hs.out hl).mono ?_
  rintro e w3 ⟨rfl, rfl⟩
  go_wp2
  go_ret
  exact ⟨rfl, hb12⟩
end Go.Proofs.Ytackcffnfdhpgaa
