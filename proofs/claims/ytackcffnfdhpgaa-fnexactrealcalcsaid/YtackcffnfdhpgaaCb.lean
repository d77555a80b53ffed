/- Reckoning with real numbers: RealCalc of the program and of the document. Helper text: no statement is claimed here. -/
import Derived.Test.YtackcffnfdhpgaaCa
namespace Go.Proofs.Ytackcffnfdhpgaa
open Go.ChangeShapes Go.WideShapes Go.ChangeAt Go.RowKit Fl

theorem run_some {op : BinOp} {x y r : Nat} (h : floatBits op .f64 x y = some r) (t : TypeId) (w : World) : (binOp op t (.float .f64 x) (.float .f64 y)).run Try.prog w = .ok (.float .f64 r) w := run_float_arith w op t .f64 x y r h

set_option maxHeartbeats 400000 in
theorem sameFloat_nan (x y : Nat) (w : World) (hx : nan x) (hy : nan y) :
    Calls Try.prog 10 #[.float .f64 x, .float .f64 y] w fun e w' => e = .returned (.bool true) ∧ w' = w := by
  have h1 := (asks_nan hx).n
  have h2 := (asks_nan hy).n
  clear hx hy
  go_enter Try.func10, Try.ntmps10
  go_wp2
  go_ret
  exact ⟨rfl, rfl⟩
set_option maxHeartbeats 400000 in
theorem sameFloat_zero (s : Bool) (w : World) :
    Calls Try.prog 10 #[.float .f64 (wd s 0 0), .float .f64 (wd s 0 0)] w fun e w' => e = .returned (.bool true) ∧ w' = w := by
  obtain ⟨h1, -, -, h2, -⟩ := asks_wd sc00 (by omega) s
  have h3 := run_some (one_by_zero s)
  have h2 : (ord (wd s 0 0) 0 == some .eq) = true := h2
  generalize wd s 0 0 = x at *
  go_enter Try.func10, Try.ntmps10
  go_wp2
  go_ret
  exact ⟨rfl, rfl⟩
set_option maxHeartbeats 400000 in
theorem sameFloat_other (x : Nat) (w : World) (h1 : (ord x x != some .eq) = false) (h2 : (ord x 0 == some .eq) = false) (h3 : (ord x x == some .eq) = true) :
    Calls Try.prog 10 #[.float .f64 x, .float .f64 x] w fun e w' => e = .returned (.bool true) ∧ w' = w := by
  go_enter Try.func10, Try.ntmps10
  go_wp2
  go_ret
  exact ⟨rfl, rfl⟩
theorem eq_self {x : Nat} (h : x < 2 ^ 64) (hn : ¬ nan x) : (ord x x == some .eq) = true := by
  simp only [ord, Go.FloatKind.format, order_self h hn]; rfl
theorem wd_zero {s : Bool} {m k : Nat} (h : Sc m k) (h0 : m = 0) : wd s m k = wd s 0 0 := by
  subst h0
  rcases h.hk with rfl | h
  · rfl
  · omega
theorem sameFloat_any (x y : Nat) (w : World) (h : SameV x y) (hx : x < 2 ^ 64) :
    Calls Try.prog 10 #[.float .f64 x, .float .f64 y] w fun e w' => e = .returned (.bool true) ∧ w' = w := by
  rcases h with rfl | ⟨h1, h2⟩
  · rcases cases_wd hx with ⟨s, m, k, hs, hk, rfl⟩ | ⟨s, rfl⟩ | hn
    · by_cases h0 : m = 0
      · rw [wd_zero hs h0]; exact sameFloat_zero s w
      · have a := asks_wd hs hk s
        exact sameFloat_other _ w a.n (by rw [a.z]; simp [h0]) (eq_self hx (not_nan_wd hs hk s))
    · have a := asks_wi s
      exact sameFloat_other _ w a.n a.z (eq_self hx (not_nan_wi s))
    · exact sameFloat_nan x x w hn hn
  · exact sameFloat_nan x y w h1 h2
end Go.Proofs.Ytackcffnfdhpgaa
