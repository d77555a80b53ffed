/- Two real numbers held against each other by the law's own sameFloat. Helper text: no statement is claimed here. -/
import Derived.Test.YtlgiecdhiafldaaDoorCq
namespace Go.Proofs.YtlgiecdhiafldaaDoor
open Go.ChangeShapes Go.WideShapes Go.ChangeAt Go.RowKit Fl

set_option maxHeartbeats 400000 in
theorem sameFloat_nan (x y : Nat) (w : World) (hx : nan x) (hy : nan y) :
    Calls Tryd.prog 11 #[.float .f64 x, .float .f64 y] w fun e w' => e = .returned (.bool true) ∧ w' = w := by
  have h1 := (asks_nan hx).n
  have h2 := (asks_nan hy).n
  clear hx hy
  go_enter Tryd.func11, Tryd.ntmps11
  go_wp2
  go_ret
  exact ⟨rfl, rfl⟩
set_option maxHeartbeats 400000 in
theorem sameFloat_zero (s : Bool) (w : World) :
    Calls Tryd.prog 11 #[.float .f64 (wd s 0 0), .float .f64 (wd s 0 0)] w fun e w' => e = .returned (.bool true) ∧ w' = w := by
  obtain ⟨h1, -, -, h2, -⟩ := asks_wd sc00 (by omega) s
  have h3 := run_some (one_by_zero s)
  have h2 : (ord (wd s 0 0) 0 == some .eq) = true := h2
  generalize wd s 0 0 = x at *
  go_enter Tryd.func11, Tryd.ntmps11
  go_wp2
  go_ret
  exact ⟨rfl, rfl⟩
set_option maxHeartbeats 400000 in
theorem sameFloat_other (x : Nat) (w : World) (h1 : (ord x x != some .eq) = false) (h2 : (ord x 0 == some .eq) = false) (h3 : (ord x x == some .eq) = true) :
    Calls Tryd.prog 11 #[.float .f64 x, .float .f64 x] w fun e w' => e = .returned (.bool true) ∧ w' = w := by
  go_enter Tryd.func11, Tryd.ntmps11
  go_wp2
  go_ret
  exact ⟨rfl, rfl⟩
theorem eq_self {x : Nat} (h : x < 2 ^ 64) (hn : ¬ nan x) : (ord x x == some .eq) = true := by
  simp only [ord, Go.FloatKind.format, order_self h hn]; rfl
theorem wd_zero {s : Bool} {m k : Nat} (h : Sc m k) (h0 : m = 0) : wd s m k = wd s 0 0 := by
  subst h0
  rcases h.hk with rfl | h
  · rfl
  · omega
theorem sameFloat_any (x y : Nat) (w : World) (h : SameV x y) (hx : x < 2 ^ 64) :
    Calls Tryd.prog 11 #[.float .f64 x, .float .f64 y] w fun e w' => e = .returned (.bool true) ∧ w' = w := by
  rcases h with rfl | ⟨h1, h2⟩
  · rcases cases_wd hx with ⟨s, m, k, hs, hk, rfl⟩ | ⟨s, rfl⟩ | hn
    · by_cases h0 : m = 0
      · rw [wd_zero hs h0]; exact sameFloat_zero s w
      · have a := asks_wd hs hk s
        exact sameFloat_other _ w a.n (by rw [a.z]; simp [h0]) (eq_self hx (not_nan_wd hs hk s))
    · have a := asks_wi s
      exact sameFloat_other _ w a.n a.z (eq_self hx (not_nan_wi s))
    · exact sameFloat_nan x x w hn hn
  · exact sameFloat_nan x y w h1 h2
end Go.Proofs.YtlgiecdhiafldaaDoor
