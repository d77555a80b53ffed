/- wrSame at one real number, twice. Helper text: no statement is claimed here. -/
import Derived.Test.YtljhpagpohihcaaDoorCq
namespace Go.Proofs.YtljhpagpohihcaaDoor
open Go.ChangeShapes Go.WideShapes Go.ChangeAt Go.RowKit Fl

theorem bne_ofXW {o : Option Ordering} {b : Bool} (h : (o == some .eq) = b) : (o != some .eq) = !b := by rw [← h]; rfl
set_option maxHeartbeats 400000 in
theorem ws_nanW (x y : Nat) (w : World) (h1 : (ord x x != some .eq) = true) (b : Bool) (h2 : (ord y y != some .eq) = b) :
    Calls Tryd.prog 21 #[.float .f64 x, .float .f64 y] w fun e w' => e = .returned (.bool b) ∧ w' = w := by
  cases b
  · go_enter Tryd.func21, Tryd.ntmps21
    go_wp2
    go_ret
    exact ⟨rfl, rfl⟩
  · go_enter Tryd.func21, Tryd.ntmps21
    go_wp2
    go_ret
    exact ⟨rfl, rfl⟩
set_option maxHeartbeats 400000 in
theorem ws_oW (x y : Nat) (w : World) (h1 : (ord x x != some .eq) = false) (h2 : (ord y y != some .eq) = false) (h3 : (ord x y == some .eq) = true) (h4 : (ord x 0 != some .eq) = true) :
    Calls Tryd.prog 21 #[.float .f64 x, .float .f64 y] w fun e w' => e = .returned (.bool true) ∧ w' = w := by
  go_enter Tryd.func21, Tryd.ntmps21
  go_wp2
  go_ret
  exact ⟨rfl, rfl⟩
set_option maxHeartbeats 400000 in
theorem ws_zW (x y x1 y1 : Nat) (a b : Bool) (w : World) (h1 : (ord x x != some .eq) = false) (h2 : (ord y y != some .eq) = false) (h3 : (ord x y == some .eq) = true) (h4 : (ord x 0 != some .eq) = false)
    (h5 : ∀ (t : TypeId) (w : World), (binOp .quo t (.float .f64 4607182418800017408) (.float .f64 x)).run Tryd.prog w = .ok (.float .f64 x1) w)
    (h6 : ∀ (t : TypeId) (w : World), (binOp .quo t (.float .f64 4607182418800017408) (.float .f64 y)).run Tryd.prog w = .ok (.float .f64 y1) w)
    (h7 : (ord x1 0 == some .gt) = a) (h8 : (ord y1 0 == some .gt) = b) :
    Calls Tryd.prog 21 #[.float .f64 x, .float .f64 y] w fun e w' => e = .returned (.bool (a == b)) ∧ w' = w := by
  go_enter Tryd.func21, Tryd.ntmps21
  go_wp2
  go_ret
  exact ⟨rfl, rfl⟩
theorem wi_gtW (s : Bool) : (ord (wi s) 0 == some .gt) = !s := by
  show (ord (wi s) (wd false 0 0) == some .gt) = !s
  simp only [ord, Go.FloatKind.format, order_wi_wd sc00 (by omega : 0 ≤ 2045)]
  cases s <;> rfl
theorem eq_selfW {x : Nat} (h : x < 2 ^ 64) (hn : ¬ nan x) : (ord x x == some .eq) = true := by
  simp only [ord, Go.FloatKind.format, order_self h hn]; rfl
theorem wd_zeroW {s : Bool} {m k : Nat} (h : Sc m k) (h0 : m = 0) : wd s m k = wd s 0 0 := by
  subst h0
  rcases h.hk with rfl | h
  · rfl
  · omega
theorem wrSame_self (x : Nat) (w : World) (hx : x < 2 ^ 64) :
    Calls Tryd.prog 21 #[.float .f64 x, .float .f64 x] w fun e w' => e = .returned (.bool true) ∧ w' = w := by
  rcases cases_wd hx with ⟨s, m, k, hs, hk, rfl⟩ | ⟨s, rfl⟩ | hn
  · by_cases h0 : m = 0
    · rw [wd_zeroW hs h0]
      have a := asks_wd sc00 (by omega : 0 ≤ 2045) s
      have := ws_zW _ _ _ _ _ _ w a.n a.n (eq_selfW (wd_lt sc00 (by omega) s) (not_nan_wd sc00 (by omega) s)) (bne_ofXW a.z) (run_some (one_by_zero s)) (run_some (one_by_zero s)) (wi_gtW s) (wi_gtW s)
      exact this.mono fun _ _ ⟨h1, hw⟩ => ⟨by rw [h1]; simp, hw⟩
    · have a := asks_wd hs hk s
      exact ws_oW _ _ w a.n a.n (eq_selfW hx (not_nan_wd hs hk s)) (by rw [bne_ofXW (b := false) (by rw [a.z]; simp [h0])]; rfl)
  · have a := asks_wi s
    exact ws_oW _ _ w a.n a.n (eq_selfW hx (not_nan_wi s)) (by rw [bne_ofXW (b := false) a.z]; rfl)
  · exact ws_nanW x x w (asks_nan hn).n true (asks_nan hn).n
end Go.Proofs.YtljhpagpohihcaaDoor
