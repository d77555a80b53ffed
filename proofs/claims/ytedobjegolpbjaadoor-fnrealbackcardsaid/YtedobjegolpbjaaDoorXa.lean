/- Two real numbers held against each other by the law's own wrSame, both ways. Helper text: no statement is claimed here. -/
import Derived.Test.YtedobjegolpbjaaDoorGi
import Derived.Test.YtedobjegolpbjaaDoorXd
namespace Go.Proofs.YtedobjegolpbjaaDoor
open Go.ChangeShapes Go.WideShapes Go.ChangeAt Go.RowKit Fl

theorem bne_ofX {o : Option Ordering} {b : Bool} (h : (o == some .eq) = b) : (o != some .eq) = !b := by rw [← h]; rfl
theorem eq_selfX {x : Nat} (h : x < 2 ^ 64) (hn : ¬ nan x) : (ord x x == some .eq) = true := by
  simp only [ord, Go.FloatKind.format, order_self h hn]; rfl
set_option maxHeartbeats 400000 in
theorem ws_nan (x y : Nat) (w : World) (h1 : (ord x x != some .eq) = true) (b : Bool) (h2 : (ord y y != some .eq) = b) :
    Calls Tryd.prog 14 #[.float .f64 x, .float .f64 y] w fun e w' => e = .returned (.bool b) ∧ w' = w := by
  cases b
  · go_enter Tryd.func14, Tryd.ntmps14
    go_wp2
    go_ret
    exact ⟨rfl, rfl⟩
  · go_enter Tryd.func14, Tryd.ntmps14
    go_wp2
    go_ret
    exact ⟨rfl, rfl⟩
set_option maxHeartbeats 400000 in
theorem ws_nan2 (x y : Nat) (w : World) (h1 : (ord x x != some .eq) = false) (h2 : (ord y y != some .eq) = true) :
    Calls Tryd.prog 14 #[.float .f64 x, .float .f64 y] w fun e w' => e = .returned (.bool false) ∧ w' = w := by
  go_enter Tryd.func14, Tryd.ntmps14
  go_wp2
  go_ret
  exact ⟨rfl, rfl⟩
set_option maxHeartbeats 400000 in
theorem ws_ne (x y : Nat) (w : World) (h1 : (ord x x != some .eq) = false) (h2 : (ord y y != some .eq) = false) (h3 : (ord x y == some .eq) = false) :
    Calls Tryd.prog 14 #[.float .f64 x, .float .f64 y] w fun e w' => e = .returned (.bool false) ∧ w' = w := by
  go_enter Tryd.func14, Tryd.ntmps14
  go_wp2
  go_ret
  exact ⟨rfl, rfl⟩
set_option maxHeartbeats 400000 in
theorem ws_o (x y : Nat) (w : World) (h1 : (ord x x != some .eq) = false) (h2 : (ord y y != some .eq) = false) (h3 : (ord x y == some .eq) = true) (h4 : (ord x 0 != some .eq) = true) :
    Calls Tryd.prog 14 #[.float .f64 x, .float .f64 y] w fun e w' => e = .returned (.bool true) ∧ w' = w := by
  go_enter Tryd.func14, Tryd.ntmps14
  go_wp2
  go_ret
  exact ⟨rfl, rfl⟩
set_option maxHeartbeats 400000 in
theorem ws_z (x y x1 y1 : Nat) (a b : Bool) (w : World) (h1 : (ord x x != some .eq) = false) (h2 : (ord y y != some .eq) = false) (h3 : (ord x y == some .eq) = true) (h4 : (ord x 0 != some .eq) = false)
    (h5 : ∀ (t : TypeId) (w : World), (binOp .quo t (.float .f64 4607182418800017408) (.float .f64 x)).run Tryd.prog w = .ok (.float .f64 x1) w)
    (h6 : ∀ (t : TypeId) (w : World), (binOp .quo t (.float .f64 4607182418800017408) (.float .f64 y)).run Tryd.prog w = .ok (.float .f64 y1) w)
    (h7 : (ord x1 0 == some .gt) = a) (h8 : (ord y1 0 == some .gt) = b) :
    Calls Tryd.prog 14 #[.float .f64 x, .float .f64 y] w fun e w' => e = .returned (.bool (a == b)) ∧ w' = w := by
  go_enter Tryd.func14, Tryd.ntmps14
  go_wp2
  go_ret
  exact ⟨rfl, rfl⟩
theorem wi_gt (s : Bool) : (ord (wi s) 0 == some .gt) = !s := by
  show (ord (wi s) (wd false 0 0) == some .gt) = !s
  simp only [ord, Go.FloatKind.format, order_wi_wd sc00 (by omega : 0 ≤ 2045)]
  cases s <;> rfl
/-- wrSame at any two words: true just if they are one value. -/
theorem ws_any (x y : Nat) (w : World) (hx : x < 2 ^ 64) (hy : y < 2 ^ 64) :
    Calls Tryd.prog 14 #[.float .f64 x, .float .f64 y] w fun e w' => ∃ b : Bool, e = .returned (.bool b) ∧ w' = w ∧ (b = true ↔ SameV x y) := by
  by_cases nx : nan x
  · by_cases ny : nan y
    · exact (ws_nan x y w (asks_nan nx).n true (asks_nan ny).n).mono fun _ _ ⟨he, hw⟩ => ⟨true, he, hw, by simp [SameV, nx, ny]⟩
    · refine (ws_nan x y w (asks_nan nx).n false (neq_self hy ny)).mono fun _ _ ⟨he, hw⟩ => ⟨false, he, hw, ?_⟩
      simp only [Bool.false_eq_true, false_iff]
      rintro (rfl | ⟨-, h⟩)
      · exact ny nx
      · exact ny h
  by_cases ny : nan y
  · refine (ws_nan2 x y w (neq_self hx nx) (asks_nan ny).n).mono fun _ _ ⟨he, hw⟩ => ⟨false, he, hw, ?_⟩
    simp only [Bool.false_eq_true, false_iff]
    rintro (rfl | ⟨h, -⟩)
    · exact nx ny
    · exact nx h
  have n1 := neq_self hx nx
  have n2 := neq_self hy ny
  cases he : (ord x y == some .eq)
  · refine (ws_ne x y w n1 n2 he).mono fun _ _ ⟨h1, hw⟩ => ⟨false, h1, hw, ?_⟩
    simp only [Bool.false_eq_true, false_iff]
    rintro (rfl | ⟨h, -⟩)
    · rw [eq_selfX hx nx] at he; cases he
    · exact nx h
  · rcases not_both hx hy nx ny he with rfl | ⟨s, t, rfl, rfl⟩
    · cases hz : (ord x 0 != some .eq)
      · have hzero : (ord x 0 == some .eq) = true := by
          cases hh : (ord x 0 == some .eq)
          · rw [bne_ofX hh] at hz; cases hz
          · rfl
        rcases not_both hx (show 0 < 2 ^ 64 by omega) nx (not_nan_wd sc00 (by omega) false) hzero with rfl | ⟨s, t, rfl, -⟩
        · exact (ws_z _ _ _ _ _ _ w n1 n2 he hz (run_someN (one_by_zero false)) (run_someN (one_by_zero false)) (wi_gt false) (wi_gt false)).mono fun _ _ ⟨h1, hw⟩ => ⟨_, h1, hw, by simp [SameV]⟩
        · exact (ws_z _ _ _ _ _ _ w n1 n2 he hz (run_someN (one_by_zero s)) (run_someN (one_by_zero s)) (wi_gt s) (wi_gt s)).mono fun _ _ ⟨h1, hw⟩ => ⟨_, h1, hw, by simp [SameV]⟩
      · exact (ws_o x x w n1 n2 he hz).mono fun _ _ ⟨h1, hw⟩ => ⟨true, h1, hw, by simp [SameV]⟩
    · have hz : (ord (wd s 0 0) 0 != some .eq) = false := bne_ofX (asks_wd sc00 (by omega) s).z
      refine (ws_z _ _ _ _ _ _ w n1 n2 he hz (run_someN (one_by_zero s)) (run_someN (one_by_zero t)) (wi_gt s) (wi_gt t)).mono fun _ _ ⟨h1, hw⟩ => ⟨_, h1, hw, ?_⟩
      constructor
      · intro h
        left
        have : s = t := by cases s <;> cases t <;> simp at h ⊢
        rw [this]
      · rintro (h | ⟨h, -⟩)
        · have := (wd_inj sc00 (by omega) sc00 (by omega) h).1
          rw [this]; simp
        · exact absurd h nx
end Go.Proofs.YtedobjegolpbjaaDoor
