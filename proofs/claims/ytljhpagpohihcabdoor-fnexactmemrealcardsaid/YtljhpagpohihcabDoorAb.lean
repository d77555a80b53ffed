/- RealArg of the document: words. Helper text: no statement is claimed here. -/
import Derived.Test.YtljhpagpohihcabDoorYh
import Derived.Test.YtljhpagpohihcabDoorDs
namespace Go.Proofs.YtljhpagpohihcabDoor
open Go.ChangeShapes Go.WideShapes Go.ChangeAt Go.RowKit Fl

def IsNan (w : World) (e : Ending) (w' : World) : Prop := ∃ r, e = .returned (.float .f64 r) ∧ nan r ∧ r < 2 ^ 64 ∧ Below w.heap.size w w'
set_option maxHeartbeats 400000 in
theorem l2Nan_any (w : World) : Calls Tryd.prog 36 #[] w (IsNan w) := by
  obtain ⟨r, hr, hn, hl⟩ := run_nan .quo (by simp [arith]) 33 0 0 w (by rfl)
  go_enter Tryd.func36, Tryd.ntmps36
  go_wp2
  go_ret
  exact ⟨r, rfl, hn, hl, drewW_below (Below.refl _ _)⟩
set_option maxHeartbeats 400000 in
theorem l2Inf_any (w : World) : Calls Tryd.prog 37 #[] w fun e w' => e = .returned (.float .f64 (wi false)) ∧ w' = w := by
  have h := run_some (show floatBits .quo .f64 4607182418800017408 0 = some (wi false) from one_by_zero false)
  go_enter Tryd.func37, Tryd.ntmps37
  go_wp2
  go_ret
  exact ⟨rfl, rfl⟩

section
attribute [local go_sem] unary_negF
def Worded2 (n : Int) (w : World) (e : Ending) (w' : World) : Prop := ∃ r, e = .returned (.float .f64 r) ∧ WordR n r ∧ Below w.heap.size w w'
set_option maxHeartbeats 400000 in
theorem sword_any (n : Int) (w : World) : Calls Tryd.prog 27 #[.int .i64 n] w (Worded2 n w) := by
  by_cases h0 : n = 0
  · subst h0
    go_enter Tryd.func27, Tryd.ntmps27
    go_wp2_with fail
    refine (l2Nan_any _).mono ?_
    rintro e w1 ⟨r, rfl, hn, hl, hb⟩
    go_wp2
    go_ret
    exact ⟨r, rfl, ⟨hl, hn⟩, hb⟩
  by_cases h1 : n = 1
  · subst h1
    go_enter Tryd.func27, Tryd.ntmps27
    go_wp2_with fail
    refine (l2Inf_any _).mono ?_
    rintro e w1 ⟨rfl, rfl⟩
    go_wp2
    go_ret
    exact ⟨_, rfl, ⟨wi_lt false, rfl⟩, Below.refl _ _⟩
  by_cases h2 : n = 2
  · subst h2
    go_enter Tryd.func27, Tryd.ntmps27
    go_wp2_with fail
    refine (l2Inf_any _).mono ?_
    rintro e w1 ⟨rfl, rfl⟩
    go_wp2
    go_ret
    exact ⟨_, rfl, ⟨by rw [neg_wi]; exact wi_lt true, by rw [neg_wi]; rfl⟩, Below.refl _ _⟩
  · have h0' : (n == 0) = false := by simpa using h0
    have h1' : (n == 1) = false := by simpa using h1
    have h2' : (n == 2) = false := by simpa using h2
    have H : Hid (n ≠ 0 ∧ n ≠ 1 ∧ n ≠ 2) := ⟨h0, h1, h2⟩
    clear h0 h1 h2
    go_enter Tryd.func27, Tryd.ntmps27
    go_wp2
    go_ret
    have e : Op.negFloat .f64 0 = wd true 0 0 := neg_wd sc00 (by omega) false
    exact ⟨_, rfl, ⟨by rw [e]; exact wd_lt sc00 (by omega) true, by rw [e]; simp [H.out]⟩, Below.refl _ _⟩

end
end Go.Proofs.YtljhpagpohihcabDoor
