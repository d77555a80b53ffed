/- The order of two real numbers, from both sides. Helper text: no statement is claimed here. -/
import Derived.Test.YtceepaboaoffkaaDoorFd
namespace Go.Proofs.YtceepaboaoffkaaDoor.Fl
open Ieee

theorem ord_both {x y : Nat} (hx : x < 2 ^ 64) (hy : y < 2 ^ 64) (nx : ¬ nan x) (ny : ¬ nan y) : ∃ o, ord x y = some o ∧ ord y x = some o.swap := by
  rcases cases_wd hx with ⟨s, m, k, hs, hk, rfl⟩ | ⟨s, rfl⟩ | h
  · rcases cases_wd hy with ⟨t, n, j, ht, hj, rfl⟩ | ⟨t, rfl⟩ | h
    · exact ⟨_, order_wd hs hk ht hj s t, (order_wd ht hj hs hk t s).trans (by rw [Std.OrientedCmp.eq_swap (cmp := compare) (a := sg t (n * 2 ^ j))])⟩
    · exact ⟨_, order_wd_wi hs hk t s, (order_wi_wd hs hk t s).trans (by cases t <;> rfl)⟩
    · exact absurd h ny
  · rcases cases_wd hy with ⟨t, n, j, ht, hj, rfl⟩ | ⟨t, rfl⟩ | h
    · exact ⟨_, order_wi_wd ht hj s t, (order_wd_wi ht hj s t).trans (by cases s <;> rfl)⟩
    · exact ⟨_, order_wi_wi s t, (order_wi_wi t s).trans (by cases s <;> cases t <;> rfl)⟩
    · exact absurd h ny
  · exact absurd h nx

/-- How two real numbers stand to each other: in an order, or one of them is no number. -/
theorem ord_cases {x y : Nat} (hx : x < 2 ^ 64) (hy : y < 2 ^ 64) :
    (∃ o, ord x y = some o ∧ ord y x = some o.swap ∧ (ord x x == some .eq) = true ∧ (ord y y == some .eq) = true) ∨
    (ord x y = none ∧ ord y x = none ∧ ((ord x x == some .eq) = false ∨ (ord x x == some .eq) = true ∧ (ord y y == some .eq) = false)) := by
  by_cases nx : nan x
  · exact .inr ⟨order_nan_left nx y, order_nan_right nx y, .inl (by rw [show ord x x = none from order_nan_left nx x]; rfl)⟩
  · have hxx : (ord x x == some .eq) = true := by rw [show ord x x = some .eq from order_self hx nx]; rfl
    by_cases ny : nan y
    · exact .inr ⟨order_nan_right ny x, order_nan_left ny x, .inr ⟨hxx, by rw [show ord y y = none from order_nan_left ny y]; rfl⟩⟩
    · obtain ⟨o, h1, h2⟩ := ord_both hx hy nx ny
      exact .inl ⟨o, h1, h2, hxx, by rw [show ord y y = some .eq from order_self hy ny]; rfl⟩
end Go.Proofs.YtceepaboaoffkaaDoor.Fl
