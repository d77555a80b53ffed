/- Two real numbers that are equal by the sign of equality. Helper text: no statement is claimed here. -/
import Derived.Test.YtedobjegolpbjaaDoorNh
namespace Go.Proofs.YtedobjegolpbjaaDoor
open Go.ChangeShapes Go.WideShapes Go.ChangeAt Go.RowKit Fl

theorem not_both {x y : Nat} (hx : x < 2 ^ 64) (hy : y < 2 ^ 64) (nx : ¬ nan x) (ny : ¬ nan y) (h : (ord x y == some .eq) = true) : x = y ∨ ∃ s t, x = wd s 0 0 ∧ y = wd t 0 0 := by
  rcases cases_wd hx with ⟨s, m, k, hs, hk, rfl⟩ | ⟨s, rfl⟩ | hn
  · rcases cases_wd hy with ⟨t, n, j, ht, hj, rfl⟩ | ⟨t, rfl⟩ | hn
    · rw [ord_eq hs hk ht hj] at h
      have h := of_decide_eq_true h
      by_cases h0 : m = 0
      · right
        have hv : m * 2 ^ k = 0 := by rw [h0, Nat.zero_mul]
        rw [hv] at h
        have hw : n * 2 ^ j = 0 := by
          generalize n * 2 ^ j = W at *
          cases s <;> cases t <;> simp [sg] at h <;> omega
        have hn : n = 0 := by
          rcases Nat.eq_zero_or_pos n with h | h
          · exact h
          · have := @pos_val n j h; omega
        exact ⟨s, t, wd_zeroN hs h0, wd_zeroN ht hn⟩
      · left
        have hp := @pos_val m k (by omega)
        have hst : s = t ∧ m * 2 ^ k = n * 2 ^ j := by
          generalize m * 2 ^ k = V at *
          generalize n * 2 ^ j = W at *
          cases s <;> cases t <;> simp [sg] at h ⊢ <;> omega
        obtain ⟨rfl, hv⟩ := hst
        obtain ⟨rfl, rfl⟩ := sc_unique hs ht (by omega) hv
        rfl
    · exfalso
      simp only [ord, Go.FloatKind.format, order_wd_wi hs hk] at h
      cases t <;> cases h
    · exact absurd hn ny
  · rcases cases_wd hy with ⟨t, n, j, ht, hj, rfl⟩ | ⟨t, rfl⟩ | hn
    · exfalso
      simp only [ord, Go.FloatKind.format, order_wi_wd ht hj] at h
      cases s <;> cases h
    · left
      simp only [ord, Go.FloatKind.format, order_wi_wi] at h
      cases s <;> cases t <;> first | rfl | cases h
    · exact absurd hn ny
  · exact absurd hn nx
end Go.Proofs.YtedobjegolpbjaaDoor
