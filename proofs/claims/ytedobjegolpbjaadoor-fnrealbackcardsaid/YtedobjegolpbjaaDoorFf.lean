/- Real numbers of 64 bits: whole numbers and their quotients. Helper text: no statement is claimed here. -/
import Derived.Test.YtedobjegolpbjaaDoorFd
namespace Go.Proofs.YtedobjegolpbjaaDoor.Fl
open Ieee
theorem ofInt_z {n : Int} (h : n.natAbs < 2 ^ 53) (z : Nat) (hz : z = 1074) : ∃ m k, Sc m k ∧ k ≤ z ∧ Go.floatOfInt .f64 n = wd (n < 0) m k ∧ m * 2 ^ k = n.natAbs * 2 ^ z ∧ (n = 0 ↔ m = 0) := by
  by_cases h0 : n = 0
  · subst h0
    exact ⟨0, 0, sc00, Nat.zero_le _, rfl, by simp, by simp⟩
  · obtain ⟨m, k, hs, e, hk⟩ := exists_sc n.natAbs h z
    have hm : 0 < m := by
      rcases Nat.eq_zero_or_pos m with rfl | hp
      · exfalso
        rw [Nat.zero_mul] at e
        have : 0 < n.natAbs * 2 ^ z := pos_val (by omega)
        omega
      · exact hp
    refine ⟨m, k, hs, hk, ?_, e, ⟨fun h => absurd h h0, fun h => by omega⟩⟩
    subst hz
    exact floatOfInt_sc hs hm e (by omega)
theorem ofInt_wd {n : Int} (h : n.natAbs < 2 ^ 53) : ∃ m k, Sc m k ∧ k ≤ 1074 ∧ Go.floatOfInt .f64 n = wd (n < 0) m k ∧ m * 2 ^ k = n.natAbs * 2 ^ 1074 ∧ (n = 0 ↔ m = 0) := ofInt_z h 1074 rfl
theorem quo_some {m k n j : Nat} (h : Sc m k) (hk : k ≤ 2045) (h' : Sc n j) (hj : j ≤ 2045) (s t : Bool) (hn : 0 < n) : ∃ r, Go.floatBits .quo .f64 (wd s m k) (wd t n j) = some r ∧ r < 2 ^ 64 ∧ ¬ nan r := by
  show ∃ r, double.div (wd s m k) (wd t n j) = some r ∧ _
  unfold Format.div
  rw [read_wd h hk, read_wd h' hj]
  have : ¬ n = 0 := by omega
  simp only [Datum.quotient, this, if_false]
  exact ⟨_, rfl, double.write_lt _, fin rfl⟩
theorem quo_ints {a b : Int} (h : a.natAbs < 2 ^ 53) (h' : b.natAbs < 2 ^ 53) (hb : b ≠ 0) : ∃ r, Go.floatBits .quo .f64 (Go.floatOfInt .f64 a) (Go.floatOfInt .f64 b) = some r ∧ r < 2 ^ 64 ∧ ¬ nan r := by
  obtain ⟨m, k, h1, h2, h3, h4, h5⟩ := ofInt_wd h
  obtain ⟨n, j, g1, g2, g3, g4, g5⟩ := ofInt_wd h'
  rw [h3, g3]
  exact quo_some h1 (by omega) g1 (by omega) _ _ (by
    rcases Nat.eq_zero_or_pos n with h | h
    · exact absurd (g5.2 h) hb
    · exact h)
end Go.Proofs.YtedobjegolpbjaaDoor.Fl
