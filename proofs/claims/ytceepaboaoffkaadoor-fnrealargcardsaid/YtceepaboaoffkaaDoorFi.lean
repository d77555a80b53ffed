/- Real numbers of 64 bits: decimal numbers. Helper text: no statement is claimed here. -/
import Derived.Test.YtceepaboaoffkaaDoorFh
import Derived.Test.YtceepaboaoffkaaDoorFf
namespace Go.Proofs.YtceepaboaoffkaaDoor.Fl
open Ieee

theorem zero_quo {n j : Nat} (h : Sc n j) (hj : j ≤ 2045) (hn : 0 < n) : Go.floatBits .quo .f64 (wd false 0 0) (wd false n j) = some (wd false 0 0) := by
  show double.div (wd false 0 0) (wd false n j) = _
  unfold Format.div
  rw [read_wd sc00 (by omega), read_wd h hj]
  have : ¬ n = 0 := by omega
  simp only [Datum.quotient, this, if_false, Nat.shiftLeft_eq, Nat.zero_mul, Nat.zero_div, Nat.zero_mod, Nat.mul_zero, Option.map_some, Format.write]
  simp [Format.nearest, wd]

/-- A decimal number as a real one, and how far it may lie off. -/
theorem dec_wd {n : Int} {T R : Nat} (h : n.natAbs ≤ 999999999) (hT : 8 ≤ T) (hTR : T * R = 1000000) (y : Nat) (hy : y = 1050) :
    ∃ m k, Sc m k ∧ k ≤ 2045 ∧ Go.floatBits .quo .f64 (Go.floatOfInt .f64 n) (Go.floatOfInt .f64 (T : Int)) = some (wd (n < 0) m k) ∧
      (n.natAbs * R * 2 ^ 24 / 1000000 - 1) * 2 ^ y ≤ m * 2 ^ k ∧ m * 2 ^ k ≤ (n.natAbs * R * 2 ^ 24 / 1000000 + 2) * 2 ^ y ∧ (n = 0 → m * 2 ^ k = 0) := by
  have hR : 0 < R := by
    rcases Nat.eq_zero_or_pos R with rfl | h
    · omega
    · exact h
  have hT2 : T < 2 ^ 20 := by
    have : T * 1 ≤ T * R := Nat.mul_le_mul_left _ hR
    omega
  have hq : n.natAbs * R * 2 ^ 24 / 1000000 = n.natAbs * 2 ^ 24 / T := by
    rw [← hTR, Nat.mul_right_comm]
    exact Nat.mul_div_mul_right _ _ hR
  rw [hq]
  obtain ⟨t, j, t1, t2, t3, t4, t5⟩ := ofInt_z (n := (T : Int)) (by simp; omega) (y + 24) (by omega)
  have ht : 0 < t := by
    rcases Nat.eq_zero_or_pos t with h | h
    · have := t5.2 h; omega
    · exact h
  have hTs : decide ((T : Int) < 0) = false := by simp
  rw [hTs] at t3
  rw [t3]
  by_cases h0 : n = 0
  · subst h0
    refine ⟨0, 0, sc00, by omega, zero_quo t1 (by omega) ht, by simp, by simp, by simp⟩
  · have hnT : (T : Int).natAbs = T := by simp
    rw [hnT] at t4
    have e53 : 53 ≤ y + 24 := by omega
    obtain ⟨m, k, m1, m2, m3, m4⟩ := whole_sc (u := n.natAbs) (z := y + 24) (by omega) (by omega) e53
    obtain ⟨t', j', u1, u2, u3, u4⟩ := whole_sc (u := T) (z := y + 24) (by omega) (by omega) e53
    obtain ⟨rfl, rfl⟩ := sc_unique t1 u1 ht (t4.trans u3.symm)
    have hfn : Go.floatOfInt .f64 n = wd (n < 0) m k := by
      obtain ⟨m', k', v1, v2, v3, v4, v5⟩ := ofInt_z (n := n) (by omega) (y + 24) (by omega)
      have hm' : 0 < m' := by
        rcases Nat.eq_zero_or_pos m' with h | h
        · exact absurd (v5.2 h) h0
        · exact h
      obtain ⟨rfl, rfl⟩ := sc_unique v1 m1 hm' (v4.trans m3.symm)
      exact v3
    rw [hfn]
    obtain ⟨m', k', w1, w2, w3, w4, w5⟩ := quo_bounds (decide (n < 0)) (a := n.natAbs) (T := T) (z := y + 24) (y := y) (x := y + 24 - 55) (by omega) (by omega) hT hT2 (by omega) rfl (by omega) m1 m2 m3 u1 u2 u3
    exact ⟨m', k', w1, w2, w3, w4, w5, fun h => absurd h h0⟩

theorem gap {g h U V W : Nat} (hU : 0 < U) (hg : g + 3 < h) (h1 : V ≤ (g + 2) * U) (h2 : (h - 1) * U ≤ W) : V < W := by
  have : (g + 2) * U < (h - 1) * U := Nat.mul_lt_mul_of_pos_right (by omega) hU
  omega
theorem low_pos {h U W : Nat} (hU : 0 < U) (hg : 2 ≤ h) (h2 : (h - 1) * U ≤ W) : 0 < W := by
  have : 1 * U ≤ (h - 1) * U := Nat.mul_le_mul_right _ (by omega)
  omega
theorem step16 {a b : Nat} (h : a < b) : a * 2 ^ 24 / 1000000 + 16 ≤ b * 2 ^ 24 / 1000000 := by
  have : a * 2 ^ 24 + 16 * 1000000 ≤ b * 2 ^ 24 := by omega
  have := Nat.div_le_div_right (c := 1000000) this
  omega

/-- What is less as a decimal number is less as a real one. -/
theorem val_lt {A B : Int} {V W U : Nat} (hU : 0 < U)
    (v1 : (A.natAbs * 2 ^ 24 / 1000000 - 1) * U ≤ V) (v2 : V ≤ (A.natAbs * 2 ^ 24 / 1000000 + 2) * U) (v0 : A = 0 → V = 0)
    (w1 : (B.natAbs * 2 ^ 24 / 1000000 - 1) * U ≤ W) (w2 : W ≤ (B.natAbs * 2 ^ 24 / 1000000 + 2) * U) (h : A < B) :
    sg (A < 0) V < sg (B < 0) W := by
  by_cases ha : A < 0
  · have hA : 0 < V := low_pos hU (by have := step16 (a := 0) (b := A.natAbs) (by omega); omega) v1
    by_cases hb : B < 0
    · have g := step16 (a := B.natAbs) (b := A.natAbs) (by omega)
      have := gap hU (by omega) w2 v1
      simp only [sg, ha, hb, decide_true, if_true]
      omega
    · simp only [sg, ha, hb, decide_true, decide_false, if_true, Bool.false_eq_true, if_false]
      omega
  · have hb : ¬ B < 0 := by omega
    simp only [sg, ha, hb, decide_false, Bool.false_eq_true, if_false]
    by_cases h0 : A = 0
    · have := v0 h0
      have hB : 0 < W := low_pos hU (by have := step16 (a := 0) (b := B.natAbs) (by omega); omega) w1
      omega
    · have g := step16 (a := A.natAbs) (b := B.natAbs) (by omega)
      have := gap hU (by omega) v2 w1
      omega
end Go.Proofs.YtceepaboaoffkaaDoor.Fl
