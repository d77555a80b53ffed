/- Real numbers of 64 bits: decimal numbers keep their order. Helper text: no statement is claimed here. -/
import Derived.Test.YtceepaboaoffkaaDoorFi
namespace Go.Proofs.YtceepaboaoffkaaDoor.Fl
open Ieee

theorem ten_parts {p : Nat} (h1 : 1 ≤ p) (h6 : p ≤ 6) : 8 ≤ 10 ^ p ∧ 10 ^ p * 10 ^ (6 - p) = 1000000 := by
  have : p = 1 ∨ p = 2 ∨ p = 3 ∨ p = 4 ∨ p = 5 ∨ p = 6 := by omega
  rcases this with rfl | rfl | rfl | rfl | rfl | rfl <;> decide

theorem canon {n n' : Int} {p p' : Nat} (h6 : p ≤ 6) (h6' : p' ≤ 6) (h1 : 1 ≤ p) (hc' : p' = 1 ∨ n'.tmod 10 ≠ 0)
    (e : n * ((10 ^ (6 - p) : Nat) : Int) = n' * ((10 ^ (6 - p') : Nat) : Int)) : ¬ p < p' := by
  intro hlt
  obtain ⟨d, rfl⟩ := Nat.exists_eq_add_of_lt hlt
  have hp : (10 ^ (6 - p) : Nat) = 10 ^ (d + 1) * 10 ^ (6 - (p + d + 1)) := by rw [← Nat.pow_add]; congr 1; omega
  rw [hp] at e
  have hpos : (0 : Int) < ((10 ^ (6 - (p + d + 1)) : Nat) : Int) := by
    have := Nat.pow_pos (n := 6 - (p + d + 1)) (show 0 < 10 by omega)
    omega
  generalize (10 ^ (6 - (p + d + 1)) : Nat) = S at *
  have e2 : n * ((10 ^ (d + 1) : Nat) : Int) * (S : Int) = n' * (S : Int) := by
    rw [← e, Int.natCast_mul, Int.mul_assoc]
  have e3 := Int.eq_of_mul_eq_mul_right (by omega) e2
  rw [Nat.pow_succ, Int.natCast_mul, ← Int.mul_assoc] at e3
  generalize n * ((10 ^ d : Nat) : Int) = c at *
  rcases hc' with h | h
  · omega
  · exact h (by rw [← e3]; exact Int.mul_tmod_left _ _)

/-- Decimal numbers keep their order, and their difference, as real ones. -/
theorem dec_order {n n' : Int} {p p' r r' : Nat} (hn : n.natAbs ≤ 999999999) (hn' : n'.natAbs ≤ 999999999) (h1 : 1 ≤ p) (h6 : p ≤ 6) (h1' : 1 ≤ p') (h6' : p' ≤ 6)
    (hc : p = 1 ∨ n.tmod 10 ≠ 0) (hc' : p' = 1 ∨ n'.tmod 10 ≠ 0)
    (hr : Go.floatBits .quo .f64 (Go.floatOfInt .f64 n) (Go.floatOfInt .f64 ((10 ^ p : Nat) : Int)) = some r)
    (hr' : Go.floatBits .quo .f64 (Go.floatOfInt .f64 n') (Go.floatOfInt .f64 ((10 ^ p' : Nat) : Int)) = some r') :
    (ord r r' == some .lt) = decide (n * ((10 ^ (6 - p) : Nat) : Int) < n' * ((10 ^ (6 - p') : Nat) : Int)) ∧
    (ord r r' == some .eq) = decide (n * ((10 ^ (6 - p) : Nat) : Int) = n' * ((10 ^ (6 - p') : Nat) : Int)) := by
  obtain ⟨t8, tR⟩ := ten_parts h1 h6
  obtain ⟨t8', tR'⟩ := ten_parts h1' h6'
  obtain ⟨y, hy⟩ : ∃ y, y = 1050 := ⟨_, rfl⟩
  obtain ⟨m, k, s1, s2, s3, s4, s5, s6⟩ := dec_wd hn t8 tR y hy
  obtain ⟨m', k', s1', s2', s3', s4', s5', s6'⟩ := dec_wd hn' t8' tR' y hy
  rw [s3] at hr
  rw [s3'] at hr'
  have hr := (Option.some.inj hr).symm
  have hr' := (Option.some.inj hr').symm
  have hU : 0 < 2 ^ y := Nat.two_pow_pos y
  have can := @canon n n' p p' h6 h6' h1 hc'
  have can' := @canon n' n p' p h6' h6 h1' hc
  have hRp : 0 < 10 ^ (6 - p) := Nat.pow_pos (by omega)
  have hRp' : 0 < 10 ^ (6 - p') := Nat.pow_pos (by omega)
  have same : n * ((10 ^ (6 - p) : Nat) : Int) = n' * ((10 ^ (6 - p') : Nat) : Int) → r = r' := by
    intro e
    have a := can e
    have b := can' e.symm
    obtain rfl : p = p' := by omega
    have : n = n' := Int.eq_of_mul_eq_mul_right (by omega) e
    subst this
    rw [s3] at s3'
    rw [hr, hr']
    exact Option.some.inj s3'
  generalize (10 ^ (6 - p) : Nat) = R at *
  generalize (10 ^ (6 - p') : Nat) = R' at *
  have eA : n.natAbs * R = (n * (R : Int)).natAbs := by rw [Int.natAbs_mul, Int.natAbs_natCast]
  have eB : n'.natAbs * R' = (n' * (R' : Int)).natAbs := by rw [Int.natAbs_mul, Int.natAbs_natCast]
  rw [eA] at s4 s5
  rw [eB] at s4' s5'
  have zA : n * (R : Int) = 0 → m * 2 ^ k = 0 := fun h => s6 (by
    rcases Int.mul_eq_zero.1 h with h | h
    · exact h
    · omega)
  have zB : n' * (R' : Int) = 0 → m' * 2 ^ k' = 0 := fun h => s6' (by
    rcases Int.mul_eq_zero.1 h with h | h
    · exact h
    · omega)
  have nA : decide (n < 0) = decide (n * (R : Int) < 0) := by
    have : n < 0 ↔ n * (R : Int) < 0 := ⟨fun h => Int.mul_neg_of_neg_of_pos h (by omega), fun h => by
      rcases Int.lt_or_le n 0 with g | g
      · exact g
      · have := Int.mul_nonneg g (show (0 : Int) ≤ R by omega); omega⟩
    simp only [this]
  have nB : decide (n' < 0) = decide (n' * (R' : Int) < 0) := by
    have : n' < 0 ↔ n' * (R' : Int) < 0 := ⟨fun h => Int.mul_neg_of_neg_of_pos h (by omega), fun h => by
      rcases Int.lt_or_le n' 0 with g | g
      · exact g
      · have := Int.mul_nonneg g (show (0 : Int) ≤ R' by omega); omega⟩
    simp only [this]
  generalize n * (R : Int) = A at *
  generalize n' * (R' : Int) = B at *
  have key : (A < B → sg (A < 0) (m * 2 ^ k) < sg (B < 0) (m' * 2 ^ k')) ∧ (B < A → sg (B < 0) (m' * 2 ^ k') < sg (A < 0) (m * 2 ^ k)) :=
    ⟨fun h => val_lt hU s4 s5 zA s4' s5' h, fun h => val_lt hU s4' s5' zB s4 s5 h⟩
  have olt := ord_lt s1 s2 s1' s2' (decide (A < 0)) (decide (B < 0))
  have oeq := ord_eq s1 s2 s1' s2' (decide (A < 0)) (decide (B < 0))
  rw [nA] at hr
  rw [nB] at hr'
  have ev : A = B → sg (A < 0) (m * 2 ^ k) = sg (B < 0) (m' * 2 ^ k') := by
    intro h
    have := same h
    rw [hr, hr'] at this
    obtain ⟨a, b, c⟩ := wd_inj s1 s2 s1' s2' this
    rw [a, b, c]
  rw [hr, hr', olt, oeq]
  clear s4 s5 s4' s5' s6 s6' zA zB same can can' olt oeq hr hr' eA eB tR tR' t8 t8' hU s3 s3'
  generalize sg (decide (A < 0)) (m * 2 ^ k) = X at *
  generalize sg (decide (B < 0)) (m' * 2 ^ k') = Y at *
  constructor
  · rw [decide_eq_decide]; constructor
    · intro h
      rcases Int.lt_trichotomy A B with g | g | g
      · exact g
      · have := ev g; omega
      · have := key.2 g; omega
    · exact key.1
  · rw [decide_eq_decide]; constructor
    · intro h
      rcases Int.lt_trichotomy A B with g | g | g
      · have := key.1 g; omega
      · exact g
      · have := key.2 g; omega
    · exact ev
end Go.Proofs.YtceepaboaoffkaaDoor.Fl
