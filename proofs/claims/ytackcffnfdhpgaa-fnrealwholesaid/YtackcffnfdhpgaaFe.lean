/- Real numbers of 64 bits: one taken off another. Helper text: no statement is claimed here. -/
import Derived.Test.YtackcffnfdhpgaaFd
namespace Go.Proofs.Ytackcffnfdhpgaa.Fl
open Ieee

theorem min_fin {m k : Nat} (h : Sc m k) (hk : k ≤ 2045) : min (k * 2 ^ 52 + m) double.infRung = k * 2 ^ 52 + m := by
  have := h.hm
  rw [infRung_eq]
  omega

/-- One number taken off another, where the difference is a real number. -/
theorem sub_wd {s3 : Bool} {m k n j m3 k3 : Nat} (h : Sc m k) (hk : k ≤ 2045) (h' : Sc n j) (hj : j ≤ 2045) (s t : Bool) (h3 : Sc m3 k3) (hk3 : k3 ≤ 2045) (hp : 0 < m3)
    (e : sg s (m * 2 ^ k) - sg t (n * 2 ^ j) = sg s3 (m3 * 2 ^ k3)) : Go.floatBits .sub .f64 (wd s m k) (wd t n j) = some (wd s3 m3 k3) := by
  show double.sub (wd s m k) (wd t n j) = _
  unfold Format.sub
  rw [read_wd h hk s, read_wd h' hj t]
  simp only [Datum.opposite, Datum.sum, signed_eq, Option.map_some, Format.write]
  have e1 : ((k : Int) - 1074 - min ((k : Int) - 1074) ((j : Int) - 1074)).toNat = k - min k j := by omega
  have e2 : ((j : Int) - 1074 - min ((k : Int) - 1074) ((j : Int) - 1074)).toNat = j - min k j := by omega
  have e5 : min ((k : Int) - 1074) ((j : Int) - 1074) = ((min k j : Nat) : Int) - (0 : Nat) - 1074 := by omega
  rw [e1, e2, e5]
  generalize hb : min k j = b at *
  have hpb : 0 < 2 ^ b := Nat.two_pow_pos b
  have hk' : m * 2 ^ k = m * 2 ^ (k - b) * 2 ^ b := by rw [Nat.mul_assoc, ← Nat.pow_add]; congr 2; omega
  have hj' : n * 2 ^ j = n * 2 ^ (j - b) * 2 ^ b := by rw [Nat.mul_assoc, ← Nat.pow_add]; congr 2; omega
  rw [hk', hj'] at e
  clear hk' hj'
  generalize m * 2 ^ (k - b) = V at *
  generalize n * 2 ^ (j - b) = W at *
  rw [sg_scale s V, sg_scale t W] at e
  have hT : (sg s V + sg (!t) W) * ((2 ^ b : Nat) : Int) = sg s3 (m3 * 2 ^ k3) := by
    rw [← e, Int.add_mul, Int.sub_eq_add_neg]
    congr 1
    cases t <;> simp [sg, Int.neg_mul]
  clear e
  generalize sg s V + sg (!t) W = T at *
  have hv : 0 < m3 * 2 ^ k3 := pos_val hp
  have hB : (0 : Int) < ((2 ^ b : Nat) : Int) := by omega
  generalize hBB : ((2 ^ b : Nat) : Int) = B at *
  have hsgn : T ≠ 0 ∧ decide (T < 0) = s3 := by
    generalize m3 * 2 ^ k3 = Y at *
    have hz : T ≠ 0 := by
      rintro rfl
      rw [Int.zero_mul] at hT
      cases s3 <;> simp [sg] at hT <;> omega
    refine ⟨hz, ?_⟩
    cases s3
    · simp [sg] at hT
      have : 0 < T := by
        rcases Int.lt_or_le 0 T with h | h
        · exact h
        · have := Int.mul_nonpos_of_nonpos_of_nonneg h (Int.le_of_lt hB); omega
      simp; omega
    · simp [sg] at hT
      have : T < 0 := by
        rcases Int.lt_or_le T 0 with h | h
        · exact h
        · have := Int.mul_nonneg h (Int.le_of_lt hB); omega
      simp [this]
  have habs : T.natAbs * 2 ^ b = m3 * 2 ^ (k3 + 0) := by
    have := congrArg Int.natAbs hT
    rw [Int.natAbs_mul, ← hBB, Int.natAbs_natCast] at this
    rw [this, Nat.add_zero]
    generalize m3 * 2 ^ k3 = Y
    cases s3 <;> simp [sg]
  simp only [hsgn.1, if_false, hsgn.2]
  rw [nearest_sc h3 hp s3 _ _ _ (.inr rfl) habs]
  rw [min_fin h3 hk3]
  rfl

theorem sub_wd_zero {m k n j : Nat} (h : Sc m k) (hk : k ≤ 2045) (h' : Sc n j) (hj : j ≤ 2045) (s t : Bool)
    (e : sg s (m * 2 ^ k) = sg t (n * 2 ^ j)) : Go.floatBits .sub .f64 (wd s m k) (wd t n j) = some (wd (s && !t) 0 0) := by
  show double.sub (wd s m k) (wd t n j) = _
  unfold Format.sub
  rw [read_wd h hk s, read_wd h' hj t]
  simp only [Datum.opposite, Datum.sum, signed_eq, Option.map_some, Format.write]
  have e1 : ((k : Int) - 1074 - min ((k : Int) - 1074) ((j : Int) - 1074)).toNat = k - min k j := by omega
  have e2 : ((j : Int) - 1074 - min ((k : Int) - 1074) ((j : Int) - 1074)).toNat = j - min k j := by omega
  rw [e1, e2]
  generalize hb : min k j = b at *
  have hpb : 0 < 2 ^ b := Nat.two_pow_pos b
  have hk' : m * 2 ^ k = m * 2 ^ (k - b) * 2 ^ b := by rw [Nat.mul_assoc, ← Nat.pow_add]; congr 2; omega
  have hj' : n * 2 ^ j = n * 2 ^ (j - b) * 2 ^ b := by rw [Nat.mul_assoc, ← Nat.pow_add]; congr 2; omega
  rw [hk', hj', sg_scale s (m * 2 ^ (k - b)), sg_scale t (n * 2 ^ (j - b))] at e
  clear hk' hj' e1 e2 hb
  have hB : ((2 ^ b : Nat) : Int) ≠ 0 := by
    generalize 2 ^ b = B at *
    omega
  have e := Int.eq_of_mul_eq_mul_right hB e
  have hT : sg s (m * 2 ^ (k - b)) + sg (!t) (n * 2 ^ (j - b)) = 0 := by
    rw [e]; cases t <;> simp [sg] <;> omega
  rw [hT]
  simp [Format.nearest, wd]

/-- What is left of a real number when its whole part is taken off. -/
theorem rest_sc {m k : Nat} (h : Sc m k) : ∃ m3 k3, Sc m3 k3 ∧ m3 * 2 ^ k3 = m * 2 ^ k % 2 ^ 1074 ∧ k3 ≤ k := by
  by_cases hk : 1074 ≤ k
  · obtain ⟨c, rfl⟩ := Nat.exists_eq_add_of_le hk
    refine ⟨0, 0, sc00, ?_, by omega⟩
    have : m * 2 ^ (1074 + c) = m * 2 ^ c * 2 ^ 1074 := by rw [Nat.add_comm, Nat.pow_add, Nat.mul_assoc]
    rw [this, Nat.mul_mod_left, Nat.zero_mul]
  · obtain ⟨c, hc⟩ := Nat.exists_eq_add_of_le (show k ≤ 1074 by omega)
    obtain ⟨m3, k3, h1, h2, h3⟩ := exists_sc (m % 2 ^ c) (Nat.lt_of_le_of_lt (Nat.mod_le _ _) h.hm) k
    refine ⟨m3, k3, h1, ?_, h3⟩
    rw [h2, hc, Nat.add_comm, Nat.pow_add, Nat.mul_mod_mul_right]
end Go.Proofs.Ytackcffnfdhpgaa.Fl
