/- Real numbers of 64 bits: cut to whole ones; the odd part. Helper text: no statement is claimed here. -/
import Derived.Test.YtedobjegolpbjaaDoorFb
namespace Go.Proofs.YtedobjegolpbjaaDoor.Fl
open Ieee

theorem cut_zero (s : Bool) (n d : Nat) : Toward.zero.cut s n d = n / 2 ^ d := by
  unfold Toward.cut
  simp only [Nat.shiftLeft_eq, Nat.one_mul, Bool.toNat_false, Nat.add_zero]
  by_cases h : d ≤ n.log2 + 2
  · rw [Nat.min_eq_left h]
  · rw [Nat.min_eq_right (by omega)]
    have l := @Nat.lt_log2_self n
    have a : n < 2 ^ (n.log2 + 2) := Nat.lt_trans l (pow_lt_pow_iff2.2 (by omega))
    have b : n < 2 ^ d := Nat.lt_trans a (pow_lt_pow_iff2.2 (by omega))
    rw [Nat.div_eq_of_lt a, Nat.div_eq_of_lt b]

theorem scale_div (m k : Nat) : m * 2 ^ (k - 1074) / 2 ^ (1074 - k) = m * 2 ^ k / 2 ^ 1074 := by
  by_cases h : 1074 ≤ k
  · obtain ⟨c, rfl⟩ := Nat.exists_eq_add_of_le h
    have e1 : 1074 + c - 1074 = c := by omega
    have e2 : 1074 - (1074 + c) = 0 := by omega
    rw [e1, e2, Nat.pow_zero, Nat.div_one, Nat.add_comm, Nat.pow_add, ← Nat.mul_assoc, Nat.mul_div_cancel _ (Nat.two_pow_pos 1074)]
  · obtain ⟨c, hc⟩ := Nat.exists_eq_add_of_le (show k ≤ 1074 by omega)
    have e1 : k - 1074 = 0 := by omega
    have e2 : 1074 - k = c := by omega
    rw [e1, e2, Nat.pow_zero, Nat.mul_one, hc, Nat.add_comm, Nat.pow_add, Nat.mul_div_mul_right _ _ (Nat.two_pow_pos k)]

/-- A real number, cut towards 0. -/
theorem toInt_wd {m k : Nat} (h : Sc m k) (hk : k ≤ 2045) (s : Bool) : (double.read (wd s m k)).toInt .zero = some (sg s (m * 2 ^ k / 2 ^ 1074)) := by
  rw [read_wd h hk]
  simp only [Datum.toInt, Datum.integral, cut_zero, signed_eq, Nat.pow_zero, Nat.mul_one, Nat.shiftLeft_eq]
  have e1 : ((k : Int) - 1074).toNat = k - 1074 := by omega
  have e2 : (-((k : Int) - 1074)).toNat = 1074 - k := by omega
  rw [e1, e2, scale_div]

/-- The odd part, and how often 2 divides. -/
def oddpF : Nat → Nat → Nat × Nat
  | 0, v => (v, 0)
  | n + 1, v => if v % 2 = 0 ∧ 0 < v then ((oddpF n (v / 2)).1, (oddpF n (v / 2)).2 + 1) else (v, 0)
def oddp (v : Nat) : Nat × Nat := oddpF v v
theorem oddpF_zero (n : Nat) : oddpF n 0 = (0, 0) := by
  cases n <;> simp [oddpF]
theorem oddpF_same : ∀ n k v, v ≤ n → v ≤ k → oddpF n v = oddpF k v
  | 0, k, v, h, _ => by
    obtain rfl : v = 0 := by omega
    rw [oddpF_zero, oddpF_zero]
  | n + 1, 0, v, _, h => by
    obtain rfl : v = 0 := by omega
    rw [oddpF_zero, oddpF_zero]
  | n + 1, k + 1, v, h1, h2 => by
    by_cases h : v % 2 = 0 ∧ 0 < v
    · rw [oddpF, oddpF, if_pos h, if_pos h, oddpF_same n k (v / 2) (by omega) (by omega)]
    · rw [oddpF, oddpF, if_neg h, if_neg h]
theorem oddp_odd {v : Nat} (h : v % 2 = 1) : oddp v = (v, 0) := by
  obtain ⟨u, rfl⟩ : ∃ u, v = u + 1 := ⟨v - 1, by omega⟩
  rw [oddp, oddpF, if_neg (by omega)]
theorem oddp_even {v : Nat} (h : v % 2 = 0) (h0 : 0 < v) : oddp v = ((oddp (v / 2)).1, (oddp (v / 2)).2 + 1) := by
  obtain ⟨u, rfl⟩ : ∃ u, v = u + 1 := ⟨v - 1, by omega⟩
  rw [oddp, oddpF, if_pos ⟨h, h0⟩, oddpF_same u ((u + 1) / 2) ((u + 1) / 2) (by omega) (Nat.le_refl _)]
  rfl
theorem oddp_two {v : Nat} (h0 : 0 < v) : oddp (2 * v) = ((oddp v).1, (oddp v).2 + 1) := by
  rw [oddp_even (by omega) (by omega)]
  have : 2 * v / 2 = v := by omega
  rw [this]
theorem oddp_pow {v : Nat} (h0 : 0 < v) : ∀ j, oddp (v * 2 ^ j) = ((oddp v).1, (oddp v).2 + j) := by
  intro j
  induction j with
  | zero => simp
  | succ j ih =>
    have : v * 2 ^ (j + 1) = 2 * (v * 2 ^ j) := by grind
    rw [this, oddp_two (Nat.mul_pos h0 (Nat.two_pow_pos j)), ih]
    rfl
theorem oddp_val (v : Nat) : 0 < v → (oddp v).1 * 2 ^ (oddp v).2 = v ∧ (oddp v).1 % 2 = 1 := by
  induction v using Nat.strongRecOn with
  | _ v ih =>
    intro h0
    by_cases h : v % 2 = 0
    · rw [oddp_even h h0]
      obtain ⟨a, b⟩ := ih (v / 2) (by omega) (by omega)
      refine ⟨?_, b⟩
      show (oddp (v / 2)).1 * 2 ^ ((oddp (v / 2)).2 + 1) = v
      rw [Nat.pow_succ, ← Nat.mul_assoc, a]; omega
    · rw [oddp_odd (by omega)]; simp; omega
theorem oddp_le (v : Nat) (h0 : 0 < v) : (oddp v).1 ≤ v := by
  have := (oddp_val v h0).1
  have h := Nat.le_mul_of_pos_right (oddp v).1 (Nat.two_pow_pos (oddp v).2)
  omega
theorem oddp_of {n t : Nat} (h : n % 2 = 1) : oddp (n * 2 ^ t) = (n, t) := by
  rw [oddp_pow (by omega), oddp_odd h]; simp

theorem lt_pow {m k j : Nat} (h : Sc m k) (hj : 1 ≤ j) : m * 2 ^ k < 2 ^ 52 * 2 ^ j ↔ k < j := by
  constructor
  · intro hl
    by_cases hk : k < j
    · exact hk
    · have h2 : 2 ^ 52 ≤ m := by have := h.hk; omega
      have h3 : 2 ^ 52 * 2 ^ j ≤ m * 2 ^ k := Nat.mul_le_mul h2 (pow_le_pow_iff2.2 (by omega))
      omega
  · intro hk
    obtain ⟨d, rfl⟩ := Nat.exists_eq_add_of_lt hk
    have h1 : m * 2 ^ k < 2 ^ 53 * 2 ^ k := Nat.mul_lt_mul_of_pos_right h.hm (Nat.two_pow_pos k)
    have h2 : 2 ^ 53 * 2 ^ k ≤ 2 ^ 53 * 2 ^ (k + d) := Nat.mul_le_mul_left _ (pow_le_pow_iff2.2 (by omega))
    have h3 : 2 ^ 52 * 2 ^ (k + d + 1) = 2 ^ 53 * 2 ^ (k + d) := by grind
    omega

/-! Comparisons as the walk meets them. -/
theorem cmp_lt (x y : Int) : (some (compare x y) == some Ordering.lt) = decide (x < y) := by
  simp [compare, compareOfLessAndEq]; split
  · rename_i h; simp; omega
  · split <;> simp <;> omega
theorem cmp_eq (x y : Int) : (some (compare x y) == some Ordering.eq) = decide (x = y) := by
  simp [compare, compareOfLessAndEq]; split
  · rename_i h; simp; omega
  · split <;> simp_all
theorem cmp_gt (x y : Int) : (some (compare x y) == some Ordering.gt) = decide (y < x) := by
  simp [compare, compareOfLessAndEq]; split
  · rename_i h; simp; omega
  · split
    · rename_i h; subst h; simp
    · simp; omega

abbrev ord (a b : Nat) : Option Ordering := Go.FloatKind.f64.format.order a b

section
theorem ord_lt {m k n j : Nat} (h : Sc m k) (hk : k ≤ 2045) (h' : Sc n j) (hj : j ≤ 2045) (s t : Bool) : (ord (wd s m k) (wd t n j) == some .lt) = decide (sg s (m * 2 ^ k) < sg t (n * 2 ^ j)) := by
  rw [← cmp_lt, ← order_wd h hk h' hj]; rfl
theorem ord_gt {m k n j : Nat} (h : Sc m k) (hk : k ≤ 2045) (h' : Sc n j) (hj : j ≤ 2045) (s t : Bool) : (ord (wd s m k) (wd t n j) == some .gt) = decide (sg t (n * 2 ^ j) < sg s (m * 2 ^ k)) := by
  rw [← cmp_gt, ← order_wd h hk h' hj]; rfl
theorem ord_eq {m k n j : Nat} (h : Sc m k) (hk : k ≤ 2045) (h' : Sc n j) (hj : j ≤ 2045) (s t : Bool) : (ord (wd s m k) (wd t n j) == some .eq) = decide (sg s (m * 2 ^ k) = sg t (n * 2 ^ j)) := by
  rw [← cmp_eq, ← order_wd h hk h' hj]; rfl
end

theorem sc00 : Sc 0 0 := ⟨by omega, .inl rfl⟩
theorem scMax : Sc (2 ^ 53 - 1) 2045 := ⟨by omega, .inr (by omega)⟩
theorem sc52 : Sc (2 ^ 52) 1074 := ⟨by omega, .inr (by omega)⟩
theorem sc53 : Sc (2 ^ 52) 1075 := ⟨by omega, .inr (by omega)⟩
theorem w0 : wd false 0 0 = 0 := rfl
theorem wMax : wd false (2 ^ 53 - 1) 2045 = 9218868437227405311 := rfl
theorem wMaxN : wd true (2 ^ 53 - 1) 2045 = 18442240474082181119 := rfl
theorem w52 : wd false (2 ^ 52) 1074 = 4841369599423283200 := rfl
theorem w53 : wd false (2 ^ 52) 1075 = 4845873199050653696 := rfl

theorem max_val {m k j : Nat} (h : Sc m k) (hk : k ≤ j) : m * 2 ^ k ≤ (2 ^ 53 - 1) * 2 ^ j :=
  Nat.mul_le_mul (by have := h.hm; omega) (pow_le_pow_iff2.2 hk)
end Go.Proofs.YtedobjegolpbjaaDoor.Fl
