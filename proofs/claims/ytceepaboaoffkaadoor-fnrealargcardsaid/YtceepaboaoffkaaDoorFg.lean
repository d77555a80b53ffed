/- Real numbers of 64 bits: to round keeps the order. Helper text: no statement is claimed here. -/
import Derived.Test.YtceepaboaoffkaaDoorFe
namespace Go.Proofs.YtceepaboaoffkaaDoor.Fl
open Ieee

/-- How a number is rounded: to a place 'c', whose last digit is kept or made 1 more. -/
theorem cut_even (s : Bool) (n d : Nat) : Toward.even.cut s n d = n / 2 ^ d ∨ (Toward.even.cut s n d = n / 2 ^ d + 1 ∧ n % 2 ^ d ≠ 0) := by
  unfold Toward.cut
  simp only [Nat.shiftLeft_eq, Nat.one_mul]
  by_cases h : d ≤ n.log2 + 2
  · rw [Nat.min_eq_left h]
    have hp := Nat.two_pow_pos d
    generalize 2 ^ d = D at *
    by_cases hr : n % D = 0
    · left
      rw [hr]
      have : (D == 2 * 0) = false := by simp; omega
      simp [this]
    · cases (decide (D < 2 * (n % D)) || D == 2 * (n % D) && n / D % 2 == 1)
      · left; simp
      · right; exact ⟨by simp, hr⟩
  · rw [Nat.min_eq_right (by omega)]
    have l := @Nat.lt_log2_self n
    have a : n < 2 ^ (n.log2 + 2) := Nat.lt_trans l (pow_lt_pow_iff2.2 (by omega))
    have b : n < 2 ^ d := Nat.lt_trans a (pow_lt_pow_iff2.2 (by omega))
    rw [Nat.div_eq_of_lt a, Nat.div_eq_of_lt b, Nat.mod_eq_of_lt a, Nat.mod_eq_of_lt b]
    left
    have c : 2 * n < 2 ^ (n.log2 + 2) := by rw [Nat.pow_succ]; omega
    generalize 2 ^ (n.log2 + 2) = D at *
    have h1 : decide (D < 2 * n) = false := by simp; omega
    have h2 : (D == 2 * n) = false := by simp; omega
    rw [h1, h2]; simp

theorem div_le_of {X D m : Nat} (hD : 0 < D) (h : X ≤ m * D) : X / D ≤ m ∧ (X % D ≠ 0 → X / D + 1 ≤ m) := by
  have e := Nat.div_add_mod X D
  have h1 : X / D ≤ m := by
    have := Nat.div_le_div_right (c := D) h
    rwa [Nat.mul_div_cancel _ hD] at this
  refine ⟨h1, fun hr => ?_⟩
  rcases Nat.lt_or_ge (X / D) m with h2 | h2
  · omega
  · have : X / D = m := by omega
    rw [this, Nat.mul_comm] at e
    omega

/-- To round keeps the order: against every number that the format has. -/
theorem nearest_mono (s : Bool) (mag a b : Nat) (hne : 0 < mag) :
    ∃ r, double.nearest s mag ((a : Int) - b - 1074) = double.word s r ∧ r ≤ double.infRung ∧
      (∀ m k, Sc m k → mag * 2 ^ a ≤ m * 2 ^ (k + b) → r ≤ k * 2 ^ 52 + m) ∧
      (∀ m k, Sc m k → k ≤ 2045 → m * 2 ^ (k + b) ≤ mag * 2 ^ a → k * 2 ^ 52 + m ≤ r) := by
  have hn : mag ≠ 0 := by omega
  have l1 := Nat.log2_self_le hn
  have l2 := @Nat.lt_log2_self mag
  have dn : 2 ^ (mag.log2 + a) ≤ mag * 2 ^ a := by rw [Nat.pow_add]; exact Nat.mul_le_mul_right _ l1
  have up : mag * 2 ^ a < 2 ^ (mag.log2 + 1 + a) := by rw [Nat.pow_add _ (mag.log2 + 1)]; exact Nat.mul_lt_mul_of_pos_right l2 (Nat.two_pow_pos a)
  clear l1 l2
  obtain ⟨c, hc⟩ : ∃ c : Nat, max ((a : Int) - b - 1074 + mag.log2 - (52 : Nat)) (-1074) = (c : Int) - 1074 := ⟨(max ((a : Int) - b - 1074 + mag.log2 - (52 : Nat)) (-1074) + 1074).toNat, by omega⟩
  have c1 : mag.log2 + 1 + a ≤ 53 + (c + b) := by omega
  have c2 : c = 0 ∨ 52 + (c + b) = mag.log2 + a := by omega
  have up2 : mag * 2 ^ a < 2 ^ (53 + (c + b)) := Nat.lt_of_lt_of_le up (pow_le_pow_iff2.2 c1)
  have dn2 : c = 0 ∨ 2 ^ (52 + (c + b)) ≤ mag * 2 ^ a := by
    rcases c2 with h | h
    · exact .inl h
    · right; rw [h]; exact dn
  clear up dn c1 c2
  have hu : ((a : Int) - b - 1074 - ((c : Int) - 1074)).toNat = a - (c + b) := by omega
  have hv : ((c : Int) - 1074 - ((a : Int) - b - 1074)).toNat = (c + b) - a := by omega
  have hX : mag * 2 ^ (a - (c + b)) * 2 ^ (c + b) = mag * 2 ^ a * 2 ^ (c + b - a) := by
    rw [Nat.mul_assoc, ← Nat.pow_add, Nat.mul_assoc, ← Nat.pow_add]; congr 2; omega
  have hE : double.nearest s mag ((a : Int) - b - 1074) = double.word s (min (c * 2 ^ 52 + Toward.even.cut s (mag * 2 ^ (a - (c + b))) (c + b - a)) double.infRung) := by
    unfold Format.nearest
    rw [if_neg hn]
    have hf : (double.fractionBits : Nat) = 52 := rfl
    rw [leastPlace_eq, hf]
    simp only [hc, binade_eq, hu, hv, Nat.shiftLeft_eq]
    have : ((c : Int) - 1074 - (-1074)).toNat = c := by omega
    rw [this]
  clear hc hu hv
  have hq := cut_even s (mag * 2 ^ (a - (c + b))) (c + b - a)
  generalize Toward.even.cut s (mag * 2 ^ (a - (c + b))) (c + b - a) = q at *
  have pv : 0 < 2 ^ (c + b - a) := Nat.two_pow_pos _
  generalize 2 ^ (c + b - a) = D at *
  generalize mag * 2 ^ (a - (c + b)) = X at *
  generalize mag * 2 ^ a = M at *
  have pc : 0 < 2 ^ (c + b) := Nat.two_pow_pos _
  -- X / D is M / 2 ^ (c + b)
  have le_iff : ∀ m : Nat, M ≤ m * 2 ^ (c + b) → X ≤ m * D := by
    intro m h
    have : X * 2 ^ (c + b) ≤ m * D * 2 ^ (c + b) := by
      rw [hX]
      have := Nat.mul_le_mul_right D h
      grind
    exact Nat.le_of_mul_le_mul_right this pc
  have ge_iff : ∀ m : Nat, m * 2 ^ (c + b) ≤ M → m * D ≤ X := by
    intro m h
    have : m * D * 2 ^ (c + b) ≤ X * 2 ^ (c + b) := by
      rw [hX]
      have := Nat.mul_le_mul_right D h
      grind
    exact Nat.le_of_mul_le_mul_right this pc
  have q_le : ∀ m : Nat, M ≤ m * 2 ^ (c + b) → q ≤ m := by
    intro m h
    have := div_le_of pv (le_iff m h)
    rcases hq with h | ⟨h, h'⟩
    · omega
    · have := this.2 h'; omega
  have q_ge : ∀ m : Nat, m * 2 ^ (c + b) ≤ M → m ≤ q := by
    intro m h
    have := Nat.div_le_div_right (c := D) (ge_iff m h)
    rw [Nat.mul_div_cancel _ pv] at this
    omega
  refine ⟨_, hE, Nat.min_le_right .., ?_, ?_⟩
  · intro m k h hle
    have h1 := h.hm
    have h2 := h.hk
    refine Nat.le_trans (Nat.min_le_left ..) ?_
    rcases Nat.lt_trichotomy c k with hlt | rfl | hgt
    · have : q ≤ 2 ^ 53 := q_le _ (by rw [← Nat.pow_add]; exact Nat.le_of_lt up2)
      clear hX le_iff ge_iff q_le q_ge hE hq up2 dn2 hle
      omega
    · have := q_le m hle
      omega
    · exfalso
      have d : 2 ^ (52 + (c + b)) ≤ M := by
        rcases dn2 with h | h
        · omega
        · exact h
      have e : m * 2 ^ (k + b) < 2 ^ (53 + (k + b)) := by rw [Nat.pow_add 2 53]; exact Nat.mul_lt_mul_of_pos_right h1 (Nat.two_pow_pos _)
      have f : 2 ^ (53 + (k + b)) ≤ 2 ^ (52 + (c + b)) := pow_le_pow_iff2.2 (by omega)
      exact absurd (Nat.lt_of_le_of_lt (Nat.le_trans d hle) (Nat.lt_of_lt_of_le e f)) (Nat.lt_irrefl _)
  · intro m k h hk hge
    have h1 := h.hm
    have h2 := h.hk
    refine Nat.le_min.2 ⟨?_, by rw [infRung_eq]; clear hX le_iff ge_iff q_le q_ge hE hq up2 dn2 hge; omega⟩
    rcases Nat.lt_trichotomy c k with hlt | rfl | hgt
    · exfalso
      have e : 2 ^ (52 + (k + b)) ≤ m * 2 ^ (k + b) := by rw [Nat.pow_add 2 52]; exact Nat.mul_le_mul_right _ (by omega)
      have f : 2 ^ (53 + (c + b)) ≤ 2 ^ (52 + (k + b)) := pow_le_pow_iff2.2 (by omega)
      exact absurd (Nat.lt_of_le_of_lt (Nat.le_trans (Nat.le_trans f e) hge) up2) (Nat.lt_irrefl _)
    · have := q_ge m hge
      omega
    · have : 2 ^ 52 ≤ q := q_ge _ (by
        rw [← Nat.pow_add]
        rcases dn2 with h | h
        · omega
        · exact h)
      clear hX le_iff ge_iff q_le q_ge hE hq up2 dn2 hge
      omega
end Go.Proofs.YtceepaboaoffkaaDoor.Fl
