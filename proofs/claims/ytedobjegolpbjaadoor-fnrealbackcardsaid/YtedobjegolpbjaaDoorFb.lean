/- Real numbers of 64 bits: numbers, infinities, nan; their order. Helper text: no statement is claimed here. -/
import Derived.Test.YtedobjegolpbjaaDoorFa
namespace Go.Proofs.YtedobjegolpbjaaDoor.Fl
open Ieee

def nan (b : Nat) : Prop := (double.read b).isNaN = true

theorem nan_read {b : Nat} (h : nan b) : ∃ s t, double.read b = .nan s t := by
  unfold nan at h
  cases e : double.read b <;> rw [e] at h <;> simp [Datum.isNaN] at h
  exact ⟨_, _, rfl⟩

theorem word_of {b : Nat} (h : b < 2 ^ 64) : b = double.word (b / 2 ^ 63 % 2 == 1) (b % 2 ^ 63) := by
  unfold Format.word
  rw [signWeight_eq]
  split <;> rename_i hb <;> simp at hb <;> omega

/-- Every word is a number, an infinity or a nan. -/
theorem cases_wd {b : Nat} (h : b < 2 ^ 64) : (∃ s m k, Sc m k ∧ k ≤ 2045 ∧ b = wd s m k) ∨ (∃ s, b = wi s) ∨ nan b := by
  have hb := word_of h
  generalize (b / 2 ^ 63 % 2 == 1) = s at hb
  have hr : b % 2 ^ 63 < 2 ^ 63 := Nat.mod_lt _ (by omega)
  generalize b % 2 ^ 63 = r at hb hr
  subst hb
  by_cases h1 : r < 2047 * 2 ^ 52
  · left
    by_cases h2 : r < 2 ^ 52
    · exact ⟨s, r, 0, ⟨by omega, .inl rfl⟩, by omega, by unfold wd; simp⟩
    · refine ⟨s, 2 ^ 52 + r % 2 ^ 52, r / 2 ^ 52 - 1, ⟨by omega, .inr (by omega)⟩, by omega, ?_⟩
      unfold wd; congr 1; omega
  · right
    by_cases h3 : r = 2047 * 2 ^ 52
    · left; exact ⟨s, by subst h3; rfl⟩
    · right
      unfold nan Format.read
      rw [word_sign s hr, word_rung s hr, binade_eq, infRung_eq]
      have a1 : ¬ r < 2 ^ 52 := by omega
      simp only [a1, if_false, h1, h3, Datum.isNaN]

theorem wd_lt {m k : Nat} (h : Sc m k) (hk : k ≤ 2045) (s : Bool) : wd s m k < 2 ^ 64 := by
  have h1 := h.hm
  unfold wd
  exact Format.word_lt double s (by rw [signWeight_eq]; omega)
theorem wi_lt (s : Bool) : wi s < 2 ^ 64 := Format.word_lt double s double.infRung_lt

theorem not_nan_wd {m k : Nat} (h : Sc m k) (hk : k ≤ 2045) (s : Bool) : ¬ nan (wd s m k) := by
  unfold nan; rw [read_wd h hk]; simp [Datum.isNaN]
theorem not_nan_wi (s : Bool) : ¬ nan (wi s) := by
  unfold nan; rw [read_wi]; simp [Datum.isNaN]

theorem order_nan_left {a : Nat} (h : nan a) (b : Nat) : double.order a b = none := by
  obtain ⟨s, t, e⟩ := nan_read h
  unfold Format.order
  rw [e]; cases double.read b <;> rfl
theorem order_nan_right {b : Nat} (h : nan b) (a : Nat) : double.order a b = none := by
  obtain ⟨s, t, e⟩ := nan_read h
  unfold Format.order
  rw [e]; cases double.read a <;> rfl

theorem order_wi_wd {m k : Nat} (h : Sc m k) (hk : k ≤ 2045) (s t : Bool) : double.order (wi s) (wd t m k) = some (if s then .lt else .gt) := by
  unfold Format.order; rw [read_wi, read_wd h hk]; rfl
theorem order_wd_wi {m k : Nat} (h : Sc m k) (hk : k ≤ 2045) (s t : Bool) : double.order (wd t m k) (wi s) = some (if s then .gt else .lt) := by
  unfold Format.order; rw [read_wi, read_wd h hk]; rfl
theorem order_wi_wi (s t : Bool) : double.order (wi s) (wi t) = some (compare t.toNat s.toNat) := by
  unfold Format.order; rw [read_wi, read_wi]; rfl

theorem order_self {a : Nat} (h : a < 2 ^ 64) (hn : ¬ nan a) : double.order a a = some .eq := by
  rcases cases_wd h with ⟨s, m, k, hs, hk, rfl⟩ | ⟨s, rfl⟩ | hx
  · rw [order_wd hs hk hs hk]; simp
  · rw [order_wi_wi]; simp
  · exact absurd hx hn

theorem wd_inj {m k n j : Nat} (h : Sc m k) (hk : k ≤ 2045) (h' : Sc n j) (hj : j ≤ 2045) {s t : Bool} (e : wd s m k = wd t n j) : s = t ∧ m = n ∧ k = j := by
  have e1 := read_wd h hk s
  rw [e, read_wd h' hj t] at e1
  simp only [Datum.number.injEq] at e1
  refine ⟨e1.1.symm, e1.2.1.symm, ?_⟩
  have := e1.2.2; omega

/-- One value, one place. -/
theorem sc_unique {m k n j : Nat} (h : Sc m k) (h' : Sc n j) (hm : 0 < m) (e : m * 2 ^ k = n * 2 ^ j) : m = n ∧ k = j := by
  have hn : 0 < n := by
    rcases Nat.eq_zero_or_pos n with rfl | h
    · have : 0 < m * 2 ^ k := Nat.mul_pos hm (Nat.two_pow_pos k)
      omega
    · exact h
  have key : ∀ {m k n j : Nat}, Sc m k → Sc n j → m * 2 ^ k = n * 2 ^ j → ¬ k < j := by
    intro m k n j h h' e hlt
    obtain ⟨d, rfl⟩ := Nat.exists_eq_add_of_lt hlt
    have : m * 2 ^ k = n * 2 ^ (d + 1) * 2 ^ k := by rw [e]; grind
    have := Nat.eq_of_mul_eq_mul_right (Nat.two_pow_pos k) this
    have h1 := h.hm
    have h2 : 2 ^ 52 ≤ n := by have := h'.hk; omega
    have h3 : n * 2 ^ 1 ≤ n * 2 ^ (d + 1) := Nat.mul_le_mul_left _ (pow_le_pow_iff2.2 (by omega))
    omega
  have hkj : k = j := by
    have := key h h' e
    have := key h' h e.symm
    omega
  subst hkj
  exact ⟨Nat.eq_of_mul_eq_mul_right (Nat.two_pow_pos k) e, rfl⟩

theorem exists_sc (m : Nat) (h : m < 2 ^ 53) : ∀ k, ∃ m' k', Sc m' k' ∧ m' * 2 ^ k' = m * 2 ^ k ∧ k' ≤ k := by
  intro k
  induction k generalizing m with
  | zero => exact ⟨m, 0, ⟨h, .inl rfl⟩, rfl, by omega⟩
  | succ k ih =>
    by_cases hs : 2 ^ 52 ≤ m
    · exact ⟨m, k + 1, ⟨h, .inr hs⟩, rfl, by omega⟩
    · obtain ⟨m', k', h1, h2, h3⟩ := ih (2 * m) (by omega)
      refine ⟨m', k', h1, ?_, by omega⟩
      rw [h2]; grind

/-- 'x' written as '-x'. -/
theorem negFloat_word (s : Bool) {r : Nat} (h : r < 2 ^ 63) : Go.Op.negFloat .f64 (double.word s r) = double.word (!s) r := by
  unfold Go.Op.negFloat
  show double.word s r ^^^ 2 ^ 63 = double.word (!s) r
  have hbit : ∀ x, x < 2 ^ 63 → x ^^^ 2 ^ 63 = 2 ^ 63 + x := by
    intro x hx
    have e1 : 2 ^ 63 + x = 2 ^ 63 ^^^ x := by
      have := Nat.two_pow_add_eq_or_of_lt hx 1
      rw [Nat.mul_one] at this
      rw [this]
      apply Nat.eq_of_testBit_eq
      intro i
      simp only [Nat.testBit_or, Nat.testBit_xor, Nat.testBit_two_pow]
      by_cases hi : 63 = i
      · subst hi; simp [Nat.testBit_lt_two_pow hx]
      · simp [hi]
    rw [e1, Nat.xor_comm]
  cases s
  · simpa [Format.word, signWeight_eq] using hbit r h
  · have := hbit r h
    simp only [Format.word, signWeight_eq, if_true, Bool.not_true, Bool.false_eq_true, if_false]
    rw [← this, Nat.xor_assoc, Nat.xor_self, Nat.xor_zero]

theorem neg_wd {m k : Nat} (h : Sc m k) (hk : k ≤ 2045) (s : Bool) : Go.Op.negFloat .f64 (wd s m k) = wd (!s) m k :=
  negFloat_word s (by have := h.hm; omega)
theorem neg_wi (s : Bool) : Go.Op.negFloat .f64 (wi s) = wi (!s) := negFloat_word s double.infRung_lt

/-- A whole number as a real one. -/
theorem floatOfInt_sc {n : Int} {m k : Nat} (h : Sc m k) (hm : 0 < m) (e : m * 2 ^ k = n.natAbs * 2 ^ 1074) (hk : k ≤ 2045) :
    Go.floatOfInt .f64 n = wd (n < 0) m k := by
  show double.nearest (n < 0) n.natAbs 0 = _
  have : (0 : Int) = ((1074 : Nat) : Int) - (0 : Nat) - 1074 := by omega
  rw [this, nearest_sc h hm _ _ _ _ (.inr rfl) (by rw [Nat.add_zero, e])]
  unfold wd
  congr 1
  rw [infRung_eq]
  have := h.hm
  omega
theorem floatOfInt_zero : Go.floatOfInt .f64 0 = wd false 0 0 := rfl

end Go.Proofs.YtedobjegolpbjaaDoor.Fl
