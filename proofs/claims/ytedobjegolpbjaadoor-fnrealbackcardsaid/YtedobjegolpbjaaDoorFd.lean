/- Real numbers of 64 bits: what a word is asked; doubled and halved. Helper text: no statement is claimed here. -/
import Derived.Test.YtedobjegolpbjaaDoorFc
namespace Go.Proofs.YtedobjegolpbjaaDoor.Fl
open Ieee

theorem pos_val {m k : Nat} (hm : 0 < m) : 0 < m * 2 ^ k := Nat.mul_pos hm (Nat.two_pow_pos k)

/-- What a word is asked: is it nan, above the greatest, below the least, 0, below 0. -/
structure Asks (x : Nat) (n hi lo z ng : Bool) : Prop where
  n : (ord x x != some .eq) = n
  hi : (ord x 9218868437227405311 == some .gt) = hi
  lo : (ord x 18442240474082181119 == some .lt) = lo
  z : (ord x 0 == some .eq) = z
  ng : (ord x 0 == some .lt) = ng

theorem asks_nan {x : Nat} (h : nan x) : Asks x true false false false false := by
  have a := fun b => order_nan_left h b
  constructor <;> simp only [ord, Go.FloatKind.format, a] <;> rfl
theorem neq_self {x : Nat} (h : x < 2 ^ 64) (hn : ¬ nan x) : (ord x x != some .eq) = false := by
  simp only [ord, Go.FloatKind.format, order_self h hn]; rfl

theorem asks_wd {m k : Nat} (h : Sc m k) (hk : k ≤ 2045) (s : Bool) : Asks (wd s m k) false false false (decide (m = 0)) (s && decide (0 < m)) := by
  have v := max_val h hk
  have p := @pos_val m k
  have z : m = 0 → m * 2 ^ k = 0 := by rintro rfl; simp
  generalize hV : m * 2 ^ k = V at *
  constructor
  · exact neq_self (wd_lt h hk s) (not_nan_wd h hk s)
  · rw [← wMax, ord_gt h hk scMax (Nat.le_refl _), hV]
    generalize (2 ^ 53 - 1) * 2 ^ 2045 = M at *
    cases s <;> simp [sg] <;> omega
  · rw [← wMaxN, ord_lt h hk scMax (Nat.le_refl _), hV]
    generalize (2 ^ 53 - 1) * 2 ^ 2045 = M at *
    cases s <;> simp [sg] <;> omega
  · show (ord (wd s m k) (wd false 0 0) == _) = _
    rw [ord_eq h hk sc00 (by omega), hV]
    clear v
    by_cases hm : m = 0
    · have := z hm; subst hm; cases s <;> simp [sg, this]
    · have := p (by omega); cases s <;> simp [sg, hm] <;> omega
  · show (ord (wd s m k) (wd false 0 0) == _) = _
    rw [ord_lt h hk sc00 (by omega), hV]
    clear v
    by_cases hm : m = 0
    · have := z hm; subst hm; cases s <;> simp [sg, this]
    · have := p (by omega); cases s <;> simp [sg] <;> omega

theorem asks_wi (s : Bool) : Asks (wi s) false (!s) s false s := by
  constructor
  · exact neq_self (wi_lt s) (not_nan_wi s)
  · rw [← wMax]; simp only [ord, Go.FloatKind.format, order_wi_wd scMax (Nat.le_refl _)]; cases s <;> rfl
  · rw [← wMaxN]; simp only [ord, Go.FloatKind.format, order_wi_wd scMax (Nat.le_refl _)]; cases s <;> rfl
  · rw [← w0]; simp only [ord, Go.FloatKind.format, order_wi_wd sc00 (by omega : 0 ≤ 2045)]; cases s <;> rfl
  · rw [← w0]; simp only [ord, Go.FloatKind.format, order_wi_wd sc00 (by omega : 0 ≤ 2045)]; cases s <;> rfl

/-- 1 by a zero. -/
theorem one_by_zero (s : Bool) : Go.floatBits .quo .f64 4607182418800017408 (wd s 0 0) = some (wi s) := by
  cases s <;> rfl

/-- Is it below 2 to the 52; is it 2 to the 53 or more. -/
theorem ask52 {m k : Nat} (h : Sc m k) (hk : k ≤ 2045) : (ord (wd false m k) 4841369599423283200 == some .lt) = decide (k < 1074) := by
  rw [← w52, ord_lt h hk sc52 (by omega)]
  have := lt_pow (j := 1074) h (by omega)
  simp only [sg, Bool.false_eq_true, if_false, Int.ofNat_lt, this]
theorem ask53 {m k : Nat} (h : Sc m k) (hk : k ≤ 2045) : (ord (wd false m k) 4845873199050653696 == some .gt || ord (wd false m k) 4845873199050653696 == some .eq) = decide (1075 ≤ k) := by
  rw [← w53, ord_gt h hk sc53 (by omega), ord_eq h hk sc53 (by omega)]
  have := lt_pow (j := 1075) h (by omega)
  simp only [sg, Bool.false_eq_true, if_false, Int.ofNat_lt, Int.ofNat_inj]
  generalize 2 ^ 52 * 2 ^ 1075 = A at *
  generalize m * 2 ^ k = V at *
  rw [Bool.eq_iff_iff]
  simp
  omega

theorem toInt_i64 {m : Nat} (h : Sc m 1074) : Go.floatToIntVal .f64 (wd false m 1074) .i64 = some (m : Int) := by
  unfold Go.floatToIntVal
  have := toInt_wd h (by omega) false
  rw [Nat.mul_div_cancel _ (Nat.two_pow_pos 1074)] at this
  show (match (double.read (wd false m 1074)).toInt .zero with | some n => _ | none => none) = _
  rw [this]
  have h1 := h.hm
  have e1 : Go.IntKind.i64.min = -9223372036854775808 := rfl
  have e2 : Go.IntKind.i64.max = 9223372036854775807 := rfl
  simp only [sg, Bool.false_eq_true, if_false]
  rw [e1, e2, if_pos (by omega)]

/-- Doubled. -/
theorem dbl {m k : Nat} (h : Sc m k) (hm : 0 < m) (hk : k ≤ 2044) (s : Bool) :
    ∃ m' k', Sc m' k' ∧ 0 < m' ∧ k' ≤ k + 1 ∧ m' * 2 ^ k' = 2 * (m * 2 ^ k) ∧ Go.floatBits .mul .f64 (wd s m k) 4611686018427387904 = some (wd s m' k') := by
  obtain ⟨m', k', h1, h2, h3⟩ := sc_up h
  have hm' : 0 < m' := by
    rcases Nat.eq_zero_or_pos m' with rfl | hp
    · have := @pos_val m k hm; omega
    · exact hp
  refine ⟨m', k', h1, hm', h3, h2, ?_⟩
  show double.mul (wd s m k) two = _
  rw [mul_two h (by omega) h1 hm h2]
  have := h1.hm
  have : min (k' * 2 ^ 52 + m') double.infRung = k' * 2 ^ 52 + m' := by rw [infRung_eq]; omega
  rw [this]; rfl

/-- Halved. -/
theorem hlv {m k : Nat} (h : Sc m (k + 1)) (hk : k + 1 ≤ 2045) (s : Bool) :
    Sc m k ∧ Go.floatBits .quo .f64 (wd s m (k + 1)) 4611686018427387904 = some (wd s m k) := by
  have h2 : 2 ^ 52 ≤ m := by have := h.hk; omega
  have h1 : Sc m k := ⟨h.hm, .inr h2⟩
  refine ⟨h1, ?_⟩
  show double.div (wd s m (k + 1)) two = _
  rw [div_two h hk h1 (by omega) (by grind)]
  have := h1.hm
  have : min (k * 2 ^ 52 + m) double.infRung = k * 2 ^ 52 + m := by rw [infRung_eq]; omega
  rw [this]; rfl

theorem hlv0 {m : Nat} (h : Sc (2 * m) 0) (hm : 0 < m) (s : Bool) :
    Sc m 0 ∧ Go.floatBits .quo .f64 (wd s (2 * m) 0) 4611686018427387904 = some (wd s m 0) := by
  have := h.hm
  have h1 : Sc m 0 := ⟨by omega, .inl rfl⟩
  refine ⟨h1, ?_⟩
  show double.div (wd s (2 * m) 0) two = _
  rw [div_two h (by omega) h1 (by omega) (by grind)]
  have : min (0 * 2 ^ 52 + m) double.infRung = 0 * 2 ^ 52 + m := by rw [infRung_eq]; omega
  rw [this]; rfl

theorem nearest_word (s : Bool) (m : Nat) (e : Int) : ∃ r, r ≤ double.infRung ∧ double.nearest s m e = double.word s r := by
  unfold Format.nearest
  split
  · exact ⟨0, Nat.zero_le _, rfl⟩
  · exact ⟨_, Nat.min_le_right .., rfl⟩
theorem fin {d : Datum} (hd : d.isNaN = false) : ¬ nan (double.write d) := by
  cases d with
  | nan s t => simp [Datum.isNaN] at hd
  | infinity s => exact not_nan_wi s
  | number s m e =>
    unfold nan
    obtain ⟨r, hr, e⟩ := nearest_word s m e
    show ¬ (double.read (double.nearest _ _ _)).isNaN = true
    rw [e]
    rw [infRung_eq] at hr
    unfold Format.read
    rw [word_sign s (by omega), word_rung s (by omega), binade_eq, infRung_eq]
    by_cases h1 : r < 2 ^ 52
    · simp only [h1, if_true, Datum.isNaN]; simp
    · by_cases h2 : r < 2047 * 2 ^ 52
      · simp only [h1, if_false, h2, if_true, Datum.isNaN]; simp
      · have : r = 2047 * 2 ^ 52 := by omega
        subst this
        simp [Datum.isNaN]
/-- What is doubled or halved stays no nan. -/
theorem mul_keeps {x : Nat} (h : x < 2 ^ 64) (hn : ¬ nan x) : ∃ r, Go.floatBits .mul .f64 x 4611686018427387904 = some r ∧ r < 2 ^ 64 ∧ ¬ nan r := by
  show ∃ r, double.mul x two = some r ∧ _
  rcases cases_wd h with ⟨s, m, k, hs, hk, rfl⟩ | ⟨s, rfl⟩ | hx
  · unfold Format.mul
    rw [read_wd hs hk, read_two]
    exact ⟨_, rfl, double.write_lt _, fin rfl⟩
  · unfold Format.mul
    rw [read_wi, read_two]
    exact ⟨_, rfl, double.write_lt _, fin rfl⟩
  · exact absurd hx hn
theorem div_keeps {x : Nat} (h : x < 2 ^ 64) (hn : ¬ nan x) : ∃ r, Go.floatBits .quo .f64 x 4611686018427387904 = some r ∧ r < 2 ^ 64 ∧ ¬ nan r := by
  show ∃ r, double.div x two = some r ∧ _
  rcases cases_wd h with ⟨s, m, k, hs, hk, rfl⟩ | ⟨s, rfl⟩ | hx
  · unfold Format.div
    rw [read_wd hs hk, read_two]
    have : ¬ (2 ^ 52 = 0) := by omega
    simp only [Datum.quotient, this, if_false]
    exact ⟨_, rfl, double.write_lt _, fin rfl⟩
  · unfold Format.div
    rw [read_wi, read_two]
    exact ⟨_, rfl, double.write_lt _, fin rfl⟩
  · exact absurd hx hn
theorem ofInt_keeps (n : Int) : Go.floatOfInt .f64 n < 2 ^ 64 ∧ ¬ nan (Go.floatOfInt .f64 n) :=
  ⟨double.write_lt (.number (n < 0) n.natAbs 0), fin (d := .number (n < 0) n.natAbs 0) rfl⟩
end Go.Proofs.YtedobjegolpbjaaDoor.Fl
