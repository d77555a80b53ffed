/- Real numbers of 64 bits: cut to whole ones; the odd part. Helper text: no statement is claimed here. -/
import Derived.Test.YtjacgamgjjpllaaGreatDoorP01
import Derived.WalkLawsBesides
namespace Go.Proofs.YtjacgamgjjpllaaGreatDoor.Fl
open Ieee

theorem cut_zero (s : Bool) (n d : Nat) : Toward.zero.cut s n d = n / 2 ^ d := by
  unfold Toward.cut
  simp only [Nat.shiftLeft_eq, Nat.one_mul, Bool.toNat_false, Nat.add_zero]
  by_cases h : d ≤ n.log2 + 2
  · rw [Nat.min_eq_left h]
  · rw [Nat.min_eq_right (by omega)]
    have l := @Nat.lt_log2_self n
    have a : n < 2 ^ (n.log2 + 2) := Nat.lt_trans l (pow_lt_pow_iff2.2 (by omega))
    have b : n < 2 ^ d := Nat.lt_trans a (pow_lt_pow_iff2.2 (by omega))
    rw [Nat.div_eq_of_lt a, Nat.div_eq_of_lt b]

theorem scale_div (m k : Nat) : m * 2 ^ (k - 1074) / 2 ^ (1074 - k) = m * 2 ^ k / 2 ^ 1074 := by
  by_cases h : 1074 ≤ k
  · obtain ⟨c, rfl⟩ := Nat.exists_eq_add_of_le h
    have e1 : 1074 + c - 1074 = c := by omega
    have e2 : 1074 - (1074 + c) = 0 := by omega
    rw [e1, e2, Nat.pow_zero, Nat.div_one, Nat.add_comm, Nat.pow_add, ← Nat.mul_assoc, Nat.mul_div_cancel _ (Nat.two_pow_pos 1074)]
  · obtain ⟨c, hc⟩ := Nat.exists_eq_add_of_le (show k ≤ 1074 by omega)
    have e1 : k - 1074 = 0 := by omega
    have e2 : 1074 - k = c := by omega
    rw [e1, e2, Nat.pow_zero, Nat.mul_one, hc, Nat.add_comm, Nat.pow_add, Nat.mul_div_mul_right _ _ (Nat.two_pow_pos k)]

/-- A real number, cut towards 0. -/
theorem toInt_wd {m k : Nat} (h : Sc m k) (hk : k ≤ 2045) (s : Bool) : (double.read (wd s m k)).toInt .zero = some (sg s (m * 2 ^ k / 2 ^ 1074)) := by
  rw [read_wd h hk]
  simp only [Datum.toInt, Datum.integral, cut_zero, signed_eq, Nat.pow_zero, Nat.mul_one, Nat.shiftLeft_eq]
  have e1 : ((k : Int) - 1074).toNat = k - 1074 := by omega
  have e2 : (-((k : Int) - 1074)).toNat = 1074 - k := by omega
  rw [e1, e2, scale_div]

/-- The odd part, and how often 2 divides. -/
def oddpF : Nat → Nat → Nat × Nat
  | 0, v => (v, 0)
  | n + 1, v => if v % 2 = 0 ∧ 0 < v then ((oddpF n (v / 2)).1, (oddpF n (v / 2)).2 + 1) else (v, 0)
def oddp (v : Nat) : Nat × Nat := oddpF v v
theorem oddpF_zero (n : Nat) : oddpF n 0 = (0, 0) := by
  cases n <;> simp [oddpF]
theorem oddpF_same : ∀ n k v, v ≤ n → v ≤ k → oddpF n v = oddpF k v
  | 0, k, v, h, _ => by
    obtain rfl : v = 0 := by omega
    rw [oddpF_zero, oddpF_zero]
  | n + 1, 0, v, _, h => by
    obtain rfl : v = 0 := by omega
    rw [oddpF_zero, oddpF_zero]
  | n + 1, k + 1, v, h1, h2 => by
    by_cases h : v % 2 = 0 ∧ 0 < v
    · rw [oddpF, oddpF, if_pos h, if_pos h, oddpF_same n k (v / 2) (by omega) (by omega)]
    · rw [oddpF, oddpF, if_neg h, if_neg h]
theorem oddp_odd {v : Nat} (h : v % 2 = 1) : oddp v = (v, 0) := by
  obtain ⟨u, rfl⟩ : ∃ u, v = u + 1 := ⟨v - 1, by omega⟩
  rw [oddp, oddpF, if_neg (by omega)]
theorem oddp_even {v : Nat} (h : v % 2 = 0) (h0 : 0 < v) : oddp v = ((oddp (v / 2)).1, (oddp (v / 2)).2 + 1) := by
  obtain ⟨u, rfl⟩ : ∃ u, v = u + 1 := ⟨v - 1, by omega⟩
  rw [oddp, oddpF, if_pos ⟨h, h0⟩, oddpF_same u ((u + 1) / 2) ((u + 1) / 2) (by omega) (Nat.le_refl _)]
  rfl
theorem oddp_two {v : Nat} (h0 : 0 < v) : oddp (2 * v) = ((oddp v).1, (oddp v).2 + 1) := by
  rw [oddp_even (by omega) (by omega)]
  have : 2 * v / 2 = v := by omega
  rw [this]
theorem oddp_pow {v : Nat} (h0 : 0 < v) : ∀ j, oddp (v * 2 ^ j) = ((oddp v).1, (oddp v).2 + j) := by
  intro j
  induction j with
  | zero => simp
  | succ j ih =>
    have : v * 2 ^ (j + 1) = 2 * (v * 2 ^ j) := by grind
    rw [this, oddp_two (Nat.mul_pos h0 (Nat.two_pow_pos j)), ih]
    rfl
theorem oddp_val (v : Nat) : 0 < v → (oddp v).1 * 2 ^ (oddp v).2 = v ∧ (oddp v).1 % 2 = 1 := by
  induction v using Nat.strongRecOn with
  | _ v ih =>
    intro h0
    by_cases h : v % 2 = 0
    · rw [oddp_even h h0]
      obtain ⟨a, b⟩ := ih (v / 2) (by omega) (by omega)
      refine ⟨?_, b⟩
      show (oddp (v / 2)).1 * 2 ^ ((oddp (v / 2)).2 + 1) = v
      rw [Nat.pow_succ, ← Nat.mul_assoc, a]; omega
    · rw [oddp_odd (by omega)]; simp; omega
theorem oddp_le (v : Nat) (h0 : 0 < v) : (oddp v).1 ≤ v := by
  have := (oddp_val v h0).1
  have h := Nat.le_mul_of_pos_right (oddp v).1 (Nat.two_pow_pos (oddp v).2)
  omega
theorem oddp_of {n t : Nat} (h : n % 2 = 1) : oddp (n * 2 ^ t) = (n, t) := by
  rw [oddp_pow (by omega), oddp_odd h]; simp

theorem lt_pow {m k j : Nat} (h : Sc m k) (hj : 1 ≤ j) : m * 2 ^ k < 2 ^ 52 * 2 ^ j ↔ k < j := by
  constructor
  · intro hl
    by_cases hk : k < j
    · exact hk
    · have h2 : 2 ^ 52 ≤ m := by have := h.hk; omega
      have h3 : 2 ^ 52 * 2 ^ j ≤ m * 2 ^ k := Nat.mul_le_mul h2 (pow_le_pow_iff2.2 (by omega))
      omega
  · intro hk
    obtain ⟨d, rfl⟩ := Nat.exists_eq_add_of_lt hk
    have h1 : m * 2 ^ k < 2 ^ 53 * 2 ^ k := Nat.mul_lt_mul_of_pos_right h.hm (Nat.two_pow_pos k)
    have h2 : 2 ^ 53 * 2 ^ k ≤ 2 ^ 53 * 2 ^ (k + d) := Nat.mul_le_mul_left _ (pow_le_pow_iff2.2 (by omega))
    have h3 : 2 ^ 52 * 2 ^ (k + d + 1) = 2 ^ 53 * 2 ^ (k + d) := by grind
    omega

/-! Comparisons as the walk meets them. -/
theorem cmp_lt (x y : Int) : (some (compare x y) == some Ordering.lt) = decide (x < y) := by
  simp [compare, compareOfLessAndEq]; split
  · rename_i h; simp; omega
  · split <;> simp <;> omega
theorem cmp_eq (x y : Int) : (some (compare x y) == some Ordering.eq) = decide (x = y) := by
  simp [compare, compareOfLessAndEq]; split
  · rename_i h; simp; omega
  · split <;> simp_all
theorem cmp_gt (x y : Int) : (some (compare x y) == some Ordering.gt) = decide (y < x) := by
  simp [compare, compareOfLessAndEq]; split
  · rename_i h; simp; omega
  · split
    · rename_i h; subst h; simp
    · simp; omega

abbrev ord (a b : Nat) : Option Ordering := Go.FloatKind.f64.format.order a b

section
theorem ord_lt {m k n j : Nat} (h : Sc m k) (hk : k ≤ 2045) (h' : Sc n j) (hj : j ≤ 2045) (s t : Bool) : (ord (wd s m k) (wd t n j) == some .lt) = decide (sg s (m * 2 ^ k) < sg t (n * 2 ^ j)) := by
  rw [← cmp_lt, ← order_wd h hk h' hj]; rfl
theorem ord_gt {m k n j : Nat} (h : Sc m k) (hk : k ≤ 2045) (h' : Sc n j) (hj : j ≤ 2045) (s t : Bool) : (ord (wd s m k) (wd t n j) == some .gt) = decide (sg t (n * 2 ^ j) < sg s (m * 2 ^ k)) := by
  rw [← cmp_gt, ← order_wd h hk h' hj]; rfl
theorem ord_eq {m k n j : Nat} (h : Sc m k) (hk : k ≤ 2045) (h' : Sc n j) (hj : j ≤ 2045) (s t : Bool) : (ord (wd s m k) (wd t n j) == some .eq) = decide (sg s (m * 2 ^ k) = sg t (n * 2 ^ j)) := by
  rw [← cmp_eq, ← order_wd h hk h' hj]; rfl
end

theorem sc00 : Sc 0 0 := ⟨by omega, .inl rfl⟩
theorem scMax : Sc (2 ^ 53 - 1) 2045 := ⟨by omega, .inr (by omega)⟩
theorem sc52 : Sc (2 ^ 52) 1074 := ⟨by omega, .inr (by omega)⟩
theorem sc53 : Sc (2 ^ 52) 1075 := ⟨by omega, .inr (by omega)⟩
theorem w0 : wd false 0 0 = 0 := rfl
theorem wMax : wd false (2 ^ 53 - 1) 2045 = 9218868437227405311 := rfl
theorem wMaxN : wd true (2 ^ 53 - 1) 2045 = 18442240474082181119 := rfl
theorem w52 : wd false (2 ^ 52) 1074 = 4841369599423283200 := rfl
theorem w53 : wd false (2 ^ 52) 1075 = 4845873199050653696 := rfl

theorem max_val {m k j : Nat} (h : Sc m k) (hk : k ≤ j) : m * 2 ^ k ≤ (2 ^ 53 - 1) * 2 ^ j :=
  Nat.mul_le_mul (by have := h.hm; omega) (pow_le_pow_iff2.2 hk)
end Go.Proofs.YtjacgamgjjpllaaGreatDoor.Fl

/- Real numbers of 64 bits: what a word is asked; doubled and halved. Helper text: no statement is claimed here. -/
namespace Go.Proofs.YtjacgamgjjpllaaGreatDoor.Fl
open Ieee

theorem pos_val {m k : Nat} (hm : 0 < m) : 0 < m * 2 ^ k := Nat.mul_pos hm (Nat.two_pow_pos k)

/-- What a word is asked: is it nan, above the greatest, below the least, 0, below 0. -/
structure Asks (x : Nat) (n hi lo z ng : Bool) : Prop where
  n : (ord x x != some .eq) = n
  hi : (ord x 9218868437227405311 == some .gt) = hi
  lo : (ord x 18442240474082181119 == some .lt) = lo
  z : (ord x 0 == some .eq) = z
  ng : (ord x 0 == some .lt) = ng

theorem asks_nan {x : Nat} (h : nan x) : Asks x true false false false false := by
  have a := fun b => order_nan_left h b
  constructor <;> simp only [ord, Go.FloatKind.format, a] <;> rfl
theorem neq_self {x : Nat} (h : x < 2 ^ 64) (hn : ¬ nan x) : (ord x x != some .eq) = false := by
  simp only [ord, Go.FloatKind.format, order_self h hn]; rfl

theorem asks_wd {m k : Nat} (h : Sc m k) (hk : k ≤ 2045) (s : Bool) : Asks (wd s m k) false false false (decide (m = 0)) (s && decide (0 < m)) := by
  have v := max_val h hk
  have p := @pos_val m k
  have z : m = 0 → m * 2 ^ k = 0 := by rintro rfl; simp
  generalize hV : m * 2 ^ k = V at *
  constructor
  · exact neq_self (wd_lt h hk s) (not_nan_wd h hk s)
  · rw [← wMax, ord_gt h hk scMax (Nat.le_refl _), hV]
    generalize (2 ^ 53 - 1) * 2 ^ 2045 = M at *
    cases s <;> simp [sg] <;> omega
  · rw [← wMaxN, ord_lt h hk scMax (Nat.le_refl _), hV]
    generalize (2 ^ 53 - 1) * 2 ^ 2045 = M at *
    cases s <;> simp [sg] <;> omega
  · show (ord (wd s m k) (wd false 0 0) == _) = _
    rw [ord_eq h hk sc00 (by omega), hV]
    clear v
    by_cases hm : m = 0
    · have := z hm; subst hm; cases s <;> simp [sg, this]
    · have := p (by omega); cases s <;> simp [sg, hm] <;> omega
  · show (ord (wd s m k) (wd false 0 0) == _) = _
    rw [ord_lt h hk sc00 (by omega), hV]
    clear v
    by_cases hm : m = 0
    · have := z hm; subst hm; cases s <;> simp [sg, this]
    · have := p (by omega); cases s <;> simp [sg] <;> omega

theorem asks_wi (s : Bool) : Asks (wi s) false (!s) s false s := by
  constructor
  · exact neq_self (wi_lt s) (not_nan_wi s)
  · rw [← wMax]; simp only [ord, Go.FloatKind.format, order_wi_wd scMax (Nat.le_refl _)]; cases s <;> rfl
  · rw [← wMaxN]; simp only [ord, Go.FloatKind.format, order_wi_wd scMax (Nat.le_refl _)]; cases s <;> rfl
  · rw [← w0]; simp only [ord, Go.FloatKind.format, order_wi_wd sc00 (by omega : 0 ≤ 2045)]; cases s <;> rfl
  · rw [← w0]; simp only [ord, Go.FloatKind.format, order_wi_wd sc00 (by omega : 0 ≤ 2045)]; cases s <;> rfl

/-- 1 by a zero. -/
theorem one_by_zero (s : Bool) : Go.floatBits .quo .f64 4607182418800017408 (wd s 0 0) = some (wi s) := by
  cases s <;> rfl

/-- Is it below 2 to the 52; is it 2 to the 53 or more. -/
theorem ask52 {m k : Nat} (h : Sc m k) (hk : k ≤ 2045) : (ord (wd false m k) 4841369599423283200 == some .lt) = decide (k < 1074) := by
  rw [← w52, ord_lt h hk sc52 (by omega)]
  have := lt_pow (j := 1074) h (by omega)
  simp only [sg, Bool.false_eq_true, if_false, Int.ofNat_lt, this]
theorem ask53 {m k : Nat} (h : Sc m k) (hk : k ≤ 2045) : (ord (wd false m k) 4845873199050653696 == some .gt || ord (wd false m k) 4845873199050653696 == some .eq) = decide (1075 ≤ k) := by
  rw [← w53, ord_gt h hk sc53 (by omega), ord_eq h hk sc53 (by omega)]
  have := lt_pow (j := 1075) h (by omega)
  simp only [sg, Bool.false_eq_true, if_false, Int.ofNat_lt, Int.ofNat_inj]
  generalize 2 ^ 52 * 2 ^ 1075 = A at *
  generalize m * 2 ^ k = V at *
  rw [Bool.eq_iff_iff]
  simp
  omega

theorem toInt_i64 {m : Nat} (h : Sc m 1074) : Go.floatToIntVal .f64 (wd false m 1074) .i64 = some (m : Int) := by
  unfold Go.floatToIntVal
  have := toInt_wd h (by omega) false
  rw [Nat.mul_div_cancel _ (Nat.two_pow_pos 1074)] at this
  show (match (double.read (wd false m 1074)).toInt .zero with | some n => _ | none => none) = _
  rw [this]
  have h1 := h.hm
  have e1 : Go.IntKind.i64.min = -9223372036854775808 := rfl
  have e2 : Go.IntKind.i64.max = 9223372036854775807 := rfl
  simp only [sg, Bool.false_eq_true, if_false]
  rw [e1, e2, if_pos (by omega)]

/-- Doubled. -/
theorem dbl {m k : Nat} (h : Sc m k) (hm : 0 < m) (hk : k ≤ 2044) (s : Bool) :
    ∃ m' k', Sc m' k' ∧ 0 < m' ∧ k' ≤ k + 1 ∧ m' * 2 ^ k' = 2 * (m * 2 ^ k) ∧ Go.floatBits .mul .f64 (wd s m k) 4611686018427387904 = some (wd s m' k') := by
  obtain ⟨m', k', h1, h2, h3⟩ := sc_up h
  have hm' : 0 < m' := by
    rcases Nat.eq_zero_or_pos m' with rfl | hp
    · have := @pos_val m k hm; omega
    · exact hp
  refine ⟨m', k', h1, hm', h3, h2, ?_⟩
  show double.mul (wd s m k) two = _
  rw [mul_two h (by omega) h1 hm h2]
  have := h1.hm
  have : min (k' * 2 ^ 52 + m') double.infRung = k' * 2 ^ 52 + m' := by rw [infRung_eq]; omega
  rw [this]; rfl

/-- Halved. -/
theorem hlv {m k : Nat} (h : Sc m (k + 1)) (hk : k + 1 ≤ 2045) (s : Bool) :
    Sc m k ∧ Go.floatBits .quo .f64 (wd s m (k + 1)) 4611686018427387904 = some (wd s m k) := by
  have h2 : 2 ^ 52 ≤ m := by have := h.hk; omega
  have h1 : Sc m k := ⟨h.hm, .inr h2⟩
  refine ⟨h1, ?_⟩
  show double.div (wd s m (k + 1)) two = _
  rw [div_two h hk h1 (by omega) (by grind)]
  have := h1.hm
  have : min (k * 2 ^ 52 + m) double.infRung = k * 2 ^ 52 + m := by rw [infRung_eq]; omega
  rw [this]; rfl

theorem hlv0 {m : Nat} (h : Sc (2 * m) 0) (hm : 0 < m) (s : Bool) :
    Sc m 0 ∧ Go.floatBits .quo .f64 (wd s (2 * m) 0) 4611686018427387904 = some (wd s m 0) := by
  have := h.hm
  have h1 : Sc m 0 := ⟨by omega, .inl rfl⟩
  refine ⟨h1, ?_⟩
  show double.div (wd s (2 * m) 0) two = _
  rw [div_two h (by omega) h1 (by omega) (by grind)]
  have : min (0 * 2 ^ 52 + m) double.infRung = 0 * 2 ^ 52 + m := by rw [infRung_eq]; omega
  rw [this]; rfl

theorem nearest_word (s : Bool) (m : Nat) (e : Int) : ∃ r, r ≤ double.infRung ∧ double.nearest s m e = double.word s r := by
  unfold Format.nearest
  split
  · exact ⟨0, Nat.zero_le _, rfl⟩
  · exact ⟨_, Nat.min_le_right .., rfl⟩
theorem fin {d : Datum} (hd : d.isNaN = false) : ¬ nan (double.write d) := by
  cases d with
  | nan s t => simp [Datum.isNaN] at hd
  | infinity s => exact not_nan_wi s
  | number s m e =>
    unfold nan
    obtain ⟨r, hr, e⟩ := nearest_word s m e
    show ¬ (double.read (double.nearest _ _ _)).isNaN = true
    rw [e]
    rw [infRung_eq] at hr
    unfold Format.read
    rw [word_sign s (by omega), word_rung s (by omega), binade_eq, infRung_eq]
    by_cases h1 : r < 2 ^ 52
    · simp only [h1, if_true, Datum.isNaN]; simp
    · by_cases h2 : r < 2047 * 2 ^ 52
      · simp only [h1, if_false, h2, if_true, Datum.isNaN]; simp
      · have : r = 2047 * 2 ^ 52 := by omega
        subst this
        simp [Datum.isNaN]
/-- What is doubled or halved stays no nan. -/
theorem mul_keeps {x : Nat} (h : x < 2 ^ 64) (hn : ¬ nan x) : ∃ r, Go.floatBits .mul .f64 x 4611686018427387904 = some r ∧ r < 2 ^ 64 ∧ ¬ nan r := by
  show ∃ r, double.mul x two = some r ∧ _
  rcases cases_wd h with ⟨s, m, k, hs, hk, rfl⟩ | ⟨s, rfl⟩ | hx
  · unfold Format.mul
    rw [read_wd hs hk, read_two]
    exact ⟨_, rfl, double.write_lt _, fin rfl⟩
  · unfold Format.mul
    rw [read_wi, read_two]
    exact ⟨_, rfl, double.write_lt _, fin rfl⟩
  · exact absurd hx hn
theorem div_keeps {x : Nat} (h : x < 2 ^ 64) (hn : ¬ nan x) : ∃ r, Go.floatBits .quo .f64 x 4611686018427387904 = some r ∧ r < 2 ^ 64 ∧ ¬ nan r := by
  show ∃ r, double.div x two = some r ∧ _
  rcases cases_wd h with ⟨s, m, k, hs, hk, rfl⟩ | ⟨s, rfl⟩ | hx
  · unfold Format.div
    rw [read_wd hs hk, read_two]
    have : ¬ (2 ^ 52 = 0) := by omega
    simp only [Datum.quotient, this, if_false]
    exact ⟨_, rfl, double.write_lt _, fin rfl⟩
  · unfold Format.div
    rw [read_wi, read_two]
    exact ⟨_, rfl, double.write_lt _, fin rfl⟩
  · exact absurd hx hn
theorem ofInt_keeps (n : Int) : Go.floatOfInt .f64 n < 2 ^ 64 ∧ ¬ nan (Go.floatOfInt .f64 n) :=
  ⟨double.write_lt (.number (n < 0) n.natAbs 0), fin (d := .number (n < 0) n.natAbs 0) rfl⟩
end Go.Proofs.YtjacgamgjjpllaaGreatDoor.Fl

/- Real numbers of 64 bits: whole numbers and their quotients. Helper text: no statement is claimed here. -/
namespace Go.Proofs.YtjacgamgjjpllaaGreatDoor.Fl
open Ieee
theorem ofInt_z {n : Int} (h : n.natAbs < 2 ^ 53) (z : Nat) (hz : z = 1074) : ∃ m k, Sc m k ∧ k ≤ z ∧ Go.floatOfInt .f64 n = wd (n < 0) m k ∧ m * 2 ^ k = n.natAbs * 2 ^ z ∧ (n = 0 ↔ m = 0) := by
  by_cases h0 : n = 0
  · subst h0
    exact ⟨0, 0, sc00, Nat.zero_le _, rfl, by simp, by simp⟩
  · obtain ⟨m, k, hs, e, hk⟩ := exists_sc n.natAbs h z
    have hm : 0 < m := by
      rcases Nat.eq_zero_or_pos m with rfl | hp
      · exfalso
        rw [Nat.zero_mul] at e
        have : 0 < n.natAbs * 2 ^ z := pos_val (by omega)
        omega
      · exact hp
    refine ⟨m, k, hs, hk, ?_, e, ⟨fun h => absurd h h0, fun h => by omega⟩⟩
    subst hz
    exact floatOfInt_sc hs hm e (by omega)
theorem ofInt_wd {n : Int} (h : n.natAbs < 2 ^ 53) : ∃ m k, Sc m k ∧ k ≤ 1074 ∧ Go.floatOfInt .f64 n = wd (n < 0) m k ∧ m * 2 ^ k = n.natAbs * 2 ^ 1074 ∧ (n = 0 ↔ m = 0) := ofInt_z h 1074 rfl
theorem quo_some {m k n j : Nat} (h : Sc m k) (hk : k ≤ 2045) (h' : Sc n j) (hj : j ≤ 2045) (s t : Bool) (hn : 0 < n) : ∃ r, Go.floatBits .quo .f64 (wd s m k) (wd t n j) = some r ∧ r < 2 ^ 64 ∧ ¬ nan r := by
  show ∃ r, double.div (wd s m k) (wd t n j) = some r ∧ _
  unfold Format.div
  rw [read_wd h hk, read_wd h' hj]
  have : ¬ n = 0 := by omega
  simp only [Datum.quotient, this, if_false]
  exact ⟨_, rfl, double.write_lt _, fin rfl⟩
theorem quo_ints {a b : Int} (h : a.natAbs < 2 ^ 53) (h' : b.natAbs < 2 ^ 53) (hb : b ≠ 0) : ∃ r, Go.floatBits .quo .f64 (Go.floatOfInt .f64 a) (Go.floatOfInt .f64 b) = some r ∧ r < 2 ^ 64 ∧ ¬ nan r := by
  obtain ⟨m, k, h1, h2, h3, h4, h5⟩ := ofInt_wd h
  obtain ⟨n, j, g1, g2, g3, g4, g5⟩ := ofInt_wd h'
  rw [h3, g3]
  exact quo_some h1 (by omega) g1 (by omega) _ _ (by
    rcases Nat.eq_zero_or_pos n with h | h
    · exact absurd (g5.2 h) hb
    · exact h)
end Go.Proofs.YtjacgamgjjpllaaGreatDoor.Fl

/- The text of a real number: what it is. Helper text: no statement is claimed here. -/
namespace Go.Proofs.YtjacgamgjjpllaaGreatDoor
open Go.ChangeShapes Go.WideShapes Go.ChangeAt Go.RowKit Fl

theorem run_someN {op : BinOp} {x y r : Nat} (h : floatBits op .f64 x y = some r) (t : TypeId) (w : World) : (binOp op t (.float .f64 x) (.float .f64 y)).run Tryz.prog w = .ok (.float .f64 r) w := run_float_arith w op t .f64 x y r h
theorem run_cutN {x : Nat} {n : Int} (h : floatToIntVal .f64 x .i64 = some n) (dst : TypeId) (hd : Tryz.prog.underlying dst = some (.int .i64)) (w : World) : (convert 34 dst (.float .f64 x)).run Tryz.prog w = .ok (.int .i64 n) w :=
  run_convert_float_int w 34 dst .f64 .i64 x n (by rw [Tryz.underlying34]; rfl) hd h
/-- The odd part of a number above 0, and the power of 2. -/
def oN (m k : Nat) : Nat := (oddp (m * 2 ^ k)).1
def oE (m k : Nat) : Int := ((oddp (m * 2 ^ k)).2 : Int) - 1074
theorem oN_lt {m k : Nat} (h : Sc m k) (hm : 0 < m) : 0 < oN m k ∧ oN m k < 2 ^ 53 := by
  unfold oN
  rw [oddp_pow hm]
  have a := oddp_val m hm
  have b := oddp_le m hm
  have c := h.hm
  show 0 < (oddp m).1 ∧ (oddp m).1 < 2 ^ 53
  omega
theorem odd_le {m : Nat} (h0 : 0 < m) (h : m < 2 ^ 53) : (oddp m).2 ≤ 53 := by
  have a := (oddp_val m h0).1
  have b := (oddp_val m h0).2
  have c : 2 ^ (oddp m).2 ≤ m := by
    have : 1 * 2 ^ (oddp m).2 ≤ (oddp m).1 * 2 ^ (oddp m).2 := Nat.mul_le_mul_right _ (by omega)
    omega
  have := pow_lt_pow_iff2.1 (Nat.lt_of_le_of_lt c h)
  omega
theorem oE_in {m k : Nat} (h : Sc m k) (hk : k ≤ 2045) (hm : 0 < m) : -1074 ≤ oE m k ∧ oE m k ≤ 1100 := by
  unfold oE
  rw [oddp_pow hm]
  have := odd_le hm h.hm
  show -1074 ≤ (((oddp m).2 + k : Nat) : Int) - 1074 ∧ (((oddp m).2 + k : Nat) : Int) - 1074 ≤ 1100
  omega
theorem o_two {m k m' k' : Nat} (hm : 0 < m) (e : m' * 2 ^ k' = 2 * (m * 2 ^ k)) : oN m' k' = oN m k ∧ oE m' k' = oE m k + 1 := by
  unfold oN oE
  rw [e, oddp_two (pos_val hm)]
  refine ⟨rfl, ?_⟩
  show (((oddp (m * 2 ^ k)).2 + 1 : Nat) : Int) - 1074 = _
  omega
theorem o_half {m k : Nat} (hm : 0 < m) : oN m (k + 1) = oN m k ∧ oE m (k + 1) = oE m k + 1 := o_two hm (by rw [Nat.pow_succ]; rw [← Nat.mul_assoc, Nat.mul_comm])
theorem o_gen {m : Nat} (hm : 0 < m) (k : Nat) : oN m k = (oddp m).1 ∧ oE m k = ((oddp m).2 : Int) + k - 1074 := by
  unfold oN oE
  rw [oddp_pow hm k]
  refine ⟨rfl, ?_⟩
  show (((oddp m).2 + k : Nat) : Int) - 1074 = _
  omega
theorem o_done {m k : Nat} (hm : 0 < m) (hk : k = 1074) : oN m k = (oddp m).1 ∧ oE m k = (oddp m).2 := by
  have := o_gen hm k
  refine ⟨this.1, ?_⟩
  have h := this.2
  rw [hk] at h ⊢
  omega

/-- Where the loops stand: x and e are still the number. -/
def Ap (m k : Nat) (x e : Value) (m1 k1 : Nat) (z : Int) : Prop :=
  Sc m1 k1 ∧ 0 < m1 ∧ k1 ≤ 2045 ∧ x = .float .f64 (wd false m1 k1) ∧ e = .int .i64 z ∧ oN m1 k1 = oN m k ∧ oE m1 k1 + z = oE m k
theorem Ap.bd {m k m1 k1 : Nat} {x e : Value} {z : Int} (h : Ap m k x e m1 k1 z) (hs : Sc m k) (hk : k ≤ 2045) (hm : 0 < m) : -2174 ≤ z ∧ z ≤ 2174 := by
  have a := oE_in hs hk hm
  have b := oE_in h.1 h.2.2.1 h.2.1
  have c := h.2.2.2.2.2.2
  omega
theorem Ap.dbl {m k m1 k1 : Nat} {x e : Value} {z : Int} (h : Ap m k x e m1 k1 z) (hk : k1 < 1074) :
    ∃ r, floatBits .mul .f64 (wd false m1 k1) 4611686018427387904 = some r ∧ ∃ m2 k2, Ap m k (.float .f64 r) (.int .i64 (z - 1)) m2 k2 (z - 1) := by
  obtain ⟨h1, h2, h3, h4, h5, h6, h7⟩ := h
  obtain ⟨m2, k2, g1, g2, g3, g4, g5⟩ := Fl.dbl h1 h2 (by omega) false
  have o := o_two h2 g4
  exact ⟨_, g5, m2, k2, g1, g2, by omega, rfl, rfl, o.1.trans h6, by omega⟩
theorem Ap.dbl2 {m k m1 k1 : Nat} {x e : Value} {z : Int} (h : Ap m k x e m1 k1 z) (hk : k1 < 1074) :
    ∃ r, floatBits .mul .f64 (wd false m1 k1) 4611686018427387904 = some r ∧ ∃ m2 k2, Ap m k (.float .f64 r) (.int .i64 (z - 1)) m2 k2 (z - 1) ∧ k2 ≤ 1074 := by
  obtain ⟨h1, h2, h3, h4, h5, h6, h7⟩ := h
  obtain ⟨m2, k2, g1, g2, g3, g4, g5⟩ := Fl.dbl h1 h2 (by omega) false
  have o := o_two h2 g4
  exact ⟨_, g5, m2, k2, ⟨g1, g2, by omega, rfl, rfl, o.1.trans h6, by omega⟩, by omega⟩
theorem Ap.hlv {m k m1 k1 : Nat} {x e : Value} {z : Int} (h : Ap m k x e m1 (k1 + 1) z) :
    floatBits .quo .f64 (wd false m1 (k1 + 1)) 4611686018427387904 = some (wd false m1 k1) ∧ Ap m k (.float .f64 (wd false m1 k1)) (.int .i64 (z + 1)) m1 k1 (z + 1) := by
  obtain ⟨h1, h2, h3, h4, h5, h6, h7⟩ := h
  obtain ⟨g1, g2⟩ := Fl.hlv h1 h3 false
  have o := o_half (k := k1) h2
  exact ⟨g2, g1, h2, by omega, rfl, rfl, o.1.symm.trans h6, by omega⟩
/-- Where the last loop stands. -/
def Aq (m k : Nat) (n : Nat) (z : Int) : Prop := 0 < n ∧ n < 2 ^ 53 ∧ (oddp n).1 = oN m k ∧ ((oddp n).2 : Int) + z = oE m k
theorem Ap.done {m k m1 k1 : Nat} {x e : Value} {z : Int} (h : Ap m k x e m1 k1 z) (hk : k1 = 1074) : Aq m k m1 z := by
  obtain ⟨h1, h2, h3, h4, h5, h6, h7⟩ := h
  have o := o_done h2 hk
  exact ⟨h2, h1.hm, o.1.symm.trans h6, by omega⟩
theorem Aq.step {m k n : Nat} {z : Int} (h : Aq m k n z) (he : n % 2 = 0) : Aq m k (n / 2) (z + 1) := by
  obtain ⟨h1, h2, h3, h4⟩ := h
  have o := oddp_even he h1
  rw [o] at h3 h4
  refine ⟨by omega, by omega, h3, ?_⟩
  have h4 : (((oddp (n / 2)).2 + 1 : Nat) : Int) + z = oE m k := h4
  omega
theorem Aq.out {m k n : Nat} {z : Int} (h : Aq m k n z) (ho : n % 2 = 1) : n = oN m k ∧ z = oE m k := by
  obtain ⟨h1, h2, h3, h4⟩ := h
  rw [oddp_odd ho] at h3 h4
  refine ⟨h3, ?_⟩
  have h4 : ((0 : Nat) : Int) + z = oE m k := h4
  omega
theorem Aq.bd {m k n : Nat} {z : Int} (h : Aq m k n z) (hs : Sc m k) (hk : k ≤ 2045) (hm : 0 < m) : -2174 ≤ z ∧ z ≤ 2174 := by
  have a := oE_in hs hk hm
  have b := odd_le h.1 h.2.1
  have c := h.2.2.2
  omega
theorem toInt_k {m k : Nat} (h : Sc m k) (hk : k = 1074) : floatToIntVal .f64 (wd false m k) .i64 = some (m : Int) := by
  subst hk; exact toInt_i64 h
theorem post_2 {fn : Func} {t u : Tmp} {tmps : Array Value} {W : World} {x y : Value} (h : fn.results = #[.tmp t, .tmp u]) (h1 : tmps.getD t undef = x) (h2 : tmps.getD u undef = y) :
    (results fn tmps).run Tryz.prog W = .ok (.tuple #[x, y]) W := by
  rw [results_tmp2 h, h1, h2]

/-- The text of a number above 0 that is not infinite. -/
def oT (m k : Nat) : List UInt8 := Lib.itoa (oN m k) ++ [42, 50, 94] ++ Lib.itoa (oE m k)
theorem oT_len {m k : Nat} (h : Sc m k) (hk : k ≤ 2045) (hm : 0 < m) : (oT m k).length ≤ 50 := by
  have a := oN_lt h hm
  have b := oE_in h hk hm
  have c := Lib.itoa_length_le (oN m k : Int) (by omega) (by omega)
  have d := Lib.itoa_length_le (oE m k) (by omega) (by omega)
  unfold oT
  simp only [List.length_append, List.length_cons, List.length_nil]
  omega
theorem cat3 (a b : List UInt8) : ((⟨a.toArray⟩ : ByteArray) ++ ⟨#[42, 50, 94]⟩ ++ ⟨b.toArray⟩ : ByteArray) = ⟨(a ++ [42, 50, 94] ++ b).toArray⟩ := by
  rw [show (⟨#[42, 50, 94]⟩ : ByteArray) = ⟨([42, 50, 94] : List UInt8).toArray⟩ from rfl, cat, cat]
end Go.Proofs.YtjacgamgjjpllaaGreatDoor

/- The text of a real number, as a relation. Helper text: no statement is claimed here. -/
namespace Go.Proofs.YtjacgamgjjpllaaGreatDoor
open Go.ChangeShapes Go.WideShapes Go.ChangeAt Go.RowKit Fl

/-- The text of a real number. -/
def TextR (x : Nat) (t : List UInt8) : Prop :=
  (nan x ∧ t = [110, 97, 110]) ∨ (x = wi false ∧ t = [105, 110, 102]) ∨ (x = wi true ∧ t = [45, 105, 110, 102]) ∨ (x = wd false 0 0 ∧ t = [48]) ∨ (x = wd true 0 0 ∧ t = [45, 48]) ∨
  (∃ m k, Sc m k ∧ k ≤ 2045 ∧ 0 < m ∧ x = wd false m k ∧ t = oT m k) ∨ (∃ m k, Sc m k ∧ k ≤ 2045 ∧ 0 < m ∧ x = wd true m k ∧ t = 45 :: oT m k)
theorem TextR.isnan {x : Nat} (h : nan x) : TextR x [110, 97, 110] := .inl ⟨h, rfl⟩
theorem TextR.inf : TextR (wi false) [105, 110, 102] := .inr (.inl ⟨rfl, rfl⟩)
theorem TextR.ninf : TextR (wi true) [45, 105, 110, 102] := .inr (.inr (.inl ⟨rfl, rfl⟩))
theorem TextR.zero : TextR (wd false 0 0) [48] := .inr (.inr (.inr (.inl ⟨rfl, rfl⟩)))
theorem TextR.nzero : TextR (wd true 0 0) [45, 48] := .inr (.inr (.inr (.inr (.inl ⟨rfl, rfl⟩))))
theorem TextR.pos {m k : Nat} (a : Sc m k) (b : k ≤ 2045) (c : 0 < m) : TextR (wd false m k) (oT m k) := .inr (.inr (.inr (.inr (.inr (.inl ⟨_, _, a, b, c, rfl, rfl⟩)))))
theorem TextR.neg {m k : Nat} (a : Sc m k) (b : k ≤ 2045) (c : 0 < m) : TextR (wd true m k) (45 :: oT m k) := .inr (.inr (.inr (.inr (.inr (.inr ⟨_, _, a, b, c, rfl, rfl⟩)))))
def Texted (x : Nat) (w : World) (e : Ending) (w' : World) : Prop := ∃ t : List UInt8, e = .returned (.string ⟨t.toArray⟩) ∧ TextR x t ∧ Below w.heap.size w w'
theorem unary_negF (k : FloatKind) (b : Nat) : Op.unary .neg (.float k b) = pure (.float k (Op.negFloat k b)) := rfl
theorem wd_zeroN {s : Bool} {m k : Nat} (h : Sc m k) (h0 : m = 0) : wd s m k = wd s 0 0 := by
  subst h0
  rcases h.hk with rfl | h
  · rfl
  · omega
end Go.Proofs.YtjacgamgjjpllaaGreatDoor

/- The text of a real number: the document's RealText; the walk of FnExactRealText. Helper text: no statement is claimed here. -/
namespace Go.Proofs.YtjacgamgjjpllaaGreatDoor
open Go.ChangeShapes Go.WideShapes Go.ChangeAt Go.RowKit Fl

theorem toInt_kN {m k : Nat} (h : Sc m k) (hk : k = 1074) (w : World) : (convert 34 3 (.float .f64 (wd false m k))).run Tryz.prog w = .ok (.int .i64 (m : Int)) w := run_cutN (toInt_k h hk) 3 Tryz.underlying3 w

set_option maxHeartbeats 1000000 in
theorem plain_any (m k : Nat) (w : World) (h : Sc m k) (hk : k ≤ 2045) (hm : 0 < m) :
    Calls Tryz.prog 97 #[.float .f64 (wd false m k)] w fun e w' => e = .returned (.string ⟨(oT m k).toArray⟩) ∧ Below w.heap.size w w' := by
  have hI : Ap m k (.float .f64 (wd false m k)) (.int .i64 0) m k 0 := ⟨h, hm, hk, rfl, rfl, rfl, by omega⟩
  have hhi := (asks_wd h hk false).hi
  go_enter Tryz.func97, Tryz.ntmps97
  go_wp2
  go_loop [0, 3] (fun x e => ∃ m1 k1 z, Ap m k x e m1 k1 z) (fun _ e => (3000 - intOf e).toNat)
  case atStart => exact ⟨m, k, 0, hI⟩
  case round =>
    clear hI hhi
    obtain ⟨m2, k2, y, hA⟩ := hrel
    have hbd := hA.bd h hk hm
    have hask := ask53 hA.1 hA.2.2.1
    obtain ⟨rfl, rfl⟩ : _ ∧ _ := ⟨hA.2.2.2.1, hA.2.2.2.2.1⟩
    by_cases hlt : 1075 ≤ k2
    · have hc : (ord (wd false m2 k2) 4845873199050653696 == some .gt || ord (wd false m2 k2) 4845873199050653696 == some .eq) = true := by rw [hask]; simpa using hlt
      obtain ⟨k3, rfl⟩ : ∃ k3, k2 = k3 + 1 := ⟨k2 - 1, by omega⟩
      obtain ⟨hr, hA2⟩ := hA.hlv
      have hrun := run_someN hr
      clear hask hr hA
      obtain ⟨b1, b2⟩ := hbd
      go_wp2
      refine ⟨⟨m2, k3, y + 1, hA2⟩, by simp [intOf]; omega⟩
    · have hc : (ord (wd false m2 k2) 4845873199050653696 == some .gt || ord (wd false m2 k2) 4845873199050653696 == some .eq) = false := by rw [hask]; simpa using hlt
      clear hask
      have HA : Hid (Ap m k (.float .f64 (wd false m2 k2)) (.int .i64 y) m2 k2 y) := hA
      clear hA
      obtain ⟨b1, b2⟩ := hbd
      go_wp2
      go_loop [0, 3] (fun x e => ∃ m1 k1 z, Ap m k x e m1 k1 z ∧ k1 ≤ 1074) (fun _ e => (3000 + intOf e).toNat)
      case atStart => exact ⟨m2, k2, y, HA.out, by omega⟩
      case round =>
        clear HA b1 b2 hc hlt
        obtain ⟨m1, k1, z, hA, hle⟩ := hrel
        have hbd := hA.bd h hk hm
        have hask := ask52 hA.1 hA.2.2.1
        obtain ⟨rfl, rfl⟩ : _ ∧ _ := ⟨hA.2.2.2.1, hA.2.2.2.2.1⟩
        by_cases hlt : k1 < 1074
        · have hc : (ord (wd false m1 k1) 4841369599423283200 == some .lt) = true := by rw [hask]; simpa using hlt
          obtain ⟨r, hr, m3, k3, hA2, hk3⟩ := hA.dbl2 hlt
          have hrun := run_someN hr
          clear hask hr hA
          obtain ⟨b1, b2⟩ := hbd
          go_wp2
          refine ⟨⟨m3, k3, z - 1, hA2, hk3⟩, by simp [intOf]; omega⟩
        · have hc : (ord (wd false m1 k1) 4841369599423283200 == some .lt) = false := by rw [hask]; simpa using hlt
          have hk2 : k1 = 1074 := by omega
          have hcut := toInt_kN hA.1 hk2
          have HQ : Hid (Aq m k m1 z) := hA.done hk2
          clear hask hA hk2 hle hlt
          obtain ⟨b1, b2⟩ := hbd
          go_wp2
          go_loop [4, 3] (fun n e => ∃ (n1 : Nat) (z1 : Int), Aq m k n1 z1 ∧ n = .int .i64 (n1 : Int) ∧ e = .int .i64 z1) (fun n _ => (intOf n).toNat)
          case atStart => exact ⟨m1, z, HQ.out, rfl, rfl⟩
          case round =>
            clear HQ b1 b2 hc hcut
            obtain ⟨n1, z1, hQ, rfl, rfl⟩ := hrel
            obtain ⟨b1, b2⟩ := hQ.bd h hk hm
            have hn0 := hQ.1
            have hn1 := hQ.2.1
            have hpos : (0 : Int) < (n1 : Int) := by omega
            by_cases hev : n1 % 2 = 0
            · have hQ2 : Hid (Aq m k (n1 / 2) (z1 + 1)) := hQ.step hev
              have hev' : ((n1 : Int) % 2 == 0) = true := by simp; omega
              clear hQ hev
              go_wp2
              exact ⟨⟨n1 / 2, z1 + 1, hQ2.out, by go_num, rfl⟩, by simp [intOf]; omega⟩
            · have hQ2 : n1 = oN m k ∧ z1 = oE m k := hQ.out (by omega)
              have hev' : ((n1 : Int) % 2 == 0) = false := by simp; omega
              have HT : Hid (oT m k = Lib.itoa n1 ++ [42, 50, 94] ++ Lib.itoa z1) := by
                show oT m k = _
                rw [hQ2.1, hQ2.2]; rfl
              have c := Lib.itoa_length_le (n1 : Int) (by omega) (by omega)
              have d := Lib.itoa_length_le z1 (by omega) (by omega)
              clear hQ hev hQ2
              go_wp2_with fail
              refine (dec_any _ _ (by omega) (by omega)).mono ?_
              rintro e w2 ⟨rfl, hb⟩
              go_wp2_with fail
              refine (dec_any _ _ (by omega) (by omega)).mono ?_
              rintro e w3 ⟨rfl, hb3⟩
              generalize Lib.itoa (n1 : Int) = A at *
              generalize Lib.itoa z1 = B at *
              go_wp2
              go_ret
              exact ⟨ret_str (by rw [HT.out]; exact cat3 A B), hb.trans (hb3.mono hb.size)⟩
end Go.Proofs.YtjacgamgjjpllaaGreatDoor

/- The text of a real number: the document's RealText; one number, one text. Helper text: no statement is claimed here. -/
namespace Go.Proofs.YtjacgamgjjpllaaGreatDoor
open Go.ChangeShapes Go.WideShapes Go.ChangeAt Go.RowKit Fl

theorem TextR.form {x : Nat} {t : List UInt8} (h : TextR x t) :
    (nan x ∧ t = [110, 97, 110]) ∨ (x = wi false ∧ t = [105, 110, 102]) ∨ (x = wi true ∧ t = [45, 105, 110, 102]) ∨ (x = wd false 0 0 ∧ t = [48]) ∨ (x = wd true 0 0 ∧ t = [45, 48]) ∨
    (∃ m k, Sc m k ∧ k ≤ 2045 ∧ 0 < m ∧ x = wd false m k ∧ t = oT m k) ∨ (∃ m k, Sc m k ∧ k ≤ 2045 ∧ 0 < m ∧ x = wd true m k ∧ t = 45 :: oT m k) := by
  exact h
theorem wi_ne_wd {s t : Bool} {m k : Nat} (h : Sc m k) (hk : k ≤ 2045) : wi s ≠ wd t m k := by
  intro e
  have := read_wi s
  rw [e, read_wd h hk] at this
  cases this
theorem wi_inj {s t : Bool} (e : wi s = wi t) : s = t := by
  have := read_wi s
  rw [e, read_wi t] at this
  cases this; rfl

/-- The text as a function of what a word stands for. -/
def txtD : Ieee.Datum → List UInt8
  | .nan .. => [110, 97, 110]
  | .infinity s => if s then [45, 105, 110, 102] else [105, 110, 102]
  | .number s m p => if m = 0 then (if s then [45, 48] else [48]) else if s then 45 :: oT m (p + 1074).toNat else oT m (p + 1074).toNat
theorem txt_num (s : Bool) {m k : Nat} (hm : 0 < m) : txtD (.number s m ((k : Int) - 1074)) = if s then 45 :: oT m k else oT m k := by
  have e : ((k : Int) - 1074 + 1074).toNat = k := by omega
  have h0 : ¬ m = 0 := by omega
  simp only [txtD, h0, if_false, e]
theorem TextR.fn {x : Nat} {t : List UInt8} (h : TextR x t) : t = txtD (Ieee.double.read x) := by
  rcases h with ⟨h, rfl⟩ | ⟨rfl, rfl⟩ | ⟨rfl, rfl⟩ | ⟨rfl, rfl⟩ | ⟨rfl, rfl⟩ | ⟨m, k, a, b, c, rfl, rfl⟩ | ⟨m, k, a, b, c, rfl, rfl⟩
  · obtain ⟨s, f, e⟩ := nan_read h; rw [e]; rfl
  · rw [read_wi]; rfl
  · rw [read_wi]; rfl
  · rw [read_wd sc00 (by omega)]; rfl
  · rw [read_wd sc00 (by omega)]; rfl
  · rw [read_wd a b, txt_num false c]; rfl
  · rw [read_wd a b, txt_num true c]; rfl
theorem TextR.one {x : Nat} {t t' : List UInt8} (h : TextR x t) (h' : TextR x t') : t = t' := h.fn.trans h'.fn.symm
theorem TextR.len {x : Nat} {t : List UInt8} (h : TextR x t) : t.length ≤ 60 := by
  rcases h with ⟨-, rfl⟩ | ⟨-, rfl⟩ | ⟨-, rfl⟩ | ⟨-, rfl⟩ | ⟨-, rfl⟩ | ⟨m, k, a, b, c, -, rfl⟩ | ⟨m, k, a, b, c, -, rfl⟩
  · simp
  · simp
  · simp
  · simp
  · simp
  · have := oT_len a b c; omega
  · have := oT_len a b c; simp; omega

section
attribute [local go_sem] unary_negF
set_option maxHeartbeats 400000 in
theorem st_nan (x : Nat) (w : World) (h : nan x) : Calls Tryz.prog 52 #[.float .f64 x] w (Texted x w) := by
  have h1 := (asks_nan h).n
  have H : Hid (nan x) := h
  clear h
  go_enter Tryz.func52, Tryz.ntmps52
  go_wp2
  go_ret
  exact ⟨[110, 97, 110], rfl, .isnan H.out, Below.refl _ _⟩
set_option maxHeartbeats 400000 in
theorem plain_inf (x : Nat) (w : World) (h2 : (ord x 9218868437227405311 == some .gt) = true) : Calls Tryz.prog 97 #[.float .f64 x] w fun e w' => e = .returned (.string ⟨#[105, 110, 102]⟩) ∧ w' = w := by
  go_enter Tryz.func97, Tryz.ntmps97
  go_wp2
  go_ret
  exact ⟨rfl, rfl⟩
set_option maxHeartbeats 400000 in
theorem st_z (x y : Nat) (w : World) (T : TextR x [48]) (h1 : (ord x x != some .eq) = false) (h4 : (ord x 0 == some .eq) = true)
    (h6 : ∀ (t : TypeId) (w : World), (binOp .quo t (.float .f64 4607182418800017408) (.float .f64 x)).run Tryz.prog w = .ok (.float .f64 y) w) (h7 : (ord y 0 == some .lt) = false) : Calls Tryz.prog 52 #[.float .f64 x] w (Texted x w) := by
  have H : Hid (TextR x [48]) := T
  clear T
  go_enter Tryz.func52, Tryz.ntmps52
  go_wp2
  go_ret
  exact ⟨[48], rfl, H.out, Below.refl _ _⟩
set_option maxHeartbeats 400000 in
theorem st_nz (x y : Nat) (w : World) (T : TextR x [45, 48]) (h1 : (ord x x != some .eq) = false) (h4 : (ord x 0 == some .eq) = true)
    (h6 : ∀ (t : TypeId) (w : World), (binOp .quo t (.float .f64 4607182418800017408) (.float .f64 x)).run Tryz.prog w = .ok (.float .f64 y) w) (h7 : (ord y 0 == some .lt) = true) : Calls Tryz.prog 52 #[.float .f64 x] w (Texted x w) := by
  have H : Hid (TextR x [45, 48]) := T
  clear T
  go_enter Tryz.func52, Tryz.ntmps52
  go_wp2
  go_ret
  exact ⟨[45, 48], rfl, H.out, Below.refl _ _⟩
set_option maxHeartbeats 400000 in
theorem st_up (x : Nat) (w : World) (t : List UInt8) (T : TextR x t) (h1 : (ord x x != some .eq) = false) (h4 : (ord x 0 == some .eq) = false) (h5 : (ord x 0 == some .lt) = false)
    (hp : Calls Tryz.prog 97 #[.float .f64 x] w fun e w' => e = .returned (.string ⟨t.toArray⟩) ∧ Below w.heap.size w w') : Calls Tryz.prog 52 #[.float .f64 x] w (Texted x w) := by
  have H : Hid (TextR x t) := T
  clear T
  have HP : Hid _ := hp
  clear hp
  go_enter Tryz.func52, Tryz.ntmps52
  go_wp2_with fail
  refine Calls.mono HP.out ?_
  rintro e w1 ⟨rfl, hb⟩
  go_wp2
  go_ret
  exact ⟨t, rfl, H.out, hb⟩
set_option maxHeartbeats 400000 in
theorem st_down (x y : Nat) (w : World) (t : List UInt8) (T : TextR x (45 :: t)) (hl : t.length ≤ 60) (h1 : (ord x x != some .eq) = false) (h4 : (ord x 0 == some .eq) = false) (h5 : (ord x 0 == some .lt) = true) (h6 : Op.negFloat .f64 x = y)
    (hp : Calls Tryz.prog 97 #[.float .f64 y] w fun e w' => e = .returned (.string ⟨t.toArray⟩) ∧ Below w.heap.size w w') : Calls Tryz.prog 52 #[.float .f64 x] w (Texted x w) := by
  have H : Hid (TextR x (45 :: t)) := T
  clear T
  have HP : Hid _ := hp
  clear hp
  go_enter Tryz.func52, Tryz.ntmps52
  go_wp2_with fail
  refine Calls.mono HP.out ?_
  rintro e w1 ⟨rfl, hb⟩
  go_wp2
  go_ret
  exact ⟨45 :: t, ret_str (cat [45] t), H.out, hb⟩
end
theorem inf_plain (x : Nat) (w : World) (h2 : (ord x 9218868437227405311 == some .gt) = true) : Calls Tryz.prog 97 #[.float .f64 x] w fun e w' => e = .returned (.string ⟨([105, 110, 102] : List UInt8).toArray⟩) ∧ Below w.heap.size w w' :=
  (plain_inf x w h2).mono fun _ _ ⟨he, hw⟩ => ⟨he, hw ▸ Below.refl _ _⟩
theorem st_any (x : Nat) (w : World) (hx : x < 2 ^ 64) : Calls Tryz.prog 52 #[.float .f64 x] w (Texted x w) := by
  rcases cases_wd hx with ⟨s, m, k, hs, hk, rfl⟩ | ⟨s, rfl⟩ | hn
  · by_cases h0 : m = 0
    · rw [wd_zeroN hs h0]
      have a := asks_wd sc00 (by omega) s
      cases s
      · exact st_z _ _ w .zero a.n a.z (run_someN (one_by_zero false)) (asks_wi false).ng
      · exact st_nz _ _ w .nzero a.n a.z (run_someN (one_by_zero true)) (asks_wi true).ng
    · have a := asks_wd hs hk s
      have hm : 0 < m := by omega
      have az : (ord (wd s m k) 0 == some .eq) = false := by rw [a.z]; simpa using h0
      cases s
      · exact st_up _ w _ (.pos hs hk hm) a.n az (by rw [a.ng]; simp) (plain_any m k w hs hk hm)
      · exact st_down _ _ w _ (.neg hs hk hm) (by have := oT_len hs hk hm; omega) a.n az (by rw [a.ng]; simpa using hm) (neg_wd hs hk true) (plain_any m k w hs hk hm)
  · have a := asks_wi s
    cases s
    · exact st_up _ w _ .inf a.n a.z a.ng (inf_plain _ w a.hi)
    · exact st_down _ _ w _ .ninf (by simp) a.n a.z a.ng (neg_wi true) (inf_plain _ w (asks_wi false).hi)
  · exact st_nan x w hn

end Go.Proofs.YtjacgamgjjpllaaGreatDoor
