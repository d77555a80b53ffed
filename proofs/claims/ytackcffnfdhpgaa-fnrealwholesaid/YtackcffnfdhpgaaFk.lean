/- Real numbers of 64 bits: cut to 16 bits, and what is left. Helper text: no statement is claimed here. -/
import Derived.Test.YtackcffnfdhpgaaFe
import Derived.Test.YtackcffnfdhpgaaFf
namespace Go.Proofs.Ytackcffnfdhpgaa.Fl
open Ieee

theorem scLo : Sc (32769 * 2 ^ 37) 1037 := ⟨by omega, .inr (by omega)⟩
theorem scHi : Sc (2 ^ 52) 1037 := ⟨by omega, .inr (by omega)⟩
theorem scOne : Sc (2 ^ 52) 1022 := ⟨by omega, .inr (by omega)⟩
theorem wLo : wd true (32769 * 2 ^ 37) 1037 = 13898108587504304128 := rfl
theorem wHi : wd false (2 ^ 52) 1037 = 4674736413210574848 := rfl
theorem wOne : wd false (2 ^ 52) 1022 = 4607182418800017408 := rfl
theorem wNeg : wd true (2 ^ 52) 1022 = 13830554455654793216 := rfl
theorem lo_val {u z : Nat} (h : z = u + 37) : 32769 * 2 ^ 37 * 2 ^ u = 32769 * 2 ^ z := by rw [h, Nat.pow_add, Nat.mul_assoc, Nat.mul_comm (2 ^ 37)]
theorem hi_val {u z : Nat} (h : z = u + 37) : 2 ^ 52 * 2 ^ u = 32768 * 2 ^ z := by
  rw [h, Nat.pow_add]
  generalize 2 ^ u = A
  omega
theorem one_val {u z : Nat} (h : z = u + 52) : 2 ^ 52 * 2 ^ u = 2 ^ z := by rw [h, Nat.pow_add, Nat.mul_comm]

/-- Is it within: as the program asks. -/
theorem ask_lo {m k : Nat} (h : Sc m k) (hk : k ≤ 2045) (s : Bool) : (ord (wd s m k) 13898108587504304128 == some .gt) = decide (-(32769 * 2 ^ 1074 : Nat) < sg s (m * 2 ^ k)) := by
  rw [← wLo, ord_gt h hk scLo (by omega), lo_val (z := 1074) rfl]
  rfl
theorem ask_hi {m k : Nat} (h : Sc m k) (hk : k ≤ 2045) (s : Bool) : (ord (wd s m k) 4674736413210574848 == some .lt) = decide (sg s (m * 2 ^ k) < (32768 * 2 ^ 1074 : Nat)) := by
  rw [← wHi, ord_lt h hk scHi (by omega), hi_val (z := 1074) rfl]
  rfl

theorem div_in {V U : Nat} (s : Bool) (h1 : -(32769 * U : Nat) < sg s V) (h2 : sg s V < (32768 * U : Nat)) : -32768 ≤ sg s (V / U) ∧ sg s (V / U) ≤ 32767 := by
  cases s
  · have : V < 32768 * U := by simp only [sg, Bool.false_eq_true, if_false] at h2; omega
    have : V / U < 32768 := Nat.div_lt_of_lt_mul (by rw [Nat.mul_comm]; exact this)
    generalize V / U = Q at *
    simp only [sg, Bool.false_eq_true, if_false]; omega
  · have : V < 32769 * U := by simp only [sg, if_true] at h1; omega
    have : V / U < 32769 := Nat.div_lt_of_lt_mul (by rw [Nat.mul_comm]; exact this)
    generalize V / U = Q at *
    simp only [sg, if_true]; omega

theorem toInt_i16 {m k : Nat} (h : Sc m k) (hk : k ≤ 2045) (s : Bool) (z : Nat) (hz : z = 1074) (h1 : -32768 ≤ sg s (m * 2 ^ k / 2 ^ z)) (h2 : sg s (m * 2 ^ k / 2 ^ z) ≤ 32767) :
    Go.floatToIntVal .f64 (wd s m k) .i16 = some (sg s (m * 2 ^ k / 2 ^ z)) := by
  unfold Go.floatToIntVal
  have := toInt_wd h hk s
  rw [← hz] at this
  show (match (double.read (wd s m k)).toInt .zero with | some n => _ | none => none) = _
  rw [this]
  have e1 : Go.IntKind.i16.min = -32768 := rfl
  have e2 : Go.IntKind.i16.max = 32767 := rfl
  simp only [e1, e2]
  rw [if_pos ⟨h1, h2⟩]

/-- Either it is within, and what is cut of it is known, or not. -/
theorem whole_cases {x : Nat} (hx : x < 2 ^ 64) :
    (ord x 13898108587504304128 == some .gt && ord x 4674736413210574848 == some .lt) = false ∨
    ∃ s m k, Sc m k ∧ k ≤ 2045 ∧ x = wd s m k ∧ (ord x 13898108587504304128 == some .gt) = true ∧ (ord x 4674736413210574848 == some .lt) = true ∧
      Go.floatToIntVal .f64 x .i16 = some (sg s (m * 2 ^ k / 2 ^ 1074)) ∧ -32768 ≤ sg s (m * 2 ^ k / 2 ^ 1074) ∧ sg s (m * 2 ^ k / 2 ^ 1074) ≤ 32767 := by
  rcases cases_wd hx with ⟨s, m, k, hs, hk, rfl⟩ | ⟨s, rfl⟩ | hn
  · cases h1 : (ord (wd s m k) 13898108587504304128 == some .gt)
    · left; rfl
    cases h2 : (ord (wd s m k) 4674736413210574848 == some .lt)
    · left; rfl
    right
    have a := ask_lo hs hk s
    have b := ask_hi hs hk s
    rw [h1] at a
    rw [h2] at b
    have d := div_in s (of_decide_eq_true a.symm) (of_decide_eq_true b.symm)
    exact ⟨s, m, k, hs, hk, rfl, rfl, rfl, toInt_i16 hs hk s 1074 rfl d.1 d.2, d.1, d.2⟩
  · left
    have e1 : (ord (wi s) 13898108587504304128 == some .gt) = !s := by
      rw [← wLo]; simp only [ord, Go.FloatKind.format, order_wi_wd scLo (by omega : 1037 ≤ 2045)]; cases s <;> rfl
    have e2 : (ord (wi s) 4674736413210574848 == some .lt) = s := by
      rw [← wHi]; simp only [ord, Go.FloatKind.format, order_wi_wd scHi (by omega : 1037 ≤ 2045)]; cases s <;> rfl
    rw [e1, e2]; cases s <;> rfl
  · left
    have := order_nan_left hn 13898108587504304128
    simp only [ord, Go.FloatKind.format, this]; rfl

/-- What the law asks of the rest. -/
structure RestOk (x d : Nat) : Prop where
  low : (ord d 13830554455654793216 == some .gt) = true
  high : (ord d 4607182418800017408 == some .lt) = true
  up : (ord x 0 == some .lt) = true ∨ (ord x 0 == some .lt) = false ∧ (ord d 0 == some .gt || ord d 0 == some .eq) = true
  down : (ord x 0 == some .gt) = true ∨ (ord x 0 == some .gt) = false ∧ (ord d 0 == some .lt || ord d 0 == some .eq) = true

theorem restOk_of {m k m3 k3 : Nat} (h : Sc m k) (hk : k ≤ 2045) (s s3 : Bool) (h3 : Sc m3 k3) (hk3 : k3 ≤ 2045) {r U z : Nat} (hz' : z = 1074) (hU : U = 2 ^ z) (e : sg s3 (m3 * 2 ^ k3) = sg s r) (hr : r < U) (hz : m * 2 ^ k = 0 → r = 0) :
    RestOk (wd s m k) (wd s3 m3 k3) := by
  have one : 2 ^ 52 * 2 ^ 1022 = U := by rw [hU]; exact @one_val 1022 z (by omega)
  have z0 : (0 : Nat) * 2 ^ 0 = 0 := rfl
  have sg0 : sg false 0 = 0 := rfl
  constructor
  · rw [← wNeg, ord_gt h3 hk3 scOne (by omega), one, e]
    clear one hU
    cases s <;> simp [sg] <;> omega
  · rw [← wOne, ord_lt h3 hk3 scOne (by omega), one, e]
    clear one hU
    cases s <;> simp [sg] <;> omega
  · show (ord (wd s m k) (wd false 0 0) == some .lt) = true ∨ (ord (wd s m k) (wd false 0 0) == some .lt) = false ∧ (ord (wd s3 m3 k3) (wd false 0 0) == some .gt || ord (wd s3 m3 k3) (wd false 0 0) == some .eq) = true
    rw [ord_lt h hk sc00 (by omega), ord_gt h3 hk3 sc00 (by omega), ord_eq h3 hk3 sc00 (by omega), e, z0, sg0]
    clear one hU e
    generalize m * 2 ^ k = V at *
    cases s
    · right; simp [sg]; omega
    · by_cases hV : V = 0
      · right; have := hz hV; subst hV; subst this; simp [sg]
      · left; simp [sg]; omega
  · show (ord (wd s m k) (wd false 0 0) == some .gt) = true ∨ (ord (wd s m k) (wd false 0 0) == some .gt) = false ∧ (ord (wd s3 m3 k3) (wd false 0 0) == some .lt || ord (wd s3 m3 k3) (wd false 0 0) == some .eq) = true
    rw [ord_gt h hk sc00 (by omega), ord_lt h3 hk3 sc00 (by omega), ord_eq h3 hk3 sc00 (by omega), e, z0, sg0]
    clear one hU e
    generalize m * 2 ^ k = V at *
    cases s
    · by_cases hV : V = 0
      · right; have := hz hV; subst hV; subst this; simp [sg]
      · left; simp [sg]; omega
    · right; simp [sg]; omega

theorem rest_ok {m k : Nat} (h : Sc m k) (hk : k ≤ 2045) (s : Bool) (z : Nat) (hz : z = 1074) (h1 : -32768 ≤ sg s (m * 2 ^ k / 2 ^ z)) (h2 : sg s (m * 2 ^ k / 2 ^ z) ≤ 32767) :
    ∃ d, Go.floatBits .sub .f64 (wd s m k) (Go.floatOfInt .f64 (sg s (m * 2 ^ k / 2 ^ z))) = some d ∧ RestOk (wd s m k) d := by
  obtain ⟨n, j, g1, g2, g3, g4, g5⟩ := ofInt_z (n := sg s (m * 2 ^ k / 2 ^ z)) (by omega) z hz
  rw [g3]
  obtain ⟨m3, k3, r1, r2, r3⟩ := rest_sc h
  rw [← hz] at r2
  have hU : 0 < 2 ^ z := Nat.two_pow_pos z
  have hdm := Nat.div_add_mod (m * 2 ^ k) (2 ^ z)
  have hlt := Nat.mod_lt (m * 2 ^ k) hU
  have hna : (sg s (m * 2 ^ k / 2 ^ z)).natAbs = m * 2 ^ k / 2 ^ z := by
    generalize m * 2 ^ k / 2 ^ z = Q
    cases s <;> simp [sg]
  rw [hna] at g4
  have hneg : sg (decide (sg s (m * 2 ^ k / 2 ^ z) < 0)) (n * 2 ^ j) = sg s (m * 2 ^ k / 2 ^ z * 2 ^ z) := by
    rw [g4]
    generalize m * 2 ^ k / 2 ^ z = Q
    rcases Nat.eq_zero_or_pos Q with rfl | hQ
    · cases s <;> simp [sg]
    · cases s
      · have : ¬ sg false Q < 0 := by simp [sg]
        simp [this]
      · have : sg true Q < 0 := by simp [sg]; omega
        simp [this]
  have e : sg s (m * 2 ^ k) - sg (decide (sg s (m * 2 ^ k / 2 ^ z) < 0)) (n * 2 ^ j) = sg s (m * 2 ^ k % 2 ^ z) := by
    rw [hneg]
    rw [Nat.mul_comm] at hdm
    generalize m * 2 ^ k / 2 ^ z * 2 ^ z = A at *
    generalize m * 2 ^ k % 2 ^ z = B at *
    clear hneg g4 r2
    generalize m * 2 ^ k = C at *
    cases s <;> simp [sg] <;> omega
  have hVr : m * 2 ^ k = 0 → m * 2 ^ k % 2 ^ z = 0 := by intro h; rw [h]; exact Nat.zero_mod _
  by_cases hr : m * 2 ^ k % 2 ^ z = 0
  · have e' : sg s (m * 2 ^ k) = sg (decide (sg s (m * 2 ^ k / 2 ^ z) < 0)) (n * 2 ^ j) := by
      rw [hr] at e
      have : sg s 0 = 0 := by cases s <;> rfl
      rw [this] at e
      exact Int.sub_eq_zero.1 e
    refine ⟨_, sub_wd_zero h hk g1 (by omega) s _ e', restOk_of h hk s _ sc00 (by omega) (r := 0) (U := 2 ^ z) hz rfl ?_ hU (fun _ => rfl)⟩
    cases s <;> cases decide (sg _ (m * 2 ^ k / 2 ^ z) < 0) <;> rfl
  · have hm3 : 0 < m3 := by
      rcases Nat.eq_zero_or_pos m3 with h | h
      · rw [h, Nat.zero_mul] at r2
        exact absurd r2.symm hr
      · exact h
    rw [← r2] at e
    exact ⟨_, sub_wd h hk g1 (by omega) s _ r1 (by omega) hm3 e, restOk_of h hk s s r1 (by omega) (r := m * 2 ^ k % 2 ^ z) (U := 2 ^ z) hz rfl (by rw [r2]) hlt hVr⟩
end Go.Proofs.Ytackcffnfdhpgaa.Fl
