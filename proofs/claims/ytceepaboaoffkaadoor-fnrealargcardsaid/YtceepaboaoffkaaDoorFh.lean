/- Real numbers of 64 bits: how far a quotient may lie off. Helper text: no statement is claimed here. -/
import Derived.Test.YtceepaboaoffkaaDoorFg
namespace Go.Proofs.YtceepaboaoffkaaDoor.Fl
open Ieee

theorem rung_le {m k n j : Nat} (h : Sc m k) (h' : Sc n j) (e : k * 2 ^ 52 + m ≤ j * 2 ^ 52 + n) : m * 2 ^ k ≤ n * 2 ^ j := by
  have h1 := h.hm
  have h2 := h.hk
  have h3 := h'.hm
  have h4 := h'.hk
  rcases Nat.lt_trichotomy k j with hlt | rfl | hgt
  · have a : m * 2 ^ k ≤ 2 ^ 53 * 2 ^ k := Nat.mul_le_mul_right _ (by omega)
    have b : 2 ^ 53 * 2 ^ k ≤ 2 ^ 52 * 2 ^ j := by
      rw [← Nat.pow_add, ← Nat.pow_add]; exact pow_le_pow_iff2.2 (by omega)
    have c : 2 ^ 52 * 2 ^ j ≤ n * 2 ^ j := Nat.mul_le_mul_right _ (by omega)
    exact Nat.le_trans a (Nat.le_trans b c)
  · exact Nat.mul_le_mul_right _ (by omega)
  · omega

/-- A whole number that is not 0, normalised. -/
theorem whole_sc {u z : Nat} (h0 : 0 < u) (h1 : u < 2 ^ 53) (hz : 53 ≤ z) : ∃ m k, Sc m k ∧ 2 ^ 52 ≤ m ∧ m * 2 ^ k = u * 2 ^ z ∧ k ≤ z := by
  obtain ⟨m, k, h, e, hk⟩ := exists_sc u h1 z
  refine ⟨m, k, h, ?_, e, hk⟩
  rcases h.hk with rfl | h2
  · exfalso
    rw [Nat.pow_zero, Nat.mul_one] at e
    have a : 2 ^ 53 ≤ 2 ^ z := pow_le_pow_iff2.2 hz
    have b : 2 ^ z ≤ u * 2 ^ z := Nat.le_mul_of_pos_left _ h0
    have := h.hm
    omega
  · exact h2

theorem place_lt {m k u e z : Nat} (h52 : 2 ^ 52 ≤ m) (hu : u < 2 ^ e) (h : m * 2 ^ k = u * 2 ^ z) : 52 + k < e + z := by
  have a : 2 ^ (52 + k) ≤ u * 2 ^ z := by rw [← h, Nat.pow_add]; exact Nat.mul_le_mul_right _ h52
  have b : u * 2 ^ z < 2 ^ (e + z) := by rw [Nat.pow_add]; exact Nat.mul_lt_mul_of_pos_right hu (Nat.two_pow_pos z)
  exact pow_lt_pow_iff2.1 (Nat.lt_of_le_of_lt a b)
theorem place_gt {m k u e z : Nat} (hm : m < 2 ^ 53) (hu : 2 ^ e ≤ u) (h : m * 2 ^ k = u * 2 ^ z) : e + z < 53 + k := by
  have a : 2 ^ (e + z) ≤ u * 2 ^ z := by rw [Nat.pow_add]; exact Nat.mul_le_mul_right _ hu
  have b : m * 2 ^ k < 2 ^ (53 + k) := by rw [Nat.pow_add]; exact Nat.mul_lt_mul_of_pos_right hm (Nat.two_pow_pos k)
  exact pow_lt_pow_iff2.1 (Nat.lt_of_le_of_lt (by rw [h]; exact a) b)

theorem quo_units {m n : Nat} (hm : 2 ^ 52 ≤ m) (hn1 : n < 2 ^ 53) (hn : 0 < n) :
    ∃ Q, 2 * (m * 2 ^ 54 / n) + (m * 2 ^ 54 % n != 0).toNat = Q ∧ Q * n ≤ m * 2 ^ 55 + n ∧ m * 2 ^ 55 ≤ Q * n + n ∧ 0 < Q := by
  have hX : m * 2 ^ 55 = 2 * (m * 2 ^ 54) := by omega
  have hXn : n ≤ m * 2 ^ 54 := by omega
  rw [hX]
  clear hX
  generalize m * 2 ^ 54 = X at *
  have e := Nat.div_add_mod X n
  have hlt := Nat.mod_lt X hn
  have hp : 0 < X / n := Nat.div_pos hXn hn
  have e5 : ∀ t, (2 * (X / n) + t) * n = 2 * (n * (X / n)) + t * n := by
    intro t
    rw [Nat.add_mul, Nat.mul_assoc, Nat.mul_comm (X / n) n]
  have e6 := e5 0
  have e7 := e5 1
  clear e5 hXn
  generalize n * (X / n) = Y at *
  generalize X / n = P at *
  generalize X % n = R at *
  have e8 : (2 * P + 0) * n = 2 * Y := by rw [e6, Nat.zero_mul, Nat.add_zero]
  have e9 : (2 * P + 1) * n = 2 * Y + n := by rw [e7, Nat.one_mul]
  clear e6 e7
  by_cases hz : R = 0
  · subst hz
    refine ⟨2 * P + 0, rfl, ?_, ?_, ?_⟩
    · rw [e8]; clear e8 e9 hm hn1; omega
    · rw [e8]; clear e8 e9 hm hn1; omega
    · clear e8 e9 hm hn1; omega
  · have ht : (R != 0).toNat = 1 := by
      have : (R != 0) = true := by simpa using hz
      rw [this]; rfl
    rw [ht]
    refine ⟨2 * P + 1, rfl, ?_, ?_, ?_⟩
    · rw [e9]; clear e8 e9 hm hn1; omega
    · rw [e9]; clear e8 e9 hm hn1; omega
    · clear e8 e9 hm hn1; omega

/-- A whole number by another one: what comes out, and how far it may lie off. -/
theorem quo_bounds {a T : Nat} (s : Bool) (ha : 0 < a) (ha2 : a < 2 ^ 30) (hT : 8 ≤ T) (hT2 : T < 2 ^ 20) {m k n j z y x : Nat} (hz : z = 1074) (hy : z = y + 24) (hx : z = x + 55)
    (h : Sc m k) (hm : 2 ^ 52 ≤ m) (e : m * 2 ^ k = a * 2 ^ z) (h' : Sc n j) (hn : 2 ^ 52 ≤ n) (e' : n * 2 ^ j = T * 2 ^ z) :
    ∃ m' k', Sc m' k' ∧ k' ≤ 2045 ∧ Go.floatBits .quo .f64 (wd s m k) (wd false n j) = some (wd s m' k') ∧
      (a * 2 ^ 24 / T - 1) * 2 ^ y ≤ m' * 2 ^ k' ∧ m' * 2 ^ k' ≤ (a * 2 ^ 24 / T + 2) * 2 ^ y := by
  have k1 := place_lt hm ha2 e
  have j1 := place_gt (e := 3) h'.hm hT e'
  have j2 := place_lt hn hT2 e'
  have k2 := place_gt (e := 0) h.hm ha e
  have lm : m.log2 = 52 := (Nat.log2_eq_iff (by omega)).2 ⟨hm, h.hm⟩
  have ln : n.log2 = 52 := (Nat.log2_eq_iff (by omega)).2 ⟨hn, h'.hm⟩
  obtain ⟨Q, hQ, hq1, hq2, hq0⟩ := quo_units hm h'.hm (show 0 < n by omega)
  have hdiv : Go.floatBits .quo .f64 (wd s m k) (wd false n j) = some (double.nearest s Q (((k + x - j : Nat) : Int) - (0 : Nat) - 1074)) := by
    show double.div (wd s m k) (wd false n j) = _
    unfold Format.div
    rw [read_wd h (by omega), read_wd h' (by omega)]
    have hf : (double.fractionBits : Nat) = 52 := rfl
    have hn0 : ¬ n = 0 := by omega
    simp only [Datum.quotient, Bool.xor_false, hf, hn0, if_false, Nat.shiftLeft_eq, lm, ln, Option.map_some, Format.write]
    have hpl : (k : Int) - 1074 - ((j : Int) - 1074) - ((52 + 2 + 52 - 52 : Nat) : Int) - 1 = ((k + x - j : Nat) : Int) - (0 : Nat) - 1074 := by omega
    have h54 : 52 + 2 + 52 - 52 = 54 := rfl
    rw [hpl, h54, hQ]
  obtain ⟨r, hr, hinf, hup, hlo⟩ := nearest_mono s Q (k + x - j) 0 hq0
  rw [hdiv, hr]
  clear hinf lm ln hdiv hr hQ hq0
  obtain ⟨g, hg⟩ : ∃ g, a * 2 ^ 24 / T = g := ⟨_, rfl⟩
  rw [hg]
  have g1 : g * T ≤ a * 2 ^ 24 := by rw [← hg]; exact Nat.div_mul_le_self _ _
  have g2 : a * 2 ^ 24 < (g + 1) * T := by
    have := Nat.lt_div_mul_add (a := a * 2 ^ 24) (show 0 < T by omega)
    rw [hg] at this
    rw [Nat.add_mul]; omega
  have gb : g + 2 < 2 ^ 53 := by
    have : g * 8 ≤ a * 2 ^ 24 := Nat.le_trans (Nat.mul_le_mul_left _ hT) g1
    clear g1 g2 hup hlo hq1 hq2 e e' k1 k2 j1 j2
    omega
  clear hg
  have pos : 0 < n * 2 ^ j := Nat.mul_pos (by omega) (Nat.two_pow_pos j)
  have eQ : Q * 2 ^ (k + x - j) * (n * 2 ^ j) = Q * n * 2 ^ (k + x) := by
    have : 2 ^ (k + x - j) * 2 ^ j = 2 ^ (k + x) := by rw [← Nat.pow_add]; congr 1; omega
    rw [← this, Nat.mul_assoc, Nat.mul_left_comm (2 ^ (k + x - j)) n, ← Nat.mul_assoc]
  have hbz : 2 ^ y * 2 ^ 24 = 2 ^ z := by rw [← Nat.pow_add, hy]
  have hxz : 2 ^ x * 2 ^ 55 = 2 ^ z := by rw [← Nat.pow_add, hx]
  have eX : m * 2 ^ 55 * 2 ^ (k + x) = a * 2 ^ 24 * (2 ^ y * 2 ^ z) := by
    have e1 : m * 2 ^ 55 * 2 ^ (k + x) = m * 2 ^ k * (2 ^ x * 2 ^ 55) := by rw [Nat.pow_add, Nat.mul_assoc, Nat.mul_left_comm (2 ^ 55), ← Nat.mul_assoc, Nat.mul_comm (2 ^ 55)]
    rw [e1, e, hxz, ← hbz]
    generalize 2 ^ y = A
    generalize (2 ^ 24 : Nat) = B
    rw [Nat.mul_assoc a, Nat.mul_assoc a, Nat.mul_comm A B, Nat.mul_assoc B A]
  have eN : n * 2 ^ (k + x) ≤ T * (2 ^ y * 2 ^ z) := by
    have e1 : n * 2 ^ (k + x) ≤ n * 2 ^ (j + y) := Nat.mul_le_mul_left _ (pow_le_pow_iff2.2 (by omega))
    have e2 : n * 2 ^ (j + y) = T * (2 ^ y * 2 ^ z) := by
      rw [Nat.pow_add, ← Nat.mul_assoc, e', Nat.mul_assoc, Nat.mul_comm (2 ^ z)]
    rw [← e2]; exact e1
  clear hxz
  have U1 : Q * 2 ^ (k + x - j) ≤ (g + 2) * 2 ^ y := by
    refine Nat.le_of_mul_le_mul_right (c := n * 2 ^ j) ?_ pos
    have h1 := Nat.mul_le_mul_right (2 ^ (k + x)) hq1
    rw [Nat.add_mul, eX] at h1
    have h2 : (g + 2) * 2 ^ y * (n * 2 ^ j) = (g + 2) * T * (2 ^ y * 2 ^ z) := by
      rw [e']
      generalize 2 ^ y = A
      generalize 2 ^ z = B
      rw [Nat.mul_assoc, Nat.mul_assoc, Nat.mul_left_comm A T B]
    rw [eQ, h2]
    have h3 : a * 2 ^ 24 + T ≤ (g + 2) * T := by
      rw [Nat.add_mul] at g2 ⊢
      clear eQ h2 h1 eX eN hbz e e' k1 k2 j1 j2 hup hlo hq1 hq2 pos gb g1
      omega
    have h4 := Nat.mul_le_mul_right (2 ^ y * 2 ^ z) h3
    rw [Nat.add_mul] at h4
    exact Nat.le_trans h1 (Nat.le_trans (Nat.add_le_add_left eN _) h4)
  have L1 : (g - 1) * 2 ^ y ≤ Q * 2 ^ (k + x - j) := by
    refine Nat.le_of_mul_le_mul_right (c := n * 2 ^ j) ?_ pos
    have h1 := Nat.mul_le_mul_right (2 ^ (k + x)) hq2
    rw [Nat.add_mul, eX] at h1
    have h2 : (g - 1) * 2 ^ y * (n * 2 ^ j) = (g - 1) * T * (2 ^ y * 2 ^ z) := by
      rw [e']
      generalize 2 ^ y = A
      generalize 2 ^ z = B
      rw [Nat.mul_assoc, Nat.mul_assoc, Nat.mul_left_comm A T B]
    rw [eQ, h2]
    rcases Nat.eq_zero_or_pos g with rfl | hgp
    · simp
    · have h3 : (g - 1) * T + T ≤ a * 2 ^ 24 := by
        have : (g - 1) * T + T = g * T := by
          obtain ⟨c, rfl⟩ : ∃ c, g = c + 1 := ⟨g - 1, by omega⟩
          rw [Nat.add_mul]; simp
        rw [this]; exact g1
      have h4 := Nat.mul_le_mul_right (2 ^ y * 2 ^ z) h3
      rw [Nat.add_mul] at h4
      have h5 := Nat.le_trans h4 (Nat.le_trans h1 (Nat.add_le_add_left eN _))
      exact Nat.le_of_add_le_add_right h5
  obtain ⟨mu, ku, su, eu, ku2⟩ := exists_sc (g + 2) gb y
  obtain ⟨ml, kl, sl, el, kl2⟩ := exists_sc (g - 1) (by clear e e' eQ eX eN U1 L1 hup hlo hq1 hq2 g1 g2 hbz pos; omega) y
  have r1 : r ≤ ku * 2 ^ 52 + mu := hup mu ku su (by rw [Nat.add_zero, eu]; exact U1)
  have r2 : kl * 2 ^ 52 + ml ≤ r := hlo ml kl sl (by clear e e' eQ eX eN U1 L1 hup hlo hq1 hq2 g1 g2 hbz pos eu el; omega) (by rw [Nat.add_zero, el]; exact L1)
  clear U1 L1 eN eX eQ hup hlo hq1 hq2 g1 g2 hbz pos e e' k1 k2 j1 j2
  obtain ⟨m', k', h3, hk3, e3⟩ : ∃ m' k', Sc m' k' ∧ k' ≤ 2045 ∧ r = k' * 2 ^ 52 + m' := by
    have hsu := su.hm
    clear eu el
    have hlt : r < 2047 * 2 ^ 52 := by omega
    by_cases hr : r < 2 ^ 52
    · exact ⟨r, 0, ⟨by omega, .inl rfl⟩, by omega, by omega⟩
    · exact ⟨2 ^ 52 + r % 2 ^ 52, r / 2 ^ 52 - 1, ⟨by omega, .inr (by omega)⟩, by omega, by omega⟩
  subst e3
  refine ⟨m', k', h3, hk3, rfl, ?_, ?_⟩
  · rw [← el]; exact rung_le sl h3 r2
  · rw [← eu]; exact rung_le h3 su r1
end Go.Proofs.YtceepaboaoffkaaDoor.Fl
