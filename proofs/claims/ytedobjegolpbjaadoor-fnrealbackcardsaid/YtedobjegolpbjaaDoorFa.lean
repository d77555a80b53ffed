/- Real numbers of 64 bits: what is exact. Helper text: no statement is claimed here. -/
import Derived.Laws.FloatArith
namespace Go.Proofs.YtedobjegolpbjaaDoor.Fl
open Ieee

/-- A magnitude as the format keeps it. -/
structure Sc (m k : Nat) : Prop where
  hm : m < 2 ^ 53
  hk : k = 0 ∨ 2 ^ 52 ≤ m

/-- The word of a sign, a significand and a place. -/
def wd (s : Bool) (m k : Nat) : Nat := double.word s (k * 2 ^ 52 + m)

/-- The word of an infinity. -/
def wi (s : Bool) : Nat := double.word s double.infRung

theorem infRung_eq : double.infRung = 2047 * 2 ^ 52 := rfl
theorem binade_eq : double.binade = 2 ^ 52 := rfl
theorem signWeight_eq : double.signWeight = 2 ^ 63 := rfl
theorem leastPlace_eq : double.leastPlace = -1074 := rfl

theorem word_sign (s : Bool) {r : Nat} (h : r < 2 ^ 63) : (double.word s r / double.signWeight % 2 == 1) = s := by
  rw [signWeight_eq]
  cases s <;> simp [Format.word, signWeight_eq] <;> omega

theorem word_rung (s : Bool) {r : Nat} (h : r < 2 ^ 63) : double.word s r % double.signWeight = r := by
  rw [signWeight_eq]
  cases s <;> simp [Format.word, signWeight_eq] <;> omega

theorem read_wd {m k : Nat} (h : Sc m k) (hk : k ≤ 2045) (s : Bool) : double.read (wd s m k) = .number s m ((k : Int) - 1074) := by
  have h1 := h.hm
  have h2 := h.hk
  have hr : k * 2 ^ 52 + m < 2 ^ 63 := by omega
  unfold wd Format.read
  rw [word_sign s hr, word_rung s hr, binade_eq, infRung_eq, leastPlace_eq]
  by_cases hs : m < 2 ^ 52
  · have : k = 0 := by omega
    subst this
    simp [hs]
  · have a1 : ¬ k * 2 ^ 52 + m < 2 ^ 52 := by omega
    have a2 : k * 2 ^ 52 + m < 2047 * 2 ^ 52 := by omega
    have a3 : (k * 2 ^ 52 + m) % 2 ^ 52 = m - 2 ^ 52 := by omega
    have a4 : (k * 2 ^ 52 + m) / 2 ^ 52 = k + 1 := by omega
    have a5 : 2 ^ 52 + (m - 2 ^ 52) = m := by omega
    have a6 : (-1074 : Int) + ((k + 1 - 1 : Nat) : Int) = (k : Int) - 1074 := by omega
    simp only [a1, if_false, a2, if_true, a3, a4, a5, a6]

theorem read_wi (s : Bool) : double.read (wi s) = .infinity s := by
  cases s <;> rfl

theorem pow_lt_pow_iff2 {a b : Nat} : 2 ^ a < 2 ^ b ↔ a < b := Nat.pow_lt_pow_iff_right (by omega)
theorem pow_le_pow_iff2 {a b : Nat} : 2 ^ a ≤ 2 ^ b ↔ a ≤ b := Nat.pow_le_pow_iff_right (by omega)

theorem cut_exact (s : Bool) (m d : Nat) (hm : 0 < m) : Toward.even.cut s (m * 2 ^ d) d = m := by
  have hp : 0 < 2 ^ d := Nat.two_pow_pos d
  have hne : m * 2 ^ d ≠ 0 := Nat.mul_ne_zero (by omega) (by omega)
  have hd : d ≤ (m * 2 ^ d).log2 := (Nat.le_log2 hne).2 (Nat.le_mul_of_pos_left _ hm)
  unfold Toward.cut
  have hmin : min d ((m * 2 ^ d).log2 + 2) = d := by omega
  simp only [hmin, Nat.shiftLeft_eq, Nat.one_mul, Nat.mul_div_cancel _ hp, Nat.mul_mod_left]
  have : (2 ^ d == 2 * 0) = false := by simp
  simp [this]

theorem cut_none (s : Bool) (n : Nat) : Toward.even.cut s n 0 = n := by
  unfold Toward.cut
  simp [Nat.mod_one]

theorem nearest_sc {m k : Nat} (h : Sc m k) (hm : 0 < m) (s : Bool) (mag : Nat) (a b : Nat) (hab : a = 0 ∨ b = 0) (e : mag * 2 ^ a = m * 2 ^ (k + b)) :
    double.nearest s mag ((a : Int) - b - 1074) = double.word s (min (k * 2 ^ 52 + m) double.infRung) := by
  have h1 := h.hm
  have h2 := h.hk
  have pa : 0 < 2 ^ a := Nat.two_pow_pos a
  have pkb : 0 < 2 ^ (k + b) := Nat.two_pow_pos _
  have hne : mag ≠ 0 := by
    rintro rfl
    have : 0 < m * 2 ^ (k + b) := Nat.mul_pos hm pkb
    omega
  have l1 := Nat.log2_self_le hne
  have l2 := @Nat.lt_log2_self mag
  have up : 2 ^ (mag.log2 + a) ≤ m * 2 ^ (k + b) := by
    rw [← e, Nat.pow_add]; exact Nat.mul_le_mul_right _ l1
  have dn : m * 2 ^ (k + b) < 2 ^ (mag.log2 + 1 + a) := by
    rw [← e, Nat.pow_add _ (mag.log2 + 1)]; exact Nat.mul_lt_mul_of_pos_right l2 pa
  have key : max ((a : Int) - b - 1074 + mag.log2 - (52 : Nat)) (-1074) = (k : Int) - 1074 := by
    by_cases hs : m < 2 ^ 52
    · have hk0 : k = 0 := by omega
      subst hk0
      have : m * 2 ^ (0 + b) < 2 ^ (52 + (0 + b)) := by rw [Nat.pow_add 2 52]; exact Nat.mul_lt_mul_of_pos_right hs pkb
      have := pow_lt_pow_iff2.1 (Nat.lt_of_le_of_lt up this)
      omega
    · have t1 : 2 ^ (52 + (k + b)) ≤ m * 2 ^ (k + b) := by rw [Nat.pow_add 2 52]; exact Nat.mul_le_mul_right _ (by omega)
      have t2 : m * 2 ^ (k + b) < 2 ^ (53 + (k + b)) := by rw [Nat.pow_add 2 53]; exact Nat.mul_lt_mul_of_pos_right h1 pkb
      have := pow_lt_pow_iff2.1 (Nat.lt_of_le_of_lt up t2)
      have := pow_lt_pow_iff2.1 (Nat.lt_of_le_of_lt t1 dn)
      omega
  unfold Format.nearest
  rw [if_neg hne]
  have hf : (double.fractionBits : Nat) = 52 := rfl
  rw [leastPlace_eq, hf]
  simp only [key, binade_eq]
  have kept : Toward.even.cut s (mag <<< ((a : Int) - b - 1074 - ((k : Int) - 1074)).toNat) ((k : Int) - 1074 - ((a : Int) - b - 1074)).toNat = m := by
    by_cases hc : b + k ≤ a
    · obtain ⟨c, rfl⟩ := Nat.exists_eq_add_of_le hc
      have e1 : (((b + k + c : Nat) : Int) - b - 1074 - ((k : Int) - 1074)).toNat = c := by omega
      have e2 : ((k : Int) - 1074 - (((b + k + c : Nat) : Int) - b - 1074)).toNat = 0 := by omega
      rw [e1, e2, cut_none, Nat.shiftLeft_eq]
      have : mag * 2 ^ c * 2 ^ (k + b) = m * 2 ^ (k + b) := by
        rw [← e, Nat.mul_assoc, ← Nat.pow_add]; congr 2; omega
      exact Nat.eq_of_mul_eq_mul_right pkb this
    · obtain ⟨d, hd⟩ := Nat.exists_eq_add_of_le (Nat.le_of_not_le hc)
      have e1 : ((a : Int) - b - 1074 - ((k : Int) - 1074)).toNat = 0 := by omega
      have e2 : ((k : Int) - 1074 - ((a : Int) - b - 1074)).toNat = d := by omega
      have : mag * 2 ^ a = m * 2 ^ d * 2 ^ a := by
        rw [e, Nat.mul_assoc, ← Nat.pow_add]; congr 2; omega
      have := Nat.eq_of_mul_eq_mul_right pa this
      rw [e1, e2, Nat.shiftLeft_zero, this, cut_exact s m d hm]
  rw [kept]
  have : ((k : Int) - 1074 - (-1074)).toNat = k := by omega
  rw [this]


/-- Doubling and halving. -/
theorem sc_up {m k : Nat} (h : Sc m k) : ∃ m' k', Sc m' k' ∧ m' * 2 ^ k' = 2 * (m * 2 ^ k) ∧ k' ≤ k + 1 := by
  by_cases hs : 2 ^ 52 ≤ m
  · exact ⟨m, k + 1, ⟨h.hm, .inr hs⟩, by rw [Nat.pow_succ]; rw [← Nat.mul_assoc, Nat.mul_comm], by omega⟩
  · have : k = 0 := by have := h.hk; omega
    subst this
    exact ⟨2 * m, 0, ⟨by omega, .inl rfl⟩, by simp, by omega⟩

def two : Nat := 2 ^ 62
theorem read_two : double.read two = .number false (2 ^ 52) (-51) := rfl

theorem mul_two {m k m' k' : Nat} (h : Sc m k) (hk : k ≤ 2045) (h' : Sc m' k') (hm : 0 < m) (e : m' * 2 ^ k' = 2 * (m * 2 ^ k)) (s : Bool) :
    double.mul (wd s m k) two = some (double.word s (min (k' * 2 ^ 52 + m') double.infRung)) := by
  unfold Format.mul
  rw [read_wd h hk s, read_two]
  have hm' : 0 < m' := by
    rcases Nat.eq_zero_or_pos m' with rfl | h
    · have : 0 < 2 * (m * 2 ^ k) := Nat.mul_pos (by omega) (Nat.mul_pos hm (Nat.two_pow_pos k))
      omega
    · exact h
  simp only [Datum.product, Option.map_some, Format.write, Bool.xor_false]
  congr 1
  by_cases hk51 : 51 ≤ k
  · obtain ⟨c, rfl⟩ := Nat.exists_eq_add_of_le hk51
    have : ((51 + c : Nat) : Int) - 1074 + -51 = (c : Int) - (0 : Nat) - 1074 := by omega
    rw [this]
    refine nearest_sc h' hm' s _ _ _ (.inr rfl) ?_
    rw [Nat.add_zero, e]
    grind
  · have : (k : Int) - 1074 + -51 = ((0 : Nat) : Int) - ((51 - k : Nat) : Int) - 1074 := by omega
    rw [this]
    refine nearest_sc h' hm' s _ _ _ (.inl rfl) ?_
    rw [Nat.pow_add 2 k' (51 - k), ← Nat.mul_assoc, e]
    have : 2 ^ k * 2 ^ (51 - k) = 2 ^ 51 := by rw [← Nat.pow_add]; congr 1; omega
    grind

theorem div_two {m k m' k' : Nat} (h : Sc m k) (hk : k ≤ 2045) (h' : Sc m' k') (hm : 0 < m) (e : 2 * (m' * 2 ^ k') = m * 2 ^ k) (s : Bool) :
    double.div (wd s m k) two = some (double.word s (min (k' * 2 ^ 52 + m') double.infRung)) := by
  unfold Format.div
  rw [read_wd h hk s, read_two]
  have hm' : 0 < m' := by
    rcases Nat.eq_zero_or_pos m' with rfl | h
    · have : 0 < m * 2 ^ k := Nat.mul_pos hm (Nat.two_pow_pos k)
      omega
    · exact h
  have hl : m.log2 ≤ 52 := by
    have := (Nat.log2_lt (Nat.pos_iff_ne_zero.1 hm)).2 h.hm
    omega
  have l52 : (2 ^ 52 : Nat).log2 = 52 := Nat.log2_two_pow
  have hf : (double.fractionBits : Nat) = 52 := rfl
  simp only [Datum.quotient, Bool.xor_false, hf, l52, Nat.shiftLeft_eq]
  obtain ⟨d, hd⟩ : ∃ d, 52 + 2 + 52 - m.log2 = 54 + d := ⟨52 - m.log2, by omega⟩
  rw [hd]
  have hpow : m * 2 ^ (54 + d) = (m * 2 ^ (2 + d)) * 2 ^ 52 := by grind
  have hp : 0 < 2 ^ 52 := by omega
  rw [hpow, Nat.mul_div_cancel _ hp, Nat.mul_mod_left]
  simp only [bne_self_eq_false, Bool.toNat_false, Nat.add_zero]
  have : ¬ (2 ^ 52 = 0) := by omega
  simp only [this, if_false, Option.map_some]
  congr 1
  have hdle : d ≤ 52 := by omega
  by_cases hk1 : 4 + d ≤ k
  · obtain ⟨c, rfl⟩ := Nat.exists_eq_add_of_le hk1
    have : ((4 + d + c : Nat) : Int) - 1074 - -51 - ((54 + d : Nat) : Int) - 1 = (c : Int) - (0 : Nat) - 1074 := by omega
    rw [this]
    refine nearest_sc h' hm' s _ _ _ (.inr rfl) ?_
    rw [Nat.add_zero]
    grind
  · have : (k : Int) - 1074 - -51 - ((54 + d : Nat) : Int) - 1 = ((0 : Nat) : Int) - ((4 + d - k : Nat) : Int) - 1074 := by omega
    rw [this]
    refine nearest_sc h' hm' s _ _ _ (.inl rfl) ?_
    have : 2 ^ k * 2 ^ (4 + d - k) = 2 ^ (4 + d) := by rw [← Nat.pow_add]; congr 1; omega
    have e2 : 2 * (m' * 2 ^ (k' + (4 + d - k))) = m * 2 ^ (4 + d) := by grind
    grind

/-- The value with its sign, in units of the least place. -/
def sg (s : Bool) (v : Nat) : Int := if s then -(v : Int) else (v : Int)

theorem signed_eq (s : Bool) (m u : Nat) : signed s m u = sg s (m * 2 ^ u) := by
  cases s <;> simp [signed, sg, Nat.shiftLeft_eq]

theorem sg_scale (s : Bool) (m c : Nat) : sg s (m * c) = sg s m * c := by
  cases s <;> simp [sg, Int.neg_mul]

theorem compare_scale (x y : Int) (c : Nat) (hc : 0 < c) : compare (x * c) (y * c) = compare x y := by
  have hc' : (0 : Int) < c := by omega
  simp only [compare, compareOfLessAndEq, Int.mul_lt_mul_right hc']
  have : (x * (c : Int) = y * c) ↔ x = y := ⟨fun h => Int.eq_of_mul_eq_mul_right (by omega) h, fun h => by rw [h]⟩
  simp only [this]

theorem order_wd {m k n j : Nat} (h : Sc m k) (hk : k ≤ 2045) (h' : Sc n j) (hj : j ≤ 2045) (s t : Bool) :
    double.order (wd s m k) (wd t n j) = some (compare (sg s (m * 2 ^ k)) (sg t (n * 2 ^ j))) := by
  unfold Format.order
  rw [read_wd h hk s, read_wd h' hj t]
  simp only [Datum.order, signed_eq]
  congr 1
  have hp : 0 < 2 ^ (min k j) := Nat.two_pow_pos _
  have e1 : ((k : Int) - 1074 - min ((k : Int) - 1074) ((j : Int) - 1074)).toNat = k - min k j := by omega
  have e2 : ((j : Int) - 1074 - min ((k : Int) - 1074) ((j : Int) - 1074)).toNat = j - min k j := by omega
  rw [e1, e2, ← compare_scale _ _ _ hp, ← sg_scale, ← sg_scale, Nat.mul_assoc, ← Nat.pow_add, Nat.mul_assoc, ← Nat.pow_add]
  have e3 : k - min k j + min k j = k := by omega
  have e4 : j - min k j + min k j = j := by omega
  rw [e3, e4]

end Go.Proofs.YtedobjegolpbjaaDoor.Fl
