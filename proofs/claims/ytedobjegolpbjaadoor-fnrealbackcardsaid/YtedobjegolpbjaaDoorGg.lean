/- Reading a real number, as the document does it: l2Read. Helper text: no statement is claimed here. -/
import Derived.Test.YtedobjegolpbjaaDoorGf
namespace Go.Proofs.YtedobjegolpbjaaDoor
open Go.ChangeShapes Go.WideShapes Go.ChangeAt Go.RowKit Fl

/-- A number doubled: still a number, or beyond all of them. -/
def Up (N j : Nat) (x : Nat) : Prop :=
  (∃ m k, Sc m k ∧ k ≤ 2045 ∧ 0 < m ∧ x = wd false m k ∧ m * 2 ^ k = N * 2 ^ j) ∨ (x = wi false ∧ ∀ m k, Sc m k → k ≤ 2045 → m * 2 ^ k < N * 2 ^ j)
theorem mul_inf : floatBits .mul .f64 (wi false) 4611686018427387904 = some (wi false) := by
  show Ieee.double.mul (wi false) two = _
  unfold Ieee.Format.mul
  rw [read_wi, read_two]
  rfl
theorem Up.step {N j x : Nat} (h : Up N j x) : ∃ r, floatBits .mul .f64 x 4611686018427387904 = some r ∧ Up N (j + 1) r := by
  rcases h with ⟨m, k, g1, g2, g3, rfl, g5⟩ | ⟨rfl, hb⟩
  · obtain ⟨m', k', s1, s2, s3⟩ := sc_up g1
    have hm' : 0 < m' := by
      rcases Nat.eq_zero_or_pos m' with rfl | hp
      · have := @pos_val m k g3; omega
      · exact hp
    have hr : floatBits .mul .f64 (wd false m k) 4611686018427387904 = some (Ieee.double.word false (min (k' * 2 ^ 52 + m') Ieee.double.infRung)) := mul_two g1 g2 s1 g3 s2 false
    have hv : m' * 2 ^ k' = N * 2 ^ (j + 1) := by rw [s2, g5, Nat.pow_succ, Nat.mul_comm 2, Nat.mul_assoc]
    by_cases hk : k' ≤ 2045
    · refine ⟨_, hr, .inl ⟨m', k', s1, hk, hm', ?_, hv⟩⟩
      have h1 := s1.hm
      have : min (k' * 2 ^ 52 + m') Ieee.double.infRung = k' * 2 ^ 52 + m' := by rw [infRung_eq]; omega
      rw [this]; rfl
    · have h52 : 2 ^ 52 ≤ m' := by have := s1.hk; omega
      refine ⟨_, hr, .inr ⟨?_, fun m2 k2 q1 q2 => ?_⟩⟩
      · have : min (k' * 2 ^ 52 + m') Ieee.double.infRung = Ieee.double.infRung := by rw [infRung_eq]; omega
        rw [this]; rfl
      · rw [← hv]
        have a1 : m2 * 2 ^ k2 < 2 ^ (53 + k2) := by rw [Nat.pow_add]; exact Nat.mul_lt_mul_of_pos_right q1.hm (Nat.two_pow_pos _)
        have a2 : 2 ^ (52 + k') ≤ m' * 2 ^ k' := by rw [Nat.pow_add]; exact Nat.mul_le_mul_right _ h52
        have a3 : 2 ^ (53 + k2) ≤ 2 ^ (52 + k') := pow_le_pow_iff2.2 (by omega)
        exact Nat.lt_of_lt_of_le a1 (Nat.le_trans a3 a2)
  · refine ⟨_, mul_inf, .inr ⟨rfl, fun m k q1 q2 => Nat.lt_of_lt_of_le (hb m k q1 q2) ?_⟩⟩
    exact Nat.mul_le_mul_left _ (pow_le_pow_iff2.2 (by omega))
/-- A number halved, where it is even in its units. -/
theorem Up.half {N j x : Nat} (h : ∃ m k, Sc m k ∧ k ≤ 2045 ∧ 0 < m ∧ x = wd false m k ∧ m * 2 ^ k = N * 2 ^ (j + 1)) :
    ∃ r, floatBits .quo .f64 x 4611686018427387904 = some r ∧ ∃ m k, Sc m k ∧ k ≤ 2045 ∧ 0 < m ∧ r = wd false m k ∧ m * 2 ^ k = N * 2 ^ j := by
  obtain ⟨m1, k1, g1, g2, g3, rfl, g5⟩ := h
  rw [Nat.pow_succ, ← Nat.mul_assoc] at g5
  rcases Nat.eq_zero_or_pos k1 with rfl | hk
  · rw [Nat.pow_zero, Nat.mul_one] at g5
    obtain ⟨q, hq⟩ : ∃ q, m1 = 2 * q := ⟨N * 2 ^ j, by omega⟩
    subst hq
    obtain ⟨s1, s2⟩ := Fl.hlv0 g1 (by omega) false
    exact ⟨_, s2, q, 0, s1, by omega, by omega, rfl, by omega⟩
  · obtain ⟨k2, rfl⟩ : ∃ k2, k1 = k2 + 1 := ⟨k1 - 1, by omega⟩
    obtain ⟨s1, s2⟩ := Fl.hlv g1 g2 false
    refine ⟨_, s2, m1, k2, s1, by omega, g3, rfl, ?_⟩
    rw [Nat.pow_succ, ← Nat.mul_assoc] at g5
    omega

/-- What l2Read answers. -/
def L2R (t : List UInt8) (x : Nat) (b : Bool) : Prop := x < 2 ^ 64 ∧ ((b = true ∧ ∃ m k, Sc m k ∧ k ≤ 2045 ∧ 0 < m ∧ x = wd false m k ∧ t = oT m k) ∨ (b = false ∧ ∀ m k, Sc m k → k ≤ 2045 → 0 < m → t ≠ oT m k))
def L2d (t : List UInt8) (w : World) (e : Ending) (w' : World) : Prop := ∃ (x : Nat) (b : Bool), e = .returned (.tuple #[.float .f64 x, .bool b]) ∧ L2R t x b ∧ w' = w
theorem l2_no {t : List UInt8} (h : ∀ m k, Sc m k → k ≤ 2045 → 0 < m → t ≠ oT m k) : L2R t 0 false := ⟨by omega, .inr ⟨rfl, h⟩⟩
/-- The text of a number, cut at its first sign. -/
theorem oT_cut {l1 l2 : List UInt8} {m k : Nat} (h : (42 : UInt8) ∉ l1) (e : l1 ++ 42 :: l2 = oT m k) : l1 = Lib.itoa (oN m k) ∧ l2 = 50 :: 94 :: Lib.itoa (oE m k) := by
  rw [oT_form] at e
  exact first_of h (itoa_no42 _) e
theorem itoa_ne (z : Int) : 1 ≤ (Lib.itoa z).length := by
  rcases Int.lt_or_le z 0 with h | h
  · obtain ⟨u, hu⟩ : ∃ u : Nat, z = -(u : Int) := ⟨z.natAbs, by omega⟩
    subst hu
    rw [Lib.itoa_neg u (by omega)]; simp
  · obtain ⟨u, rfl⟩ := Int.eq_ofNat_of_zero_le h
    rw [Lib.itoa_nonneg]
    have := digits_ne u
    cases hd : Lib.decDigits u with
    | nil => exact absurd hd this
    | cons a b => simp
/-- What the numerals must be. -/
structure Good (n E : Int) : Prop where
  n1 : 1 ≤ n
  n2 : n ≤ 9007199254740991
  odd : n % 2 = 1
  e1 : -1074 ≤ E
  e2 : E ≤ 1023
theorem good_of {m k : Nat} (h : Sc m k) (hk : k ≤ 2045) (hm : 0 < m) : Good (oN m k) (oE m k) := by
  have a := oN_lt h hm
  have b := oE_in h hk hm
  have c := oE_hi h hk hm
  have d := (oddp_val (m * 2 ^ k) (pos_val hm)).2
  have d : oN m k % 2 = 1 := d
  exact ⟨by omega, by omega, by omega, by omega, by omega⟩
theorem num_back {l : List UInt8} {n : Int} (h : NumR l n true) : l = Lib.itoa n := by
  rcases h with ⟨-, h, -⟩ | ⟨h, -⟩
  · exact h
  · cases h
theorem num_bad {l : List UInt8} {n : Int} (h : NumR l n false) (z : Int) (hz : z.natAbs < 10 ^ 17) : l ≠ Lib.itoa z := by
  rcases h with ⟨h, -⟩ | ⟨-, -, h⟩
  · cases h
  · exact h z hz
theorem ten17 : (10 : Nat) ^ 17 = 100000000000000000 := by decide
theorem bad_left {l1 r : List UInt8} {n : Int} (h42 : (42 : UInt8) ∉ l1) (h : NumR l1 n false) : ∀ m k, Sc m k → k ≤ 2045 → 0 < m → l1 ++ 42 :: 50 :: 94 :: r ≠ oT m k := by
  intro m k h1 h2 h3 e
  have a := oN_lt h1 h3
  exact num_bad h _ (by rw [ten17]; omega) (oT_cut h42 e).1
theorem bad_right {l1 r : List UInt8} {n : Int} (h42 : (42 : UInt8) ∉ l1) (h : NumR r n false) : ∀ m k, Sc m k → k ≤ 2045 → 0 < m → l1 ++ 42 :: 50 :: 94 :: r ≠ oT m k := by
  intro m k h1 h2 h3 e
  have a := oE_in h1 h2 h3
  have := (oT_cut h42 e).2
  simp only [List.cons.injEq, true_and] at this
  exact num_bad h _ (by rw [ten17]; omega) this
theorem bad_val {l1 r : List UInt8} {n E : Int} (h42 : (42 : UInt8) ∉ l1) (h : NumR l1 n true) (h' : NumR r E true) (hg : ¬ Good n E) : ∀ m k, Sc m k → k ≤ 2045 → 0 < m → l1 ++ 42 :: 50 :: 94 :: r ≠ oT m k := by
  intro m k h1 h2 h3 e
  have c := oT_cut h42 e
  simp only [List.cons.injEq, true_and] at c
  have a := itoa_inj ((num_back h).symm.trans c.1)
  have b := itoa_inj ((num_back h').symm.trans c.2)
  rw [a, b] at hg
  exact hg (good_of h1 h2 h3)
/-- At the end. -/
theorem l2_end {l1 r : List UInt8} {n E : Int} {N : Nat} (h42 : (42 : UInt8) ∉ l1) (h : NumR l1 n true) (h' : NumR r E true) (hg : Good n E) (hN : n = N) {x : Nat} (hU : Up N (1074 + E).toNat x) :
    L2R (l1 ++ 42 :: 50 :: 94 :: r) x (ord x (wi false) == some .lt) := by
  rcases hU with ⟨m, k, g1, g2, g3, rfl, g5⟩ | ⟨rfl, hb⟩
  · have ho := oddp_of (n := N) (t := (1074 + E).toNat) (by have := hg.odd; omega)
    rw [← g5] at ho
    have e1 : oN m k = N := by unfold oN; rw [ho]
    have e2 : oE m k = E := by unfold oE; rw [ho]; have := hg.e1; show (((1074 + E).toNat : Nat) : Int) - 1074 = E; omega
    have hlt : (ord (wd false m k) (wi false) == some .lt) = true := by simp only [ord, Go.FloatKind.format, order_wd_wi g1 g2]; rfl
    rw [hlt]
    refine ⟨wd_lt g1 g2 false, .inl ⟨rfl, m, k, g1, g2, g3, rfl, ?_⟩⟩
    rw [oT_form, e1, e2, num_back h, num_back h', hN]
  · have hlt : (ord (wi false) (wi false) == some .lt) = false := by simp only [ord, Go.FloatKind.format, order_wi_wi]; rfl
    rw [hlt]
    refine ⟨wi_lt false, .inr ⟨rfl, fun m k h1 h2 h3 e => ?_⟩⟩
    have c := oT_cut h42 e
    simp only [List.cons.injEq, true_and] at c
    have a := itoa_inj ((num_back h).symm.trans c.1)
    have b := itoa_inj ((num_back h').symm.trans c.2)
    have v := val_o (k := k) h3
    have hNN : N = oN m k := by omega
    have := hb m k h1 h2
    rw [hNN, b, v] at this
    exact Nat.lt_irrefl _ this
end Go.Proofs.YtedobjegolpbjaaDoor
