/- Bits of words, as plain mathematics. Helper text: no statement is claimed here. -/
import Derived.Laws.BitsAllLaws
namespace Go.Proofs.YtljhpagpohihcaaDoor

/-- Bit k of a word. -/
def bitN (w k : Nat) : Bool := decide (w / 2 ^ k % 2 = 1)
/-- A word with bit k put. -/
def putN (w k : Nat) (b : Bool) : Nat := if bitN w k = b then w else if b then w + 2 ^ k else w - 2 ^ k
theorem bitN_test (w k : Nat) : bitN w k = w.testBit k := by
  rw [Nat.testBit_eq_decide_div_mod_eq, bitN]
theorem or_pow : ∀ (k w : Nat), w.testBit k = false → w ||| 2 ^ k = w + 2 ^ k
  | 0, w, h => by
    have h0 : w % 2 = 0 := by
      rw [Nat.testBit_zero] at h
      have := of_decide_eq_false h
      omega
    have d : (w ||| 2 ^ 0) / 2 = w / 2 := by rw [Nat.or_div_two]; simp
    have m : (w ||| 2 ^ 0) % 2 = 1 := by rw [Nat.or_mod_two_eq_one]; right; rfl
    have : (2 : Nat) ^ 0 = 1 := rfl
    omega
  | k + 1, w, h => by
    rw [Nat.testBit_add_one] at h
    have ih := or_pow k (w / 2) h
    have e : (2 : Nat) ^ (k + 1) / 2 = 2 ^ k := by rw [Nat.pow_succ]; omega
    have d : (w ||| 2 ^ (k + 1)) / 2 = w / 2 + 2 ^ k := by rw [Nat.or_div_two, e, ih]
    have p : (2 : Nat) ^ (k + 1) = 2 * 2 ^ k := by rw [Nat.pow_succ]; omega
    have m : (w ||| 2 ^ (k + 1)) % 2 = w % 2 := by
      have a := Nat.or_mod_two_eq_one (a := w) (b := 2 ^ (k + 1))
      have b : ¬ 2 ^ (k + 1) % 2 = 1 := by omega
      by_cases hw : w % 2 = 1
      · rw [hw]; exact a.2 (.inl hw)
      · have : ¬ (w ||| 2 ^ (k + 1)) % 2 = 1 := fun hh => by rcases a.1 hh with h | h <;> contradiction
        omega
    omega
theorem putN_true (w k : Nat) : w ||| 2 ^ k = putN w k true := by
  unfold putN
  rw [bitN_test]
  by_cases h : w.testBit k = true
  · rw [if_pos h]
    apply Nat.eq_of_testBit_eq
    intro i
    rw [Nat.testBit_or, Nat.testBit_two_pow]
    by_cases hi : k = i
    · subst hi; simp [h]
    · simp [hi]
  · rw [if_neg h, if_pos rfl]
    have h0 : w.testBit k = false := by simpa using h
    exact or_pow k w h0
theorem two_pow_le_of_test {w k : Nat} (h : w.testBit k = true) : 2 ^ k ≤ w := Nat.ge_two_pow_of_testBit h
theorem putN_false (w k : Nat) (hk : k < 64) (hw : w < 18446744073709551616) : w &&& (18446744073709551615 - 2 ^ k) = putN w k false := by
  have hm : ∀ i, (18446744073709551615 - 2 ^ k).testBit i = (decide (i < 64) && !decide (k = i)) := by
    intro i
    have := Nat.testBit_two_pow_sub_succ (x := 2 ^ k) (n := 64) (Nat.pow_lt_pow_right (by decide) hk) i
    rw [Nat.testBit_two_pow] at this
    rw [← this]
    congr 1
    omega
  have hw' : ∀ i, w.testBit i = true → i < 64 := by
    intro i hi
    have h1 := Nat.ge_two_pow_of_testBit hi
    rcases Nat.lt_or_ge i 64 with h | h
    · exact h
    · have : 2 ^ 64 ≤ 2 ^ i := Nat.pow_le_pow_right (by decide) h
      omega
  have hand : ∀ i, (w &&& (18446744073709551615 - 2 ^ k)).testBit i = (w.testBit i && !decide (k = i)) := by
    intro i
    rw [Nat.testBit_and, hm]
    cases hi : w.testBit i
    · rfl
    · simp [hw' i hi]
  unfold putN
  rw [bitN_test]
  by_cases h : w.testBit k = false
  · rw [if_pos h]
    apply Nat.eq_of_testBit_eq
    intro i
    rw [hand]
    by_cases hi : k = i
    · subst hi; simp [h]
    · simp [hi]
  · have h1 : w.testBit k = true := by simpa using h
    rw [if_neg h, if_neg (by decide)]
    have e : (w &&& (18446744073709551615 - 2 ^ k)) ||| 2 ^ k = w := by
      apply Nat.eq_of_testBit_eq
      intro i
      rw [Nat.testBit_or, hand, Nat.testBit_two_pow]
      by_cases hi : k = i
      · subst hi; simp [h1]
      · simp [hi]
    have := or_pow k (w &&& (18446744073709551615 - 2 ^ k)) (by rw [hand]; simp)
    omega
theorem putN_test (w k : Nat) (b : Bool) (i : Nat) : (putN w k b).testBit i = if i = k then b else w.testBit i := by
  cases b
  · unfold putN
    rw [bitN_test]
    by_cases h : w.testBit k = false
    · rw [if_pos h]
      by_cases hi : i = k
      · subst hi; simp [h]
      · simp [hi]
    · have h1 : w.testBit k = true := by simpa using h
      rw [if_neg h, if_neg (by decide)]
      have e : w - 2 ^ k = w ^^^ 2 ^ k := by
        have hx : (w ^^^ 2 ^ k) ||| 2 ^ k = w := by
          apply Nat.eq_of_testBit_eq
          intro j
          rw [Nat.testBit_or, Nat.testBit_xor, Nat.testBit_two_pow]
          by_cases hj : k = j
          · subst hj; simp [h1]
          · simp [hj]
        have := or_pow k (w ^^^ 2 ^ k) (by rw [Nat.testBit_xor, Nat.testBit_two_pow, h1]; simp)
        omega
      rw [e, Nat.testBit_xor, Nat.testBit_two_pow]
      by_cases hi : i = k
      · subst hi; simp [h1]
      · have : ¬ k = i := fun e => hi e.symm
        simp [hi, this]
  · rw [← putN_true, Nat.testBit_or, Nat.testBit_two_pow]
    by_cases hi : i = k
    · subst hi; simp
    · have : ¬ k = i := fun e => hi e.symm
      simp [hi, this]
theorem putN_lt {w k n : Nat} (b : Bool) (hk : k < n) (hw : w < 2 ^ n) : putN w k b < 2 ^ n := by
  apply Nat.lt_pow_two_of_testBit
  intro i hi
  rw [putN_test, if_neg (by omega)]
  exact Nat.testBit_lt_two_pow (Nat.lt_of_lt_of_le hw (Nat.pow_le_pow_right (by decide) hi))
theorem putN_same (w k : Nat) (b : Bool) : bitN (putN w k b) k = b := by rw [bitN_test, putN_test, if_pos rfl]
theorem putN_other (w k j : Nat) (b : Bool) (h : j ≠ k) : bitN (putN w k b) j = bitN w j := by rw [bitN_test, putN_test, if_neg h, bitN_test]
theorem putN_back (w k : Nat) (b : Bool) : putN (putN w k b) k (bitN w k) = w := by
  apply Nat.eq_of_testBit_eq
  intro i
  rw [putN_test, putN_test, bitN_test]
  by_cases hi : i = k
  · rw [if_pos hi, hi]
  · rw [if_neg hi, if_neg hi]
end Go.Proofs.YtljhpagpohihcaaDoor
