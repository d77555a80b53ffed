/- The shapes of the texts of operands. Helper text: no statement is claimed here. -/
import Derived.Test.YtkffgjagiihppaaDoorTb
namespace Go.Proofs.YtkffgjagiihppaaDoor
open Go.RowKit

/-- A sign and a number: none and u, or '-' and a u that is not 0. -/
def Sgn (sg : List UInt8) (u : Nat) (N : Int) : Prop := (sg = [] ∧ N = u) ∨ (sg = [45] ∧ 1 ≤ u ∧ N = -(u : Int))
def ShWord (t : List UInt8) (K N P : Int) : Prop := K = 13 ∧ P = 0 ∧ ∃ i : Nat, i < 4 ∧ N = i ∧ t = wordL i
def ShDev (t : List UInt8) (K N P : Int) : Prop := P = 0 ∧ ∃ k u : Nat, 1 ≤ k ∧ k ≤ 10 ∧ K = k ∧ N = u ∧ u < 64 ∧ t = rL k ++ Lib.decDigits u
def ShInt (t : List UInt8) (K N P : Int) : Prop := K = 11 ∧ P = 0 ∧ ∃ (sg : List UInt8) (u : Nat), u ≤ 32768 ∧ Sgn sg u N ∧ t = sg ++ Lib.decDigits u
def ShDec (t : List UInt8) (K N P : Int) : Prop := K = 12 ∧ ∃ (sg l1 l2 : List UInt8) (u : Nat), P = l2.length ∧ 1 ≤ l2.length ∧ l2.length ≤ 6 ∧ Sgn sg u N ∧ t = sg ++ (l1 ++ 46 :: l2) ∧ l1 ≠ [] ∧ (∀ c ∈ l1 ++ l2, isD c = true) ∧ valN (l1 ++ l2) = u ∧ (l1 ++ l2).length ≤ 9
def Sh (t : List UInt8) (K N P : Int) : Prop := ShWord t K N P ∨ ShDev t K N P ∨ ShInt t K N P ∨ ShDec t K N P

theorem shape_of {K N P : Int} (h : okB K N P = true) : Sh (txt K N P) K N P := by
  unfold txt
  rw [if_pos h]
  by_cases h1 : K = 11
  · subst h1
    obtain ⟨a, b, rfl⟩ := okB_int h
    refine .inr (.inr (.inl ⟨rfl, rfl, ?_⟩))
    simp only [if_true]
    by_cases hn : N < 0
    · obtain ⟨u, rfl⟩ : ∃ u : Nat, N = -(u : Int) := ⟨N.natAbs, by omega⟩
      exact ⟨[45], u, by omega, .inr ⟨rfl, by omega, rfl⟩, by rw [Lib.itoa_neg u (by omega)]; rfl⟩
    · obtain ⟨u, rfl⟩ := Int.eq_ofNat_of_zero_le (show 0 ≤ N by omega)
      exact ⟨[], u, by omega, .inl ⟨rfl, rfl⟩, by rw [Lib.itoa_nonneg]; rfl⟩
  by_cases h2 : K = 12
  · subst h2
    obtain ⟨a, b, c, d⟩ := okB_dec h
    obtain ⟨p, rfl⟩ := Int.eq_ofNat_of_zero_le (show 0 ≤ P by omega)
    refine .inr (.inr (.inr ⟨rfl, ?_⟩))
    simp only [show ((12 : Int) = 11) = False by simp, if_false, if_true]
    rw [show (p : Int).toNat = p by omega]
    by_cases hn : N < 0
    · obtain ⟨u, rfl⟩ : ∃ u : Nat, N = -(u : Int) := ⟨N.natAbs, by omega⟩
      obtain ⟨l1, l2, e1, e2, e3, e4⟩ := pt_parts p _ (pad_len p u (by omega) (by omega)).1
      refine ⟨[45], l1, l2, u, by omega, by omega, by omega, .inr ⟨rfl, by omega, rfl⟩, ?_, e4, by rw [e2]; exact pad_all p u, by rw [e2]; exact pad_val p u, by rw [e2]; exact (pad_len p u (by omega) (by omega)).2⟩
      unfold decT
      rw [if_pos hn, show (-(u : Int)).natAbs = u by omega, e1]; rfl
    · obtain ⟨u, rfl⟩ := Int.eq_ofNat_of_zero_le (show 0 ≤ N by omega)
      obtain ⟨l1, l2, e1, e2, e3, e4⟩ := pt_parts p _ (pad_len p u (by omega) (by omega)).1
      refine ⟨[], l1, l2, u, by omega, by omega, by omega, .inl ⟨rfl, rfl⟩, ?_, e4, by rw [e2]; exact pad_all p u, by rw [e2]; exact pad_val p u, by rw [e2]; exact (pad_len p u (by omega) (by omega)).2⟩
      unfold decT
      rw [if_neg hn, show (u : Int).toNat = u by omega, e1]; rfl
  by_cases h3 : K = 13
  · subst h3
    obtain ⟨a, b, rfl⟩ := okB_word h
    obtain ⟨i, rfl⟩ := Int.eq_ofNat_of_zero_le a
    exact .inl ⟨rfl, rfl, i, by omega, rfl, by simp⟩
  · obtain ⟨a, b, -, rfl, c, d⟩ := okB_device h1 h2 h3 h
    obtain ⟨u, rfl⟩ := Int.eq_ofNat_of_zero_le a
    obtain ⟨k, rfl⟩ := Int.eq_ofNat_of_zero_le (show 0 ≤ K by omega)
    refine .inr (.inl ⟨rfl, k, u, by omega, by omega, rfl, rfl, by omega, ?_⟩)
    simp only [h1, h2, h3, if_false]
    rw [kz_nat k (by omega) (by omega), Lib.itoa_nonneg]

/-! What the first bytes say. -/
theorem rL_one {k : Nat} (h1 : 1 ≤ k) (h2 : k ≤ 10) : ∃ c, rL k = [c] ∧ 65 ≤ c.toNat ∧ c.toNat ≤ 90 := by
  have : k = 1 ∨ k = 2 ∨ k = 3 ∨ k = 4 ∨ k = 5 ∨ k = 6 ∨ k = 7 ∨ k = 8 ∨ k = 9 ∨ k = 10 := by omega
  rcases this with rfl | rfl | rfl | rfl | rfl | rfl | rfl | rfl | rfl | rfl <;> exact ⟨_, rfl, by decide, by decide⟩
theorem rL_inj {j k : Nat} (h1 : 1 ≤ j) (h2 : j ≤ 10) (h3 : 1 ≤ k) (h4 : k ≤ 10) (h : rL j = rL k) : j = k := by
  have a : j = 1 ∨ j = 2 ∨ j = 3 ∨ j = 4 ∨ j = 5 ∨ j = 6 ∨ j = 7 ∨ j = 8 ∨ j = 9 ∨ j = 10 := by omega
  have b : k = 1 ∨ k = 2 ∨ k = 3 ∨ k = 4 ∨ k = 5 ∨ k = 6 ∨ k = 7 ∨ k = 8 ∨ k = 9 ∨ k = 10 := by omega
  rcases a with rfl | rfl | rfl | rfl | rfl | rfl | rfl | rfl | rfl | rfl <;> rcases b with rfl | rfl | rfl | rfl | rfl | rfl | rfl | rfl | rfl | rfl <;> first | rfl | (exact absurd h (by decide))
theorem digits_cons (u : Nat) : ∃ c r, Lib.decDigits u = c :: r ∧ isD c = true := by
  cases h : Lib.decDigits u with
  | nil => exact absurd h (digits_ne u)
  | cons c r => exact ⟨c, r, rfl, digits_all u c (by rw [h]; simp)⟩
/-- The first byte of a number's text: a digit or '-'. -/
theorem num_head {t : List UInt8} {K N P : Int} (h : ShInt t K N P ∨ ShDec t K N P) : ∃ c r, t = c :: r ∧ (isD c = true ∨ c = 45) := by
  rcases h with ⟨-, -, sg, u, -, hs, rfl⟩ | ⟨-, sg, l1, l2, u, -, -, -, hs, rfl, hl, ha, -, -⟩
  · rcases hs with ⟨rfl, -⟩ | ⟨rfl, -, -⟩
    · obtain ⟨c, r, e, hc⟩ := digits_cons u
      exact ⟨c, r, by rw [e]; rfl, .inl hc⟩
    · exact ⟨45, _, rfl, .inr rfl⟩
  · rcases hs with ⟨rfl, -⟩ | ⟨rfl, -, -⟩
    · cases l1 with
      | nil => exact absurd rfl hl
      | cons c r => exact ⟨c, r ++ 46 :: l2, rfl, .inl (ha c (by simp))⟩
    · exact ⟨45, _, rfl, .inr rfl⟩
theorem isD_lt {c : UInt8} (h : isD c = true) : 48 ≤ c.toNat ∧ c.toNat ≤ 57 := by simpa [isD] using h

/-- A word is the text of no device and of no number. -/
theorem word_only {i : Nat} (hi : i < 4) {K N P : Int} (h : Sh (wordL i) K N P) : K = 13 ∧ N = i ∧ P = 0 := by
  rcases h with ⟨h1, h2, j, hj, h3, h4⟩ | ⟨-, k, u, h1, h2, -, -, -, h4⟩ | h | h
  · have a : i = 0 ∨ i = 1 ∨ i = 2 ∨ i = 3 := by omega
    have b : j = 0 ∨ j = 1 ∨ j = 2 ∨ j = 3 := by omega
    rcases a with rfl | rfl | rfl | rfl <;> rcases b with rfl | rfl | rfl | rfl <;> first | exact ⟨h1, h3, h2⟩ | exact absurd h4 (by decide)
  · obtain ⟨c, e, c1, c2⟩ := rL_one h1 h2
    rw [e] at h4
    have a : i = 0 ∨ i = 1 ∨ i = 2 ∨ i = 3 := by omega
    rcases a with rfl | rfl | rfl | rfl <;> (simp only [wordL, List.singleton_append, List.cons.injEq] at h4; obtain ⟨rfl, -⟩ := h4; first | exact absurd c1 (by decide) | exact absurd c2 (by decide))
  · obtain ⟨-, -, sg, u, -, hs, e⟩ := h
    obtain ⟨c, r, e2, hc⟩ := digits_cons u
    have hall := digits_all u
    have a : i = 0 ∨ i = 1 ∨ i = 2 ∨ i = 3 := by omega
    rcases hs with ⟨rfl, -⟩ | ⟨rfl, -, -⟩
    · rw [List.nil_append] at e
      rw [← e] at hall
      rcases a with rfl | rfl | rfl | rfl <;> exact absurd hall (by decide)
    · rcases a with rfl | rfl | rfl | rfl <;> simp only [wordL, List.singleton_append, List.cons.injEq] at e
      · exact absurd e.1 (by decide)
      · exact absurd e.1 (by decide)
      · rw [← e.2] at hall; exact absurd hall (by decide)
      · rw [← e.2] at hall; exact absurd hall (by decide)
  · obtain ⟨-, sg, l1, l2, u, -, hl2, -, hs, e, hl, ha, hv, -⟩ := h
    have a : i = 0 ∨ i = 1 ∨ i = 2 ∨ i = 3 := by omega
    have hm : (46 : UInt8) ∈ wordL i := by rw [e]; simp
    rcases a with rfl | rfl | rfl | rfl
    · exact absurd hm (by decide)
    · exact absurd hm (by decide)
    · exact absurd hm (by decide)
    · rcases hs with ⟨rfl, -⟩ | ⟨rfl, hu, -⟩
      · cases l1 with
        | nil => exact absurd rfl hl
        | cons c r =>
          simp only [wordL, List.nil_append, List.cons_append, List.cons.injEq] at e
          have := isD_lt (ha c (by simp))
          rw [← e.1] at this
          exact absurd this.1 (by decide)
      · simp only [wordL, List.singleton_append, List.cons.injEq, true_and] at e
        cases l1 with
        | nil => exact absurd rfl hl
        | cons c r =>
          simp only [List.cons_append, List.cons.injEq] at e
          cases r with
          | nil =>
            simp only [List.nil_append, List.cons.injEq, true_and] at e
            obtain ⟨rfl, rfl⟩ := e
            have : valN ([48] ++ [48]) = 0 := by decide
            rw [this] at hv; omega
          | cons d r2 =>
            simp only [List.cons_append, List.cons.injEq] at e
            have := isD_lt (ha d (by simp))
            rw [← e.2.1] at this
            exact absurd this.1 (by decide)
end Go.Proofs.YtkffgjagiihppaaDoor
