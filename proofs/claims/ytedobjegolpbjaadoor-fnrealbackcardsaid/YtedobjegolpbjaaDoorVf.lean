/- One text, one number; the texts of real numbers taken apart. Helper text: no statement is claimed here. -/
import Derived.Test.YtedobjegolpbjaaDoorVe
import Derived.Test.YtedobjegolpbjaaDoorNd
import Derived.Lib.IndexMore
namespace Go.Proofs.YtedobjegolpbjaaDoor
open Go.RowKit Fl

theorem first_of {c : UInt8} : ∀ {a b l1 l2 : List UInt8}, c ∉ a → c ∉ l1 → a ++ c :: b = l1 ++ c :: l2 → a = l1 ∧ b = l2
  | [], b, [], l2, _, _, h => ⟨rfl, by simpa using h⟩
  | [], b, x :: l1, l2, _, h2, h => by simp at h; exact absurd (by simp [h.1]) h2
  | x :: a, b, [], l2, h1, _, h => by simp at h; exact absurd (by simp [h.1]) h1
  | x :: a, b, y :: l1, l2, h1, h2, h => by
    simp only [List.cons_append, List.cons.injEq] at h
    obtain ⟨rfl, h⟩ := h
    obtain ⟨rfl, rfl⟩ := first_of (a := a) (l1 := l1) (fun hm => h1 (by simp [hm])) (fun hm => h2 (by simp [hm])) h
    exact ⟨rfl, rfl⟩
theorem oT_form (m k : Nat) : oT m k = Lib.itoa (oN m k) ++ 42 :: (50 :: 94 :: Lib.itoa (oE m k)) := by unfold oT; simp
theorem oT_inj {m k m' k' : Nat} (h : Sc m k) (hm : 0 < m) (h' : Sc m' k') (hm' : 0 < m') (e : oT m k = oT m' k') : m = m' ∧ k = k' := by
  rw [oT_form, oT_form] at e
  obtain ⟨e1, e2⟩ := first_of (itoa_no42 _) (itoa_no42 _) e
  have a := itoa_inj e1
  simp only [List.cons.injEq, true_and] at e2
  have b := itoa_inj e2
  have hN : oN m k = oN m' k' := by omega
  have hv : m * 2 ^ k = m' * 2 ^ k' := by
    have v := (oddp_val (m * 2 ^ k) (pos_val hm)).1
    have v' := (oddp_val (m' * 2 ^ k') (pos_val hm')).1
    have hE : (oddp (m * 2 ^ k)).2 = (oddp (m' * 2 ^ k')).2 := by unfold oE at b; omega
    unfold oN at hN
    rw [← v, ← v', hN, hE]
  exact sc_unique h h' hm hv
theorem oN_head (m k : Nat) : ∃ c r, oT m k = c :: r ∧ 48 ≤ c.toNat ∧ c.toNat ≤ 57 := by
  obtain ⟨c, r, hd, h1, h2⟩ := digits_first (oN m k)
  refine ⟨c, r ++ 42 :: (50 :: 94 :: Lib.itoa (oE m k)), ?_, h1, h2⟩
  rw [oT_form, Lib.itoa_nonneg, hd]; rfl
theorem oT_mem (m k : Nat) : (42 : UInt8) ∈ oT m k := by rw [oT_form]; simp

/-- What stands behind the sign: how a text begins. -/
theorem TextR.inj {x y : Nat} {t : List UInt8} (h : TextR x t) (h' : TextR y t) : x = y ∨ (nan x ∧ nan y) := by
  have n42 : ∀ {l : List UInt8}, l = [110, 97, 110] ∨ l = [105, 110, 102] ∨ l = [45, 105, 110, 102] ∨ l = [48] ∨ l = [45, 48] → (42 : UInt8) ∉ l := by
    intro l hl
    rcases hl with rfl | rfl | rfl | rfl | rfl <;> decide
  have key : ∀ {x y : Nat} {t : List UInt8} {m k : Nat}, t = oT m k ∨ t = 45 :: oT m k → t = [110, 97, 110] ∨ t = [105, 110, 102] ∨ t = [45, 105, 110, 102] ∨ t = [48] ∨ t = [45, 48] → False := by
    intro x y t m k h1 h2
    refine n42 h2 ?_
    rcases h1 with h | h
    · rw [h]; exact oT_mem m k
    · rw [h]; exact List.mem_cons_of_mem _ (oT_mem m k)
  have sgn : ∀ {m k m' k' : Nat}, oT m k ≠ 45 :: oT m' k' := by
    intro m k m' k' e
    obtain ⟨c, r, hc, h1, h2⟩ := oN_head m k
    rw [hc] at e
    have := (List.cons.inj e).1
    have h3 := congrArg UInt8.toNat this
    have h4 : (45 : UInt8).toNat = 45 := rfl
    omega
  rcases h.form with ⟨a, rfl⟩ | ⟨rfl, rfl⟩ | ⟨rfl, rfl⟩ | ⟨rfl, rfl⟩ | ⟨rfl, rfl⟩ | ⟨m, k, g1, g2, g3, rfl, ht⟩ | ⟨m, k, g1, g2, g3, rfl, ht⟩
  · rcases h'.form with ⟨b, -⟩ | ⟨-, e⟩ | ⟨-, e⟩ | ⟨-, e⟩ | ⟨-, e⟩ | ⟨m', k', -, -, -, -, e⟩ | ⟨m', k', -, -, -, -, e⟩
    · exact .inr ⟨a, b⟩
    · exact absurd e (by decide)
    · exact absurd e (by decide)
    · exact absurd e (by decide)
    · exact absurd e (by decide)
    · exact (key (x := x) (y := x) (.inl e) (by simp)).elim
    · exact (key (x := x) (y := x) (.inr e) (by simp)).elim
  · rcases h'.form with ⟨-, e⟩ | ⟨e, -⟩ | ⟨-, e⟩ | ⟨-, e⟩ | ⟨-, e⟩ | ⟨m', k', -, -, -, -, e⟩ | ⟨m', k', -, -, -, -, e⟩
    · exact absurd e (by decide)
    · exact .inl e.symm
    · exact absurd e (by decide)
    · exact absurd e (by decide)
    · exact absurd e (by decide)
    · exact (key (x := y) (y := y) (.inl e) (by simp)).elim
    · exact (key (x := y) (y := y) (.inr e) (by simp)).elim
  · rcases h'.form with ⟨-, e⟩ | ⟨-, e⟩ | ⟨e, -⟩ | ⟨-, e⟩ | ⟨-, e⟩ | ⟨m', k', -, -, -, -, e⟩ | ⟨m', k', -, -, -, -, e⟩
    · exact absurd e (by decide)
    · exact absurd e (by decide)
    · exact .inl e.symm
    · exact absurd e (by decide)
    · exact absurd e (by decide)
    · exact (key (x := y) (y := y) (.inl e) (by simp)).elim
    · exact (key (x := y) (y := y) (.inr e) (by simp)).elim
  · rcases h'.form with ⟨-, e⟩ | ⟨-, e⟩ | ⟨-, e⟩ | ⟨e, -⟩ | ⟨-, e⟩ | ⟨m', k', -, -, -, -, e⟩ | ⟨m', k', -, -, -, -, e⟩
    · exact absurd e (by decide)
    · exact absurd e (by decide)
    · exact absurd e (by decide)
    · exact .inl e.symm
    · exact absurd e (by decide)
    · exact (key (x := y) (y := y) (.inl e) (by simp)).elim
    · exact (key (x := y) (y := y) (.inr e) (by simp)).elim
  · rcases h'.form with ⟨-, e⟩ | ⟨-, e⟩ | ⟨-, e⟩ | ⟨-, e⟩ | ⟨e, -⟩ | ⟨m', k', -, -, -, -, e⟩ | ⟨m', k', -, -, -, -, e⟩
    · exact absurd e (by decide)
    · exact absurd e (by decide)
    · exact absurd e (by decide)
    · exact absurd e (by decide)
    · exact .inl e.symm
    · exact (key (x := y) (y := y) (.inl e) (by simp)).elim
    · exact (key (x := y) (y := y) (.inr e) (by simp)).elim
  · rcases h'.form with ⟨-, e⟩ | ⟨-, e⟩ | ⟨-, e⟩ | ⟨-, e⟩ | ⟨-, e⟩ | ⟨m', k', f1, f2, f3, rfl, e⟩ | ⟨m', k', -, -, -, -, e⟩
    · exact (key (x := y) (y := y) (.inl ht) (by simp [e])).elim
    · exact (key (x := y) (y := y) (.inl ht) (by simp [e])).elim
    · exact (key (x := y) (y := y) (.inl ht) (by simp [e])).elim
    · exact (key (x := y) (y := y) (.inl ht) (by simp [e])).elim
    · exact (key (x := y) (y := y) (.inl ht) (by simp [e])).elim
    · obtain ⟨rfl, rfl⟩ := oT_inj g1 g3 f1 f3 (ht.symm.trans e); exact .inl rfl
    · exact absurd (ht.symm.trans e) sgn
  · rcases h'.form with ⟨-, e⟩ | ⟨-, e⟩ | ⟨-, e⟩ | ⟨-, e⟩ | ⟨-, e⟩ | ⟨m', k', -, -, -, -, e⟩ | ⟨m', k', f1, f2, f3, rfl, e⟩
    · exact (key (x := y) (y := y) (.inr ht) (by simp [e])).elim
    · exact (key (x := y) (y := y) (.inr ht) (by simp [e])).elim
    · exact (key (x := y) (y := y) (.inr ht) (by simp [e])).elim
    · exact (key (x := y) (y := y) (.inr ht) (by simp [e])).elim
    · exact (key (x := y) (y := y) (.inr ht) (by simp [e])).elim
    · exact absurd (e.symm.trans ht) sgn
    · obtain ⟨rfl, rfl⟩ := oT_inj g1 g3 f1 f3 (List.cons.inj (ht.symm.trans e)).2; exact .inl rfl

/-- What RealRead may answer. -/
def RdR (t : List UInt8) (x : Nat) (b : Bool) : Prop := x < 2 ^ 64 ∧ ((b = true ∧ TextR x t) ∨ (b = false ∧ x = 0 ∧ ∀ y, ¬ TextR y t))
theorem RdR.one {t : List UInt8} {x x' : Nat} {b b' : Bool} (h : RdR t x b) (h' : RdR t x' b') : b = b' ∧ (x = x' ∨ (nan x ∧ nan x')) := by
  rcases h.2 with ⟨rfl, a⟩ | ⟨rfl, rfl, a⟩ <;> rcases h'.2 with ⟨rfl, c⟩ | ⟨rfl, rfl, c⟩
  · exact ⟨rfl, a.inj c⟩
  · exact absurd a (c x)
  · exact absurd c (a x')
  · exact ⟨rfl, .inl rfl⟩

/-- Cut at the first of three signs. -/
theorem cut_at {a b : List UInt8} (h : (42 : UInt8) ∉ a) : Lib.cut (a ++ 42 :: (50 :: 94 :: b)) [42, 50, 94] = (a, b, true) := by
  have hi : Lib.index (a ++ 42 :: (50 :: 94 :: b)) [42, 50, 94] = (a.length : Int) := by
    refine Lib.index_first (by simp) ?_ ?_
    · unfold Lib.occAt
      rw [List.drop_left' rfl]
      simp [List.isPrefixOf]
    · intro j hj
      unfold Lib.occAt
      have hd : ∃ c r, (a ++ 42 :: (50 :: 94 :: b)).drop j = c :: r ∧ c ∈ a := by
        rw [List.drop_append_of_le_length (by omega)]
        cases hh : a.drop j with
        | nil => have := congrArg List.length hh; simp at this; omega
        | cons c r => exact ⟨c, _, rfl, List.mem_of_mem_drop (i := j) (by rw [hh]; simp)⟩
      obtain ⟨c, r, e, hc⟩ := hd
      rw [e]
      have : ((42 : UInt8) == c) = false := by
        rw [beq_eq_false_iff_ne]; intro e; rw [e] at h; exact h hc
      simp [List.isPrefixOf, this]
  unfold Lib.cut
  rw [hi, if_pos (by omega)]
  simp
end Go.Proofs.YtedobjegolpbjaaDoor
