/- The document's l1Guess. Helper text: no statement is claimed here. -/
import Derived.Test.YtkffgjagiihppaaDoorTc
import Derived.Test.YtkffgjagiihppaaDoorSd
import Derived.Test.YtkffgjagiihppaaDoorOa
namespace Go.Proofs.YtkffgjagiihppaaDoor
open Go.ChangeShapes Go.WideShapes Go.ChangeAt Go.RowKit

/-- What a guess owes: the operand of which this is the text. -/
def Gs (t : List UInt8) (k n p : Int) : Prop := ∀ K N P, Sh t K N P → k = K ∧ n = N ∧ p = P
def Guessed (t : List UInt8) (w : World) (e : Ending) (w' : World) : Prop := ∃ k n p : Int, e = .returned (.agg #[.int .i64 k, .int .i64 n, .int .i64 p]) ∧ Gs t k n p ∧ Below w.heap.size w w'

theorem str_eq {s : ByteArray} {l : List UInt8} : s = ⟨l.toArray⟩ ↔ s.data.toList = l := by
  constructor
  · rintro rfl; simp
  · intro h; apply ByteArray.ext; apply Array.toList_inj.1; simpa using h
theorem gs_word {t : List UInt8} {m : Nat} (hm : m < 4) (h : t = wordL m) : Gs t 13 m 0 := by
  intro K N P hS
  rw [h] at hS
  obtain ⟨a, b, c⟩ := word_only hm hS
  exact ⟨a.symm, b.symm, c.symm⟩

theorem gs_letter {t r : List UInt8} {c : UInt8} {m : Nat} {v : Int} (ht : t = c :: r) (h1 : 1 ≤ m) (h2 : m ≤ 10) (hc : rL m = [c]) (hv : NumL r → v = valN r) : Gs t m v 0 := by
  intro K N P hS
  obtain ⟨c', e', c1, c2⟩ := rL_one h1 h2
  rw [hc] at e'
  simp only [List.cons.injEq, and_true] at e'
  subst e'
  rcases hS with ⟨-, -, i, hi, -, e⟩ | ⟨hP, k, u, k1, k2, hK, hN, hu, e⟩ | h | h
  · exfalso
    have a : i = 0 ∨ i = 1 ∨ i = 2 ∨ i = 3 := by omega
    rw [ht] at e
    rcases a with rfl | rfl | rfl | rfl <;> (simp only [wordL, List.cons.injEq] at e; obtain ⟨rfl, -⟩ := e; first | exact absurd c1 (by decide) | exact absurd c2 (by decide))
  · obtain ⟨c2', e2, -, -⟩ := rL_one k1 k2
    rw [ht, e2] at e
    simp only [List.singleton_append, List.cons.injEq] at e
    obtain ⟨rfl, rfl⟩ := e
    have hk : m = k := rL_inj h1 h2 k1 k2 (by rw [hc, e2])
    subst hk
    have hn : NumL (Lib.decDigits u) := ⟨digits_all u, digits_ne u, by have := digits_small 2 u (by omega) (by omega); omega⟩
    rw [hv hn, digits_val]
    exact ⟨hK.symm, hN.symm, hP.symm⟩
  · exfalso
    obtain ⟨d, r', e, hd⟩ := num_head (.inl h)
    rw [ht] at e
    simp only [List.cons.injEq] at e
    obtain ⟨rfl, -⟩ := e
    rcases hd with hd | rfl
    · have := isD_lt hd; omega
    · exact absurd c1 (by decide)
  · exfalso
    obtain ⟨d, r', e, hd⟩ := num_head (.inr h)
    rw [ht] at e
    simp only [List.cons.injEq] at e
    obtain ⟨rfl, -⟩ := e
    rcases hd with hd | rfl
    · have := isD_lt hd; omega
    · exact absurd c1 (by decide)

/-- Neither a word nor a device: a number. -/
def NoName (t : List UInt8) : Prop := (∀ j, j < 4 → t ≠ wordL j) ∧ ∀ m, 1 ≤ m → m ≤ 10 → ∀ c r, t = c :: r → rL m ≠ [c]
theorem sh_num {t : List UInt8} {K N P : Int} (h : NoName t) (hS : Sh t K N P) : ShInt t K N P ∨ ShDec t K N P := by
  rcases hS with ⟨-, -, i, hi, -, e⟩ | ⟨-, k, u, k1, k2, -, -, -, e⟩ | hS | hS
  · exact absurd e (h.1 i hi)
  · obtain ⟨c, e2, -, -⟩ := rL_one k1 k2
    exact absurd e2 (h.2 k k1 k2 c (Lib.decDigits u) (by rw [e, e2]; rfl))
  · exact .inl hS
  · exact .inr hS
/-- How the sign was taken off. -/
def Off (t t' : List UInt8) (q : Int) : Prop := (q = 1 ∧ t = t' ∧ ∀ r, t' ≠ 45 :: r) ∨ (q = -1 ∧ t = 45 :: t')
theorem sgn_eq {t t' x : List UInt8} {q : Int} {sg : List UInt8} {u : Nat} {N : Int} (ho : Off t t' q) (hs : Sgn sg u N) (ht : t = sg ++ x) (hx : ∀ r, x ≠ 45 :: r) : t' = x ∧ N = q * u := by
  rcases ho with ⟨rfl, rfl, h45⟩ | ⟨rfl, e⟩
  · rcases hs with ⟨rfl, rfl⟩ | ⟨rfl, -, -⟩
    · exact ⟨ht, by omega⟩
    · exact absurd ht (h45 x)
  · rcases hs with ⟨rfl, rfl⟩ | ⟨rfl, -, rfl⟩
    · rw [e] at ht; exact absurd ht.symm (hx t')
    · rw [e] at ht
      simp only [List.singleton_append, List.cons.injEq, true_and] at ht
      exact ⟨ht, by omega⟩
theorem not45 {l : List UInt8} (h : ∀ c ∈ l, isD c = true) (r : List UInt8) : l ≠ 45 :: r := by
  rintro rfl
  exact absurd (h 45 (by simp)) (by decide)
theorem first_eq {c : UInt8} : ∀ {a b l1 l2 : List UInt8}, c ∉ a → c ∉ l1 → a ++ c :: b = l1 ++ c :: l2 → a = l1 ∧ b = l2
  | [], b, [], l2, _, _, h => by simp at h; exact ⟨rfl, h⟩
  | [], b, y :: l1, l2, _, h1, h => by simp at h; exact absurd h.1 (fun e => h1 (by simp [e]))
  | x :: a, b, [], l2, h1, _, h => by simp at h; exact absurd h.1 (fun e => h1 (by simp [e]))
  | x :: a, b, y :: l1, l2, h1, h2, h => by
    simp only [List.cons_append, List.cons.injEq] at h
    obtain ⟨e1, e2⟩ := first_eq (fun hm => h1 (by simp [hm])) (fun hm => h2 (by simp [hm])) h.2
    exact ⟨by rw [h.1, e1], e2⟩
theorem no46 {l : List UInt8} (h : ∀ c ∈ l, isD c = true) : (46 : UInt8) ∉ l := fun hm => absurd (h 46 hm) (by decide)

theorem gs_int {t t' : List UInt8} {q v : Int} (h : NoName t) (ho : Off t t' q) (h46 : (46 : UInt8) ∉ t') (hv : NumL t' → v = valN t') : Gs t 11 (q * v) 0 := by
  intro K N P hS
  rcases sh_num h hS with ⟨rfl, rfl, sg, u, hu, hs, e⟩ | ⟨-, sg, l1, l2, u, -, -, -, hs, e, hl, ha, -, -⟩
  · obtain ⟨rfl, hN⟩ := sgn_eq ho hs e (not45 (digits_all u))
    have hn : NumL (Lib.decDigits u) := ⟨digits_all u, digits_ne u, by have := digits_small 5 u (by omega) (by omega); omega⟩
    rw [hv hn, digits_val]
    exact ⟨rfl, hN.symm, rfl⟩
  · exfalso
    have hx : ∀ r, l1 ++ 46 :: l2 ≠ 45 :: r := by
      intro r e2
      cases l1 with
      | nil => exact hl rfl
      | cons c l1 =>
        simp only [List.cons_append, List.cons.injEq] at e2
        have := ha c (by simp)
        rw [e2.1] at this
        exact absurd this (by decide)
    obtain ⟨rfl, -⟩ := sgn_eq ho hs e hx
    exact h46 (by simp)
theorem gs_dec {t t' a b : List UInt8} {q v : Int} (h : NoName t) (ho : Off t t' q) (ht : t' = a ++ 46 :: b) (h46 : (46 : UInt8) ∉ a) (hv : NumL (a ++ b) → v = valN (a ++ b)) : Gs t 12 (q * v) b.length := by
  intro K N P hS
  rcases sh_num h hS with ⟨-, -, sg, u, hu, hs, e⟩ | ⟨rfl, sg, l1, l2, u, hP, p1, p2, hs, e, hl, ha, hval, hlen⟩
  · exfalso
    obtain ⟨e2, -⟩ := sgn_eq ho hs e (not45 (digits_all u))
    exact no46 (digits_all u) (by rw [← e2, ht]; simp)
  · have hx : ∀ r, l1 ++ 46 :: l2 ≠ 45 :: r := by
      intro r e2
      cases l1 with
      | nil => exact hl rfl
      | cons c l1 =>
        simp only [List.cons_append, List.cons.injEq] at e2
        have := ha c (by simp)
        rw [e2.1] at this
        exact absurd this (by decide)
    obtain ⟨e2, hN⟩ := sgn_eq ho hs e hx
    obtain ⟨rfl, rfl⟩ := first_eq h46 (no46 (fun c hc => ha c (by simp [hc]))) (ht.symm.trans e2)
    have hn : NumL (a ++ b) := ⟨ha, by intro e3; simp at e3; exact hl e3.1, by omega⟩
    rw [hv hn, hval]
    exact ⟨rfl, hN.symm, hP.symm⟩
end Go.Proofs.YtkffgjagiihppaaDoor
