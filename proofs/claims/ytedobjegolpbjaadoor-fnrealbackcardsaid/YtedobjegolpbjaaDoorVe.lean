/- Plain mathematics of numerals: what is read of a numeral is its number, and of nothing else. Helper text: no statement is claimed here. -/
import Derived.Test.YtedobjegolpbjaaDoorVd
import Derived.Lib.ParseIntB
namespace Go.Proofs.YtedobjegolpbjaaDoor
open Go.RowKit

theorem isD_of {c : UInt8} (h : isD c = true) : 48 ≤ c.toNat ∧ c.toNat ≤ 57 := by simpa [isD] using h
theorem dig_back {c : UInt8} (h : isD c = true) : UInt8.ofNat (48 + (c.toNat - 48)) = c := by
  have := isD_of h
  rw [show 48 + (c.toNat - 48) = c.toNat by omega]
  exact UInt8.ofNat_toNat
theorem digits_one' {d : Nat} (h : d < 10) : Lib.decDigits d = [UInt8.ofNat (48 + d)] := by
  rw [Lib.decDigits, dif_pos h]
theorem digits_more {v d : Nat} (h : d < 10) (hv : 1 ≤ v) : Lib.decDigits (v * 10 + d) = Lib.decDigits v ++ [UInt8.ofNat (48 + d)] := by
  rw [Lib.decDigits, dif_neg (by omega)]
  have e1 : (v * 10 + d) / 10 = v := by omega
  have e2 : (v * 10 + d) % 10 = d := by omega
  rw [e1, e2]

/-- Digits without a needless zero are the numeral of their number. -/
theorem canonD : ∀ (n : Nat) (l : List UInt8), l.length = n → (∀ c ∈ l, isD c = true) → l ≠ [] → (l.head? ≠ some 48 ∨ l.length = 1) → Lib.decDigits (valN l).toNat = l ∧ (l.head? ≠ some 48 → 1 ≤ valN l) := by
  intro n
  induction n with
  | zero => intro l hl _ hne; exact absurd (List.length_eq_zero_iff.1 hl) hne
  | succ n ih =>
    intro l hl hd hne hh
    obtain ⟨r, c, rfl⟩ : ∃ r c, l = r ++ [c] := ⟨l.dropLast, l.getLast hne, (List.dropLast_concat_getLast hne).symm⟩
    have hc := isD_of (hd c (by simp))
    have hcb := dig_back (hd c (by simp))
    rw [val_snoc]
    by_cases hr : r = []
    · subst hr
      have e : (valN [] * 10 + ((c.toNat : Int) - 48)).toNat = c.toNat - 48 := by simp [valN]; omega
      rw [e, digits_one' (by omega), hcb]
      refine ⟨rfl, fun h => ?_⟩
      simp [valN]
      have : c.toNat ≠ 48 := fun h2 => h (by simp; exact UInt8.toNat.inj h2)
      omega
    · have hhead : (r ++ [c]).head? = r.head? := by
        cases r with
        | nil => exact absurd rfl hr
        | cons a b => rfl
      have hlen : 1 ≤ r.length := by
        cases r with
        | nil => exact absurd rfl hr
        | cons a b => simp
      have h48 : r.head? ≠ some 48 := by
        rcases hh with h | h
        · rwa [hhead] at h
        · exact absurd (by simpa using h) hr
      obtain ⟨i1, i2⟩ := ih r (by simpa using hl) (fun x hx => hd x (by simp [hx])) hr (.inl h48)
      have hv := i2 h48
      have e : (valN r * 10 + ((c.toNat : Int) - 48)).toNat = (valN r).toNat * 10 + (c.toNat - 48) := by omega
      rw [e, digits_more (by omega) (by omega), i1, hcb]
      exact ⟨rfl, fun _ => by omega⟩
theorem digits_head {u : Nat} (h : 1 ≤ u) : (Lib.decDigits u).head? ≠ some 48 := by
  induction u using Nat.strongRecOn with
  | _ u ih =>
    rw [Lib.decDigits]
    split
    · rename_i h9
      intro e
      have e2 : UInt8.ofNat (48 + u) = 48 := Option.some.inj e
      have := congrArg UInt8.toNat e2
      rw [dig_toNat u h9] at this
      have h0 : (48 : UInt8).toNat = 48 := rfl
      omega
    · rename_i h9
      have := ih (u / 10) (by omega) (by omega)
      have hne := digits_ne (u / 10)
      cases hd : Lib.decDigits (u / 10) with
      | nil => exact absurd hd hne
      | cons a b => rw [hd] at this; simpa using this
theorem digits_zero : Lib.decDigits 0 = [48] := by rw [digits_one' (by omega)]; rfl
theorem digits_inj {u v : Nat} (h : Lib.decDigits u = Lib.decDigits v) : u = v := by
  have := digits_val u
  rw [h, digits_val v] at this
  omega
theorem no45 (u : Nat) (r : List UInt8) : Lib.decDigits u ≠ 45 :: r := by
  intro e
  have := digits_all u 45 (by rw [e]; simp)
  exact absurd this (by decide)
theorem itoa_inj {a b : Int} (h : Lib.itoa a = Lib.itoa b) : a = b := by
  have cs : ∀ z : Int, (∃ u : Nat, z = u) ∨ ∃ u : Nat, 1 ≤ u ∧ z = -(u : Int) := fun z => by
    rcases Int.lt_or_le z 0 with h | h
    · right; exact ⟨z.natAbs, by omega, by omega⟩
    · left; exact ⟨z.toNat, by omega⟩
  rcases cs a with ⟨u, rfl⟩ | ⟨u, hu, rfl⟩ <;> rcases cs b with ⟨v, rfl⟩ | ⟨v, hv, rfl⟩
  · rw [Lib.itoa_nonneg, Lib.itoa_nonneg] at h; rw [digits_inj h]
  · rw [Lib.itoa_nonneg, Lib.itoa_neg v hv] at h; exact absurd h (no45 u _)
  · rw [Lib.itoa_neg u hu, Lib.itoa_nonneg] at h; exact absurd h.symm (no45 v _)
  · rw [Lib.itoa_neg u hu, Lib.itoa_neg v hv] at h
    rw [digits_inj (List.cons.inj h).2]
theorem itoa_no42 (z : Int) : (42 : UInt8) ∉ Lib.itoa z := by
  intro hm
  rcases Int.lt_or_le z 0 with h | h
  · obtain ⟨u, hu⟩ : ∃ u : Nat, z = -(u : Int) := ⟨z.natAbs, by omega⟩
    subst hu
    rw [Lib.itoa_neg u (by omega)] at hm
    rcases List.mem_cons.1 hm with h | h
    · exact absurd h (by decide)
    · exact absurd (digits_all u 42 h) (by decide)
  · obtain ⟨u, rfl⟩ := Int.eq_ofNat_of_zero_le h
    rw [Lib.itoa_nonneg] at hm
    exact absurd (digits_all u 42 hm) (by decide)

/-! The library's reading of numerals. -/
def foldN (acc : Nat) (l : List UInt8) : Nat := l.foldl (fun a c => a * 10 + (c.toNat - 48)) acc
theorem foldN_ge : ∀ (l : List UInt8) (acc : Nat), acc ≤ foldN acc l
  | [], acc => Nat.le_refl _
  | c :: r, acc => by
    have := foldN_ge r (acc * 10 + (c.toNat - 48))
    show acc ≤ foldN (acc * 10 + (c.toNat - 48)) r
    omega
theorem foldN_val : ∀ (l : List UInt8) (acc : Nat), (∀ c ∈ l, isD c = true) → (foldN acc l : Int) = l.foldl (fun (a : Int) c => a * 10 + ((c.toNat : Int) - 48)) acc
  | [], acc, _ => rfl
  | c :: r, acc, h => by
    have hc := isD_of (h c (by simp))
    have := foldN_val r (acc * 10 + (c.toNat - 48)) (fun x hx => h x (by simp [hx]))
    show (foldN (acc * 10 + (c.toNat - 48)) r : Int) = _
    rw [this, List.foldl_cons]
    congr 1
    omega
theorem parseU : ∀ (l : List UInt8) (acc M : Nat), (∀ c ∈ l, isD c = true) → foldN acc l ≤ M → M ≤ 18446744073709551615 → Lib.parseUintM M acc l = .ok (foldN acc l)
  | [], acc, M, _, _, _ => rfl
  | c :: r, acc, M, h, h1, h2 => by
    have hc := isD_of (h c (by simp))
    have h1' : foldN (acc * 10 + (c.toNat - 48)) r ≤ M := h1
    have hg := foldN_ge r (acc * 10 + (c.toNat - 48))
    unfold Lib.parseUintM
    rw [if_pos hc, if_neg (by omega), if_neg (by omega)]
    exact parseU r _ M (fun x hx => h x (by simp [hx])) h1' h2
theorem parse10 : ∀ (l : List UInt8) (acc : Nat), (∀ c ∈ l, isD c = true) → foldN acc l ≤ 18446744073709551615 → Lib.parseUint10 acc l = .ok (foldN acc l)
  | [], acc, _, _ => rfl
  | c :: r, acc, h, h1 => by
    have hc := isD_of (h c (by simp))
    have h1' : foldN (acc * 10 + (c.toNat - 48)) r ≤ 18446744073709551615 := h1
    have hg := foldN_ge r (acc * 10 + (c.toNat - 48))
    unfold Lib.parseUint10
    rw [if_pos hc, if_neg (by omega), if_neg (by omega)]
    exact parse10 r _ (fun x hx => h x (by simp [hx])) h1'
theorem fold_digits (u : Nat) : foldN 0 (Lib.decDigits u) = u := by
  have a := foldN_val (Lib.decDigits u) 0 (digits_all u)
  have b := digits_val u
  unfold valN at b
  have : (foldN 0 (Lib.decDigits u) : Int) = u := a.trans b
  omega
theorem digits_first (u : Nat) : ∃ c r, Lib.decDigits u = c :: r ∧ 48 ≤ c.toNat ∧ c.toNat ≤ 57 := by
  cases h : Lib.decDigits u with
  | nil => exact absurd h (digits_ne u)
  | cons c r => exact ⟨c, r, rfl, isD_of (digits_all u c (by rw [h]; simp))⟩
theorem parse_itoa (z : Int) (h : z.natAbs ≤ 9007199254740992) : Lib.parseIntB 64 (Lib.itoa z) = .ok z := by
  have hM : (2 ^ 64 - 1 : Nat) = 18446744073709551615 := rfl
  have h63 : (2 ^ (64 - 1) : Nat) = 9223372036854775808 := rfl
  rcases Int.lt_or_le z 0 with hz | hz
  · obtain ⟨u, hu⟩ : ∃ u : Nat, z = -(u : Int) := ⟨z.natAbs, by omega⟩
    subst hu
    rw [Lib.itoa_neg u (by omega)]
    obtain ⟨c, r, hd, c1, c2⟩ := digits_first u
    have hp : Lib.parseUintB 64 (Lib.decDigits u) = .ok u := by
      unfold Lib.parseUintB
      rw [if_neg (digits_ne u), hM, parseU _ _ _ (digits_all u) (by rw [fold_digits]; omega) (by omega), fold_digits]
    simp only [Lib.parseIntB]
    have e45 : (45 : UInt8).toNat = 45 := rfl
    simp only [e45, or_true, if_true, hp, h63]
    rw [if_neg (by omega), if_neg (by omega)]
  · obtain ⟨u, rfl⟩ := Int.eq_ofNat_of_zero_le hz
    rw [Lib.itoa_nonneg]
    obtain ⟨c, r, hd, c1, c2⟩ := digits_first u
    have hp : Lib.parseUintB 64 (Lib.decDigits u) = .ok u := by
      unfold Lib.parseUintB
      rw [if_neg (digits_ne u), hM, parseU _ _ _ (digits_all u) (by rw [fold_digits]; omega) (by omega), fold_digits]
    rw [hd] at hp ⊢
    simp only [Lib.parseIntB]
    rw [if_neg (by omega), hp]
    simp only [h63]
    rw [if_neg (by omega), if_neg (by omega), if_neg (by omega)]
theorem atoi_itoa (z : Int) (h : z.natAbs ≤ 9007199254740992) : Lib.atoiAll (Lib.itoa z) = .ok z := by
  rcases Int.lt_or_le z 0 with hz | hz
  · obtain ⟨u, hu⟩ : ∃ u : Nat, z = -(u : Int) := ⟨z.natAbs, by omega⟩
    subst hu
    rw [Lib.itoa_neg u (by omega)]
    have hp : Lib.parseMag (Lib.decDigits u) = .ok u := by
      unfold Lib.parseMag
      rw [if_neg (digits_ne u), parse10 _ _ (digits_all u) (by rw [fold_digits]; omega), fold_digits]
    simp only [Lib.atoiAll]
    have e45 : (45 : UInt8).toNat = 45 := rfl
    simp only [e45, or_true, if_true, hp]
    rw [if_neg (by omega), if_neg (by omega)]
  · obtain ⟨u, rfl⟩ := Int.eq_ofNat_of_zero_le hz
    rw [Lib.itoa_nonneg]
    obtain ⟨c, r, hd, c1, c2⟩ := digits_first u
    have hp : Lib.parseMag (Lib.decDigits u) = .ok u := by
      unfold Lib.parseMag
      rw [if_neg (digits_ne u), parse10 _ _ (digits_all u) (by rw [fold_digits]; omega), fold_digits]
    rw [hd] at hp ⊢
    simp only [Lib.atoiAll]
    rw [if_neg (by omega), hp]
    simp only
    rw [if_neg (by omega), if_neg (by omega), if_neg (by omega)]
end Go.Proofs.YtedobjegolpbjaaDoor
