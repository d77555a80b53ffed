/- How the program's guess reads a text, byte by byte: plain mathematics. Helper text: no statement is claimed here. -/
import Derived.Test.YtkffgjagiihppaaDoorTg
namespace Go.Proofs.YtkffgjagiihppaaDoor
open Go.RowKit

def kindOf (c : UInt8) : Int :=
  if c = 88 then 1 else if c = 89 then 2 else if c = 77 then 3 else if c = 83 then 4 else if c = 69 then 5 else if c = 71 then 6 else if c = 84 then 7 else if c = 67 then 8 else if c = 68 then 9 else if c = 82 then 10 else 0
theorem kindOf_rL {k : Nat} {c : UInt8} (h1 : 1 ≤ k) (h2 : k ≤ 10) (h : rL k = [c]) : kindOf c = k := by
  have : k = 1 ∨ k = 2 ∨ k = 3 ∨ k = 4 ∨ k = 5 ∨ k = 6 ∨ k = 7 ∨ k = 8 ∨ k = 9 ∨ k = 10 := by omega
  rcases this with rfl | rfl | rfl | rfl | rfl | rfl | rfl | rfl | rfl | rfl <;> (simp only [rL, List.cons.injEq, and_true] at h; subst h; rfl)
/-- One byte more. -/
def fstep (x : Int × Int × Int × Int) (c : UInt8) : Int × Int × Int × Int :=
  if isD c = true then (x.1, x.2.1 * 10 + ((c.toNat : Int) - 48), (if x.1 = 12 then x.2.2.1 + 1 else x.2.2.1), x.2.2.2)
  else if c = 46 then (12, x.2.1, x.2.2.1, x.2.2.2) else if c = 45 then (x.1, x.2.1, x.2.2.1, -1) else (kindOf c, x.2.1, x.2.2.1, x.2.2.2)
def fall (t : List UInt8) : Int × Int × Int × Int := t.foldl fstep (11, 0, 0, 1)
/-- A text as a device or number has. -/
def Fine (t : List UInt8) : Prop := t.length ≤ 12 ∧ ∀ (i : Nat) (c : UInt8), t[i]? = some c → (isD c = true ∨ c = 46 ∨ (i = 0 ∧ (c = 45 ∨ ∃ k : Nat, 1 ≤ k ∧ k ≤ 10 ∧ rL k = [c])))

theorem fold_dig : ∀ (l : List UInt8) (k n p q : Int), (∀ c ∈ l, isD c = true) → k ≠ 12 →
    l.foldl fstep (k, n, p, q) = (k, l.foldl (fun (a : Int) c => a * 10 + ((c.toNat : Int) - 48)) n, p, q)
  | [], _, _, _, _, _, _ => rfl
  | c :: l, k, n, p, q, h, hk => by
    have hc := h c (by simp)
    simp only [List.foldl_cons]
    rw [show fstep (k, n, p, q) c = (k, n * 10 + ((c.toNat : Int) - 48), p, q) by simp [fstep, hc, hk]]
    exact fold_dig l k _ p q (fun x hx => h x (by simp [hx])) hk
theorem fold_frac : ∀ (l : List UInt8) (n p q : Int), (∀ c ∈ l, isD c = true) →
    l.foldl fstep (12, n, p, q) = (12, l.foldl (fun (a : Int) c => a * 10 + ((c.toNat : Int) - 48)) n, p + l.length, q)
  | [], _, _, _, _ => by simp
  | c :: l, n, p, q, h => by
    have hc := h c (by simp)
    simp only [List.foldl_cons]
    rw [show fstep (12, n, p, q) c = (12, n * 10 + ((c.toNat : Int) - 48), p + 1, q) by simp [fstep, hc]]
    rw [fold_frac l _ (p + 1) q (fun x hx => h x (by simp [hx]))]
    simp only [List.length_cons, Prod.mk.injEq, true_and, and_true]
    omega
theorem fold_num {l1 l2 : List UInt8} (h : ∀ c ∈ l1 ++ l2, isD c = true) (q : Int) : (l1 ++ 46 :: l2).foldl fstep (11, 0, 0, q) = ((12 : Int), valN (l1 ++ l2), (l2.length : Int), q) := by
  rw [List.foldl_append, fold_dig l1 11 0 0 q (fun c hc => h c (by simp [hc])) (by omega), List.foldl_cons,
    show fstep (11, l1.foldl (fun (a : Int) c => a * 10 + ((c.toNat : Int) - 48)) 0, 0, q) 46 = (12, l1.foldl (fun (a : Int) c => a * 10 + ((c.toNat : Int) - 48)) 0, 0, q) from rfl,
    fold_frac l2 _ 0 q (fun c hc => h c (by simp [hc]))]
  simp [valN, List.foldl_append]
theorem fine_dig {l : List UInt8} (h : ∀ c ∈ l, isD c = true ∨ c = 46) (hl : l.length ≤ 11) : Fine l ∧ Fine (45 :: l) ∧ ∀ k c, 1 ≤ k → k ≤ 10 → rL k = [c] → Fine (c :: l) := by
  have hm : ∀ (i : Nat) (c : UInt8), l[i]? = some c → (isD c = true ∨ c = 46) := fun i c e => h c (List.mem_of_getElem? e)
  refine ⟨⟨by omega, fun i c e => ?_⟩, ⟨by simp; omega, fun i c e => ?_⟩, fun k d k1 k2 hk => ⟨by simp; omega, fun i c e => ?_⟩⟩
  · rcases hm i c e with h | h
    · exact .inl h
    · exact .inr (.inl h)
  · cases i with
    | zero => simp at e; exact .inr (.inr ⟨rfl, .inl e.symm⟩)
    | succ i =>
      simp at e
      rcases hm i c e with h | h
      · exact .inl h
      · exact .inr (.inl h)
  · cases i with
    | zero => simp at e; subst e; exact .inr (.inr ⟨rfl, .inr ⟨k, k1, k2, hk⟩⟩)
    | succ i =>
      simp at e
      rcases hm i c e with h | h
      · exact .inl h
      · exact .inr (.inl h)

theorem fall_sh {t : List UInt8} {K N P : Int} (hw : ∀ j, j < 4 → t ≠ wordL j) (hS : Sh t K N P) : Fine t ∧ ∃ u q : Int, fall t = (K, u, P, q) ∧ N = u * q ∧ 0 ≤ u ∧ u ≤ 1000000000 ∧ (q = 1 ∨ q = -1) := by
  rcases hS with ⟨-, -, i, hi, -, e⟩ | ⟨rfl, k, u, k1, k2, rfl, rfl, hu, rfl⟩ | ⟨rfl, rfl, sg, u, hu, hs, rfl⟩ | ⟨rfl, sg, l1, l2, u, rfl, p1, p2, hs, rfl, hl, ha, hval, hlen⟩
  · exact absurd e (hw i hi)
  · obtain ⟨c, e, c1, c2⟩ := rL_one k1 k2
    have hd := digits_all u
    have hlen := digits_small 2 u (by omega) (by omega)
    have hk := kindOf_rL k1 k2 e
    have hk11 : (k : Int) ≠ 12 := by omega
    rw [e]
    refine ⟨(fine_dig (fun c hc => .inl (hd c hc)) (by omega)).2.2 k c k1 k2 e, u, 1, ?_, by omega, by omega, by omega, .inl rfl⟩
    have h45 : ¬ isD c = true := by intro h; have := isD_lt h; omega
    have n46 : c ≠ 46 := by intro h; subst h; exact absurd c1 (by decide)
    have n45 : c ≠ 45 := by intro h; subst h; exact absurd c1 (by decide)
    unfold fall
    rw [List.singleton_append, List.foldl_cons, show fstep (11, 0, 0, 1) c = ((k : Int), 0, 0, 1) by simp [fstep, h45, n46, n45, hk], fold_dig _ _ _ _ _ hd hk11]
    have hv := digits_val u
    unfold valN at hv
    rw [hv]
  · have hd := digits_all u
    have hlen := digits_small 5 u (by omega) (by omega)
    have hv := digits_val u
    unfold valN at hv
    rcases hs with ⟨rfl, rfl⟩ | ⟨rfl, hu1, rfl⟩
    · refine ⟨(fine_dig (fun c hc => .inl (hd c hc)) (by omega)).1, u, 1, ?_, by omega, by omega, by omega, .inl rfl⟩
      unfold fall
      rw [List.nil_append, fold_dig _ _ _ _ _ hd (by omega), hv]
    · refine ⟨(fine_dig (fun c hc => .inl (hd c hc)) (by omega)).2.1, u, -1, ?_, by omega, by omega, by omega, .inr rfl⟩
      unfold fall
      rw [List.singleton_append, List.foldl_cons, show fstep (11, 0, 0, 1) 45 = (11, 0, 0, -1) from rfl, fold_dig _ _ _ _ _ hd (by omega), hv]
  · have hb := val_bd _ ha
    have hb2 : valN (l1 ++ l2) ≤ 1000000000 := by
      have e := Nat.pow_le_pow_right (show 0 < 10 by omega) hlen
      have e4 : (10 : Int) ^ (l1 ++ l2).length = (((10 : Nat) ^ (l1 ++ l2).length : Nat) : Int) := by rw [Int.natCast_pow]; rfl
      rw [e4] at hb
      have e2 : (10 : Nat) ^ 9 = 1000000000 := by decide
      omega
    have hc : ∀ c ∈ l1 ++ 46 :: l2, isD c = true ∨ c = 46 := by
      intro c hc
      simp only [List.mem_append, List.mem_cons] at hc
      rcases hc with hc | hc | hc
      · exact .inl (ha c (by simp [hc]))
      · exact .inr hc
      · exact .inl (ha c (by simp [hc]))
    have hcl : (l1 ++ 46 :: l2).length ≤ 11 := by simp at hlen ⊢; omega
    rcases hs with ⟨rfl, rfl⟩ | ⟨rfl, hu1, rfl⟩
    · refine ⟨(fine_dig hc hcl).1, u, 1, ?_, by omega, by omega, by omega, .inl rfl⟩
      unfold fall
      rw [List.nil_append, fold_num ha, hval]
    · refine ⟨(fine_dig hc hcl).2.1, u, -1, ?_, by omega, by omega, by omega, .inr rfl⟩
      unfold fall
      rw [List.singleton_append, List.foldl_cons, show fstep (11, 0, 0, 1) 45 = (11, 0, 0, -1) from rfl, fold_num ha, hval]
end Go.Proofs.YtkffgjagiihppaaDoor
