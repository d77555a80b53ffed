/- How the program's guess reads a text, byte by byte: plain mathematics. Helper text: no statement is claimed here. -/
import Derived.Test.YtlddkhhaclfmiaaGreatDoorP14
import Derived.Lib.OthersKept
import Derived.WalkMore
import Derived.Deep.LoopGhost
namespace Go.Proofs.YtlddkhhaclfmiaaGreatDoor
open Go.RowKit

def kindOf (c : UInt8) : Int :=
  if c = 88 then 1 else if c = 89 then 2 else if c = 77 then 3 else if c = 83 then 4 else if c = 69 then 5 else if c = 71 then 6 else if c = 84 then 7 else if c = 67 then 8 else if c = 68 then 9 else if c = 82 then 10 else 0
theorem kindOf_rL {k : Nat} {c : UInt8} (h1 : 1 ≤ k) (h2 : k ≤ 10) (h : rL k = [c]) : kindOf c = k := by
  have : k = 1 ∨ k = 2 ∨ k = 3 ∨ k = 4 ∨ k = 5 ∨ k = 6 ∨ k = 7 ∨ k = 8 ∨ k = 9 ∨ k = 10 := by omega
  rcases this with rfl | rfl | rfl | rfl | rfl | rfl | rfl | rfl | rfl | rfl <;> (simp only [rL, List.cons.injEq, and_true] at h; subst h; rfl)
/-- One byte more. -/
def fstep (x : Int × Int × Int × Int) (c : UInt8) : Int × Int × Int × Int :=
  if isD c = true then (x.1, x.2.1 * 10 + ((c.toNat : Int) - 48), (if x.1 = 12 then x.2.2.1 + 1 else x.2.2.1), x.2.2.2)
  else if c = 46 then (12, x.2.1, x.2.2.1, x.2.2.2) else if c = 45 then (x.1, x.2.1, x.2.2.1, -1) else (kindOf c, x.2.1, x.2.2.1, x.2.2.2)
def fall (t : List UInt8) : Int × Int × Int × Int := t.foldl fstep (11, 0, 0, 1)
/-- A text as a device or number has. -/
def Fine (t : List UInt8) : Prop := t.length ≤ 12 ∧ ∀ (i : Nat) (c : UInt8), t[i]? = some c → (isD c = true ∨ c = 46 ∨ (i = 0 ∧ (c = 45 ∨ ∃ k : Nat, 1 ≤ k ∧ k ≤ 10 ∧ rL k = [c])))

theorem fold_dig : ∀ (l : List UInt8) (k n p q : Int), (∀ c ∈ l, isD c = true) → k ≠ 12 →
    l.foldl fstep (k, n, p, q) = (k, l.foldl (fun (a : Int) c => a * 10 + ((c.toNat : Int) - 48)) n, p, q)
  | [], _, _, _, _, _, _ => rfl
  | c :: l, k, n, p, q, h, hk => by
    have hc := h c (by simp)
    simp only [List.foldl_cons]
    rw [show fstep (k, n, p, q) c = (k, n * 10 + ((c.toNat : Int) - 48), p, q) by simp [fstep, hc, hk]]
    exact fold_dig l k _ p q (fun x hx => h x (by simp [hx])) hk
theorem fold_frac : ∀ (l : List UInt8) (n p q : Int), (∀ c ∈ l, isD c = true) →
    l.foldl fstep (12, n, p, q) = (12, l.foldl (fun (a : Int) c => a * 10 + ((c.toNat : Int) - 48)) n, p + l.length, q)
  | [], _, _, _, _ => by simp
  | c :: l, n, p, q, h => by
    have hc := h c (by simp)
    simp only [List.foldl_cons]
    rw [show fstep (12, n, p, q) c = (12, n * 10 + ((c.toNat : Int) - 48), p + 1, q) by simp [fstep, hc]]
    rw [fold_frac l _ (p + 1) q (fun x hx => h x (by simp [hx]))]
    simp only [List.length_cons, Prod.mk.injEq, true_and, and_true]
    omega
theorem fold_num {l1 l2 : List UInt8} (h : ∀ c ∈ l1 ++ l2, isD c = true) (q : Int) : (l1 ++ 46 :: l2).foldl fstep (11, 0, 0, q) = ((12 : Int), valN (l1 ++ l2), (l2.length : Int), q) := by
  rw [List.foldl_append, fold_dig l1 11 0 0 q (fun c hc => h c (by simp [hc])) (by omega), List.foldl_cons,
    show fstep (11, l1.foldl (fun (a : Int) c => a * 10 + ((c.toNat : Int) - 48)) 0, 0, q) 46 = (12, l1.foldl (fun (a : Int) c => a * 10 + ((c.toNat : Int) - 48)) 0, 0, q) from rfl,
    fold_frac l2 _ 0 q (fun c hc => h c (by simp [hc]))]
  simp [valN, List.foldl_append]
theorem fine_dig {l : List UInt8} (h : ∀ c ∈ l, isD c = true ∨ c = 46) (hl : l.length ≤ 11) : Fine l ∧ Fine (45 :: l) ∧ ∀ k c, 1 ≤ k → k ≤ 10 → rL k = [c] → Fine (c :: l) := by
  have hm : ∀ (i : Nat) (c : UInt8), l[i]? = some c → (isD c = true ∨ c = 46) := fun i c e => h c (List.mem_of_getElem? e)
  refine ⟨⟨by omega, fun i c e => ?_⟩, ⟨by simp; omega, fun i c e => ?_⟩, fun k d k1 k2 hk => ⟨by simp; omega, fun i c e => ?_⟩⟩
  · rcases hm i c e with h | h
    · exact .inl h
    · exact .inr (.inl h)
  · cases i with
    | zero => simp at e; exact .inr (.inr ⟨rfl, .inl e.symm⟩)
    | succ i =>
      simp at e
      rcases hm i c e with h | h
      · exact .inl h
      · exact .inr (.inl h)
  · cases i with
    | zero => simp at e; subst e; exact .inr (.inr ⟨rfl, .inr ⟨k, k1, k2, hk⟩⟩)
    | succ i =>
      simp at e
      rcases hm i c e with h | h
      · exact .inl h
      · exact .inr (.inl h)

theorem fall_sh {t : List UInt8} {K N P : Int} (hw : ∀ j, j < 4 → t ≠ wordL j) (hS : Sh t K N P) : Fine t ∧ ∃ u q : Int, fall t = (K, u, P, q) ∧ N = u * q ∧ 0 ≤ u ∧ u ≤ 1000000000 ∧ (q = 1 ∨ q = -1) := by
  rcases hS with ⟨-, -, i, hi, -, e⟩ | ⟨rfl, k, u, k1, k2, rfl, rfl, hu, rfl⟩ | ⟨rfl, rfl, sg, u, hu, hs, rfl⟩ | ⟨rfl, sg, l1, l2, u, rfl, p1, p2, hs, rfl, hl, ha, hval, hlen⟩
  · exact absurd e (hw i hi)
  · obtain ⟨c, e, c1, c2⟩ := rL_oneT k1 k2
    have hd := digits_all u
    have hlen := digits_small 2 u (by omega) (by omega)
    have hk := kindOf_rL k1 k2 e
    have hk11 : (k : Int) ≠ 12 := by omega
    rw [e]
    refine ⟨(fine_dig (fun c hc => .inl (hd c hc)) (by omega)).2.2 k c k1 k2 e, u, 1, ?_, by omega, by omega, by omega, .inl rfl⟩
    have h45 : ¬ isD c = true := by intro h; have := isD_lt h; omega
    have n46 : c ≠ 46 := by intro h; subst h; exact absurd c1 (by decide)
    have n45 : c ≠ 45 := by intro h; subst h; exact absurd c1 (by decide)
    unfold fall
    rw [List.singleton_append, List.foldl_cons, show fstep (11, 0, 0, 1) c = ((k : Int), 0, 0, 1) by simp [fstep, h45, n46, n45, hk], fold_dig _ _ _ _ _ hd hk11]
    have hv := digits_val u
    unfold valN at hv
    rw [hv]
  · have hd := digits_all u
    have hlen := digits_small 5 u (by omega) (by omega)
    have hv := digits_val u
    unfold valN at hv
    rcases hs with ⟨rfl, rfl⟩ | ⟨rfl, hu1, rfl⟩
    · refine ⟨(fine_dig (fun c hc => .inl (hd c hc)) (by omega)).1, u, 1, ?_, by omega, by omega, by omega, .inl rfl⟩
      unfold fall
      rw [List.nil_append, fold_dig _ _ _ _ _ hd (by omega), hv]
    · refine ⟨(fine_dig (fun c hc => .inl (hd c hc)) (by omega)).2.1, u, -1, ?_, by omega, by omega, by omega, .inr rfl⟩
      unfold fall
      rw [List.singleton_append, List.foldl_cons, show fstep (11, 0, 0, 1) 45 = (11, 0, 0, -1) from rfl, fold_dig _ _ _ _ _ hd (by omega), hv]
  · have hb := val_bd _ ha
    have hb2 : valN (l1 ++ l2) ≤ 1000000000 := by
      have e := Nat.pow_le_pow_right (show 0 < 10 by omega) hlen
      have e4 : (10 : Int) ^ (l1 ++ l2).length = (((10 : Nat) ^ (l1 ++ l2).length : Nat) : Int) := by rw [Int.natCast_pow]; rfl
      rw [e4] at hb
      have e2 : (10 : Nat) ^ 9 = 1000000000 := by decide
      omega
    have hc : ∀ c ∈ l1 ++ 46 :: l2, isD c = true ∨ c = 46 := by
      intro c hc
      simp only [List.mem_append, List.mem_cons] at hc
      rcases hc with hc | hc | hc
      · exact .inl (ha c (by simp [hc]))
      · exact .inr hc
      · exact .inl (ha c (by simp [hc]))
    have hcl : (l1 ++ 46 :: l2).length ≤ 11 := by simp at hlen ⊢; omega
    rcases hs with ⟨rfl, rfl⟩ | ⟨rfl, hu1, rfl⟩
    · refine ⟨(fine_dig hc hcl).1, u, 1, ?_, by omega, by omega, by omega, .inl rfl⟩
      unfold fall
      rw [List.nil_append, fold_num ha, hval]
    · refine ⟨(fine_dig hc hcl).2.1, u, -1, ?_, by omega, by omega, by omega, .inr rfl⟩
      unfold fall
      rw [List.singleton_append, List.foldl_cons, show fstep (11, 0, 0, 1) 45 = (11, 0, 0, -1) from rfl, fold_num ha, hval]
end Go.Proofs.YtlddkhhaclfmiaaGreatDoor

/- The program's devGuess. Helper text: no statement is claimed here. -/
namespace Go.Proofs.YtlddkhhaclfmiaaGreatDoor
open Go.ChangeShapes Go.WideShapes Go.ChangeAt Go.RowKit

/-- The state of the reading: the iterator of s in block ib stands at pos; the operand under way lies in the block ahead of it, the result in the one ahead of that. -/
structure Gst (w : World) (B : Nat) (s : ByteArray) (pos : Nat) (k n p : Int) : Prop where
  it : w.heap[B + 2]? = some (.stringIter s pos)
  arg : Own w (B + 1) (.int .i64 k) (.int .i64 n) (.int .i64 p)
  res : Own w B (.int .i64 0) (.int .i64 0) (.int .i64 0)
theorem Gst.below {w w' : World} {B : Nat} {s : ByteArray} {pos : Nat} {k n p : Int} (h : Gst w B s pos k n p) (hb : Below w.heap.size w w') : Gst w' B s pos k n p := by
  refine ⟨?_, h.arg.below hb, h.res.below hb⟩
  have hlt : B + 2 < w.heap.size := (Array.getElem?_eq_some_iff.1 h.it).1
  rw [hb.block _ hlt]; exact h.it
theorem Own.block {w w' : World} {b : Nat} {x y z : Value} (h : Own w b x y z) (hb : w'.heap[b]? = w.heap[b]?) : Own w' b x y z := by
  have c : ∀ o, w'.cell? ⟨b, o, none⟩ = w.cell? ⟨b, o, none⟩ := fun o => World.cell?_of_block (w := w) hb
  have f : ∀ o, w'.frozen? ⟨b, o, none⟩ = w.frozen? ⟨b, o, none⟩ := fun o => World.frozen?_of_block (w := w) hb
  unfold Own
  rw [c, c, c, f, f, f]; exact h

/-- One step of the iterator. -/
theorem next_step {w wr : World} {B : Nat} {s : ByteArray} {pos : Nat} {k n p : Int} (h : Gst wr B s pos k n p) (hB : Below B w wr) (hp : pos < s.size) :
    ∃ (w1 : World) (r wd : Nat), (∀ ty, (Instr.next (.pointer (some ⟨B + 2, 0, none⟩)) true ty).run Tryz.prog wr = .ok (.tuple #[.bool true, .int .i64 pos, .int .i32 r]) w1) ∧ 1 ≤ wd ∧ Gst w1 B s (pos + wd) k n p ∧ Below B w w1 ∧ ((s[pos]'hp).toNat < 128 → r = (s[pos]'hp).toNat ∧ wd = 1) ∧ r ≤ 2147483647 := by
  refine ⟨wr.iterAt (B + 2) s (pos + (Utf8.decode s pos).2), (Utf8.decode s pos).1, (Utf8.decode s pos).2, fun ty => Lib.run_next_any_at wr (B + 2) s pos ty h.it hp, ?_, ⟨Lib.iterAt_heap _ _ _ _ _ h.it, h.arg.block (Lib.iterAt_other _ _ _ _ _ (by omega)), h.res.block (Lib.iterAt_other _ _ _ _ _ (by omega))⟩, Lib.below_iterAt hB (by omega) _ _, ?_, decode_le s pos⟩
  · by_cases ha : (s[pos]'hp).toNat < 128
    · rw [decode_ascii s pos hp ha]; exact Nat.le_refl _
    · exact (decode_high s pos hp (by omega)).2
  · intro ha
    rw [decode_ascii s pos hp ha]; exact ⟨rfl, rfl⟩
theorem Gst.iter {w : World} {B : Nat} {s : ByteArray} {pos : Nat} {k n p : Int} (h : Gst w B s pos k n p) : w.iterPos (B + 2) = pos := iterPos_of h.it
/-- A store into the operand under way. -/
theorem Gst.setN {w : World} {B : Nat} {s : ByteArray} {pos : Nat} {k n p : Int} (h : Gst w B s pos k n p) (n' : Int) : Gst (w.setCell ⟨B + 1, 1, none⟩ (.int .i64 n')) B s pos k n' p := by
  obtain ⟨h1, ⟨⟨a, b, c⟩, f⟩, h3⟩ := h
  refine ⟨?_, ⟨⟨?_, World.cell?_setCell_same _ _ _ b, ?_⟩, ?_⟩, h3.set (by omega)⟩
  · rw [Below.heap_setCell _ _ _ _ (by simp)]; exact h1
  · rw [World.cell?_setCell_other _ _ _ _ (by simp)]; exact a
  · rw [World.cell?_setCell_other _ _ _ _ (by simp)]; exact c
  · rw [World.frozen?_setCell, World.frozen?_setCell, World.frozen?_setCell]; exact f
theorem Gst.setP {w : World} {B : Nat} {s : ByteArray} {pos : Nat} {k n p : Int} (h : Gst w B s pos k n p) (p' : Int) : Gst (w.setCell ⟨B + 1, 2, none⟩ (.int .i64 p')) B s pos k n p' := by
  obtain ⟨h1, ⟨⟨a, b, c⟩, f⟩, h3⟩ := h
  refine ⟨?_, ⟨⟨?_, ?_, World.cell?_setCell_same _ _ _ c⟩, ?_⟩, h3.set (by omega)⟩
  · rw [Below.heap_setCell _ _ _ _ (by simp)]; exact h1
  · rw [World.cell?_setCell_other _ _ _ _ (by simp)]; exact a
  · rw [World.cell?_setCell_other _ _ _ _ (by simp)]; exact b
  · rw [World.frozen?_setCell, World.frozen?_setCell, World.frozen?_setCell]; exact f
theorem Gst.setK {w : World} {B : Nat} {s : ByteArray} {pos : Nat} {k n p : Int} (h : Gst w B s pos k n p) (k' : Int) : Gst (w.setCell ⟨B + 1, 0, none⟩ (.int .i64 k')) B s pos k' n p := by
  obtain ⟨h1, ⟨⟨a, b, c⟩, f⟩, h3⟩ := h
  refine ⟨?_, ⟨⟨World.cell?_setCell_same _ _ _ a, ?_, ?_⟩, ?_⟩, h3.set (by omega)⟩
  · rw [Below.heap_setCell _ _ _ _ (by simp)]; exact h1
  · rw [World.cell?_setCell_other _ _ _ _ (by simp)]; exact b
  · rw [World.cell?_setCell_other _ _ _ _ (by simp)]; exact c
  · rw [World.frozen?_setCell, World.frozen?_setCell, World.frozen?_setCell]; exact f

/-- What holds of the reading's state where the text is a fine one. -/
def Jst (t : List UInt8) (pos : Nat) (k n p q : Int) : Prop := Fine t → (pos ≤ t.length ∧ (k, n, p, q) = (t.take pos).foldl fstep (11, 0, 0, 1) ∧ 0 ≤ n ∧ n < 10 ^ pos ∧ 0 ≤ p ∧ p ≤ pos)

theorem fine_ascii {t : List UInt8} (h : Fine t) {i : Nat} {c : UInt8} (e : t[i]? = some c) : c.toNat < 128 := by
  rcases h.2 i c e with h | rfl | ⟨-, rfl | ⟨k, k1, k2, hk⟩⟩
  · have := isD_lt h; omega
  · decide
  · decide
  · obtain ⟨c', e', c1, c2⟩ := rL_oneT k1 k2
    rw [hk] at e'; simp only [List.cons.injEq, and_true] at e'; subst e'; omega
theorem at_list (s : ByteArray) (pos : Nat) (h : pos < s.size) : s.data.toList[pos]? = some (s[pos]'h) := by
  rw [List.getElem?_eq_getElem (by simpa using h)]; rfl
theorem pow_step (pos : Nat) (h : pos ≤ 12) : (10 : Int) ^ (pos + 1) = 10 ^ pos * 10 ∧ (10 : Int) ^ pos ≤ 1000000000000 := by
  refine ⟨Int.pow_succ _ _, ?_⟩
  have e := Nat.pow_le_pow_right (show 0 < 10 by omega) h
  have e4 : (10 : Int) ^ pos = (((10 : Nat) ^ pos : Nat) : Int) := by rw [Int.natCast_pow]; rfl
  have e2 : (10 : Nat) ^ 12 = 1000000000000 := by decide
  rw [e4]; omega
theorem wrap_id (x : Int) (h0 : -9223372036854775808 ≤ x) (h1 : x ≤ 9223372036854775807) : wrap64 x = x := by
  unfold wrap64; omega
/-- What is known of the rune at pos. -/
def Rune (s : ByteArray) (pos : Nat) (hp : pos < s.size) (r wd : Nat) : Prop := (s[pos]'hp).toNat < 128 → r = (s[pos]'hp).toNat ∧ wd = 1

theorem J_start (t : List UInt8) : Jst t 0 11 0 0 1 := fun _ => ⟨by omega, rfl, by omega, by simp, by omega, by omega⟩
section
variable {s : ByteArray} {pos r wd : Nat} {k n p q : Int} {hp : pos < s.size}
theorem J_move (hJ : Jst s.data.toList pos k n p q) (hR : Rune s pos hp r wd) (hF : Fine s.data.toList) : ∃ c : UInt8, s.data.toList[pos]? = some c ∧ r = c.toNat ∧ wd = 1 ∧ pos + 1 ≤ s.data.toList.length ∧ pos ≤ 11 ∧ 0 ≤ n ∧ n < 10 ^ pos ∧ 0 ≤ p ∧ p ≤ pos ∧ (s.data.toList.take (pos + 1)).foldl fstep (11, 0, 0, 1) = fstep (k, n, p, q) c := by
  obtain ⟨h1, h2, h3, h4, h5, h6⟩ := hJ hF
  have e := at_list s pos hp
  obtain ⟨a, b⟩ := hR (fine_ascii hF e)
  have hl : pos < s.data.toList.length := by rw [← size_list]; exact hp
  have := hF.1
  refine ⟨_, e, a, b, by omega, by omega, h3, h4, h5, h6, ?_⟩
  rw [take_snoc s pos hp, List.foldl_append, ← h2]; rfl
theorem J_digit (hJ : Jst s.data.toList pos k n p q) (hR : Rune s pos hp r wd) (h48 : 48 ≤ (r : Int)) (h57 : (r : Int) ≤ 57) :
    Jst s.data.toList (pos + wd) k (wrap64 (wrap64 (n * 10) + ((r : Int) - 48))) (if k = 12 then wrap64 (p + 1) else p) q := by
  intro hF
  obtain ⟨c, e, a, b, h1, h2, h3, h4, h5, h6, h7⟩ := J_move hJ hR hF
  subst b
  obtain ⟨g1, g2⟩ := pow_step pos (by omega)
  have hd : isD c = true := by simp [isD]; omega
  rw [wrap_id (n * 10) (by omega) (by omega), wrap_id _ (by omega) (by omega), wrap_id (p + 1) (by omega) (by omega)]
  refine ⟨h1, ?_, by omega, by rw [g1]; omega, ?_, ?_⟩
  · rw [h7]; simp [fstep, hd, a]
  · split <;> omega
  · split <;> omega
theorem J_dot (hJ : Jst s.data.toList pos k n p q) (hR : Rune s pos hp r wd) (h46 : (r : Int) = 46) : Jst s.data.toList (pos + wd) 12 n p q := by
  intro hF
  obtain ⟨c, e, a, b, h1, h2, h3, h4, h5, h6, h7⟩ := J_move hJ hR hF
  subst b
  obtain ⟨g1, g2⟩ := pow_step pos (by omega)
  have hc : c = 46 := u8_46 (by omega)
  refine ⟨h1, ?_, by omega, by rw [g1]; omega, by omega, by omega⟩
  rw [h7, hc]; rfl
theorem J_minus (hJ : Jst s.data.toList pos k n p q) (hR : Rune s pos hp r wd) (h45 : (r : Int) = 45) : Jst s.data.toList (pos + wd) k n p (-1) := by
  intro hF
  obtain ⟨c, e, a, b, h1, h2, h3, h4, h5, h6, h7⟩ := J_move hJ hR hF
  subst b
  obtain ⟨g1, g2⟩ := pow_step pos (by omega)
  have hc : c = 45 := by
    apply UInt8.toNat.inj
    have : c.toNat = 45 := by omega
    rw [this]; rfl
  refine ⟨h1, ?_, by omega, by rw [g1]; omega, by omega, by omega⟩
  rw [h7, hc]; rfl
/-- Where no digit and no point stands it is the first byte of a fine text, and '-' or a letter. -/
theorem J_other (hJ : Jst s.data.toList pos k n p q) (hR : Rune s pos hp r wd) (hd : (r : Int) < 48 ∨ 57 < (r : Int)) (h46 : (r : Int) ≠ 46) (hF : Fine s.data.toList) : pos = 0 ∧ (r = 45 ∨ ∃ (c : UInt8) (m : Nat), r = c.toNat ∧ 1 ≤ m ∧ m ≤ 10 ∧ rL m = [c]) := by
  obtain ⟨c, e, a, b, h1, h2, h3, h4, h5, h6, h7⟩ := J_move hJ hR hF
  rcases hF.2 pos c e with h | rfl | ⟨h0, rfl | ⟨m, k1, k2, hk⟩⟩
  · have := isD_lt h; omega
  · exact absurd (show (r : Int) = 46 by rw [a]; rfl) h46
  · exact ⟨h0, .inl a⟩
  · exact ⟨h0, .inr ⟨c, m, a, k1, k2, hk⟩⟩
theorem J_letter (hJ : Jst s.data.toList pos k n p q) (hR : Rune s pos hp r wd) (hd : (r : Int) < 48 ∨ 57 < (r : Int)) (h46 : (r : Int) ≠ 46) (h45 : (r : Int) ≠ 45) {m : Nat} (m1 : 1 ≤ m) (m2 : m ≤ 10) (hm : Fine s.data.toList → ∀ c : UInt8, r = c.toNat → rL m = [c]) : Jst s.data.toList (pos + wd) m n p q := by
  intro hF
  obtain ⟨c, e, a, b, h1, h2, h3, h4, h5, h6, h7⟩ := J_move hJ hR hF
  subst b
  obtain ⟨g1, g2⟩ := pow_step pos (by omega)
  have hk := hm hF c a
  have n1 : ¬ isD c = true := by intro h; have := isD_lt h; omega
  have n2 : c ≠ 46 := by intro h; subst h; exact h46 (by rw [a]; rfl)
  have n3 : c ≠ 45 := by intro h; subst h; exact h45 (by rw [a]; rfl)
  refine ⟨h1, ?_, by omega, by rw [g1]; omega, by omega, by omega⟩
  rw [h7]; simp [fstep, n1, n2, n3, kindOf_rL m1 m2 hk]
end
def Gs2 (t : List UInt8) (k n p : Int) : Prop := (∀ j, j < 4 → t ≠ wordL j) → Gs t k n p
def Guessed2 (t : List UInt8) (w : World) (e : Ending) (w' : World) : Prop := ∃ k n p : Int, e = .returned (.agg #[.int .i64 k, .int .i64 n, .int .i64 p]) ∧ Gs2 t k n p ∧ Below w.heap.size w w'

theorem G_none (t : List UInt8) (h : ¬ Fine t) (k n p : Int) : Gs2 t k n p := fun hw _ _ _ hS => absurd (fall_sh hw hS).1 h
theorem G_end {s : ByteArray} {pos : Nat} {k n p q : Int} (hJ : Jst s.data.toList pos k n p q) (hp : ¬ pos < s.size) : Gs2 s.data.toList k (wrap64 (n * q)) p := by
  intro hw K N P hS
  obtain ⟨hF, u, q', hf, hN, u0, u1, hq⟩ := fall_sh hw hS
  obtain ⟨h1, h2, -⟩ := hJ hF
  rw [List.take_of_length_le (by rw [← size_list]; omega)] at h2
  unfold fall at hf
  rw [hf] at h2
  simp only [Prod.mk.injEq] at h2
  obtain ⟨rfl, rfl, rfl, rfl⟩ := h2
  refine ⟨rfl, ?_, rfl⟩
  rcases hq with rfl | rfl
  · rw [wrap_id _ (by omega) (by omega)]; omega
  · rw [wrap_id _ (by omega) (by omega)]; omega

theorem enc1 (c : UInt8) (h : c.toNat < 128) : (Utf8.encode (c.toNat : Int)).toList = [c] := by
  have hv : Utf8.valid (c.toNat : Int) = true := by simp [Utf8.valid]; omega
  rw [ByteArray.toList_eq]
  simp [Utf8.encode, hv, h]
theorem res_set {w : World} {B : Nat} {s : ByteArray} {pos : Nat} {k n p : Int} (h : Gst w B s pos k n p) (x y z : Value) : Own (((w.setCell ⟨B, 0, none⟩ x).setCell ⟨B, 1, none⟩ y).setCell ⟨B, 2, none⟩ z) B x y z := h.res.put x y z
theorem G_first (w : World) (s : ByteArray) : Gst (((w.alloc (.cells #[.int .i64 0, .int .i64 0, .int .i64 0] 51)).alloc (.cells #[.int .i64 11, .int .i64 0, .int .i64 0] 51)).iter s 0) w.heap.size s 0 11 0 0 := by
  refine ⟨?_, ?_, ?_⟩
  · have := World.iter_heap ((w.alloc (.cells #[.int .i64 0, .int .i64 0, .int .i64 0] 51)).alloc (.cells #[.int .i64 11, .int .i64 0, .int .i64 0] 51)) s 0
    simpa using this
  · have := (Own.new (w.alloc (.cells #[.int .i64 0, .int .i64 0, .int .i64 0] 51)) (.int .i64 11) (.int .i64 0) (.int .i64 0)).alloc (.stringIter s 0)
    simpa [World.iter] using this
  · exact ((Own.new w (.int .i64 0) (.int .i64 0) (.int .i64 0)).alloc _).alloc (.stringIter s 0)

set_option maxHeartbeats 4000000 in
theorem iguess_any (s : ByteArray) (w : World) (_hs : s.size ≤ 2000000) (hT : Tabs w) :
    Calls Tryz.prog 104 #[.string s] w (Guessed2 s.data.toList w) := by
  go_enter Tryz.func104, Tryz.ntmps104
  go_wp2
  go_step3
  go_wp2
  go_step3
  go_wp2
  go_loopg [4, 5, 6, 7] (s.size + 1) (fun g q _ _ _ w' => ∃ (pos : Nat) (k n p qq : Int), s.size + 1 ≤ pos + g ∧ q = .int .i64 qq ∧ Gst w' w.heap.size s pos k n p ∧ Below w.heap.size w w' ∧ Jst s.data.toList pos k n p qq)
  case atStart => exact ⟨0, 11, 0, 0, 1, by omega, rfl, G_first w s, ((one w _).alloc (by simp) _).alloc (by simp; omega) _, J_start _⟩
  case round =>
    obtain ⟨pos, k, n, p, qq, hg, rfl, hG, hB, hJ⟩ := hrel
    have HJ : Hid (Jst s.data.toList pos k n p qq) := hJ
    clear hJ
    by_cases hp : pos < s.size
    · obtain ⟨w1, r, wd, hnx, hwd, hG1, hB1, hasc, hr⟩ := next_step hG hB hp
      have hGa := hG1.arg
      obtain ⟨⟨o0, o1, o2⟩, z0, z1, z2⟩ := hGa
      have HA : Hid (Rune s pos hp r wd) := hasc
      clear hasc
      by_cases hd : 48 ≤ (r : Int) ∧ (r : Int) ≤ 57
      · obtain ⟨hd1, hd2⟩ := hd
        by_cases hk : k = 12
        · have hk12 : (k == 12) = true := by simp [hk]
          have HK : Hid (k = 12) := hk
          clear hk
          go_wp2
          go_roundg (gk - 1)
          case measure => omega
          case rel => exact ⟨pos + wd, k, _, _, qq, by omega, rfl, (hG1.setN _).setP _, (hB1.setCell (by simp) _).setCell (by simp) _, by have g := J_digit HJ.out HA.out hd1 hd2; rw [if_pos HK.out] at g; exact g⟩
        · have hk12 : (k == 12) = false := by simpa using hk
          have HK : Hid (¬ k = 12) := hk
          clear hk
          go_wp2
          go_roundg (gk - 1)
          case measure => omega
          case rel => exact ⟨pos + wd, k, _, _, qq, by omega, rfl, hG1.setN _, hB1.setCell (by simp) _, by have g := J_digit HJ.out HA.out hd1 hd2; rw [if_neg HK.out] at g; exact g⟩
      have HD : Hid ((r : Int) < 48 ∨ 57 < (r : Int)) := by show _ ∨ _; omega
      have hdig : Hid (¬ (48 ≤ (r : Int) ∧ (r : Int) ≤ 57)) := hd
      clear hd
      by_cases h46 : (r : Int) = 46
      · have h46' : ((r : Int) == 46) = true := by simp [h46]
        have H46 : Hid ((r : Int) = 46) := h46
        have hlt : ¬ (48 : Int) ≤ r := by omega
        clear h46
        go_wp2
        go_roundg (gk - 1)
        case measure => omega
        case rel => exact ⟨pos + wd, 12, n, p, qq, by omega, rfl, hG1.setK _, hB1.setCell (by simp) _, J_dot HJ.out HA.out H46.out⟩
      have h46' : ((r : Int) == 46) = false := by simpa using h46
      have H46 : Hid ((r : Int) ≠ 46) := h46
      clear h46
      have hres := hG1.res
      have hres' := hres
      obtain ⟨⟨e0, e1, e2⟩, y0, y1, y2⟩ := hres'
      have hOwn : Hid (Own w1 w.heap.size (.int .i64 0) (.int .i64 0) (.int .i64 0)) := hres
      clear hres
      by_cases hpos : 0 < pos
      · have hpos' : (0 : Int) < pos := by omega
        rcases HD.out with hlo | hhi
        all_goals
          go_wp2
          refine bodyPost_ret (v := .agg #[.int .i64 0, .int .i64 0, .int .i64 0]) (resArg Tryz.results104 rfl (hOwn.out.put _ _ _).1) rfl ⟨0, 0, 0, rfl, G_none _ (fun hF => ?_) _ _ _, ((hB1.setCell (Nat.le_refl _) _).setCell (Nat.le_refl _) _).setCell (Nat.le_refl _) _⟩
          have := (J_other HJ.out HA.out HD.out H46.out hF).1
          omega
      have hpos0 : ¬ (0 : Int) < pos := by omega
      by_cases h45 : (r : Int) = 45
      · have h45' : ((r : Int) == 45) = true := by simp [h45]
        have H45 : Hid ((r : Int) = 45) := h45
        have hlt : ¬ (48 : Int) ≤ r := by omega
        clear h45
        go_wp2
        go_roundg (gk - 1)
        case measure => omega
        case rel => exact ⟨pos + wd, k, n, p, -1, by omega, rfl, hG1, hB1, J_minus HJ.out HA.out H45.out⟩
      have h45' : ((r : Int) == 45) = false := by simpa using h45
      have H45 : Hid ((r : Int) ≠ 45) := h45
      clear h45
      obtain ⟨G, hGG⟩ : ∃ G, G = gk := ⟨gk, rfl⟩
      have HGG : Hid (G = gk) := hGG
      have hgG : s.size + 1 ≤ pos + G := by omega
      clear hGG
      rcases HD.out with hlo | hhi
      all_goals
        go_wp2
        go_loopg [7] 12 (fun g kd w' => ∃ m : Nat, 1 ≤ m ∧ m ≤ 11 ∧ m + g = 13 ∧ kd = .int .i64 m ∧ Gst w' w.heap.size s (pos + wd) k n p ∧ Below w.heap.size w w' ∧ (Fine s.data.toList → ∀ c : UInt8, r = c.toNat → ∀ j, 1 ≤ j → j < m → rL j ≠ [c]))
        case atStart => exact ⟨1, by omega, by omega, by omega, rfl, hG1, hB1, fun _ _ _ j h1 h2 => by omega⟩
        case round =>
          obtain ⟨m, m1, m2, mg, rfl, hGm, hBm, hno⟩ := hrel
          have HNO : Hid (Fine s.data.toList → ∀ c : UInt8, r = c.toNat → ∀ j, 1 ≤ j → j < m → rL j ≠ [c]) := hno
          clear hno
          by_cases hm : m ≤ 10
          · have hm' : (m : Int) ≤ 10 := by omega
            go_wp2_with fail
            refine (letter_any _ _ (hT.to hBm).dev).mono ?_
            rintro e w2 ⟨rfl, hb2⟩
            have hG2 := hGm.below hb2
            have hB2 := hBm.trans (hb2.mono hBm.size)
            have hG2a := hG2.arg
            obtain ⟨⟨f0, f1, f2⟩, x0, x1, x2⟩ := hG2a
            by_cases hE : rL (kz m) = (Utf8.encode (r : Int)).toList
            · have hE' : (rL (kz m) == (Utf8.encode (r : Int)).toList) = true := by simp [hE]
              have HE : Hid (Fine s.data.toList → ∀ c : UInt8, r = c.toNat → rL m = [c]) := by
                intro hF c hc
                rw [kz_nat m (by omega) (by omega)] at hE
                rw [hE, hc, enc1 c]
                obtain ⟨c', e, a, -⟩ := J_move HJ.out HA.out hF
                have := fine_ascii hF e
                omega
              clear hE
              go_wp2
              go_roundg (G - 1)
              case measure => have := HGG.out; omega
              case rel => exact ⟨pos + wd, m, n, p, qq, by omega, rfl, hG2.setK _, hB2.setCell (by simp) _, J_letter HJ.out HA.out HD.out H46.out H45.out (by omega) (by omega) HE.out⟩
            · have hE' : (rL (kz m) == (Utf8.encode (r : Int)).toList) = false := by simp [hE]
              have HE : Hid (Fine s.data.toList → ∀ c : UInt8, r = c.toNat → rL m ≠ [c]) := by
                intro hF c hc e2
                apply hE
                rw [kz_nat m (by omega) (by omega), e2, hc, enc1 c]
                obtain ⟨c', e, a, -⟩ := J_move HJ.out HA.out hF
                have := fine_ascii hF e
                omega
              clear hE
              go_wp2
              go_roundg (gk - 1)
              case measure => omega
              case rel =>
                refine ⟨m + 1, by omega, by omega, by omega, by go_num, hG2, hB2, ?_⟩
                intro hF c hc j j1 j2
                by_cases ej : j = m
                · subst ej; exact HE.out hF c hc
                · exact HNO.out hF c hc j j1 (by omega)
          · obtain rfl : m = 11 := by omega
            have hOm : Hid (Own wr w.heap.size (.int .i64 0) (.int .i64 0) (.int .i64 0)) := hGm.res
            have hOm' := hGm.res
            obtain ⟨⟨f0, f1, f2⟩, x0, x1, x2⟩ := hOm'
            go_wp2
            refine bodyPost_ret (v := .agg #[.int .i64 0, .int .i64 0, .int .i64 0]) (resArg Tryz.results104 rfl (hOm.out.put _ _ _).1) rfl ⟨0, 0, 0, rfl, G_none _ (fun hF => ?_) _ _ _, ((hBm.setCell (Nat.le_refl _) _).setCell (Nat.le_refl _) _).setCell (Nat.le_refl _) _⟩
            rcases (J_other HJ.out HA.out HD.out H46.out hF).2 with h | ⟨c, j, hc, j1, j2, hj⟩
            · have := H45.out; omega
            · exact HNO.out hF c hc j j1 (by omega) hj
    · have hnx : ∀ ty, (Instr.next (.pointer (some ⟨w.heap.size + 2, 0, none⟩)) true ty).run Tryz.prog wr = .ok (.tuple #[.bool false]) wr := fun ty => Lib.run_next_end_at wr (w.heap.size + 2) s pos ty hG.it hp
      have hO1 := hG.arg
      have hO0 := hG.res
      have HO0 : Hid (Own wr w.heap.size (.int .i64 0) (.int .i64 0) (.int .i64 0)) := hO0
      obtain ⟨⟨f0, f1, f2⟩, x0, x1, x2⟩ := hO1
      obtain ⟨⟨e0, e1, e2⟩, y0, y1, y2⟩ := hO0
      go_wp2
      rw [Exit.noGoto_ret]
      exact bodyPost_ret (v := .agg #[.int .i64 k, .int .i64 (wrap64 (n * qq)), .int .i64 p]) (resArg Tryz.results104 rfl ((HO0.out.set (by omega)).put _ _ _).1) rfl ⟨k, wrap64 (n * qq), p, rfl, G_end HJ.out hp, (((hB.setCell (by simp) _).setCell (Nat.le_refl _) _).setCell (Nat.le_refl _) _).setCell (Nat.le_refl _) _⟩
end Go.Proofs.YtlddkhhaclfmiaaGreatDoor

/- The program's DevRead. Helper text: no statement is claimed here. -/
namespace Go.Proofs.YtlddkhhaclfmiaaGreatDoor
open Go.ChangeShapes Go.WideShapes Go.ChangeAt Go.RowKit

theorem read_notok {t : List UInt8} {k n p : Int} (hg : Gs t k n p) (h : okB k n p = false) : RdOk t 0 0 0 false := by
  refine .inr ⟨rfl, rfl, rfl, rfl, fun K N P hk e => ?_⟩
  obtain ⟨rfl, rfl, rfl⟩ := hg K N P (by rw [← e]; exact shape_of hk)
  rw [h] at hk; exact absurd hk (by simp)
theorem read_ok {t : List UInt8} {k n p : Int} (hg : Gs t k n p) (h1 : okB k n p = true) (h : txt k n p = t) : RdOk t k n p true :=
  .inl ⟨rfl, h1, h, fun K N P hk e => hg K N P (by rw [← e]; exact shape_of hk)⟩

set_option maxHeartbeats 1000000 in
theorem iread_any (s : ByteArray) (w : World) (hs : s.size ≤ 2000000) (hT : Tabs w) :
    Calls Tryz.prog 76 #[.string s] w (Read s.data.toList w) := by
  go_enter Tryz.func76, Tryz.ntmps76
  go_wp2_with fail
  refine (iword_any s _ (hT.alloc _)).mono ?_
  rintro e w1 ⟨k, n, p, b, rfl, hW, hb⟩
  have ob := ((Own.new w (.int .i64 0) (.int .i64 0) (.int .i64 0)).below hb)
  have sw := of_one hb
  have hlt := ob.lt
  have hT1 := hT.to sw
  have hTa := hT1.alloc (.cells #[.int .i64 k, .int .i64 n, .int .i64 p] 51)
  have on := Own.new w1 (.int .i64 k) (.int .i64 n) (.int .i64 p)
  have oba := ob.alloc (.cells #[.int .i64 k, .int .i64 n, .int .i64 p] 51)
  have swa : Below w.heap.size w (w1.alloc (.cells #[.int .i64 k, .int .i64 n, .int .i64 p] 51)) := sw.alloc sw.size _
  have hne : w1.heap.size ≠ w.heap.size := by omega
  rcases hW with ⟨rfl, hg, hne2⟩ | ⟨rfl, hnw⟩
  · have HG : Hid (Gs s.data.toList k n p) := hg
    clear hg
    cases hok : okB k n p
    · have HK : Hid (okB k n p = false) := hok
      clear hok
      go_wp2_with fail
      refine (devOk_any _ _ _ _ hTa.dev).mono ?_
      rintro e w2 ⟨rfl, hb2⟩
      rw [HK.out]
      have ob2 := oba.below hb2
      have sw2 : Below w.heap.size w w2 := swa.trans (hb2.mono swa.size)
      obtain ⟨⟨r0, r1, r2⟩, y0, y1, y2⟩ := ob2
      go_wp2
      exact bodyPost_ret (v := .tuple #[.agg #[.int .i64 0, .int .i64 0, .int .i64 0], .bool false]) (resArg2 Tryz.results76 rfl rfl (put3 ⟨r0, r1, r2⟩)) rfl ⟨0, 0, 0, false, rfl, read_notok HG.out HK.out, ((sw2.setCell (Nat.le_refl _) _).setCell (Nat.le_refl _) _).setCell (Nat.le_refl _) _⟩
    · have HK : Hid (okB k n p = true) := hok
      clear hok
      go_wp2_with fail
      refine (devOk_any _ _ _ _ hTa.dev).mono ?_
      rintro e w2 ⟨rfl, hb2⟩
      rw [HK.out]
      have on2 := on.below hb2
      have ob2 := oba.below hb2
      have sw2 : Below w.heap.size w w2 := swa.trans (hb2.mono swa.size)
      obtain ⟨⟨o0, o1, o2⟩, z0, z1, z2⟩ := on2
      go_wp2_with fail
      refine (itext_any _ _ _ _ (hTa.to hb2)).mono ?_
      rintro e w3 ⟨rfl, hb3⟩
      have on3 := (on.below hb2).below hb3
      have ob3 := ob2.below hb3
      have sw3 : Below w.heap.size w w3 := sw2.trans (hb3.mono sw2.size)
      obtain ⟨⟨q0, q1, q2⟩, x0, x1, x2⟩ := on3
      obtain ⟨⟨r0, r1, r2⟩, y0, y1, y2⟩ := ob3
      by_cases hE : txt k n p = s.toList
      · have hE' : (txt k n p == s.toList) = true := by simp [hE]
        have HE : Hid (txt k n p = s.data.toList) := by rw [← ByteArray.toList_eq]; exact hE
        clear hE
        go_wp2
        exact bodyPost_ret (v := .tuple #[.agg #[.int .i64 k, .int .i64 n, .int .i64 p], .bool true]) (resArg2 Tryz.results76 rfl rfl (put3 ⟨r0, r1, r2⟩)) rfl ⟨k, n, p, true, rfl, read_ok HG.out HK.out HE.out, ((sw3.setCell (Nat.le_refl _) _).setCell (Nat.le_refl _) _).setCell (Nat.le_refl _) _⟩
      · have hE' : (txt k n p == s.toList) = false := by simp [hE]
        have HE : Hid (txt k n p ≠ s.data.toList) := by rw [← ByteArray.toList_eq]; exact hE
        clear hE
        go_wp2
        exact bodyPost_ret (v := .tuple #[.agg #[.int .i64 0, .int .i64 0, .int .i64 0], .bool false]) (resArg2 Tryz.results76 rfl rfl (put3 ⟨r0, r1, r2⟩)) rfl ⟨0, 0, 0, false, rfl, read_no HG.out HE.out, ((sw3.setCell (Nat.le_refl _) _).setCell (Nat.le_refl _) _).setCell (Nat.le_refl _) _⟩
  · have HNW : Hid (∀ j, j < 4 → s.data.toList ≠ wordL j) := hnw
    clear hnw
    go_wp2_with fail
    refine (iguess_any s _ hs hTa).mono ?_
    rintro e w2 ⟨K, N, P, rfl, hg2, hb2⟩
    have HG : Hid (Gs s.data.toList K N P) := hg2 HNW.out
    clear hg2
    have on2 := on.below hb2
    have ob2 := oba.below hb2
    have sw2 : Below w.heap.size w w2 := swa.trans (hb2.mono swa.size)
    have hT2 := hTa.to hb2
    have on2' := on2
    obtain ⟨⟨o0, o1, o2⟩, z0, z1, z2⟩ := on2'
    have on3 := on2.put (.int .i64 K) (.int .i64 N) (.int .i64 P)
    have ob3 : Own (((w2.setCell ⟨w1.heap.size, 0, none⟩ (.int .i64 K)).setCell ⟨w1.heap.size, 1, none⟩ (.int .i64 N)).setCell ⟨w1.heap.size, 2, none⟩ (.int .i64 P)) w.heap.size (.int .i64 0) (.int .i64 0) (.int .i64 0) := ((ob2.set hne).set hne).set hne
    have sw3 : Below w.heap.size w (((w2.setCell ⟨w1.heap.size, 0, none⟩ (.int .i64 K)).setCell ⟨w1.heap.size, 1, none⟩ (.int .i64 N)).setCell ⟨w1.heap.size, 2, none⟩ (.int .i64 P)) := ((sw2.setCell (by simp; omega) _).setCell (by simp; omega) _).setCell (by simp; omega) _
    have hT3 : Tabs (((w2.setCell ⟨w1.heap.size, 0, none⟩ (.int .i64 K)).setCell ⟨w1.heap.size, 1, none⟩ (.int .i64 N)).setCell ⟨w1.heap.size, 2, none⟩ (.int .i64 P)) := hT.to sw3
    go_wp2_with fail
    generalize hw3 : ((w2.setCell ⟨w1.heap.size, 0, none⟩ (.int .i64 K)).setCell ⟨w1.heap.size, 1, none⟩ (.int .i64 N)).setCell ⟨w1.heap.size, 2, none⟩ (.int .i64 P) = w3 at *
    clear hw3
    clear on2 ob2 sw2 hT2 o0 o1 o2 z0 z1 z2 hTa on oba swa hT1
    cases hok : okB K N P
    · have HK : Hid (okB K N P = false) := hok
      clear hok
      refine (devOk_any _ _ _ _ hT3.dev).mono ?_
      rintro e w4 ⟨rfl, hb4⟩
      rw [HK.out]
      have ob4 := ob3.below hb4
      have sw4 : Below w.heap.size w w4 := sw3.trans (hb4.mono sw3.size)
      obtain ⟨⟨r0, r1, r2⟩, y0, y1, y2⟩ := ob4
      go_wp2
      exact bodyPost_ret (v := .tuple #[.agg #[.int .i64 0, .int .i64 0, .int .i64 0], .bool false]) (resArg2 Tryz.results76 rfl rfl (put3 ⟨r0, r1, r2⟩)) rfl ⟨0, 0, 0, false, rfl, read_notok HG.out HK.out, ((sw4.setCell (Nat.le_refl _) _).setCell (Nat.le_refl _) _).setCell (Nat.le_refl _) _⟩
    · have HK : Hid (okB K N P = true) := hok
      clear hok
      refine (devOk_any _ _ _ _ hT3.dev).mono ?_
      rintro e w4 ⟨rfl, hb4⟩
      rw [HK.out]
      have on4 := on3.below hb4
      have ob4 := ob3.below hb4
      have sw4 : Below w.heap.size w w4 := sw3.trans (hb4.mono sw3.size)
      obtain ⟨⟨o0, o1, o2⟩, z0, z1, z2⟩ := on4
      go_wp2_with fail
      refine (itext_any _ _ _ _ (hT3.to hb4)).mono ?_
      rintro e w5 ⟨rfl, hb5⟩
      have on5 := (on3.below hb4).below hb5
      have ob5 := ob4.below hb5
      have sw5 : Below w.heap.size w w5 := sw4.trans (hb5.mono sw4.size)
      obtain ⟨⟨q0, q1, q2⟩, x0, x1, x2⟩ := on5
      obtain ⟨⟨r0, r1, r2⟩, y0, y1, y2⟩ := ob5
      by_cases hE : txt K N P = s.toList
      · have hE' : (txt K N P == s.toList) = true := by simp [hE]
        have HE : Hid (txt K N P = s.data.toList) := by rw [← ByteArray.toList_eq]; exact hE
        clear hE
        go_wp2
        exact bodyPost_ret (v := .tuple #[.agg #[.int .i64 K, .int .i64 N, .int .i64 P], .bool true]) (resArg2 Tryz.results76 rfl rfl (put3 ⟨r0, r1, r2⟩)) rfl ⟨K, N, P, true, rfl, read_ok HG.out HK.out HE.out, ((sw5.setCell (Nat.le_refl _) _).setCell (Nat.le_refl _) _).setCell (Nat.le_refl _) _⟩
      · have hE' : (txt K N P == s.toList) = false := by simp [hE]
        have HE : Hid (txt K N P ≠ s.data.toList) := by rw [← ByteArray.toList_eq]; exact hE
        clear hE
        go_wp2
        exact bodyPost_ret (v := .tuple #[.agg #[.int .i64 0, .int .i64 0, .int .i64 0], .bool false]) (resArg2 Tryz.results76 rfl rfl (put3 ⟨r0, r1, r2⟩)) rfl ⟨0, 0, 0, false, rfl, read_no HG.out HE.out, ((sw5.setCell (Nat.le_refl _) _).setCell (Nat.le_refl _) _).setCell (Nat.le_refl _) _⟩

end Go.Proofs.YtlddkhhaclfmiaaGreatDoor
