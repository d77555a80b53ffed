/- Decimal numerals: the document's own. Helper text: no statement is claimed here. -/
import Derived.Test.YtjacgamgjjpllaaGreatDoorRows
import Derived.WalkKit
import Derived.ProofKit
import Derived.OpenShut
import Derived.Below
import Derived.WalkSmall
import Derived.BigQuiet
import Derived.Lib.ItoaLen
import Derived.Test.YtjacgamgjjpllaaGreatDoorShelf
import Derived.Lib.LaidTab
import Derived.Lib.ParseIntB
import Derived.Laws.FloatArith
namespace Go.Proofs.YtjacgamgjjpllaaGreatDoor
open Go.ChangeShapes Go.WideShapes Go.ChangeAt Go.RowKit

/-- The byte of a number. -/
def dgt (z : Int) : UInt8 := UInt8.ofNat z.toNat
theorem dgt_int (z : Int) (h0 : 0 ≤ z) (h1 : z ≤ 255) : ((dgt z).toNat : Int) = z := by unfold dgt; rw [UInt8.toNat_ofNat']; omega
theorem conv1 (w : World) (z : Int) (h0 : 0 ≤ z) (h1 : z ≤ 255) :
    Sem.run Tryz.prog (convert 22 9 (.slice (some ⟨w.heap.size, 0, none⟩) 1 1)) (w.alloc (.cells #[.int .u8 z] 5)) = .ok (.string ⟨#[dgt z]⟩) (w.alloc (.cells #[.int .u8 z] 5)) := by
  have := run_convert_bytes_back (P := Tryz.prog) (w.alloc (.cells #[.int .u8 z] 5)) 22 9 5 ⟨w.heap.size, 0, none⟩ 1 [dgt z] Tryz.underlying22 Tryz.underlying5 Tryz.underlying9 (fun j hj => by
    obtain rfl : j = 0 := by simp at hj; omega
    have e := dgt_int z h0 h1
    simp [Addr.add, e])
  exact this
theorem cat (a b : List UInt8) : (⟨a.toArray⟩ : ByteArray) ++ ⟨b.toArray⟩ = ⟨(a ++ b).toArray⟩ := by
  apply ByteArray.ext
  simp
theorem ret_str {s : ByteArray} {l : List UInt8} (h : s = ⟨l.toArray⟩) : Ending.returned (.string s) = .returned (.string ⟨l.toArray⟩) := by rw [h]
theorem digits_len (u : Nat) (hu : u ≤ 9223372036854775807) : (Lib.decDigits u).length ≤ 21 := by
  have := Lib.itoa_length_le (u : Int) (by omega) (by omega)
  rwa [Lib.itoa_nonneg] at this
theorem digits_step {m : Nat} (h : 9 < m) : Lib.decDigits m = Lib.decDigits (m / 10) ++ [dgt (48 + (m : Int) % 10)] := by
  rw [Lib.decDigits, dif_neg (by omega)]
  unfold dgt
  rw [show (48 + (m : Int) % 10).toNat = 48 + m % 10 by omega]
theorem digits_one {m : Nat} (h : ¬ 9 < m) : Lib.decDigits m = [dgt (48 + (m : Int))] := by
  rw [Lib.decDigits, dif_pos (by omega)]
  unfold dgt
  rw [show (48 + (m : Int)).toNat = 48 + m by omega]

/-! The document's own numerals. -/
set_option maxHeartbeats 400000 in
theorem dec_nat (u : Nat) (w : World) (hu : u ≤ 9223372036854775807) :
    Calls Tryz.prog 55 #[.int .i64 (u : Int)] w fun e w' => e = .returned (.string ⟨(Lib.decDigits u).toArray⟩) ∧ Below w.heap.size w w' := by
  have h1 : ¬ (u : Int) < -9223372036854775807 := by omega
  have h2 : ¬ (u : Int) < 0 := by omega
  have hU := digits_len u hu
  go_enter Tryz.func55, Tryz.ntmps55
  go_wp2
  go_loopw [0, 3] (fun n o w' => ∃ (m : Nat) (l : List UInt8), m ≤ u ∧ n = .int .i64 (m : Int) ∧ o = .string ⟨l.toArray⟩ ∧ Lib.decDigits u = Lib.decDigits m ++ l ∧ Below w.heap.size w w') (fun n _ _ => (intOf n).toNat)
  case atStart => exact ⟨u, [], by omega, rfl, rfl, by simp, Below.refl _ _⟩
  case round =>
    obtain ⟨m, l, hm, rfl, rfl, hd, hB⟩ := hrel
    rename_i wr
    have hl : l.length ≤ 30 := by have := congrArg List.length hd; simp at this; omega
    have HD : Hid (Lib.decDigits u = Lib.decDigits m ++ l) := hd
    clear hd hU
    by_cases h9 : 9 < m
    · have h9' : (9 : Int) < m := by omega
      have hcv := conv1 wr (48 + (m : Int) % 10) (by omega) (by omega)
      go_wp2
      refine ⟨⟨m / 10, [dgt (48 + (m : Int) % 10)] ++ l, by omega, by go_num, congrArg Value.string (cat [_] l), ?_, hB.alloc hB.size _⟩, by simp [intOf]; omega⟩
      rw [HD.out, digits_step h9]; simp
    · have h9' : ¬ (9 : Int) < m := by omega
      have hcv := conv1 wr (48 + (m : Int)) (by omega) (by omega)
      go_wp2
      go_ret
      exact ⟨ret_str ((cat [_] l).trans (by rw [HD.out, digits_one h9])), hB.alloc hB.size _⟩

set_option maxHeartbeats 400000 in
theorem dec_neg (u : Nat) (w : World) (h1 : 1 ≤ u) (hu : u ≤ 9223372036854775807) :
    Calls Tryz.prog 55 #[.int .i64 (-(u : Int))] w fun e w' => e = .returned (.string ⟨(45 :: Lib.decDigits u).toArray⟩) ∧ Below w.heap.size w w' := by
  have h2 : ¬ (-(u : Int)) < -9223372036854775807 := by omega
  have h3 : (-(u : Int)) < 0 := by omega
  have hU := digits_len u hu
  go_enter Tryz.func55, Tryz.ntmps55
  go_wp2_with fail
  refine (dec_nat u _ hu).mono ?_
  rintro e w1 ⟨rfl, hb⟩
  go_wp2
  go_ret
  exact ⟨ret_str (cat [45] _), hb⟩

theorem dec_any (n : Int) (w : World) (h0 : -9223372036854775807 ≤ n) (h1 : n ≤ 9223372036854775807) :
    Calls Tryz.prog 55 #[.int .i64 n] w fun e w' => e = .returned (.string ⟨(Lib.itoa n).toArray⟩) ∧ Below w.heap.size w w' := by
  by_cases h : n < 0
  · obtain ⟨u, hu⟩ : ∃ u : Nat, n = -(u : Int) := ⟨n.natAbs, by omega⟩
    subst hu
    rw [Lib.itoa_neg u (by omega)]
    exact dec_neg u w (by omega) (by omega)
  · obtain ⟨u, rfl⟩ := Int.eq_ofNat_of_zero_le (show 0 ≤ n by omega)
    rw [Lib.itoa_nonneg]
    exact dec_nat u w (by omega)
end Go.Proofs.YtjacgamgjjpllaaGreatDoor

/- Decimal numerals: the library's Itoa, and the document's own. Helper text: no statement is claimed here. -/
namespace Go.Proofs.YtjacgamgjjpllaaGreatDoor
open Go.ChangeShapes Go.WideShapes Go.ChangeAt Go.RowKit

/-- The library's table of powers of ten reads as its initialiser lays it. -/
def PowTab (w : World) : Prop := Lib.TabIs Tryz.prog w (Rows.fnMemBackRow.named.getD 2 "") .u64 Lib.pow10Tab
theorem gPow : Tryz.prog.globalNamed (Rows.fnMemBackRow.named.getD 2 "") = some 2 := by kernel_rfl
theorem PowTab.lt {w : World} (h : PowTab w) : 2 < w.heap.size :=
  World.block_lt_of_cell? w ⟨2, 0, none⟩ (Lib.TabIs.cell h gPow 0 (by decide))
theorem PowTab.to {w w' : World} (h : PowTab w) (hb : Below w.heap.size w w') : PowTab w' := by
  have hlt := h.lt
  unfold PowTab Lib.TabIs World.var? at *
  rw [gPow] at *
  simp only [Option.bind_some] at *
  rw [hb.block _ hlt]; exact h
theorem PowTab.alloc {w : World} (h : PowTab w) (o : Obj) : PowTab (w.alloc o) := h.to ((Below.refl _ _).alloc (Nat.le_refl _) o)

theorem below_grow (w : World) (k : Nat) (os : Array Obj) : Below w.heap.size w (Sort.grow (w.drewN k) os) :=
  ⟨rfl, rfl, rfl, by simp [Sort.grow], fun i hi => by
    have h : i < (w.drewN k).heap.size := hi
    simp only [Sort.grow]
    rw [Array.getElem?_append_left h]; rfl⟩

theorem itoa_any (n : Int) (w : World) (h0 : -9223372036854775808 ≤ n) (h1 : n ≤ 9223372036854775807) (hP : PowTab w) :
    Calls Tryz.prog 40 #[.int .i64 n] w fun e w' => e = .returned (.string ⟨(Lib.itoa n).toArray⟩) ∧ Below w.heap.size w w' :=
  (Any.strconv_Itoa Tryz.laysM171 n h0 h1 w hP).mono fun _ _ ⟨he, k, os, hw⟩ => ⟨he, by rw [hw]; exact below_grow w k os⟩
end Go.Proofs.YtjacgamgjjpllaaGreatDoor

/- Plain mathematics of numerals: digits, and the number that they make. Helper text: no statement is claimed here. -/
namespace Go.Proofs.YtjacgamgjjpllaaGreatDoor
open Go.RowKit

def isD (c : UInt8) : Bool := decide (48 ≤ c.toNat ∧ c.toNat ≤ 57)
/-- The number that digits make. -/
def valN (l : List UInt8) : Int := l.foldl (fun (a : Int) c => a * 10 + ((c.toNat : Int) - 48)) 0

theorem val_snoc (l : List UInt8) (c : UInt8) : valN (l ++ [c]) = valN l * 10 + ((c.toNat : Int) - 48) := by simp [valN]
theorem val_bd' : ∀ (l : List UInt8) (a : Int), 0 ≤ a → (∀ c ∈ l, isD c = true) → 0 ≤ l.foldl (fun (a : Int) c => a * 10 + ((c.toNat : Int) - 48)) a ∧ l.foldl (fun (a : Int) c => a * 10 + ((c.toNat : Int) - 48)) a < (a + 1) * 10 ^ l.length
  | [], a, h0, _ => by simp; omega
  | c :: r, a, h0, h => by
    have h2 := h c (by simp)
    simp [isD] at h2
    have h1 := val_bd' r (a * 10 + ((c.toNat : Int) - 48)) (by omega) (fun x hx => h x (by simp [hx]))
    have hm : (a * 10 + ((c.toNat : Int) - 48) + 1) * 10 ^ r.length ≤ ((a + 1) * 10) * 10 ^ r.length := Int.mul_le_mul_of_nonneg_right (by omega) (Int.pow_nonneg (by omega))
    have e : (a + 1) * 10 ^ (c :: r).length = ((a + 1) * 10) * 10 ^ r.length := by rw [List.length_cons, Int.pow_succ, Int.mul_comm (10 ^ r.length) 10, Int.mul_assoc]
    rw [e]
    simp only [List.foldl_cons]
    omega
theorem val_bd (l : List UInt8) (h : ∀ c ∈ l, isD c = true) : 0 ≤ valN l ∧ valN l < 10 ^ l.length := by
  have := val_bd' l 0 (by omega) h
  simpa [valN] using this

theorem dig_toNat (d : Nat) (h : d < 10) : (UInt8.ofNat (48 + d)).toNat = 48 + d := by rw [UInt8.toNat_ofNat']; omega
theorem digits_all : ∀ (u : Nat), ∀ c ∈ Lib.decDigits u, isD c = true := by
  intro u
  induction u using Nat.strongRecOn with
  | _ u ih =>
    intro c hc
    rw [Lib.decDigits] at hc
    split at hc
    · rename_i h
      simp only [List.mem_singleton] at hc
      subst hc
      simp [isD]
      omega
    · rename_i h
      simp only [List.mem_append, List.mem_singleton] at hc
      rcases hc with hc | hc
      · exact ih (u / 10) (by omega) c hc
      · subst hc
        simp [isD]
        omega
theorem digits_val : ∀ (u : Nat), valN (Lib.decDigits u) = (u : Int) := by
  intro u
  induction u using Nat.strongRecOn with
  | _ u ih =>
    rw [Lib.decDigits]
    split
    · rename_i h
      show (0 : Int) * 10 + (((UInt8.ofNat (48 + u)).toNat : Int) - 48) = _
      rw [dig_toNat u h]; omega
    · rename_i h
      rw [val_snoc, ih (u / 10) (by omega), dig_toNat (u % 10) (by omega)]
      omega
theorem digits_ne (u : Nat) : Lib.decDigits u ≠ [] := by
  rw [Lib.decDigits]; split <;> simp
theorem digits_small : ∀ (n u : Nat), 1 ≤ n → u < 10 ^ n → (Lib.decDigits u).length ≤ n := by
  intro n
  induction n with
  | zero => intro u h; omega
  | succ n ih =>
    intro u _ hu
    rw [Lib.decDigits]
    split
    · simp
    · rename_i h
      by_cases hn : n = 0
      · subst hn; simp at hu; omega
      · have := ih (u / 10) (by omega) (by rw [Nat.pow_succ] at hu; omega)
        simp; omega

end Go.Proofs.YtjacgamgjjpllaaGreatDoor

/- Plain mathematics of numerals: what is read of a numeral is its number, and of nothing else. Helper text: no statement is claimed here. -/
namespace Go.Proofs.YtjacgamgjjpllaaGreatDoor
open Go.RowKit

theorem isD_of {c : UInt8} (h : isD c = true) : 48 ≤ c.toNat ∧ c.toNat ≤ 57 := by simpa [isD] using h
theorem dig_back {c : UInt8} (h : isD c = true) : UInt8.ofNat (48 + (c.toNat - 48)) = c := by
  have := isD_of h
  rw [show 48 + (c.toNat - 48) = c.toNat by omega]
  exact UInt8.ofNat_toNat
theorem digits_one' {d : Nat} (h : d < 10) : Lib.decDigits d = [UInt8.ofNat (48 + d)] := by
  rw [Lib.decDigits, dif_pos h]
theorem digits_more {v d : Nat} (h : d < 10) (hv : 1 ≤ v) : Lib.decDigits (v * 10 + d) = Lib.decDigits v ++ [UInt8.ofNat (48 + d)] := by
  rw [Lib.decDigits, dif_neg (by omega)]
  have e1 : (v * 10 + d) / 10 = v := by omega
  have e2 : (v * 10 + d) % 10 = d := by omega
  rw [e1, e2]

/-- Digits without a needless zero are the numeral of their number. -/
theorem canonD : ∀ (n : Nat) (l : List UInt8), l.length = n → (∀ c ∈ l, isD c = true) → l ≠ [] → (l.head? ≠ some 48 ∨ l.length = 1) → Lib.decDigits (valN l).toNat = l ∧ (l.head? ≠ some 48 → 1 ≤ valN l) := by
  intro n
  induction n with
  | zero => intro l hl _ hne; exact absurd (List.length_eq_zero_iff.1 hl) hne
  | succ n ih =>
    intro l hl hd hne hh
    obtain ⟨r, c, rfl⟩ : ∃ r c, l = r ++ [c] := ⟨l.dropLast, l.getLast hne, (List.dropLast_concat_getLast hne).symm⟩
    have hc := isD_of (hd c (by simp))
    have hcb := dig_back (hd c (by simp))
    rw [val_snoc]
    by_cases hr : r = []
    · subst hr
      have e : (valN [] * 10 + ((c.toNat : Int) - 48)).toNat = c.toNat - 48 := by simp [valN]; omega
      rw [e, digits_one' (by omega), hcb]
      refine ⟨rfl, fun h => ?_⟩
      simp [valN]
      have : c.toNat ≠ 48 := fun h2 => h (by simp; exact UInt8.toNat.inj h2)
      omega
    · have hhead : (r ++ [c]).head? = r.head? := by
        cases r with
        | nil => exact absurd rfl hr
        | cons a b => rfl
      have hlen : 1 ≤ r.length := by
        cases r with
        | nil => exact absurd rfl hr
        | cons a b => simp
      have h48 : r.head? ≠ some 48 := by
        rcases hh with h | h
        · rwa [hhead] at h
        · exact absurd (by simpa using h) hr
      obtain ⟨i1, i2⟩ := ih r (by simpa using hl) (fun x hx => hd x (by simp [hx])) hr (.inl h48)
      have hv := i2 h48
      have e : (valN r * 10 + ((c.toNat : Int) - 48)).toNat = (valN r).toNat * 10 + (c.toNat - 48) := by omega
      rw [e, digits_more (by omega) (by omega), i1, hcb]
      exact ⟨rfl, fun _ => by omega⟩
theorem digits_head {u : Nat} (h : 1 ≤ u) : (Lib.decDigits u).head? ≠ some 48 := by
  induction u using Nat.strongRecOn with
  | _ u ih =>
    rw [Lib.decDigits]
    split
    · rename_i h9
      intro e
      have e2 : UInt8.ofNat (48 + u) = 48 := Option.some.inj e
      have := congrArg UInt8.toNat e2
      rw [dig_toNat u h9] at this
      have h0 : (48 : UInt8).toNat = 48 := rfl
      omega
    · rename_i h9
      have := ih (u / 10) (by omega) (by omega)
      have hne := digits_ne (u / 10)
      cases hd : Lib.decDigits (u / 10) with
      | nil => exact absurd hd hne
      | cons a b => rw [hd] at this; simpa using this
theorem digits_zero : Lib.decDigits 0 = [48] := by rw [digits_one' (by omega)]; rfl
theorem digits_inj {u v : Nat} (h : Lib.decDigits u = Lib.decDigits v) : u = v := by
  have := digits_val u
  rw [h, digits_val v] at this
  omega
theorem no45 (u : Nat) (r : List UInt8) : Lib.decDigits u ≠ 45 :: r := by
  intro e
  have := digits_all u 45 (by rw [e]; simp)
  exact absurd this (by decide)
theorem itoa_inj {a b : Int} (h : Lib.itoa a = Lib.itoa b) : a = b := by
  have cs : ∀ z : Int, (∃ u : Nat, z = u) ∨ ∃ u : Nat, 1 ≤ u ∧ z = -(u : Int) := fun z => by
    rcases Int.lt_or_le z 0 with h | h
    · right; exact ⟨z.natAbs, by omega, by omega⟩
    · left; exact ⟨z.toNat, by omega⟩
  rcases cs a with ⟨u, rfl⟩ | ⟨u, hu, rfl⟩ <;> rcases cs b with ⟨v, rfl⟩ | ⟨v, hv, rfl⟩
  · rw [Lib.itoa_nonneg, Lib.itoa_nonneg] at h; rw [digits_inj h]
  · rw [Lib.itoa_nonneg, Lib.itoa_neg v hv] at h; exact absurd h (no45 u _)
  · rw [Lib.itoa_neg u hu, Lib.itoa_nonneg] at h; exact absurd h.symm (no45 v _)
  · rw [Lib.itoa_neg u hu, Lib.itoa_neg v hv] at h
    rw [digits_inj (List.cons.inj h).2]
theorem itoa_no42 (z : Int) : (42 : UInt8) ∉ Lib.itoa z := by
  intro hm
  rcases Int.lt_or_le z 0 with h | h
  · obtain ⟨u, hu⟩ : ∃ u : Nat, z = -(u : Int) := ⟨z.natAbs, by omega⟩
    subst hu
    rw [Lib.itoa_neg u (by omega)] at hm
    rcases List.mem_cons.1 hm with h | h
    · exact absurd h (by decide)
    · exact absurd (digits_all u 42 h) (by decide)
  · obtain ⟨u, rfl⟩ := Int.eq_ofNat_of_zero_le h
    rw [Lib.itoa_nonneg] at hm
    exact absurd (digits_all u 42 hm) (by decide)

/-! The library's reading of numerals. -/
def foldN (acc : Nat) (l : List UInt8) : Nat := l.foldl (fun a c => a * 10 + (c.toNat - 48)) acc
theorem foldN_ge : ∀ (l : List UInt8) (acc : Nat), acc ≤ foldN acc l
  | [], acc => Nat.le_refl _
  | c :: r, acc => by
    have := foldN_ge r (acc * 10 + (c.toNat - 48))
    show acc ≤ foldN (acc * 10 + (c.toNat - 48)) r
    omega
theorem foldN_val : ∀ (l : List UInt8) (acc : Nat), (∀ c ∈ l, isD c = true) → (foldN acc l : Int) = l.foldl (fun (a : Int) c => a * 10 + ((c.toNat : Int) - 48)) acc
  | [], acc, _ => rfl
  | c :: r, acc, h => by
    have hc := isD_of (h c (by simp))
    have := foldN_val r (acc * 10 + (c.toNat - 48)) (fun x hx => h x (by simp [hx]))
    show (foldN (acc * 10 + (c.toNat - 48)) r : Int) = _
    rw [this, List.foldl_cons]
    congr 1
    omega
theorem parseU : ∀ (l : List UInt8) (acc M : Nat), (∀ c ∈ l, isD c = true) → foldN acc l ≤ M → M ≤ 18446744073709551615 → Lib.parseUintM M acc l = .ok (foldN acc l)
  | [], acc, M, _, _, _ => rfl
  | c :: r, acc, M, h, h1, h2 => by
    have hc := isD_of (h c (by simp))
    have h1' : foldN (acc * 10 + (c.toNat - 48)) r ≤ M := h1
    have hg := foldN_ge r (acc * 10 + (c.toNat - 48))
    unfold Lib.parseUintM
    rw [if_pos hc, if_neg (by omega), if_neg (by omega)]
    exact parseU r _ M (fun x hx => h x (by simp [hx])) h1' h2
theorem parse10 : ∀ (l : List UInt8) (acc : Nat), (∀ c ∈ l, isD c = true) → foldN acc l ≤ 18446744073709551615 → Lib.parseUint10 acc l = .ok (foldN acc l)
  | [], acc, _, _ => rfl
  | c :: r, acc, h, h1 => by
    have hc := isD_of (h c (by simp))
    have h1' : foldN (acc * 10 + (c.toNat - 48)) r ≤ 18446744073709551615 := h1
    have hg := foldN_ge r (acc * 10 + (c.toNat - 48))
    unfold Lib.parseUint10
    rw [if_pos hc, if_neg (by omega), if_neg (by omega)]
    exact parse10 r _ (fun x hx => h x (by simp [hx])) h1'
theorem fold_digits (u : Nat) : foldN 0 (Lib.decDigits u) = u := by
  have a := foldN_val (Lib.decDigits u) 0 (digits_all u)
  have b := digits_val u
  unfold valN at b
  have : (foldN 0 (Lib.decDigits u) : Int) = u := a.trans b
  omega
theorem digits_first (u : Nat) : ∃ c r, Lib.decDigits u = c :: r ∧ 48 ≤ c.toNat ∧ c.toNat ≤ 57 := by
  cases h : Lib.decDigits u with
  | nil => exact absurd h (digits_ne u)
  | cons c r => exact ⟨c, r, rfl, isD_of (digits_all u c (by rw [h]; simp))⟩
theorem parse_itoa (z : Int) (h : z.natAbs ≤ 9007199254740992) : Lib.parseIntB 64 (Lib.itoa z) = .ok z := by
  have hM : (2 ^ 64 - 1 : Nat) = 18446744073709551615 := rfl
  have h63 : (2 ^ (64 - 1) : Nat) = 9223372036854775808 := rfl
  rcases Int.lt_or_le z 0 with hz | hz
  · obtain ⟨u, hu⟩ : ∃ u : Nat, z = -(u : Int) := ⟨z.natAbs, by omega⟩
    subst hu
    rw [Lib.itoa_neg u (by omega)]
    obtain ⟨c, r, hd, c1, c2⟩ := digits_first u
    have hp : Lib.parseUintB 64 (Lib.decDigits u) = .ok u := by
      unfold Lib.parseUintB
      rw [if_neg (digits_ne u), hM, parseU _ _ _ (digits_all u) (by rw [fold_digits]; omega) (by omega), fold_digits]
    simp only [Lib.parseIntB]
    have e45 : (45 : UInt8).toNat = 45 := rfl
    simp only [e45, or_true, if_true, hp, h63]
    rw [if_neg (by omega), if_neg (by omega)]
  · obtain ⟨u, rfl⟩ := Int.eq_ofNat_of_zero_le hz
    rw [Lib.itoa_nonneg]
    obtain ⟨c, r, hd, c1, c2⟩ := digits_first u
    have hp : Lib.parseUintB 64 (Lib.decDigits u) = .ok u := by
      unfold Lib.parseUintB
      rw [if_neg (digits_ne u), hM, parseU _ _ _ (digits_all u) (by rw [fold_digits]; omega) (by omega), fold_digits]
    rw [hd] at hp ⊢
    simp only [Lib.parseIntB]
    rw [if_neg (by omega), hp]
    simp only [h63]
    rw [if_neg (by omega), if_neg (by omega), if_neg (by omega)]
theorem atoi_itoa (z : Int) (h : z.natAbs ≤ 9007199254740992) : Lib.atoiAll (Lib.itoa z) = .ok z := by
  rcases Int.lt_or_le z 0 with hz | hz
  · obtain ⟨u, hu⟩ : ∃ u : Nat, z = -(u : Int) := ⟨z.natAbs, by omega⟩
    subst hu
    rw [Lib.itoa_neg u (by omega)]
    have hp : Lib.parseMag (Lib.decDigits u) = .ok u := by
      unfold Lib.parseMag
      rw [if_neg (digits_ne u), parse10 _ _ (digits_all u) (by rw [fold_digits]; omega), fold_digits]
    simp only [Lib.atoiAll]
    have e45 : (45 : UInt8).toNat = 45 := rfl
    simp only [e45, or_true, if_true, hp]
    rw [if_neg (by omega), if_neg (by omega)]
  · obtain ⟨u, rfl⟩ := Int.eq_ofNat_of_zero_le hz
    rw [Lib.itoa_nonneg]
    obtain ⟨c, r, hd, c1, c2⟩ := digits_first u
    have hp : Lib.parseMag (Lib.decDigits u) = .ok u := by
      unfold Lib.parseMag
      rw [if_neg (digits_ne u), parse10 _ _ (digits_all u) (by rw [fold_digits]; omega), fold_digits]
    rw [hd] at hp ⊢
    simp only [Lib.atoiAll]
    rw [if_neg (by omega), hp]
    simp only
    rw [if_neg (by omega), if_neg (by omega), if_neg (by omega)]
end Go.Proofs.YtjacgamgjjpllaaGreatDoor

/- Real numbers of 64 bits: what is exact. Helper text: no statement is claimed here. -/
namespace Go.Proofs.YtjacgamgjjpllaaGreatDoor.Fl
open Ieee

/-- A magnitude as the format keeps it. -/
structure Sc (m k : Nat) : Prop where
  hm : m < 2 ^ 53
  hk : k = 0 ∨ 2 ^ 52 ≤ m

/-- The word of a sign, a significand and a place. -/
def wd (s : Bool) (m k : Nat) : Nat := double.word s (k * 2 ^ 52 + m)

/-- The word of an infinity. -/
def wi (s : Bool) : Nat := double.word s double.infRung

theorem infRung_eq : double.infRung = 2047 * 2 ^ 52 := rfl
theorem binade_eq : double.binade = 2 ^ 52 := rfl
theorem signWeight_eq : double.signWeight = 2 ^ 63 := rfl
theorem leastPlace_eq : double.leastPlace = -1074 := rfl

theorem word_sign (s : Bool) {r : Nat} (h : r < 2 ^ 63) : (double.word s r / double.signWeight % 2 == 1) = s := by
  rw [signWeight_eq]
  cases s <;> simp [Format.word, signWeight_eq] <;> omega

theorem word_rung (s : Bool) {r : Nat} (h : r < 2 ^ 63) : double.word s r % double.signWeight = r := by
  rw [signWeight_eq]
  cases s <;> simp [Format.word, signWeight_eq] <;> omega

theorem read_wd {m k : Nat} (h : Sc m k) (hk : k ≤ 2045) (s : Bool) : double.read (wd s m k) = .number s m ((k : Int) - 1074) := by
  have h1 := h.hm
  have h2 := h.hk
  have hr : k * 2 ^ 52 + m < 2 ^ 63 := by omega
  unfold wd Format.read
  rw [word_sign s hr, word_rung s hr, binade_eq, infRung_eq, leastPlace_eq]
  by_cases hs : m < 2 ^ 52
  · have : k = 0 := by omega
    subst this
    simp [hs]
  · have a1 : ¬ k * 2 ^ 52 + m < 2 ^ 52 := by omega
    have a2 : k * 2 ^ 52 + m < 2047 * 2 ^ 52 := by omega
    have a3 : (k * 2 ^ 52 + m) % 2 ^ 52 = m - 2 ^ 52 := by omega
    have a4 : (k * 2 ^ 52 + m) / 2 ^ 52 = k + 1 := by omega
    have a5 : 2 ^ 52 + (m - 2 ^ 52) = m := by omega
    have a6 : (-1074 : Int) + ((k + 1 - 1 : Nat) : Int) = (k : Int) - 1074 := by omega
    simp only [a1, if_false, a2, if_true, a3, a4, a5, a6]

theorem read_wi (s : Bool) : double.read (wi s) = .infinity s := by
  cases s <;> rfl

theorem pow_lt_pow_iff2 {a b : Nat} : 2 ^ a < 2 ^ b ↔ a < b := Nat.pow_lt_pow_iff_right (by omega)
theorem pow_le_pow_iff2 {a b : Nat} : 2 ^ a ≤ 2 ^ b ↔ a ≤ b := Nat.pow_le_pow_iff_right (by omega)

theorem cut_exact (s : Bool) (m d : Nat) (hm : 0 < m) : Toward.even.cut s (m * 2 ^ d) d = m := by
  have hp : 0 < 2 ^ d := Nat.two_pow_pos d
  have hne : m * 2 ^ d ≠ 0 := Nat.mul_ne_zero (by omega) (by omega)
  have hd : d ≤ (m * 2 ^ d).log2 := (Nat.le_log2 hne).2 (Nat.le_mul_of_pos_left _ hm)
  unfold Toward.cut
  have hmin : min d ((m * 2 ^ d).log2 + 2) = d := by omega
  simp only [hmin, Nat.shiftLeft_eq, Nat.one_mul, Nat.mul_div_cancel _ hp, Nat.mul_mod_left]
  have : (2 ^ d == 2 * 0) = false := by simp
  simp [this]

theorem cut_none (s : Bool) (n : Nat) : Toward.even.cut s n 0 = n := by
  unfold Toward.cut
  simp [Nat.mod_one]

theorem nearest_sc {m k : Nat} (h : Sc m k) (hm : 0 < m) (s : Bool) (mag : Nat) (a b : Nat) (hab : a = 0 ∨ b = 0) (e : mag * 2 ^ a = m * 2 ^ (k + b)) :
    double.nearest s mag ((a : Int) - b - 1074) = double.word s (min (k * 2 ^ 52 + m) double.infRung) := by
  have h1 := h.hm
  have h2 := h.hk
  have pa : 0 < 2 ^ a := Nat.two_pow_pos a
  have pkb : 0 < 2 ^ (k + b) := Nat.two_pow_pos _
  have hne : mag ≠ 0 := by
    rintro rfl
    have : 0 < m * 2 ^ (k + b) := Nat.mul_pos hm pkb
    omega
  have l1 := Nat.log2_self_le hne
  have l2 := @Nat.lt_log2_self mag
  have up : 2 ^ (mag.log2 + a) ≤ m * 2 ^ (k + b) := by
    rw [← e, Nat.pow_add]; exact Nat.mul_le_mul_right _ l1
  have dn : m * 2 ^ (k + b) < 2 ^ (mag.log2 + 1 + a) := by
    rw [← e, Nat.pow_add _ (mag.log2 + 1)]; exact Nat.mul_lt_mul_of_pos_right l2 pa
  have key : max ((a : Int) - b - 1074 + mag.log2 - (52 : Nat)) (-1074) = (k : Int) - 1074 := by
    by_cases hs : m < 2 ^ 52
    · have hk0 : k = 0 := by omega
      subst hk0
      have : m * 2 ^ (0 + b) < 2 ^ (52 + (0 + b)) := by rw [Nat.pow_add 2 52]; exact Nat.mul_lt_mul_of_pos_right hs pkb
      have := pow_lt_pow_iff2.1 (Nat.lt_of_le_of_lt up this)
      omega
    · have t1 : 2 ^ (52 + (k + b)) ≤ m * 2 ^ (k + b) := by rw [Nat.pow_add 2 52]; exact Nat.mul_le_mul_right _ (by omega)
      have t2 : m * 2 ^ (k + b) < 2 ^ (53 + (k + b)) := by rw [Nat.pow_add 2 53]; exact Nat.mul_lt_mul_of_pos_right h1 pkb
      have := pow_lt_pow_iff2.1 (Nat.lt_of_le_of_lt up t2)
      have := pow_lt_pow_iff2.1 (Nat.lt_of_le_of_lt t1 dn)
      omega
  unfold Format.nearest
  rw [if_neg hne]
  have hf : (double.fractionBits : Nat) = 52 := rfl
  rw [leastPlace_eq, hf]
  simp only [key, binade_eq]
  have kept : Toward.even.cut s (mag <<< ((a : Int) - b - 1074 - ((k : Int) - 1074)).toNat) ((k : Int) - 1074 - ((a : Int) - b - 1074)).toNat = m := by
    by_cases hc : b + k ≤ a
    · obtain ⟨c, rfl⟩ := Nat.exists_eq_add_of_le hc
      have e1 : (((b + k + c : Nat) : Int) - b - 1074 - ((k : Int) - 1074)).toNat = c := by omega
      have e2 : ((k : Int) - 1074 - (((b + k + c : Nat) : Int) - b - 1074)).toNat = 0 := by omega
      rw [e1, e2, cut_none, Nat.shiftLeft_eq]
      have : mag * 2 ^ c * 2 ^ (k + b) = m * 2 ^ (k + b) := by
        rw [← e, Nat.mul_assoc, ← Nat.pow_add]; congr 2; omega
      exact Nat.eq_of_mul_eq_mul_right pkb this
    · obtain ⟨d, hd⟩ := Nat.exists_eq_add_of_le (Nat.le_of_not_le hc)
      have e1 : ((a : Int) - b - 1074 - ((k : Int) - 1074)).toNat = 0 := by omega
      have e2 : ((k : Int) - 1074 - ((a : Int) - b - 1074)).toNat = d := by omega
      have : mag * 2 ^ a = m * 2 ^ d * 2 ^ a := by
        rw [e, Nat.mul_assoc, ← Nat.pow_add]; congr 2; omega
      have := Nat.eq_of_mul_eq_mul_right pa this
      rw [e1, e2, Nat.shiftLeft_zero, this, cut_exact s m d hm]
  rw [kept]
  have : ((k : Int) - 1074 - (-1074)).toNat = k := by omega
  rw [this]


/-- Doubling and halving. -/
theorem sc_up {m k : Nat} (h : Sc m k) : ∃ m' k', Sc m' k' ∧ m' * 2 ^ k' = 2 * (m * 2 ^ k) ∧ k' ≤ k + 1 := by
  by_cases hs : 2 ^ 52 ≤ m
  · exact ⟨m, k + 1, ⟨h.hm, .inr hs⟩, by rw [Nat.pow_succ]; rw [← Nat.mul_assoc, Nat.mul_comm], by omega⟩
  · have : k = 0 := by have := h.hk; omega
    subst this
    exact ⟨2 * m, 0, ⟨by omega, .inl rfl⟩, by simp, by omega⟩

def two : Nat := 2 ^ 62
theorem read_two : double.read two = .number false (2 ^ 52) (-51) := rfl

theorem mul_two {m k m' k' : Nat} (h : Sc m k) (hk : k ≤ 2045) (h' : Sc m' k') (hm : 0 < m) (e : m' * 2 ^ k' = 2 * (m * 2 ^ k)) (s : Bool) :
    double.mul (wd s m k) two = some (double.word s (min (k' * 2 ^ 52 + m') double.infRung)) := by
  unfold Format.mul
  rw [read_wd h hk s, read_two]
  have hm' : 0 < m' := by
    rcases Nat.eq_zero_or_pos m' with rfl | h
    · have : 0 < 2 * (m * 2 ^ k) := Nat.mul_pos (by omega) (Nat.mul_pos hm (Nat.two_pow_pos k))
      omega
    · exact h
  simp only [Datum.product, Option.map_some, Format.write, Bool.xor_false]
  congr 1
  by_cases hk51 : 51 ≤ k
  · obtain ⟨c, rfl⟩ := Nat.exists_eq_add_of_le hk51
    have : ((51 + c : Nat) : Int) - 1074 + -51 = (c : Int) - (0 : Nat) - 1074 := by omega
    rw [this]
    refine nearest_sc h' hm' s _ _ _ (.inr rfl) ?_
    rw [Nat.add_zero, e]
    grind
  · have : (k : Int) - 1074 + -51 = ((0 : Nat) : Int) - ((51 - k : Nat) : Int) - 1074 := by omega
    rw [this]
    refine nearest_sc h' hm' s _ _ _ (.inl rfl) ?_
    rw [Nat.pow_add 2 k' (51 - k), ← Nat.mul_assoc, e]
    have : 2 ^ k * 2 ^ (51 - k) = 2 ^ 51 := by rw [← Nat.pow_add]; congr 1; omega
    grind

theorem div_two {m k m' k' : Nat} (h : Sc m k) (hk : k ≤ 2045) (h' : Sc m' k') (hm : 0 < m) (e : 2 * (m' * 2 ^ k') = m * 2 ^ k) (s : Bool) :
    double.div (wd s m k) two = some (double.word s (min (k' * 2 ^ 52 + m') double.infRung)) := by
  unfold Format.div
  rw [read_wd h hk s, read_two]
  have hm' : 0 < m' := by
    rcases Nat.eq_zero_or_pos m' with rfl | h
    · have : 0 < m * 2 ^ k := Nat.mul_pos hm (Nat.two_pow_pos k)
      omega
    · exact h
  have hl : m.log2 ≤ 52 := by
    have := (Nat.log2_lt (Nat.pos_iff_ne_zero.1 hm)).2 h.hm
    omega
  have l52 : (2 ^ 52 : Nat).log2 = 52 := Nat.log2_two_pow
  have hf : (double.fractionBits : Nat) = 52 := rfl
  simp only [Datum.quotient, Bool.xor_false, hf, l52, Nat.shiftLeft_eq]
  obtain ⟨d, hd⟩ : ∃ d, 52 + 2 + 52 - m.log2 = 54 + d := ⟨52 - m.log2, by omega⟩
  rw [hd]
  have hpow : m * 2 ^ (54 + d) = (m * 2 ^ (2 + d)) * 2 ^ 52 := by grind
  have hp : 0 < 2 ^ 52 := by omega
  rw [hpow, Nat.mul_div_cancel _ hp, Nat.mul_mod_left]
  simp only [bne_self_eq_false, Bool.toNat_false, Nat.add_zero]
  have : ¬ (2 ^ 52 = 0) := by omega
  simp only [this, if_false, Option.map_some]
  congr 1
  have hdle : d ≤ 52 := by omega
  by_cases hk1 : 4 + d ≤ k
  · obtain ⟨c, rfl⟩ := Nat.exists_eq_add_of_le hk1
    have : ((4 + d + c : Nat) : Int) - 1074 - -51 - ((54 + d : Nat) : Int) - 1 = (c : Int) - (0 : Nat) - 1074 := by omega
    rw [this]
    refine nearest_sc h' hm' s _ _ _ (.inr rfl) ?_
    rw [Nat.add_zero]
    grind
  · have : (k : Int) - 1074 - -51 - ((54 + d : Nat) : Int) - 1 = ((0 : Nat) : Int) - ((4 + d - k : Nat) : Int) - 1074 := by omega
    rw [this]
    refine nearest_sc h' hm' s _ _ _ (.inl rfl) ?_
    have : 2 ^ k * 2 ^ (4 + d - k) = 2 ^ (4 + d) := by rw [← Nat.pow_add]; congr 1; omega
    have e2 : 2 * (m' * 2 ^ (k' + (4 + d - k))) = m * 2 ^ (4 + d) := by grind
    grind

/-- The value with its sign, in units of the least place. -/
def sg (s : Bool) (v : Nat) : Int := if s then -(v : Int) else (v : Int)

theorem signed_eq (s : Bool) (m u : Nat) : signed s m u = sg s (m * 2 ^ u) := by
  cases s <;> simp [signed, sg, Nat.shiftLeft_eq]

theorem sg_scale (s : Bool) (m c : Nat) : sg s (m * c) = sg s m * c := by
  cases s <;> simp [sg, Int.neg_mul]

theorem compare_scale (x y : Int) (c : Nat) (hc : 0 < c) : compare (x * c) (y * c) = compare x y := by
  have hc' : (0 : Int) < c := by omega
  simp only [compare, compareOfLessAndEq, Int.mul_lt_mul_right hc']
  have : (x * (c : Int) = y * c) ↔ x = y := ⟨fun h => Int.eq_of_mul_eq_mul_right (by omega) h, fun h => by rw [h]⟩
  simp only [this]

theorem order_wd {m k n j : Nat} (h : Sc m k) (hk : k ≤ 2045) (h' : Sc n j) (hj : j ≤ 2045) (s t : Bool) :
    double.order (wd s m k) (wd t n j) = some (compare (sg s (m * 2 ^ k)) (sg t (n * 2 ^ j))) := by
  unfold Format.order
  rw [read_wd h hk s, read_wd h' hj t]
  simp only [Datum.order, signed_eq]
  congr 1
  have hp : 0 < 2 ^ (min k j) := Nat.two_pow_pos _
  have e1 : ((k : Int) - 1074 - min ((k : Int) - 1074) ((j : Int) - 1074)).toNat = k - min k j := by omega
  have e2 : ((j : Int) - 1074 - min ((k : Int) - 1074) ((j : Int) - 1074)).toNat = j - min k j := by omega
  rw [e1, e2, ← compare_scale _ _ _ hp, ← sg_scale, ← sg_scale, Nat.mul_assoc, ← Nat.pow_add, Nat.mul_assoc, ← Nat.pow_add]
  have e3 : k - min k j + min k j = k := by omega
  have e4 : j - min k j + min k j = j := by omega
  rw [e3, e4]

end Go.Proofs.YtjacgamgjjpllaaGreatDoor.Fl

/- Real numbers of 64 bits: numbers, infinities, nan; their order. Helper text: no statement is claimed here. -/
namespace Go.Proofs.YtjacgamgjjpllaaGreatDoor.Fl
open Ieee

def nan (b : Nat) : Prop := (double.read b).isNaN = true

theorem nan_read {b : Nat} (h : nan b) : ∃ s t, double.read b = .nan s t := by
  unfold nan at h
  cases e : double.read b <;> rw [e] at h <;> simp [Datum.isNaN] at h
  exact ⟨_, _, rfl⟩

theorem word_of {b : Nat} (h : b < 2 ^ 64) : b = double.word (b / 2 ^ 63 % 2 == 1) (b % 2 ^ 63) := by
  unfold Format.word
  rw [signWeight_eq]
  split <;> rename_i hb <;> simp at hb <;> omega

/-- Every word is a number, an infinity or a nan. -/
theorem cases_wd {b : Nat} (h : b < 2 ^ 64) : (∃ s m k, Sc m k ∧ k ≤ 2045 ∧ b = wd s m k) ∨ (∃ s, b = wi s) ∨ nan b := by
  have hb := word_of h
  generalize (b / 2 ^ 63 % 2 == 1) = s at hb
  have hr : b % 2 ^ 63 < 2 ^ 63 := Nat.mod_lt _ (by omega)
  generalize b % 2 ^ 63 = r at hb hr
  subst hb
  by_cases h1 : r < 2047 * 2 ^ 52
  · left
    by_cases h2 : r < 2 ^ 52
    · exact ⟨s, r, 0, ⟨by omega, .inl rfl⟩, by omega, by unfold wd; simp⟩
    · refine ⟨s, 2 ^ 52 + r % 2 ^ 52, r / 2 ^ 52 - 1, ⟨by omega, .inr (by omega)⟩, by omega, ?_⟩
      unfold wd; congr 1; omega
  · right
    by_cases h3 : r = 2047 * 2 ^ 52
    · left; exact ⟨s, by subst h3; rfl⟩
    · right
      unfold nan Format.read
      rw [word_sign s hr, word_rung s hr, binade_eq, infRung_eq]
      have a1 : ¬ r < 2 ^ 52 := by omega
      simp only [a1, if_false, h1, h3, Datum.isNaN]

theorem wd_lt {m k : Nat} (h : Sc m k) (hk : k ≤ 2045) (s : Bool) : wd s m k < 2 ^ 64 := by
  have h1 := h.hm
  unfold wd
  exact Format.word_lt double s (by rw [signWeight_eq]; omega)
theorem wi_lt (s : Bool) : wi s < 2 ^ 64 := Format.word_lt double s double.infRung_lt

theorem not_nan_wd {m k : Nat} (h : Sc m k) (hk : k ≤ 2045) (s : Bool) : ¬ nan (wd s m k) := by
  unfold nan; rw [read_wd h hk]; simp [Datum.isNaN]
theorem not_nan_wi (s : Bool) : ¬ nan (wi s) := by
  unfold nan; rw [read_wi]; simp [Datum.isNaN]

theorem order_nan_left {a : Nat} (h : nan a) (b : Nat) : double.order a b = none := by
  obtain ⟨s, t, e⟩ := nan_read h
  unfold Format.order
  rw [e]; cases double.read b <;> rfl
theorem order_nan_right {b : Nat} (h : nan b) (a : Nat) : double.order a b = none := by
  obtain ⟨s, t, e⟩ := nan_read h
  unfold Format.order
  rw [e]; cases double.read a <;> rfl

theorem order_wi_wd {m k : Nat} (h : Sc m k) (hk : k ≤ 2045) (s t : Bool) : double.order (wi s) (wd t m k) = some (if s then .lt else .gt) := by
  unfold Format.order; rw [read_wi, read_wd h hk]; rfl
theorem order_wd_wi {m k : Nat} (h : Sc m k) (hk : k ≤ 2045) (s t : Bool) : double.order (wd t m k) (wi s) = some (if s then .gt else .lt) := by
  unfold Format.order; rw [read_wi, read_wd h hk]; rfl
theorem order_wi_wi (s t : Bool) : double.order (wi s) (wi t) = some (compare t.toNat s.toNat) := by
  unfold Format.order; rw [read_wi, read_wi]; rfl

theorem order_self {a : Nat} (h : a < 2 ^ 64) (hn : ¬ nan a) : double.order a a = some .eq := by
  rcases cases_wd h with ⟨s, m, k, hs, hk, rfl⟩ | ⟨s, rfl⟩ | hx
  · rw [order_wd hs hk hs hk]; simp
  · rw [order_wi_wi]; simp
  · exact absurd hx hn

theorem wd_inj {m k n j : Nat} (h : Sc m k) (hk : k ≤ 2045) (h' : Sc n j) (hj : j ≤ 2045) {s t : Bool} (e : wd s m k = wd t n j) : s = t ∧ m = n ∧ k = j := by
  have e1 := read_wd h hk s
  rw [e, read_wd h' hj t] at e1
  simp only [Datum.number.injEq] at e1
  refine ⟨e1.1.symm, e1.2.1.symm, ?_⟩
  have := e1.2.2; omega

/-- One value, one place. -/
theorem sc_unique {m k n j : Nat} (h : Sc m k) (h' : Sc n j) (hm : 0 < m) (e : m * 2 ^ k = n * 2 ^ j) : m = n ∧ k = j := by
  have hn : 0 < n := by
    rcases Nat.eq_zero_or_pos n with rfl | h
    · have : 0 < m * 2 ^ k := Nat.mul_pos hm (Nat.two_pow_pos k)
      omega
    · exact h
  have key : ∀ {m k n j : Nat}, Sc m k → Sc n j → m * 2 ^ k = n * 2 ^ j → ¬ k < j := by
    intro m k n j h h' e hlt
    obtain ⟨d, rfl⟩ := Nat.exists_eq_add_of_lt hlt
    have : m * 2 ^ k = n * 2 ^ (d + 1) * 2 ^ k := by rw [e]; grind
    have := Nat.eq_of_mul_eq_mul_right (Nat.two_pow_pos k) this
    have h1 := h.hm
    have h2 : 2 ^ 52 ≤ n := by have := h'.hk; omega
    have h3 : n * 2 ^ 1 ≤ n * 2 ^ (d + 1) := Nat.mul_le_mul_left _ (pow_le_pow_iff2.2 (by omega))
    omega
  have hkj : k = j := by
    have := key h h' e
    have := key h' h e.symm
    omega
  subst hkj
  exact ⟨Nat.eq_of_mul_eq_mul_right (Nat.two_pow_pos k) e, rfl⟩

theorem exists_sc (m : Nat) (h : m < 2 ^ 53) : ∀ k, ∃ m' k', Sc m' k' ∧ m' * 2 ^ k' = m * 2 ^ k ∧ k' ≤ k := by
  intro k
  induction k generalizing m with
  | zero => exact ⟨m, 0, ⟨h, .inl rfl⟩, rfl, by omega⟩
  | succ k ih =>
    by_cases hs : 2 ^ 52 ≤ m
    · exact ⟨m, k + 1, ⟨h, .inr hs⟩, rfl, by omega⟩
    · obtain ⟨m', k', h1, h2, h3⟩ := ih (2 * m) (by omega)
      refine ⟨m', k', h1, ?_, by omega⟩
      rw [h2]; grind

/-- 'x' written as '-x'. -/
theorem negFloat_word (s : Bool) {r : Nat} (h : r < 2 ^ 63) : Go.Op.negFloat .f64 (double.word s r) = double.word (!s) r := by
  unfold Go.Op.negFloat
  show double.word s r ^^^ 2 ^ 63 = double.word (!s) r
  have hbit : ∀ x, x < 2 ^ 63 → x ^^^ 2 ^ 63 = 2 ^ 63 + x := by
    intro x hx
    have e1 : 2 ^ 63 + x = 2 ^ 63 ^^^ x := by
      have := Nat.two_pow_add_eq_or_of_lt hx 1
      rw [Nat.mul_one] at this
      rw [this]
      apply Nat.eq_of_testBit_eq
      intro i
      simp only [Nat.testBit_or, Nat.testBit_xor, Nat.testBit_two_pow]
      by_cases hi : 63 = i
      · subst hi; simp [Nat.testBit_lt_two_pow hx]
      · simp [hi]
    rw [e1, Nat.xor_comm]
  cases s
  · simpa [Format.word, signWeight_eq] using hbit r h
  · have := hbit r h
    simp only [Format.word, signWeight_eq, if_true, Bool.not_true, Bool.false_eq_true, if_false]
    rw [← this, Nat.xor_assoc, Nat.xor_self, Nat.xor_zero]

theorem neg_wd {m k : Nat} (h : Sc m k) (hk : k ≤ 2045) (s : Bool) : Go.Op.negFloat .f64 (wd s m k) = wd (!s) m k :=
  negFloat_word s (by have := h.hm; omega)
theorem neg_wi (s : Bool) : Go.Op.negFloat .f64 (wi s) = wi (!s) := negFloat_word s double.infRung_lt

/-- A whole number as a real one. -/
theorem floatOfInt_sc {n : Int} {m k : Nat} (h : Sc m k) (hm : 0 < m) (e : m * 2 ^ k = n.natAbs * 2 ^ 1074) (hk : k ≤ 2045) :
    Go.floatOfInt .f64 n = wd (n < 0) m k := by
  show double.nearest (n < 0) n.natAbs 0 = _
  have : (0 : Int) = ((1074 : Nat) : Int) - (0 : Nat) - 1074 := by omega
  rw [this, nearest_sc h hm _ _ _ _ (.inr rfl) (by rw [Nat.add_zero, e])]
  unfold wd
  congr 1
  rw [infRung_eq]
  have := h.hm
  omega
theorem floatOfInt_zero : Go.floatOfInt .f64 0 = wd false 0 0 := rfl

end Go.Proofs.YtjacgamgjjpllaaGreatDoor.Fl
