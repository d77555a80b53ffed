/- Decimal numerals: the document's own. Helper text: no statement is claimed here. -/
import Derived.Test.YtlddkhhaclfmiaaGreatDoorRows
import Derived.WalkKit
import Derived.ProofKit
import Derived.OpenShut
import Derived.Below
import Derived.WalkSmall
import Derived.BigQuiet
import Derived.Lib.ItoaLen
import Derived.Test.YtlddkhhaclfmiaaGreatDoorShelf
import Derived.Lib.LaidTab
import Derived.LaidMore
import Derived.Deep.QuietTactic
import Derived.Deep.RegionHeld3
import Derived.Lib.QuietBelow
import Derived.Deep.AppendLies
import Derived.OwnWalk
import Derived.Deep.WholeRow
namespace Go.Proofs.YtlddkhhaclfmiaaGreatDoor
open Go.ChangeShapes Go.WideShapes Go.ChangeAt Go.RowKit

/-- The byte of a number. -/
def dgt (z : Int) : UInt8 := UInt8.ofNat z.toNat
theorem dgt_int (z : Int) (h0 : 0 ≤ z) (h1 : z ≤ 255) : ((dgt z).toNat : Int) = z := by unfold dgt; rw [UInt8.toNat_ofNat']; omega
theorem conv1 (w : World) (z : Int) (h0 : 0 ≤ z) (h1 : z ≤ 255) :
    Sem.run Tryz.prog (convert 22 9 (.slice (some ⟨w.heap.size, 0, none⟩) 1 1)) (w.alloc (.cells #[.int .u8 z] 5)) = .ok (.string ⟨#[dgt z]⟩) (w.alloc (.cells #[.int .u8 z] 5)) := by
  have := run_convert_bytes_back (P := Tryz.prog) (w.alloc (.cells #[.int .u8 z] 5)) 22 9 5 ⟨w.heap.size, 0, none⟩ 1 [dgt z] Tryz.underlying22 Tryz.underlying5 Tryz.underlying9 (fun j hj => by
    obtain rfl : j = 0 := by simp at hj; omega
    have e := dgt_int z h0 h1
    simp [Addr.add, e])
  exact this
theorem cat (a b : List UInt8) : (⟨a.toArray⟩ : ByteArray) ++ ⟨b.toArray⟩ = ⟨(a ++ b).toArray⟩ := by
  apply ByteArray.ext
  simp
theorem ret_str {s : ByteArray} {l : List UInt8} (h : s = ⟨l.toArray⟩) : Ending.returned (.string s) = .returned (.string ⟨l.toArray⟩) := by rw [h]
theorem digits_len (u : Nat) (hu : u ≤ 9223372036854775807) : (Lib.decDigits u).length ≤ 21 := by
  have := Lib.itoa_length_le (u : Int) (by omega) (by omega)
  rwa [Lib.itoa_nonneg] at this
theorem digits_step {m : Nat} (h : 9 < m) : Lib.decDigits m = Lib.decDigits (m / 10) ++ [dgt (48 + (m : Int) % 10)] := by
  rw [Lib.decDigits, dif_neg (by omega)]
  unfold dgt
  rw [show (48 + (m : Int) % 10).toNat = 48 + m % 10 by omega]
theorem digits_one {m : Nat} (h : ¬ 9 < m) : Lib.decDigits m = [dgt (48 + (m : Int))] := by
  rw [Lib.decDigits, dif_pos (by omega)]
  unfold dgt
  rw [show (48 + (m : Int)).toNat = 48 + m by omega]

/-! The document's own numerals. -/
set_option maxHeartbeats 400000 in
theorem dec_nat (u : Nat) (w : World) (hu : u ≤ 9223372036854775807) :
    Calls Tryz.prog 69 #[.int .i64 (u : Int)] w fun e w' => e = .returned (.string ⟨(Lib.decDigits u).toArray⟩) ∧ Below w.heap.size w w' := by
  have h1 : ¬ (u : Int) < -9223372036854775807 := by omega
  have h2 : ¬ (u : Int) < 0 := by omega
  have hU := digits_len u hu
  go_enter Tryz.func69, Tryz.ntmps69
  go_wp2
  go_loopw [0, 3] (fun n o w' => ∃ (m : Nat) (l : List UInt8), m ≤ u ∧ n = .int .i64 (m : Int) ∧ o = .string ⟨l.toArray⟩ ∧ Lib.decDigits u = Lib.decDigits m ++ l ∧ Below w.heap.size w w') (fun n _ _ => (intOf n).toNat)
  case atStart => exact ⟨u, [], by omega, rfl, rfl, by simp, Below.refl _ _⟩
  case round =>
    obtain ⟨m, l, hm, rfl, rfl, hd, hB⟩ := hrel
    rename_i wr
    have hl : l.length ≤ 30 := by have := congrArg List.length hd; simp at this; omega
    have HD : Hid (Lib.decDigits u = Lib.decDigits m ++ l) := hd
    clear hd hU
    by_cases h9 : 9 < m
    · have h9' : (9 : Int) < m := by omega
      have hcv := conv1 wr (48 + (m : Int) % 10) (by omega) (by omega)
      go_wp2
      refine ⟨⟨m / 10, [dgt (48 + (m : Int) % 10)] ++ l, by omega, by go_num, congrArg Value.string (cat [_] l), ?_, hB.alloc hB.size _⟩, by simp [intOf]; omega⟩
      rw [HD.out, digits_step h9]; simp
    · have h9' : ¬ (9 : Int) < m := by omega
      have hcv := conv1 wr (48 + (m : Int)) (by omega) (by omega)
      go_wp2
      go_ret
      exact ⟨ret_str ((cat [_] l).trans (by rw [HD.out, digits_one h9])), hB.alloc hB.size _⟩

set_option maxHeartbeats 400000 in
theorem dec_neg (u : Nat) (w : World) (h1 : 1 ≤ u) (hu : u ≤ 9223372036854775807) :
    Calls Tryz.prog 69 #[.int .i64 (-(u : Int))] w fun e w' => e = .returned (.string ⟨(45 :: Lib.decDigits u).toArray⟩) ∧ Below w.heap.size w w' := by
  have h2 : ¬ (-(u : Int)) < -9223372036854775807 := by omega
  have h3 : (-(u : Int)) < 0 := by omega
  have hU := digits_len u hu
  go_enter Tryz.func69, Tryz.ntmps69
  go_wp2_with fail
  refine (dec_nat u _ hu).mono ?_
  rintro e w1 ⟨rfl, hb⟩
  go_wp2
  go_ret
  exact ⟨ret_str (cat [45] _), hb⟩

theorem dec_any (n : Int) (w : World) (h0 : -9223372036854775807 ≤ n) (h1 : n ≤ 9223372036854775807) :
    Calls Tryz.prog 69 #[.int .i64 n] w fun e w' => e = .returned (.string ⟨(Lib.itoa n).toArray⟩) ∧ Below w.heap.size w w' := by
  by_cases h : n < 0
  · obtain ⟨u, hu⟩ : ∃ u : Nat, n = -(u : Int) := ⟨n.natAbs, by omega⟩
    subst hu
    rw [Lib.itoa_neg u (by omega)]
    exact dec_neg u w (by omega) (by omega)
  · obtain ⟨u, rfl⟩ := Int.eq_ofNat_of_zero_le (show 0 ≤ n by omega)
    rw [Lib.itoa_nonneg]
    exact dec_nat u w (by omega)
end Go.Proofs.YtlddkhhaclfmiaaGreatDoor

/- Decimal numerals: the library's Itoa, and the document's own. Helper text: no statement is claimed here. -/
namespace Go.Proofs.YtlddkhhaclfmiaaGreatDoor
open Go.ChangeShapes Go.WideShapes Go.ChangeAt Go.RowKit

/-- The library's table of powers of ten reads as its initialiser lays it. -/
def PowTab (w : World) : Prop := Lib.TabIs Tryz.prog w (Rows.fnElemBackRow.named.getD 2 "") .u64 Lib.pow10Tab
theorem gPow : Tryz.prog.globalNamed (Rows.fnElemBackRow.named.getD 2 "") = some 5 := by kernel_rfl
theorem PowTab.lt {w : World} (h : PowTab w) : 5 < w.heap.size :=
  World.block_lt_of_cell? w ⟨5, 0, none⟩ (Lib.TabIs.cell h gPow 0 (by decide))
theorem PowTab.to {w w' : World} (h : PowTab w) (hb : Below w.heap.size w w') : PowTab w' := by
  have hlt := h.lt
  unfold PowTab Lib.TabIs World.var? at *
  rw [gPow] at *
  simp only [Option.bind_some] at *
  rw [hb.block _ hlt]; exact h
theorem PowTab.alloc {w : World} (h : PowTab w) (o : Obj) : PowTab (w.alloc o) := h.to ((Below.refl _ _).alloc (Nat.le_refl _) o)

theorem below_grow (w : World) (k : Nat) (os : Array Obj) : Below w.heap.size w (Sort.grow (w.drewN k) os) :=
  ⟨rfl, rfl, rfl, by simp [Sort.grow], fun i hi => by
    have h : i < (w.drewN k).heap.size := hi
    simp only [Sort.grow]
    rw [Array.getElem?_append_left h]; rfl⟩

theorem itoa_any (n : Int) (w : World) (h0 : -9223372036854775808 ≤ n) (h1 : n ≤ 9223372036854775807) (hP : PowTab w) :
    Calls Tryz.prog 56 #[.int .i64 n] w fun e w' => e = .returned (.string ⟨(Lib.itoa n).toArray⟩) ∧ Below w.heap.size w w' :=
  (Any.strconv_Itoa Tryz.laysM171 n h0 h1 w hP).mono fun _ _ ⟨he, k, os, hw⟩ => ⟨he, by rw [hw]; exact below_grow w k os⟩
end Go.Proofs.YtlddkhhaclfmiaaGreatDoor

/- The table of devices, as the program's own text lays it, cell for cell; and what devRowOf answers. Helper text: no statement is claimed here. -/
namespace Go.Proofs.YtlddkhhaclfmiaaGreatDoor
open Go.ChangeShapes Go.WideShapes Go.ChangeAt Go.RowKit

def rL : Nat → List UInt8
  | 1 => [88] | 2 => [89] | 3 => [77] | 4 => [83] | 5 => [69] | 6 => [71] | 7 => [84] | 8 => [67] | 9 => [68] | 10 => [82] | _ => []
def rN : Nat → Int
  | 1 => 32 | 2 => 32 | 3 => 64 | 4 => 16 | 5 => 32 | 6 => 5 | 7 => 16 | 8 => 16 | 9 => 32 | 10 => 16 | _ => 0
def rB : Nat → Bool
  | 1 => true | 2 => true | 3 => true | 4 => true | 6 => true | 7 => true | 8 => true | _ => false
def rW : Nat → Bool
  | 7 => true | 8 => true | 9 => true | 11 => true | _ => false
def rR : Nat → Bool
  | 10 => true | 12 => true | 13 => true | _ => false

/-- The cells of the table of devices. -/
def DevTab (w : World) : Prop := ∀ i, i < 14 →
  w.cell? ⟨2, i * 5, none⟩ = some (.string ⟨(rL i).toArray⟩) ∧ w.cell? ⟨2, i * 5 + 1, none⟩ = some (.int .i64 (rN i)) ∧
  w.cell? ⟨2, i * 5 + 2, none⟩ = some (.bool (rB i)) ∧ w.cell? ⟨2, i * 5 + 3, none⟩ = some (.bool (rW i)) ∧ w.cell? ⟨2, i * 5 + 4, none⟩ = some (.bool (rR i))

theorem tRows : (Tryz.prog.globals[2]?).map (·.type) = some 138 := by kernel_rfl
theorem cRow : Tryz.prog.cellsOf 111 = 5 := by kernel_rfl
theorem cRows : Tryz.prog.cellsOf 138 = 70 := by kernel_rfl
theorem cInt : Tryz.prog.cellsOf 3 = 1 := by kernel_rfl
theorem cBool : Tryz.prog.cellsOf 4 = 1 := by kernel_rfl
theorem cStr : Tryz.prog.cellsOf 9 = 1 := by kernel_rfl

theorem five {α : Type} {l : List α} (h : l.length = 5) : ∃ a b c d e, l = [a, b, c, d, e] := by
  match l, h with
  | [a, b, c, d, e], _ => exact ⟨a, b, c, d, e, rfl⟩

theorem rowCells {w : World} {sp : Nat → Bool} {held : Bool} {fuel : Nat} {cs : List Value} {l : List UInt8} {n : Int} {b1 b2 b3 : Bool} {p : List MemPlace}
    (h : DataW.trod (fun _ => ()) Tryz.prog w 0 sp held fuel 111 cs = some (.agg [.lit (.string l), .lit (.int .i64 n), .lit (.bool b1), .lit (.bool b2), .lit (.bool b3)], p)) :
    cs = [.string ⟨l.toArray⟩, .int .i64 n, .bool b1, .bool b2, .bool b3] := by
  obtain ⟨xs, m, rfl, hx, hl, hn, hf⟩ := DataW.trod_struct Tryz.underlying111 h
  simp only [Prod.mk.injEq, DataW.agg.injEq] at hx
  rw [cRow] at hl
  obtain ⟨x0, x1, x2, x3, x4, rfl⟩ := five (show xs.length = 5 from hn)
  obtain ⟨c0, c1, c2, c3, c4, rfl⟩ := five hl
  · skip
    have f0 := hf 0 _ rfl
    have f1 := hf 1 _ rfl
    have f2 := hf 2 _ rfl
    have f3 := hf 3 _ rfl
    have f4 := hf 4 _ rfl
    simp only [List.map_cons, List.map_nil, List.cons.injEq, and_true] at hx
    obtain ⟨⟨e0, e1, e2, e3, e4⟩, _⟩ := hx
    simp [cInt, cStr, cBool] at f0 f1 f2 f3 f4
    obtain ⟨s0, g0, h0, _⟩ := DataW.trod_string Tryz.underlying9 f0
    obtain ⟨n1, g1, h1, _⟩ := DataW.trod_int Tryz.underlying3 f1
    obtain ⟨n2, g2, h2⟩ := DataW.trod_bool Tryz.underlying4 f2
    obtain ⟨n3, g3, h3⟩ := DataW.trod_bool Tryz.underlying4 f3
    obtain ⟨n4, g4, h4⟩ := DataW.trod_bool Tryz.underlying4 f4
    rw [h0] at e0; rw [h1] at e1; rw [h2] at e2; rw [h3] at e3; rw [h4] at e4
    simp only [DataW.lit.injEq, Lit.string.injEq, Lit.int.injEq, Lit.bool.injEq, true_and] at e0 e1 e2 e3 e4
    simp only [List.cons.injEq, and_true] at g0 g1 g2 g3 g4
    subst e0 e1 e2 e3 e4 g0 g1 g2 g3 g4
    simp

def rowD (i : Nat) : DataW Unit := .agg [.lit (.string (rL i)), .lit (.int .i64 (rN i)), .lit (.bool (rB i)), .lit (.bool (rW i)), .lit (.bool (rR i))]
def rowsD : List (DataW Unit) := [rowD 0, rowD 1, rowD 2, rowD 3, rowD 4, rowD 5, rowD 6, rowD 7, rowD 8, rowD 9, rowD 10, rowD 11, rowD 12, rowD 13]
theorem rowsD_at (i : Nat) (h : i < 14) : rowsD[i]? = some (rowD i) := by
  have : i = 0 ∨ i = 1 ∨ i = 2 ∨ i = 3 ∨ i = 4 ∨ i = 5 ∨ i = 6 ∨ i = 7 ∨ i = 8 ∨ i = 9 ∨ i = 10 ∨ i = 11 ∨ i = 12 ∨ i = 13 := by omega
  rcases this with rfl | rfl | rfl | rfl | rfl | rfl | rfl | rfl | rfl | rfl | rfl | rfl | rfl | rfl <;> rfl


theorem DevTab.below {w w' : World} (h : DevTab w) (hb : Below w.heap.size w w') (hs : 2 < w.heap.size) : DevTab w' := fun i hi => by
  have := h i hi
  simp only [hb.cell (p := ⟨2, _, none⟩) hs]
  exact this
end Go.Proofs.YtlddkhhaclfmiaaGreatDoor

/- What the program's functions on operands answer. Helper text: no statement is claimed here. -/
namespace Go.Proofs.YtlddkhhaclfmiaaGreatDoor
open Go.ChangeShapes Go.WideShapes Go.ChangeAt Go.RowKit

theorem DevTab.lt {w : World} (h : DevTab w) : 2 < w.heap.size := World.block_lt_of_cell? w ⟨2, _, none⟩ (h 0 (by omega)).1
theorem DevTab.to {w w' : World} (h : DevTab w) (hb : Below w.heap.size w w') : DevTab w' := h.below hb h.lt
theorem DevTab.alloc {w : World} (h : DevTab w) (o : Obj) : DevTab (w.alloc o) := h.to ((Below.refl _ _).alloc (Nat.le_refl _) o)
theorem DevTab.drew {w : World} (h : DevTab w) : DevTab w.drew := h.to (Below.refl _ _).drew
theorem bcell {W w1 : World} (hb : Below W.heap.size W w1) : (∀ b o, b < W.heap.size → w1.cell? ⟨b, o, none⟩ = W.cell? ⟨b, o, none⟩) ∧ (∀ b o, b < W.heap.size → w1.frozen? ⟨b, o, none⟩ = W.frozen? ⟨b, o, none⟩) :=
  ⟨fun b o h => hb.cell (p := ⟨b, o, none⟩) h, fun b o h => hb.frozen (p := ⟨b, o, none⟩) h⟩
theorem ret_bool {a b : Bool} (h : a = b) : Ending.returned (.bool a) = .returned (.bool b) := by rw [h]

def kz (k : Int) : Nat := if 1 ≤ k ∧ k ≤ 13 then k.toNat else 0
theorem kz_nat (i : Nat) (h1 : 1 ≤ i) (h2 : i ≤ 13) : kz (i : Int) = i := by unfold kz; rw [if_pos (by omega)]; omega
theorem kz_no (k : Int) (h : k < 1 ∨ 13 < k) : kz k = 0 := by unfold kz; rw [if_neg (by omega)]
def rowV (k : Int) : Value := .agg #[.string ⟨(rL (kz k)).toArray⟩, .int .i64 (rN (kz k)), .bool (rB (kz k)), .bool (rW (kz k)), .bool (rR (kz k))]

set_option maxHeartbeats 400000 in
theorem rowOf_no (k : Int) (w : World) (h : k < 1 ∨ 13 < k) :
    Calls Tryz.prog 90 #[.int .i64 k] w fun e w' => e = .returned (.agg #[.string ⟨#[]⟩, .int .i64 0, .bool false, .bool false, .bool false]) ∧ Below w.heap.size w w' := by
  rcases h with h | h
  · go_enter Tryz.func90, Tryz.ntmps90
    go_wp2
    exact bodyPost_ret (v := .agg #[.string ⟨#[]⟩, .int .i64 0, .bool false, .bool false, .bool false]) (by simp [results, Tryz.results90, go_sem]) rfl ⟨rfl, (Below.refl _ _).alloc (Nat.le_refl _) _⟩
  · have h' : ¬ k < 1 := by omega
    go_enter Tryz.func90, Tryz.ntmps90
    go_wp2
    exact bodyPost_ret (v := .agg #[.string ⟨#[]⟩, .int .i64 0, .bool false, .bool false, .bool false]) (by simp [results, Tryz.results90, go_sem]) rfl ⟨rfl, (Below.refl _ _).alloc (Nat.le_refl _) _⟩

set_option maxHeartbeats 400000 in
theorem rowOf_yes (i : Nat) (w : World) (h1 : 1 ≤ i) (h2 : i ≤ 13) (hT : DevTab w) :
    Calls Tryz.prog 90 #[.int .i64 (i : Int)] w fun e w' => e = .returned (.agg #[.string ⟨(rL i).toArray⟩, .int .i64 (rN i), .bool (rB i), .bool (rW i), .bool (rR i)]) ∧ Below w.heap.size w w' := by
  obtain ⟨t0, t1, t2, t3, t4⟩ := hT i (by omega)
  have a : ¬ (i : Int) < 1 := by omega
  have b : ¬ (13 : Int) < i := by omega
  have hs : 2 < w.heap.size := hT.lt
  clear hT
  go_enter Tryz.func90, Tryz.ntmps90
  go_wp2
  exact bodyPost_ret (v := .agg #[.string ⟨(rL i).toArray⟩, .int .i64 (rN i), .bool (rB i), .bool (rW i), .bool (rR i)]) (by simp [results, Tryz.results90, go_sem]) rfl ⟨rfl, (Below.refl _ _).alloc (Nat.le_refl _) _⟩

theorem rowOf_any (k : Int) (w : World) (hT : DevTab w) :
    Calls Tryz.prog 90 #[.int .i64 k] w fun e w' => e = .returned (.agg #[.string ⟨(rL (kz k)).toArray⟩, .int .i64 (rN (kz k)), .bool (rB (kz k)), .bool (rW (kz k)), .bool (rR (kz k))]) ∧ Below w.heap.size w w' := by
  by_cases h : k < 1 ∨ 13 < k
  · rw [kz_no k h]; exact rowOf_no k w h
  · obtain ⟨i, rfl⟩ := Int.eq_ofNat_of_zero_le (show 0 ≤ k by omega)
    rw [kz_nat i (by omega) (by omega)]; exact rowOf_yes i w (by omega) (by omega) hT

theorem field_0 (a b c d e : Value) (w : World) : Sem.run Tryz.prog (Instr.field 111 (.agg #[a, b, c, d, e]) 0) w = .ok a w := by kernel_rfl
theorem field_1 (a b c d e : Value) (w : World) : Sem.run Tryz.prog (Instr.field 111 (.agg #[a, b, c, d, e]) 1) w = .ok b w := by kernel_rfl
theorem field_2 (a b c d e : Value) (w : World) : Sem.run Tryz.prog (Instr.field 111 (.agg #[a, b, c, d, e]) 2) w = .ok c w := by kernel_rfl
theorem field_3 (a b c d e : Value) (w : World) : Sem.run Tryz.prog (Instr.field 111 (.agg #[a, b, c, d, e]) 3) w = .ok d w := by kernel_rfl
theorem field_4 (a b c d e : Value) (w : World) : Sem.run Tryz.prog (Instr.field 111 (.agg #[a, b, c, d, e]) 4) w = .ok e w := by kernel_rfl
attribute [local go_sem] field_0 field_1 field_2 field_3 field_4

set_option maxHeartbeats 400000 in
theorem size_any (k : Int) (w : World) (hT : DevTab w) :
    Calls Tryz.prog 94 #[.int .i64 k] w fun e w' => e = .returned (.int .i64 (rN (kz k))) ∧ Below w.heap.size w w' := by
  go_enter Tryz.func94, Tryz.ntmps94
  go_wp2_with fail
  refine (rowOf_any _ _ hT).mono ?_
  rintro e w' ⟨rfl, hb⟩
  go_wp2
  go_ret
  exact ⟨rfl, hb⟩

def decOk (n p : Int) : Bool := decide (-999999999 ≤ n ∧ n ≤ 999999999 ∧ 1 ≤ p ∧ p ≤ 6 ∧ (p = 1 ∨ n.tmod 10 ≠ 0))

set_option maxHeartbeats 400000 in
theorem decOk_any (n p : Int) (w : World) :
    Calls Tryz.prog 93 #[.int .i64 n, .int .i64 p] w fun e w' => e = .returned (.bool (decOk n p)) ∧ w' = w := by
  by_cases h1 : n < -999999999
  · go_enter Tryz.func93, Tryz.ntmps93
    go_wp2
    go_ret
    exact ⟨ret_bool (by simp [decOk]; omega), rfl⟩
  by_cases h2 : 999999999 < n
  · go_enter Tryz.func93, Tryz.ntmps93
    go_wp2
    go_ret
    exact ⟨ret_bool (by simp [decOk]; omega), rfl⟩
  by_cases h3 : p < 1
  · go_enter Tryz.func93, Tryz.ntmps93
    go_wp2
    go_ret
    exact ⟨ret_bool (by simp [decOk]; omega), rfl⟩
  by_cases h4 : 6 < p
  · go_enter Tryz.func93, Tryz.ntmps93
    go_wp2
    go_ret
    exact ⟨ret_bool (by simp [decOk]; omega), rfl⟩
  by_cases h5 : p = 1
  · subst h5
    go_enter Tryz.func93, Tryz.ntmps93
    go_wp2
    go_ret
    exact ⟨ret_bool (by simp [decOk]; omega), rfl⟩
  · have h5' : (p == 1) = false := by simpa using h5
    clear h5
    go_enter Tryz.func93, Tryz.ntmps93
    go_wp2
    go_ret
    have h5 : p ≠ 1 := by simpa using h5'
    exact ⟨ret_bool (by by_cases h6 : n.tmod 10 = 0 <;> simp [decOk, h1, h2, h3, h4, h5, h6]), rfl⟩
end Go.Proofs.YtlddkhhaclfmiaaGreatDoor

/- DevOk, the program's and the document's. Helper text: no statement is claimed here. -/
namespace Go.Proofs.YtlddkhhaclfmiaaGreatDoor
open Go.ChangeShapes Go.WideShapes Go.ChangeAt Go.RowKit

def okB (k n p : Int) : Bool := decide ((k = 11 ∧ -32768 ≤ n ∧ n ≤ 32767 ∧ p = 0) ∨ (k = 12 ∧ decOk n p = true) ∨ (k = 13 ∧ 0 ≤ n ∧ n < 4 ∧ p = 0) ∨ (k ≠ 11 ∧ k ≠ 12 ∧ k ≠ 13 ∧ 0 ≤ n ∧ n < rN (kz k) ∧ p = 0))
theorem okB_11 (n p : Int) : okB 11 n p = decide (-32768 ≤ n ∧ n ≤ 32767 ∧ p = 0) := by simp [okB]
theorem okB_12 (n p : Int) : okB 12 n p = decOk n p := by simp [okB]
theorem okB_13 (n p : Int) : okB 13 n p = decide (0 ≤ n ∧ n < 4 ∧ p = 0) := by simp [okB]
theorem okB_dev (k n p : Int) (h1 : k ≠ 11) (h2 : k ≠ 12) (h3 : k ≠ 13) : okB k n p = decide (0 ≤ n ∧ n < rN (kz k) ∧ p = 0) := by simp [okB, h1, h2, h3]
theorem rN_bd (i : Nat) : 0 ≤ rN i ∧ rN i ≤ 64 := by unfold rN; split <;> omega

theorem one (w : World) (o : Obj) : Below w.heap.size w (w.alloc o) := (Below.refl _ _).alloc (Nat.le_refl _) _

set_option maxHeartbeats 400000 in
theorem devOk_11 (n p : Int) (w : World) :
    Calls Tryz.prog 55 #[.agg #[.int .i64 11, .int .i64 n, .int .i64 p]] w fun e w' => e = .returned (.bool (okB 11 n p)) ∧ Below w.heap.size w w' := by
  rw [okB_11]
  go_enter Tryz.func55, Tryz.ntmps55
  go_wp2
  all_goals go_ret
  all_goals exact ⟨ret_bool (by rw [Bool.eq_iff_iff]; simp <;> omega), one _ _⟩

set_option maxHeartbeats 400000 in
theorem devOk_12 (n p : Int) (w : World) :
    Calls Tryz.prog 55 #[.agg #[.int .i64 12, .int .i64 n, .int .i64 p]] w fun e w' => e = .returned (.bool (okB 12 n p)) ∧ Below w.heap.size w w' := by
  rw [okB_12]
  go_enter Tryz.func55, Tryz.ntmps55
  go_wp2_with fail
  refine (decOk_any _ _ _).mono ?_
  rintro e w' ⟨rfl, rfl⟩
  go_wp2
  go_ret
  exact ⟨rfl, one _ _⟩

set_option maxHeartbeats 400000 in
theorem devOk_13 (n p : Int) (w : World) :
    Calls Tryz.prog 55 #[.agg #[.int .i64 13, .int .i64 n, .int .i64 p]] w fun e w' => e = .returned (.bool (okB 13 n p)) ∧ Below w.heap.size w w' := by
  rw [okB_13]
  go_enter Tryz.func55, Tryz.ntmps55
  go_wp2
  all_goals go_ret
  all_goals exact ⟨ret_bool (by rw [Bool.eq_iff_iff]; simp <;> omega), one _ _⟩

set_option maxHeartbeats 400000 in
theorem devOk_dev0 (k n p : Int) (w : World) (h1 : (k == 11) = false) (h2 : (k == 12) = false) (h3 : (k == 13) = false) (hn : n < 0) :
    Calls Tryz.prog 55 #[.agg #[.int .i64 k, .int .i64 n, .int .i64 p]] w fun e w' => e = .returned (.bool false) ∧ Below w.heap.size w w' := by
  have hd : decide (0 ≤ n) = false := by simp; omega
  go_enter Tryz.func55, Tryz.ntmps55
  go_wp2
  go_quiet (fail)
  go_wp2
  go_ret
  exact ⟨rfl, below_drewN (one _ _) _⟩
abbrev argO (k n p : Int) : Obj := .cells #[.int .i64 k, .int .i64 n, .int .i64 p] 51
theorem arg_at (k n p : Int) (w : World) : (w.alloc (argO k n p)).cell? ⟨w.heap.size, 0, none⟩ = some (.int .i64 k) ∧ (w.alloc (argO k n p)).cell? ⟨w.heap.size, 1, none⟩ = some (.int .i64 n) ∧ (w.alloc (argO k n p)).cell? ⟨w.heap.size, 2, none⟩ = some (.int .i64 p) := by
  refine ⟨?_, ?_, ?_⟩ <;> simp [go_sem]
theorem size_grown {k n p : Int} {w : World} (hT : DevTab w) (d : Nat) (os : Array Obj) :
    Calls Tryz.prog 94 #[.int .i64 k] (Sort.grow (redrawn (w.alloc (argO k n p)) d) os) fun e w'' => e = .returned (.int .i64 (rN (kz k))) ∧ ∃ p' : Regrown, w'' = Sort.grow (redrawn (w.alloc (argO k n p)) p'.d) p'.os :=
  Calls.regrown_of (size_any _ _ ((hT.alloc _).to (below_regrown _ d os)))

set_option maxHeartbeats 400000 in
theorem devOk_dev1 (k n p : Int) (w : World) (hT : DevTab w) (h1 : (k == 11) = false) (h2 : (k == 12) = false) (h3 : (k == 13) = false) (hn : 0 ≤ n) (hl : n < rN (kz k)) :
    Calls Tryz.prog 55 #[.agg #[.int .i64 k, .int .i64 n, .int .i64 p]] w fun e w' => e = .returned (.bool (p == 0)) ∧ Below w.heap.size w w' := by
  have hb := rN_bd (kz k)
  obtain ⟨c0, c1, c2⟩ := arg_at k n p w
  have k0 := cell_regrown c0
  have k1 := cell_regrown c1
  have k2 := cell_regrown c2
  clear c0 c1 c2
  go_enter Tryz.func55, Tryz.ntmps55
  go_wp2
  refine wp_region_quiet_below (by kernel_rfl) (by kernel_rfl) ?_
  repeat (first | go_big_quiet_step (exact size_grown hT _ _) | quiet_step (exact size_grown hT _ _))
  refine wpQuiet_nil ?_
  intro _ hw'
  obtain ⟨⟨dq, osq⟩, hw''⟩ := hw'
  subst hw''
  go_wp2
  go_ret
  exact ⟨rfl, (one _ _).trans ((below_regrown _ dq osq).mono (by simp))⟩
set_option maxHeartbeats 400000 in
theorem devOk_dev2 (k n p : Int) (w : World) (hT : DevTab w) (h1 : (k == 11) = false) (h2 : (k == 12) = false) (h3 : (k == 13) = false) (hn : 0 ≤ n) (hl : rN (kz k) ≤ n) :
    Calls Tryz.prog 55 #[.agg #[.int .i64 k, .int .i64 n, .int .i64 p]] w fun e w' => e = .returned (.bool false) ∧ Below w.heap.size w w' := by
  have hb := rN_bd (kz k)
  have hd : decide (n < rN (kz k)) = false := by simp; omega
  obtain ⟨c0, c1, c2⟩ := arg_at k n p w
  have k0 := cell_regrown c0
  have k1 := cell_regrown c1
  have k2 := cell_regrown c2
  clear c0 c1 c2
  go_enter Tryz.func55, Tryz.ntmps55
  go_wp2
  refine wp_region_quiet_below (by kernel_rfl) (by kernel_rfl) ?_
  repeat (first | go_big_quiet_step (exact size_grown hT _ _) | quiet_step (exact size_grown hT _ _))
  refine wpQuiet_nil ?_
  intro _ hw'
  obtain ⟨⟨dq, osq⟩, hw''⟩ := hw'
  subst hw''
  go_wp2
  go_ret
  exact ⟨rfl, (one _ _).trans ((below_regrown _ dq osq).mono (by simp))⟩

theorem of_one {w w1 : World} {o : Obj} (h : Below (w.alloc o).heap.size (w.alloc o) w1) : Below w.heap.size w w1 := (one w o).trans (h.mono (by simp))
theorem of_two {w w1 w2 : World} {o : Obj} (h : Below (w.alloc o).heap.size (w.alloc o) w1) (h2 : Below w1.heap.size w1 w2) : Below w.heap.size w w2 := (of_one h).trans (h2.mono (of_one h).size)

theorem devOk_any (k n p : Int) (w : World) (hT : DevTab w) :
    Calls Tryz.prog 55 #[.agg #[.int .i64 k, .int .i64 n, .int .i64 p]] w fun e w' => e = .returned (.bool (okB k n p)) ∧ Below w.heap.size w w' := by
  by_cases h1 : k = 11
  · subst h1; exact devOk_11 n p w
  by_cases h2 : k = 12
  · subst h2; exact devOk_12 n p w
  by_cases h3 : k = 13
  · subst h3; exact devOk_13 n p w
  rw [okB_dev k n p h1 h2 h3]
  have e1 : (k == 11) = false := by simpa using h1
  have e2 : (k == 12) = false := by simpa using h2
  have e3 : (k == 13) = false := by simpa using h3
  by_cases hn : n < 0
  · rw [show decide (0 ≤ n ∧ n < rN (kz k) ∧ p = 0) = false by simp; omega]
    exact devOk_dev0 k n p w e1 e2 e3 hn
  by_cases hl : n < rN (kz k)
  · rw [show decide (0 ≤ n ∧ n < rN (kz k) ∧ p = 0) = (p == 0) by rw [Bool.eq_iff_iff]; simp; omega]
    exact devOk_dev1 k n p w hT e1 e2 e3 (by omega) hl
  · rw [show decide (0 ≤ n ∧ n < rN (kz k) ∧ p = 0) = false by simp; omega]
    exact devOk_dev2 k n p w hT e1 e2 e3 (by omega) (by omega)
end Go.Proofs.YtlddkhhaclfmiaaGreatDoor

/- The document's cutting of a text at a byte: l9Cut. Helper text: no statement is claimed here. -/
namespace Go.Proofs.YtlddkhhaclfmiaaGreatDoor
open Go.ChangeShapes Go.WideShapes Go.ChangeAt Go.RowKit

/-- The pieces of a list between bytes c. -/
def cutL (c : UInt8) : List UInt8 → List (List UInt8)
  | [] => [[]]
  | x :: l => if x = c then [] :: cutL c l else match cutL c l with
    | [] => [[x]]
    | p :: ps => (x :: p) :: ps
theorem cutL_none {c : UInt8} : ∀ {l : List UInt8}, (∀ x ∈ l, x ≠ c) → cutL c l = [l]
  | [], _ => rfl
  | x :: l, h => by
    have ih := cutL_none (c := c) (l := l) (fun y hy => h y (List.mem_cons_of_mem _ hy))
    simp [cutL, h x (List.mem_cons_self ..), ih]
theorem cutL_hit {c : UInt8} {b : List UInt8} : ∀ {a : List UInt8}, (∀ x ∈ a, x ≠ c) → cutL c (a ++ c :: b) = a :: cutL c b
  | [], _ => by simp [cutL]
  | x :: l, h => by
    have ih := cutL_hit (c := c) (b := b) (a := l) (fun y hy => h y (List.mem_cons_of_mem _ hy))
    simp [cutL, h x (List.mem_cons_self ..), ih]
theorem cutL_ne (c : UInt8) (l : List UInt8) : cutL c l ≠ [] := by
  cases l with
  | nil => simp [cutL]
  | cons x l =>
    unfold cutL
    split
    · simp
    · split <;> simp
theorem cutL_len (c : UInt8) : ∀ l : List UInt8, (cutL c l).length ≤ l.length + 1
  | [] => by simp [cutL]
  | x :: l => by
    have ih := cutL_len c l
    unfold cutL
    split
    · simp; omega
    · split
      · simp
      · rename_i p ps hp
        rw [hp] at ih
        simp at ih ⊢; omega

/-- Texts as cells. -/
def strV (p : List UInt8) : Value := .string ⟨p.toArray⟩
theorem iStr2 : (Tryz.prog.info? 9).map (fun i => (i.zero, i.size, i.bytes)) = some (some (.string ⟨#[]⟩), 1, 16) := by kernel_rfl
/-- append of one text to a row of texts that is the call's own. -/
theorem wpList_apps {ops : Array Oper} {rest : List Oper} {o : Oper} {a : Act} {Q : Exit → Act → World → Prop} (w : World) (hgd : o.guard = none) (s x : Operand)
    (ho : o.op = .call { callee := .builtin .append, args := #[s, x], argTypes := #[49, 49] }) (base : Nat)
    (v : Value) (n : Nat) (xs : List Value) (hs : a.eval s = v) (hown : w.ownsRow base 9 1 v n xs)
    (B : Nat) (sv : ByteArray) (hx : a.eval x = .slice (some ⟨B, 0, none⟩) 1 1) (hB : w.heap[B]? = some (.cells #[.string sv] 9 (0, 0)))
    (hb : n ≤ 3000000) (hbase : base ≤ w.heap.size)
    (h : ∀ g cap w', Hid (w'.ownsRow base 9 1 (.slice (some ⟨g, 0, none⟩) (n + 1) cap) (n + 1) (xs ++ [.string sv])) → Hid (w.grownBy w' v.ownBlock) → g < w'.heap.size → wpList Tryz.prog ops Q rest (a.put o.dst (.slice (some ⟨g, 0, none⟩) (n + 1) cap)) w') : wpList Tryz.prog ops Q (o :: rest) a w := by
  obtain ⟨i0, hi, hz0, hz1, hz2⟩ := info_parts iStr2
  exact wpList_append_lies w hgd s x _ ho base _ i0 _ 1 16 Tryz.underlying49 hi hz0 hz1 hz2 rfl (by decide) v n xs hs hown ⟨B, 0, none⟩ 1 1 [.string sv] hx rfl (World.news_of_block (cs := #[.string sv]) (t := 9) (fr := (0, 0)) hB) (by simp [Value.oneCell']) (by decide) (by unfold maxLen; omega) (by omega) hbase _ rfl (fun g cap w' a b _ d => h g cap w' a b d)

/-- Between two rounds of the cutting: what has been cut, and that the piece under way bears no c. -/
structure Cutting (c : UInt8) (l : List UInt8) (f j : Nat) (ps : List (List UInt8)) : Prop where
  le : f ≤ j
  end_ : j ≤ l.length
  no : ∀ x ∈ (l.drop f).take (j - f), x ≠ c
  whole : ps ++ cutL c (l.drop f) = cutL c l
  few : ps.length ≤ f

def piece (l : List UInt8) (f j : Nat) : List UInt8 := (l.drop f).take (j - f)
theorem drop_at {l : List UInt8} {f j : Nat} (hf : f ≤ j) (hj : j < l.length) : l.drop f = piece l f j ++ l[j] :: l.drop (j + 1) := by
  have h1 : l.drop f = (l.drop f).take (j - f) ++ (l.drop f).drop (j - f) := (List.take_append_drop _ _).symm
  rw [List.drop_drop, show f + (j - f) = j by omega, List.drop_eq_getElem_cons hj] at h1
  exact h1
theorem Cutting.last {c : UInt8} {l : List UInt8} {f j : Nat} {ps : List (List UInt8)} (h : Cutting c l f j ps) (hj : j = l.length) : ps ++ [piece l f j] = cutL c l := by
  have hn := h.no
  have hw := h.whole
  have hp : (l.drop f).take (j - f) = l.drop f := List.take_of_length_le (by simp; omega)
  rw [hp] at hn
  rw [cutL_none hn] at hw
  unfold piece
  rw [hp]; exact hw
theorem Cutting.hit {c : UInt8} {l : List UInt8} {f j : Nat} {ps : List (List UInt8)} (h : Cutting c l f j ps) (hj : j < l.length) (hc : l[j] = c) : Cutting c l (j + 1) (j + 1) (ps ++ [piece l f j]) := by
  have hw := h.whole
  rw [drop_at h.le hj, hc, cutL_hit (a := piece l f j) h.no] at hw
  exact ⟨Nat.le_refl _, by omega, by simp, by simpa using hw, by have := h.few; have := h.le; simp; omega⟩
theorem Cutting.skip {c : UInt8} {l : List UInt8} {f j : Nat} {ps : List (List UInt8)} (h : Cutting c l f j ps) (hj : j < l.length) (hc : l[j] ≠ c) : Cutting c l f (j + 1) ps := by
  refine ⟨by have := h.le; omega, by omega, ?_, h.whole, h.few⟩
  have hf := h.le
  have hn := h.no
  rw [show j + 1 - f = (j - f) + 1 by omega, List.take_add_one]
  intro x hx
  rcases List.mem_append.1 hx with hx | hx
  · exact hn x hx
  · rw [List.getElem?_drop, show f + (j - f) = j by omega, List.getElem?_eq_getElem hj] at hx
    simp at hx
    rw [hx]; exact hc
theorem extract_piece (s : ByteArray) (f j : Nat) : Value.string (s.extract f j) = strV (piece s.data.toList f j) := by
  unfold strV piece
  congr 1
  apply ByteArray.ext
  rw [ByteArray.data_extract]
  apply Array.ext'
  simp [List.extract_eq_take_drop]
theorem row_snoc {W : World} {base g cap f j : Nat} {ps : List (List UInt8)} {s : ByteArray} (h : W.ownsRow base 9 1 (.slice (some ⟨g, 0, none⟩) (ps.length + 1) cap) (ps.length + 1) (ps.map strV ++ [.string (s.extract f j)])) :
    W.ownsRow base 9 1 (.slice (some ⟨g, 0, none⟩) (ps ++ [piece s.data.toList f j]).length cap) (ps ++ [piece s.data.toList f j]).length ((ps ++ [piece s.data.toList f j]).map strV) := by
  rw [extract_piece] at h
  simpa using h

set_option maxHeartbeats 1000000 in
theorem cutw_any (s : ByteArray) (c : UInt8) (w : World) (hs : s.size ≤ 2000000) :
    Calls Tryz.prog 108 #[.string s, .int .u8 (c.toNat : Int)] w fun e w' => ∃ g cap, e = .returned (.slice (some ⟨g, 0, none⟩) (cutL c s.data.toList).length cap) ∧
      w'.ownsRow w.heap.size 9 1 (.slice (some ⟨g, 0, none⟩) (cutL c s.data.toList).length cap) (cutL c s.data.toList).length ((cutL c s.data.toList).map strV) ∧ Below w.heap.size w w' := by
  have HO : Hid ((w.alloc (.cells #[] 9)).ownsRow w.heap.size 9 1 (.slice (some ⟨w.heap.size, 0, none⟩) 0 0) 0 []) :=
    ⟨rfl, .inr ⟨w.heap.size, 0, #[], rfl, Nat.le_refl _, heap_alloc_last _ _, Nat.le_refl _, by unfold maxLen; omega, rfl, rfl⟩⟩
  go_enter Tryz.func108, Tryz.ntmps108
  go_wp2
  go_loopw [5, 6, 7] (fun o f i w' => ∃ (j fr : Nat) (ps : List (List UInt8)) (g cap : Nat), i = .int .i64 (j : Int) ∧ f = .int .i64 (fr : Int) ∧ o = .slice (some ⟨g, 0, none⟩) ps.length cap ∧ Hid (w'.ownsRow w.heap.size 9 1 (.slice (some ⟨g, 0, none⟩) ps.length cap) ps.length (ps.map strV)) ∧ w.heap.size ≤ w'.heap.size ∧
      Hid (Below w.heap.size w w') ∧ j ≤ s.size + 1 ∧ fr ≤ s.size + 1 ∧ Hid ((j ≤ s.size ∧ Cutting c s.data.toList fr j ps) ∨ (j = s.size + 1 ∧ ps = cutL c s.data.toList)))
    (fun _ _ i _ => s.size + 1 - (intOf i).toNat)
  case atStart => exact ⟨0, 0, [], w.heap.size, 0, rfl, rfl, rfl, HO, by simp, one _ _, by omega, by omega, .inl ⟨by omega, by omega, by omega, by simp, by simp, by simp⟩⟩
  case round =>
    obtain ⟨j, fr, ps, g, cap, rfl, rfl, rfl, HR, hsz, HB, hj, hfr, HC⟩ := hrel
    rename_i wr
    by_cases hend : j = s.size + 1
    · subst hend
      have hps : ps = cutL c s.data.toList := by
        rcases HC.out with ⟨h, -⟩ | ⟨-, h⟩
        · omega
        · exact h
      have h' : ¬ ((s.size + 1 : Nat) : Int) ≤ (s.size : Int) := by omega
      have HP : Hid (ps = cutL c s.data.toList) := hps
      clear hps
      go_wp2
      go_ret
      rw [← HP.out]
      exact ⟨g, cap, rfl, HR.out, HB.out⟩
    have hle : (j : Int) ≤ (s.size : Int) := by omega
    have hjs : j ≤ s.size := by omega
    have HK : Hid (Cutting c s.data.toList fr j ps) := by
      show Cutting c s.data.toList fr j ps
      rcases HC.out with ⟨-, h⟩ | ⟨h, -⟩
      · exact h
      · omega
    have hf1 := HK.out.le
    have hfi : (fr : Int) ≤ (j : Int) := by omega
    have hfew := HK.out.few
    have hgw : w.heap.size ≤ g := by
      rcases HR.out.2 with ⟨h, -⟩ | ⟨g', cp', cur, e, hb, -⟩
      · simp at h
      · simp only [Value.slice.injEq, Option.some.injEq, Addr.mk.injEq] at e
        omega
    clear HC hend
    by_cases hl : j = s.size
    · have hl' : ((j : Int) == (s.size : Int)) = true := by rw [hl]; simp
      have HL : Hid (j = s.size) := hl
      clear hl
      have HO1 : Hid (∀ o, (wr.alloc o).ownsRow w.heap.size 9 1 (.slice (some ⟨g, 0, none⟩) ps.length cap) ps.length (ps.map strV)) := fun o => HR.out.alloc o
      have HN1 : Hid (∀ o, (wr.alloc o).heap[wr.heap.size]? = some o) := fun o => heap_alloc_last wr o
      go_wp2_with (at_builtin; refine wpList_apps _ rfl (.tmp 26) (.tmp 31) rfl w.heap.size _ ps.length (ps.map strV) rfl (HO1.out _) wr.heap.size _ rfl (HN1.out _) (by omega) (by simp; omega) ?_; intro g2 cap2 w2 HW2 HG2 hg2)
      have bel : Below w.heap.size _ w2 := (HB.out.alloc HB.out.size (.cells #[.string (s.extract fr j)] 9)).trans ((Below.refl _ _).grown HG2.out (by simp; omega) (fun k e => by cases e; exact hgw))
      go_roundw
      case rel => exact ⟨j + 1, j + 1, ps ++ [piece s.data.toList fr j], g2, cap2, by go_num, by go_num, by simp, row_snoc HW2.out, bel.size, bel, by omega, by omega, .inr ⟨by rw [HL.out], HK.out.last (by rw [HL.out]; simp)⟩⟩
      case measure => simp [intOf]; omega
    · have hlt : j < s.size := by omega
      have hl' : ((j : Int) == (s.size : Int)) = false := by simp; omega
      by_cases hc : s[j] = c
      · have hcb : ((s[j].toNat : Int) == (c.toNat : Int)) = true := by rw [hc]; simp
        have HCc : Hid (s[j] = c) := hc
        clear hc hl
        have HO1 : Hid (∀ o, (wr.alloc o).ownsRow w.heap.size 9 1 (.slice (some ⟨g, 0, none⟩) ps.length cap) ps.length (ps.map strV)) := fun o => HR.out.alloc o
        have HN1 : Hid (∀ o, (wr.alloc o).heap[wr.heap.size]? = some o) := fun o => heap_alloc_last wr o
        go_wp2_with (at_builtin; refine wpList_apps _ rfl (.tmp 26) (.tmp 31) rfl w.heap.size _ ps.length (ps.map strV) rfl (HO1.out _) wr.heap.size _ rfl (HN1.out _) (by omega) (by simp; omega) ?_; intro g2 cap2 w2 HW2 HG2 hg2)
        have bel : Below w.heap.size _ w2 := (HB.out.alloc HB.out.size (.cells #[.string (s.extract fr j)] 9)).trans ((Below.refl _ _).grown HG2.out (by simp; omega) (fun k e => by cases e; exact hgw))
        go_roundw
        case rel => exact ⟨j + 1, j + 1, ps ++ [piece s.data.toList fr j], g2, cap2, by go_num, by go_num, by simp, row_snoc HW2.out, bel.size, bel, by omega, by omega, .inl ⟨by omega, HK.out.hit (by simpa using hlt) HCc.out⟩⟩
        case measure => simp [intOf]; omega
      · have hcb : ((s[j].toNat : Int) == (c.toNat : Int)) = false := by
          rw [beq_eq_false_iff_ne]
          intro e
          exact hc (UInt8.toNat_inj.1 (by exact_mod_cast e))
        have HCc : Hid (s[j] ≠ c) := hc
        clear hc hl
        go_wp2
        go_roundw
        case rel => exact ⟨j + 1, fr, ps, g, cap, by go_num, rfl, rfl, HR, hsz, HB, by omega, by omega, .inl ⟨by omega, HK.out.skip (by simpa using hlt) HCc.out⟩⟩
        case measure => simp [intOf]; omega
end Go.Proofs.YtlddkhhaclfmiaaGreatDoor

/- What DevLetter answers. Helper text: no statement is claimed here. -/
namespace Go.Proofs.YtlddkhhaclfmiaaGreatDoor
open Go.ChangeShapes Go.WideShapes Go.ChangeAt Go.RowKit
attribute [local go_sem] field_0 field_1 field_2 field_3 field_4

set_option maxHeartbeats 400000 in
theorem letter_any (k : Int) (w : World) (hT : DevTab w) :
    Calls Tryz.prog 58 #[.int .i64 k] w fun e w' => e = .returned (.string ⟨(rL (kz k)).toArray⟩) ∧ Below w.heap.size w w' := by
  go_enter Tryz.func58, Tryz.ntmps58
  go_wp2_with fail
  refine (rowOf_any _ _ hT).mono ?_
  rintro e w' ⟨rfl, hb⟩
  go_wp2
  go_ret
  exact ⟨rfl, hb⟩

end Go.Proofs.YtlddkhhaclfmiaaGreatDoor

/- The document's DevSize. Helper text: no statement is claimed here. -/
namespace Go.Proofs.YtlddkhhaclfmiaaGreatDoor
open Go.ChangeShapes Go.WideShapes Go.ChangeAt Go.RowKit

/-! The document's own. -/
theorem kind_cases (k : Int) : k = 1 ∨ k = 2 ∨ k = 3 ∨ k = 4 ∨ k = 5 ∨ k = 6 ∨ k = 7 ∨ k = 8 ∨ k = 9 ∨ k = 10 ∨ ((k == 1) = false ∧ (k == 2) = false ∧ (k == 3) = false ∧ (k == 4) = false ∧ (k == 5) = false ∧ (k == 6) = false ∧ (k == 7) = false ∧ (k == 8) = false ∧ (k == 9) = false ∧ (k == 10) = false ∧ rN (kz k) = 0) := by
  by_cases h : 1 ≤ k ∧ k ≤ 10
  · omega
  · right; right; right; right; right; right; right; right; right; right
    simp only [beq_eq_false_iff_ne, ne_eq]
    refine ⟨by omega, by omega, by omega, by omega, by omega, by omega, by omega, by omega, by omega, by omega, ?_⟩
    by_cases h2 : 1 ≤ k ∧ k ≤ 13
    · have : k = 11 ∨ k = 12 ∨ k = 13 := by omega
      rcases this with rfl | rfl | rfl <;> rfl
    · unfold kz; rw [if_neg h2]; rfl

set_option maxHeartbeats 400000 in
theorem ssize_any (k : Int) (w : World) :
    Calls Tryz.prog 100 #[.int .i64 k] w fun e w' => e = .returned (.int .i64 (rN (kz k))) ∧ w' = w := by
  rcases kind_cases k with rfl | rfl | rfl | rfl | rfl | rfl | rfl | rfl | rfl | rfl | ⟨h1, h2, h3, h4, h5, h6, h7, h8, h9, h10, h0⟩
  case inr.inr.inr.inr.inr.inr.inr.inr.inr.inr =>
    rw [h0]
    clear h0
    go_enter Tryz.func100, Tryz.ntmps100
    go_wp2
    go_ret
    exact ⟨rfl, rfl⟩
  all_goals
    go_enter Tryz.func100, Tryz.ntmps100
    go_wp2
    go_ret
    exact ⟨rfl, rfl⟩
end Go.Proofs.YtlddkhhaclfmiaaGreatDoor

/- The document's DevOk. Helper text: no statement is claimed here. -/
namespace Go.Proofs.YtlddkhhaclfmiaaGreatDoor
open Go.ChangeShapes Go.WideShapes Go.ChangeAt Go.RowKit

set_option maxHeartbeats 400000 in
theorem sOk_11 (n p : Int) (w : World) :
    Calls Tryz.prog 68 #[.agg #[.int .i64 11, .int .i64 n, .int .i64 p]] w fun e w' => e = .returned (.bool (okB 11 n p)) ∧ Below w.heap.size w w' := by
  rw [okB_11]
  go_enter Tryz.func68, Tryz.ntmps68
  go_wp2
  all_goals go_ret
  all_goals exact ⟨ret_bool (by rw [Bool.eq_iff_iff]; simp <;> omega), one _ _⟩

set_option maxHeartbeats 400000 in
theorem sOk_12 (n p : Int) (w : World) :
    Calls Tryz.prog 68 #[.agg #[.int .i64 12, .int .i64 n, .int .i64 p]] w fun e w' => e = .returned (.bool (okB 12 n p)) ∧ Below w.heap.size w w' := by
  rw [okB_12]
  by_cases h5 : p = 1
  · subst h5
    go_enter Tryz.func68, Tryz.ntmps68
    go_wp2
    all_goals go_ret
    all_goals exact ⟨ret_bool (by rw [Bool.eq_iff_iff]; simp [decOk] <;> omega), one _ _⟩
  · have h5' : (p == 1) = false := by simpa using h5
    have h6 : Hid (p ≠ 1) := h5
    clear h5
    go_enter Tryz.func68, Tryz.ntmps68
    go_wp2
    all_goals go_ret
    all_goals exact ⟨ret_bool (by have h7 := h6.out; rw [Bool.eq_iff_iff]; simp [decOk, h7] <;> omega), one _ _⟩

set_option maxHeartbeats 400000 in
theorem sOk_13 (n p : Int) (w : World) :
    Calls Tryz.prog 68 #[.agg #[.int .i64 13, .int .i64 n, .int .i64 p]] w fun e w' => e = .returned (.bool (okB 13 n p)) ∧ Below w.heap.size w w' := by
  rw [okB_13]
  go_enter Tryz.func68, Tryz.ntmps68
  go_wp2
  all_goals go_ret
  all_goals exact ⟨ret_bool (by rw [Bool.eq_iff_iff]; simp <;> omega), one _ _⟩

set_option maxHeartbeats 400000 in
theorem sOk_dev (k n p : Int) (w : World) (h1 : (k == 11) = false) (h2 : (k == 12) = false) (h3 : (k == 13) = false) :
    Calls Tryz.prog 68 #[.agg #[.int .i64 k, .int .i64 n, .int .i64 p]] w fun e w' => e = .returned (.bool (decide (0 ≤ n ∧ n < rN (kz k) ∧ p = 0))) ∧ Below w.heap.size w w' := by
  have hb := rN_bd (kz k)
  by_cases hn : n < 0
  · rw [show decide (0 ≤ n ∧ n < rN (kz k) ∧ p = 0) = false by simp; omega]
    have hd : decide (0 ≤ n) = false := by simp; omega
    go_enter Tryz.func68, Tryz.ntmps68
    go_wp2
    go_quiet (fail)
    go_wp2
    go_ret
    exact ⟨rfl, below_drewN (one _ _) _⟩
  have hn : 0 ≤ n := by omega
  by_cases hl : n < rN (kz k)
  · rw [show decide (0 ≤ n ∧ n < rN (kz k) ∧ p = 0) = (p == 0) by rw [Bool.eq_iff_iff]; simp; omega]
    go_enter Tryz.func68, Tryz.ntmps68
    go_wp2
    go_quiet ((go_at_call 100; exact Calls.quiet_of_same (ssize_any _ _)))
    go_wp2
    go_ret
    exact ⟨rfl, below_drewN (one _ _) _⟩
  · rw [show decide (0 ≤ n ∧ n < rN (kz k) ∧ p = 0) = false by simp; omega]
    have hd : decide (n < rN (kz k)) = false := by simp; omega
    go_enter Tryz.func68, Tryz.ntmps68
    go_wp2
    go_quiet ((go_at_call 100; exact Calls.quiet_of_same (ssize_any _ _)))
    go_wp2
    go_ret
    exact ⟨rfl, below_drewN (one _ _) _⟩

theorem sOk_any (k n p : Int) (w : World) :
    Calls Tryz.prog 68 #[.agg #[.int .i64 k, .int .i64 n, .int .i64 p]] w fun e w' => e = .returned (.bool (okB k n p)) ∧ Below w.heap.size w w' := by
  by_cases h1 : k = 11
  · subst h1; exact sOk_11 n p w
  by_cases h2 : k = 12
  · subst h2; exact sOk_12 n p w
  by_cases h3 : k = 13
  · subst h3; exact sOk_13 n p w
  rw [okB_dev k n p h1 h2 h3]
  exact sOk_dev k n p w (by simpa using h1) (by simpa using h2) (by simpa using h3)

theorem okB_kind {k n p : Int} (h : okB k n p = true) : 1 ≤ k ∧ k ≤ 13 := by
  by_cases hk : 1 ≤ k ∧ k ≤ 13
  · exact hk
  · rw [okB_dev k n p (by omega) (by omega) (by omega), kz_no k (by omega)] at h
    simp [rN] at h
    omega
theorem kinds {k : Int} (h : 1 ≤ k ∧ k ≤ 13) : k = 1 ∨ k = 2 ∨ k = 3 ∨ k = 4 ∨ k = 5 ∨ k = 6 ∨ k = 7 ∨ k = 8 ∨ k = 9 ∨ k = 10 ∨ k = 11 ∨ k = 12 ∨ k = 13 := by omega

end Go.Proofs.YtlddkhhaclfmiaaGreatDoor

/- A text put behind itself, by the library. Helper text: no statement is claimed here. -/
namespace Go.Proofs.YtlddkhhaclfmiaaGreatDoor
open Go.ChangeShapes Go.WideShapes Go.ChangeAt Go.RowKit

theorem repeat_any (s : ByteArray) (c : Nat) (w : World) (hc : s.size * c ≤ 1000000) (hc2 : c ≤ 1000000) :
    Calls Tryz.prog 96 #[.string s, .int .i64 c] w fun e w' => e = .returned (.string ⟨(Lib.repeatL s.data.toList c).toArray⟩) ∧ Below w.heap.size w w' :=
  Any.strings_Repeat Tryz.lays105 Tryz.Builder_Extra_105 s c w (by omega) (by omega)

end Go.Proofs.YtlddkhhaclfmiaaGreatDoor
