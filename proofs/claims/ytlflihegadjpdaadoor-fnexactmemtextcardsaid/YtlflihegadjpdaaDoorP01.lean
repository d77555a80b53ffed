/- The table of devices, as the program's own text lays it, cell for cell; and what devRowOf answers. Helper text: no statement is claimed here. -/
import Derived.Test.YtlflihegadjpdaaDoorRows
import Derived.WalkKit
import Derived.ProofKit
import Derived.LaidMore
import Derived.OpenShut
import Derived.Below
import Derived.Deep.QuietTactic
import Derived.BigQuiet
import Derived.Deep.RegionHeld3
import Derived.WalkSmall
import Derived.Lib.QuietBelow
import Derived.Deep.MidRow
import Derived.Deep.WholeRow
import Derived.Laws.CopyRow
import Derived.Laws.CopyOwn
import Derived.Laws.BitsLemmas
namespace Go.Proofs.YtlflihegadjpdaaDoor
open Go.ChangeShapes Go.WideShapes Go.ChangeAt Go.RowKit

def rL : Nat → List UInt8
  | 1 => [88] | 2 => [89] | 3 => [77] | 4 => [83] | 5 => [69] | 6 => [71] | 7 => [84] | 8 => [67] | 9 => [68] | 10 => [82] | _ => []
def rN : Nat → Int
  | 1 => 32 | 2 => 32 | 3 => 64 | 4 => 16 | 5 => 32 | 6 => 5 | 7 => 16 | 8 => 16 | 9 => 32 | 10 => 16 | _ => 0
def rB : Nat → Bool
  | 1 => true | 2 => true | 3 => true | 4 => true | 6 => true | 7 => true | 8 => true | _ => false
def rW : Nat → Bool
  | 7 => true | 8 => true | 9 => true | 11 => true | _ => false
def rR : Nat → Bool
  | 10 => true | 12 => true | 13 => true | _ => false

/-- The cells of the table of devices. -/
def DevTab (w : World) : Prop := ∀ i, i < 14 →
  w.cell? ⟨1, i * 5, none⟩ = some (.string ⟨(rL i).toArray⟩) ∧ w.cell? ⟨1, i * 5 + 1, none⟩ = some (.int .i64 (rN i)) ∧
  w.cell? ⟨1, i * 5 + 2, none⟩ = some (.bool (rB i)) ∧ w.cell? ⟨1, i * 5 + 3, none⟩ = some (.bool (rW i)) ∧ w.cell? ⟨1, i * 5 + 4, none⟩ = some (.bool (rR i))

theorem gRows : Tryd.prog.globalNamed (Rows.fnMemSameRow.named.getD 0 "") = some 1 := by kernel_rfl
theorem tRows : (Tryd.prog.globals[1]?).map (·.type) = some 117 := by kernel_rfl
theorem cRow : Tryd.prog.cellsOf 103 = 5 := by kernel_rfl
theorem cRows : Tryd.prog.cellsOf 117 = 70 := by kernel_rfl
theorem cInt : Tryd.prog.cellsOf 3 = 1 := by kernel_rfl
theorem cBool : Tryd.prog.cellsOf 4 = 1 := by kernel_rfl
theorem cStr : Tryd.prog.cellsOf 9 = 1 := by kernel_rfl

theorem five {α : Type} {l : List α} (h : l.length = 5) : ∃ a b c d e, l = [a, b, c, d, e] := by
  match l, h with
  | [a, b, c, d, e], _ => exact ⟨a, b, c, d, e, rfl⟩

theorem rowCells {w : World} {sp : Nat → Bool} {held : Bool} {fuel : Nat} {cs : List Value} {l : List UInt8} {n : Int} {b1 b2 b3 : Bool} {p : List MemPlace}
    (h : DataW.trod (fun _ => ()) Tryd.prog w 0 sp held fuel 103 cs = some (.agg [.lit (.string l), .lit (.int .i64 n), .lit (.bool b1), .lit (.bool b2), .lit (.bool b3)], p)) :
    cs = [.string ⟨l.toArray⟩, .int .i64 n, .bool b1, .bool b2, .bool b3] := by
  obtain ⟨xs, m, rfl, hx, hl, hn, hf⟩ := DataW.trod_struct Tryd.underlying103 h
  simp only [Prod.mk.injEq, DataW.agg.injEq] at hx
  rw [cRow] at hl
  obtain ⟨x0, x1, x2, x3, x4, rfl⟩ := five (show xs.length = 5 from hn)
  obtain ⟨c0, c1, c2, c3, c4, rfl⟩ := five hl
  · skip
    have f0 := hf 0 _ rfl
    have f1 := hf 1 _ rfl
    have f2 := hf 2 _ rfl
    have f3 := hf 3 _ rfl
    have f4 := hf 4 _ rfl
    simp only [List.map_cons, List.map_nil, List.cons.injEq, and_true] at hx
    obtain ⟨⟨e0, e1, e2, e3, e4⟩, _⟩ := hx
    simp [cInt, cStr, cBool] at f0 f1 f2 f3 f4
    obtain ⟨s0, g0, h0, _⟩ := DataW.trod_string Tryd.underlying9 f0
    obtain ⟨n1, g1, h1, _⟩ := DataW.trod_int Tryd.underlying3 f1
    obtain ⟨n2, g2, h2⟩ := DataW.trod_bool Tryd.underlying4 f2
    obtain ⟨n3, g3, h3⟩ := DataW.trod_bool Tryd.underlying4 f3
    obtain ⟨n4, g4, h4⟩ := DataW.trod_bool Tryd.underlying4 f4
    rw [h0] at e0; rw [h1] at e1; rw [h2] at e2; rw [h3] at e3; rw [h4] at e4
    simp only [DataW.lit.injEq, Lit.string.injEq, Lit.int.injEq, Lit.bool.injEq, true_and] at e0 e1 e2 e3 e4
    simp only [List.cons.injEq, and_true] at g0 g1 g2 g3 g4
    subst e0 e1 e2 e3 e4 g0 g1 g2 g3 g4
    simp

def rowD (i : Nat) : DataW Unit := .agg [.lit (.string (rL i)), .lit (.int .i64 (rN i)), .lit (.bool (rB i)), .lit (.bool (rW i)), .lit (.bool (rR i))]
def rowsD : List (DataW Unit) := [rowD 0, rowD 1, rowD 2, rowD 3, rowD 4, rowD 5, rowD 6, rowD 7, rowD 8, rowD 9, rowD 10, rowD 11, rowD 12, rowD 13]
theorem rowsD_at (i : Nat) (h : i < 14) : rowsD[i]? = some (rowD i) := by
  have : i = 0 ∨ i = 1 ∨ i = 2 ∨ i = 3 ∨ i = 4 ∨ i = 5 ∨ i = 6 ∨ i = 7 ∨ i = 8 ∨ i = 9 ∨ i = 10 ∨ i = 11 ∨ i = 12 ∨ i = 13 := by omega
  rcases this with rfl | rfl | rfl | rfl | rfl | rfl | rfl | rfl | rfl | rfl | rfl | rfl | rfl | rfl <;> rfl
theorem laid_rowsD : (Rows.laid_loop_example_stilscan_impl_devRows : DataW Unit) = .agg rowsD := rfl

theorem devTab_of {W : World} {sp : Nat → Bool} {held : Bool} {cs : Array Value} {fuel : Nat} {p : List MemPlace}
    (hv : W.var? Tryd.prog (Rows.fnMemSameRow.named.getD 0 "") = some cs)
    (hd : DataW.trod (fun _ => ()) Tryd.prog W 0 sp held fuel 117 cs.toList = some (Rows.laid_loop_example_stilscan_impl_devRows, p)) : DevTab W := by
  rw [laid_rowsD] at hd
  obtain ⟨xs, m, rfl, hx, hl, hn, hel⟩ := DataW.trod_array Tryd.underlying117 hd
  simp only [Prod.mk.injEq, DataW.agg.injEq] at hx
  intro i hi
  have h1 := hel i hi
  have h2 := rowsD_at i hi
  rw [hx.1, List.getElem?_map] at h2
  obtain ⟨x, hx1, hx2⟩ := Option.map_eq_some_iff.1 h2
  rw [hx1, cRow] at h1
  have h3 := rowCells (p := x.2) (h1.trans (by rw [show x = (x.1, x.2) from rfl, hx2]; rfl))
  have at_ : ∀ j, j < 5 → cs[i * 5 + j]? = ((cs.toList.drop (i * 5)).take 5)[j]? := by
    intro j hj
    simp [hj]
  have hc := World.var?_cell gRows hv
  have a0 := at_ 0 (by omega)
  have a1 := at_ 1 (by omega)
  have a2 := at_ 2 (by omega)
  have a3 := at_ 3 (by omega)
  have a4 := at_ 4 (by omega)
  rw [h3] at a0 a1 a2 a3 a4
  refine ⟨?_, ?_, ?_, ?_, ?_⟩
  · rw [hc]; simpa using a0
  · rw [hc]; simpa using a1
  · rw [hc]; simpa using a2
  · rw [hc]; simpa using a3
  · rw [hc]; simpa using a4

theorem DevTab.below {w w' : World} (h : DevTab w) (hb : Below w.heap.size w w') (hs : 1 < w.heap.size) : DevTab w' := fun i hi => by
  have := h i hi
  simp only [hb.cell (p := ⟨1, _, none⟩) hs]
  exact this
end Go.Proofs.YtlflihegadjpdaaDoor

/- What the program's functions on operands answer. Helper text: no statement is claimed here. -/
namespace Go.Proofs.YtlflihegadjpdaaDoor
open Go.ChangeShapes Go.WideShapes Go.ChangeAt Go.RowKit

theorem DevTab.lt {w : World} (h : DevTab w) : 1 < w.heap.size := World.block_lt_of_cell? w ⟨1, _, none⟩ (h 0 (by omega)).1
theorem DevTab.to {w w' : World} (h : DevTab w) (hb : Below w.heap.size w w') : DevTab w' := h.below hb h.lt
theorem DevTab.alloc {w : World} (h : DevTab w) (o : Obj) : DevTab (w.alloc o) := h.to ((Below.refl _ _).alloc (Nat.le_refl _) o)
theorem DevTab.drew {w : World} (h : DevTab w) : DevTab w.drew := h.to (Below.refl _ _).drew
theorem bcell {W w1 : World} (hb : Below W.heap.size W w1) : (∀ b o, b < W.heap.size → w1.cell? ⟨b, o, none⟩ = W.cell? ⟨b, o, none⟩) ∧ (∀ b o, b < W.heap.size → w1.frozen? ⟨b, o, none⟩ = W.frozen? ⟨b, o, none⟩) :=
  ⟨fun b o h => hb.cell (p := ⟨b, o, none⟩) h, fun b o h => hb.frozen (p := ⟨b, o, none⟩) h⟩
theorem ret_bool {a b : Bool} (h : a = b) : Ending.returned (.bool a) = .returned (.bool b) := by rw [h]

def kz (k : Int) : Nat := if 1 ≤ k ∧ k ≤ 13 then k.toNat else 0
theorem kz_nat (i : Nat) (h1 : 1 ≤ i) (h2 : i ≤ 13) : kz (i : Int) = i := by unfold kz; rw [if_pos (by omega)]; omega
theorem kz_no (k : Int) (h : k < 1 ∨ 13 < k) : kz k = 0 := by unfold kz; rw [if_neg (by omega)]
def rowV (k : Int) : Value := .agg #[.string ⟨(rL (kz k)).toArray⟩, .int .i64 (rN (kz k)), .bool (rB (kz k)), .bool (rW (kz k)), .bool (rR (kz k))]

set_option maxHeartbeats 400000 in
theorem rowOf_no (k : Int) (w : World) (h : k < 1 ∨ 13 < k) :
    Calls Tryd.prog 62 #[.int .i64 k] w fun e w' => e = .returned (.agg #[.string ⟨#[]⟩, .int .i64 0, .bool false, .bool false, .bool false]) ∧ Below w.heap.size w w' := by
  rcases h with h | h
  · go_enter Tryd.func62, Tryd.ntmps62
    go_wp2
    exact bodyPost_ret (v := .agg #[.string ⟨#[]⟩, .int .i64 0, .bool false, .bool false, .bool false]) (by simp [results, Tryd.results62, go_sem]) rfl ⟨rfl, (Below.refl _ _).alloc (Nat.le_refl _) _⟩
  · have h' : ¬ k < 1 := by omega
    go_enter Tryd.func62, Tryd.ntmps62
    go_wp2
    exact bodyPost_ret (v := .agg #[.string ⟨#[]⟩, .int .i64 0, .bool false, .bool false, .bool false]) (by simp [results, Tryd.results62, go_sem]) rfl ⟨rfl, (Below.refl _ _).alloc (Nat.le_refl _) _⟩

set_option maxHeartbeats 400000 in
theorem rowOf_yes (i : Nat) (w : World) (h1 : 1 ≤ i) (h2 : i ≤ 13) (hT : DevTab w) :
    Calls Tryd.prog 62 #[.int .i64 (i : Int)] w fun e w' => e = .returned (.agg #[.string ⟨(rL i).toArray⟩, .int .i64 (rN i), .bool (rB i), .bool (rW i), .bool (rR i)]) ∧ Below w.heap.size w w' := by
  obtain ⟨t0, t1, t2, t3, t4⟩ := hT i (by omega)
  have a : ¬ (i : Int) < 1 := by omega
  have b : ¬ (13 : Int) < i := by omega
  have hs : 1 < w.heap.size := hT.lt
  clear hT
  go_enter Tryd.func62, Tryd.ntmps62
  go_wp2
  exact bodyPost_ret (v := .agg #[.string ⟨(rL i).toArray⟩, .int .i64 (rN i), .bool (rB i), .bool (rW i), .bool (rR i)]) (by simp [results, Tryd.results62, go_sem]) rfl ⟨rfl, (Below.refl _ _).alloc (Nat.le_refl _) _⟩

theorem rowOf_any (k : Int) (w : World) (hT : DevTab w) :
    Calls Tryd.prog 62 #[.int .i64 k] w fun e w' => e = .returned (.agg #[.string ⟨(rL (kz k)).toArray⟩, .int .i64 (rN (kz k)), .bool (rB (kz k)), .bool (rW (kz k)), .bool (rR (kz k))]) ∧ Below w.heap.size w w' := by
  by_cases h : k < 1 ∨ 13 < k
  · rw [kz_no k h]; exact rowOf_no k w h
  · obtain ⟨i, rfl⟩ := Int.eq_ofNat_of_zero_le (show 0 ≤ k by omega)
    rw [kz_nat i (by omega) (by omega)]; exact rowOf_yes i w (by omega) (by omega) hT

theorem field_0 (a b c d e : Value) (w : World) : Sem.run Tryd.prog (Instr.field 103 (.agg #[a, b, c, d, e]) 0) w = .ok a w := by kernel_rfl
theorem field_1 (a b c d e : Value) (w : World) : Sem.run Tryd.prog (Instr.field 103 (.agg #[a, b, c, d, e]) 1) w = .ok b w := by kernel_rfl
theorem field_2 (a b c d e : Value) (w : World) : Sem.run Tryd.prog (Instr.field 103 (.agg #[a, b, c, d, e]) 2) w = .ok c w := by kernel_rfl
theorem field_3 (a b c d e : Value) (w : World) : Sem.run Tryd.prog (Instr.field 103 (.agg #[a, b, c, d, e]) 3) w = .ok d w := by kernel_rfl
theorem field_4 (a b c d e : Value) (w : World) : Sem.run Tryd.prog (Instr.field 103 (.agg #[a, b, c, d, e]) 4) w = .ok e w := by kernel_rfl
attribute [local go_sem] field_0 field_1 field_2 field_3 field_4

set_option maxHeartbeats 400000 in
theorem size_any (k : Int) (w : World) (hT : DevTab w) :
    Calls Tryd.prog 41 #[.int .i64 k] w fun e w' => e = .returned (.int .i64 (rN (kz k))) ∧ Below w.heap.size w w' := by
  go_enter Tryd.func41, Tryd.ntmps41
  go_wp2_with fail
  refine (rowOf_any _ _ hT).mono ?_
  rintro e w' ⟨rfl, hb⟩
  go_wp2
  go_ret
  exact ⟨rfl, hb⟩

def decOk (n p : Int) : Bool := decide (-999999999 ≤ n ∧ n ≤ 999999999 ∧ 1 ≤ p ∧ p ≤ 6 ∧ (p = 1 ∨ n.tmod 10 ≠ 0))

set_option maxHeartbeats 400000 in
theorem decOk_any (n p : Int) (w : World) :
    Calls Tryd.prog 79 #[.int .i64 n, .int .i64 p] w fun e w' => e = .returned (.bool (decOk n p)) ∧ w' = w := by
  by_cases h1 : n < -999999999
  · go_enter Tryd.func79, Tryd.ntmps79
    go_wp2
    go_ret
    exact ⟨ret_bool (by simp [decOk]; omega), rfl⟩
  by_cases h2 : 999999999 < n
  · go_enter Tryd.func79, Tryd.ntmps79
    go_wp2
    go_ret
    exact ⟨ret_bool (by simp [decOk]; omega), rfl⟩
  by_cases h3 : p < 1
  · go_enter Tryd.func79, Tryd.ntmps79
    go_wp2
    go_ret
    exact ⟨ret_bool (by simp [decOk]; omega), rfl⟩
  by_cases h4 : 6 < p
  · go_enter Tryd.func79, Tryd.ntmps79
    go_wp2
    go_ret
    exact ⟨ret_bool (by simp [decOk]; omega), rfl⟩
  by_cases h5 : p = 1
  · subst h5
    go_enter Tryd.func79, Tryd.ntmps79
    go_wp2
    go_ret
    exact ⟨ret_bool (by simp [decOk]; omega), rfl⟩
  · have h5' : (p == 1) = false := by simpa using h5
    clear h5
    go_enter Tryd.func79, Tryd.ntmps79
    go_wp2
    go_ret
    have h5 : p ≠ 1 := by simpa using h5'
    exact ⟨ret_bool (by by_cases h6 : n.tmod 10 = 0 <;> simp [decOk, h1, h2, h3, h4, h5, h6]), rfl⟩
end Go.Proofs.YtlflihegadjpdaaDoor

/- DevOk, the program's and the document's. Helper text: no statement is claimed here. -/
namespace Go.Proofs.YtlflihegadjpdaaDoor
open Go.ChangeShapes Go.WideShapes Go.ChangeAt Go.RowKit

def okB (k n p : Int) : Bool := decide ((k = 11 ∧ -32768 ≤ n ∧ n ≤ 32767 ∧ p = 0) ∨ (k = 12 ∧ decOk n p = true) ∨ (k = 13 ∧ 0 ≤ n ∧ n < 4 ∧ p = 0) ∨ (k ≠ 11 ∧ k ≠ 12 ∧ k ≠ 13 ∧ 0 ≤ n ∧ n < rN (kz k) ∧ p = 0))
theorem okB_11 (n p : Int) : okB 11 n p = decide (-32768 ≤ n ∧ n ≤ 32767 ∧ p = 0) := by simp [okB]
theorem okB_12 (n p : Int) : okB 12 n p = decOk n p := by simp [okB]
theorem okB_13 (n p : Int) : okB 13 n p = decide (0 ≤ n ∧ n < 4 ∧ p = 0) := by simp [okB]
theorem okB_dev (k n p : Int) (h1 : k ≠ 11) (h2 : k ≠ 12) (h3 : k ≠ 13) : okB k n p = decide (0 ≤ n ∧ n < rN (kz k) ∧ p = 0) := by simp [okB, h1, h2, h3]
theorem rN_bd (i : Nat) : 0 ≤ rN i ∧ rN i ≤ 64 := by unfold rN; split <;> omega

theorem one (w : World) (o : Obj) : Below w.heap.size w (w.alloc o) := (Below.refl _ _).alloc (Nat.le_refl _) _

set_option maxHeartbeats 400000 in
theorem devOk_11 (n p : Int) (w : World) :
    Calls Tryd.prog 66 #[.agg #[.int .i64 11, .int .i64 n, .int .i64 p]] w fun e w' => e = .returned (.bool (okB 11 n p)) ∧ Below w.heap.size w w' := by
  rw [okB_11]
  go_enter Tryd.func66, Tryd.ntmps66
  go_wp2
  all_goals go_ret
  all_goals exact ⟨ret_bool (by rw [Bool.eq_iff_iff]; simp <;> omega), one _ _⟩

set_option maxHeartbeats 400000 in
theorem devOk_12 (n p : Int) (w : World) :
    Calls Tryd.prog 66 #[.agg #[.int .i64 12, .int .i64 n, .int .i64 p]] w fun e w' => e = .returned (.bool (okB 12 n p)) ∧ Below w.heap.size w w' := by
  rw [okB_12]
  go_enter Tryd.func66, Tryd.ntmps66
  go_wp2_with fail
  refine (decOk_any _ _ _).mono ?_
  rintro e w' ⟨rfl, rfl⟩
  go_wp2
  go_ret
  exact ⟨rfl, one _ _⟩

set_option maxHeartbeats 400000 in
theorem devOk_13 (n p : Int) (w : World) :
    Calls Tryd.prog 66 #[.agg #[.int .i64 13, .int .i64 n, .int .i64 p]] w fun e w' => e = .returned (.bool (okB 13 n p)) ∧ Below w.heap.size w w' := by
  rw [okB_13]
  go_enter Tryd.func66, Tryd.ntmps66
  go_wp2
  all_goals go_ret
  all_goals exact ⟨ret_bool (by rw [Bool.eq_iff_iff]; simp <;> omega), one _ _⟩

set_option maxHeartbeats 400000 in
theorem devOk_dev0 (k n p : Int) (w : World) (h1 : (k == 11) = false) (h2 : (k == 12) = false) (h3 : (k == 13) = false) (hn : n < 0) :
    Calls Tryd.prog 66 #[.agg #[.int .i64 k, .int .i64 n, .int .i64 p]] w fun e w' => e = .returned (.bool false) ∧ Below w.heap.size w w' := by
  have hd : decide (0 ≤ n) = false := by simp; omega
  go_enter Tryd.func66, Tryd.ntmps66
  go_wp2
  go_quiet (fail)
  go_wp2
  go_ret
  exact ⟨rfl, below_drewN (one _ _) _⟩
abbrev argO (k n p : Int) : Obj := .cells #[.int .i64 k, .int .i64 n, .int .i64 p] 58
theorem arg_at (k n p : Int) (w : World) : (w.alloc (argO k n p)).cell? ⟨w.heap.size, 0, none⟩ = some (.int .i64 k) ∧ (w.alloc (argO k n p)).cell? ⟨w.heap.size, 1, none⟩ = some (.int .i64 n) ∧ (w.alloc (argO k n p)).cell? ⟨w.heap.size, 2, none⟩ = some (.int .i64 p) := by
  refine ⟨?_, ?_, ?_⟩ <;> simp [go_sem]
theorem size_grown {k n p : Int} {w : World} (hT : DevTab w) (d : Nat) (os : Array Obj) :
    Calls Tryd.prog 41 #[.int .i64 k] (Sort.grow (redrawn (w.alloc (argO k n p)) d) os) fun e w'' => e = .returned (.int .i64 (rN (kz k))) ∧ ∃ p' : Regrown, w'' = Sort.grow (redrawn (w.alloc (argO k n p)) p'.d) p'.os :=
  Calls.regrown_of (size_any _ _ ((hT.alloc _).to (below_regrown _ d os)))

set_option maxHeartbeats 400000 in
theorem devOk_dev1 (k n p : Int) (w : World) (hT : DevTab w) (h1 : (k == 11) = false) (h2 : (k == 12) = false) (h3 : (k == 13) = false) (hn : 0 ≤ n) (hl : n < rN (kz k)) :
    Calls Tryd.prog 66 #[.agg #[.int .i64 k, .int .i64 n, .int .i64 p]] w fun e w' => e = .returned (.bool (p == 0)) ∧ Below w.heap.size w w' := by
  have hb := rN_bd (kz k)
  obtain ⟨c0, c1, c2⟩ := arg_at k n p w
  have k0 := cell_regrown c0
  have k1 := cell_regrown c1
  have k2 := cell_regrown c2
  clear c0 c1 c2
  go_enter Tryd.func66, Tryd.ntmps66
  go_wp2
  refine wp_region_quiet_below (by kernel_rfl) (by kernel_rfl) ?_
  repeat (first | go_big_quiet_step (exact size_grown hT _ _) | quiet_step (exact size_grown hT _ _))
  refine wpQuiet_nil ?_
  intro _ hw'
  obtain ⟨⟨dq, osq⟩, hw''⟩ := hw'
  subst hw''
  go_wp2
  go_ret
  exact ⟨rfl, (one _ _).trans ((below_regrown _ dq osq).mono (by simp))⟩
set_option maxHeartbeats 400000 in
theorem devOk_dev2 (k n p : Int) (w : World) (hT : DevTab w) (h1 : (k == 11) = false) (h2 : (k == 12) = false) (h3 : (k == 13) = false) (hn : 0 ≤ n) (hl : rN (kz k) ≤ n) :
    Calls Tryd.prog 66 #[.agg #[.int .i64 k, .int .i64 n, .int .i64 p]] w fun e w' => e = .returned (.bool false) ∧ Below w.heap.size w w' := by
  have hb := rN_bd (kz k)
  have hd : decide (n < rN (kz k)) = false := by simp; omega
  obtain ⟨c0, c1, c2⟩ := arg_at k n p w
  have k0 := cell_regrown c0
  have k1 := cell_regrown c1
  have k2 := cell_regrown c2
  clear c0 c1 c2
  go_enter Tryd.func66, Tryd.ntmps66
  go_wp2
  refine wp_region_quiet_below (by kernel_rfl) (by kernel_rfl) ?_
  repeat (first | go_big_quiet_step (exact size_grown hT _ _) | quiet_step (exact size_grown hT _ _))
  refine wpQuiet_nil ?_
  intro _ hw'
  obtain ⟨⟨dq, osq⟩, hw''⟩ := hw'
  subst hw''
  go_wp2
  go_ret
  exact ⟨rfl, (one _ _).trans ((below_regrown _ dq osq).mono (by simp))⟩

theorem of_one {w w1 : World} {o : Obj} (h : Below (w.alloc o).heap.size (w.alloc o) w1) : Below w.heap.size w w1 := (one w o).trans (h.mono (by simp))
theorem of_two {w w1 w2 : World} {o : Obj} (h : Below (w.alloc o).heap.size (w.alloc o) w1) (h2 : Below w1.heap.size w1 w2) : Below w.heap.size w w2 := (of_one h).trans (h2.mono (of_one h).size)

theorem devOk_any (k n p : Int) (w : World) (hT : DevTab w) :
    Calls Tryd.prog 66 #[.agg #[.int .i64 k, .int .i64 n, .int .i64 p]] w fun e w' => e = .returned (.bool (okB k n p)) ∧ Below w.heap.size w w' := by
  by_cases h1 : k = 11
  · subst h1; exact devOk_11 n p w
  by_cases h2 : k = 12
  · subst h2; exact devOk_12 n p w
  by_cases h3 : k = 13
  · subst h3; exact devOk_13 n p w
  rw [okB_dev k n p h1 h2 h3]
  have e1 : (k == 11) = false := by simpa using h1
  have e2 : (k == 12) = false := by simpa using h2
  have e3 : (k == 13) = false := by simpa using h3
  by_cases hn : n < 0
  · rw [show decide (0 ≤ n ∧ n < rN (kz k) ∧ p = 0) = false by simp; omega]
    exact devOk_dev0 k n p w e1 e2 e3 hn
  by_cases hl : n < rN (kz k)
  · rw [show decide (0 ≤ n ∧ n < rN (kz k) ∧ p = 0) = (p == 0) by rw [Bool.eq_iff_iff]; simp; omega]
    exact devOk_dev1 k n p w hT e1 e2 e3 (by omega) hl
  · rw [show decide (0 ≤ n ∧ n < rN (kz k) ∧ p = 0) = false by simp; omega]
    exact devOk_dev2 k n p w hT e1 e2 e3 (by omega) (by omega)
end Go.Proofs.YtlflihegadjpdaaDoor

/- The memory of a controller as plain data, and its cells. Helper text: no statement is claimed here. -/
namespace Go.Proofs.YtlflihegadjpdaaDoor
open Go.ChangeShapes Go.WideShapes Go.ChangeAt Go.RowKit

/-- A memory: words of bits, timers, counters, registers of both sorts, and the rest. -/
structure Mm where
  x : Nat
  y : Nat
  m : Nat
  s : Nat
  e : Nat
  td : Nat → Bool
  tc : Nat → Nat
  cd : Nat → Bool
  cl : Nat → Bool
  cc : Nat → Nat
  d : Nat → Int
  r : Nat → Nat
  time : Nat
  ran : Bool
  fault : Bool

/-- Every number keeps to its width. -/
structure Mm.Ok (m : Mm) : Prop where
  hx : m.x < 2 ^ 32
  hy : m.y < 2 ^ 32
  hm : m.m < 2 ^ 64
  hs : m.s < 2 ^ 16
  he : m.e < 2 ^ 32
  htc : ∀ i, m.tc i < 65536
  hcc : ∀ i, m.cc i < 65536
  hd : ∀ i, -32768 ≤ m.d i ∧ m.d i ≤ 32767
  hr : ∀ i, m.r i < 2 ^ 64
  htime : m.time < 2 ^ 32

def Mm.tcell (m : Mm) (i : Nat) : Value := if i % 2 = 0 then .bool (m.td (i / 2)) else .int .u16 (m.tc (i / 2))
def Mm.ccell (m : Mm) (i : Nat) : Value := if i % 3 = 0 then .bool (m.cd (i / 3)) else if i % 3 = 1 then .bool (m.cl (i / 3)) else .int .u16 (m.cc (i / 3))
def Mm.dcell (m : Mm) (i : Nat) : Value := .int .i16 (m.d i)
def Mm.rcell (m : Mm) (i : Nat) : Value := .float .f64 (m.r i)
/-- What lies in each of the 136 cells. -/
def Mm.cell (m : Mm) (i : Nat) : Value :=
  if i < 5 then (if i = 0 then .int .u32 m.x else if i = 1 then .int .u32 m.y else if i = 2 then .int .u64 m.m else if i = 3 then .int .u16 m.s else .int .u32 m.e)
  else if i < 37 then m.tcell (i - 5)
  else if i < 85 then m.ccell (i - 37)
  else if i < 117 then m.dcell (i - 85)
  else if i < 133 then m.rcell (i - 117)
  else if i = 133 then .int .u32 m.time
  else if i = 134 then .bool m.ran
  else .bool m.fault
def cellsOf (n : Nat) (f : Nat → Value) : Array Value := Array.ofFn (n := n) fun i => f i.val
theorem cellsOf_size (n : Nat) (f : Nat → Value) : (cellsOf n f).size = n := by simp [cellsOf]
theorem cellsOf_at {n : Nat} (f : Nat → Value) {i : Nat} (h : i < n) : (cellsOf n f)[i]? = some (f i) := by simp [cellsOf, h]
theorem cellsOf_ext {n : Nat} {f g : Nat → Value} (h : ∀ i, i < n → f i = g i) : cellsOf n f = cellsOf n g := by
  unfold cellsOf
  congr 1
  funext i
  exact h i.val i.isLt
theorem cellsOf_set {n : Nat} (f : Nat → Value) (k : Nat) (v : Value) : (cellsOf n f).setIfInBounds k v = cellsOf n (fun i => if i = k then v else f i) := by
  apply Array.ext_getElem?
  intro i
  rw [Array.getElem?_setIfInBounds, cellsOf_size]
  by_cases hi : i < n
  · rw [cellsOf_at _ hi, cellsOf_at _ hi]
    by_cases hk : k = i
    · subst hk; simp [hi]
    · have : ¬ i = k := fun e => hk e.symm
      simp [hk, this]
  · have h1 : (cellsOf n f)[i]? = none := by simp [cellsOf]; omega
    have h2 : (cellsOf n (fun i => if i = k then v else f i))[i]? = none := by simp [cellsOf]; omega
    rw [h1, h2]
    by_cases hk : k = i
    · subst hk; simp [hi]
    · simp [hk]
def Mm.cells (m : Mm) : Array Value := cellsOf 136 m.cell
def Mm.val (m : Mm) : Value := .agg m.cells
theorem Mm.at_ (m : Mm) {i : Nat} (h : i < 136) : m.cells[i]? = some (m.cell i) := cellsOf_at _ h
theorem Mm.at_x (m : Mm) : m.cells[0]? = some (.int .u32 m.x) := m.at_ (by decide)
theorem Mm.at_y (m : Mm) : m.cells[1]? = some (.int .u32 m.y) := m.at_ (by decide)
theorem Mm.at_m (m : Mm) : m.cells[2]? = some (.int .u64 m.m) := m.at_ (by decide)
theorem Mm.at_s (m : Mm) : m.cells[3]? = some (.int .u16 m.s) := m.at_ (by decide)
theorem Mm.at_e (m : Mm) : m.cells[4]? = some (.int .u32 m.e) := m.at_ (by decide)
theorem Mm.at_time (m : Mm) : m.cells[133]? = some (.int .u32 m.time) := m.at_ (by decide)
theorem Mm.at_ran (m : Mm) : m.cells[134]? = some (.bool m.ran) := m.at_ (by decide)
theorem Mm.at_fault (m : Mm) : m.cells[135]? = some (.bool m.fault) := m.at_ (by decide)
theorem Mm.cell_t (m : Mm) {j : Nat} (h : j < 32) : m.cell (5 + j) = m.tcell j := by
  unfold Mm.cell; rw [if_neg (by omega), if_pos (by omega), show 5 + j - 5 = j by omega]
theorem Mm.cell_c (m : Mm) {j : Nat} (h : j < 48) : m.cell (37 + j) = m.ccell j := by
  unfold Mm.cell; rw [if_neg (by omega), if_neg (by omega), if_pos (by omega), show 37 + j - 37 = j by omega]
theorem Mm.cell_d (m : Mm) {j : Nat} (h : j < 32) : m.cell (85 + j) = m.dcell j := by
  unfold Mm.cell; rw [if_neg (by omega), if_neg (by omega), if_neg (by omega), if_pos (by omega), show 85 + j - 85 = j by omega]
theorem Mm.cell_r (m : Mm) {j : Nat} (h : j < 16) : m.cell (117 + j) = m.rcell j := by
  unfold Mm.cell; rw [if_neg (by omega), if_neg (by omega), if_neg (by omega), if_neg (by omega), if_pos (by omega), show 117 + j - 117 = j by omega]
theorem Mm.tcell_d (m : Mm) (k : Nat) : m.tcell (k * 2) = .bool (m.td k) := by
  unfold Mm.tcell; rw [if_pos (by omega), show k * 2 / 2 = k by omega]
theorem Mm.tcell_c (m : Mm) (k : Nat) : m.tcell (k * 2 + 1) = .int .u16 (m.tc k) := by
  unfold Mm.tcell; rw [if_neg (by omega), show (k * 2 + 1) / 2 = k by omega]
theorem Mm.ccell_d (m : Mm) (k : Nat) : m.ccell (k * 3) = .bool (m.cd k) := by
  unfold Mm.ccell; rw [if_pos (by omega), show k * 3 / 3 = k by omega]
theorem Mm.ccell_l (m : Mm) (k : Nat) : m.ccell (k * 3 + 1) = .bool (m.cl k) := by
  unfold Mm.ccell; rw [if_neg (by omega), if_pos (by omega), show (k * 3 + 1) / 3 = k by omega]
theorem Mm.ccell_c (m : Mm) (k : Nat) : m.ccell (k * 3 + 2) = .int .u16 (m.cc k) := by
  unfold Mm.ccell; rw [if_neg (by omega), if_neg (by omega), show (k * 3 + 2) / 3 = k by omega]
theorem Mm.at_td (m : Mm) {k : Nat} (h : k < 16) : m.cells[5 + k * 2]? = some (.bool (m.td k)) := by rw [m.at_ (by omega), m.cell_t (by omega), m.tcell_d]
theorem Mm.at_tc (m : Mm) {k : Nat} (h : k < 16) : m.cells[5 + k * 2 + 1]? = some (.int .u16 (m.tc k)) := by rw [m.at_ (by omega), Nat.add_assoc, m.cell_t (by omega), m.tcell_c]
theorem Mm.at_cd (m : Mm) {k : Nat} (h : k < 16) : m.cells[37 + k * 3]? = some (.bool (m.cd k)) := by rw [m.at_ (by omega), m.cell_c (by omega), m.ccell_d]
theorem Mm.at_cl (m : Mm) {k : Nat} (h : k < 16) : m.cells[37 + k * 3 + 1]? = some (.bool (m.cl k)) := by rw [m.at_ (by omega), Nat.add_assoc, m.cell_c (by omega), m.ccell_l]
theorem Mm.at_cc (m : Mm) {k : Nat} (h : k < 16) : m.cells[37 + k * 3 + 2]? = some (.int .u16 (m.cc k)) := by rw [m.at_ (by omega), Nat.add_assoc, m.cell_c (by omega), m.ccell_c]
theorem Mm.at_d (m : Mm) {k : Nat} (h : k < 32) : m.cells[85 + k]? = some (.int .i16 (m.d k)) := by rw [m.at_ (by omega), m.cell_d h]; rfl
theorem Mm.at_r (m : Mm) {k : Nat} (h : k < 16) : m.cells[117 + k]? = some (.float .f64 (m.r k)) := by rw [m.at_ (by omega), m.cell_r h]; rfl
/-- The four arrays. -/
def Mm.tArr (m : Mm) : Array Value := cellsOf 32 m.tcell
def Mm.cArr (m : Mm) : Array Value := cellsOf 48 m.ccell
def Mm.dArr (m : Mm) : Array Value := cellsOf 32 m.dcell
def Mm.rArr (m : Mm) : Array Value := cellsOf 16 m.rcell
/-- The memory with nothing in it. -/
def zeroM : Mm := ⟨0, 0, 0, 0, 0, fun _ => false, fun _ => 0, fun _ => false, fun _ => false, fun _ => 0, fun _ => 0, fun _ => 0, 0, false, false⟩
theorem zeroM_ok : zeroM.Ok := ⟨by decide, by decide, by decide, by decide, by decide, fun _ => by show (0 : Nat) < 65536; decide, fun _ => by show (0 : Nat) < 65536; decide, fun _ => by show (-32768 : Int) ≤ 0 ∧ (0 : Int) ≤ 32767; decide, fun _ => by show (0 : Nat) < 2 ^ 64; decide, by decide⟩
/-- A row of the call's own in block b: n cells, each as f says. -/
def RowAt (w : World) (b : Nat) (t : TypeId) (n : Nat) (f : Nat → Value) : Prop := w.heap[b]? = some (.cells (cellsOf n f) t (0, 0))
theorem RowAt.lt {w : World} {b n : Nat} {t : TypeId} {f : Nat → Value} (h : RowAt w b t n f) : b < w.heap.size := (Array.getElem?_eq_some_iff.1 h).1
theorem RowAt.to {w w' : World} {b n : Nat} {t : TypeId} {f : Nat → Value} (h : RowAt w b t n f) (hb : Below w.heap.size w w') : RowAt w' b t n f := (hb.block b h.lt).trans h
theorem RowAt.by {w w' : World} {b n : Nat} {t : TypeId} {f : Nat → Value} (h : RowAt w b t n f) (hb : w'.heap[b]? = w.heap[b]?) : RowAt w' b t n f := hb.trans h
theorem RowAt.cell {w : World} {b n : Nat} {t : TypeId} {f : Nat → Value} (h : RowAt w b t n f) {i : Nat} (hi : i < n) : w.cell? ⟨b, i, none⟩ = some (f i) := (cell_of_row _ _ _ _ _ _ h).trans (cellsOf_at _ hi)
theorem RowAt.frozen {w : World} {b n : Nat} {t : TypeId} {f : Nat → Value} (h : RowAt w b t n f) (i : Nat) : w.frozen? ⟨b, i, none⟩ = false := frozen_of_row _ _ _ _ _ h
theorem RowAt.new (w : World) (t : TypeId) (n : Nat) (f : Nat → Value) : RowAt (w.alloc (.cells (cellsOf n f) t)) w.heap.size t n f := heap_alloc_last w _
theorem RowAt.alloc {w : World} {b n : Nat} {t : TypeId} {f : Nat → Value} (h : RowAt w b t n f) (o : Obj) : RowAt (w.alloc o) b t n f := h.to ((Below.refl _ _).alloc (Nat.le_refl _) _)
theorem RowAt.set {w : World} {b n : Nat} {t : TypeId} {f : Nat → Value} (h : RowAt w b t n f) (k : Nat) (v : Value) : RowAt (w.setCell ⟨b, k, none⟩ v) b t n (fun i => if i = k then v else f i) := by
  unfold RowAt
  rw [← cellsOf_set]
  exact heap_setCell_same _ _ _ _ _ _ h
theorem RowAt.other {w : World} {b n c k : Nat} {t : TypeId} {f : Nat → Value} (h : RowAt w b t n f) (v : Value) (hc : b ≠ c) : RowAt (w.setCell ⟨c, k, none⟩ v) b t n f :=
  (heap_setCell_other w ⟨c, k, none⟩ b v hc).trans h
theorem RowAt.ext {w : World} {b n : Nat} {t : TypeId} {f g : Nat → Value} (h : RowAt w b t n f) (e : ∀ i, i < n → f i = g i) : RowAt w b t n g := by
  unfold RowAt at h ⊢
  rw [h, cellsOf_ext e]
/-- A part of a row is read. -/
theorem RowAt.load {w : World} {b n : Nat} {t : TypeId} {f : Nat → Value} (h : RowAt w b t n f) {o k : Nat} (g : Nat → Value) (hok : o + k ≤ n) (e : ∀ i, i < k → f (o + i) = g i) :
    (loadCellsFrom ⟨b, o, none⟩ 0 k #[]).run Tryd.prog w = .ok (cellsOf k g) w := by
  have := run_loadCells_list (P := Tryd.prog) w ⟨b, o, none⟩ (cellsOf k g).toList (fun j v hv => by
    have hj : j < k := by
      have := (List.getElem?_eq_some_iff.1 hv).1
      simpa [cellsOf_size] using this
    rw [Addr.add_mid, h.cell (by omega), e j hj]
    rw [Array.getElem?_toList, cellsOf_at _ hj] at hv
    exact hv)
  simpa [loadCells, cellsOf_size] using this
/-- A part of a row is written. -/
theorem RowAt.store {w : World} {b n : Nat} {t : TypeId} {f : Nat → Value} (h : RowAt w b t n f) (o k : Nat) (g f' : Nat → Value) (hok : o + k ≤ n) (h1 : ∀ i, i < k → (g i).oneCell' = true)
    (e : ∀ i, i < n → f' i = if o ≤ i ∧ i < o + k then g (i - o) else f i) :
    ∃ w2, (storeCells ⟨b, o, none⟩ (cellsOf k g).toList 0).run Tryd.prog w = .ok () w2 ∧ RowAt w2 b t n f' ∧ w2.heap.size = w.heap.size ∧ (∀ j, j ≠ b → w2.heap[j]? = w.heap[j]?) ∧ (∀ B a, Below B a w → B ≤ b → Below B a w2) := by
  have hs := run_storeCells_at (P := Tryd.prog) b o t (cellsOf k g).toList 0 (cellsOf n f) w h (by simp [cellsOf_size]; omega) (fun v hv => by
    rw [Array.mem_toList_iff, Array.mem_iff_getElem?] at hv
    obtain ⟨i, hi⟩ := hv
    have hk : i < k := by
      have := (Array.getElem?_eq_some_iff.1 hi).1
      simpa [cellsOf_size] using this
    rw [cellsOf_at _ hk] at hi
    obtain rfl := Option.some.inj hi
    exact h1 i hk)
  refine ⟨_, hs, ?_, by simp, fun j hj => setRow_other _ _ _ _ hj, fun B a hb hB => below_setRow hb hB _⟩
  refine (setRow_heap w b _ _ t _ h).trans ?_
  congr 2
  apply Array.ext_getElem?
  intro i
  simp only [List.getElem?_toArray, Nat.add_zero, Array.length_toList, cellsOf_size]
  by_cases hi : i < n
  · rw [cellsOf_at _ hi, e i hi]
    by_cases ho : i < o
    · rw [if_neg (by omega), List.append_assoc, List.getElem?_append_left (by simp [cellsOf_size]; omega), List.getElem?_take, if_pos ho, Array.getElem?_toList, cellsOf_at _ hi]
    · by_cases hk : i < o + k
      · rw [if_pos ⟨by omega, hk⟩, List.append_assoc, List.getElem?_append_right (by simp [cellsOf_size]; omega), List.getElem?_append_left (by simp [cellsOf_size]; omega)]
        simp only [List.length_take, Array.length_toList, cellsOf_size]
        rw [Nat.min_eq_left (by omega), Array.getElem?_toList, cellsOf_at _ (by omega)]
      · rw [if_neg (by omega), List.getElem?_append_right (by simp [cellsOf_size]; omega), List.getElem?_drop]
        simp only [List.length_append, List.length_take, Array.length_toList, cellsOf_size]
        rw [Nat.min_eq_left (by omega), Array.getElem?_toList, show o + k + (i - (o + k)) = i by omega, cellsOf_at _ hi]
  · have h2 : (cellsOf n f')[i]? = none := by simp [cellsOf]; omega
    rw [h2]
    simp [cellsOf_size]
    omega
/-- A result that lies in memory. -/
theorem resRow {fn : Func} {W : World} {b p n : Nat} {t ty : TypeId} {f : Nat → Value} {d : TypeDesc} {tmps : Array Value} (h : fn.results = #[.cell p ty]) (hp : tmps.getD p undef = .pointer (some ⟨b, 0, none⟩)) (hR : RowAt W b t n f)
    (hu : Tryd.prog.underlying ty = some d) (hd : d.isRow = true) (hi : (Tryd.prog.info? ty).map (·.size) = some n) :
    (results fn tmps).run Tryd.prog W = .ok (.agg (cellsOf n f)) W :=
  results_cell_row h tmps W b t _ _ d hp hR hu (by cases d <;> exact hd) (by rw [hi, cellsOf_size])
/-- The walk's step at a load of many cells. -/
theorem wpList_rowLoad {ops : Array Oper} {rest : List Oper} {op : Oper} {a : Act} {w : World} {Q : Exit → Act → World → Prop} {n : Nat} {t : TypeId} {f : Nat → Value} {d : TypeDesc} (hgd : op.guard = none) (ty : TypeId) (x : Operand) (ho : op.op = .load ty x)
    (b o k : Nat) (g : Nat → Value) (hx : a.eval x = .pointer (some ⟨b, o, none⟩)) (hR : RowAt w b t n f) (hok : o + k ≤ n) (e : ∀ i, i < k → f (o + i) = g i)
    (hu : Tryd.prog.underlying ty = some d) (hd : d.isRow = true) (hi : (Tryd.prog.info? ty).map (·.size) = some k) (h : wpList Tryd.prog ops Q rest (a.put op.dst (.agg (cellsOf k g))) w) : wpList Tryd.prog ops Q (op :: rest) a w :=
  wpList_load_mid hgd ty x ho b o hx (cellsOf k g).toList d (fun j v hv => by
    have hj : j < k := by
      have := (List.getElem?_eq_some_iff.1 hv).1
      simpa [cellsOf_size] using this
    rw [hR.cell (by omega), e j hj]
    rw [Array.getElem?_toList, cellsOf_at _ hj] at hv
    exact hv) hu hd (by rw [hi]; simp [cellsOf_size]) (by simpa using h)
/-- The walk's step at a store of many cells. -/
theorem wpList_rowStore {ops : Array Oper} {rest : List Oper} {op : Oper} {a : Act} {w : World} {Q : Exit → Act → World → Prop} {n : Nat} {t : TypeId} {f : Nat → Value} (hgd : op.guard = none) (ty : TypeId) (x y : Operand) (ho : op.op = .store ty x y)
    (b o k : Nat) (g f' : Nat → Value) (hx : a.eval x = .pointer (some ⟨b, o, none⟩)) (hy : a.eval y = .agg (cellsOf k g)) (hR : RowAt w b t n f) (hok : o + k ≤ n) (h1 : ∀ i, i < k → (g i).oneCell' = true)
    (e : ∀ i, i < n → f' i = if o ≤ i ∧ i < o + k then g (i - o) else f i) (hi : (Tryd.prog.info? ty).map (·.size) = some k)
    (h : ∀ w2, RowAt w2 b t n f' → w2.heap.size = w.heap.size → (∀ j, j ≠ b → w2.heap[j]? = w.heap[j]?) → (∀ B a, Below B a w → B ≤ b → Below B a w2) → wpList Tryd.prog ops Q rest (a.put op.dst undef) w2) : wpList Tryd.prog ops Q (op :: rest) a w := by
  obtain ⟨w2, hs, hR2, hz2, hk2, hb2⟩ := hR.store o k g f' hok h1 e
  refine wpList_plain hgd fun _ hK => ?_
  unfold Oper.wp execOp
  have hv : (storeVar ty ⟨b, o, none⟩ (.agg (cellsOf k g))).run Tryd.prog w = .ok () w2 := by
    cases hq : Tryd.prog.info? ty with
    | none => simp [hq] at hi
    | some i =>
      have hs' : i.size = k := by simpa [hq] using hi
      simp [storeVar, sizeOf, typeInfo, hq, Value.cells, hs', cellsOf_size, hs]
  simp only [ho, hx, hy, Instr.storeAt, Instr.sureAddr, Sem.run_bind, Sem.run_pure, Result.andThen_ok, hv]
  exact hK _ _ (h w2 hR2 hz2 hk2 hb2)
/-- A memory of the call's own lies in block b. -/
abbrev MemAt (w : World) (b : Nat) (m : Mm) : Prop := RowAt w b 37 136 m.cell
theorem tcell_one (m : Mm) (i : Nat) : (m.tcell i).oneCell' = true := by unfold Mm.tcell; split <;> rfl
theorem ccell_one (m : Mm) (i : Nat) : (m.ccell i).oneCell' = true := by unfold Mm.ccell; split <;> (try split) <;> rfl
theorem dcell_one (m : Mm) (i : Nat) : (m.dcell i).oneCell' = true := rfl
theorem rcell_one (m : Mm) (i : Nat) : (m.rcell i).oneCell' = true := rfl
theorem cell_one (m : Mm) (i : Nat) : (m.cell i).oneCell' = true := by
  unfold Mm.cell
  repeat' split
  all_goals first | rfl | exact tcell_one _ _ | exact ccell_one _ _
theorem tArr_size (m : Mm) : m.tArr.size = 32 := cellsOf_size _ _
theorem cArr_size (m : Mm) : m.cArr.size = 48 := cellsOf_size _ _
theorem dArr_size (m : Mm) : m.dArr.size = 32 := cellsOf_size _ _
theorem rArr_size (m : Mm) : m.rArr.size = 16 := cellsOf_size _ _
theorem cells_size (m : Mm) : m.cells.size = 136 := cellsOf_size _ _
end Go.Proofs.YtlflihegadjpdaaDoor

/- The place of a device, counted round, on both sides. Helper text: no statement is claimed here. -/
namespace Go.Proofs.YtlflihegadjpdaaDoor
open Go.ChangeShapes Go.WideShapes Go.ChangeAt Go.RowKit

/-- How many there are to count round by. -/
def sz4 (k : Int) : Int := if k = 6 then 8 else rN (kz k)
/-- The place. -/
def plc (k n : Int) : Int := if sz4 k = 0 then 0 else n % sz4 k
theorem sz4_cases (k : Int) : sz4 k = 0 ∨ sz4 k = 8 ∨ sz4 k = 16 ∨ sz4 k = 32 ∨ sz4 k = 64 := by
  unfold sz4
  split
  · exact .inr (.inl rfl)
  · rename_i h6
    unfold kz
    split
    · rename_i h
      have : k = 1 ∨ k = 2 ∨ k = 3 ∨ k = 4 ∨ k = 5 ∨ k = 7 ∨ k = 8 ∨ k = 9 ∨ k = 10 ∨ k = 11 ∨ k = 12 ∨ k = 13 := by omega
      rcases this with rfl | rfl | rfl | rfl | rfl | rfl | rfl | rfl | rfl | rfl | rfl | rfl <;> decide
    · exact .inl rfl
theorem plc_range (k n : Int) : 0 ≤ plc k n ∧ (plc k n < sz4 k ∨ plc k n = 0) := by
  unfold plc
  rcases sz4_cases k with h | h | h | h | h <;> rw [h]
  · simp
  all_goals
    rw [if_neg (by decide)]
    omega
theorem wrap_small {x : Int} (h0 : -9223372036854775808 ≤ x) (h1 : x ≤ 9223372036854775807) : IntKind.i64.wrap x = x := by
  rw [IntKind.wrap_i64]; omega
theorem tmod_neg {n s : Int} (hs : 0 < s) (h : n.tmod s < 0) : n.tmod s + s = n % s := by
  have h1 := Int.tmod_eq_emod (a := n) (b := s)
  have h2 := Int.emod_nonneg n (show s ≠ 0 by omega)
  have h3 := Int.emod_lt_of_pos n hs
  split at h1
  · omega
  · have : (s.natAbs : Int) = s := by omega
    omega
theorem tmod_pos {n s : Int} (hs : 0 < s) (h : ¬ n.tmod s < 0) : n.tmod s = n % s := by
  have h1 := Int.tmod_eq_emod (a := n) (b := s)
  have h2 := Int.emod_nonneg n (show s ≠ 0 by omega)
  have h3 := Int.emod_lt_of_pos n hs
  split at h1
  · omega
  · have : (s.natAbs : Int) = s := by omega
    omega
theorem tmod_small {n s : Int} (hs : 0 < s) : -s ≤ n.tmod s ∧ n.tmod s < s := by
  have h2 := Int.emod_nonneg n (show s ≠ 0 by omega)
  have h3 := Int.emod_lt_of_pos n hs
  by_cases h : n.tmod s < 0
  · have := tmod_neg hs h
    omega
  · have := tmod_pos hs h
    omega

theorem plc_s (k : Int) (h6 : ¬ k = 6) : rN (kz k) = 0 ∨ rN (kz k) = 16 ∨ rN (kz k) = 32 ∨ rN (kz k) = 64 := by
  unfold kz
  split
  · rename_i h
    have : k = 1 ∨ k = 2 ∨ k = 3 ∨ k = 4 ∨ k = 5 ∨ k = 7 ∨ k = 8 ∨ k = 9 ∨ k = 10 ∨ k = 11 ∨ k = 12 ∨ k = 13 := by omega
    rcases this with rfl | rfl | rfl | rfl | rfl | rfl | rfl | rfl | rfl | rfl | rfl | rfl <;> decide
  · exact .inl rfl
set_option maxHeartbeats 1000000 in
theorem place_any (k n p : Int) (w : World) (hT : DevTab w) :
    Calls Tryd.prog 63 #[.agg #[.int .i64 k, .int .i64 n, .int .i64 p]] w fun e w' => e = .returned (.int .i64 (plc k n)) ∧ Below w.heap.size w w' := by
  have HT : Hid (DevTab w) := hT
  clear hT
  go_enter Tryd.func63, Tryd.ntmps63
  go_wp2_with fail
  refine (size_any k _ (HT.out.alloc _)).mono ?_
  rintro e w1 ⟨rfl, hb1⟩
  have HB1 : Hid (Below w.heap.size w w1) := of_one hb1
  have c0 : w1.cell? ⟨w.heap.size, 0, none⟩ = some (.int .i64 k) := (hb1.cell (p := ⟨w.heap.size, 0, none⟩) (by simp)).trans (by rw [World.cell?_alloc_mark]; rfl)
  have c1 : w1.cell? ⟨w.heap.size, 1, none⟩ = some (.int .i64 n) := (hb1.cell (p := ⟨w.heap.size, 1, none⟩) (by simp)).trans (by rw [World.cell?_alloc_mark]; rfl)
  clear hb1
  by_cases h6 : k = 6
  · subst h6
    have hs : (0 : Int) < 8 := by decide
    have hsm := tmod_small (n := n) hs
    have hwr : IntKind.i64.wrap (n.tmod 8) = n.tmod 8 := wrap_small (by omega) (by omega)
    by_cases hn : n.tmod 8 < 0
    · have hw2 : IntKind.i64.wrap (n.tmod 8 + 8) = n.tmod 8 + 8 := wrap_small (by omega) (by omega)
      have HE : Hid (n.tmod 8 + 8 = n % 8) := tmod_neg hs hn
      go_wp2
      go_ret
      refine ⟨?_, HB1.out⟩
      rw [show plc 6 n = n % 8 from rfl, ← HE.out]
      rfl
    · have HE : Hid (n.tmod 8 = n % 8) := tmod_pos hs hn
      go_wp2
      go_ret
      refine ⟨?_, HB1.out⟩
      rw [show plc 6 n = n % 8 from rfl, ← HE.out]
      rfl
  · have hk : (k == 6) = false := by simpa using h6
    have hr : sz4 k = rN (kz k) := if_neg h6
    have HP : Hid (plc k n = if sz4 k = 0 then 0 else n % sz4 k) := rfl
    rw [hr] at HP
    rcases plc_s k h6 with h | h | h | h
    · rw [h] at HP ⊢
      clear hr h
      go_wp2
      go_ret
      exact ⟨by rw [show plc k n = 0 from HP.out]; rfl, HB1.out⟩
    · rw [h] at HP ⊢
      clear hr h
      have hs : (0 : Int) < 16 := by decide
      have hsm := tmod_small (n := n) hs
      have hwr : IntKind.i64.wrap (n.tmod 16) = n.tmod 16 := wrap_small (by omega) (by omega)
      by_cases hn : n.tmod 16 < 0
      · have hw2 : IntKind.i64.wrap (n.tmod 16 + 16) = n.tmod 16 + 16 := wrap_small (by omega) (by omega)
        have HE : Hid (n.tmod 16 + 16 = n % 16) := tmod_neg hs hn
        go_wp2
        go_ret
        refine ⟨?_, HB1.out⟩
        rw [show plc k n = n % 16 from HP.out, ← HE.out]
        rfl
      · have HE : Hid (n.tmod 16 = n % 16) := tmod_pos hs hn
        go_wp2
        go_ret
        refine ⟨?_, HB1.out⟩
        rw [show plc k n = n % 16 from HP.out, ← HE.out]
        rfl
    · rw [h] at HP ⊢
      clear hr h
      have hs : (0 : Int) < 32 := by decide
      have hsm := tmod_small (n := n) hs
      have hwr : IntKind.i64.wrap (n.tmod 32) = n.tmod 32 := wrap_small (by omega) (by omega)
      by_cases hn : n.tmod 32 < 0
      · have hw2 : IntKind.i64.wrap (n.tmod 32 + 32) = n.tmod 32 + 32 := wrap_small (by omega) (by omega)
        have HE : Hid (n.tmod 32 + 32 = n % 32) := tmod_neg hs hn
        go_wp2
        go_ret
        refine ⟨?_, HB1.out⟩
        rw [show plc k n = n % 32 from HP.out, ← HE.out]
        rfl
      · have HE : Hid (n.tmod 32 = n % 32) := tmod_pos hs hn
        go_wp2
        go_ret
        refine ⟨?_, HB1.out⟩
        rw [show plc k n = n % 32 from HP.out, ← HE.out]
        rfl
    · rw [h] at HP ⊢
      clear hr h
      have hs : (0 : Int) < 64 := by decide
      have hsm := tmod_small (n := n) hs
      have hwr : IntKind.i64.wrap (n.tmod 64) = n.tmod 64 := wrap_small (by omega) (by omega)
      by_cases hn : n.tmod 64 < 0
      · have hw2 : IntKind.i64.wrap (n.tmod 64 + 64) = n.tmod 64 + 64 := wrap_small (by omega) (by omega)
        have HE : Hid (n.tmod 64 + 64 = n % 64) := tmod_neg hs hn
        go_wp2
        go_ret
        refine ⟨?_, HB1.out⟩
        rw [show plc k n = n % 64 from HP.out, ← HE.out]
        rfl
      · have HE : Hid (n.tmod 64 = n % 64) := tmod_pos hs hn
        go_wp2
        go_ret
        refine ⟨?_, HB1.out⟩
        rw [show plc k n = n % 64 from HP.out, ← HE.out]
        rfl
end Go.Proofs.YtlflihegadjpdaaDoor
