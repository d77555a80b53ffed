/- The table of devices, as the program's own text lays it, cell for cell; and what devRowOf answers. Helper text: no statement is claimed here. -/
import Derived.Test.YtlflihegadjpdaaDoorRows
import Derived.WalkKit
import Derived.ProofKit
import Derived.LaidMore
import Derived.OpenShut
import Derived.Below
import Derived.Deep.QuietTactic
import Derived.BigQuiet
import Derived.Deep.RegionHeld3
import Derived.WalkSmall
import Derived.Lib.QuietBelow
import Derived.Test.YtlflihegadjpdaaDoorZb
import Derived.Test.YtlflihegadjpdaaDoorJz
import Derived.Test.YtlflihegadjpdaaDoorP35
namespace Go.Proofs.YtlflihegadjpdaaDoor
open Go.ChangeShapes Go.WideShapes Go.ChangeAt Go.RowKit

def rL : Nat → List UInt8
  | 1 => [88] | 2 => [89] | 3 => [77] | 4 => [83] | 5 => [69] | 6 => [71] | 7 => [84] | 8 => [67] | 9 => [68] | 10 => [82] | _ => []
def rN : Nat → Int
  | 1 => 32 | 2 => 32 | 3 => 64 | 4 => 16 | 5 => 32 | 6 => 5 | 7 => 16 | 8 => 16 | 9 => 32 | 10 => 16 | _ => 0
def rB : Nat → Bool
  | 1 => true | 2 => true | 3 => true | 4 => true | 6 => true | 7 => true | 8 => true | _ => false
def rW : Nat → Bool
  | 7 => true | 8 => true | 9 => true | 11 => true | _ => false
def rR : Nat → Bool
  | 10 => true | 12 => true | 13 => true | _ => false

/-- The cells of the table of devices. -/
def DevTab (w : World) : Prop := ∀ i, i < 14 →
  w.cell? ⟨1, i * 5, none⟩ = some (.string ⟨(rL i).toArray⟩) ∧ w.cell? ⟨1, i * 5 + 1, none⟩ = some (.int .i64 (rN i)) ∧
  w.cell? ⟨1, i * 5 + 2, none⟩ = some (.bool (rB i)) ∧ w.cell? ⟨1, i * 5 + 3, none⟩ = some (.bool (rW i)) ∧ w.cell? ⟨1, i * 5 + 4, none⟩ = some (.bool (rR i))

theorem gRows : Tryd.prog.globalNamed (Rows.fnMemSameRow.named.getD 0 "") = some 1 := by kernel_rfl
theorem tRows : (Tryd.prog.globals[1]?).map (·.type) = some 117 := by kernel_rfl
theorem cRow : Tryd.prog.cellsOf 103 = 5 := by kernel_rfl
theorem cRows : Tryd.prog.cellsOf 117 = 70 := by kernel_rfl
theorem cInt : Tryd.prog.cellsOf 3 = 1 := by kernel_rfl
theorem cBool : Tryd.prog.cellsOf 4 = 1 := by kernel_rfl
theorem cStr : Tryd.prog.cellsOf 9 = 1 := by kernel_rfl

theorem five {α : Type} {l : List α} (h : l.length = 5) : ∃ a b c d e, l = [a, b, c, d, e] := by
  match l, h with
  | [a, b, c, d, e], _ => exact ⟨a, b, c, d, e, rfl⟩

theorem rowCells {w : World} {sp : Nat → Bool} {held : Bool} {fuel : Nat} {cs : List Value} {l : List UInt8} {n : Int} {b1 b2 b3 : Bool} {p : List MemPlace}
    (h : DataW.trod (fun _ => ()) Tryd.prog w 0 sp held fuel 103 cs = some (.agg [.lit (.string l), .lit (.int .i64 n), .lit (.bool b1), .lit (.bool b2), .lit (.bool b3)], p)) :
    cs = [.string ⟨l.toArray⟩, .int .i64 n, .bool b1, .bool b2, .bool b3] := by
  obtain ⟨xs, m, rfl, hx, hl, hn, hf⟩ := DataW.trod_struct Tryd.underlying103 h
  simp only [Prod.mk.injEq, DataW.agg.injEq] at hx
  rw [cRow] at hl
  obtain ⟨x0, x1, x2, x3, x4, rfl⟩ := five (show xs.length = 5 from hn)
  obtain ⟨c0, c1, c2, c3, c4, rfl⟩ := five hl
  · skip
    have f0 := hf 0 _ rfl
    have f1 := hf 1 _ rfl
    have f2 := hf 2 _ rfl
    have f3 := hf 3 _ rfl
    have f4 := hf 4 _ rfl
    simp only [List.map_cons, List.map_nil, List.cons.injEq, and_true] at hx
    obtain ⟨⟨e0, e1, e2, e3, e4⟩, _⟩ := hx
    simp [cInt, cStr, cBool] at f0 f1 f2 f3 f4
    obtain ⟨s0, g0, h0, _⟩ := DataW.trod_string Tryd.underlying9 f0
    obtain ⟨n1, g1, h1, _⟩ := DataW.trod_int Tryd.underlying3 f1
    obtain ⟨n2, g2, h2⟩ := DataW.trod_bool Tryd.underlying4 f2
    obtain ⟨n3, g3, h3⟩ := DataW.trod_bool Tryd.underlying4 f3
    obtain ⟨n4, g4, h4⟩ := DataW.trod_bool Tryd.underlying4 f4
    rw [h0] at e0; rw [h1] at e1; rw [h2] at e2; rw [h3] at e3; rw [h4] at e4
    simp only [DataW.lit.injEq, Lit.string.injEq, Lit.int.injEq, Lit.bool.injEq, true_and] at e0 e1 e2 e3 e4
    simp only [List.cons.injEq, and_true] at g0 g1 g2 g3 g4
    subst e0 e1 e2 e3 e4 g0 g1 g2 g3 g4
    simp

def rowD (i : Nat) : DataW Unit := .agg [.lit (.string (rL i)), .lit (.int .i64 (rN i)), .lit (.bool (rB i)), .lit (.bool (rW i)), .lit (.bool (rR i))]
def rowsD : List (DataW Unit) := [rowD 0, rowD 1, rowD 2, rowD 3, rowD 4, rowD 5, rowD 6, rowD 7, rowD 8, rowD 9, rowD 10, rowD 11, rowD 12, rowD 13]
theorem rowsD_at (i : Nat) (h : i < 14) : rowsD[i]? = some (rowD i) := by
  have : i = 0 ∨ i = 1 ∨ i = 2 ∨ i = 3 ∨ i = 4 ∨ i = 5 ∨ i = 6 ∨ i = 7 ∨ i = 8 ∨ i = 9 ∨ i = 10 ∨ i = 11 ∨ i = 12 ∨ i = 13 := by omega
  rcases this with rfl | rfl | rfl | rfl | rfl | rfl | rfl | rfl | rfl | rfl | rfl | rfl | rfl | rfl <;> rfl
theorem laid_rowsD : (Rows.laid_loop_example_stilscan_impl_devRows : DataW Unit) = .agg rowsD := rfl

theorem devTab_of {W : World} {sp : Nat → Bool} {held : Bool} {cs : Array Value} {fuel : Nat} {p : List MemPlace}
    (hv : W.var? Tryd.prog (Rows.fnMemSameRow.named.getD 0 "") = some cs)
    (hd : DataW.trod (fun _ => ()) Tryd.prog W 0 sp held fuel 117 cs.toList = some (Rows.laid_loop_example_stilscan_impl_devRows, p)) : DevTab W := by
  rw [laid_rowsD] at hd
  obtain ⟨xs, m, rfl, hx, hl, hn, hel⟩ := DataW.trod_array Tryd.underlying117 hd
  simp only [Prod.mk.injEq, DataW.agg.injEq] at hx
  intro i hi
  have h1 := hel i hi
  have h2 := rowsD_at i hi
  rw [hx.1, List.getElem?_map] at h2
  obtain ⟨x, hx1, hx2⟩ := Option.map_eq_some_iff.1 h2
  rw [hx1, cRow] at h1
  have h3 := rowCells (p := x.2) (h1.trans (by rw [show x = (x.1, x.2) from rfl, hx2]; rfl))
  have at_ : ∀ j, j < 5 → cs[i * 5 + j]? = ((cs.toList.drop (i * 5)).take 5)[j]? := by
    intro j hj
    simp [hj]
  have hc := World.var?_cell gRows hv
  have a0 := at_ 0 (by omega)
  have a1 := at_ 1 (by omega)
  have a2 := at_ 2 (by omega)
  have a3 := at_ 3 (by omega)
  have a4 := at_ 4 (by omega)
  rw [h3] at a0 a1 a2 a3 a4
  refine ⟨?_, ?_, ?_, ?_, ?_⟩
  · rw [hc]; simpa using a0
  · rw [hc]; simpa using a1
  · rw [hc]; simpa using a2
  · rw [hc]; simpa using a3
  · rw [hc]; simpa using a4

theorem DevTab.below {w w' : World} (h : DevTab w) (hb : Below w.heap.size w w') (hs : 1 < w.heap.size) : DevTab w' := fun i hi => by
  have := h i hi
  simp only [hb.cell (p := ⟨1, _, none⟩) hs]
  exact this
end Go.Proofs.YtlflihegadjpdaaDoor

/- What the program's functions on operands answer. Helper text: no statement is claimed here. -/
namespace Go.Proofs.YtlflihegadjpdaaDoor
open Go.ChangeShapes Go.WideShapes Go.ChangeAt Go.RowKit

theorem DevTab.lt {w : World} (h : DevTab w) : 1 < w.heap.size := World.block_lt_of_cell? w ⟨1, _, none⟩ (h 0 (by omega)).1
theorem DevTab.to {w w' : World} (h : DevTab w) (hb : Below w.heap.size w w') : DevTab w' := h.below hb h.lt
theorem DevTab.alloc {w : World} (h : DevTab w) (o : Obj) : DevTab (w.alloc o) := h.to ((Below.refl _ _).alloc (Nat.le_refl _) o)
theorem DevTab.drew {w : World} (h : DevTab w) : DevTab w.drew := h.to (Below.refl _ _).drew
theorem bcell {W w1 : World} (hb : Below W.heap.size W w1) : (∀ b o, b < W.heap.size → w1.cell? ⟨b, o, none⟩ = W.cell? ⟨b, o, none⟩) ∧ (∀ b o, b < W.heap.size → w1.frozen? ⟨b, o, none⟩ = W.frozen? ⟨b, o, none⟩) :=
  ⟨fun b o h => hb.cell (p := ⟨b, o, none⟩) h, fun b o h => hb.frozen (p := ⟨b, o, none⟩) h⟩
theorem ret_bool {a b : Bool} (h : a = b) : Ending.returned (.bool a) = .returned (.bool b) := by rw [h]

def kz (k : Int) : Nat := if 1 ≤ k ∧ k ≤ 13 then k.toNat else 0
theorem kz_nat (i : Nat) (h1 : 1 ≤ i) (h2 : i ≤ 13) : kz (i : Int) = i := by unfold kz; rw [if_pos (by omega)]; omega
theorem kz_no (k : Int) (h : k < 1 ∨ 13 < k) : kz k = 0 := by unfold kz; rw [if_neg (by omega)]
def rowV (k : Int) : Value := .agg #[.string ⟨(rL (kz k)).toArray⟩, .int .i64 (rN (kz k)), .bool (rB (kz k)), .bool (rW (kz k)), .bool (rR (kz k))]

set_option maxHeartbeats 400000 in
theorem rowOf_no (k : Int) (w : World) (h : k < 1 ∨ 13 < k) :
    Calls Tryd.prog 62 #[.int .i64 k] w fun e w' => e = .returned (.agg #[.string ⟨#[]⟩, .int .i64 0, .bool false, .bool false, .bool false]) ∧ Below w.heap.size w w' := by
  rcases h with h | h
  · go_enter Tryd.func62, Tryd.ntmps62
    go_wp2
    exact bodyPost_ret (v := .agg #[.string ⟨#[]⟩, .int .i64 0, .bool false, .bool false, .bool false]) (by simp [results, Tryd.results62, go_sem]) rfl ⟨rfl, (Below.refl _ _).alloc (Nat.le_refl _) _⟩
  · have h' : ¬ k < 1 := by omega
    go_enter Tryd.func62, Tryd.ntmps62
    go_wp2
    exact bodyPost_ret (v := .agg #[.string ⟨#[]⟩, .int .i64 0, .bool false, .bool false, .bool false]) (by simp [results, Tryd.results62, go_sem]) rfl ⟨rfl, (Below.refl _ _).alloc (Nat.le_refl _) _⟩

set_option maxHeartbeats 400000 in
theorem rowOf_yes (i : Nat) (w : World) (h1 : 1 ≤ i) (h2 : i ≤ 13) (hT : DevTab w) :
    Calls Tryd.prog 62 #[.int .i64 (i : Int)] w fun e w' => e = .returned (.agg #[.string ⟨(rL i).toArray⟩, .int .i64 (rN i), .bool (rB i), .bool (rW i), .bool (rR i)]) ∧ Below w.heap.size w w' := by
  obtain ⟨t0, t1, t2, t3, t4⟩ := hT i (by omega)
  have a : ¬ (i : Int) < 1 := by omega
  have b : ¬ (13 : Int) < i := by omega
  have hs : 1 < w.heap.size := hT.lt
  clear hT
  go_enter Tryd.func62, Tryd.ntmps62
  go_wp2
  exact bodyPost_ret (v := .agg #[.string ⟨(rL i).toArray⟩, .int .i64 (rN i), .bool (rB i), .bool (rW i), .bool (rR i)]) (by simp [results, Tryd.results62, go_sem]) rfl ⟨rfl, (Below.refl _ _).alloc (Nat.le_refl _) _⟩

theorem rowOf_any (k : Int) (w : World) (hT : DevTab w) :
    Calls Tryd.prog 62 #[.int .i64 k] w fun e w' => e = .returned (.agg #[.string ⟨(rL (kz k)).toArray⟩, .int .i64 (rN (kz k)), .bool (rB (kz k)), .bool (rW (kz k)), .bool (rR (kz k))]) ∧ Below w.heap.size w w' := by
  by_cases h : k < 1 ∨ 13 < k
  · rw [kz_no k h]; exact rowOf_no k w h
  · obtain ⟨i, rfl⟩ := Int.eq_ofNat_of_zero_le (show 0 ≤ k by omega)
    rw [kz_nat i (by omega) (by omega)]; exact rowOf_yes i w (by omega) (by omega) hT

theorem field_0 (a b c d e : Value) (w : World) : Sem.run Tryd.prog (Instr.field 103 (.agg #[a, b, c, d, e]) 0) w = .ok a w := by kernel_rfl
theorem field_1 (a b c d e : Value) (w : World) : Sem.run Tryd.prog (Instr.field 103 (.agg #[a, b, c, d, e]) 1) w = .ok b w := by kernel_rfl
theorem field_2 (a b c d e : Value) (w : World) : Sem.run Tryd.prog (Instr.field 103 (.agg #[a, b, c, d, e]) 2) w = .ok c w := by kernel_rfl
theorem field_3 (a b c d e : Value) (w : World) : Sem.run Tryd.prog (Instr.field 103 (.agg #[a, b, c, d, e]) 3) w = .ok d w := by kernel_rfl
theorem field_4 (a b c d e : Value) (w : World) : Sem.run Tryd.prog (Instr.field 103 (.agg #[a, b, c, d, e]) 4) w = .ok e w := by kernel_rfl
attribute [local go_sem] field_0 field_1 field_2 field_3 field_4

set_option maxHeartbeats 400000 in
theorem size_any (k : Int) (w : World) (hT : DevTab w) :
    Calls Tryd.prog 41 #[.int .i64 k] w fun e w' => e = .returned (.int .i64 (rN (kz k))) ∧ Below w.heap.size w w' := by
  go_enter Tryd.func41, Tryd.ntmps41
  go_wp2_with fail
  refine (rowOf_any _ _ hT).mono ?_
  rintro e w' ⟨rfl, hb⟩
  go_wp2
  go_ret
  exact ⟨rfl, hb⟩

def decOk (n p : Int) : Bool := decide (-999999999 ≤ n ∧ n ≤ 999999999 ∧ 1 ≤ p ∧ p ≤ 6 ∧ (p = 1 ∨ n.tmod 10 ≠ 0))

set_option maxHeartbeats 400000 in
theorem decOk_any (n p : Int) (w : World) :
    Calls Tryd.prog 79 #[.int .i64 n, .int .i64 p] w fun e w' => e = .returned (.bool (decOk n p)) ∧ w' = w := by
  by_cases h1 : n < -999999999
  · go_enter Tryd.func79, Tryd.ntmps79
    go_wp2
    go_ret
    exact ⟨ret_bool (by simp [decOk]; omega), rfl⟩
  by_cases h2 : 999999999 < n
  · go_enter Tryd.func79, Tryd.ntmps79
    go_wp2
    go_ret
    exact ⟨ret_bool (by simp [decOk]; omega), rfl⟩
  by_cases h3 : p < 1
  · go_enter Tryd.func79, Tryd.ntmps79
    go_wp2
    go_ret
    exact ⟨ret_bool (by simp [decOk]; omega), rfl⟩
  by_cases h4 : 6 < p
  · go_enter Tryd.func79, Tryd.ntmps79
    go_wp2
    go_ret
    exact ⟨ret_bool (by simp [decOk]; omega), rfl⟩
  by_cases h5 : p = 1
  · subst h5
    go_enter Tryd.func79, Tryd.ntmps79
    go_wp2
    go_ret
    exact ⟨ret_bool (by simp [decOk]; omega), rfl⟩
  · have h5' : (p == 1) = false := by simpa using h5
    clear h5
    go_enter Tryd.func79, Tryd.ntmps79
    go_wp2
    go_ret
    have h5 : p ≠ 1 := by simpa using h5'
    exact ⟨ret_bool (by by_cases h6 : n.tmod 10 = 0 <;> simp [decOk, h1, h2, h3, h4, h5, h6]), rfl⟩
end Go.Proofs.YtlflihegadjpdaaDoor

/- DevOk, the program's and the document's. Helper text: no statement is claimed here. -/
namespace Go.Proofs.YtlflihegadjpdaaDoor
open Go.ChangeShapes Go.WideShapes Go.ChangeAt Go.RowKit

def okB (k n p : Int) : Bool := decide ((k = 11 ∧ -32768 ≤ n ∧ n ≤ 32767 ∧ p = 0) ∨ (k = 12 ∧ decOk n p = true) ∨ (k = 13 ∧ 0 ≤ n ∧ n < 4 ∧ p = 0) ∨ (k ≠ 11 ∧ k ≠ 12 ∧ k ≠ 13 ∧ 0 ≤ n ∧ n < rN (kz k) ∧ p = 0))
theorem okB_11 (n p : Int) : okB 11 n p = decide (-32768 ≤ n ∧ n ≤ 32767 ∧ p = 0) := by simp [okB]
theorem okB_12 (n p : Int) : okB 12 n p = decOk n p := by simp [okB]
theorem okB_13 (n p : Int) : okB 13 n p = decide (0 ≤ n ∧ n < 4 ∧ p = 0) := by simp [okB]
theorem okB_dev (k n p : Int) (h1 : k ≠ 11) (h2 : k ≠ 12) (h3 : k ≠ 13) : okB k n p = decide (0 ≤ n ∧ n < rN (kz k) ∧ p = 0) := by simp [okB, h1, h2, h3]
theorem rN_bd (i : Nat) : 0 ≤ rN i ∧ rN i ≤ 64 := by unfold rN; split <;> omega

theorem one (w : World) (o : Obj) : Below w.heap.size w (w.alloc o) := (Below.refl _ _).alloc (Nat.le_refl _) _

set_option maxHeartbeats 400000 in
theorem devOk_11 (n p : Int) (w : World) :
    Calls Tryd.prog 66 #[.agg #[.int .i64 11, .int .i64 n, .int .i64 p]] w fun e w' => e = .returned (.bool (okB 11 n p)) ∧ Below w.heap.size w w' := by
  rw [okB_11]
  go_enter Tryd.func66, Tryd.ntmps66
  go_wp2
  all_goals go_ret
  all_goals exact ⟨ret_bool (by rw [Bool.eq_iff_iff]; simp <;> omega), one _ _⟩

set_option maxHeartbeats 400000 in
theorem devOk_12 (n p : Int) (w : World) :
    Calls Tryd.prog 66 #[.agg #[.int .i64 12, .int .i64 n, .int .i64 p]] w fun e w' => e = .returned (.bool (okB 12 n p)) ∧ Below w.heap.size w w' := by
  rw [okB_12]
  go_enter Tryd.func66, Tryd.ntmps66
  go_wp2_with fail
  refine (decOk_any _ _ _).mono ?_
  rintro e w' ⟨rfl, rfl⟩
  go_wp2
  go_ret
  exact ⟨rfl, one _ _⟩

set_option maxHeartbeats 400000 in
theorem devOk_13 (n p : Int) (w : World) :
    Calls Tryd.prog 66 #[.agg #[.int .i64 13, .int .i64 n, .int .i64 p]] w fun e w' => e = .returned (.bool (okB 13 n p)) ∧ Below w.heap.size w w' := by
  rw [okB_13]
  go_enter Tryd.func66, Tryd.ntmps66
  go_wp2
  all_goals go_ret
  all_goals exact ⟨ret_bool (by rw [Bool.eq_iff_iff]; simp <;> omega), one _ _⟩

set_option maxHeartbeats 400000 in
theorem devOk_dev0 (k n p : Int) (w : World) (h1 : (k == 11) = false) (h2 : (k == 12) = false) (h3 : (k == 13) = false) (hn : n < 0) :
    Calls Tryd.prog 66 #[.agg #[.int .i64 k, .int .i64 n, .int .i64 p]] w fun e w' => e = .returned (.bool false) ∧ Below w.heap.size w w' := by
  have hd : decide (0 ≤ n) = false := by simp; omega
  go_enter Tryd.func66, Tryd.ntmps66
  go_wp2
  go_quiet (fail)
  go_wp2
  go_ret
  exact ⟨rfl, below_drewN (one _ _) _⟩
abbrev argO (k n p : Int) : Obj := .cells #[.int .i64 k, .int .i64 n, .int .i64 p] 58
theorem arg_at (k n p : Int) (w : World) : (w.alloc (argO k n p)).cell? ⟨w.heap.size, 0, none⟩ = some (.int .i64 k) ∧ (w.alloc (argO k n p)).cell? ⟨w.heap.size, 1, none⟩ = some (.int .i64 n) ∧ (w.alloc (argO k n p)).cell? ⟨w.heap.size, 2, none⟩ = some (.int .i64 p) := by
  refine ⟨?_, ?_, ?_⟩ <;> simp [go_sem]
theorem size_grown {k n p : Int} {w : World} (hT : DevTab w) (d : Nat) (os : Array Obj) :
    Calls Tryd.prog 41 #[.int .i64 k] (Sort.grow (redrawn (w.alloc (argO k n p)) d) os) fun e w'' => e = .returned (.int .i64 (rN (kz k))) ∧ ∃ p' : Regrown, w'' = Sort.grow (redrawn (w.alloc (argO k n p)) p'.d) p'.os :=
  Calls.regrown_of (size_any _ _ ((hT.alloc _).to (below_regrown _ d os)))

set_option maxHeartbeats 400000 in
theorem devOk_dev1 (k n p : Int) (w : World) (hT : DevTab w) (h1 : (k == 11) = false) (h2 : (k == 12) = false) (h3 : (k == 13) = false) (hn : 0 ≤ n) (hl : n < rN (kz k)) :
    Calls Tryd.prog 66 #[.agg #[.int .i64 k, .int .i64 n, .int .i64 p]] w fun e w' => e = .returned (.bool (p == 0)) ∧ Below w.heap.size w w' := by
  have hb := rN_bd (kz k)
  obtain ⟨c0, c1, c2⟩ := arg_at k n p w
  have k0 := cell_regrown c0
  have k1 := cell_regrown c1
  have k2 := cell_regrown c2
  clear c0 c1 c2
  go_enter Tryd.func66, Tryd.ntmps66
  go_wp2
  refine wp_region_quiet_below (by kernel_rfl) (by kernel_rfl) ?_
  repeat (first | go_big_quiet_step (exact size_grown hT _ _) | quiet_step (exact size_grown hT _ _))
  refine wpQuiet_nil ?_
  intro _ hw'
  obtain ⟨⟨dq, osq⟩, hw''⟩ := hw'
  subst hw''
  go_wp2
  go_ret
  exact ⟨rfl, (one _ _).trans ((below_regrown _ dq osq).mono (by simp))⟩
set_option maxHeartbeats 400000 in
theorem devOk_dev2 (k n p : Int) (w : World) (hT : DevTab w) (h1 : (k == 11) = false) (h2 : (k == 12) = false) (h3 : (k == 13) = false) (hn : 0 ≤ n) (hl : rN (kz k) ≤ n) :
    Calls Tryd.prog 66 #[.agg #[.int .i64 k, .int .i64 n, .int .i64 p]] w fun e w' => e = .returned (.bool false) ∧ Below w.heap.size w w' := by
  have hb := rN_bd (kz k)
  have hd : decide (n < rN (kz k)) = false := by simp; omega
  obtain ⟨c0, c1, c2⟩ := arg_at k n p w
  have k0 := cell_regrown c0
  have k1 := cell_regrown c1
  have k2 := cell_regrown c2
  clear c0 c1 c2
  go_enter Tryd.func66, Tryd.ntmps66
  go_wp2
  refine wp_region_quiet_below (by kernel_rfl) (by kernel_rfl) ?_
  repeat (first | go_big_quiet_step (exact size_grown hT _ _) | quiet_step (exact size_grown hT _ _))
  refine wpQuiet_nil ?_
  intro _ hw'
  obtain ⟨⟨dq, osq⟩, hw''⟩ := hw'
  subst hw''
  go_wp2
  go_ret
  exact ⟨rfl, (one _ _).trans ((below_regrown _ dq osq).mono (by simp))⟩

theorem of_one {w w1 : World} {o : Obj} (h : Below (w.alloc o).heap.size (w.alloc o) w1) : Below w.heap.size w w1 := (one w o).trans (h.mono (by simp))
theorem of_two {w w1 w2 : World} {o : Obj} (h : Below (w.alloc o).heap.size (w.alloc o) w1) (h2 : Below w1.heap.size w1 w2) : Below w.heap.size w w2 := (of_one h).trans (h2.mono (of_one h).size)

theorem devOk_any (k n p : Int) (w : World) (hT : DevTab w) :
    Calls Tryd.prog 66 #[.agg #[.int .i64 k, .int .i64 n, .int .i64 p]] w fun e w' => e = .returned (.bool (okB k n p)) ∧ Below w.heap.size w w' := by
  by_cases h1 : k = 11
  · subst h1; exact devOk_11 n p w
  by_cases h2 : k = 12
  · subst h2; exact devOk_12 n p w
  by_cases h3 : k = 13
  · subst h3; exact devOk_13 n p w
  rw [okB_dev k n p h1 h2 h3]
  have e1 : (k == 11) = false := by simpa using h1
  have e2 : (k == 12) = false := by simpa using h2
  have e3 : (k == 13) = false := by simpa using h3
  by_cases hn : n < 0
  · rw [show decide (0 ≤ n ∧ n < rN (kz k) ∧ p = 0) = false by simp; omega]
    exact devOk_dev0 k n p w e1 e2 e3 hn
  by_cases hl : n < rN (kz k)
  · rw [show decide (0 ≤ n ∧ n < rN (kz k) ∧ p = 0) = (p == 0) by rw [Bool.eq_iff_iff]; simp; omega]
    exact devOk_dev1 k n p w hT e1 e2 e3 (by omega) hl
  · rw [show decide (0 ≤ n ∧ n < rN (kz k) ∧ p = 0) = false by simp; omega]
    exact devOk_dev2 k n p w hT e1 e2 e3 (by omega) (by omega)
end Go.Proofs.YtlflihegadjpdaaDoor

/- An operand in memory of the call's own. Helper text: no statement is claimed here. -/
namespace Go.Proofs.YtlflihegadjpdaaDoor
open Go.ChangeShapes Go.WideShapes Go.ChangeAt Go.RowKit

/-- A result of type DevArg that lies in memory. -/
theorem resArg {fn : Func} {W : World} {b p : Nat} {tmps : Array Value} {x y z : Value} (h : fn.results = #[.cell p 58]) (hp : tmps.getD p undef = .pointer (some ⟨b, 0, none⟩))
    (hc : W.cell? ⟨b, 0, none⟩ = some x ∧ W.cell? ⟨b, 1, none⟩ = some y ∧ W.cell? ⟨b, 2, none⟩ = some z) : (results fn tmps).run Tryd.prog W = .ok (.agg #[x, y, z]) W := by
  obtain ⟨h0, h1, h2⟩ := hc
  simp only [results, h]
  simp [go_sem]
  rw [show tmps[p]?.getD undef = .pointer (some ⟨b, 0, none⟩) by simpa [Array.getD_eq_getD_getElem?] using hp]
  simp [go_sem, h0, h1, h2]
theorem put3 {w1 : World} {b : Nat} {x y z u0 u1 u2 : Value} (hc : w1.cell? ⟨b, 0, none⟩ = some u0 ∧ w1.cell? ⟨b, 1, none⟩ = some u1 ∧ w1.cell? ⟨b, 2, none⟩ = some u2) :
    (((w1.setCell ⟨b, 0, none⟩ x).setCell ⟨b, 1, none⟩ y).setCell ⟨b, 2, none⟩ z).cell? ⟨b, 0, none⟩ = some x ∧ (((w1.setCell ⟨b, 0, none⟩ x).setCell ⟨b, 1, none⟩ y).setCell ⟨b, 2, none⟩ z).cell? ⟨b, 1, none⟩ = some y ∧ (((w1.setCell ⟨b, 0, none⟩ x).setCell ⟨b, 1, none⟩ y).setCell ⟨b, 2, none⟩ z).cell? ⟨b, 2, none⟩ = some z := by
  obtain ⟨h0, h1, h2⟩ := hc
  have e1 : (w1.setCell ⟨b, 0, none⟩ x).cell? ⟨b, 1, none⟩ = some u1 := by rw [World.cell?_setCell_other _ _ _ _ (by simp)]; exact h1
  have e2 : ((w1.setCell ⟨b, 0, none⟩ x).setCell ⟨b, 1, none⟩ y).cell? ⟨b, 2, none⟩ = some u2 := by rw [World.cell?_setCell_other _ _ _ _ (by simp), World.cell?_setCell_other _ _ _ _ (by simp)]; exact h2
  refine ⟨?_, ?_, World.cell?_setCell_same _ _ _ e2⟩
  · rw [World.cell?_setCell_other _ _ _ _ (by simp), World.cell?_setCell_other _ _ _ _ (by simp)]; exact World.cell?_setCell_same _ _ _ h0
  · rw [World.cell?_setCell_other _ _ _ _ (by simp)]; exact World.cell?_setCell_same _ _ _ e1
/-- A DevArg of the call's own lies in block b. -/
def Own (w : World) (b : Nat) (x y z : Value) : Prop :=
  (w.cell? ⟨b, 0, none⟩ = some x ∧ w.cell? ⟨b, 1, none⟩ = some y ∧ w.cell? ⟨b, 2, none⟩ = some z) ∧ w.frozen? ⟨b, 0, none⟩ = false ∧ w.frozen? ⟨b, 1, none⟩ = false ∧ w.frozen? ⟨b, 2, none⟩ = false
theorem Own.new (w : World) (x y z : Value) : Own (w.alloc (.cells #[x, y, z] 58)) w.heap.size x y z := by
  refine ⟨⟨?_, ?_, ?_⟩, ?_, ?_, ?_⟩ <;> simp [go_sem]
theorem Own.lt {w : World} {b : Nat} {x y z : Value} (h : Own w b x y z) : b < w.heap.size := World.block_lt_of_cell? w ⟨b, 0, none⟩ h.1.1
theorem Own.below {w w' : World} {b : Nat} {x y z : Value} (h : Own w b x y z) (hb : Below w.heap.size w w') : Own w' b x y z := by
  have hlt := h.lt
  unfold Own
  rw [hb.cell (p := ⟨b, 0, none⟩) hlt, hb.cell (p := ⟨b, 1, none⟩) hlt, hb.cell (p := ⟨b, 2, none⟩) hlt, hb.frozen (p := ⟨b, 0, none⟩) hlt, hb.frozen (p := ⟨b, 1, none⟩) hlt, hb.frozen (p := ⟨b, 2, none⟩) hlt]
  exact h
theorem Own.alloc {b : Nat} {w : World} {x y z : Value} (h : Own w b x y z) (o : Obj) : Own (w.alloc o) b x y z := h.below (one w o)
theorem Own.put {w : World} {b : Nat} {x y z : Value} (h : Own w b x y z) (x' y' z' : Value) : Own (((w.setCell ⟨b, 0, none⟩ x').setCell ⟨b, 1, none⟩ y').setCell ⟨b, 2, none⟩ z') b x' y' z' :=
  ⟨put3 h.1, by rw [World.frozen?_setCell, World.frozen?_setCell, World.frozen?_setCell]; exact h.2.1, by rw [World.frozen?_setCell, World.frozen?_setCell, World.frozen?_setCell]; exact h.2.2.1, by rw [World.frozen?_setCell, World.frozen?_setCell, World.frozen?_setCell]; exact h.2.2.2⟩
theorem Own.set {w : World} {b c i : Nat} {x y z v : Value} (h : Own w b x y z) (hc : c ≠ b) : Own (w.setCell ⟨c, i, none⟩ v) b x y z := by
  unfold Own
  rw [World.cell?_setCell_other w ⟨c, i, none⟩ ⟨b, 0, none⟩ _ (by simp <;> omega), World.cell?_setCell_other w ⟨c, i, none⟩ ⟨b, 1, none⟩ _ (by simp <;> omega), World.cell?_setCell_other w ⟨c, i, none⟩ ⟨b, 2, none⟩ _ (by simp <;> omega), World.frozen?_setCell, World.frozen?_setCell, World.frozen?_setCell]
  exact h
end Go.Proofs.YtlflihegadjpdaaDoor

/- A memory that is drawn, in a region that draws its order. Helper text: no statement is claimed here. -/
namespace Go.Proofs.YtlflihegadjpdaaDoor
open Go.ChangeShapes Go.WideShapes Go.ChangeAt Go.RowKit

theorem Rd.drewZ {w : World} {rb m : Nat} (h : Rd w rb m) : Rd w.drew rb m := h.to (Below.refl _ _).drew
theorem Step.drewZ (rb : Nat) (w : World) : Step rb w w.drew := .of (Below.refl _ _).drew
theorem runMem {W : World} {b : Nat} {m : Mm} (h : MemAt W b m) : (loadVar 37 ⟨b, 0, none⟩).run Tryd.prog W = .ok m.val W := by
  have := run_loadVar_mid (P := Tryd.prog) W b 0 37 m.cells.toList _ h.range Tryd.underlying37 rfl (by rw [Array.length_toList, cells_size]; kernel_rfl)
  rwa [Array.toArray_toList] at this
theorem Own.byBlock {w w2 : World} {b : Nat} {x y z : Value} (h : Own w b x y z) (e : w2.heap[b]? = w.heap[b]?) : Own w2 b x y z := by
  unfold Own
  rw [World.cell?_of_block (w := w) (a := ⟨b, 0, none⟩) e, World.cell?_of_block (w := w) (a := ⟨b, 1, none⟩) e, World.cell?_of_block (w := w) (a := ⟨b, 2, none⟩) e, World.frozen?_of_block (w := w) (a := ⟨b, 0, none⟩) e, World.frozen?_of_block (w := w) (a := ⟨b, 1, none⟩) e, World.frozen?_of_block (w := w) (a := ⟨b, 2, none⟩) e]
  exact h
theorem wp_callDrawn {o : Oper} {a : Act} {w : World} {K : Act → World → Prop} {Q : Exit → Act → World → Prop} {f : FuncId} {xs : Array Operand} {ts : Array TypeId} {rb m : Nat} (hf : ∀ (xs : Array Value) (w : World), (callFunc f xs).run Tryd.prog w = .ok (.enter f xs) w) (ho : o.op = .call { callee := .value (.func f), args := xs, argTypes := ts })
    {args : Array Value} (ha : xs.map a.eval = args) (hC : Calls Tryd.prog f args w (DrawnM rb m w)) (hk : ∀ mm w', Mm.Ok mm → Rd w' rb m → Step rb w w' → K (a.put o.dst mm.val) w') : o.wp Tryd.prog a w K Q := by
  subst ha
  have he : (execOp a.eval o).run Tryd.prog w = .ok (.enter f (xs.map a.eval)) w := by
    unfold execOp
    rw [ho]
    simp [go_sem, resolve, hf]
  unfold Oper.wp
  rw [he, Oper.upon_enter]
  refine hC.mono ?_
  rintro e w' ⟨mm, rfl, h1, h2, h3⟩
  exact hk mm w' h1 h2 h3
theorem wp_storeMemK {o : Oper} {a : Act} {w : World} {K : Act → World → Prop} {Q : Exit → Act → World → Prop} {b : Nat} {m : Mm} (x y : Operand) (ho : o.op = .store 37 x y) (hx : a.eval x = .pointer (some ⟨b, 0, none⟩)) (hy : a.eval y = m.val) {f : Nat → Value} (hR : RowAt w b 37 136 f)
    (hk : ∀ w2, MemAt w2 b m → w2.heap.size = w.heap.size → (∀ j, j ≠ b → w2.heap[j]? = w.heap[j]?) → (w2.os = w.os ∧ w2.tape = w.tape ∧ w2.output = w.output) → K (a.put o.dst undef) w2) : o.wp Tryd.prog a w K Q := by
  obtain ⟨w2, hs, hR2, hz2, hk2, hb2⟩ := hR.store 0 136 m.cell m.cell (by omega) (fun i _ => cell_one m i) (fun i hi => by rw [if_pos ⟨by omega, by omega⟩, Nat.sub_zero])
  have hv : (storeVar 37 ⟨b, 0, none⟩ m.val).run Tryd.prog w = .ok () w2 := storeVar_row (by kernel_rfl) hs
  unfold Oper.wp execOp
  rw [ho]
  simp only [hx, hy, Instr.storeAt, Instr.sureAddr, Sem.run_bind, Sem.run_pure, Result.andThen_ok, hv]
  exact hk w2 hR2 hz2 hk2 (same_of hb2)
end Go.Proofs.YtlflihegadjpdaaDoor

/- The document's DevSize. Helper text: no statement is claimed here. -/
namespace Go.Proofs.YtlflihegadjpdaaDoor
open Go.ChangeShapes Go.WideShapes Go.ChangeAt Go.RowKit

/-! The document's own. -/
theorem kind_cases (k : Int) : k = 1 ∨ k = 2 ∨ k = 3 ∨ k = 4 ∨ k = 5 ∨ k = 6 ∨ k = 7 ∨ k = 8 ∨ k = 9 ∨ k = 10 ∨ ((k == 1) = false ∧ (k == 2) = false ∧ (k == 3) = false ∧ (k == 4) = false ∧ (k == 5) = false ∧ (k == 6) = false ∧ (k == 7) = false ∧ (k == 8) = false ∧ (k == 9) = false ∧ (k == 10) = false ∧ rN (kz k) = 0) := by
  by_cases h : 1 ≤ k ∧ k ≤ 10
  · omega
  · right; right; right; right; right; right; right; right; right; right
    simp only [beq_eq_false_iff_ne, ne_eq]
    refine ⟨by omega, by omega, by omega, by omega, by omega, by omega, by omega, by omega, by omega, by omega, ?_⟩
    by_cases h2 : 1 ≤ k ∧ k ≤ 13
    · have : k = 11 ∨ k = 12 ∨ k = 13 := by omega
      rcases this with rfl | rfl | rfl <;> rfl
    · unfold kz; rw [if_neg h2]; rfl

set_option maxHeartbeats 400000 in
theorem ssize_any (k : Int) (w : World) :
    Calls Tryd.prog 53 #[.int .i64 k] w fun e w' => e = .returned (.int .i64 (rN (kz k))) ∧ w' = w := by
  rcases kind_cases k with rfl | rfl | rfl | rfl | rfl | rfl | rfl | rfl | rfl | rfl | ⟨h1, h2, h3, h4, h5, h6, h7, h8, h9, h10, h0⟩
  case inr.inr.inr.inr.inr.inr.inr.inr.inr.inr =>
    rw [h0]
    clear h0
    go_enter Tryd.func53, Tryd.ntmps53
    go_wp2
    go_ret
    exact ⟨rfl, rfl⟩
  all_goals
    go_enter Tryd.func53, Tryd.ntmps53
    go_wp2
    go_ret
    exact ⟨rfl, rfl⟩
end Go.Proofs.YtlflihegadjpdaaDoor

/- The drawing of operands: l1Arg, l1Spoilt, l1Any, l1Half. Helper text: no statement is claimed here. -/
namespace Go.Proofs.YtlflihegadjpdaaDoor
open Go.ChangeShapes Go.WideShapes Go.ChangeAt Go.RowKit

def Sm (z : Int) : Prop := -2000000000 ≤ z ∧ z ≤ 2000000000
/-- What a drawing of an operand ends in. -/
def Drawn (rb m : Nat) (w : World) (e : Ending) (w' : World) : Prop := ∃ k n p : Int, e = .returned (.agg #[.int .i64 k, .int .i64 n, .int .i64 p]) ∧ Sm k ∧ Sm n ∧ Sm p ∧ Rd w' rb m ∧ Step rb w w'

theorem nums_mk (w : World) (cs : List Int) (t : TypeId) (h : ∀ z ∈ cs, -2000000000 ≤ z ∧ z ≤ 2000000000) : Nums (w.alloc (.cells (cs.map fun z => Value.int .i64 z).toArray t)) w.heap.size cs.length := by
  intro i hi
  refine ⟨cs[i], ?_, h _ (List.getElem_mem hi)⟩
  rw [World.cell?_alloc_new]
  simp [hi]
theorem scell {rb : Nat} {W w1 : World} (h : Step rb W w1) : (∀ b o, b < W.heap.size → b ≠ rb → w1.cell? ⟨b, o, none⟩ = W.cell? ⟨b, o, none⟩) ∧ (∀ b o, b < W.heap.size → b ≠ rb → w1.frozen? ⟨b, o, none⟩ = W.frozen? ⟨b, o, none⟩) :=
  ⟨fun b o h1 h2 => h.cell b o h1 h2, fun b o h1 h2 => h.frozen b o h1 h2⟩

theorem Own.step {rb b : Nat} {w w' : World} {x y z : Value} (h : Own w b x y z) (st : Step rb w w') (hr : b ≠ rb) : Own w' b x y z := by
  have hb := h.lt
  unfold Own
  rw [st.cell b 0 hb hr, st.cell b 1 hb hr, st.cell b 2 hb hr, st.frozen b 0 hb hr, st.frozen b 1 hb hr, st.frozen b 2 hb hr]; exact h
theorem Rd.set3 {w : World} {rb m m' c : Nat} {x y z : Value} (h : Rd w rb m) (hc : rb < c) (hm : m ≤ m') : Rd (((w.setCell ⟨c, 0, none⟩ x).setCell ⟨c, 1, none⟩ y).setCell ⟨c, 2, none⟩ z) rb m' :=
  (((h.mono hm).set _ _ _ hc).set _ _ _ hc).set _ _ _ hc
theorem Step.set3 {w w' : World} {rb c : Nat} {x y z : Value} (h : Step rb w w') (hc : w.heap.size ≤ c) : Step rb w (((w'.setCell ⟨c, 0, none⟩ x).setCell ⟨c, 1, none⟩ y).setCell ⟨c, 2, none⟩ z) :=
  ((h.setNew _ _ _ hc).setNew _ _ _ hc).setNew _ _ _ hc

set_option maxHeartbeats 400000 in
theorem arg_11 (rb m : Nat) (w : World) (hr : Rd w rb m) (hm : m ≤ 10000) :
    Calls Tryd.prog 60 #[.pointer (some ⟨rb, 0, none⟩), .int .i64 11] w (Drawn rb (m + 4) w) := by
  have hlt := hr.lt
  have hne : w.heap.size ≠ rb := by omega
  go_enter Tryd.func60, Tryd.ntmps60
  go_wp2_with fail
  refine (num_any rb m (w.heap.size + 1) 12 _ (by omega) (by omega) ((hr.alloc _).alloc _) (by omega) ?_ (by omega)).mono ?_
  · have := nums_mk (w.alloc (.cells #[.int .i64 0, .int .i64 0, .int .i64 0] 58)) [0, 1, 2, 3, 5, -1, -7, 10, 100, 32767, -32768, 1000] 3 (by simp)
    simpa using this
  rintro e w1 ⟨v, rfl, v0, v1, hr1, st⟩
  have ow := ((Own.new w (.int .i64 0) (.int .i64 0) (.int .i64 0)).alloc _).step st hne
  obtain ⟨⟨o0, o1, o2⟩, z0, z1, z2⟩ := ow
  go_wp2
  exact bodyPost_ret (v := .agg #[.int .i64 11, .int .i64 v, .int .i64 0]) (resArg Tryd.results60 rfl (put3 ⟨o0, o1, o2⟩)) rfl ⟨11, v, 0, rfl, by unfold Sm; omega, ⟨v0, v1⟩, by unfold Sm; omega, hr1.set3 hlt (by omega), (((Step.alloc rb w _).trans (Step.alloc rb _ _)).trans st).set3 (Nat.le_refl _)⟩

set_option maxHeartbeats 400000 in
theorem arg_12 (rb m : Nat) (w : World) (hr : Rd w rb m) (hm : m ≤ 10000) :
    Calls Tryd.prog 60 #[.pointer (some ⟨rb, 0, none⟩), .int .i64 12] w (Drawn rb (m + 4) w) := by
  have hlt := hr.lt
  have hne : w.heap.size ≠ rb := by omega
  go_enter Tryd.func60, Tryd.ntmps60
  go_wp2_with fail
  refine (num_any rb m (w.heap.size + 1) 11 _ (by omega) (by omega) ((hr.alloc _).alloc _) (by omega) ?_ (by omega)).mono ?_
  · have := nums_mk (w.alloc (.cells #[.int .i64 0, .int .i64 0, .int .i64 0] 58)) [0, 1, 5, -5, 25, -15, 999999999, -999999999, 3, 1001, 7] 3 (by simp)
    simpa using this
  rintro e w1 ⟨v, rfl, v0, v1, hr1, st⟩
  go_wp2_with fail
  refine (pick_any rb (m + 1) 6 _ (by omega) hr1 (by omega)).mono ?_
  rintro e w2 ⟨q, rfl, q0, q1, -, hr2, st2⟩
  have ow := (((Own.new w (.int .i64 0) (.int .i64 0) (.int .i64 0)).alloc _).step st hne).step st2 hne
  obtain ⟨⟨o0, o1, o2⟩, z0, z1, z2⟩ := ow
  have q1 : q < 6 := q1 (by omega)
  go_wp2
  · exact bodyPost_ret (v := .agg #[.int .i64 12, .int .i64 v, .int .i64 1]) (resArg Tryd.results60 rfl (put3 ⟨o0, o1, o2⟩)) rfl ⟨12, v, 1, rfl, by unfold Sm; omega, ⟨v0, v1⟩, by unfold Sm; omega, hr2.set3 hlt (by omega), ((((Step.alloc rb w _).trans (Step.alloc rb _ _)).trans st).trans st2).set3 (Nat.le_refl _)⟩
  · exact bodyPost_ret (v := .agg #[.int .i64 12, .int .i64 v, .int .i64 (1 + q)]) (resArg Tryd.results60 rfl (put3 ⟨o0, o1, o2⟩)) rfl ⟨12, v, 1 + q, rfl, by unfold Sm; omega, ⟨v0, v1⟩, by unfold Sm; omega, hr2.set3 hlt (by omega), ((((Step.alloc rb w _).trans (Step.alloc rb _ _)).trans st).trans st2).set3 (Nat.le_refl _)⟩

set_option maxHeartbeats 400000 in
theorem arg_13 (rb m : Nat) (w : World) (hr : Rd w rb m) (hm : m ≤ 10000) :
    Calls Tryd.prog 60 #[.pointer (some ⟨rb, 0, none⟩), .int .i64 13] w (Drawn rb (m + 4) w) := by
  have hlt := hr.lt
  have hne : w.heap.size ≠ rb := by omega
  go_enter Tryd.func60, Tryd.ntmps60
  go_wp2_with fail
  refine (pick_any rb m 4 _ (by omega) (hr.alloc _) (by omega)).mono ?_
  rintro e w1 ⟨q, rfl, q0, q1, -, hr1, st⟩
  have ow := (Own.new w (.int .i64 0) (.int .i64 0) (.int .i64 0)).step st hne
  obtain ⟨⟨o0, o1, o2⟩, z0, z1, z2⟩ := ow
  have q1 : q < 4 := q1 (by omega)
  go_wp2
  exact bodyPost_ret (v := .agg #[.int .i64 13, .int .i64 q, .int .i64 0]) (resArg Tryd.results60 rfl (put3 ⟨o0, o1, o2⟩)) rfl ⟨13, q, 0, rfl, by unfold Sm; omega, by unfold Sm; omega, by unfold Sm; omega, hr1.set3 hlt (by omega), ((Step.alloc rb w _).trans st).set3 (Nat.le_refl _)⟩

set_option maxHeartbeats 1000000 in
theorem arg_dev (rb m : Nat) (k : Int) (w : World) (hr : Rd w rb m) (hm : m ≤ 10000) (hk : Sm k) (h1 : (k == 11) = false) (h2 : (k == 12) = false) (h3 : (k == 13) = false) :
    Calls Tryd.prog 60 #[.pointer (some ⟨rb, 0, none⟩), .int .i64 k] w (Drawn rb (m + 4) w) := by
  have hlt := hr.lt
  have hne : w.heap.size ≠ rb := by omega
  have hbd := rN_bd (kz k)
  go_enter Tryd.func60, Tryd.ntmps60
  go_wp2_with fail
  refine (pick_any rb m 4 _ (by omega) (hr.alloc _) (by omega)).mono ?_
  rintro e w1 ⟨q, rfl, q0, q1, -, hr1, st⟩
  have q1 : q < 4 := q1 (by omega)
  go_wp2_with fail
  refine (pick_any rb (m + 1) 6 _ (by omega) hr1 (by omega)).mono ?_
  rintro e w2 ⟨t, rfl, t0, t1, -, hr2, st2⟩
  have t1 : t < 6 := t1 (by omega)
  by_cases ht : t = 0
  · subst ht
    go_wp2_with fail
    refine (ssize_any _ _).mono ?_
    rintro e w3 ⟨rfl, rfl⟩
    go_wp2_with fail
    refine (pick_any rb (m + 2) (rN (kz k)) _ (by omega) hr2 (by omega)).mono ?_
    rintro e w3 ⟨u, rfl, u0, u1, u2, hr3, st3⟩
    have u3 : u < 65 := by by_cases h : 1 ≤ rN (kz k) <;> omega
    have ow := (((Own.new w (.int .i64 0) (.int .i64 0) (.int .i64 0)).step st hne).step st2 hne).step st3 hne
    obtain ⟨⟨o0, o1, o2⟩, z0, z1, z2⟩ := ow
    clear u1 u2
    go_wp2_with fail
    refine (ssize_any _ _).mono ?_
    rintro e w4 ⟨rfl, rfl⟩
    go_wp2
    · exact bodyPost_ret (v := .agg #[.int .i64 k, .int .i64 0, .int .i64 0]) (resArg Tryd.results60 rfl (put3 ⟨o0, o1, o2⟩)) rfl ⟨k, 0, 0, rfl, hk, by unfold Sm; omega, by unfold Sm; omega, hr3.set3 hlt (by omega), ((((Step.alloc rb w _).trans st).trans st2).trans st3).set3 (Nat.le_refl _)⟩
    · exact bodyPost_ret (v := .agg #[.int .i64 k, .int .i64 u, .int .i64 0]) (resArg Tryd.results60 rfl (put3 ⟨o0, o1, o2⟩)) rfl ⟨k, u, 0, rfl, hk, by unfold Sm; omega, by unfold Sm; omega, hr3.set3 hlt (by omega), ((((Step.alloc rb w _).trans st).trans st2).trans st3).set3 (Nat.le_refl _)⟩
  · have ht' : (t == 0) = false := by simpa using ht
    have ow := ((Own.new w (.int .i64 0) (.int .i64 0) (.int .i64 0)).step st hne).step st2 hne
    obtain ⟨⟨o0, o1, o2⟩, z0, z1, z2⟩ := ow
    clear ht
    go_wp2_with fail
    refine (ssize_any _ _).mono ?_
    rintro e w4 ⟨rfl, rfl⟩
    go_wp2
    · exact bodyPost_ret (v := .agg #[.int .i64 k, .int .i64 0, .int .i64 0]) (resArg Tryd.results60 rfl (put3 ⟨o0, o1, o2⟩)) rfl ⟨k, 0, 0, rfl, hk, by unfold Sm; omega, by unfold Sm; omega, hr2.set3 hlt (by omega), (((Step.alloc rb w _).trans st).trans st2).set3 (Nat.le_refl _)⟩
    · exact bodyPost_ret (v := .agg #[.int .i64 k, .int .i64 q, .int .i64 0]) (resArg Tryd.results60 rfl (put3 ⟨o0, o1, o2⟩)) rfl ⟨k, q, 0, rfl, hk, by unfold Sm; omega, by unfold Sm; omega, hr2.set3 hlt (by omega), (((Step.alloc rb w _).trans st).trans st2).set3 (Nat.le_refl _)⟩

theorem arg_any (rb m : Nat) (k : Int) (w : World) (hr : Rd w rb m) (hm : m ≤ 10000) (hk : Sm k) :
    Calls Tryd.prog 60 #[.pointer (some ⟨rb, 0, none⟩), .int .i64 k] w (Drawn rb (m + 4) w) := by
  by_cases h1 : k = 11
  · subst h1; exact arg_11 rb m w hr hm
  by_cases h2 : k = 12
  · subst h2; exact arg_12 rb m w hr hm
  by_cases h3 : k = 13
  · subst h3; exact arg_13 rb m w hr hm
  exact arg_dev rb m k w hr hm hk (by simpa using h1) (by simpa using h2) (by simpa using h3)
end Go.Proofs.YtlflihegadjpdaaDoor
