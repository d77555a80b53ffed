/- The table of tests, as the program's own text lays it, cell for cell. Helper text: no statement is claimed here. -/
import Derived.Test.YtceepaboaoffkaaDoorEi
import Derived.Test.YtceepaboaoffkaaDoorRows
import Derived.WalkKit
import Derived.ProofKit
import Derived.LaidMore
import Derived.OpenShut
import Derived.Below
import Derived.Deep.QuietTactic
import Derived.BigQuiet
import Derived.Deep.RegionHeld3
namespace Go.Proofs.YtceepaboaoffkaaDoor
open Go.ChangeShapes Go.WideShapes Go.ChangeAt Go.RowKit

def qL : Nat → List UInt8
  | 1 => [60] | 2 => [60, 61] | 3 => [61] | 4 => [60, 62] | 5 => [62, 61] | 6 => [62] | _ => []
def qF : Nat → Int
  | 1 => 5 | 2 => 6 | 3 => 4 | 4 => 3 | 5 => 1 | 6 => 2 | _ => 0
def qS : Nat → Int
  | 1 => 6 | 2 => 5 | 3 => 3 | 4 => 4 | 5 => 2 | 6 => 1 | _ => 0
/-- The cells of the table of tests. -/
def CmpTab (w : World) : Prop := ∀ i, i < 7 →
  w.cell? ⟨0, i * 3, none⟩ = some (.string ⟨(qL i).toArray⟩) ∧ w.cell? ⟨0, i * 3 + 1, none⟩ = some (.int .i64 (qF i)) ∧
  w.cell? ⟨0, i * 3 + 2, none⟩ = some (.int .i64 (qS i))
namespace Cq
theorem gRows : Tryd.prog.globalNamed (Rows.fnFlipRow.named.getD 0 "") = some 0 := by kernel_rfl
theorem tRows : (Tryd.prog.globals[0]?).map (·.type) = some 71 := by kernel_rfl
theorem cRow : Tryd.prog.cellsOf 52 = 3 := by kernel_rfl
theorem cInt : Tryd.prog.cellsOf 3 = 1 := by kernel_rfl
theorem cStr : Tryd.prog.cellsOf 9 = 1 := by kernel_rfl
set_option maxRecDepth 20000 in
theorem threes {α : Type} {l : List α} (h : l.length = 3) : ∃ a b c, l = [a, b, c] := by
  match l, h with
  | [a, b, c], _ => exact ⟨a, b, c, rfl⟩
theorem rowCells {w : World} {sp : Nat → Bool} {held : Bool} {fuel : Nat} {cs : List Value} {l : List UInt8} {n k : Int} {p : List MemPlace}
    (h : DataW.trod (fun _ => ()) Tryd.prog w 0 sp held fuel 52 cs = some (.agg [.lit (.string l), .lit (.int .i64 n), .lit (.int .i64 k)], p)) :
    cs = [.string ⟨l.toArray⟩, .int .i64 n, .int .i64 k] := by
  obtain ⟨xs, m, rfl, hx, hl, hn, hf⟩ := DataW.trod_struct Tryd.underlying52 h
  simp only [Prod.mk.injEq, DataW.agg.injEq] at hx
  rw [cRow] at hl
  obtain ⟨x0, x1, x2, rfl⟩ := threes (show xs.length = 3 from hn)
  obtain ⟨c0, c1, c2, rfl⟩ := threes hl
  · skip
    have f0 := hf 0 _ rfl
    have f1 := hf 1 _ rfl
    have f2 := hf 2 _ rfl
    simp only [List.map_cons, List.map_nil, List.cons.injEq, and_true] at hx
    obtain ⟨⟨e0, e1, e2⟩, _⟩ := hx
    simp [cInt, cStr] at f0 f1 f2
    obtain ⟨s0, g0, h0, _⟩ := DataW.trod_string Tryd.underlying9 f0
    obtain ⟨n1, g1, h1, _⟩ := DataW.trod_int Tryd.underlying3 f1
    obtain ⟨n2, g2, h2, _⟩ := DataW.trod_int Tryd.underlying3 f2
    rw [h0] at e0; rw [h1] at e1; rw [h2] at e2
    simp only [DataW.lit.injEq, Lit.string.injEq, Lit.int.injEq, true_and] at e0 e1 e2
    simp only [List.cons.injEq, and_true] at g0 g1 g2
    subst e0 e1 e2 g0 g1 g2
    simp
def rowD (i : Nat) : DataW Unit := .agg [.lit (.string (qL i)), .lit (.int .i64 (qF i)), .lit (.int .i64 (qS i))]
def rowsD : List (DataW Unit) := [rowD 0, rowD 1, rowD 2, rowD 3, rowD 4, rowD 5, rowD 6]
theorem rowsD_at (i : Nat) (h : i < 7) : rowsD[i]? = some (rowD i) := by
  have : i = 0 ∨ i = 1 ∨ i = 2 ∨ i = 3 ∨ i = 4 ∨ i = 5 ∨ i = 6 := by omega
  rcases this with rfl | rfl | rfl | rfl | rfl | rfl | rfl <;> rfl
theorem laid_rowsD : (Rows.laid_loop_example_stilscan_impl_cmpRows : DataW Unit) = .agg rowsD := rfl
end Cq
open Cq in
theorem cmpTab_of {W : World} {sp : Nat → Bool} {held : Bool} {cs : Array Value} {fuel : Nat} {p : List MemPlace}
    (hv : W.var? Tryd.prog (Rows.fnFlipRow.named.getD 0 "") = some cs)
    (hd : DataW.trod (fun _ => ()) Tryd.prog W 0 sp held fuel 71 cs.toList = some (Rows.laid_loop_example_stilscan_impl_cmpRows, p)) : CmpTab W := by
  rw [laid_rowsD] at hd
  obtain ⟨xs, m, rfl, hx, hl, hn, hel⟩ := DataW.trod_array Tryd.underlying71 hd
  simp only [Prod.mk.injEq, DataW.agg.injEq] at hx
  intro i hi
  have h1 := hel i hi
  have h2 := rowsD_at i hi
  rw [hx.1, List.getElem?_map] at h2
  obtain ⟨x, hx1, hx2⟩ := Option.map_eq_some_iff.1 h2
  rw [hx1, cRow] at h1
  have h3 := rowCells (p := x.2) (h1.trans (by rw [show x = (x.1, x.2) from rfl, hx2]; rfl))
  have at_ : ∀ j, j < 3 → cs[i * 3 + j]? = ((cs.toList.drop (i * 3)).take 3)[j]? := by
    intro j hj
    simp [hj]
  have hc := World.var?_cell gRows hv
  have a0 := at_ 0 (by omega)
  have a1 := at_ 1 (by omega)
  have a2 := at_ 2 (by omega)
  rw [h3] at a0 a1 a2
  refine ⟨?_, ?_, ?_⟩
  · rw [hc]; simpa using a0
  · rw [hc]; simpa using a1
  · rw [hc]; simpa using a2
theorem CmpTab.below {w w' : World} (h : CmpTab w) (hb : Below w.heap.size w w') (hs : 0 < w.heap.size) : CmpTab w' := fun i hi => by
  have := h i hi
  simp only [hb.cell (p := ⟨0, _, none⟩) hs]
  exact this
theorem CmpTab.lt {w : World} (h : CmpTab w) : 0 < w.heap.size := World.block_lt_of_cell? w ⟨0, _, none⟩ (h 0 (by omega)).1
theorem CmpTab.to {w w' : World} (h : CmpTab w) (hb : Below w.heap.size w w') : CmpTab w' := h.below hb h.lt
namespace Cq
theorem field_0 (a b c : Value) (w : World) : Sem.run Tryd.prog (Instr.field 52 (.agg #[a, b, c]) 0) w = .ok a w := by kernel_rfl
theorem field_1 (a b c : Value) (w : World) : Sem.run Tryd.prog (Instr.field 52 (.agg #[a, b, c]) 1) w = .ok b w := by kernel_rfl
theorem field_2 (a b c : Value) (w : World) : Sem.run Tryd.prog (Instr.field 52 (.agg #[a, b, c]) 2) w = .ok c w := by kernel_rfl
end Cq
set_option maxHeartbeats 400000 in
theorem cmpRow_yes (i : Nat) (w : World) (h1 : 1 ≤ i) (h2 : i ≤ 6) (hT : CmpTab w) :
    Calls Tryd.prog 31 #[.int .i64 (i : Int)] w fun e w' => e = .returned (.agg #[.string ⟨(qL i).toArray⟩, .int .i64 (qF i), .int .i64 (qS i)]) ∧ Below w.heap.size w w' := by
  obtain ⟨t0, t1, t2⟩ := hT i (by omega)
  have a : ¬ (i : Int) < 1 := by omega
  have b : ¬ (6 : Int) < i := by omega
  have hs : 0 < w.heap.size := hT.lt
  clear hT
  go_enter Tryd.func31, Tryd.ntmps31
  go_wp2_with fail
  refine (cmpIs_any i _ h1 h2).mono ?_
  rintro e w' ⟨rfl, rfl⟩
  go_wp2
  exact bodyPost_ret (v := .agg #[.string ⟨(qL i).toArray⟩, .int .i64 (qF i), .int .i64 (qS i)]) (by simp [results, Tryd.results31, go_sem]) rfl ⟨rfl, (Below.refl _ _).alloc (Nat.le_refl _) _⟩
end Go.Proofs.YtceepaboaoffkaaDoor
