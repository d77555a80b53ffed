/- The table of devices, as the program's own text lays it, cell for cell; and what devRowOf answers. Helper text: no statement is claimed here. -/
import Derived.Test.YtljhpagpohihcaaDoorRows
import Derived.WalkKit
import Derived.ProofKit
import Derived.LaidMore
import Derived.OpenShut
import Derived.Below
namespace Go.Proofs.YtljhpagpohihcaaDoor
open Go.ChangeShapes Go.WideShapes Go.ChangeAt Go.RowKit

def rL : Nat → List UInt8
  | 1 => [88] | 2 => [89] | 3 => [77] | 4 => [83] | 5 => [69] | 6 => [71] | 7 => [84] | 8 => [67] | 9 => [68] | 10 => [82] | _ => []
def rN : Nat → Int
  | 1 => 32 | 2 => 32 | 3 => 64 | 4 => 16 | 5 => 32 | 6 => 5 | 7 => 16 | 8 => 16 | 9 => 32 | 10 => 16 | _ => 0
def rB : Nat → Bool
  | 1 => true | 2 => true | 3 => true | 4 => true | 6 => true | 7 => true | 8 => true | _ => false
def rW : Nat → Bool
  | 7 => true | 8 => true | 9 => true | 11 => true | _ => false
def rR : Nat → Bool
  | 10 => true | 12 => true | 13 => true | _ => false

/-- The cells of the table of devices. -/
def DevTab (w : World) : Prop := ∀ i, i < 14 →
  w.cell? ⟨0, i * 5, none⟩ = some (.string ⟨(rL i).toArray⟩) ∧ w.cell? ⟨0, i * 5 + 1, none⟩ = some (.int .i64 (rN i)) ∧
  w.cell? ⟨0, i * 5 + 2, none⟩ = some (.bool (rB i)) ∧ w.cell? ⟨0, i * 5 + 3, none⟩ = some (.bool (rW i)) ∧ w.cell? ⟨0, i * 5 + 4, none⟩ = some (.bool (rR i))

theorem gRows : Tryd.prog.globalNamed (Rows.fnMemPutRow.named.getD 0 "") = some 0 := by kernel_rfl
theorem tRows : (Tryd.prog.globals[0]?).map (·.type) = some 152 := by kernel_rfl
theorem cRow : Tryd.prog.cellsOf 139 = 5 := by kernel_rfl
theorem cRows : Tryd.prog.cellsOf 152 = 70 := by kernel_rfl
theorem cInt : Tryd.prog.cellsOf 3 = 1 := by kernel_rfl
theorem cBool : Tryd.prog.cellsOf 4 = 1 := by kernel_rfl
theorem cStr : Tryd.prog.cellsOf 9 = 1 := by kernel_rfl

theorem five {α : Type} {l : List α} (h : l.length = 5) : ∃ a b c d e, l = [a, b, c, d, e] := by
  match l, h with
  | [a, b, c, d, e], _ => exact ⟨a, b, c, d, e, rfl⟩

theorem rowCells {w : World} {sp : Nat → Bool} {held : Bool} {fuel : Nat} {cs : List Value} {l : List UInt8} {n : Int} {b1 b2 b3 : Bool} {p : List MemPlace}
    (h : DataW.trod (fun _ => ()) Tryd.prog w 0 sp held fuel 139 cs = some (.agg [.lit (.string l), .lit (.int .i64 n), .lit (.bool b1), .lit (.bool b2), .lit (.bool b3)], p)) :
    cs = [.string ⟨l.toArray⟩, .int .i64 n, .bool b1, .bool b2, .bool b3] := by
  obtain ⟨xs, m, rfl, hx, hl, hn, hf⟩ := DataW.trod_struct Tryd.underlying139 h
  simp only [Prod.mk.injEq, DataW.agg.injEq] at hx
  rw [cRow] at hl
  obtain ⟨x0, x1, x2, x3, x4, rfl⟩ := five (show xs.length = 5 from hn)
  obtain ⟨c0, c1, c2, c3, c4, rfl⟩ := five hl
  · skip
    have f0 := hf 0 _ rfl
    have f1 := hf 1 _ rfl
    have f2 := hf 2 _ rfl
    have f3 := hf 3 _ rfl
    have f4 := hf 4 _ rfl
    simp only [List.map_cons, List.map_nil, List.cons.injEq, and_true] at hx
    obtain ⟨⟨e0, e1, e2, e3, e4⟩, _⟩ := hx
    simp [cInt, cStr, cBool] at f0 f1 f2 f3 f4
    obtain ⟨s0, g0, h0, _⟩ := DataW.trod_string Tryd.underlying9 f0
    obtain ⟨n1, g1, h1, _⟩ := DataW.trod_int Tryd.underlying3 f1
    obtain ⟨n2, g2, h2⟩ := DataW.trod_bool Tryd.underlying4 f2
    obtain ⟨n3, g3, h3⟩ := DataW.trod_bool Tryd.underlying4 f3
    obtain ⟨n4, g4, h4⟩ := DataW.trod_bool Tryd.underlying4 f4
    rw [h0] at e0; rw [h1] at e1; rw [h2] at e2; rw [h3] at e3; rw [h4] at e4
    simp only [DataW.lit.injEq, Lit.string.injEq, Lit.int.injEq, Lit.bool.injEq, true_and] at e0 e1 e2 e3 e4
    simp only [List.cons.injEq, and_true] at g0 g1 g2 g3 g4
    subst e0 e1 e2 e3 e4 g0 g1 g2 g3 g4
    simp

def rowD (i : Nat) : DataW Unit := .agg [.lit (.string (rL i)), .lit (.int .i64 (rN i)), .lit (.bool (rB i)), .lit (.bool (rW i)), .lit (.bool (rR i))]
def rowsD : List (DataW Unit) := [rowD 0, rowD 1, rowD 2, rowD 3, rowD 4, rowD 5, rowD 6, rowD 7, rowD 8, rowD 9, rowD 10, rowD 11, rowD 12, rowD 13]
theorem rowsD_at (i : Nat) (h : i < 14) : rowsD[i]? = some (rowD i) := by
  have : i = 0 ∨ i = 1 ∨ i = 2 ∨ i = 3 ∨ i = 4 ∨ i = 5 ∨ i = 6 ∨ i = 7 ∨ i = 8 ∨ i = 9 ∨ i = 10 ∨ i = 11 ∨ i = 12 ∨ i = 13 := by omega
  rcases this with rfl | rfl | rfl | rfl | rfl | rfl | rfl | rfl | rfl | rfl | rfl | rfl | rfl | rfl <;> rfl
theorem laid_rowsD : (Rows.laid_loop_example_stilscan_impl_devRows : DataW Unit) = .agg rowsD := rfl

theorem devTab_of {W : World} {sp : Nat → Bool} {held : Bool} {cs : Array Value} {fuel : Nat} {p : List MemPlace}
    (hv : W.var? Tryd.prog (Rows.fnMemPutRow.named.getD 0 "") = some cs)
    (hd : DataW.trod (fun _ => ()) Tryd.prog W 0 sp held fuel 152 cs.toList = some (Rows.laid_loop_example_stilscan_impl_devRows, p)) : DevTab W := by
  rw [laid_rowsD] at hd
  obtain ⟨xs, m, rfl, hx, hl, hn, hel⟩ := DataW.trod_array Tryd.underlying152 hd
  simp only [Prod.mk.injEq, DataW.agg.injEq] at hx
  intro i hi
  have h1 := hel i hi
  have h2 := rowsD_at i hi
  rw [hx.1, List.getElem?_map] at h2
  obtain ⟨x, hx1, hx2⟩ := Option.map_eq_some_iff.1 h2
  rw [hx1, cRow] at h1
  have h3 := rowCells (p := x.2) (h1.trans (by rw [show x = (x.1, x.2) from rfl, hx2]; rfl))
  have at_ : ∀ j, j < 5 → cs[i * 5 + j]? = ((cs.toList.drop (i * 5)).take 5)[j]? := by
    intro j hj
    simp [hj]
  have hc := World.var?_cell gRows hv
  have a0 := at_ 0 (by omega)
  have a1 := at_ 1 (by omega)
  have a2 := at_ 2 (by omega)
  have a3 := at_ 3 (by omega)
  have a4 := at_ 4 (by omega)
  rw [h3] at a0 a1 a2 a3 a4
  refine ⟨?_, ?_, ?_, ?_, ?_⟩
  · rw [hc]; simpa using a0
  · rw [hc]; simpa using a1
  · rw [hc]; simpa using a2
  · rw [hc]; simpa using a3
  · rw [hc]; simpa using a4

theorem DevTab.below {w w' : World} (h : DevTab w) (hb : Below w.heap.size w w') (hs : 0 < w.heap.size) : DevTab w' := fun i hi => by
  have := h i hi
  simp only [hb.cell (p := ⟨0, _, none⟩) hs]
  exact this
end Go.Proofs.YtljhpagpohihcaaDoor
