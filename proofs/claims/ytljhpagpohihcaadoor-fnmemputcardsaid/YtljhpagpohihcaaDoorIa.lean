/- Arrays held against each other by the program's own sign of equality. Helper text: no statement is claimed here. -/
import Derived.Test.YtljhpagpohihcaaDoorJb
import Derived.ChangeKeysEq
import Derived.Laws.StructEq
namespace Go.Proofs.YtljhpagpohihcaaDoor
open Go.ChangeShapes Go.WideShapes Go.ChangeAt Go.RowKit

theorem eqItems_run {d sz : Nat} {e : TypeId} {xs ys : Array Value} {w : World} (r : Nat → Bool) : ∀ is : List Nat, (∀ i, i ∈ is → ∃ a b, (part e xs (i * sz)).run Tryd.prog w = .ok a w ∧ (part e ys (i * sz)).run Tryd.prog w = .ok b w ∧ (Op.equalIn d e a b).run Tryd.prog w = .ok (r i) w) →
    (Op.eqItems d e sz xs ys is).run Tryd.prog w = .ok (is.all r) w
  | [], _ => by simp [Op.eqItems]
  | i :: is, h => by
    obtain ⟨a, b, h1, h2, h3⟩ := h i (by simp)
    have ih := eqItems_run r is (fun j hj => h j (by simp [hj]))
    simp only [Op.eqItems, Sem.run_bind, h1, h2, h3, Result.andThen_ok, List.all_cons]
    cases hr : r i
    · simp
    · simpa using ih
theorem eqTimerV (d : Nat) (a a' : Bool) (c c' : Int) (w : World) : (Op.equalIn (d + 2) 27 (.agg #[.bool a, .int .u16 c]) (.agg #[.bool a', .int .u16 c'])).run Tryd.prog w = .ok (a == a' && c == c') w := by
  rw [run_equalIn_struct w (d + 1) _ _ _ (by kernel_rfl) (by kernel_rfl)]
  simp [go_sem]
  split <;> (try split) <;> simp_all
theorem eqCounterV (d : Nat) (a a' l l' : Bool) (c c' : Int) (w : World) : (Op.equalIn (d + 2) 30 (.agg #[.bool a, .bool l, .int .u16 c]) (.agg #[.bool a', .bool l', .int .u16 c'])).run Tryd.prog w = .ok (a == a' && (l == l' && c == c')) w := by
  rw [run_equalIn_struct w (d + 1) _ _ _ (by kernel_rfl) (by kernel_rfl)]
  simp [go_sem]
  split <;> (try split) <;> (try split) <;> simp_all
theorem extract2 {n : Nat} (f : Nat → Value) (k : Nat) (h : k + 2 ≤ n) : (cellsOf n f).extract k (k + 2) = #[f k, f (k + 1)] := by
  apply Array.ext_getElem?
  intro i
  rw [Array.getElem?_extract]
  by_cases hi : i < 2
  · rw [if_pos (by rw [cellsOf_size]; omega), cellsOf_at _ (by omega)]
    have : i = 0 ∨ i = 1 := by omega
    rcases this with rfl | rfl <;> simp
  · rw [if_neg (by rw [cellsOf_size]; omega)]
    simp; omega
theorem extract3 {n : Nat} (f : Nat → Value) (k : Nat) (h : k + 3 ≤ n) : (cellsOf n f).extract k (k + 3) = #[f k, f (k + 1), f (k + 2)] := by
  apply Array.ext_getElem?
  intro i
  rw [Array.getElem?_extract]
  by_cases hi : i < 3
  · rw [if_pos (by rw [cellsOf_size]; omega), cellsOf_at _ (by omega)]
    have : i = 0 ∨ i = 1 ∨ i = 2 := by omega
    rcases this with rfl | rfl | rfl <;> simp
  · rw [if_neg (by rw [cellsOf_size]; omega)]
    simp; omega
theorem partTimer (m : Mm) (i : Nat) (h : i < 16) (w : World) : (part 27 m.tArr (i * 2)).run Tryd.prog w = .ok (.agg #[.bool (m.td i), .int .u16 (m.tc i)]) w := by
  have : m.tArr.extract (i * 2) (i * 2 + 2) = #[.bool (m.td i), .int .u16 (m.tc i)] := by
    unfold Mm.tArr
    rw [extract2 _ _ (by omega), Mm.tcell_d, Mm.tcell_c]
  simp [go_sem, this]
theorem partCounter (m : Mm) (i : Nat) (h : i < 16) (w : World) : (part 30 m.cArr (i * 3)).run Tryd.prog w = .ok (.agg #[.bool (m.cd i), .bool (m.cl i), .int .u16 (m.cc i)]) w := by
  have : m.cArr.extract (i * 3) (i * 3 + 3) = #[.bool (m.cd i), .bool (m.cl i), .int .u16 (m.cc i)] := by
    unfold Mm.cArr
    rw [extract3 _ _ (by omega), Mm.ccell_d, Mm.ccell_l, Mm.ccell_c]
  simp [go_sem, this]
theorem partD (m : Mm) (i : Nat) (h : i < 32) (w : World) : (part 32 m.dArr (i * 1)).run Tryd.prog w = .ok (.int .i16 (m.d i)) w := by
  have : m.dArr[i]? = some (.int .i16 (m.d i)) := cellsOf_at _ h
  simp [go_sem, this]
/-- What the sign of equality says of two arrays. -/
def sameT (m n : Mm) : Bool := (List.range 16).all fun i => m.td i == n.td i && (m.tc i : Int) == (n.tc i : Int)
def sameC (m n : Mm) : Bool := (List.range 16).all fun i => m.cd i == n.cd i && (m.cl i == n.cl i && (m.cc i : Int) == (n.cc i : Int))
def sameD (m n : Mm) : Bool := (List.range 32).all fun i => m.d i == n.d i
theorem eqT_run (m n : Mm) (w : World) : (Op.equal 28 (.agg m.tArr) (.agg n.tArr)).run Tryd.prog w = .ok (sameT m n) w := by
  obtain ⟨i0, hi0⟩ : ∃ i, Tryd.prog.info? 27 = some i := Option.isSome_iff_exists.1 (by kernel_rfl)
  show (Op.equalIn (9999 + 1) _ _ _).run _ _ = _
  rw [run_equalIn_array w 9999 m.tArr n.tArr Tryd.underlying28 hi0, show Tryd.prog.cellsOf 27 = 2 by kernel_rfl]
  exact eqItems_run _ _ fun i hi => ⟨_, _, partTimer m i (List.mem_range.1 hi) w, partTimer n i (List.mem_range.1 hi) w, eqTimerV 9997 _ _ _ _ w⟩
theorem eqC_run (m n : Mm) (w : World) : (Op.equal 31 (.agg m.cArr) (.agg n.cArr)).run Tryd.prog w = .ok (sameC m n) w := by
  obtain ⟨i0, hi0⟩ : ∃ i, Tryd.prog.info? 30 = some i := Option.isSome_iff_exists.1 (by kernel_rfl)
  show (Op.equalIn (9999 + 1) _ _ _).run _ _ = _
  rw [run_equalIn_array w 9999 m.cArr n.cArr Tryd.underlying31 hi0, show Tryd.prog.cellsOf 30 = 3 by kernel_rfl]
  exact eqItems_run _ _ fun i hi => ⟨_, _, partCounter m i (List.mem_range.1 hi) w, partCounter n i (List.mem_range.1 hi) w, eqCounterV 9997 _ _ _ _ _ _ w⟩
theorem eqD_run (m n : Mm) (w : World) : (Op.equal 33 (.agg m.dArr) (.agg n.dArr)).run Tryd.prog w = .ok (sameD m n) w := by
  obtain ⟨i0, hi0⟩ : ∃ i, Tryd.prog.info? 32 = some i := Option.isSome_iff_exists.1 (by kernel_rfl)
  show (Op.equalIn (9999 + 1) _ _ _).run _ _ = _
  rw [run_equalIn_array w 9999 m.dArr n.dArr Tryd.underlying33 hi0, show Tryd.prog.cellsOf 32 = 1 by kernel_rfl]
  exact eqItems_run _ _ fun i hi => ⟨_, _, partD m i (List.mem_range.1 hi) w, partD n i (List.mem_range.1 hi) w, by simp [go_sem]⟩
end Go.Proofs.YtljhpagpohihcaaDoor
