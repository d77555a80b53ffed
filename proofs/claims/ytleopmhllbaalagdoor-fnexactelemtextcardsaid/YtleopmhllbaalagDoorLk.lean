/- A contact or coil that came in as an argument of an exact law. Helper text: no statement is claimed here. -/
import Derived.Test.YtleopmhllbaalagDoorLi
import Derived.ProofKit
import Derived.LaidMore
import Derived.OpenShut
import Derived.Deep.Slices
import Derived.Lib.SmallJoins
namespace Go.Proofs.YtleopmhllbaalagDoor
open Go.ChangeShapes Go.WideShapes Go.ChangeAt Go.RowKit Go.Deep Go.Joins

theorem cArg : Tryd.prog.cellsOf 59 = 3 := by kernel_rfl
theorem cInt3 : Tryd.prog.cellsOf 3 = 1 := by kernel_rfl
theorem three_vals {l : List Value} (h : l.length = 3) : ∃ a b c, l = [a, b, c] := by
  match l, h with
  | [a, b, c], _ => exact ⟨a, b, c, rfl⟩
theorem three_data {H : Type} {l : List (DataW H × List MemPlace)} (h : l.length = 3) : ∃ a b c, l = [a, b, c] := by
  match l, h with
  | [a, b, c], _ => exact ⟨a, b, c, rfl⟩

theorem arg_cells {H : Type} {enc : TypeId × Value → H} {w : World} {n : Nat} {cs : List Value} {x : DataW H × List MemPlace} (hl : cs.length = 3)
    (h : DataW.trod enc Tryd.prog w 0 (fun _ => true) true n 59 cs = some x) : ∃ q : Ar, cs = [.int .i64 q.1, .int .i64 q.2.1, .int .i64 q.2.2] := by
  obtain ⟨xs, k, hk, hxy, _, hxl, hf⟩ := DataW.trod_struct Tryd.underlying59 h
  obtain ⟨v0, v1, v2, rfl⟩ := three_vals hl
  obtain ⟨y0, y1, y2, rfl⟩ := three_data (show xs.length = 3 from hxl)
  have g0 := hf 0 _ rfl
  have g1 := hf 1 _ rfl
  have g2 := hf 2 _ rfl
  simp [cInt3] at g0 g1 g2
  obtain ⟨a, e0, -, -⟩ := DataW.trod_int Tryd.underlying3 g0
  obtain ⟨b, e1, -, -⟩ := DataW.trod_int Tryd.underlying3 g1
  obtain ⟨c, e2, -, -⟩ := DataW.trod_int Tryd.underlying3 g2
  simp only [List.cons.injEq, and_true] at e0 e1 e2
  subst e0 e1 e2
  exact ⟨(a, b, c), rfl⟩

theorem args_read {H : Type} {enc : TypeId × Value → H} {w : World} {n : Nat} {v : Value} {x : DataW H × List MemPlace}
    (h : DataW.trod enc Tryd.prog w 0 (fun _ => true) true n 22 [v] = some x) :
    ∃ (p : Option Addr) (ys : List Ar) (cap : Nat), v = .slice p ys.length cap ∧ ys.length ≤ cap ∧ ys.length ≤ maxLen ∧ ArgsIn w p ys := by
  rcases open_slice Tryd.underlying22 h with ⟨hcs, -⟩ | ⟨a, len, cap, m, k, D, Pl, hcs, -, hl, hcm, hm, -, hx⟩
  · simp only [List.cons.injEq, and_true] at hcs
    subst hcs
    exact ⟨none, [], 0, rfl, Nat.le_refl _, Nat.zero_le _, .inl rfl⟩
  · simp only [List.cons.injEq, and_true] at hcs
    subst hcs
    simp only [if_true] at hm
    have each : ∀ i, i < len → ∃ q : Ar, w.cell? (a.add (i * 3)) = some (.int .i64 q.1) ∧ w.cell? ((a.add (i * 3)).add 1) = some (.int .i64 q.2.1) ∧ w.cell? ((a.add (i * 3)).add 2) = some (.int .i64 q.2.2) := by
      intro i hi
      obtain ⟨cs', h1, h2⟩ := hx i (by omega)
      rw [cArg] at h1
      obtain ⟨_, hlen, hcell⟩ := World.cells?_some h1
      obtain ⟨q, rfl⟩ := arg_cells hlen h2
      exact ⟨q, by simpa [Addr.add] using hcell 0 (by omega), hcell 1 (by omega), hcell 2 (by omega)⟩
    obtain ⟨f, hf⟩ := choose_lt each
    refine ⟨some a, (List.range len).map f, cap, by simp, by simpa using hl, by simp; omega, ?_⟩
    by_cases h0 : len = 0
    · exact .inl (by simp [h0])
    · obtain ⟨b, off, spot⟩ := a
      have h00 := (hf 0 (by omega)).1
      have hspot : spot = none := by simpa [Addr.add] using World.cell?_spot h00
      subst hspot
      refine .inr ⟨b, off, rfl, World.block_lt_of_cell? w ⟨b, off, none⟩ (by simpa [Addr.add] using h00), fun i hi => ?_⟩
      have hi' : i < len := by simpa using hi
      obtain ⟨c0, c1, c2⟩ := hf i hi'
      rw [Go.WideShapes.add_plain] at c0 c1 c2
      rw [Go.WideShapes.add_plain] at c1 c2
      rw [show at3 ((List.range len).map f) i = f i by simp [at3, List.getD, hi']]
      exact ⟨c0, c1, c2⟩

set_option maxRecDepth 100000 in
theorem elem_read {H : Type} {enc : TypeId × Value → H} {w : World} {base : Nat} {v : Value} {d : DataW H} {pl : List MemPlace}
    (hv : Value.okWide Tryd.prog w .any base 24 v) (h : DataW.Trod enc Tryd.prog w 0 (fun _ => true) true 24 v d pl) :
    ∃ (op : Int) (p : Option Addr) (ys : List Ar) (cap : Nat), v = .agg #[.int .i64 op, .slice p ys.length cap] ∧ ys.length ≤ cap ∧ ys.length ≤ maxLen ∧ ArgsIn w p ys := by
  obtain ⟨c0, c1, y0, y1, m, rfl, -, -, hy0, hy1⟩ := open_agg2 Tryd.underlying24 (by kernel_rfl) (by kernel_rfl) hv h
  obtain ⟨op, e0, -, -⟩ := DataW.trod_int Tryd.underlying3 hy0
  obtain ⟨p, ys, cap, rfl, h1, h2, h3⟩ := args_read hy1
  simp only [List.cons.injEq, and_true] at e0
  subst e0
  exact ⟨op, p, ys, cap, rfl, h1, h2, h3⟩
end Go.Proofs.YtleopmhllbaalagDoor
