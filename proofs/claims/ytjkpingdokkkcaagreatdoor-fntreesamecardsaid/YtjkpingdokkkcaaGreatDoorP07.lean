/- The table of contacts and coils, as elemRowOf lays it. Helper text: no statement is claimed here. -/
import Derived.Test.YtjkpingdokkkcaaGreatDoorProg
import Derived.Test.YtjkpingdokkkcaaGreatDoorP06
import Derived.WalkKit
import Derived.Great.Walk
import Derived.Deep.WholeRow
import Derived.Below
namespace Go.Proofs.YtjkpingdokkkcaaGreatDoor.Tb
open Go.RowKit Go.Great

/-- A frame without deferred calls. -/
def actOf (t : Array Value) : Act := { tmps := t, defers := [] }
/-- A row of operations that build values out of temporaries and read whole variables that are known. -/
def runB (P : Program) (ld : List (Nat × TypeId × Array Value)) : List Oper → Array Value → Option (Array Value)
  | [], t => some t
  | o :: l, t =>
    match o.guard, o.op, o.dst with
    | none, .build ty parts, some d =>
      if ld.any (fun x => x.1 == d) then none else
      (P.built ty (parts.map fun (i, x) => (i, (actOf t).eval x)).toList).bind fun cells => runB P ld l (t.setIfInBounds d (.agg cells))
    | none, .load ty (.tmp j), some d =>
      if ld.any (fun x => x.1 == d) then none else
      (ld.find? (fun x => x.1 == j && x.2.1 == ty)).bind fun x => runB P ld l (t.setIfInBounds d (.agg x.2.2))
    | _, _, _ => none
theorem put_actOf (t : Array Value) (d : Tmp) (v : Value) : (actOf t).put (some d) v = actOf (t.setIfInBounds d v) := rfl
theorem runB_ok {P : Program} {ops : Array Oper} {rest : List Oper} {Q : Exit → Act → World → Prop} {w : World} (ld : List (Nat × TypeId × Array Value)) (g : Nat → Nat)
    (hw : ∀ x ∈ ld, ∃ tt fr d, w.heap[g x.1]? = some (.cells x.2.2 tt fr) ∧ P.underlying x.2.1 = some d ∧ (match d with | .struct _ | .array _ _ => true | _ => false) = true ∧ (P.info? x.2.1).map (·.size) = some x.2.2.size) {t' : Array Value}
    (hr : wpList P ops Q rest (actOf t') w) : ∀ (l : List Oper) (t : Array Value), (∀ x ∈ ld, (actOf t).eval (.tmp x.1) = .pointer (some ⟨g x.1, 0, none⟩)) →
    runB P ld l t = some t' → wpList P ops Q (l ++ rest) (actOf t) w
  | [], t, _, h => by
    simp only [runB, Option.some.injEq] at h
    subst h
    exact hr
  | o :: l, t, hp, h => by
    have keep : ∀ (d : Nat) (v : Value), (ld.any fun x => x.1 == d) = false → ∀ x ∈ ld, (actOf (t.setIfInBounds d v)).eval (.tmp x.1) = .pointer (some ⟨g x.1, 0, none⟩) := by
      intro d v hd x hx
      rw [← hp x hx, ← put_actOf]
      refine Act.eval_put_ne _ _ _ _ ?_
      intro e
      subst e
      have := List.any_eq_false.1 hd x hx
      simp at this
    unfold runB at h
    split at h
    next hg ho hd =>
      rename_i ty parts d
      split at h
      · cases h
      next hn =>
        obtain ⟨cells, hb, hc⟩ := Option.bind_eq_some_iff.1 h
        exact wpList_buildTo hg ty parts ho (some d) hd cells hb (runB_ok ld g hw hr l _ (keep d _ (Bool.eq_false_iff.2 hn)) hc)
    next hg ho hd =>
      rename_i ty j d
      split at h
      · cases h
      next hn =>
        obtain ⟨x, hf, hc⟩ := Option.bind_eq_some_iff.1 h
        have hx := List.mem_of_find?_eq_some hf
        have hj := List.find?_some hf
        simp only [Bool.and_eq_true, beq_iff_eq] at hj
        obtain ⟨tt, fr, dd, h1, h2, h3, h4⟩ := hw x hx
        have e1 := hp x hx
        rw [hj.1] at e1 h1
        rw [hj.2] at h2 h4
        refine wpList_load_row hg ty (.tmp j) ho (g j) e1 tt x.2.2 fr dd h1 h2 (by cases dd <;> simp_all) h4 ?_
        rw [hd]
        exact runB_ok ld g hw hr l _ (keep d _ (Bool.eq_false_iff.2 hn)) hc
    · cases h
theorem store_func (P : Program) (w : World) (a : Addr) (f : Fn) (x y : Array Value) (m : Mode) : (store a (.func f x y) m).run P w = stored P w a (.func f x y) m := run_store P w a _ m rfl
theorem store_nilFunc (P : Program) (w : World) (a : Addr) (m : Mode) : (store a .nilFunc m).run P w = stored P w a .nilFunc m := run_store P w a _ m rfl
attribute [local go_sem] store_func store_nilFunc
/-! What the document's two tables say of each number. The sorts of operands: 1 a bit, 2 a whole, 3 a real, 4 an E, 5 an S, 6 a T, 7 a C, 8 a D, 9 an R, 10 a Y or M, 11 a Y, M or S, 12 a Y, M, S, T or C, 13 a DevInt of 0 or more. -/
/-- The function that looks whether an operand is of a sort. -/
def fid : Nat → Nat
  | 1 => 112 | 2 => 106 | 3 => 107 | 4 => 113 | 5 => 117 | 6 => 108 | 7 => 118 | 8 => 110 | 9 => 111 | 10 => 114 | 11 => 115 | 12 => 116 | _ => 109
def fv : Nat → Value
  | 0 => .nilFunc
  | n + 1 => .func (.func (fid (n + 1))) #[] #[]
def fmv (fs : List Nat) : List Value := [fv (fs.getD 0 0), fv (fs.getD 1 0), fv (fs.getD 2 0)]
def ecells (op : Nat) : List Value := [.string ⟨(nm op).toArray⟩, .int .i32 (mk op), .int .i64 (ts op)] ++ fmv (fm0 op) ++ fmv (fm1 op)
def erows : Array Value := ((List.range 38).flatMap ecells).toArray
def ezeros : Array Value := ((List.range 38).flatMap fun _ => ecells 0).toArray
def ag (l : List Value) : Value := .agg l.toArray
/-- What the temporaries hold behind the building of the table. -/
def tz : Nat → Value
  | 7 => ag (fmv [2, 2]) | 8 => ag (fmv [3, 3]) | 9 => ag (fmv [2, 2] ++ fmv [3, 3]) | 10 => ag (fmv [6, 13]) | 11 => ag (fmv [6, 13] ++ fmv []) | 12 => ag (fmv [8, 2, 2]) | 13 => ag (fmv [9, 3, 3]) | 14 => ag (fmv [8, 2, 2] ++ fmv [9, 3, 3]) | 15 => ag (fmv [1]) | 16 => ag (fmv [1] ++ fmv []) | 17 => ag (ecells 1) | 18 => ag (fmv [1]) | 19 => ag (fmv [1] ++ fmv []) | 20 => ag (ecells 2) | 21 => ag (fmv [1, 4]) | 22 => ag (fmv [1, 4] ++ fmv []) | 23 => ag (ecells 3) | 24 => ag (fmv [1, 4]) | 25 => ag (fmv [1, 4] ++ fmv []) | 26 => ag (ecells 4) | 27 => ag (fmv [2, 2] ++ fmv [3, 3]) | 28 => ag (ecells 5) | 29 => ag (fmv [2, 2] ++ fmv [3, 3]) | 30 => ag (ecells 6) | 31 => ag (fmv [2, 2] ++ fmv [3, 3]) | 32 => ag (ecells 7) | 33 => ag (fmv [2, 2] ++ fmv [3, 3]) | 34 => ag (ecells 8) | 35 => ag (fmv [2, 2] ++ fmv [3, 3]) | 36 => ag (ecells 9) | 37 => ag (fmv [2, 2] ++ fmv [3, 3]) | 38 => ag (ecells 10) | 39 => ag (fmv [10]) | 40 => ag (fmv [10] ++ fmv []) | 41 => ag (ecells 21) | 42 => ag (fmv [11]) | 43 => ag (fmv [11] ++ fmv []) | 44 => ag (ecells 22) | 45 => ag (fmv [12]) | 46 => ag (fmv [12] ++ fmv []) | 47 => ag (ecells 23) | 48 => ag (fmv [10, 4]) | 49 => ag (fmv [10, 4] ++ fmv []) | 50 => ag (ecells 24) | 51 => ag (fmv [5]) | 52 => ag (fmv [5] ++ fmv []) | 53 => ag (ecells 25) | 54 => ag (fmv [6, 13] ++ fmv []) | 55 => ag (ecells 26) | 56 => ag (fmv [6, 13] ++ fmv []) | 57 => ag (ecells 27) | 58 => ag (fmv [6, 13] ++ fmv []) | 59 => ag (ecells 28) | 60 => ag (fmv [7, 13]) | 61 => ag (fmv [7, 13] ++ fmv []) | 62 => ag (ecells 29) | 63 => ag (fmv [8, 2]) | 64 => ag (fmv [9, 3]) | 65 => ag (fmv [8, 2] ++ fmv [9, 3]) | 66 => ag (ecells 30) | 67 => ag (fmv [8, 2, 2] ++ fmv [9, 3, 3]) | 68 => ag (ecells 31) | 69 => ag (fmv [8, 2, 2] ++ fmv [9, 3, 3]) | 70 => ag (ecells 32) | 71 => ag (fmv [8, 2, 2] ++ fmv [9, 3, 3]) | 72 => ag (ecells 33) | 73 => ag (fmv [8, 2, 2] ++ fmv [9, 3, 3]) | 74 => ag (ecells 34) | 75 => ag (fmv [8, 2, 2]) | 76 => ag (fmv [8, 2, 2] ++ fmv []) | 77 => ag (ecells 35) | 78 => ag (fmv [9, 2]) | 79 => ag (fmv [9, 2] ++ fmv []) | 80 => ag (ecells 36) | 81 => ag (fmv [8, 3]) | 82 => ag (fmv [8, 3] ++ fmv []) | 83 => ag (ecells 37) | _ => .agg erows
def tzs (x : Int) (n : Nat) : Array Value := #[.int .i64 x, undef, .pointer (some ⟨n, 0, none⟩), .pointer (some ⟨n + 1, 0, none⟩), .pointer (some ⟨n + 1 + 1, 0, none⟩), .pointer (some ⟨n + 1 + 1 + 1, 0, none⟩), undef, tz 7, tz 8, tz 9, tz 10, tz 11, tz 12, tz 13, tz 14, undef, undef, undef, undef, undef, undef, undef, undef, undef, undef, undef, undef, undef, undef, undef, undef, undef, undef, undef, undef, undef, undef, undef, undef, undef, undef, undef, undef, undef, undef, undef, undef, undef, undef, undef, undef, undef, undef, undef, undef, undef, undef, undef, undef, undef, undef, undef, undef, undef, undef, undef, undef, undef, undef, undef, undef, undef, undef, undef, undef, undef, undef, undef, undef, undef, undef, undef, undef, undef, undef, undef, undef, undef, undef, undef, undef, undef, undef, undef, undef]
def tze (x : Int) (n : Nat) : Array Value := #[.int .i64 x, undef, .pointer (some ⟨n, 0, none⟩), .pointer (some ⟨n + 1, 0, none⟩), .pointer (some ⟨n + 1 + 1, 0, none⟩), .pointer (some ⟨n + 1 + 1 + 1, 0, none⟩), undef, tz 7, tz 8, tz 9, tz 10, tz 11, tz 12, tz 13, tz 14, tz 15, tz 16, tz 17, tz 18, tz 19, tz 20, tz 21, tz 22, tz 23, tz 24, tz 25, tz 26, tz 27, tz 28, tz 29, tz 30, tz 31, tz 32, tz 33, tz 34, tz 35, tz 36, tz 37, tz 38, tz 39, tz 40, tz 41, tz 42, tz 43, tz 44, tz 45, tz 46, tz 47, tz 48, tz 49, tz 50, tz 51, tz 52, tz 53, tz 54, tz 55, tz 56, tz 57, tz 58, tz 59, tz 60, tz 61, tz 62, tz 63, tz 64, tz 65, tz 66, tz 67, tz 68, tz 69, tz 70, tz 71, tz 72, tz 73, tz 74, tz 75, tz 76, tz 77, tz 78, tz 79, tz 80, tz 81, tz 82, tz 83, tz 84, undef, undef, undef, undef, undef, undef, undef, undef, undef, undef]
theorem heap_at (w : World) (o : Obj) (n : Nat) (h : n = w.heap.size) : (w.alloc o).heap[n]? = some o := by subst h; exact heap_alloc_last w o
theorem wpList_part {P : Program} {ops : Array Oper} {l : List Oper} {Q : Exit → Act → World → Prop} {a : Act} {w : World} (n : Nat) (h : wpList P ops Q (l.take n ++ l.drop n) a w) : wpList P ops Q l a w := by
  rwa [List.take_append_drop] at h
def eld : List (Nat × TypeId × Array Value) := [(3, 158, (fmv [2, 2] ++ fmv [3, 3]).toArray), (4, 158, (fmv [6, 13] ++ fmv []).toArray), (5, 158, (fmv [8, 2, 2] ++ fmv [9, 3, 3]).toArray)]
theorem eld_ok {W : World} {n : Nat} (h3 : W.heap[n + 1]? = some (.cells (fmv [2, 2] ++ fmv [3, 3]).toArray 158 (0, 0))) (h4 : W.heap[n + 1 + 1]? = some (.cells (fmv [6, 13] ++ fmv []).toArray 158 (0, 0)))
    (h5 : W.heap[n + 1 + 1 + 1]? = some (.cells (fmv [8, 2, 2] ++ fmv [9, 3, 3]).toArray 158 (0, 0))) :
    ∀ x ∈ eld, ∃ tt fr d, W.heap[n + (x.1 - 2)]? = some (.cells x.2.2 tt fr) ∧ Tryz.prog.underlying x.2.1 = some d ∧ (match d with | .struct _ | .array _ _ => true | _ => false) = true ∧ (Tryz.prog.info? x.2.1).map (·.size) = some x.2.2.size := by
  intro x hx
  simp only [eld, List.mem_cons, List.not_mem_nil, or_false] at hx
  rcases hx with rfl | rfl | rfl
  · exact ⟨_, _, _, h3, Tryz.underlying158, rfl, by kernel_rfl⟩
  · exact ⟨_, _, _, h4, Tryz.underlying158, rfl, by kernel_rfl⟩
  · exact ⟨_, _, _, h5, Tryz.underlying158, rfl, by kernel_rfl⟩
theorem eld_at (x : Int) (n : Nat) : ∀ y ∈ eld, (actOf (tzs x n)).eval (.tmp y.1) = .pointer (some ⟨n + (y.1 - 2), 0, none⟩) := by
  intro y hy
  simp only [eld, List.mem_cons, List.not_mem_nil, or_false] at hy
  rcases hy with rfl | rfl | rfl <;> rfl
theorem tz84 (x : Int) (n : Nat) (v : Value) : ((actOf (tze x n)).put (some 6) v).eval (.tmp 84) = .agg erows := by kernel_rfl
theorem tz6 (x : Int) (n : Nat) (v : Value) : ((actOf (tze x n)).put (some 6) v).eval (.tmp 6) = v := by kernel_rfl
theorem tzf (x : Int) (n m : Nat) : (actOf (tze x n)).put (some 6) (.pointer (some ⟨m, 0, none⟩)) = { tmps := #[.int .i64 x, undef, .pointer (some ⟨n, 0, none⟩), .pointer (some ⟨n + 1, 0, none⟩), .pointer (some ⟨n + 1 + 1, 0, none⟩), .pointer (some ⟨n + 1 + 1 + 1, 0, none⟩), .pointer (some ⟨m, 0, none⟩), tz 7, tz 8, tz 9, tz 10, tz 11, tz 12, tz 13, tz 14, tz 15, tz 16, tz 17, tz 18, tz 19, tz 20, tz 21, tz 22, tz 23, tz 24, tz 25, tz 26, tz 27, tz 28, tz 29, tz 30, tz 31, tz 32, tz 33, tz 34, tz 35, tz 36, tz 37, tz 38, tz 39, tz 40, tz 41, tz 42, tz 43, tz 44, tz 45, tz 46, tz 47, tz 48, tz 49, tz 50, tz 51, tz 52, tz 53, tz 54, tz 55, tz 56, tz 57, tz 58, tz 59, tz 60, tz 61, tz 62, tz 63, tz 64, tz 65, tz 66, tz 67, tz 68, tz 69, tz 70, tz 71, tz 72, tz 73, tz 74, tz 75, tz 76, tz 77, tz 78, tz 79, tz 80, tz 81, tz 82, tz 83, tz 84, undef, undef, undef, undef, undef, undef, undef, undef, undef, undef], defers := [] } := by kernel_rfl
theorem erows_at : ∀ i, i < 38 → erows[i * 9]? = some (.string ⟨(nm i).toArray⟩) ∧ erows[i * 9 + 1]? = some (.int .i32 (mk i)) ∧ erows[i * 9 + 2]? = some (.int .i64 (ts i)) ∧
    erows[i * 9 + 3]? = some (fv ((fm0 i).getD 0 0)) ∧ erows[i * 9 + 4]? = some (fv ((fm0 i).getD 1 0)) ∧ erows[i * 9 + 5]? = some (fv ((fm0 i).getD 2 0)) ∧
    erows[i * 9 + 6]? = some (fv ((fm1 i).getD 0 0)) ∧ erows[i * 9 + 7]? = some (fv ((fm1 i).getD 1 0)) ∧ erows[i * 9 + 8]? = some (fv ((fm1 i).getD 2 0))
  | 0, _ => by refine ⟨?_, ?_, ?_, ?_, ?_, ?_, ?_, ?_, ?_⟩ <;> kernel_rfl
  | 1, _ => by refine ⟨?_, ?_, ?_, ?_, ?_, ?_, ?_, ?_, ?_⟩ <;> kernel_rfl
  | 2, _ => by refine ⟨?_, ?_, ?_, ?_, ?_, ?_, ?_, ?_, ?_⟩ <;> kernel_rfl
  | 3, _ => by refine ⟨?_, ?_, ?_, ?_, ?_, ?_, ?_, ?_, ?_⟩ <;> kernel_rfl
  | 4, _ => by refine ⟨?_, ?_, ?_, ?_, ?_, ?_, ?_, ?_, ?_⟩ <;> kernel_rfl
  | 5, _ => by refine ⟨?_, ?_, ?_, ?_, ?_, ?_, ?_, ?_, ?_⟩ <;> kernel_rfl
  | 6, _ => by refine ⟨?_, ?_, ?_, ?_, ?_, ?_, ?_, ?_, ?_⟩ <;> kernel_rfl
  | 7, _ => by refine ⟨?_, ?_, ?_, ?_, ?_, ?_, ?_, ?_, ?_⟩ <;> kernel_rfl
  | 8, _ => by refine ⟨?_, ?_, ?_, ?_, ?_, ?_, ?_, ?_, ?_⟩ <;> kernel_rfl
  | 9, _ => by refine ⟨?_, ?_, ?_, ?_, ?_, ?_, ?_, ?_, ?_⟩ <;> kernel_rfl
  | 10, _ => by refine ⟨?_, ?_, ?_, ?_, ?_, ?_, ?_, ?_, ?_⟩ <;> kernel_rfl
  | 11, _ => by refine ⟨?_, ?_, ?_, ?_, ?_, ?_, ?_, ?_, ?_⟩ <;> kernel_rfl
  | 12, _ => by refine ⟨?_, ?_, ?_, ?_, ?_, ?_, ?_, ?_, ?_⟩ <;> kernel_rfl
  | 13, _ => by refine ⟨?_, ?_, ?_, ?_, ?_, ?_, ?_, ?_, ?_⟩ <;> kernel_rfl
  | 14, _ => by refine ⟨?_, ?_, ?_, ?_, ?_, ?_, ?_, ?_, ?_⟩ <;> kernel_rfl
  | 15, _ => by refine ⟨?_, ?_, ?_, ?_, ?_, ?_, ?_, ?_, ?_⟩ <;> kernel_rfl
  | 16, _ => by refine ⟨?_, ?_, ?_, ?_, ?_, ?_, ?_, ?_, ?_⟩ <;> kernel_rfl
  | 17, _ => by refine ⟨?_, ?_, ?_, ?_, ?_, ?_, ?_, ?_, ?_⟩ <;> kernel_rfl
  | 18, _ => by refine ⟨?_, ?_, ?_, ?_, ?_, ?_, ?_, ?_, ?_⟩ <;> kernel_rfl
  | 19, _ => by refine ⟨?_, ?_, ?_, ?_, ?_, ?_, ?_, ?_, ?_⟩ <;> kernel_rfl
  | 20, _ => by refine ⟨?_, ?_, ?_, ?_, ?_, ?_, ?_, ?_, ?_⟩ <;> kernel_rfl
  | 21, _ => by refine ⟨?_, ?_, ?_, ?_, ?_, ?_, ?_, ?_, ?_⟩ <;> kernel_rfl
  | 22, _ => by refine ⟨?_, ?_, ?_, ?_, ?_, ?_, ?_, ?_, ?_⟩ <;> kernel_rfl
  | 23, _ => by refine ⟨?_, ?_, ?_, ?_, ?_, ?_, ?_, ?_, ?_⟩ <;> kernel_rfl
  | 24, _ => by refine ⟨?_, ?_, ?_, ?_, ?_, ?_, ?_, ?_, ?_⟩ <;> kernel_rfl
  | 25, _ => by refine ⟨?_, ?_, ?_, ?_, ?_, ?_, ?_, ?_, ?_⟩ <;> kernel_rfl
  | 26, _ => by refine ⟨?_, ?_, ?_, ?_, ?_, ?_, ?_, ?_, ?_⟩ <;> kernel_rfl
  | 27, _ => by refine ⟨?_, ?_, ?_, ?_, ?_, ?_, ?_, ?_, ?_⟩ <;> kernel_rfl
  | 28, _ => by refine ⟨?_, ?_, ?_, ?_, ?_, ?_, ?_, ?_, ?_⟩ <;> kernel_rfl
  | 29, _ => by refine ⟨?_, ?_, ?_, ?_, ?_, ?_, ?_, ?_, ?_⟩ <;> kernel_rfl
  | 30, _ => by refine ⟨?_, ?_, ?_, ?_, ?_, ?_, ?_, ?_, ?_⟩ <;> kernel_rfl
  | 31, _ => by refine ⟨?_, ?_, ?_, ?_, ?_, ?_, ?_, ?_, ?_⟩ <;> kernel_rfl
  | 32, _ => by refine ⟨?_, ?_, ?_, ?_, ?_, ?_, ?_, ?_, ?_⟩ <;> kernel_rfl
  | 33, _ => by refine ⟨?_, ?_, ?_, ?_, ?_, ?_, ?_, ?_, ?_⟩ <;> kernel_rfl
  | 34, _ => by refine ⟨?_, ?_, ?_, ?_, ?_, ?_, ?_, ?_, ?_⟩ <;> kernel_rfl
  | 35, _ => by refine ⟨?_, ?_, ?_, ?_, ?_, ?_, ?_, ?_, ?_⟩ <;> kernel_rfl
  | 36, _ => by refine ⟨?_, ?_, ?_, ?_, ?_, ?_, ?_, ?_, ?_⟩ <;> kernel_rfl
  | 37, _ => by refine ⟨?_, ?_, ?_, ?_, ?_, ?_, ?_, ?_, ?_⟩ <;> kernel_rfl
  | n + 38, h => absurd h (by omega)
def putL (w : World) (b : Nat) : List Value → Nat → World
  | [], _ => w
  | v :: l, i => putL (w.setCell ⟨b, i, none⟩ v) b l (i + 1)
theorem putL_row (b : Nat) (t : TypeId) : ∀ (l : List Value) (i : Nat) (w : World) (cs : Array Value), w.heap[b]? = some (.cells cs t (0, 0)) → i + l.length = cs.size → (putL w b l i).heap[b]? = some (.cells (cs.toList.take i ++ l).toArray t (0, 0))
  | [], i, w, cs, h, hl => by
    simp only [List.length_nil, Nat.add_zero] at hl
    rw [putL, h, hl, show cs.size = cs.toList.length by simp, List.take_length]
    simp
  | v :: l, i, w, cs, h, hl => by
    simp only [List.length_cons] at hl
    have h1 : (w.setCell ⟨b, i, none⟩ v).heap[b]? = some (.cells (cs.setIfInBounds i v) t (0, 0)) := heap_setCell_same w b i cs t v h
    rw [putL, putL_row b t l (i + 1) _ _ h1 (by simp; omega)]
    congr 3
    apply List.ext_getElem?
    intro k
    simp only [Array.toList_setIfInBounds, List.getElem?_append, List.length_take, List.length_set, Array.length_toList]
    by_cases hk : k < i
    · simp [show i ≠ k by omega, show k < min (i + 1) cs.size by omega, show k < min i cs.size by omega]
    · by_cases hk2 : k = i
      · subst hk2
        simp [show k < min (k + 1) cs.size by omega, show ¬ k < min k cs.size by omega, show k - min k cs.size = 0 by omega]
      · rw [if_neg (by omega), if_neg (by omega), show min (i + 1) cs.size = i + 1 by omega, show min i cs.size = i by omega, show k - i = (k - (i + 1)) + 1 by omega]
        simp
theorem putL_below {W : World} {b : Nat} (hb : W.heap.size ≤ b) : ∀ (l : List Value) (i : Nat) (w : World), Below W.heap.size W w → Below W.heap.size W (putL w b l i)
  | [], _, _, h => h
  | v :: l, i, _, h => putL_below hb l (i + 1) _ (h.setCell (p := ⟨b, i, none⟩) hb v)
theorem row9 {V : World} {b : Nat} (h : V.heap[b]? = some (.cells (ecells 0).toArray 160 (0, 0))) :
    V.cell? ⟨b, 0, none⟩ = some (.string ⟨#[]⟩) ∧ V.cell? ⟨b, 1, none⟩ = some (.int .i32 0) ∧ V.cell? ⟨b, 2, none⟩ = some (.int .i64 0) ∧ V.cell? ⟨b, 3, none⟩ = some .nilFunc ∧ V.cell? ⟨b, 4, none⟩ = some .nilFunc ∧ V.cell? ⟨b, 5, none⟩ = some .nilFunc ∧
    V.cell? ⟨b, 6, none⟩ = some .nilFunc ∧ V.cell? ⟨b, 7, none⟩ = some .nilFunc ∧ V.cell? ⟨b, 8, none⟩ = some .nilFunc :=
  ⟨cell_of_row _ _ 0 _ _ _ h, cell_of_row _ _ 1 _ _ _ h, cell_of_row _ _ 2 _ _ _ h, cell_of_row _ _ 3 _ _ _ h, cell_of_row _ _ 4 _ _ _ h, cell_of_row _ _ 5 _ _ _ h, cell_of_row _ _ 6 _ _ _ h, cell_of_row _ _ 7 _ _ _ h, cell_of_row _ _ 8 _ _ _ h⟩
theorem fv_store (P : Program) (w : World) (a : Addr) (k : Nat) (m : Mode) : (store a (fv k) m).run P w = stored P w a (fv k) m := run_store P w a _ m (by cases k <;> rfl)
attribute [local go_sem] fv_store
theorem resRow {fn : Func} {V : World} {b p : Nat} {tmps : Array Value} {l : List Value} (h : fn.results = #[.cell p 160]) (hp : tmps.getD p undef = .pointer (some ⟨b, 0, none⟩))
    (hr : V.heap[b]? = some (.cells (ecells 0).toArray 160 (0, 0))) (hl : l.length = 9) : (results fn tmps).run Tryz.prog (putL V b l 0) = .ok (.agg l.toArray) (putL V b l 0) := by
  refine results_cell_row h tmps _ b 160 l.toArray (0, 0) _ hp ?_ Tryz.underlying160 rfl (by rw [show l.toArray.size = 9 by simpa using hl]; kernel_rfl)
  have := putL_row b 160 l 0 V _ hr (by rw [hl]; rfl)
  simpa using this
set_option maxHeartbeats 1000000 in
theorem erow_any (op : Int) (w : World) :
    Calls Tryz.prog 104 #[.int .i64 op] w fun e w' => e = .returned (.agg (ecells (ez op)).toArray) ∧ Below w.heap.size w w' := by
  go_enter Tryz.func104, Tryz.ntmps104
  apply wp_seq_k; intro K0 hK0
  have hk : Hid _ := hK0
  clear hK0
  go_wp2
  refine hk.out _ _ ?_
  clear hk K0
  apply wp_seq_k; intro K0 hK0
  have hk : Hid _ := hK0
  clear hK0
  go_wp2
  refine hk.out _ _ ?_
  clear hk K0
  apply wp_seq_k; intro K0 hK0
  have hk : Hid _ := hK0
  clear hK0
  go_wp2
  refine hk.out _ _ ?_
  clear hk K0
  apply wp_seq_k; intro K0 hK0
  have hk : Hid _ := hK0
  clear hK0
  go_wp2
  refine hk.out _ _ ?_
  clear hk K0
  apply wp_seq_k; intro K0 hK0
  have hk : Hid _ := hK0
  clear hK0
  apply wp_region_lit
  refine wpList_frame (a' := actOf (tzs op w.heap.size)) (by kernel_rfl) ?_
  refine wpList_part 70 ?_
  refine runB_ok (t' := tze op w.heap.size) eld (fun j => w.heap.size + (j - 2)) (eld_ok ?_ ?_ ?_) ?_ _ _ (eld_at _ _) (by kernel_rfl)
  · exact (heap_alloc_old _ _ (by simp)).trans ((heap_alloc_old _ _ (by simp)).trans ((heap_at _ _ _ (by simp)).trans (by kernel_rfl)))
  · exact (heap_alloc_old _ _ (by simp)).trans ((heap_at _ _ _ (by simp)).trans (by kernel_rfl))
  · exact (heap_at _ _ _ (by simp)).trans (by kernel_rfl)
  generalize hW : (((w.alloc _).alloc _).alloc _).alloc _ = W at hk ⊢
  refine wpList_allocTo rfl (some 6) rfl (.pointer (some ⟨W.heap.size, 0, none⟩)) (.cells ezeros 163) (by kernel_rfl) ?_
  refine wpList_store_rowTo rfl 163 (.tmp 6) (.tmp 84) rfl rfl W.heap.size erows (tz6 _ _ _) (tz84 _ _ _) 163 ezeros (heap_alloc_last W _) (by kernel_rfl) (by kernel_rfl) (by kernel_rfl) ?_
  apply wpList_nil
  rw [World.setRow_alloc_new]
  refine hk.out _ _ ?_
  clear hk K0
  have hb : Below w.heap.size w W := by
    rw [← hW]
    exact (((((Below.refl _ _).alloc (Nat.le_refl _) _).alloc (by simp) _).alloc (by simp; omega) _).alloc (by simp; omega) _)
  have hr : W.heap[w.heap.size]? = some (.cells (ecells 0).toArray 160 (0, 0)) := by
    rw [← hW]
    exact (heap_alloc_old _ _ (by simp; omega)).trans ((heap_alloc_old _ _ (by simp; omega)).trans ((heap_alloc_old _ _ (by simp)).trans ((heap_at _ _ _ rfl).trans (by kernel_rfl))))
  clear hW
  have hlt : w.heap.size < W.heap.size := (Array.getElem?_eq_some_iff.1 hr).1
  generalize hV : W.alloc (.cells erows 163) = V
  have hbV : Below w.heap.size w V := by rw [← hV]; exact hb.alloc hb.size _
  have hrV : V.heap[w.heap.size]? = some (.cells (ecells 0).toArray 160 (0, 0)) := by rw [← hV]; exact (heap_alloc_old _ _ hlt).trans hr
  have hcV : ∀ j : Nat, V.cell? ⟨W.heap.size, j, none⟩ = erows[j]? := fun j => by rw [← hV]; exact cell_of_row _ _ _ _ _ _ (heap_alloc_last W _)
  clear hV hb hr
  generalize W.heap.size = N at hlt hcV ⊢
  rw [tzf]
  obtain ⟨z0, z1, z2, z3, z4, z5, z6, z7, z8⟩ := row9 hrV
  have f0 := fun j => frozen_of_row V w.heap.size j _ _ hrV
  have y0 := f0 0
  have y1 := f0 1
  have y2 := f0 2
  have y3 := f0 3
  have y4 := f0 4
  have y5 := f0 5
  have y6 := f0 6
  have y7 := f0 7
  have y8 := f0 8
  have hrH : Hid (V.heap[w.heap.size]? = some (.cells (ecells 0).toArray 160 (0, 0))) := hrV
  clear f0 hrV
  by_cases h0 : op < 0
  · rw [ez_no op (.inl h0)]
    go_wp2
    exact bodyPost_ret (v := .agg (ecells 0).toArray) (resRow (l := ecells 0) Tryz.results104 rfl hrH.out rfl) rfl ⟨rfl, putL_below (Nat.le_refl _) (ecells 0) 0 V hbV⟩
  by_cases h1 : 38 ≤ op
  · rw [ez_no op (.inr h1)]
    have h2 : ¬ op < 38 := by omega
    go_wp2
    exact bodyPost_ret (v := .agg (ecells 0).toArray) (resRow (l := ecells 0) Tryz.results104 rfl hrH.out rfl) rfl ⟨rfl, putL_below (Nat.le_refl _) (ecells 0) 0 V hbV⟩
  · obtain ⟨i, rfl⟩ := Int.eq_ofNat_of_zero_le (show 0 ≤ op by omega)
    rw [ez_nat i (by omega)]
    have h2 : (i : Int) < 38 := by omega
    obtain ⟨e0, e1, e2, e3, e4, e5, e6, e7, e8⟩ := erows_at i (by omega)
    have d0 := (hcV _).trans e0
    have d1 := (hcV _).trans e1
    have d2 := (hcV _).trans e2
    have d3 := (hcV _).trans e3
    have d4 := (hcV _).trans e4
    have d5 := (hcV _).trans e5
    have d6 := (hcV _).trans e6
    have d7 := (hcV _).trans e7
    have d8 := (hcV _).trans e8
    clear hcV e0 e1 e2 e3 e4 e5 e6 e7 e8
    go_wp2
    exact bodyPost_ret (v := .agg (ecells i).toArray) (resRow (l := ecells i) Tryz.results104 rfl hrH.out rfl) rfl ⟨rfl, putL_below (Nat.le_refl _) (ecells i) 0 V hbV⟩
end Go.Proofs.YtjkpingdokkkcaaGreatDoor.Tb

/- DevIsBit, DevIsWhole, DevIsReal, and the document's own. Helper text: no statement is claimed here. -/
namespace Go.Proofs.YtjkpingdokkkcaaGreatDoor.Tb
open Go.ChangeShapes Go.WideShapes Go.ChangeAt Go.RowKit
variable {T : Tab}

attribute [local go_sem] field_0 field_1 field_2 field_3 field_4
set_option maxHeartbeats 400000 in
theorem isBit_any (k n p : Int) (w : World) (hT : DevTab T w) :
    Calls Tryz.prog 112 #[.agg #[.int .i64 k, .int .i64 n, .int .i64 p]] w fun e w' => e = .returned (.bool (isB T k n p)) ∧ Below w.heap.size w w' := by
  cases hok : okB T k n p
  · rw [show isB T k n p = false by simp [isB, hok]]
    have hk : Hid (okB T k n p = false) := hok
    clear hok
    go_enter Tryz.func112, Tryz.ntmps112
    go_wp2_with fail
    refine (devOk_any _ _ _ _ (hT.alloc _)).mono ?_
    rintro e w' ⟨rfl, hb⟩
    rw [hk.out]
    go_wp2
    go_ret
    exact ⟨rfl, of_one hb⟩
  · rw [show isB T k n p = rB T (kz k) by simp [isB, hok]]
    have hk : Hid (okB T k n p = true) := hok
    clear hok
    go_enter Tryz.func112, Tryz.ntmps112
    go_wp2_with fail
    refine (devOk_any _ _ _ _ (hT.alloc _)).mono ?_
    rintro e w' ⟨rfl, hb⟩
    rw [hk.out]
    obtain ⟨hc, hf⟩ := bcell hb
    go_wp2_with fail
    refine (rowOf_any _ _ ((hT.alloc _).to hb)).mono ?_
    rintro e w2 ⟨rfl, hb2⟩
    go_wp2
    go_ret
    exact ⟨rfl, of_two hb hb2⟩
set_option maxHeartbeats 400000 in
theorem isWhole_any (k n p : Int) (w : World) (hT : DevTab T w) :
    Calls Tryz.prog 106 #[.agg #[.int .i64 k, .int .i64 n, .int .i64 p]] w fun e w' => e = .returned (.bool (isW T k n p)) ∧ Below w.heap.size w w' := by
  cases hok : okB T k n p
  · rw [show isW T k n p = false by simp [isW, hok]]
    have hk : Hid (okB T k n p = false) := hok
    clear hok
    go_enter Tryz.func106, Tryz.ntmps106
    go_wp2_with fail
    refine (devOk_any _ _ _ _ (hT.alloc _)).mono ?_
    rintro e w' ⟨rfl, hb⟩
    rw [hk.out]
    go_wp2
    go_ret
    exact ⟨rfl, of_one hb⟩
  · rw [show isW T k n p = rW T (kz k) by simp [isW, hok]]
    have hk : Hid (okB T k n p = true) := hok
    clear hok
    go_enter Tryz.func106, Tryz.ntmps106
    go_wp2_with fail
    refine (devOk_any _ _ _ _ (hT.alloc _)).mono ?_
    rintro e w' ⟨rfl, hb⟩
    rw [hk.out]
    obtain ⟨hc, hf⟩ := bcell hb
    go_wp2_with fail
    refine (rowOf_any _ _ ((hT.alloc _).to hb)).mono ?_
    rintro e w2 ⟨rfl, hb2⟩
    go_wp2
    go_ret
    exact ⟨rfl, of_two hb hb2⟩
set_option maxHeartbeats 400000 in
theorem isReal_any (k n p : Int) (w : World) (hT : DevTab T w) :
    Calls Tryz.prog 107 #[.agg #[.int .i64 k, .int .i64 n, .int .i64 p]] w fun e w' => e = .returned (.bool (isR T k n p)) ∧ Below w.heap.size w w' := by
  cases hok : okB T k n p
  · rw [show isR T k n p = false by simp [isR, hok]]
    have hk : Hid (okB T k n p = false) := hok
    clear hok
    go_enter Tryz.func107, Tryz.ntmps107
    go_wp2_with fail
    refine (devOk_any _ _ _ _ (hT.alloc _)).mono ?_
    rintro e w' ⟨rfl, hb⟩
    rw [hk.out]
    go_wp2
    go_ret
    exact ⟨rfl, of_one hb⟩
  · rw [show isR T k n p = rR T (kz k) by simp [isR, hok]]
    have hk : Hid (okB T k n p = true) := hok
    clear hok
    go_enter Tryz.func107, Tryz.ntmps107
    go_wp2_with fail
    refine (devOk_any _ _ _ _ (hT.alloc _)).mono ?_
    rintro e w' ⟨rfl, hb⟩
    rw [hk.out]
    obtain ⟨hc, hf⟩ := bcell hb
    go_wp2_with fail
    refine (rowOf_any _ _ ((hT.alloc _).to hb)).mono ?_
    rintro e w2 ⟨rfl, hb2⟩
    go_wp2
    go_ret
    exact ⟨rfl, of_two hb hb2⟩
end Go.Proofs.YtjkpingdokkkcaaGreatDoor.Tb


/- Which operands may stand at a place: the program's functions. Helper text: no statement is claimed here. -/
namespace Go.Proofs.YtjkpingdokkkcaaGreatDoor.Tb
open Go.ChangeShapes Go.WideShapes Go.ChangeAt Go.RowKit
variable {T : Tab}

theorem mem_upto {ks : List Int} {k : Int} {j : Nat} (h : j < ks.length) (hno : ∀ i, i < j → ks.getD i 0 ≠ k) (hj : ks.getD j 0 ≠ k) : ∀ i, i < j + 1 → ks.getD i 0 ≠ k := fun i hi => by
  rcases Nat.lt_or_ge i j with h' | h'
  · exact hno i h'
  · obtain rfl : i = j := by omega
    exact hj
theorem contains_no {ks : List Int} {k : Int} (hno : ∀ i, i < ks.length → ks.getD i 0 ≠ k) : hasK ks k = false := by
  unfold hasK
  rw [Bool.eq_false_iff]
  intro h
  obtain ⟨i, hi, e⟩ := List.mem_iff_getElem.1 (List.contains_iff_mem.1 h)
  exact hno i hi (by simp [List.getD, hi, e])
theorem contains_yes {ks : List Int} {k : Int} {j : Nat} (h : j < ks.length) (hj : ks.getD j 0 = k) : hasK ks k = true := by
  unfold hasK
  rw [List.contains_iff_mem, List.mem_iff_getElem]
  exact ⟨j, h, by simpa [List.getD, h] using hj⟩
/-- Whole numbers that lie in a row of cells. -/
def IntsAt (w : World) (b : Nat) (ks : List Int) : Prop := ∀ i, i < ks.length → w.cell? ⟨b, i, none⟩ = some (.int .i64 (ks.getD i 0))
set_option maxHeartbeats 400000 in
theorem index_any (ks : List Int) (b : Nat) (k : Int) (w : World) (hl : ks.length ≤ 5) (hc : IntsAt w b ks) :
    Calls Tryz.prog 127 #[.slice (some ⟨b, 0, none⟩) ks.length ks.length, .int .i64 k] w fun e w' => (∃ v : Int, e = .returned (.int .i64 v) ∧ Hid (decide (0 ≤ v) = hasK ks k)) ∧ w' = w := by
  have HC : Hid (IntsAt w b ks) := hc
  clear hc
  go_enter Tryz.func127, Tryz.ntmps127
  go_wp2
  go_loopw [8] (fun c w' => ∃ j : Nat, j ≤ ks.length ∧ c = .int .i64 (j : Int) ∧ w' = w ∧ ∀ i, i < j → ks.getD i 0 ≠ k) (fun c _ => ks.length - (intOf c).toNat)
  case atStart => exact ⟨0, by omega, rfl, rfl, fun i hi => by omega⟩
  case round =>
    obtain ⟨j, hj, rfl, rfl, hno⟩ := hrel
    have HN : Hid (∀ i, i < j → ks.getD i 0 ≠ k) := hno
    clear hno
    by_cases hlt : j < ks.length
    · have hlt' : (j : Int) < ks.length := by omega
      have hcell := HC.out j hlt
      generalize hg : ks.getD j 0 = g at hcell
      have HG : Hid (ks.getD j 0 = g) := hg
      clear hg
      by_cases he : k = g
      · have he' : (k == g) = true := by simpa using he
        have HE : Hid (k = g) := he
        clear he
        go_wp2
        go_ret
        refine ⟨⟨_, rfl, ?_⟩, by trivial⟩
        show decide _ = _
        rw [contains_yes hlt (HG.out.trans HE.out.symm)]
        simp
      · have he' : (k == g) = false := by simpa using he
        have HE : Hid (k ≠ g) := he
        clear he
        go_wp2
        exact ⟨⟨j + 1, by omega, by go_num, by trivial, mem_upto hlt HN.out (by rw [HG.out]; exact fun h => HE.out h.symm)⟩, by simp [intOf]; omega⟩
    · have hlt' : ¬ (j : Int) < ks.length := by omega
      go_wp2
      go_ret
      refine ⟨⟨-1, rfl, ?_⟩, by trivial⟩
      show decide _ = _
      rw [contains_no (fun i hi => HN.out i (by omega))]
      rfl
set_option maxHeartbeats 400000 in
theorem contains_any (ks : List Int) (b : Nat) (k : Int) (w : World) (hl : ks.length ≤ 5) (hc : IntsAt w b ks) :
    Calls Tryz.prog 126 #[.slice (some ⟨b, 0, none⟩) ks.length ks.length, .int .i64 k] w fun e w' => e = .returned (.bool (hasK ks k)) ∧ w' = w := by
  go_enter Tryz.func126, Tryz.ntmps126
  go_wp2_with fail
  refine (index_any ks b k _ hl hc).mono ?_
  rintro e w' ⟨⟨v, rfl, HV⟩, rfl⟩
  go_wp2
  go_ret
  exact ⟨by rw [← HV.out]; rfl, rfl⟩
set_option maxHeartbeats 400000 in
theorem isOf_any (ks : List Int) (b : Nat) (k n p : Int) (w : World) (hT : DevTab T w) (hl : ks.length ≤ 5) (hc : IntsAt w b ks) (hb0 : b < w.heap.size) :
    Calls Tryz.prog 122 #[.agg #[.int .i64 k, .int .i64 n, .int .i64 p], .slice (some ⟨b, 0, none⟩) ks.length ks.length] w fun e w' => e = .returned (.bool (kinB T ks k n p)) ∧ Below w.heap.size w w' := by
  have HC : Hid (IntsAt w b ks) := hc
  clear hc
  cases hok : okB T k n p
  · rw [show kinB T ks k n p = false by simp [kinB, hok]]
    have hk : Hid (okB T k n p = false) := hok
    clear hok
    go_enter Tryz.func122, Tryz.ntmps122
    go_wp2_with fail
    refine (devOk_any _ _ _ _ (hT.alloc _)).mono ?_
    rintro e w' ⟨rfl, hb⟩
    rw [hk.out]
    go_wp2
    go_ret
    exact ⟨rfl, of_one hb⟩
  · rw [show kinB T ks k n p = hasK ks k by simp [kinB, hok]]
    have hk : Hid (okB T k n p = true) := hok
    clear hok
    go_enter Tryz.func122, Tryz.ntmps122
    go_wp2_with fail
    refine (devOk_any _ _ _ _ (hT.alloc _)).mono ?_
    rintro e w' ⟨rfl, hb⟩
    rw [hk.out]
    have HB : Hid (Below w.heap.size w w') := of_one hb
    obtain ⟨hc, hf⟩ := bcell hb
    go_wp2_with fail
    refine (contains_any ks b k _ hl (fun i hi => by rw [HB.out.cell (p := ⟨b, i, none⟩) hb0]; exact HC.out i hi)).mono ?_
    rintro e w2 ⟨rfl, rfl⟩
    go_wp2
    go_ret
    exact ⟨rfl, HB.out⟩
theorem of_both {w w' : World} {o1 o2 : Obj} (h : Below ((w.alloc o1).alloc o2).heap.size ((w.alloc o1).alloc o2) w') : Below w.heap.size w w' := of_one (of_one h)
theorem ints_4 (w : World) : IntsAt (w.alloc (.cells #[.int .i64 5] 3)) w.heap.size [5] := fun i hi => by
  have : i < 1 := hi
  rw [World.cell?_alloc_mark]
  match i, this with
  | 0, _ => rfl
set_option maxHeartbeats 400000 in
theorem fit_4 (k n p : Int) (w : World) (hT : DevTab T w) :
    Calls Tryz.prog 113 #[.agg #[.int .i64 k, .int .i64 n, .int .i64 p]] w fun e w' => e = .returned (.bool (kinB T [5] k n p)) ∧ Below w.heap.size w w' := by
  go_enter Tryz.func113, Tryz.ntmps113
  go_wp2_with fail
  refine (isOf_any [5] (w.heap.size + 1) k n p _ ((hT.alloc _).alloc _) (by simp) (by have := ints_4 (w.alloc (argO k n p)); simpa using this) (by simp)).mono ?_
  rintro e w' ⟨rfl, hb⟩
  go_wp2
  go_ret
  exact ⟨rfl, of_both hb⟩
theorem ints_5 (w : World) : IntsAt (w.alloc (.cells #[.int .i64 4] 3)) w.heap.size [4] := fun i hi => by
  have : i < 1 := hi
  rw [World.cell?_alloc_mark]
  match i, this with
  | 0, _ => rfl
set_option maxHeartbeats 400000 in
theorem fit_5 (k n p : Int) (w : World) (hT : DevTab T w) :
    Calls Tryz.prog 117 #[.agg #[.int .i64 k, .int .i64 n, .int .i64 p]] w fun e w' => e = .returned (.bool (kinB T [4] k n p)) ∧ Below w.heap.size w w' := by
  go_enter Tryz.func117, Tryz.ntmps117
  go_wp2_with fail
  refine (isOf_any [4] (w.heap.size + 1) k n p _ ((hT.alloc _).alloc _) (by simp) (by have := ints_5 (w.alloc (argO k n p)); simpa using this) (by simp)).mono ?_
  rintro e w' ⟨rfl, hb⟩
  go_wp2
  go_ret
  exact ⟨rfl, of_both hb⟩
theorem ints_6 (w : World) : IntsAt (w.alloc (.cells #[.int .i64 7] 3)) w.heap.size [7] := fun i hi => by
  have : i < 1 := hi
  rw [World.cell?_alloc_mark]
  match i, this with
  | 0, _ => rfl
set_option maxHeartbeats 400000 in
theorem fit_6 (k n p : Int) (w : World) (hT : DevTab T w) :
    Calls Tryz.prog 108 #[.agg #[.int .i64 k, .int .i64 n, .int .i64 p]] w fun e w' => e = .returned (.bool (kinB T [7] k n p)) ∧ Below w.heap.size w w' := by
  go_enter Tryz.func108, Tryz.ntmps108
  go_wp2_with fail
  refine (isOf_any [7] (w.heap.size + 1) k n p _ ((hT.alloc _).alloc _) (by simp) (by have := ints_6 (w.alloc (argO k n p)); simpa using this) (by simp)).mono ?_
  rintro e w' ⟨rfl, hb⟩
  go_wp2
  go_ret
  exact ⟨rfl, of_both hb⟩
theorem ints_7 (w : World) : IntsAt (w.alloc (.cells #[.int .i64 8] 3)) w.heap.size [8] := fun i hi => by
  have : i < 1 := hi
  rw [World.cell?_alloc_mark]
  match i, this with
  | 0, _ => rfl
set_option maxHeartbeats 400000 in
theorem fit_7 (k n p : Int) (w : World) (hT : DevTab T w) :
    Calls Tryz.prog 118 #[.agg #[.int .i64 k, .int .i64 n, .int .i64 p]] w fun e w' => e = .returned (.bool (kinB T [8] k n p)) ∧ Below w.heap.size w w' := by
  go_enter Tryz.func118, Tryz.ntmps118
  go_wp2_with fail
  refine (isOf_any [8] (w.heap.size + 1) k n p _ ((hT.alloc _).alloc _) (by simp) (by have := ints_7 (w.alloc (argO k n p)); simpa using this) (by simp)).mono ?_
  rintro e w' ⟨rfl, hb⟩
  go_wp2
  go_ret
  exact ⟨rfl, of_both hb⟩
theorem ints_8 (w : World) : IntsAt (w.alloc (.cells #[.int .i64 9] 3)) w.heap.size [9] := fun i hi => by
  have : i < 1 := hi
  rw [World.cell?_alloc_mark]
  match i, this with
  | 0, _ => rfl
set_option maxHeartbeats 400000 in
theorem fit_8 (k n p : Int) (w : World) (hT : DevTab T w) :
    Calls Tryz.prog 110 #[.agg #[.int .i64 k, .int .i64 n, .int .i64 p]] w fun e w' => e = .returned (.bool (kinB T [9] k n p)) ∧ Below w.heap.size w w' := by
  go_enter Tryz.func110, Tryz.ntmps110
  go_wp2_with fail
  refine (isOf_any [9] (w.heap.size + 1) k n p _ ((hT.alloc _).alloc _) (by simp) (by have := ints_8 (w.alloc (argO k n p)); simpa using this) (by simp)).mono ?_
  rintro e w' ⟨rfl, hb⟩
  go_wp2
  go_ret
  exact ⟨rfl, of_both hb⟩
theorem ints_9 (w : World) : IntsAt (w.alloc (.cells #[.int .i64 10] 3)) w.heap.size [10] := fun i hi => by
  have : i < 1 := hi
  rw [World.cell?_alloc_mark]
  match i, this with
  | 0, _ => rfl
set_option maxHeartbeats 400000 in
theorem fit_9 (k n p : Int) (w : World) (hT : DevTab T w) :
    Calls Tryz.prog 111 #[.agg #[.int .i64 k, .int .i64 n, .int .i64 p]] w fun e w' => e = .returned (.bool (kinB T [10] k n p)) ∧ Below w.heap.size w w' := by
  go_enter Tryz.func111, Tryz.ntmps111
  go_wp2_with fail
  refine (isOf_any [10] (w.heap.size + 1) k n p _ ((hT.alloc _).alloc _) (by simp) (by have := ints_9 (w.alloc (argO k n p)); simpa using this) (by simp)).mono ?_
  rintro e w' ⟨rfl, hb⟩
  go_wp2
  go_ret
  exact ⟨rfl, of_both hb⟩
theorem ints_10 (w : World) : IntsAt (w.alloc (.cells #[.int .i64 2, .int .i64 3] 3)) w.heap.size [2, 3] := fun i hi => by
  have : i < 2 := hi
  rw [World.cell?_alloc_mark]
  match i, this with
  | 0, _ => rfl
  | 1, _ => rfl
set_option maxHeartbeats 400000 in
theorem fit_10 (k n p : Int) (w : World) (hT : DevTab T w) :
    Calls Tryz.prog 114 #[.agg #[.int .i64 k, .int .i64 n, .int .i64 p]] w fun e w' => e = .returned (.bool (kinB T [2, 3] k n p)) ∧ Below w.heap.size w w' := by
  go_enter Tryz.func114, Tryz.ntmps114
  go_wp2_with fail
  refine (isOf_any [2, 3] (w.heap.size + 1) k n p _ ((hT.alloc _).alloc _) (by simp) (by have := ints_10 (w.alloc (argO k n p)); simpa using this) (by simp)).mono ?_
  rintro e w' ⟨rfl, hb⟩
  go_wp2
  go_ret
  exact ⟨rfl, of_both hb⟩
theorem ints_11 (w : World) : IntsAt (w.alloc (.cells #[.int .i64 2, .int .i64 3, .int .i64 4] 3)) w.heap.size [2, 3, 4] := fun i hi => by
  have : i < 3 := hi
  rw [World.cell?_alloc_mark]
  match i, this with
  | 0, _ => rfl
  | 1, _ => rfl
  | 2, _ => rfl
set_option maxHeartbeats 400000 in
theorem fit_11 (k n p : Int) (w : World) (hT : DevTab T w) :
    Calls Tryz.prog 115 #[.agg #[.int .i64 k, .int .i64 n, .int .i64 p]] w fun e w' => e = .returned (.bool (kinB T [2, 3, 4] k n p)) ∧ Below w.heap.size w w' := by
  go_enter Tryz.func115, Tryz.ntmps115
  go_wp2_with fail
  refine (isOf_any [2, 3, 4] (w.heap.size + 1) k n p _ ((hT.alloc _).alloc _) (by simp) (by have := ints_11 (w.alloc (argO k n p)); simpa using this) (by simp)).mono ?_
  rintro e w' ⟨rfl, hb⟩
  go_wp2
  go_ret
  exact ⟨rfl, of_both hb⟩
theorem ints_12 (w : World) : IntsAt (w.alloc (.cells #[.int .i64 2, .int .i64 3, .int .i64 4, .int .i64 7, .int .i64 8] 3)) w.heap.size [2, 3, 4, 7, 8] := fun i hi => by
  have : i < 5 := hi
  rw [World.cell?_alloc_mark]
  match i, this with
  | 0, _ => rfl
  | 1, _ => rfl
  | 2, _ => rfl
  | 3, _ => rfl
  | 4, _ => rfl
set_option maxHeartbeats 400000 in
theorem fit_12 (k n p : Int) (w : World) (hT : DevTab T w) :
    Calls Tryz.prog 116 #[.agg #[.int .i64 k, .int .i64 n, .int .i64 p]] w fun e w' => e = .returned (.bool (kinB T [2, 3, 4, 7, 8] k n p)) ∧ Below w.heap.size w w' := by
  go_enter Tryz.func116, Tryz.ntmps116
  go_wp2_with fail
  refine (isOf_any [2, 3, 4, 7, 8] (w.heap.size + 1) k n p _ ((hT.alloc _).alloc _) (by simp) (by have := ints_12 (w.alloc (argO k n p)); simpa using this) (by simp)).mono ?_
  rintro e w' ⟨rfl, hb⟩
  go_wp2
  go_ret
  exact ⟨rfl, of_both hb⟩
theorem ints_13 (w : World) : IntsAt (w.alloc (.cells #[.int .i64 11] 3)) w.heap.size [11] := fun i hi => by
  have : i < 1 := hi
  rw [World.cell?_alloc_mark]
  match i, this with
  | 0, _ => rfl
set_option maxHeartbeats 400000 in
theorem fit_13 (k n p : Int) (w : World) (hT : DevTab T w) :
    Calls Tryz.prog 109 #[.agg #[.int .i64 k, .int .i64 n, .int .i64 p]] w fun e w' => e = .returned (.bool (kinB T [11] k n p && decide (0 ≤ n))) ∧ Below w.heap.size w w' := by
  cases hk0 : kinB T [11] k n p
  all_goals
    have HK : Hid _ := hk0
    clear hk0
    go_enter Tryz.func109, Tryz.ntmps109
    go_wp2_with fail
    refine (isOf_any [11] (w.heap.size + 1) k n p _ ((hT.alloc _).alloc _) (by simp) (by have := ints_13 (w.alloc (argO k n p)); simpa using this) (by simp)).mono ?_
    rintro e w' ⟨rfl, hb⟩
    rw [HK.out]
    have HB : Hid (Below w.heap.size w w') := of_both hb
    obtain ⟨hc, hf⟩ := bcell hb
    go_wp2
    go_ret
    exact ⟨rfl, HB.out⟩
theorem fit_any (c : Nat) (k n p : Int) (w : World) (hT : DevTab T w) (h1 : 1 ≤ c) (h2 : c ≤ 13) :
    Calls Tryz.prog (fid c) #[.agg #[.int .i64 k, .int .i64 n, .int .i64 p]] w fun e w' => e = .returned (.bool (fitB T c k n p)) ∧ Below w.heap.size w w' :=
  match c, h1, h2 with
  | 1, _, _ => isBit_any k n p w hT
  | 2, _, _ => isWhole_any k n p w hT
  | 3, _, _ => isReal_any k n p w hT
  | 4, _, _ => fit_4 k n p w hT
  | 5, _, _ => fit_5 k n p w hT
  | 6, _, _ => fit_6 k n p w hT
  | 7, _, _ => fit_7 k n p w hT
  | 8, _, _ => fit_8 k n p w hT
  | 9, _, _ => fit_9 k n p w hT
  | 10, _, _ => fit_10 k n p w hT
  | 11, _, _ => fit_11 k n p w hT
  | 12, _, _ => fit_12 k n p w hT
  | 13, _, _ => fit_13 k n p w hT
theorem fid_enters (c : Nat) (h1 : 1 ≤ c) (h2 : c ≤ 13) (args : Array Value) (w : World) : (callFunc (fid c) args).run Tryz.prog w = .ok (.enter (fid c) args) w :=
  match c, h1, h2 with
  | 1, _, _ => by kernel_rfl
  | 2, _, _ => by kernel_rfl
  | 3, _, _ => by kernel_rfl
  | 4, _, _ => by kernel_rfl
  | 5, _, _ => by kernel_rfl
  | 6, _, _ => by kernel_rfl
  | 7, _, _ => by kernel_rfl
  | 8, _, _ => by kernel_rfl
  | 9, _, _ => by kernel_rfl
  | 10, _, _ => by kernel_rfl
  | 11, _, _ => by kernel_rfl
  | 12, _, _ => by kernel_rfl
  | 13, _, _ => by kernel_rfl
end Go.Proofs.YtjkpingdokkkcaaGreatDoor.Tb
