/- The copying and comparing of contacts and coils in the exact laws. Helper text: no statement is claimed here. -/
import Derived.Test.YtleopmhllbaalagDoorLc
import Derived.Test.YtleopmhllbaalagDoorOa
import Derived.Test.YtleopmhllbaalagDoorLr
import Derived.Laws.MakeOwn
namespace Go.Proofs.YtleopmhllbaalagDoor
open Go.ChangeShapes Go.WideShapes Go.ChangeAt Go.RowKit

/-- Operands that came in, at whatever place of their memory. -/
def ArgsIn (w : World) (p : Option Addr) (ys : List Ar) : Prop := ys = [] ∨ ∃ b off, p = some ⟨b, off, none⟩ ∧ b < w.heap.size ∧
  ∀ i, i < ys.length → w.cell? ⟨b, off + i * 3, none⟩ = some (.int .i64 (at3 ys i).1) ∧ w.cell? ⟨b, off + i * 3 + 1, none⟩ = some (.int .i64 (at3 ys i).2.1) ∧ w.cell? ⟨b, off + i * 3 + 2, none⟩ = some (.int .i64 (at3 ys i).2.2)
theorem ArgsIn.to {w w' : World} {p : Option Addr} {ys : List Ar} (h : ArgsIn w p ys) (hb : Below w.heap.size w w') : ArgsIn w' p ys := by
  rcases h with h | ⟨b, off, rfl, hlt, h⟩
  · exact .inl h
  · refine .inr ⟨b, off, rfl, Nat.lt_of_lt_of_le hlt hb.size, fun i hi => ?_⟩
    rw [hb.cell (p := ⟨b, off + i * 3, none⟩) hlt, hb.cell (p := ⟨b, off + i * 3 + 1, none⟩) hlt, hb.cell (p := ⟨b, off + i * 3 + 2, none⟩) hlt]
    exact h i hi
theorem ArgsAt.is {w : World} {b : Nat} {ys : List Ar} (h : ArgsAt w b ys) (hl : b < w.heap.size) : ArgsIs w (some ⟨b, 0, none⟩) ys := .inr ⟨b, rfl, hl, h⟩

set_option maxHeartbeats 400000 in
theorem toDevArg_any (k n p : Int) (w : World) :
    Calls Tryd.prog 34 #[.agg #[.int .i64 k, .int .i64 n, .int .i64 p]] w fun e w' => e = .returned (.agg #[.int .i64 k, .int .i64 n, .int .i64 p]) ∧ Below w.heap.size w w' := by
  go_enter Tryd.func34, Tryd.ntmps34
  go_wp2
  exact bodyPost_ret (v := .agg #[.int .i64 k, .int .i64 n, .int .i64 p]) (resArg (b := w.heap.size + 1) Tryd.results34 rfl ⟨by simp [go_sem], by simp [go_sem], by simp [go_sem]⟩) rfl ⟨rfl, ((one _ _).alloc (by simp) _).alloc (by simp; omega) _⟩

/-- A row of cells of the call's own, the first j operands filled. -/
def Filled (w : World) (B : Nat) (ys : List Ar) (j : Nat) : Prop := ∃ cs : Array Value, w.heap[B]? = some (.cells cs 38 (0, 0)) ∧ cs.size = ys.length * 3 ∧
  ∀ i, i < j → cs[i * 3]? = some (.int .i64 (at3 ys i).1) ∧ cs[i * 3 + 1]? = some (.int .i64 (at3 ys i).2.1) ∧ cs[i * 3 + 2]? = some (.int .i64 (at3 ys i).2.2)
theorem Filled.lt {w : World} {B : Nat} {ys : List Ar} {j : Nat} (h : Filled w B ys j) : B < w.heap.size := by
  obtain ⟨cs, h1, _⟩ := h
  exact (Array.getElem?_eq_some_iff.1 h1).1
theorem Filled.to {w w' : World} {B : Nat} {ys : List Ar} {j : Nat} (h : Filled w B ys j) (hb : Below w.heap.size w w') : Filled w' B ys j := by
  have hl := h.lt
  obtain ⟨cs, h1, h2⟩ := h
  exact ⟨cs, (hb.block B hl).trans h1, h2⟩
theorem Filled.cell {w : World} {B : Nat} {ys : List Ar} {j : Nat} (h : Filled w B ys j) {k : Nat} (hk : k < ys.length * 3) : ∃ v, w.cell? ⟨B, k, none⟩ = some v ∧ w.frozen? ⟨B, k, none⟩ = false := by
  obtain ⟨cs, h1, h2, _⟩ := h
  exact ⟨cs[k]'(by omega), (cell_of_row _ _ _ _ _ _ h1).trans (by simp [show k < cs.size by omega]), frozen_of_row _ _ _ _ _ h1⟩
theorem Filled.put {w : World} {B : Nat} {ys : List Ar} {j : Nat} (h : Filled w B ys j) (hj : j < ys.length) :
    Filled (((w.setCell ⟨B, j * 3, none⟩ (.int .i64 (at3 ys j).1)).setCell ⟨B, j * 3 + 1, none⟩ (.int .i64 (at3 ys j).2.1)).setCell ⟨B, j * 3 + 2, none⟩ (.int .i64 (at3 ys j).2.2)) B ys (j + 1) := by
  obtain ⟨cs, h1, h2, h3⟩ := h
  refine ⟨_, heap_setCell_same _ _ _ _ _ _ (heap_setCell_same _ _ _ _ _ _ (heap_setCell_same _ _ _ _ _ _ h1)), by simpa using h2, fun i hi => ?_⟩
  by_cases he : i = j
  · subst he
    refine ⟨?_, ?_, ?_⟩
    · simp only [Array.getElem?_setIfInBounds, Array.size_setIfInBounds]
      rw [if_neg (by omega), if_neg (by omega), if_pos trivial, if_pos (by omega)]
    · simp only [Array.getElem?_setIfInBounds, Array.size_setIfInBounds]
      rw [if_neg (by omega), if_pos trivial, if_pos (by omega)]
    · simp only [Array.getElem?_setIfInBounds, Array.size_setIfInBounds]
      rw [if_pos trivial, if_pos (by omega)]
  · obtain ⟨a, b, c⟩ := h3 i (by omega)
    refine ⟨?_, ?_, ?_⟩
    · simp only [Array.getElem?_setIfInBounds, Array.size_setIfInBounds]
      rw [if_neg (by omega), if_neg (by omega), if_neg (by omega)]; exact a
    · simp only [Array.getElem?_setIfInBounds, Array.size_setIfInBounds]
      rw [if_neg (by omega), if_neg (by omega), if_neg (by omega)]; exact b
    · simp only [Array.getElem?_setIfInBounds, Array.size_setIfInBounds]
      rw [if_neg (by omega), if_neg (by omega), if_neg (by omega)]; exact c
theorem put3_below' {w w1 : World} {x y z : Value} {i j k : Nat} (h : Below w.heap.size w w1) : Below w.heap.size w (((w1.setCell ⟨w.heap.size, i, none⟩ x).setCell ⟨w.heap.size, j, none⟩ y).setCell ⟨w.heap.size, k, none⟩ z) :=
  ((h.setCell (p := ⟨w.heap.size, i, none⟩) (Nat.le_refl _) _).setCell (p := ⟨w.heap.size, j, none⟩) (Nat.le_refl _) _).setCell (p := ⟨w.heap.size, k, none⟩) (Nat.le_refl _) _
theorem Filled.args {w : World} {B : Nat} {ys : List Ar} (h : Filled w B ys ys.length) : ArgsAt w B ys := by
  obtain ⟨cs, h1, h2, h3⟩ := h
  intro i hi
  obtain ⟨a, b, c⟩ := h3 i hi
  exact ⟨(cell_of_row _ _ _ _ _ _ h1).trans a, (cell_of_row _ _ _ _ _ _ h1).trans b, (cell_of_row _ _ _ _ _ _ h1).trans c⟩
theorem iArg : (Tryd.prog.info? 38).map (fun i => (i.zero, i.size, i.bytes)) = some (some (.agg #[.int .i64 0, .int .i64 0, .int .i64 0]), 3, 24) := by kernel_rfl
theorem make_args (n : Nat) (hn : n ≤ 2000000) (w : World) : ∃ M : Array Value, M.size = n * 3 ∧ (Instr.makeSlice 27 (.int .i64 (n : Int)) (.int .i64 (n : Int))).run Tryd.prog w = .ok (.slice (some ⟨w.heap.size, 0, none⟩) n n) (w.alloc (.cells M 38)) := by
  obtain ⟨i, hi, hz⟩ := Option.map_eq_some_iff.1 iArg
  simp only [Prod.mk.injEq] at hz
  refine ⟨madeCells (Value.cells (.agg #[.int .i64 0, .int .i64 0, .int .i64 0])) (n * 3), size_madeCells _ _, ?_⟩
  have := run_make (P := Tryd.prog) w 27 38 i _ Tryd.underlying27 hi hz.1 .i64 .i64 n n (by omega) (Int.le_refl _) (by rw [hz.2.2]; omega) (by omega)
  rw [hz.2.1] at this
  simpa using this

set_option maxHeartbeats 1000000 in
theorem toArgs_any (ys : List Ar) (p : Option Addr) (cap : Nat) (w : World) (hA : ArgsIn w p ys) (_hlc : ys.length ≤ cap) (hbd : ys.length ≤ 1048576) :
    Calls Tryd.prog 15 #[.slice p ys.length cap] w fun e w' => e = .returned (.slice (some ⟨w.heap.size, 0, none⟩) ys.length ys.length) ∧ Below w.heap.size w w' ∧ Filled w' w.heap.size ys ys.length := by
  have HA : Hid (ArgsIn w p ys) := hA
  obtain ⟨M, hM, hmk⟩ := make_args ys.length (by omega) w
  have HF : Hid (Filled (w.alloc (.cells M 38)) w.heap.size ys 0) := ⟨M, heap_alloc_last w _, hM, fun i hi => by omega⟩
  have HB : Hid (Below w.heap.size w (w.alloc (.cells M 38))) := one w _
  clear hA hM
  go_enter Tryd.func15, Tryd.ntmps15
  go_wp2
  generalize w.alloc (.cells M 38) = V at *
  clear hmk
  go_loopw [4] (fun c w' => ∃ j : Nat, j ≤ ys.length ∧ c = .int .i64 (j : Int) ∧ Hid (Below w.heap.size w w') ∧ Hid (Filled w' w.heap.size ys j)) (fun c _ => ys.length - (intOf c).toNat)
  case atStart => exact ⟨0, by omega, rfl, HB, HF⟩
  case round =>
    obtain ⟨j, hj, rfl, HBr, HFr⟩ := hrel
    rename_i wr
    clear HB HF
    by_cases hlt : j < ys.length
    · have hlt' : (j : Int) < (ys.length : Int) := by omega
      rcases HA.out.to HBr.out with hnil | ⟨b, off, rfl, hbl, hAt⟩
      · rw [hnil] at hlt; simp at hlt
      obtain ⟨a0, a1, a2⟩ := hAt j hlt
      clear hAt
      have HP : Hid (∀ W, Filled W w.heap.size ys j → Filled (((W.setCell ⟨w.heap.size, j * 3, none⟩ (.int .i64 (at3 ys j).1)).setCell ⟨w.heap.size, j * 3 + 1, none⟩ (.int .i64 (at3 ys j).2.1)).setCell ⟨w.heap.size, j * 3 + 2, none⟩ (.int .i64 (at3 ys j).2.2)) w.heap.size ys (j + 1)) := fun W h => h.put hlt
      generalize (at3 ys j).1 = k at *
      generalize (at3 ys j).2.1 = n at *
      generalize (at3 ys j).2.2 = p at *
      go_wp2_with fail
      refine (toDevArg_any k n p _).mono ?_
      rintro e w1 ⟨rfl, hb1⟩
      have HF1 : Hid (Filled w1 w.heap.size ys j) := HFr.out.to hb1
      have HB1 : Hid (Below w.heap.size w w1) := HBr.out.trans (hb1.mono HBr.out.size)
      obtain ⟨v0, c0, f0⟩ := HF1.out.cell (k := j * 3) (by omega)
      obtain ⟨v1, c1, f1⟩ := HF1.out.cell (k := j * 3 + 1) (by omega)
      obtain ⟨v2, c2, f2⟩ := HF1.out.cell (k := j * 3 + 2) (by omega)
      clear hb1
      go_wp2
      exact ⟨⟨j + 1, by omega, by go_num, put3_below' HB1.out, HP.out w1 HF1.out⟩, by simp [intOf]; omega⟩
    · obtain rfl : j = ys.length := by omega
      go_wp2
      go_ret
      exact ⟨rfl, HBr.out, HFr.out⟩

theorem Filled.set {w : World} {B : Nat} {ys : List Ar} {j c i : Nat} {v : Value} (h : Filled w B ys j) (hc : B ≠ c) : Filled (w.setCell ⟨c, i, none⟩ v) B ys j := by
  obtain ⟨cs, h1, h2⟩ := h
  exact ⟨cs, (heap_setCell_other w ⟨c, i, none⟩ B v hc).trans h1, h2⟩

set_option maxHeartbeats 400000 in
theorem toElem_any (op : Int) (ys : List Ar) (p : Option Addr) (cap : Nat) (w : World) (hA : ArgsIn w p ys) (hlc : ys.length ≤ cap) (hbd : ys.length ≤ 1048576) :
    Calls Tryd.prog 6 #[.agg #[.int .i64 op, .slice p ys.length cap]] w fun e w' => ∃ B, e = .returned (.agg #[.int .i64 op, .slice (some ⟨B, 0, none⟩) ys.length ys.length]) ∧ Below w.heap.size w w' ∧ w.heap.size ≤ B ∧ B < w'.heap.size ∧ ArgsAt w' B ys := by
  have HA : Hid (ArgsIn w p ys) := hA
  clear hA
  go_enter Tryd.func6, Tryd.ntmps6
  go_wp2_with fail
  have HBa : Hid (Below w.heap.size w (((w.alloc (.cells #[.int .i64 op, .slice p ys.length cap] 24)).alloc (.cells #[.int .i64 0, .slice none 0 0] 29)).alloc (.cells #[.int .i64 op, .slice none 0 0] 29))) := ((one _ _).alloc (by simp) _).alloc (by simp; omega) _
  have HS : Hid ((((w.alloc (.cells #[.int .i64 op, .slice p ys.length cap] 24)).alloc (.cells #[.int .i64 0, .slice none 0 0] 29)).alloc (.cells #[.int .i64 op, .slice none 0 0] 29)).heap.size = w.heap.size + 3) := by
    show _ = _
    simp
  have r0 := heap_alloc2_old (w.alloc (.cells #[.int .i64 op, .slice p ys.length cap] 24)) (.cells #[.int .i64 0, .slice none 0 0] 29) (.cells #[.int .i64 op, .slice none 0 0] 29)
  have o0 := heap_alloc2_new (w.alloc (.cells #[.int .i64 op, .slice p ys.length cap] 24)) (.cells #[.int .i64 0, .slice none 0 0] 29) (.cells #[.int .i64 op, .slice none 0 0] 29)
  rw [World.size_alloc] at r0 o0
  generalize ((w.alloc (.cells #[.int .i64 op, .slice p ys.length cap] 24)).alloc (.cells #[.int .i64 0, .slice none 0 0] 29)).alloc (.cells #[.int .i64 op, .slice none 0 0] 29) = V at *
  refine (toArgs_any ys p cap V (HA.out.to HBa.out) hlc hbd).mono ?_
  rintro e w1 ⟨rfl, hb1, hF⟩
  have HF : Hid (Filled w1 V.heap.size ys ys.length) := hF
  have HB1 : Hid (Below w.heap.size w w1) := HBa.out.trans (hb1.mono HBa.out.size)
  have hr1 : w1.heap[w.heap.size + 1]? = _ := (hb1.block (w.heap.size + 1) (by have := HS.out; omega)).trans r0
  have ho1 : w1.heap[w.heap.size + 1 + 1]? = _ := (hb1.block (w.heap.size + 1 + 1) (by have := HS.out; omega)).trans o0
  have c0 : w1.cell? ⟨w.heap.size + 1, 0, none⟩ = some (.int .i64 0) := cell_of_row _ _ 0 _ _ _ hr1
  have c1 : w1.cell? ⟨w.heap.size + 1, 1, none⟩ = some (.slice none 0 0) := cell_of_row _ _ 1 _ _ _ hr1
  have c2 : w1.cell? ⟨w.heap.size + 1 + 1, 0, none⟩ = some (.int .i64 op) := cell_of_row _ _ 0 _ _ _ ho1
  have c3 : w1.cell? ⟨w.heap.size + 1 + 1, 1, none⟩ = some (.slice none 0 0) := cell_of_row _ _ 1 _ _ _ ho1
  have f0 := frozen_of_row _ _ 0 _ _ hr1
  have f1 := frozen_of_row _ _ 1 _ _ hr1
  have f3 := frozen_of_row _ _ 1 _ _ ho1
  have HN : Hid (V.heap.size = w.heap.size + 3) := HS.out
  clear hb1 hF r0 o0 hr1 ho1 HS
  generalize V.heap.size = N at *
  go_wp2
  have hlt : N < w1.heap.size := HF.out.lt
  refine bodyPost_ret (v := .agg #[.int .i64 op, .slice (some ⟨N, 0, none⟩) ys.length ys.length]) (resElem (b := w.heap.size + 1) Tryd.results6 rfl (put2 (u0 := .int .i64 0) (u1 := .slice none 0 0) ⟨?_, ?_⟩)) rfl ⟨N, rfl, ?_, ?_, ?_, ?_⟩
  rotate_left 2
  · exact ((HB1.out.setCell (p := ⟨_, _, none⟩) (by show w.heap.size ≤ w.heap.size + 1 + 1; omega) _).setCell (p := ⟨_, _, none⟩) (by show w.heap.size ≤ w.heap.size + 1; omega) _).setCell (p := ⟨_, _, none⟩) (by show w.heap.size ≤ w.heap.size + 1; omega) _
  · have := HN.out; omega
  · simpa using hlt
  · have := HN.out
    exact (((HF.out.set (by omega)).set (by omega)).set (by omega)).args
  · rw [World.cell?_setCell_other _ _ _ _ (by simp)]; exact c0
  · rw [World.cell?_setCell_other _ _ _ _ (by simp)]; exact c1

theorem sz_any (op : Int) (n cap : Nat) (p : Option Addr) (w : World) (hn : n ≤ 9223372036854775807) :
    Calls Tryd.prog 4 #[.agg #[.int .i64 op, .slice p n cap], .int .i64 1048576] w fun e w' => e = .returned (.int .i64 (if n ≤ 1048576 then 1048576 - (n : Int) else -1)) ∧ Below w.heap.size w w' := by
  have hS : ∀ W, Calls Tryd.prog 9 #[.slice p n cap, .int .i64 1048576] W fun e w' => e = .returned (.int .i64 (if n ≤ 1048576 then 1048576 - (n : Int) else -1)) ∧ w' = W := by
    intro W
    by_cases h : n ≤ 1048576
    · rw [if_pos h]
      have h' : ¬ (1048576 - (n : Int)) < 0 := by omega
      have h2 : (n : Int) ≤ 1048576 := by omega
      go_enter Tryd.func9, Tryd.ntmps9
      go_wp2
      go_ret
      exact ⟨rfl, rfl⟩
    · rw [if_neg h]
      have h' : (1048576 - (n : Int)) < 0 := by omega
      have h2 : ¬ (n : Int) ≤ 1048576 := by omega
      go_enter Tryd.func9, Tryd.ntmps9
      go_wp2
      go_ret
      exact ⟨rfl, rfl⟩
  have HS : Hid _ := hS
  clear hS
  by_cases h : n ≤ 1048576
  · rw [if_pos h] at HS ⊢
    have h' : ¬ (1048576 - (n : Int)) < 0 := by omega
    have h2 : (n : Int) ≤ 1048576 := by omega
    go_enter Tryd.func4, Tryd.ntmps4
    go_wp2_with fail
    refine (HS.out _).mono ?_
    rintro e w1 ⟨rfl, rfl⟩
    go_wp2
    go_ret
    exact ⟨rfl, one _ _⟩
  · rw [if_neg h] at HS ⊢
    go_enter Tryd.func4, Tryd.ntmps4
    go_wp2_with fail
    refine (HS.out _).mono ?_
    rintro e w1 ⟨rfl, rfl⟩
    go_wp2
    go_ret
    exact ⟨rfl, one _ _⟩

set_option maxHeartbeats 400000 in
theorem eqArg_any (k n p : Int) (w : World) :
    Calls Tryd.prog 57 #[.agg #[.int .i64 k, .int .i64 n, .int .i64 p], .agg #[.int .i64 k, .int .i64 n, .int .i64 p]] w fun e w' => e = .returned (.bool true) ∧ Below w.heap.size w w' := by
  go_enter Tryd.func57, Tryd.ntmps57
  go_wp2
  go_ret
  exact ⟨rfl, (one _ _).alloc (by simp) _⟩
theorem grownEq {k n p : Int} {w : World} (d : Nat) (os : Array Obj) :
    Calls Tryd.prog 57 #[.agg #[.int .i64 k, .int .i64 n, .int .i64 p], .agg #[.int .i64 k, .int .i64 n, .int .i64 p]] (Sort.grow (redrawn w d) os) fun e w'' => e = .returned (.bool true) ∧ ∃ p' : Regrown, w'' = Sort.grow (redrawn w p'.d) p'.os :=
  Calls.regrown_of (eqArg_any k n p _)

set_option maxHeartbeats 1000000 in
theorem eqArgs_any (ys : List Ar) (b1 b2 cap1 cap2 : Nat) (w : World) (h1 : ArgsAt w b1 ys) (hl1 : b1 < w.heap.size) (h2 : ArgsAt w b2 ys) (hl2 : b2 < w.heap.size) (_hc1 : ys.length ≤ cap1) (_hc2 : ys.length ≤ cap2) (hbd : ys.length ≤ 1048576) :
    Calls Tryd.prog 22 #[.slice (some ⟨b1, 0, none⟩) ys.length cap1, .slice (some ⟨b2, 0, none⟩) ys.length cap2] w fun e w' => e = .returned (.bool true) ∧ Below w.heap.size w w' := by
  have H1 : Hid (ArgsAt w b1 ys) := h1
  have H2 : Hid (ArgsAt w b2 ys) := h2
  clear h1 h2
  go_enter Tryd.func22, Tryd.ntmps22
  go_wp2
  go_loopw [5] (fun c w' => ∃ j : Nat, j ≤ ys.length ∧ c = .int .i64 (j : Int) ∧ Hid (Below w.heap.size w w')) (fun c _ => ys.length - (intOf c).toNat)
  case atStart => exact ⟨0, by omega, rfl, Below.refl _ _⟩
  case round =>
    obtain ⟨j, hj, rfl, HBr⟩ := hrel
    rename_i wr
    by_cases hlt : j < ys.length
    · have hlt' : (j : Int) < (ys.length : Int) := by omega
      obtain ⟨a0, a1, a2⟩ := (H1.out.to hl1 HBr.out) j hlt
      obtain ⟨d0, d1, d2⟩ := (H2.out.to hl2 HBr.out) j hlt
      generalize (at3 ys j).1 = k at *
      generalize (at3 ys j).2.1 = n at *
      generalize (at3 ys j).2.2 = p at *
      have k0 := cell_regrown a0
      have k1 := cell_regrown a1
      have k2 := cell_regrown a2
      have k3 := cell_regrown d0
      have k4 := cell_regrown d1
      have k5 := cell_regrown d2
      go_wp2
      refine wp_region_quiet_below (by kernel_rfl) (by kernel_rfl) ?_
      repeat (first | go_big_quiet_step (exact grownEq _ _) | quiet_step (exact grownEq _ _))
      refine wpQuiet_nil ?_
      intro _ hw'
      obtain ⟨⟨dq, osq⟩, hw''⟩ := hw'
      subst hw''
      have HBq : Hid (Below w.heap.size w (Sort.grow (redrawn wr dq) osq)) := HBr.out.trans ((below_regrown _ dq osq).mono HBr.out.size)
      clear k0 k1 k2 k3 k4 k5 a0 a1 a2 d0 d1 d2
      generalize Sort.grow (redrawn wr dq) osq = wq at *
      go_wp2
      exact ⟨⟨j + 1, by omega, by go_num, HBq⟩, by simp [intOf]; omega⟩
    · obtain rfl : j = ys.length := by omega
      go_wp2
      go_ret
      exact ⟨rfl, HBr.out⟩

set_option maxHeartbeats 1000000 in
theorem eqElem_any (op : Int) (ys : List Ar) (b1 b2 cap1 cap2 : Nat) (w : World) (h1 : ArgsAt w b1 ys) (hl1 : b1 < w.heap.size) (h2 : ArgsAt w b2 ys) (hl2 : b2 < w.heap.size) (hc1 : ys.length ≤ cap1) (hc2 : ys.length ≤ cap2) (hbd : ys.length ≤ 1048576) :
    Calls Tryd.prog 8 #[.agg #[.int .i64 op, .slice (some ⟨b1, 0, none⟩) ys.length cap1], .agg #[.int .i64 op, .slice (some ⟨b2, 0, none⟩) ys.length cap2]] w fun e w' => e = .returned (.bool true) ∧ Below w.heap.size w w' := by
  have H1 : Hid (ArgsAt w b1 ys) := h1
  have H2 : Hid (ArgsAt w b2 ys) := h2
  clear h1 h2
  go_enter Tryd.func8, Tryd.ntmps8
  go_wp2_with fail
  refine (eqArgs_any ys b1 b2 cap1 cap2 _ (H1.out.to hl1 ((one _ _).alloc (by simp) _)) (by simp; omega) (H2.out.to hl2 ((one _ _).alloc (by simp) _)) (by simp; omega) hc1 hc2 hbd).mono ?_
  rintro e w1 ⟨rfl, hb1⟩
  go_wp2
  go_ret
  exact ⟨rfl, of_one (of_one hb1)⟩
end Go.Proofs.YtleopmhllbaalagDoor
