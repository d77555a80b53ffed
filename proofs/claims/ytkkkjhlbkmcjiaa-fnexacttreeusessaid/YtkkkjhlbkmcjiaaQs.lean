/- The counting of parts: treeCount. Helper text: no statement is claimed here. -/
import Derived.Test.YtkkkjhlbkmcjiaaQr
namespace Go.Proofs.Ytkkkjhlbkmcjiaa.Tr
open Go.ChangeShapes Go.WideShapes Go.ChangeAt Go.RowKit

/-- All blocks that were there are as they were, but one. -/
structure But (C : Nat) (w w' : World) : Prop where
  os : w'.os = w.os
  tape : w'.tape = w.tape
  output : w'.output = w.output
  size : w.heap.size ≤ w'.heap.size
  block : ∀ k, k < w.heap.size → k ≠ C → w'.heap[k]? = w.heap[k]?
theorem But.refl (C : Nat) (w : World) : But C w w := ⟨rfl, rfl, rfl, Nat.le_refl _, fun _ _ _ => rfl⟩
theorem But.trans {C : Nat} {a b c : World} (h : But C a b) (k : But C b c) : But C a c :=
  ⟨k.os.trans h.os, k.tape.trans h.tape, k.output.trans h.output, Nat.le_trans h.size k.size, fun i hi hc => (k.block i (Nat.lt_of_lt_of_le hi h.size) hc).trans (h.block i hi hc)⟩
theorem But.of {C : Nat} {w w' : World} (h : Below w.heap.size w w') : But C w w' := ⟨h.os, h.tape, h.output, h.size, fun k hk _ => h.block k hk⟩
theorem But.below {C N : Nat} {w w' : World} (h : But C w w') (hN : N ≤ w.heap.size) (hC : N ≤ C) : Below N w w' := ⟨h.os, h.tape, h.output, h.size, fun k hk => h.block k (Nat.lt_of_lt_of_le hk hN) (by omega)⟩
theorem But.set {C i : Nat} {a w : World} {v : Value} (h : But C a w) : But C a (w.setCell ⟨C, i, none⟩ v) :=
  h.trans ⟨rfl, rfl, rfl, by simp [World.setCell], fun k _ hk => Below.heap_setCell _ _ _ _ hk⟩
theorem But.cell {C : Nat} {w w' : World} (h : But C w w') {b i : Nat} (hc : b ≠ C) {v : Value} (hv : w.cell? ⟨b, i, none⟩ = some v) : w'.cell? ⟨b, i, none⟩ = some v :=
  (World.cell?_of_block (w := w) (h.block b (World.block_lt_of_cell? w ⟨b, i, none⟩ hv) hc)).trans hv
theorem But.keep {C : Nat} {w w' : World} (h : But C w w') {S : Nat → Prop} (hS : ∀ b, S b → b < w.heap.size ∧ b ≠ C) : Keep S w w' := fun b hb => h.block b (hS b hb).1 (hS b hb).2

/-- The count. -/
def CntAt (C : Nat) (w : World) (s : Nat) : Prop := w.heap[C]? = some (.cells #[.int .i64 (s : Int), .int .i64 9223372036854775807] 59 (0, 0))
theorem CntAt.lt {C : Nat} {w : World} {s : Nat} (h : CntAt C w s) : C < w.heap.size := (Array.getElem?_eq_some_iff.1 h).1
theorem CntAt.to {C : Nat} {w w' : World} {s : Nat} (h : CntAt C w s) (hb : Below w.heap.size w w') : CntAt C w' s := (hb.block C h.lt).trans h
set_option maxHeartbeats 1000000 in
theorem add_any (C s d : Nat) (w : World) (h : CntAt C w s) (hbd : s + d ≤ 9223372036854775807) :
    Calls Try.prog 76 #[.pointer (some ⟨C, 0, none⟩), .int .i64 (d : Int)] w fun r w' => r = .returned .nilIface ∧ CntAt C w' (s + d) ∧ But C w w' := by
  have c0 : w.cell? ⟨C, 0, none⟩ = some (.int .i64 (s : Int)) := cell_of_row _ _ 0 _ _ _ h
  have c1 : w.cell? ⟨C, 1, none⟩ = some (.int .i64 9223372036854775807) := cell_of_row _ _ 1 _ _ _ h
  have f0 := frozen_of_row _ _ 0 _ _ h
  have H2 : Hid (CntAt C (w.setCell ⟨C, 0, none⟩ (.int .i64 ((s : Int) + (d : Int)))) (s + d)) := by
    have := heap_setCell_same w C 0 _ 59 (.int .i64 ((s : Int) + (d : Int))) h
    show CntAt _ _ _
    simpa [CntAt] using this
  have HB : Hid (But C w (w.setCell ⟨C, 0, none⟩ (.int .i64 ((s : Int) + (d : Int))))) := (But.refl C w).set
  have hle : ¬ (9223372036854775807 : Int) < (s : Int) + (d : Int) := by omega
  have d0 : (w.setCell ⟨C, 0, none⟩ (.int .i64 ((s : Int) + (d : Int)))).cell? ⟨C, 0, none⟩ = some (.int .i64 ((s : Int) + (d : Int))) := World.cell?_setCell_same _ _ _ c0
  have d1 : (w.setCell ⟨C, 0, none⟩ (.int .i64 ((s : Int) + (d : Int)))).cell? ⟨C, 1, none⟩ = some (.int .i64 9223372036854775807) := (World.cell?_setCell_other _ _ _ _ (by simp)).trans c1
  clear h
  go_enter Try.func76, Try.ntmps76
  go_wp2
  generalize w.setCell ⟨C, 0, none⟩ (.int .i64 ((s : Int) + (d : Int))) = V at *
  have k0 := cell_regrown d0
  have k1 := cell_regrown d1
  refine wp_region_quiet_below (by kernel_rfl) (by kernel_rfl) ?_
  repeat (first | go_big_quiet_step (fail) | quiet_step (fail))
  refine wpQuiet_nil ?_
  intro _ hw'
  obtain ⟨⟨dq, osq⟩, hw''⟩ := hw'
  subst hw''
  have hbq := below_regrown V dq osq
  have H3 : Hid (CntAt C (Sort.grow (redrawn V dq) osq) (s + d)) := H2.out.to hbq
  have HB3 : Hid (But C w (Sort.grow (redrawn V dq) osq)) := HB.out.trans (But.of hbq)
  clear k0 k1 d0 d1 hbq
  generalize Sort.grow (redrawn V dq) osq = wq at *
  go_wp2
  go_ret
  exact ⟨rfl, H3.out, HB3.out⟩
theorem cnet_any (C s : Nat) (kd op : Int) (pa : Option Addr) (la ca : Nat) (pk : Option Addr) (lk ck : Nat) (w : World) (h : CntAt C w s) (hbd : s + 1 ≤ 9223372036854775807) :
    Calls Try.prog 78 #[.pointer (some ⟨C, 0, none⟩), .agg #[.int .i64 kd, .int .i64 op, .slice pa la ca, .slice pk lk ck]] w fun r w' => r = .returned .nilIface ∧ CntAt C w' (s + 1) ∧ But C w w' := by
  have HC : Hid (∀ W, Below w.heap.size w W → Calls Try.prog 76 #[.pointer (some ⟨C, 0, none⟩), .int .i64 1] W fun r w' => r = .returned .nilIface ∧ CntAt C w' (s + 1) ∧ But C W w') := fun W hW => add_any C s 1 W (h.to hW) hbd
  clear h
  go_enter Try.func78, Try.ntmps78
  go_wp2_with fail
  refine (HC.out _ (one _ _)).mono ?_
  rintro r w1 ⟨rfl, h1, hb1⟩
  have H1 : Hid (CntAt C w1 (s + 1)) := h1
  have HB1 : Hid (But C w w1) := (But.of (one _ _)).trans hb1
  clear h1 hb1
  go_wp2
  go_ret
  exact ⟨rfl, H1.out, HB1.out⟩
theorem carm_any (C s : Nat) (kd op : Int) (pa : Option Addr) (la ca : Nat) (pk : Option Addr) (lk ck : Nat) (pc : Option Addr) (lc cc : Nat) (pq : Option Addr) (lq cq : Nat) (w : World) (h : CntAt C w s) (hbd : s + (1 + lc) ≤ 9223372036854775807) :
    Calls Try.prog 77 #[.pointer (some ⟨C, 0, none⟩), .agg #[.int .i64 kd, .int .i64 op, .slice pa la ca, .slice pk lk ck, .slice pc lc cc, .slice pq lq cq]] w fun r w' => r = .returned .nilIface ∧ CntAt C w' (s + (1 + lc)) ∧ But C w w' := by
  have HC : Hid (∀ W, Below w.heap.size w W → Calls Try.prog 76 #[.pointer (some ⟨C, 0, none⟩), .int .i64 (1 + (lc : Int))] W fun r w' => r = .returned .nilIface ∧ CntAt C w' (s + (1 + lc)) ∧ But C W w') := fun W hW => by
    have := add_any C s (1 + lc) W (h.to hW) hbd
    rwa [show ((1 + lc : Nat) : Int) = 1 + (lc : Int) by omega] at this
  clear h
  go_enter Try.func77, Try.ntmps77
  go_wp2_with fail
  refine (HC.out _ (one _ _)).mono ?_
  rintro r w1 ⟨rfl, h1, hb1⟩
  have H1 : Hid (CntAt C w1 (s + (1 + lc))) := h1
  have HB1 : Hid (But C w w1) := (But.of (one _ _)).trans hb1
  clear h1 hb1
  go_wp2
  go_ret
  exact ⟨rfl, H1.out, HB1.out⟩
end Go.Proofs.Ytkkkjhlbkmcjiaa.Tr
