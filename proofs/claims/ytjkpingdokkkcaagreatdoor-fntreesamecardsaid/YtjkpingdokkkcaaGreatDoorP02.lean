/- The program's treeSameNet, treeIsNone. Helper text: no statement is claimed here. -/
import Derived.Test.YtjkpingdokkkcaaGreatDoorP01
namespace Go.Proofs.YtjkpingdokkkcaaGreatDoor.Tr
open Go.ChangeShapes Go.WideShapes Go.ChangeAt Go.RowKit

theorem cell2' {w w1 : World} {o1 o2 : Obj} {i : Nat} {v : Value} (hb : Below ((w.alloc o1).alloc o2).heap.size ((w.alloc o1).alloc o2) w1) (h : (w.alloc o1).cell? ⟨w.heap.size, i, none⟩ = some v) : w1.cell? ⟨w.heap.size, i, none⟩ = some v := keep1 hb h
theorem cell3' {w w1 : World} {o1 o2 : Obj} {i : Nat} {v : Value} (hb : Below ((w.alloc o1).alloc o2).heap.size ((w.alloc o1).alloc o2) w1) (h : ((w.alloc o1).alloc o2).cell? ⟨(w.alloc o1).heap.size, i, none⟩ = some v) : w1.cell? ⟨w.heap.size + 1, i, none⟩ = some v := by
  rw [World.size_alloc] at h
  exact keep2 hb h
set_option maxHeartbeats 2000000 in
theorem iSame_next (n : Nat) (IH : SameN n) : SameN (n + 1) := by
  intro S S2 w hSw hSw2 B hB v v2 t t2 hV hV2
  obtain ⟨pa, ca, pk, ck, rfl, hA, hK⟩ := hV
  obtain ⟨pb, cb, pq, cq, rfl, hA2, hK2⟩ := hV2
  have HC1 : Hid (∀ W, Below w.heap.size w W → Calls Tryz.prog 19 #[.agg #[.int .i64 t.el.1, .slice pa t.el.2.length ca], .agg #[.int .i64 t2.el.1, .slice pb t2.el.2.length cb]] W fun r w' => r = .returned (.bool (eqE t.el t2.el)) ∧ Below W.heap.size W w') :=
    fun W hW => iElem_any (S := S) (S2 := S2) (fun b hb => Nat.lt_of_lt_of_le (hSw b hb) hW.size) (fun b hb => Nat.lt_of_lt_of_le (hSw2 b hb) hW.size) _ _ t.el t2.el ⟨pa, ca, rfl, args_to (Keep.of hW hSw) (fun _ h => h) hA⟩ ⟨pb, cb, rfl, args_to (Keep.of hW hSw2) (fun _ h => h) hA2⟩
  have HC2 : Hid (∀ W, Below w.heap.size w W → Calls Tryz.prog 33 #[.slice pk t.kids.length ck, .slice pq t2.kids.length cq, .func (.func 32) #[] #[.pointer (some ⟨B, 0, none⟩)]] W
      fun r w' => r = .returned (.bool (eqL (eqN n) t.kids t2.kids)) ∧ Below W.heap.size W w') :=
    fun W hW => iNets_any (S := S) (S2 := S2) (fun b hb => Nat.lt_of_lt_of_le (hSw b hb) hW.size) (fun b hb => Nat.lt_of_lt_of_le (hSw2 b hb) hW.size) n IH B (hB.to hW) pk pq ck cq t.kids t2.kids (nets_to (Keep.of hW hSw) (fun _ h => h) hK) (nets_to (Keep.of hW hSw2) (fun _ h => h) hK2)
  have HCl : Hid (CloN B w) := hB
  show Calls _ _ _ _ fun r w' => r = .returned (.bool (decide (t.kind = t2.kind) && eqE t.el t2.el && eqL (eqN n) t.kids t2.kids)) ∧ _
  have cB : w.cell? ⟨B, 0, none⟩ = some (.func (.func 32) #[] #[.pointer (some ⟨B, 0, none⟩)]) := cell_of_row _ _ 0 _ _ _ hB
  have hBl : B < w.heap.size := hB.lt
  clear hSw hSw2 hA hK hA2 hK2 IH hB
  generalize eqL (eqN n) t.kids t2.kids = R2 at *
  generalize eqE t.el t2.el = R1 at *
  generalize t.kind = kd at *
  generalize t.el.1 = op at *
  generalize t.el.2.length = la at *
  generalize t.kids.length = lk at *
  generalize t2.kind = kd2 at *
  generalize t2.el.1 = op2 at *
  generalize t2.el.2.length = la2 at *
  generalize t2.kids.length = lk2 at *
  by_cases hk : kd = kd2
  · subst hk
    rw [decide_eq_true rfl, Bool.true_and]
    cases R1 with
    | true =>
      rw [Bool.true_and]
      go_enter Tryz.func32, Tryz.ntmps32
      go_wp2_with fail
      refine (HC1.out _ (two' _ _ _)).mono ?_
      rintro r w1 ⟨rfl, hb1⟩
      have HB1 : Hid (Below w.heap.size w w1) := of_two' hb1
      have c3 : w1.cell? ⟨w.heap.size, 3, none⟩ = some (.slice pk lk ck) := cell2' hb1 (by rw [World.cell?_alloc_mark]; rfl)
      have d3 : w1.cell? ⟨w.heap.size + 1, 3, none⟩ = some (.slice pq lk2 cq) := cell3' hb1 (by rw [World.cell?_alloc_mark]; rfl)
      replace cB := keep2 HB1.out cB
      clear hb1
      go_wp2_with fail
      refine (HC2.out _ HB1.out).mono ?_
      rintro r w2 ⟨rfl, hb2⟩
      have HB2 : Hid (Below w.heap.size w w2) := HB1.out.trans (hb2.mono HB1.out.size)
      clear hb2
      go_wp2
      go_ret
      exact ⟨rfl, HB2.out⟩
    | false =>
      rw [Bool.false_and]
      go_enter Tryz.func32, Tryz.ntmps32
      go_wp2_with fail
      refine (HC1.out _ (two' _ _ _)).mono ?_
      rintro r w1 ⟨rfl, hb1⟩
      have HB1 : Hid (Below w.heap.size w w1) := of_two' hb1
      clear hb1
      go_wp2
      go_ret
      exact ⟨rfl, HB1.out⟩
  · rw [decide_eq_false hk, Bool.false_and, Bool.false_and]
    go_enter Tryz.func32, Tryz.ntmps32
    go_wp2
    go_ret
    exact ⟨rfl, two' _ _ _⟩
theorem iSame_any : ∀ n, SameN n
  | 0 => fun _ _ _ _ _ _ _ _ _ _ _ h => h.elim
  | n + 1 => iSame_next n (iSame_any n)

theorem store_func (P : Program) (w : World) (a : Addr) (f : Fn) (x y : Array Value) (m : Mode) : (store a (.func f x y) m).run P w = stored P w a (.func f x y) m := run_store P w a _ m rfl
attribute [local go_sem] store_func
theorem hmf : ∀ (fn : Fn) (first cap : Array Value) (w : World), (Instr.makeFunc fn first cap).run Tryz.prog w = .ok (.func fn first cap) w := fun _ _ _ _ => rfl
set_option maxHeartbeats 1000000 in
theorem iSameNet_any (n : Nat) (S S2 : Nat → Prop) (w : World) (hSw : ∀ b, S b → b < w.heap.size) (hSw2 : ∀ b, S2 b → b < w.heap.size) (v v2 : Value) (t t2 : NT n) (hV : NtV S w n v t) (hV2 : NtV S2 w n v2 t2) :
    Calls Tryz.prog 17 #[v, v2] w fun r w' => r = .returned (.bool (eqN n t t2)) ∧ Below w.heap.size w w' := by
  obtain ⟨kd, op, pa, la, ca, pk, lk, ck, rfl⟩ := hV.parts
  obtain ⟨kd2, op2, pa2, la2, ca2, pk2, lk2, ck2, rfl⟩ := hV2.parts
  have HC : Hid (∀ W B, Below w.heap.size w W → CloN B W → Calls Tryz.prog 32 #[.agg #[.int .i64 kd, .int .i64 op, .slice pa la ca, .slice pk lk ck], .agg #[.int .i64 kd2, .int .i64 op2, .slice pa2 la2 ca2, .slice pk2 lk2 ck2], .pointer (some ⟨B, 0, none⟩)] W
      fun r w' => r = .returned (.bool (eqN n t t2)) ∧ Below W.heap.size W w') :=
    fun W B hW hB => iSame_any n S S2 W (fun b hb => Nat.lt_of_lt_of_le (hSw b hb) hW.size) (fun b hb => Nat.lt_of_lt_of_le (hSw2 b hb) hW.size) B hB _ _ t t2 (hV.to (Keep.of hW hSw) (fun _ h => h)) (hV2.to (Keep.of hW hSw2) (fun _ h => h))
  clear hV hV2 hSw hSw2
  generalize eqN n t t2 = R at *
  have hmf' := hmf
  go_enter Tryz.func17, Tryz.ntmps17
  go_wp2_with fail
  refine (HC.out _ (w.heap.size + 1 + 1) ?_ ?_).mono ?_
  · exact (two' _ _ _).alloc (by simp; omega) _
  · have := heap_alloc2_new (w.alloc (.cells #[.int .i64 kd, .int .i64 op, .slice pa la ca, .slice pk lk ck] 49)) (.cells #[.int .i64 kd2, .int .i64 op2, .slice pa2 la2 ca2, .slice pk2 lk2 ck2] 49) (.cells #[.func (.func 32) #[] #[.pointer (some ⟨w.heap.size + 1 + 1, 0, none⟩)]] 53)
    rw [World.size_alloc] at this
    exact this
  rintro r w1 ⟨rfl, hb1⟩
  have HB1 : Hid (Below w.heap.size w w1) := of_two' (of_one hb1)
  clear hb1
  go_wp2
  go_ret
  exact ⟨rfl, HB1.out⟩

/-- A net that is none, as data. -/
def zeroN (n : Nat) : NT (n + 1) := ((0, (0, []), []) : Int × El × List (NT n))
theorem zeroN_at (S : Nat → Prop) (w : World) (n : Nat) : NtV S w (n + 1) (.agg #[.int .i64 0, .int .i64 0, .slice none 0 0, .slice none 0 0]) (zeroN n) :=
  ⟨none, 0, none, 0, rfl, ⟨⟨Nat.le_refl _, Nat.zero_le _⟩, .inl rfl⟩, ⟨⟨Nat.le_refl _, Nat.zero_le _⟩, .inl rfl⟩⟩
theorem eqL_nil {α : Type} (f : α → α → Bool) (l : List α) : eqL f l [] = decide (l.length = 0) := by
  cases l with
  | nil => rfl
  | cons a l => simp [eqL]
theorem eqN_zero {n : Nat} (t : NT (n + 1)) : eqN (n + 1) t (zeroN n) = isNone t := by
  show (decide (t.kind = 0) && (decide (t.el.1 = 0) && eqL eqAr t.el.2 []) && eqL (eqN n) t.kids []) = _
  rw [eqL_nil, eqL_nil]
  unfold isNone
  simp only [Bool.and_assoc]
theorem iNone_any (n : Nat) (S : Nat → Prop) (w : World) (hSw : ∀ b, S b → b < w.heap.size) (v : Value) (t : NT (n + 1)) (hV : NtV S w (n + 1) v t) :
    Calls Tryz.prog 38 #[v] w fun r w' => r = .returned (.bool (isNone t)) ∧ Below w.heap.size w w' := by
  obtain ⟨kd, op, pa, la, ca, pk, lk, ck, rfl⟩ := hV.parts
  have HC : Hid (∀ W, Below w.heap.size w W → Calls Tryz.prog 17 #[.agg #[.int .i64 kd, .int .i64 op, .slice pa la ca, .slice pk lk ck], .agg #[.int .i64 0, .int .i64 0, .slice none 0 0, .slice none 0 0]] W fun r w' => r = .returned (.bool (isNone t)) ∧ Below W.heap.size W w') := fun W hW => by
    rw [← eqN_zero t]
    exact iSameNet_any (n + 1) S S W (fun b hb => Nat.lt_of_lt_of_le (hSw b hb) hW.size) (fun b hb => Nat.lt_of_lt_of_le (hSw b hb) hW.size) _ _ t (zeroN n) (hV.to (Keep.of hW hSw) (fun _ h => h)) (zeroN_at _ _ _)
  clear hV hSw
  generalize isNone t = R at *
  go_enter Tryz.func38, Tryz.ntmps38
  go_wp2_with fail
  refine (HC.out _ (one _ _)).mono ?_
  rintro r w1 ⟨rfl, hb1⟩
  have HB1 : Hid (Below w.heap.size w w1) := of_one hb1
  clear hb1
  go_wp2
  go_ret
  exact ⟨rfl, HB1.out⟩
end Go.Proofs.YtjkpingdokkkcaaGreatDoor.Tr

/- The counting of parts: treeCount. Helper text: no statement is claimed here. -/
namespace Go.Proofs.YtjkpingdokkkcaaGreatDoor.Tr
open Go.ChangeShapes Go.WideShapes Go.ChangeAt Go.RowKit

/-- All blocks that were there are as they were, but one. -/
structure But (C : Nat) (w w' : World) : Prop where
  os : w'.os = w.os
  tape : w'.tape = w.tape
  output : w'.output = w.output
  size : w.heap.size ≤ w'.heap.size
  block : ∀ k, k < w.heap.size → k ≠ C → w'.heap[k]? = w.heap[k]?
theorem But.refl (C : Nat) (w : World) : But C w w := ⟨rfl, rfl, rfl, Nat.le_refl _, fun _ _ _ => rfl⟩
theorem But.trans {C : Nat} {a b c : World} (h : But C a b) (k : But C b c) : But C a c :=
  ⟨k.os.trans h.os, k.tape.trans h.tape, k.output.trans h.output, Nat.le_trans h.size k.size, fun i hi hc => (k.block i (Nat.lt_of_lt_of_le hi h.size) hc).trans (h.block i hi hc)⟩
theorem But.of {C : Nat} {w w' : World} (h : Below w.heap.size w w') : But C w w' := ⟨h.os, h.tape, h.output, h.size, fun k hk _ => h.block k hk⟩
theorem But.below {C N : Nat} {w w' : World} (h : But C w w') (hN : N ≤ w.heap.size) (hC : N ≤ C) : Below N w w' := ⟨h.os, h.tape, h.output, h.size, fun k hk => h.block k (Nat.lt_of_lt_of_le hk hN) (by omega)⟩
theorem But.set {C i : Nat} {a w : World} {v : Value} (h : But C a w) : But C a (w.setCell ⟨C, i, none⟩ v) :=
  h.trans ⟨rfl, rfl, rfl, by simp [World.setCell], fun k _ hk => Below.heap_setCell _ _ _ _ hk⟩
theorem But.cell {C : Nat} {w w' : World} (h : But C w w') {b i : Nat} (hc : b ≠ C) {v : Value} (hv : w.cell? ⟨b, i, none⟩ = some v) : w'.cell? ⟨b, i, none⟩ = some v :=
  (World.cell?_of_block (w := w) (h.block b (World.block_lt_of_cell? w ⟨b, i, none⟩ hv) hc)).trans hv
theorem But.keep {C : Nat} {w w' : World} (h : But C w w') {S : Nat → Prop} (hS : ∀ b, S b → b < w.heap.size ∧ b ≠ C) : Keep S w w' := fun b hb => h.block b (hS b hb).1 (hS b hb).2

/-- The count. -/
def CntAt (C : Nat) (w : World) (s : Nat) : Prop := w.heap[C]? = some (.cells #[.int .i64 (s : Int), .int .i64 9223372036854775807] 59 (0, 0))
theorem CntAt.lt {C : Nat} {w : World} {s : Nat} (h : CntAt C w s) : C < w.heap.size := (Array.getElem?_eq_some_iff.1 h).1
theorem CntAt.to {C : Nat} {w w' : World} {s : Nat} (h : CntAt C w s) (hb : Below w.heap.size w w') : CntAt C w' s := (hb.block C h.lt).trans h
set_option maxHeartbeats 1000000 in
theorem add_any (C s d : Nat) (w : World) (h : CntAt C w s) (hbd : s + d ≤ 9223372036854775807) :
    Calls Tryz.prog 87 #[.pointer (some ⟨C, 0, none⟩), .int .i64 (d : Int)] w fun r w' => r = .returned .nilIface ∧ CntAt C w' (s + d) ∧ But C w w' := by
  have c0 : w.cell? ⟨C, 0, none⟩ = some (.int .i64 (s : Int)) := cell_of_row _ _ 0 _ _ _ h
  have c1 : w.cell? ⟨C, 1, none⟩ = some (.int .i64 9223372036854775807) := cell_of_row _ _ 1 _ _ _ h
  have f0 := frozen_of_row _ _ 0 _ _ h
  have H2 : Hid (CntAt C (w.setCell ⟨C, 0, none⟩ (.int .i64 ((s : Int) + (d : Int)))) (s + d)) := by
    have := heap_setCell_same w C 0 _ 59 (.int .i64 ((s : Int) + (d : Int))) h
    show CntAt _ _ _
    simpa [CntAt] using this
  have HB : Hid (But C w (w.setCell ⟨C, 0, none⟩ (.int .i64 ((s : Int) + (d : Int))))) := (But.refl C w).set
  have hle : ¬ (9223372036854775807 : Int) < (s : Int) + (d : Int) := by omega
  have d0 : (w.setCell ⟨C, 0, none⟩ (.int .i64 ((s : Int) + (d : Int)))).cell? ⟨C, 0, none⟩ = some (.int .i64 ((s : Int) + (d : Int))) := World.cell?_setCell_same _ _ _ c0
  have d1 : (w.setCell ⟨C, 0, none⟩ (.int .i64 ((s : Int) + (d : Int)))).cell? ⟨C, 1, none⟩ = some (.int .i64 9223372036854775807) := (World.cell?_setCell_other _ _ _ _ (by simp)).trans c1
  clear h
  go_enter Tryz.func87, Tryz.ntmps87
  go_wp2
  generalize w.setCell ⟨C, 0, none⟩ (.int .i64 ((s : Int) + (d : Int))) = V at *
  have k0 := cell_regrown d0
  have k1 := cell_regrown d1
  refine wp_region_quiet_below (by kernel_rfl) (by kernel_rfl) ?_
  repeat (first | go_big_quiet_step (fail) | quiet_step (fail))
  refine wpQuiet_nil ?_
  intro _ hw'
  obtain ⟨⟨dq, osq⟩, hw''⟩ := hw'
  subst hw''
  have hbq := below_regrown V dq osq
  have H3 : Hid (CntAt C (Sort.grow (redrawn V dq) osq) (s + d)) := H2.out.to hbq
  have HB3 : Hid (But C w (Sort.grow (redrawn V dq) osq)) := HB.out.trans (But.of hbq)
  clear k0 k1 d0 d1 hbq
  generalize Sort.grow (redrawn V dq) osq = wq at *
  go_wp2
  go_ret
  exact ⟨rfl, H3.out, HB3.out⟩
theorem cnet_any (C s : Nat) (kd op : Int) (pa : Option Addr) (la ca : Nat) (pk : Option Addr) (lk ck : Nat) (w : World) (h : CntAt C w s) (hbd : s + 1 ≤ 9223372036854775807) :
    Calls Tryz.prog 89 #[.pointer (some ⟨C, 0, none⟩), .agg #[.int .i64 kd, .int .i64 op, .slice pa la ca, .slice pk lk ck]] w fun r w' => r = .returned .nilIface ∧ CntAt C w' (s + 1) ∧ But C w w' := by
  have HC : Hid (∀ W, Below w.heap.size w W → Calls Tryz.prog 87 #[.pointer (some ⟨C, 0, none⟩), .int .i64 1] W fun r w' => r = .returned .nilIface ∧ CntAt C w' (s + 1) ∧ But C W w') := fun W hW => add_any C s 1 W (h.to hW) hbd
  clear h
  go_enter Tryz.func89, Tryz.ntmps89
  go_wp2_with fail
  refine (HC.out _ (one _ _)).mono ?_
  rintro r w1 ⟨rfl, h1, hb1⟩
  have H1 : Hid (CntAt C w1 (s + 1)) := h1
  have HB1 : Hid (But C w w1) := (But.of (one _ _)).trans hb1
  clear h1 hb1
  go_wp2
  go_ret
  exact ⟨rfl, H1.out, HB1.out⟩
theorem carm_any (C s : Nat) (kd op : Int) (pa : Option Addr) (la ca : Nat) (pk : Option Addr) (lk ck : Nat) (pc : Option Addr) (lc cc : Nat) (pq : Option Addr) (lq cq : Nat) (w : World) (h : CntAt C w s) (hbd : s + (1 + lc) ≤ 9223372036854775807) :
    Calls Tryz.prog 88 #[.pointer (some ⟨C, 0, none⟩), .agg #[.int .i64 kd, .int .i64 op, .slice pa la ca, .slice pk lk ck, .slice pc lc cc, .slice pq lq cq]] w fun r w' => r = .returned .nilIface ∧ CntAt C w' (s + (1 + lc)) ∧ But C w w' := by
  have HC : Hid (∀ W, Below w.heap.size w W → Calls Tryz.prog 87 #[.pointer (some ⟨C, 0, none⟩), .int .i64 (1 + (lc : Int))] W fun r w' => r = .returned .nilIface ∧ CntAt C w' (s + (1 + lc)) ∧ But C W w') := fun W hW => by
    have := add_any C s (1 + lc) W (h.to hW) hbd
    rwa [show ((1 + lc : Nat) : Int) = 1 + (lc : Int) by omega] at this
  clear h
  go_enter Tryz.func88, Tryz.ntmps88
  go_wp2_with fail
  refine (HC.out _ (one _ _)).mono ?_
  rintro r w1 ⟨rfl, h1, hb1⟩
  have H1 : Hid (CntAt C w1 (s + (1 + lc))) := h1
  have HB1 : Hid (But C w w1) := (But.of (one _ _)).trans hb1
  clear h1 hb1
  go_wp2
  go_ret
  exact ⟨rfl, H1.out, HB1.out⟩
end Go.Proofs.YtjkpingdokkkcaaGreatDoor.Tr

/- What is shown to a look, net by net: the walk over nets. Helper text: no statement is claimed here. -/
namespace Go.Proofs.YtjkpingdokkkcaaGreatDoor.Tr
open Go.ChangeShapes Go.WideShapes Go.ChangeAt Go.RowKit

/-- The same as upon_invoke of chapter 5, where the answer hangs on the world. -/
theorem upon_method {o : Oper} {a : Act} {w : World} {K : Act → World → Prop} {Q : Exit → Act → World → Prop} {F : Nat} {f : FuncId} {name : String} {t : TypeId} {dv r v : Value} {R : World → Prop} {g : Value → Array Value} (hme : (method F t dv name).run Tryz.prog w = .ok (f, r) w) (hf : ∀ (xs : Array Value) (w : World), (callFunc f xs).run Tryz.prog w = .ok (.enter f xs) w)
    (hC : Calls Tryz.prog f (g r) w fun e w' => e = .returned v ∧ R w') (hk : ∀ w', R w' → K (a.put o.dst v) w') : o.upon Tryz.prog a K Q ((Sem.run Tryz.prog (method F t dv name) w).andThen fun b w' => Sem.run Tryz.prog (callFunc b.fst (g b.snd)) w') := by
  rw [hme, Result.andThen_ok, hf, Oper.upon_enter]
  refine hC.mono ?_
  rintro e w' ⟨rfl, h⟩
  exact hk w' h

/-- The blocks of a tree: there, and apart from the count. -/
def Apart (C : Nat) (S : Nat → Prop) (w : World) : Prop := ∀ b, S b → b < w.heap.size ∧ b ≠ C
theorem Apart.to {C : Nat} {S : Nat → Prop} {w w' : World} (h : Apart C S w) (hb : w.heap.size ≤ w'.heap.size) : Apart C S w' := fun b hs => ⟨Nat.lt_of_lt_of_le (h b hs).1 hb, (h b hs).2⟩
/-- A look: the block in which it counts, its type, its two methods, what it counts. -/
structure Lk where
  C : Nat
  T : TypeId
  fn : FuncId
  fa : FuncId
  cnt : World → Nat → Prop
  fN : (n : Nat) → NT n → Nat
  fA : (k n : Nat) → AT k n → Nat
def Lk.val (L : Lk) : Value := .iface L.T (.pointer (some ⟨L.C, 0, none⟩))
/-- A name by which the looks' methods for nets, for arms are found. -/
def NmN (nm : String) : Prop := ∀ (p : Option Addr) (w : World), (method 285 57 (.pointer p) nm).run Tryz.prog w = .ok (89, .pointer p) w ∧ (method 285 71 (.pointer p) nm).run Tryz.prog w = .ok (95, .pointer p) w
def NmA (nm : String) : Prop := ∀ (p : Option Addr) (w : World), (method 285 57 (.pointer p) nm).run Tryz.prog w = .ok (88, .pointer p) w ∧ (method 285 71 (.pointer p) nm).run Tryz.prog w = .ok (93, .pointer p) w
/-- A look does what it is for. -/
structure Lk.Ok (L : Lk) : Prop where
  lt : ∀ w s, L.cnt w s → L.C < w.heap.size
  to : ∀ w w' s, L.cnt w s → Below w.heap.size w w' → L.cnt w' s
  me : ∀ nm, NmN nm → ∀ w, (method 285 L.T (.pointer (some ⟨L.C, 0, none⟩)) nm).run Tryz.prog w = .ok (L.fn, .pointer (some ⟨L.C, 0, none⟩)) w
  call : ∀ (xs : Array Value) (w : World), (callFunc L.fn xs).run Tryz.prog w = .ok (.enter L.fn xs) w
  net : ∀ (S : Nat → Prop) (W : World) (n : Nat) (v : Value) (t : NT n) (s : Nat), Apart L.C S W → NtV S W n v t → L.cnt W s → s + L.fN n t ≤ 9223372036854775807 →
    Calls Tryz.prog L.fn #[.pointer (some ⟨L.C, 0, none⟩), v] W fun r w' => r = .returned .nilIface ∧ L.cnt w' (s + L.fN n t) ∧ But L.C W w'
  meA : ∀ nm, NmA nm → ∀ w, (method 285 L.T (.pointer (some ⟨L.C, 0, none⟩)) nm).run Tryz.prog w = .ok (L.fa, .pointer (some ⟨L.C, 0, none⟩)) w
  callA : ∀ (xs : Array Value) (w : World), (callFunc L.fa xs).run Tryz.prog w = .ok (.enter L.fa xs) w
  arm : ∀ (S : Nat → Prop) (W : World) (k n : Nat) (v : Value) (t : AT k n) (s : Nat), Apart L.C S W → AmV S W k n v t → L.cnt W s → s + L.fA k n t ≤ 9223372036854775807 →
    Calls Tryz.prog L.fa #[.pointer (some ⟨L.C, 0, none⟩), v] W fun r w' => r = .returned .nilIface ∧ L.cnt w' (s + L.fA k n t) ∧ But L.C W w'
/-- What a look counts of a net and all within it. -/
def Lk.gN (L : Lk) : (n : Nat) → NT n → Nat
  | 0, _ => 0
  | n + 1, t => L.fN (n + 1) t + tot (L.gN n) t.kids
def Lk.gK (L : Lk) : (n : Nat) → NT n → Nat
  | 0, _ => 0
  | n + 1, t => tot (L.gN n) t.kids
theorem Lk.gN_eq (L : Lk) : ∀ (n : Nat) (t : NT n), L.gN n t = L.fN n t + L.gK n t
  | 0, t => Empty.elim t
  | _ + 1, _ => rfl

theorem kidsN_any (kd op : Int) (pa : Option Addr) (la ca : Nat) (pk : Option Addr) (lk ck : Nat) (w : World) :
    Calls Tryz.prog 60 #[.agg #[.int .i64 kd, .int .i64 op, .slice pa la ca, .slice pk lk ck]] w fun r w' => r = .returned (.slice pk lk ck) ∧ Below w.heap.size w w' := by
  go_enter Tryz.func60, Tryz.ntmps60
  go_wp2
  go_ret
  exact ⟨rfl, one _ _⟩

/-- The three cells that the walk over nets has captured. -/
structure ClosN (C : Nat) (lv : Value) (nm : String) (w : World) (P5 P7 P4 : Nat) : Prop where
  h5 : w.cell? ⟨P5, 0, none⟩ = some (.func (.method nm) #[lv] #[])
  h7 : w.cell? ⟨P7, 0, none⟩ = some (.func (.func 68) #[] #[.pointer (some ⟨P5, 0, none⟩), .pointer (some ⟨P7, 0, none⟩), .pointer (some ⟨P4, 0, none⟩)])
  h4 : w.cell? ⟨P4, 0, none⟩ = some (.func (.func 60) #[] #[])
  n5 : P5 ≠ C
  n7 : P7 ≠ C
  n4 : P4 ≠ C
theorem ClosN.to {C : Nat} {lv : Value} {nm : String} {w w' : World} {P5 P7 P4 : Nat} (h : ClosN C lv nm w P5 P7 P4) (hb : But C w w') : ClosN C lv nm w' P5 P7 P4 :=
  ⟨hb.cell h.n5 h.h5, hb.cell h.n7 h.h7, hb.cell h.n4 h.h4, h.n5, h.n7, h.n4⟩
def KidsN (L : Lk) (nm : String) (n : Nat) : Prop := ∀ (S : Nat → Prop) (w : World) (_ : Apart L.C S w) (kd op : Int) (pa : Option Addr) (la ca : Nat) (pk : Option Addr) (lk ck : Nat) (t : NT n) (_ : NtV S w n (.agg #[.int .i64 kd, .int .i64 op, .slice pa la ca, .slice pk lk ck]) t)
    (P5 P7 P4 : Nat) (_ : ClosN L.C L.val nm w P5 P7 P4) (s : Nat) (_ : L.cnt w s) (_ : s + L.gK n t ≤ 9223372036854775807),
    Calls Tryz.prog 68 #[.slice pk lk ck, .pointer (some ⟨P5, 0, none⟩), .pointer (some ⟨P7, 0, none⟩), .pointer (some ⟨P4, 0, none⟩)] w fun r w' => r = .returned .nilIface ∧ L.cnt w' (s + L.gK n t) ∧ But L.C w w'
def WalkN (L : Lk) (nm : String) (n : Nat) : Prop := ∀ (S : Nat → Prop) (w : World) (_ : Apart L.C S w) (p : Option Addr) (cap : Nat) (es : List (NT n)) (_ : SlOf S (NtE S w n) 4 p cap es)
    (P5 P7 P4 : Nat) (_ : ClosN L.C L.val nm w P5 P7 P4) (s : Nat) (_ : L.cnt w s) (_ : s + tot (L.gN n) es ≤ 9223372036854775807),
    Calls Tryz.prog 68 #[.slice p es.length cap, .pointer (some ⟨P5, 0, none⟩), .pointer (some ⟨P7, 0, none⟩), .pointer (some ⟨P4, 0, none⟩)] w fun r w' => r = .returned .nilIface ∧ L.cnt w' (s + tot (L.gN n) es) ∧ But L.C w w'
theorem kids_of (L : Lk) (nm : String) (n : Nat) (h : WalkN L nm n) : KidsN L nm (n + 1) := by
  intro S w hS kd op pa la ca pk lk ck t hV P5 P7 P4 hC s hs hbd
  obtain ⟨pa', ca', pk', ck', he, _, h5⟩ := hV
  simp only [Value.agg.injEq, Array.mk.injEq, List.cons.injEq, Value.int.injEq, Value.slice.injEq, true_and, and_true] at he
  obtain ⟨rfl, rfl, ⟨rfl, rfl, rfl⟩, rfl, rfl, rfl⟩ := he
  exact h S w hS pk ck t.kids h5 P5 P7 P4 hC s hs hbd

set_option maxHeartbeats 2000000 in
set_option maxRecDepth 100000 in
theorem walk_of (L : Lk) (ok : L.Ok) (nmN : String) (hnm : NmN nmN) (n : Nat) (IH : KidsN L nmN n) : WalkN L nmN n := by
  intro S w hS p cap es hV P5 P7 P4 hC s hs hbd
  have HS : Hid (Apart L.C S w) := hS
  have HV : Hid (SlOf S (NtE S w n) 4 p cap es) := hV
  have HC : Hid (ClosN L.C L.val nmN w P5 P7 P4) := hC
  have HN : Hid (L.cnt w s) := hs
  have HI : Hid (KidsN L nmN n) := IH
  have HO : Hid L.Ok := ok
  have HM : Hid (NmN nmN) := hnm
  have HD : Hid (s + tot (L.gN n) es ≤ 9223372036854775807) := hbd
  obtain ⟨⟨hl1, hl2⟩, -⟩ := hV
  clear hS hC hs IH ok hbd hnm
  obtain ⟨TL, hTL⟩ : ∃ TL, TL = L.T := ⟨_, rfl⟩
  obtain ⟨C, hCC⟩ : ∃ C, C = L.C := ⟨_, rfl⟩
  have HLV : Hid (L.val = .iface TL (.pointer (some ⟨C, 0, none⟩))) := by
    show _ = _
    rw [hTL, hCC]; rfl
  have HTL : Hid (TL = L.T) := hTL
  have HCC : Hid (C = L.C) := hCC
  clear hTL hCC
  go_enter Tryz.func68, Tryz.ntmps68
  go_wp2
  go_loopw [12] (fun d w' => ∃ j : Nat, j ≤ es.length ∧ d = .int .i64 (j : Int) ∧ Hid (L.cnt w' (s + tot (L.gN n) (es.take j))) ∧ Hid (But L.C w w')) (fun d _ => es.length - (intOf d).toNat)
  case atStart => exact ⟨0, by omega, rfl, HN, But.refl _ _⟩
  case round =>
    obtain ⟨j, hj, rfl, HNj, HB⟩ := hrel
    rename_i wr
    by_cases hlt : j < es.length
    · have hlt' : (j : Int) < (es.length : Int) := by omega
      obtain ⟨t, ht⟩ := get_lt hlt
      have HT1 : Hid (tot (L.gN n) (es.take (j + 1)) = tot (L.gN n) (es.take j) + (L.fN n t + L.gK n t)) := (tot_next (L.gN n) ht).trans (by rw [L.gN_eq n t])
      have HT2 : Hid (tot (L.gN n) (es.take (j + 1)) ≤ tot (L.gN n) es) := tot_le (L.gN n) es (j + 1)
      have hAr : Apart L.C S wr := HS.out.to HB.out.size
      obtain ⟨b, off, rfl, hb, hE⟩ := (nets_to (HB.out.keep HS.out) (fun _ h => h) HV.out).get ht
      obtain ⟨kd, op, pa, la, ca, pk, lk, ck, c0, c1, c2, c3, hNv⟩ := hE.out
      have hbl : b < wr.heap.size := World.block_lt_of_cell? _ _ c0
      have HCl : Hid (ClosN L.C L.val nmN wr P5 P7 P4) := HC.out.to HB.out
      have g5 : wr.cell? ⟨P5, 0, none⟩ = some (.func (.method nmN) #[.iface TL (.pointer (some ⟨C, 0, none⟩))] #[]) := by rw [← HLV.out]; exact HCl.out.h5
      have g5l : P5 < wr.heap.size := World.block_lt_of_cell? _ _ g5
      have HA : Hid (Apart L.C S wr) := hAr
      have HNv : Hid (NtV S wr n (.agg #[.int .i64 kd, .int .i64 op, .slice pa la ca, .slice pk lk ck]) t) := hNv
      clear hE hNv hAr ht
      go_wp2_with fail
      have HBa : Hid (But L.C wr (wr.alloc (.cells #[.int .i64 kd, .int .i64 op, .slice pa la ca, .slice pk lk ck] 49))) := But.of (one _ _)
      have HNa : Hid (L.cnt (wr.alloc (.cells #[.int .i64 kd, .int .i64 op, .slice pa la ca, .slice pk lk ck] 49)) (s + tot (L.gN n) (es.take j))) := HO.out.to _ _ _ HNj.out (one _ _)
      have HOw : Hid ((wr.alloc (.cells #[.int .i64 kd, .int .i64 op, .slice pa la ca, .slice pk lk ck] 49)).heap[wr.heap.size]? = some (.cells #[.int .i64 kd, .int .i64 op, .slice pa la ca, .slice pk lk ck] 49 (0, 0))) := last _ _
      generalize wr.alloc (.cells #[.int .i64 kd, .int .i64 op, .slice pa la ca, .slice pk lk ck] 49) = V at *
      have hnC : wr.heap.size ≠ L.C := by have := HO.out.lt _ _ HNj.out; omega
      refine upon_method (f := L.fn) (r := .pointer (some ⟨C, 0, none⟩)) (v := .nilIface) (g := fun z => #[z, .agg #[.int .i64 kd, .int .i64 op, .slice pa la ca, .slice pk lk ck]]) (R := fun w' => L.cnt w' (s + tot (L.gN n) (es.take j) + L.fN n t) ∧ But L.C V w') ?_ HO.out.call ?_ ?_
      · rw [HTL.out, HCC.out]; exact HO.out.me nmN HM.out V
      · show Calls _ _ #[.pointer (some ⟨C, 0, none⟩), _] _ _
        rw [HCC.out]
        exact HO.out.net S V n _ t _ (HA.out.to HBa.out.size) (HNv.out.to (HBa.out.keep HA.out) (fun _ h => h)) HNa.out (by have := HT1.out; have := HT2.out; have := HD.out; omega)
      · rintro w1 ⟨hn1, hb1⟩
        have HN1 : Hid (L.cnt w1 (s + tot (L.gN n) (es.take j) + L.fN n t)) := hn1
        have HB1 : Hid (But L.C wr w1) := HBa.out.trans hb1
        have HO1 : Hid (w1.heap[wr.heap.size]? = some (.cells #[.int .i64 kd, .int .i64 op, .slice pa la ca, .slice pk lk ck] 49 (0, 0))) := (hb1.block _ (Array.getElem?_eq_some_iff.1 HOw.out).1 hnC).trans HOw.out
        have HC1 : Hid (ClosN L.C L.val nmN w1 P5 P7 P4) := HCl.out.to HB1.out
        have q0 : w1.cell? ⟨wr.heap.size, 0, none⟩ = some (.int .i64 kd) := cell_of_row _ _ 0 _ _ _ HO1.out
        have q1 : w1.cell? ⟨wr.heap.size, 1, none⟩ = some (.int .i64 op) := cell_of_row _ _ 1 _ _ _ HO1.out
        have q2 : w1.cell? ⟨wr.heap.size, 2, none⟩ = some (.slice pa la ca) := cell_of_row _ _ 2 _ _ _ HO1.out
        have q3 : w1.cell? ⟨wr.heap.size, 3, none⟩ = some (.slice pk lk ck) := cell_of_row _ _ 3 _ _ _ HO1.out
        have q7 := HC1.out.h7
        have q4 := HC1.out.h4
        clear hn1 hb1 c0 c1 c2 c3 g5 g5l HBa HNa HOw
        go_wp2
        go_region_held3 (fun W => W.cell? ⟨P7, 0, none⟩ = some (.func (.func 68) #[] #[.pointer (some ⟨P5, 0, none⟩), .pointer (some ⟨P7, 0, none⟩), .pointer (some ⟨P4, 0, none⟩)]) ∧ W.cell? ⟨P4, 0, none⟩ = some (.func (.func 60) #[] #[]) ∧ W.cell? ⟨wr.heap.size, 0, none⟩ = some (.int .i64 kd) ∧ W.cell? ⟨wr.heap.size, 1, none⟩ = some (.int .i64 op) ∧ W.cell? ⟨wr.heap.size, 2, none⟩ = some (.slice pa la ca) ∧ W.cell? ⟨wr.heap.size, 3, none⟩ = some (.slice pk lk ck)) (first | go_keep | assumption)
          (first
            | (go_at_call 60; refine (kidsN_any kd op pa la ca pk lk ck _).mono ?_; rintro e w2 ⟨rfl, hb2⟩; have HB2 : Hid (Below w1.heap.size w1 w2) := (Below.refl _ _).drew.trans hb2; have r0 := keep2 HB2.out q0; have r1 := keep2 HB2.out q1; have r2 := keep2 HB2.out q2; have r3 := keep2 HB2.out q3; have r7 := keep2 HB2.out q7; have r4 := keep2 HB2.out q4; clear hb2)
            | (go_at_call 68; refine (HI.out S w2 ((HA.out.to HB1.out.size).to HB2.out.size) kd op pa la ca pk lk ck t (HNv.out.to ((HB1.out.trans (But.of HB2.out)).keep HA.out) (fun _ h => h)) P5 P7 P4 (HC1.out.to (But.of HB2.out)) (s + tot (L.gN n) (es.take j) + L.fN n t) (HO.out.to _ _ _ HN1.out HB2.out) ?_).mono ?_; (have := HT1.out; have := HT2.out; have := HD.out; omega); rintro e w3 ⟨rfl, hn3, hb3⟩; have HN3 : Hid (L.cnt w3 (s + tot (L.gN n) (es.take j) + L.fN n t + L.gK n t)) := hn3; have HB3 : Hid (But L.C w w3) := (HB.out.trans HB1.out).trans ((But.of HB2.out).trans hb3); have u0 := hb3.cell hnC r0; have u1 := hb3.cell hnC r1; have u2 := hb3.cell hnC r2; have u3 := hb3.cell hnC r3; have u7 := hb3.cell HC1.out.n7 r7; have u4 := hb3.cell HC1.out.n4 r4; clear hn3 hb3))
        all_goals (try go_wp2)
        all_goals exact ⟨⟨j + 1, by omega, by go_num, (by have h := HN3.out; have e : s + tot (L.gN n) (es.take (j + 1)) = s + tot (L.gN n) (es.take j) + L.fN n t + L.gK n t := by { have := HT1.out; omega }; show L.cnt w3 _; rw [e]; exact h), HB3⟩, by simp [intOf]; omega⟩
    · obtain rfl : j = es.length := by omega
      have HNe : Hid (L.cnt wr (s + tot (L.gN n) es)) := by
        have := HNj.out
        rw [List.take_length] at this
        exact this
      go_wp2
      go_ret
      exact ⟨rfl, HNe.out, HB.out⟩
theorem walkN_any (L : Lk) (ok : L.Ok) (nmN : String) (hnm : NmN nmN) : ∀ n, WalkN L nmN n
  | 0 => walk_of L ok nmN hnm 0 (fun _ _ _ _ _ _ _ _ _ _ _ _ h => h.elim)
  | n + 1 => walk_of L ok nmN hnm (n + 1) (kids_of L nmN n (walkN_any L ok nmN hnm n))
end Go.Proofs.YtjkpingdokkkcaaGreatDoor.Tr
