/- A memory that is drawn, in a region that draws its order. Helper text: no statement is claimed here. -/
import Derived.Test.YtmgjngihngddfaaGreatDoorZb
import Derived.Test.YtmgjngihngddfaaGreatDoorP01
import Derived.Test.YtmgjngihngddfaaGreatDoorP02
import Derived.Test.YtmgjngihngddfaaGreatDoorP28
import Derived.Test.YtmgjngihngddfaaGreatDoorVz
import Derived.Test.YtmgjngihngddfaaGreatDoorJo
import Derived.Test.YtmgjngihngddfaaGreatDoorP03
import Derived.Test.YtmgjngihngddfaaGreatDoorP04
import Derived.Test.YtmgjngihngddfaaGreatDoorP27
import Derived.Test.YtmgjngihngddfaaGreatDoorP06
namespace Go.Proofs.YtmgjngihngddfaaGreatDoor
open Go.ChangeShapes Go.WideShapes Go.ChangeAt Go.RowKit

theorem Rd.drewZ {w : World} {rb m : Nat} (h : Rd w rb m) : Rd w.drew rb m := h.to (Below.refl _ _).drew
theorem Step.drewZ (rb : Nat) (w : World) : Step rb w w.drew := .of (Below.refl _ _).drew
theorem runMem {W : World} {b : Nat} {m : Mm} (h : MemAt W b m) : (loadVar 37 ⟨b, 0, none⟩).run Tryz.prog W = .ok m.val W := by
  have := run_loadVar_mid (P := Tryz.prog) W b 0 37 m.cells.toList _ h.range Tryz.underlying37 rfl (by rw [Array.length_toList, cells_size]; kernel_rfl)
  rwa [Array.toArray_toList] at this
theorem Own.byBlock {w w2 : World} {b : Nat} {x y z : Value} (h : Own w b x y z) (e : w2.heap[b]? = w.heap[b]?) : Own w2 b x y z := by
  unfold Own
  rw [World.cell?_of_block (w := w) (a := ⟨b, 0, none⟩) e, World.cell?_of_block (w := w) (a := ⟨b, 1, none⟩) e, World.cell?_of_block (w := w) (a := ⟨b, 2, none⟩) e, World.frozen?_of_block (w := w) (a := ⟨b, 0, none⟩) e, World.frozen?_of_block (w := w) (a := ⟨b, 1, none⟩) e, World.frozen?_of_block (w := w) (a := ⟨b, 2, none⟩) e]
  exact h
theorem wp_callDrawn {o : Oper} {a : Act} {w : World} {K : Act → World → Prop} {Q : Exit → Act → World → Prop} {f : FuncId} {xs : Array Operand} {ts : Array TypeId} {rb m : Nat} (hf : ∀ (xs : Array Value) (w : World), (callFunc f xs).run Tryz.prog w = .ok (.enter f xs) w) (ho : o.op = .call { callee := .value (.func f), args := xs, argTypes := ts })
    {args : Array Value} (ha : xs.map a.eval = args) (hC : Calls Tryz.prog f args w (DrawnM rb m w)) (hk : ∀ mm w', Mm.Ok mm → Rd w' rb m → Step rb w w' → K (a.put o.dst mm.val) w') : o.wp Tryz.prog a w K Q := by
  subst ha
  have he : (execOp a.eval o).run Tryz.prog w = .ok (.enter f (xs.map a.eval)) w := by
    unfold execOp
    rw [ho]
    simp [go_sem, resolve, hf]
  unfold Oper.wp
  rw [he, Oper.upon_enter]
  refine hC.mono ?_
  rintro e w' ⟨mm, rfl, h1, h2, h3⟩
  exact hk mm w' h1 h2 h3
theorem wp_storeMemK {o : Oper} {a : Act} {w : World} {K : Act → World → Prop} {Q : Exit → Act → World → Prop} {b : Nat} {m : Mm} (x y : Operand) (ho : o.op = .store 37 x y) (hx : a.eval x = .pointer (some ⟨b, 0, none⟩)) (hy : a.eval y = m.val) {f : Nat → Value} (hR : RowAt w b 37 136 f)
    (hk : ∀ w2, MemAt w2 b m → w2.heap.size = w.heap.size → (∀ j, j ≠ b → w2.heap[j]? = w.heap[j]?) → (w2.os = w.os ∧ w2.tape = w.tape ∧ w2.output = w.output) → K (a.put o.dst undef) w2) : o.wp Tryz.prog a w K Q := by
  obtain ⟨w2, hs, hR2, hz2, hk2, hb2⟩ := hR.store 0 136 m.cell m.cell (by omega) (fun i _ => cell_one m i) (fun i hi => by rw [if_pos ⟨by omega, by omega⟩, Nat.sub_zero])
  have hv : (storeVar 37 ⟨b, 0, none⟩ m.val).run Tryz.prog w = .ok () w2 := storeVar_row (by kernel_rfl) hs
  unfold Oper.wp execOp
  rw [ho]
  simp only [hx, hy, Instr.storeAt, Instr.sureAddr, Sem.run_bind, Sem.run_pure, Result.andThen_ok, hv]
  exact hk w2 hR2 hz2 hk2 (same_of hb2)
end Go.Proofs.YtmgjngihngddfaaGreatDoor

/- The drawing of a memory and a contact: DrawActTest. Helper text: no statement is claimed here. -/
namespace Go.Proofs.YtmgjngihngddfaaGreatDoor
open Go.ChangeShapes Go.WideShapes Go.ChangeAt Go.RowKit

theorem Own2.byBlock {w w2 : World} {b : Nat} {x y : Value} (h : Own2 w b x y) (e : w2.heap[b]? = w.heap[b]?) : Own2 w2 b x y := by
  unfold Own2
  rw [World.cell?_of_block (w := w) (a := ⟨b, 0, none⟩) e, World.cell?_of_block (w := w) (a := ⟨b, 1, none⟩) e, World.frozen?_of_block (w := w) (a := ⟨b, 0, none⟩) e, World.frozen?_of_block (w := w) (a := ⟨b, 1, none⟩) e]
  exact h
theorem res2E {fn : Func} {W : World} {b c p q : Nat} {tmps : Array Value} {m : Mm} {x y : Value} (h : fn.results = #[.cell p 37, .cell q 40]) (hp : tmps.getD p undef = .pointer (some ⟨b, 0, none⟩)) (hq : tmps.getD q undef = .pointer (some ⟨c, 0, none⟩))
    (hM : MemAt W b m) (hc : Own2 W c x y) : (results fn tmps).run Tryz.prog W = .ok (.tuple #[m.val, .agg #[x, y]]) W := by
  obtain ⟨⟨h0, h1⟩, -, -⟩ := hc
  have hA : (loadVar 40 ⟨c, 0, none⟩).run Tryz.prog W = .ok (.agg #[x, y]) W := by simp [go_sem, h0, h1]
  have hp' : tmps[p]?.getD undef = .pointer (some ⟨b, 0, none⟩) := by simpa [Array.getD_eq_getD_getElem?] using hp
  have hq' : tmps[q]?.getD undef = .pointer (some ⟨c, 0, none⟩) := by simpa [Array.getD_eq_getD_getElem?] using hq
  simp [results, h, hp', hq', asAddr, runMem hM, hA]
theorem wp_storeElem {o : Oper} {a : Act} {w : World} {K : Act → World → Prop} {Q : Exit → Act → World → Prop} {b n cap : Nat} {op : Int} {p : Option Addr} {u0 u1 : Value} (x y : Operand) (ho : o.op = .store 40 x y) (hx : a.eval x = .pointer (some ⟨b, 0, none⟩)) (hy : a.eval y = .agg #[.int .i64 op, .slice p n cap]) (hO : Own2 w b u0 u1)
    (hk : K (a.put o.dst undef) ((w.setCell ⟨b, 0, none⟩ (.int .i64 op)).setCell ⟨b, 1, none⟩ (.slice p n cap))) : o.wp Tryz.prog a w K Q := by
  obtain ⟨⟨c0, c1⟩, f0, f1⟩ := hO
  have hv : (storeVar 40 ⟨b, 0, none⟩ (.agg #[.int .i64 op, .slice p n cap])).run Tryz.prog w = .ok () ((w.setCell ⟨b, 0, none⟩ (.int .i64 op)).setCell ⟨b, 1, none⟩ (.slice p n cap)) := by
    simp [go_sem, c0, c1, f0, f1]
  unfold Oper.wp execOp
  rw [ho]
  simp only [hx, hy, Instr.storeAt, Instr.sureAddr, Sem.run_bind, Sem.run_pure, Result.andThen_ok, hv]
  exact hk
set_option maxHeartbeats 1000000 in
set_option maxRecDepth 100000 in
theorem elem_region {id : Nat} {pos : String} {TR : TypeId} {f : FuncId} {Q : Exit → Act → World → Prop} {w : World} {t0 t1 t6 t7 t8 t9 t10 t11 t12 t13 t14 t15 t16 t17 t18 t19 t20 t21 t22 t23 t24 : Value} {b2 b3 b5 rb m n cap : Nat} {op : Int} {p : Option Addr} {D : List _}
    (hf : ∀ (xs : Array Value) (w : World), (callFunc f xs).run Tryz.prog w = .ok (.enter f xs) w)
    (h5 : Own2 w b5 (.int .i64 op) (.slice p n cap)) (h3 : ∃ x y, Own2 w b3 x y) (h2 : RowF w b2) (hr : Rd w rb m) (n2 : b2 ≠ rb) (n3 : b3 ≠ rb) (n5 : b5 ≠ rb) (n25 : b5 ≠ b2) (n35 : b5 ≠ b3) (n23 : b2 ≠ b3)
    (hC : ∀ W, Rd W rb m → Calls Tryz.prog f #[.pointer (some ⟨rb, 0, none⟩)] W (DrawnM rb (m + 720) W))
    (hQ : ∀ (mm : Mm) w', mm.Ok → MemAt w' b2 mm → Own2 w' b3 (.int .i64 op) (.slice p n cap) →
      (w.heap.size ≤ w'.heap.size ∧ w'.os = w.os ∧ w'.tape = w.tape ∧ w'.output = w.output ∧ ∀ j, j < w.heap.size → j ≠ rb → j ≠ b2 → j ≠ b3 → w'.heap[j]? = w.heap[j]?) → Q .normal { tmps := #[t0, t1, .pointer (some ⟨b2, 0, none⟩), .pointer (some ⟨b3, 0, none⟩), .pointer (some ⟨rb, 0, none⟩), .pointer (some ⟨b5, 0, none⟩), t6, t7, t8, t9, t10, t11, t12, t13, t14, t15, t16, t17, t18, t19, t20, t21, .pointer (some ⟨rb, 0, none⟩), mm.val, .agg #[.int .i64 op, .slice p n cap]], defers := D } w') :
    (Code.region id #[{ dst := some 22, op := .move (.tmp 4), type := TR, pos := pos, after := #[], guard := none }, { dst := some 23, op := .call { callee := .value (.func f), args := #[.tmp 22], argTypes := #[TR] }, type := 37, pos := pos, after := #[{ on := 0, ground := .data }], guard := none }, { dst := some 24, op := .load 40 (.tmp 5), type := 40, pos := pos, after := #[{ on := 3, ground := .gcOnly .lateStores }], guard := none }, { dst := none, op := .store 37 (.tmp 2) (.tmp 23), type := 0, pos := pos, after := #[{ on := 1, ground := .data }, { on := 1, ground := .chain }, { on := 0, ground := .phase }, { on := 1, ground := .phase }, { on := 2, ground := .textOnly .lateStores }], guard := none }, { dst := none, op := .store 40 (.tmp 3) (.tmp 24), type := 0, pos := pos, after := #[{ on := 2, ground := .data }, { on := 3, ground := .chain }, { on := 0, ground := .phase }, { on := 1, ground := .phase }, { on := 2, ground := .phase }, { on := 3, ground := .phase }], guard := none }] true).wp Tryz.prog Q { tmps := #[t0, t1, .pointer (some ⟨b2, 0, none⟩), .pointer (some ⟨b3, 0, none⟩), .pointer (some ⟨rb, 0, none⟩), .pointer (some ⟨b5, 0, none⟩), t6, t7, t8, t9, t10, t11, t12, t13, t14, t15, t16, t17, t18, t19, t20, t21, t22, t23, t24], defers := D } w := by
  have hA : w.rangeAt b5 0 [.int .i64 op, .slice p n cap] := range2V h5.1.1 h5.1.2
  refine wp_region_noPanic ?_
  refine wp_region_held_drew (S := fun W => W.rangeAt b5 0 [.int .i64 op, .slice p n cap]) (by kernel_rfl) (fun j v hv => hA j v hv) (fun hHeld => ?_)
  refine wpAnyH_take (i := 0) (oi := { dst := some 22, op := .move (.tmp 4), type := TR, pos := pos, after := #[], guard := none }) (v := .pointer (some ⟨rb, 0, none⟩)) rfl (by kernel_rfl) (by kernel_rfl) (by kernel_rfl) (fun _ _ _ h => h) (.inl ⟨by rfl, fun _ _ => rfl⟩) hHeld ?_
  simp only [Act.put, List.setIfInBounds_toArray, List.set_cons_zero, List.set_cons_succ]
  refine wpAnyH_take (i := 2) (oi := { dst := some 24, op := .load 40 (.tmp 5), type := 40, pos := pos, after := #[{ on := 3, ground := .gcOnly .lateStores }], guard := none }) (v := .agg #[.int .i64 op, .slice p n cap]) rfl (by kernel_rfl) (by kernel_rfl) (by kernel_rfl) (fun _ _ _ h => h) (yieldsIf_load_mid (by rfl) _ _ rfl b5 0 rfl [.int .i64 op, .slice p n cap] _ (fun _ h => h) Tryz.underlying40 rfl (by kernel_rfl)) hHeld ?_
  simp only [Act.put, List.setIfInBounds_toArray, List.set_cons_zero, List.set_cons_succ]
  refine wpAnyH_ready (rs := [1]) (by kernel_rfl) (by simp) ?_
  refine AllReadyH.cons (o := { dst := some 23, op := .call { callee := .value (.func f), args := #[.tmp 22], argTypes := #[TR] }, type := 37, pos := pos, after := #[{ on := 0, ground := .data }], guard := none }) rfl (fun K hK => ?_) AllReadyH.nil
  rw [if_pos (by rfl)]
  refine wp_callDrawn (args := #[.pointer (some ⟨rb, 0, none⟩)]) hf rfl (by simp [Act.eval]) (hC _ hr.drewZ) ?_
  intro mm w1 hmm hr1 st1
  have st : Step rb w w1 := (Step.drewZ rb w).trans st1
  have o5 := h5.step st n5
  obtain ⟨x, y, h3⟩ := h3
  have o3 := h3.step st n3
  have r2 := h2.step st n2
  refine hK.out _ _ (range2V o5.1.1 o5.1.2) (fun hHeld => ?_)
  simp only [Act.put, List.setIfInBounds_toArray, List.set_cons_zero, List.set_cons_succ]
  obtain ⟨g, r2⟩ := r2
  refine wpAnyH_ready (rs := [3]) (by kernel_rfl) (by simp) ?_
  refine AllReadyH.cons (o := { dst := none, op := .store 37 (.tmp 2) (.tmp 23), type := 0, pos := pos, after := #[{ on := 1, ground := .data }, { on := 1, ground := .chain }, { on := 0, ground := .phase }, { on := 1, ground := .phase }, { on := 2, ground := .textOnly .lateStores }], guard := none }) rfl (fun K hK => ?_) AllReadyH.nil
  rw [if_pos (by rfl)]
  with_reducible refine wp_storeMemK (m := mm) (b := b2) (.tmp 2) (.tmp 23) ?_ ?_ ?_ r2 ?_
  · rfl
  · simp [Act.eval]
  · simp [Act.eval]
  intro w2 HM2 hz2 hk2 hs2
  have o3' : Own2 w2 b3 x y := o3.byBlock (hk2 b3 (fun e => n23 e.symm))
  have o5' : Own2 w2 b5 (.int .i64 op) (.slice p n cap) := o5.byBlock (hk2 b5 n25)
  refine hK.out _ _ (range2V o5'.1.1 o5'.1.2) (fun hHeld => ?_)
  simp only [Act.put]
  refine wpAnyH_ready (rs := [4]) (by kernel_rfl) (by simp) ?_
  refine AllReadyH.cons (o := { dst := none, op := .store 40 (.tmp 3) (.tmp 24), type := 0, pos := pos, after := #[{ on := 2, ground := .data }, { on := 3, ground := .chain }, { on := 0, ground := .phase }, { on := 1, ground := .phase }, { on := 2, ground := .phase }, { on := 3, ground := .phase }], guard := none }) rfl (fun K hK => ?_) AllReadyH.nil
  rw [if_pos (by rfl)]
  refine wp_storeElem (op := op) (p := p) (n := n) (cap := cap) (.tmp 3) (.tmp 24) rfl (by simp [Act.eval]) (by simp [Act.eval]) o3' ?_
  have o5'' := (o5'.set (i := 0) (v := .int .i64 op) (fun e => n35 e.symm)).set (i := 1) (v := .slice p n cap) (fun e => n35 e.symm)
  refine hK.out _ _ (range2V o5''.1.1 o5''.1.2) (fun hHeld => ?_)
  simp only [Act.put]
  have hd := hQ mm _ hmm ((HM2.other (.int .i64 op) n23).other (.slice p n cap) n23) (o3'.put _ _)
    ⟨by simp [hz2]; exact st.size, by simp [World.setCell]; exact hs2.1.trans st.os, by simp [World.setCell]; exact hs2.2.1.trans st.tape, by simp [World.setCell]; exact hs2.2.2.trans st.output, fun j hj j1 j2 j3 => by
      rw [heap_setCell_other _ ⟨b3, 1, none⟩ j _ j3, heap_setCell_other _ ⟨b3, 0, none⟩ j _ j3, hk2 j j2, st.block j hj j1]⟩
  refine wpAnyH_done ?_ ?_ _
  · kernel_rfl
  · exact NoPanic.normal hd

/-- What the drawing of a memory and a contact or coil ends in. -/
def DrawnME (w : World) (e : Ending) (w' : World) : Prop := ∃ (mm : Mm) (op : Int) (ys : List Ar) (p : Option Addr) (cap : Nat), e = .returned (.tuple #[mm.val, elemV op p ys.length cap]) ∧ mm.Ok ∧ Sm op ∧ (∀ a ∈ ys, Sm a.1 ∧ Sm a.2.1 ∧ Sm a.2.2) ∧ ys.length ≤ cap ∧ ArgsIs w' p ys ∧ Below w.heap.size w w'
/-- A drawn contact or coil in a variable of the call's own, behind the reader. -/
def ABox (w : World) (rb m E : Nat) (W : World) (op : Int) (ys : List Ar) (p : Option Addr) (cap : Nat) : Prop := Sm op ∧ (∀ a ∈ ys, Sm a.1 ∧ Sm a.2.1 ∧ Sm a.2.2) ∧ ys.length ≤ cap ∧
  Own2 W E (.int .i64 op) (.slice p ys.length cap) ∧ Far rb E W p ys cap ∧ Own2 W (w.heap.size + 1) (.int .i64 0) (.slice none 0 0) ∧ RowF W w.heap.size ∧ Rd W rb m ∧ Below w.heap.size w W
set_option maxHeartbeats 1000000 in
set_option maxRecDepth 100000 in
theorem drawTest_any (a : Option Addr) (len cap : Nat) (w : World) (h : IsRow w a len) (hlc : len ≤ cap) :
    Calls Tryz.prog 4 #[.slice a len cap] w (DrawnME w) := by
  have hz : ∀ w, (zeroValue 37).run Tryz.prog w = .ok (.agg zeroM.cells) w := fun _ => by kernel_rfl
  have HH : Hid (IsRow w a len) := h
  clear h
  go_enter Tryz.func4, Tryz.ntmps4
  go_upto_region 1 with fail
  have HB : Hid (Below w.heap.size w ((w.alloc (.cells zeroM.cells 37)).alloc (.cells #[.int .i64 0, .slice none 0 0] 40))) := ((Below.refl _ _).alloc (Nat.le_refl _) _).alloc (by simp) _
  have HI : Hid (IsRow ((w.alloc (.cells zeroM.cells 37)).alloc (.cells #[.int .i64 0, .slice none 0 0] 40)) a len) := (HH.out.alloc _).alloc _
  have HR : Hid (RowF ((w.alloc (.cells zeroM.cells 37)).alloc (.cells #[.int .i64 0, .slice none 0 0] 40)) w.heap.size) := ⟨_, (RowAt.new w 37 136 zeroM.cell).alloc _⟩
  have HO : Hid (Own2 ((w.alloc (.cells zeroM.cells 37)).alloc (.cells #[.int .i64 0, .slice none 0 0] 40)) (w.heap.size + 1) (.int .i64 0) (.slice none 0 0)) := by
    have := Own2.new (w.alloc (.cells zeroM.cells 37)) (.int .i64 0) (.slice none 0 0)
    rw [show (w.alloc (.cells zeroM.cells 37)).heap.size = w.heap.size + 1 by simp] at this
    exact this
  have HS : Hid ((World.heap ((w.alloc (.cells zeroM.cells 37)).alloc (.cells #[.int .i64 0, .slice none 0 0] 40))).size = w.heap.size + 2) := by show _ = _; simp
  generalize ((w.alloc (.cells zeroM.cells 37)).alloc (.cells #[.int .i64 0, .slice none 0 0] 40)) = V at *
  clear hz
  have HOp : Hid (∃ rb, rb = V.heap.size ∧ Calls Tryz.prog 12 #[.slice a len cap] V fun e w' => e = .returned (.pointer (some ⟨rb, 0, none⟩)) ∧ Rd w' rb 0 ∧ Below V.heap.size V w') := ⟨_, rfl, open_any a len cap V HI.out hlc⟩
  obtain ⟨rb, hrb, hcall⟩ := HOp.out
  have hs : w.heap.size + 1 < rb := by have := hrb.trans HS.out; omega
  have HCall : Hid _ := hcall
  clear HOp hcall
  go_wp2_with fail
  refine Calls.mono HCall.out ?_
  rintro e w1 ⟨rfl, hr1, hb1⟩
  have hl1 : rb < w1.heap.size := hr1.lt
  have HB1 : Hid (Below w.heap.size w w1) := HB.out.trans (hb1.mono HB.out.size)
  have HR1 : Hid (RowF w1 w.heap.size) := by obtain ⟨f, hf⟩ := HR.out; exact ⟨f, hf.to hb1⟩
  have HO1 : Hid (Own2 w1 (w.heap.size + 1) (.int .i64 0) (.slice none 0 0)) := HO.out.below hb1
  have Hr1 : Hid (Rd w1 rb 0) := hr1
  clear hb1 hr1 HB HI HR HO HS HCall hrb
  go_wp2_with fail
  have hA : Calls Tryz.prog 13 #[.pointer (some ⟨rb, 0, none⟩)] w1 (EDrawn 3 rb 30 w1) := l3Contact_any rb 0 w1 Hr1.out (Nat.zero_le _)
  refine Calls.mono hA ?_
  clear hA
  rintro e w2 ⟨op, ys, p, cp, rfl, hop, hys, hl, hlc2, hel, hr2, st2⟩
  have hl2 : rb < w2.heap.size := hr2.lt
  have HR2 : Hid (RowF (w2.alloc (.cells #[.int .i64 op, .slice p ys.length cp] 40)) w.heap.size) := by obtain ⟨f, hf⟩ := HR1.out.step st2 (by omega); exact ⟨f, hf.alloc _⟩
  have HO2 : Hid (Own2 (w2.alloc (.cells #[.int .i64 op, .slice p ys.length cp] 40)) (w.heap.size + 1) (.int .i64 0) (.slice none 0 0)) := (HO1.out.step st2 (by omega)).alloc _
  have HB2 : Hid (Below w.heap.size w (w2.alloc (.cells #[.int .i64 op, .slice p ys.length cp] 40))) := (HB1.out.trans (st2.below (by omega) HB1.out.size)).alloc (Nat.le_trans HB1.out.size st2.size) _
  have Hr2 : Hid (Rd (w2.alloc (.cells #[.int .i64 op, .slice p ys.length cp] 40)) rb 30) := hr2.alloc _
  have HE2 : Hid (Own2 (w2.alloc (.cells #[.int .i64 op, .slice p ys.length cp] 40)) w2.heap.size (.int .i64 op) (.slice p ys.length cp)) := Own2.new w2 _ _
  have HF2 : Hid (Far rb w2.heap.size (w2.alloc (.cells #[.int .i64 op, .slice p ys.length cp] 40)) p ys cp) := (Far.of hel hl1 (.inr (Nat.le_refl _))).step (Step.alloc rb w2 _) (Nat.le_refl _)
  clear hr2 st2 HR1 HO1 HB1 Hr1 hel
  go_wp2_with fail
  generalize w2.alloc (.cells #[.int .i64 op, .slice p ys.length cp] 40) = V2 at *
  obtain ⟨E, hE⟩ : ∃ E, E = w2.heap.size := ⟨_, rfl⟩
  rw [← hE] at HE2 HF2 hl2 ⊢
  clear hE
  have hp : Calls Tryz.prog 14 #[.pointer (some ⟨rb, 0, none⟩), .int .i64 16] V2 fun e w' => ∃ v, e = .returned (.int .i64 v) ∧ 0 ≤ v ∧ ((1 : Int) ≤ 16 → v < 16) ∧ ((16 : Int) < 1 → v = 0) ∧ Rd w' rb (30 + 1) ∧ Step rb V2 w' := pick_any rb 30 16 V2 (by omega) Hr2.out (by omega)
  refine Calls.mono hp ?_
  clear hp
  rintro e w3 ⟨u, rfl, u0, u1, -, hr3, st3⟩
  have HX3 : Hid (ABox w rb 31 E w3 op ys p cp) := ⟨hop, hys, hlc2, HE2.out.step st3 (by omega), HF2.out.step st3 (Nat.le_refl _), HO2.out.step st3 (by omega), HR2.out.step st3 (by omega), hr3, HB2.out.trans (st3.below (by omega) HB2.out.size)⟩
  clear hop hys hlc2 HE2 HF2 HO2 HR2 hr3 HB2 st3 Hr2 u1
  have FIN : ∀ (m : Nat) (W : World) (op : Int) (ys : List Ar) (p : Option Addr) (cp : Nat), m ≤ 160 → ABox w rb m E W op ys p cp → ∀ (mm : Mm) (w' : World), mm.Ok → MemAt w' w.heap.size mm → Own2 w' (w.heap.size + 1) (.int .i64 op) (.slice p ys.length cp) →
      (W.heap.size ≤ w'.heap.size ∧ w'.os = W.os ∧ w'.tape = W.tape ∧ w'.output = W.output ∧ ∀ j, j < W.heap.size → j ≠ rb → j ≠ w.heap.size → j ≠ w.heap.size + 1 → w'.heap[j]? = W.heap[j]?) → DrawnME w (.returned (.tuple #[mm.val, elemV op p ys.length cp])) w' := by
    rintro m W op ys p cp hm ⟨hop, hys, hlc, hE, hF, hO, hR, hr, hB⟩ mm w' hmm hat hc hrest
    refine ⟨mm, op, ys, p, cp, rfl, hmm, hop, hys, hlc, ?_, hB.trans ⟨hrest.2.1, hrest.2.2.1, hrest.2.2.2.1, hrest.1, fun j hj => hrest.2.2.2.2 j (Nat.lt_of_lt_of_le hj hB.size) (by omega) (by omega) (by omega)⟩⟩
    rcases hF with ⟨-, h0, -⟩ | ⟨B, rfl, b1, b2, b3, b4⟩
    · exact .inl h0
    · refine .inr ⟨B, rfl, Nat.lt_of_lt_of_le b3 hrest.1, fun i hi => ?_⟩
      have e := hrest.2.2.2.2 B b3 (by omega) (by omega) (by omega)
      rw [World.cell?_of_block (w := W) (a := ⟨B, i * 3, none⟩) e, World.cell?_of_block (w := W) (a := ⟨B, i * 3 + 1, none⟩) e, World.cell?_of_block (w := W) (a := ⟨B, i * 3 + 2, none⟩) e]
      exact b4 i hi
  have HFIN : Hid _ := FIN
  clear FIN
  have hE3 : E ≠ w.heap.size ∧ E ≠ w.heap.size + 1 ∧ E ≠ rb ∧ rb < E := by omega
  obtain ⟨hE3a, hE3b, hE3c, hE3d⟩ := hE3
  by_cases c0 : u = 0
  · subst c0
    obtain ⟨hop, hys, hlcx, hE, hF, hO, hR, hr, hB⟩ := HX3.out
    have hlE := hE.lt
    go_wp2_with fail
    refine (l3Coil_any rb 31 w3 hr (by omega)).mono ?_
    rintro e w4 ⟨op4, ys4, p4, cp4, rfl, hop4, hys4, hl4, hlc4, hel4, hr4, st4⟩
    have hE4 := hE.step st4 (by omega)
    have HX4 : Hid (ABox w rb 71 E ((w4.setCell ⟨E, 0, none⟩ (.int .i64 op4)).setCell ⟨E, 1, none⟩ (.slice p4 ys4.length cp4)) op4 ys4 p4 cp4) :=
      ⟨hop4, hys4, hlc4, hE4.put _ _, ((Far.of (b := rb) (E := E) hel4 (by omega) (.inl hlE)).setE).setE, ((hO.step st4 (by omega)).set (by omega)).set (by omega), ((hR.step st4 (by omega)).other _ (by omega)).other _ (by omega), (hr4.set _ _ _ (by omega)).set _ _ _ (by omega), ((hB.trans (st4.below (by omega) hB.size)).setCell (p := ⟨E, 0, none⟩) (by show w.heap.size ≤ E; omega) _).setCell (p := ⟨E, 1, none⟩) (by show w.heap.size ≤ E; omega) _⟩
    obtain ⟨⟨d0, d1⟩, z0, z1⟩ := hE4
    clear hop hys hlcx hE hF hO hR hr hB HX3 hop4 hys4 hlc4 hel4 hr4 st4 hl4
    go_upto_region 9 with fail
    generalize ((w4.setCell ⟨E, 0, none⟩ (.int .i64 op4)).setCell ⟨E, 1, none⟩ (.slice p4 ys4.length cp4)) = V4 at *
    obtain ⟨hop9, hys9, hlc9, hE9, hF9, hO9, hR9, hr9, hB9⟩ := HX4.out
    refine elem_region (op := op4) (p := p4) (n := ys4.length) (cap := cp4) Tryz.call17 hE9 ⟨_, _, hO9⟩ hR9 hr9 (by omega) (by omega) (by omega) (by omega) (by omega) (by omega) (fun W hW => draw_any rb _ W hW (by omega)) ?_
    intro mm w9 hmm hat hc hrest
    have HZ : Hid (DrawnME w (.returned (.tuple #[mm.val, elemV op4 p4 ys4.length cp4])) w9) := HFIN.out _ _ _ _ _ _ (by omega) HX4.out mm w9 hmm hat hc hrest
    have HAT : Hid (MemAt w9 w.heap.size mm) := hat
    have HC : Hid (Own2 w9 (w.heap.size + 1) (.int .i64 op4) (.slice p4 ys4.length cp4)) := hc
    clear hat hc hrest hop9 hys9 hlc9 hE9 hF9 hO9 hR9 hr9 hB9 HX4 HFIN
    go_wp2
    exact bodyPost_ret (v := .tuple #[mm.val, elemV op4 p4 ys4.length cp4]) (res2E Tryz.results4 rfl rfl HAT.out HC.out) rfl HZ.out
  have q0 : (u == 0) = false := by simpa using c0
  by_cases c12 : u = 1 ∨ u = 2
  · obtain ⟨hop, hys, hlcx, hE, hF, hO, hR, hr, hB⟩ := HX3.out
    have hlE := hE.lt
    have HSP : Hid (∀ L, ys.length ≤ L → L ≤ 10 → Calls Tryz.prog 16 #[.pointer (some ⟨rb, 0, none⟩), elemV op p ys.length cp] w3 (EDrawn (L + 1) rb (31 + 20) w3)) := fun L h1 h2 => spoilE_any L rb 31 op ys p cp w3 hr (by omega) (hF.elsB (Nat.le_refl _)) hop hys h1 h2
    have HW : Hid (∀ w4 op4 ys4 p4 cp4, Sm op4 → (∀ a ∈ ys4, Sm a.1 ∧ Sm a.2.1 ∧ Sm a.2.2) → List.length ys4 ≤ cp4 → Els w3.heap.size w4 p4 ys4 cp4 → Rd w4 rb 51 → Step rb w3 w4 → Own2 w4 E (.int .i64 op) (.slice p ys.length cp) ∧ ABox w rb 51 E ((w4.setCell ⟨E, 0, none⟩ (.int .i64 op4)).setCell ⟨E, 1, none⟩ (.slice p4 ys4.length cp4)) op4 ys4 p4 cp4) := fun w4 op4 ys4 p4 cp4 hop4 hys4 hlc4 hel4 hr4 st4 =>
      ⟨hE.step st4 (by omega), hop4, hys4, hlc4, (hE.step st4 (by omega)).put _ _, ((Far.of (b := rb) (E := E) hel4 (by omega) (.inl hlE)).setE).setE, ((hO.step st4 (by omega)).set (by omega)).set (by omega), ((hR.step st4 (by omega)).other _ (by omega)).other _ (by omega), (hr4.set _ _ _ (by omega)).set _ _ _ (by omega), ((hB.trans (st4.below (by omega) hB.size)).setCell (p := ⟨E, 0, none⟩) (by show w.heap.size ≤ E; omega) _).setCell (p := ⟨E, 1, none⟩) (by show w.heap.size ≤ E; omega) _⟩
    obtain ⟨⟨d0, d1⟩, z0, z1⟩ := hE
    clear hop hys hlcx hF hO hR hr hB HX3
    rcases c12 with rfl | rfl
    all_goals (
      go_wp2_with fail
      refine (HSP.out 3 (by omega) (by omega)).mono ?_
      rintro e w4 ⟨op4, ys4, p4, cp4, rfl, hop4, hys4, hl4, hlc4, hel4, hr4, st4⟩
      obtain ⟨⟨⟨d0, d1⟩, z0, z1⟩, hx4⟩ := HW.out w4 op4 ys4 p4 cp4 hop4 hys4 hlc4 hel4 hr4 st4
      have HX4 : Hid (ABox w rb 51 E ((w4.setCell ⟨E, 0, none⟩ (.int .i64 op4)).setCell ⟨E, 1, none⟩ (.slice p4 ys4.length cp4)) op4 ys4 p4 cp4) := hx4
      clear hop4 hys4 hlc4 hel4 hr4 st4 hl4 hx4 HW HSP
      go_upto_region 9 with fail
      generalize ((w4.setCell ⟨E, 0, none⟩ (.int .i64 op4)).setCell ⟨E, 1, none⟩ (.slice p4 ys4.length cp4)) = V4 at *
      obtain ⟨hop9, hys9, hlc9, hE9, hF9, hO9, hR9, hr9, hB9⟩ := HX4.out
      refine elem_region (op := op4) (p := p4) (n := ys4.length) (cap := cp4) Tryz.call17 hE9 ⟨_, _, hO9⟩ hR9 hr9 (by omega) (by omega) (by omega) (by omega) (by omega) (by omega) (fun W hW => draw_any rb _ W hW (by omega)) ?_
      intro mm w9 hmm hat hc hrest
      have HZ : Hid (DrawnME w (.returned (.tuple #[mm.val, elemV op4 p4 ys4.length cp4])) w9) := HFIN.out _ _ _ _ _ _ (by omega) HX4.out mm w9 hmm hat hc hrest
      have HAT : Hid (MemAt w9 w.heap.size mm) := hat
      have HC : Hid (Own2 w9 (w.heap.size + 1) (.int .i64 op4) (.slice p4 ys4.length cp4)) := hc
      clear hat hc hrest hop9 hys9 hlc9 hE9 hF9 hO9 hR9 hr9 hB9 HX4 HFIN
      go_wp2
      exact bodyPost_ret (v := .tuple #[mm.val, elemV op4 p4 ys4.length cp4]) (res2E Tryz.results4 rfl rfl HAT.out HC.out) rfl HZ.out)
  · have q1 : (u == 1) = false := by simp only [beq_eq_false_iff_ne, ne_eq]; omega
    have q2 : (u == 2) = false := by simp only [beq_eq_false_iff_ne, ne_eq]; omega
    clear c0 c12 u0
    go_upto_region 9 with fail
    obtain ⟨hop9, hys9, hlc9, hE9, hF9, hO9, hR9, hr9, hB9⟩ := HX3.out
    refine elem_region (op := op) (p := p) (n := ys.length) (cap := cp) Tryz.call17 hE9 ⟨_, _, hO9⟩ hR9 hr9 (by omega) (by omega) (by omega) (by omega) (by omega) (by omega) (fun W hW => draw_any rb _ W hW (by omega)) ?_
    intro mm w9 hmm hat hc hrest
    have HZ : Hid (DrawnME w (.returned (.tuple #[mm.val, elemV op p ys.length cp])) w9) := HFIN.out _ _ _ _ _ _ (by omega) HX3.out mm w9 hmm hat hc hrest
    have HAT : Hid (MemAt w9 w.heap.size mm) := hat
    have HC : Hid (Own2 w9 (w.heap.size + 1) (.int .i64 op) (.slice p ys.length cp)) := hc
    clear hat hc hrest hop9 hys9 hlc9 hE9 hF9 hO9 hR9 hr9 hB9 HX3 HFIN
    go_wp2
    exact bodyPost_ret (v := .tuple #[mm.val, elemV op p ys.length cp]) (res2E Tryz.results4 rfl rfl HAT.out HC.out) rfl HZ.out
end Go.Proofs.YtmgjngihngddfaaGreatDoor

/- Bits of a memory put and asked, as plain mathematics. Helper text: no statement is claimed here. -/
namespace Go.Proofs.YtmgjngihngddfaaGreatDoor

theorem putB_none (m : Mm) (k n : Int) (b : Bool) (h : k < 2 ∨ 5 < k) : m.putB k n b = m := by
  unfold Mm.putB Mm.turn
  by_cases h1 : k = 1
  · rw [if_pos h1]
  · rw [if_neg h1, if_neg h1, if_neg (by omega), if_neg (by omega), if_neg (by omega), if_neg (by omega)]
theorem putB_bit (m : Mm) (k n : Int) (b : Bool) (h2 : 2 ≤ k) (h5 : k ≤ 5) : (m.putB k n b).bit k n = b := by
  have : k = 2 ∨ k = 3 ∨ k = 4 ∨ k = 5 := by omega
  rcases this with rfl | rfl | rfl | rfl <;> simp [Mm.putB, Mm.turn, Mm.bit, putN_same]
theorem putB_back (m : Mm) (k n : Int) (b : Bool) (h2 : 2 ≤ k) (h5 : k ≤ 5) : (m.putB k n b).putB k n (m.bit k n) = m := by
  have : k = 2 ∨ k = 3 ∨ k = 4 ∨ k = 5 := by omega
  rcases this with rfl | rfl | rfl | rfl <;> simp [Mm.putB, Mm.turn, Mm.bit, putN_back]
theorem putB_whole (m : Mm) (k n : Int) (b : Bool) (k2 n2 : Int) : (m.putB k n b).whole k2 n2 = m.whole k2 n2 := by
  unfold Mm.putB Mm.turn
  repeat' split
  all_goals rfl
theorem putB_far (m : Mm) (k n : Int) (b : Bool) (k2 n2 : Int) (h : k2 = k → plc k n ≠ plc k n2) : (m.putB k n b).bit k2 n2 = m.bit k2 n2 := by
  by_cases h2 : k < 2 ∨ 5 < k
  · rw [putB_none m k n b h2]
  by_cases hk : k2 = k
  · subst hk
    have hp := h rfl
    have q1 := (plc_range k2 n).1
    have q2 := (plc_range k2 n2).1
    have : k2 = 2 ∨ k2 = 3 ∨ k2 = 4 ∨ k2 = 5 := by omega
    rcases this with rfl | rfl | rfl | rfl <;> simp [Mm.putB, Mm.turn, Mm.bit] <;> exact putN_other _ _ _ _ (by omega)
  · have : k = 2 ∨ k = 3 ∨ k = 4 ∨ k = 5 := by omega
    rcases this with rfl | rfl | rfl | rfl <;> simp [Mm.putB, Mm.turn, Mm.bit, hk, Mm.given]
/-- Two operands that are ok and not the same ask for two bits. -/
theorem ok_plc {k n p : Int} (h2 : 2 ≤ k) (h5 : k ≤ 5) (h : okB k n p = true) : plc k n = n ∧ p = 0 := by
  have : k = 2 ∨ k = 3 ∨ k = 4 ∨ k = 5 := by omega
  rcases this with rfl | rfl | rfl | rfl <;> (simp [okB, kz, rN] at h; unfold plc sz4; simp [kz, rN]; omega)
theorem putB_ok {m : Mm} {k n : Int} {b : Bool} (h : m.Ok) : (m.putB k n b).Ok := by
  by_cases h2 : k < 2 ∨ 5 < k
  · rw [putB_none m k n b h2]; exact h
  have hb : ∀ i : Int, 0 ≤ plc i n ∧ (plc i n < sz4 i ∨ plc i n = 0) := fun i => plc_range i n
  have : k = 2 ∨ k = 3 ∨ k = 4 ∨ k = 5 := by omega
  rcases this with rfl | rfl | rfl | rfl
  · have q := hb 2
    rw [show sz4 2 = 32 from rfl] at q
    exact { h with hy := putN_lt (n := 32) b (by omega) h.hy }
  · have q := hb 3
    rw [show sz4 3 = 64 from rfl] at q
    exact { h with hm := putN_lt (n := 64) b (by omega) h.hm }
  · have q := hb 4
    rw [show sz4 4 = 16 from rfl] at q
    exact { h with hs := putN_lt (n := 16) b (by omega) h.hs }
  · have q := hb 5
    rw [show sz4 5 = 32 from rfl] at q
    exact { h with he := putN_lt (n := 32) b (by omega) h.he }
end Go.Proofs.YtmgjngihngddfaaGreatDoor

/- What the tables take, on; boxes of contacts and coils. Helper text: no statement is claimed here. -/
namespace Go.Proofs.YtmgjngihngddfaaGreatDoor
open Go.ChangeShapes Go.WideShapes Go.ChangeAt Go.RowKit

theorem hasK_nil (k : Int) : hasK [] k = false := rfl
theorem hasK_cons (x : Int) (l : List Int) (k : Int) : hasK (x :: l) k = (k == x || hasK l k) := rfl
theorem takeB_nil (ys : List Ar) : takeB [] ys = false := by
  cases ys <;> simp [takeB]
theorem takeB_1 (c : Nat) (a : Ar) : takeB [c] [a] = fitB c a.1 a.2.1 a.2.2 := by simp [takeB, fitA, at3, List.range_succ]
theorem takeB_2 (c d : Nat) (a b : Ar) : takeB [c, d] [a, b] = (fitB c a.1 a.2.1 a.2.2 && fitB d b.1 b.2.1 b.2.2) := by simp [takeB, fitA, at3, List.range_succ]
theorem takeB_3 (c d e : Nat) (a b x : Ar) : takeB [c, d, e] [a, b, x] = (fitB c a.1 a.2.1 a.2.2 && (fitB d b.1 b.2.1 b.2.2 && fitB e x.1 x.2.1 x.2.2)) := by simp [takeB, fitA, at3, List.range_succ]
theorem takeB_len {fs : List Nat} {ys : List Ar} (h : takeB fs ys = true) : ys.length = fs.length ∧ ys.length ≠ 0 := by
  simp only [takeB, Bool.and_eq_true, decide_eq_true_eq] at h
  exact ⟨h.1.2, h.1.1⟩
theorem fm1_len (i : Nat) : (fm1 i).length = 0 ∨ (fm1 i).length = (fm0 i).length := by
  unfold fm1; split <;> simp [fm0]
theorem okA_len {i : Nat} {ys : List Ar} (h : okA i ys = true) : ys.length = (fm0 i).length := by
  simp only [okA, Bool.or_eq_true] at h
  rcases h with h | h
  · exact (takeB_len h).1
  · have := takeB_len h
    rcases fm1_len i with h' | h' <;> omega
theorem okA_no {i : Nat} {ys : List Ar} (h : ys.length ≠ (fm0 i).length) : okA i ys = false := by
  rw [Bool.eq_false_iff]; exact fun h' => h (okA_len h')
theorem nm_no (op : Int) (h : op < 21 ∨ 37 < op) : nm (ez op) = [] := by
  by_cases h2 : 0 ≤ op ∧ op < 38
  · obtain ⟨i, rfl⟩ := Int.eq_ofNat_of_zero_le h2.1
    rw [ez_nat i (by omega)]
    unfold nm
    split <;> first | rfl | omega
  · rw [ez_no op (by omega)]; rfl
theorem fitB_ok {c : Nat} {k n p : Int} (h : fitB c k n p = true) : okB k n p = true := by
  unfold fitB at h
  split at h
  · simp only [isB, Bool.and_eq_true] at h; exact h.1
  · simp only [isW, Bool.and_eq_true] at h; exact h.1
  · simp only [isR, Bool.and_eq_true] at h; exact h.1
  · simp only [kinB, Bool.and_eq_true] at h; exact h.1.1
  · simp only [kinB, Bool.and_eq_true] at h; exact h.1
theorem takeB_ok {fs : List Nat} {ys : List Ar} (h : takeB fs ys = true) {j : Nat} (hj : j < ys.length) : okB (at3 ys j).1 (at3 ys j).2.1 (at3 ys j).2.2 = true := by
  simp only [takeB, Bool.and_eq_true, decide_eq_true_eq, List.all_eq_true, List.mem_range] at h
  exact fitB_ok (h.2 j hj)
/-- The operands of a contact or coil are ok. -/
theorem okA_ok {i : Nat} {ys : List Ar} (h : okA i ys = true) {j : Nat} (hj : j < ys.length) : okB (at3 ys j).1 (at3 ys j).2.1 (at3 ys j).2.2 = true := by
  simp only [okA, Bool.or_eq_true] at h
  rcases h with h | h
  · exact takeB_ok h hj
  · exact takeB_ok h hj
theorem bdn {B : Nat} {a w : World} (h : Below B a w) (n : Nat) : Below B a (w.drewN n) := h.trans ⟨rfl, rfl, rfl, Nat.le_refl _, fun _ _ => rfl⟩
theorem keep2 {V w1 : World} (hb : Below V.heap.size V w1) {b i : Nat} {v : Value} (h : V.cell? ⟨b, i, none⟩ = some v) : w1.cell? ⟨b, i, none⟩ = some v := (hb.cell (p := ⟨b, i, none⟩) (World.block_lt_of_cell? V ⟨b, i, none⟩ h)).trans h
theorem keep1 {V w1 : World} {o : Obj} (hb : Below (V.alloc o).heap.size (V.alloc o) w1) {b i : Nat} {v : Value} (h : V.cell? ⟨b, i, none⟩ = some v) : w1.cell? ⟨b, i, none⟩ = some v :=
  keep2 hb ((World.cell?_alloc_lt _ _ _ (World.block_lt_of_cell? V ⟨b, i, none⟩ h)).trans h)
theorem keepB {w V : World} (hb : Below w.heap.size w V) {b i : Nat} {v : Value} (hl : b < w.heap.size) (h : w.cell? ⟨b, i, none⟩ = some v) : V.cell? ⟨b, i, none⟩ = some v := (hb.cell (p := ⟨b, i, none⟩) hl).trans h
theorem elem_drew (w : World) (op : Int) (v : Value) (n : Nat) : ((w.alloc (.cells #[.int .i64 op, v] 40)).drewN n).cell? ⟨w.heap.size, 0, none⟩ = some (.int .i64 op) ∧ ((w.alloc (.cells #[.int .i64 op, v] 40)).drewN n).cell? ⟨w.heap.size, 1, none⟩ = some v :=
  ⟨keep2 (bdn (Below.refl _ _) n) (by rw [World.cell?_alloc_mark]; rfl), keep2 (bdn (Below.refl _ _) n) (by rw [World.cell?_alloc_mark]; rfl)⟩
/-- The first operand of a list in memory, and so on. -/
theorem args_cells {w : World} {b : Nat} {ys : List Ar} (h : ArgsAt w b ys) (i : Nat) (a : Ar) (ha : ys[i]? = some a) : w.cell? ⟨b, i * 3, none⟩ = some (.int .i64 a.1) ∧ w.cell? ⟨b, i * 3 + 1, none⟩ = some (.int .i64 a.2.1) ∧ w.cell? ⟨b, i * 3 + 2, none⟩ = some (.int .i64 a.2.2) := by
  have hi : i < ys.length := (List.getElem?_eq_some_iff.1 ha).1
  have := h i hi
  rw [show at3 ys i = a by simp [at3, List.getD, ha]] at this
  exact this
theorem elem_box (w : World) (op : Int) (v : Value) (t : TypeId) (o : Obj) : ((w.alloc (.cells #[.int .i64 op, v] t)).alloc o).cell? ⟨w.heap.size, 0, none⟩ = some (.int .i64 op) ∧ ((w.alloc (.cells #[.int .i64 op, v] t)).alloc o).cell? ⟨w.heap.size, 1, none⟩ = some v := by
  refine ⟨?_, ?_⟩
  · rw [World.cell?_alloc_lt _ _ _ (by simp), World.cell?_alloc_mark]; rfl
  · rw [World.cell?_alloc_lt _ _ _ (by simp), World.cell?_alloc_mark]; rfl
theorem one_of {ys : List Ar} (h : ys.length = 1) : ∃ a, ys = [a] := by
  match ys, h with
  | [a], _ => exact ⟨a, rfl⟩
theorem two_of {ys : List Ar} (h : ys.length = 2) : ∃ a b, ys = [a, b] := by
  match ys, h with
  | [a, b], _ => exact ⟨a, b, rfl⟩
theorem three_of {ys : List Ar} (h : ys.length = 3) : ∃ a b x, ys = [a, b, x] := by
  match ys, h with
  | [a, b, x], _ => exact ⟨a, b, x, rfl⟩
end Go.Proofs.YtmgjngihngddfaaGreatDoor

/- The document's DevIsBit. Helper text: no statement is claimed here. -/
namespace Go.Proofs.YtmgjngihngddfaaGreatDoor
open Go.ChangeShapes Go.WideShapes Go.ChangeAt Go.RowKit

set_option maxHeartbeats 1000000 in
theorem sIsBit_any (k n p : Int) (w : World) :
    Calls Tryz.prog 27 #[.agg #[.int .i64 k, .int .i64 n, .int .i64 p]] w fun e w' => e = .returned (.bool (isB k n p)) ∧ Below w.heap.size w w' := by
  cases hok : okB k n p
  · rw [show isB k n p = false by simp [isB, hok]]
    have hk : Hid (okB k n p = false) := hok
    clear hok
    go_enter Tryz.func27, Tryz.ntmps27
    go_wp2_with fail
    refine (sOk_any _ _ _ _).mono ?_
    rintro e w' ⟨rfl, hb⟩
    rw [hk.out]
    go_wp2
    go_ret
    exact ⟨rfl, of_one hb⟩
  · rw [show isB k n p = rB (kz k) by simp [isB, hok]]
    have hk : Hid (okB k n p = true) := hok
    rcases kinds (okB_kind hok) with rfl | rfl | rfl | rfl | rfl | rfl | rfl | rfl | rfl | rfl | rfl | rfl | rfl
    all_goals
      clear hok
      go_enter Tryz.func27, Tryz.ntmps27
      go_wp2_with fail
      refine (sOk_any _ _ _ _).mono ?_
      rintro e w' ⟨rfl, hb⟩
      rw [hk.out]
      obtain ⟨hc, hf⟩ := bcell hb
      go_wp2
      go_ret
      exact ⟨rfl, of_one hb⟩
end Go.Proofs.YtmgjngihngddfaaGreatDoor
