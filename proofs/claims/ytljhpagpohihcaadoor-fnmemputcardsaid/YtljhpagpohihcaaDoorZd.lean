/- The drawing of a memory and an operand: DrawMemBit. Helper text: no statement is claimed here. -/
import Derived.Test.YtljhpagpohihcaaDoorZc
import Derived.Test.YtljhpagpohihcaaDoorZi
import Derived.Test.YtljhpagpohihcaaDoorJz
import Derived.Deep.Cut
namespace Go.Proofs.YtljhpagpohihcaaDoor
open Go.ChangeShapes Go.WideShapes Go.ChangeAt Go.RowKit

theorem res2 {fn : Func} {W : World} {b c p q : Nat} {tmps : Array Value} {m : Mm} {x y z : Value} (h : fn.results = #[.cell p 37, .cell q 39]) (hp : tmps.getD p undef = .pointer (some ⟨b, 0, none⟩)) (hq : tmps.getD q undef = .pointer (some ⟨c, 0, none⟩))
    (hM : MemAt W b m) (hc : W.cell? ⟨c, 0, none⟩ = some x ∧ W.cell? ⟨c, 1, none⟩ = some y ∧ W.cell? ⟨c, 2, none⟩ = some z) : (results fn tmps).run Tryd.prog W = .ok (.tuple #[m.val, .agg #[x, y, z]]) W := by
  obtain ⟨h0, h1, h2⟩ := hc
  have hA : (loadVar 39 ⟨c, 0, none⟩).run Tryd.prog W = .ok (.agg #[x, y, z]) W := by simp [go_sem, h0, h1, h2]
  have hp' : tmps[p]?.getD undef = .pointer (some ⟨b, 0, none⟩) := by simpa [Array.getD_eq_getD_getElem?] using hp
  have hq' : tmps[q]?.getD undef = .pointer (some ⟨c, 0, none⟩) := by simpa [Array.getD_eq_getD_getElem?] using hq
  simp [results, h, hp', hq', asAddr, runMem hM, hA]

theorem range3Z {w : World} {b : Nat} {x y z : Value} (h0 : w.cell? ⟨b, 0, none⟩ = some x) (h1 : w.cell? ⟨b, 1, none⟩ = some y) (h2 : w.cell? ⟨b, 2, none⟩ = some z) : w.rangeAt b 0 [x, y, z] := fun j v hv => by
  rw [Nat.zero_add]
  match j, hv with
  | 0, hv => simp at hv; rw [h0, hv]
  | 1, hv => simp at hv; rw [h1, hv]
  | 2, hv => simp at hv; rw [h2, hv]
theorem wp_storeArg {o : Oper} {a : Act} {w : World} {K : Act → World → Prop} {Q : Exit → Act → World → Prop} {b : Nat} {k n p : Int} {u0 u1 u2 : Value} (x y : Operand) (ho : o.op = .store 39 x y) (hx : a.eval x = .pointer (some ⟨b, 0, none⟩)) (hy : a.eval y = .agg #[.int .i64 k, .int .i64 n, .int .i64 p]) (hO : Own w b u0 u1 u2)
    (hk : K (a.put o.dst undef) (((w.setCell ⟨b, 0, none⟩ (.int .i64 k)).setCell ⟨b, 1, none⟩ (.int .i64 n)).setCell ⟨b, 2, none⟩ (.int .i64 p))) : o.wp Tryd.prog a w K Q := by
  obtain ⟨⟨c0, c1, c2⟩, f0, f1, f2⟩ := hO
  have hv : (storeVar 39 ⟨b, 0, none⟩ (.agg #[.int .i64 k, .int .i64 n, .int .i64 p])).run Tryd.prog w = .ok () (((w.setCell ⟨b, 0, none⟩ (.int .i64 k)).setCell ⟨b, 1, none⟩ (.int .i64 n)).setCell ⟨b, 2, none⟩ (.int .i64 p)) := by
    simp [go_sem, c0, c1, c2, f0, f1, f2]
  unfold Oper.wp execOp
  rw [ho]
  simp only [hx, hy, Instr.storeAt, Instr.sureAddr, Sem.run_bind, Sem.run_pure, Result.andThen_ok, hv]
  exact hk
set_option maxHeartbeats 1000000 in
set_option maxRecDepth 100000 in
theorem bit_region {id : Nat} {pos : String} {TR : TypeId} {f : FuncId} {Q : Exit → Act → World → Prop} {w : World} {t0 t1 t6 t7 t8 t9 t10 t11 t12 : Value} {b2 b3 b5 rb m : Nat} {k n p : Int}
    (hf : ∀ (xs : Array Value) (w : World), (callFunc f xs).run Tryd.prog w = .ok (.enter f xs) w)
    (h5 : Own w b5 (.int .i64 k) (.int .i64 n) (.int .i64 p)) (h3 : ∃ x y z, Own w b3 x y z) (h2 : RowF w b2) (hr : Rd w rb m) (n2 : b2 ≠ rb) (n3 : b3 ≠ rb) (n5 : b5 ≠ rb) (n25 : b5 ≠ b2) (n35 : b5 ≠ b3) (n23 : b2 ≠ b3)
    (hC : ∀ W, Rd W rb m → Calls Tryd.prog f #[.pointer (some ⟨rb, 0, none⟩)] W (DrawnM rb (m + 720) W))
    (hQ : ∀ (mm : Mm) w', mm.Ok → MemAt w' b2 mm → (w'.cell? ⟨b3, 0, none⟩ = some (.int .i64 k) ∧ w'.cell? ⟨b3, 1, none⟩ = some (.int .i64 n) ∧ w'.cell? ⟨b3, 2, none⟩ = some (.int .i64 p)) →
      (w.heap.size ≤ w'.heap.size ∧ w'.os = w.os ∧ w'.tape = w.tape ∧ w'.output = w.output ∧ ∀ j, j < w.heap.size → j ≠ rb → j ≠ b2 → j ≠ b3 → w'.heap[j]? = w.heap[j]?) → Q .normal { tmps := #[t0, t1, .pointer (some ⟨b2, 0, none⟩), .pointer (some ⟨b3, 0, none⟩), .pointer (some ⟨rb, 0, none⟩), .pointer (some ⟨b5, 0, none⟩), t6, t7, t8, t9, .pointer (some ⟨rb, 0, none⟩), mm.val, .agg #[.int .i64 k, .int .i64 n, .int .i64 p]], defers := [] } w') :
    (Code.region id #[{ dst := some 10, op := .move (.tmp 4), type := TR, pos := pos, after := #[], guard := none }, { dst := some 11, op := .call { callee := .value (.func f), args := #[.tmp 10], argTypes := #[TR] }, type := 37, pos := pos, after := #[{ on := 0, ground := .data }], guard := none }, { dst := some 12, op := .load 39 (.tmp 5), type := 39, pos := pos, after := #[{ on := 3, ground := .gcOnly .lateStores }], guard := none }, { dst := none, op := .store 37 (.tmp 2) (.tmp 11), type := 0, pos := pos, after := #[{ on := 1, ground := .data }, { on := 1, ground := .chain }, { on := 0, ground := .phase }, { on := 1, ground := .phase }, { on := 2, ground := .textOnly .lateStores }], guard := none }, { dst := none, op := .store 39 (.tmp 3) (.tmp 12), type := 0, pos := pos, after := #[{ on := 2, ground := .data }, { on := 3, ground := .chain }, { on := 0, ground := .phase }, { on := 1, ground := .phase }, { on := 2, ground := .phase }, { on := 3, ground := .phase }], guard := none }] true).wp Tryd.prog Q { tmps := #[t0, t1, .pointer (some ⟨b2, 0, none⟩), .pointer (some ⟨b3, 0, none⟩), .pointer (some ⟨rb, 0, none⟩), .pointer (some ⟨b5, 0, none⟩), t6, t7, t8, t9, t10, t11, t12], defers := [] } w := by
  have hA : w.rangeAt b5 0 [.int .i64 k, .int .i64 n, .int .i64 p] := range3Z h5.1.1 h5.1.2.1 h5.1.2.2
  refine wp_region_noPanic ?_
  refine wp_region_held_drew (S := fun W => W.rangeAt b5 0 [.int .i64 k, .int .i64 n, .int .i64 p]) (by kernel_rfl) (fun j v hv => hA j v hv) (fun hHeld => ?_)
  refine wpAnyH_take (i := 0) (oi := { dst := some 10, op := .move (.tmp 4), type := TR, pos := pos, after := #[], guard := none }) (v := .pointer (some ⟨rb, 0, none⟩)) rfl (by kernel_rfl) (by kernel_rfl) (by kernel_rfl) (fun _ _ _ h => h) (.inl ⟨by rfl, fun _ _ => rfl⟩) hHeld ?_
  simp only [Act.put, List.setIfInBounds_toArray, List.set_cons_zero, List.set_cons_succ]
  refine wpAnyH_take (i := 2) (oi := { dst := some 12, op := .load 39 (.tmp 5), type := 39, pos := pos, after := #[{ on := 3, ground := .gcOnly .lateStores }], guard := none }) (v := .agg #[.int .i64 k, .int .i64 n, .int .i64 p]) rfl (by kernel_rfl) (by kernel_rfl) (by kernel_rfl) (fun _ _ _ h => h) (yieldsIf_load_mid (by rfl) _ _ rfl b5 0 rfl [.int .i64 k, .int .i64 n, .int .i64 p] _ (fun _ h => h) Tryd.underlying39 rfl (by kernel_rfl)) hHeld ?_
  simp only [Act.put, List.setIfInBounds_toArray, List.set_cons_zero, List.set_cons_succ]
  refine wpAnyH_ready (rs := [1]) (by kernel_rfl) (by simp) ?_
  refine AllReadyH.cons (o := { dst := some 11, op := .call { callee := .value (.func f), args := #[.tmp 10], argTypes := #[TR] }, type := 37, pos := pos, after := #[{ on := 0, ground := .data }], guard := none }) rfl (fun K hK => ?_) AllReadyH.nil
  rw [if_pos (by rfl)]
  refine wp_callDrawn (args := #[.pointer (some ⟨rb, 0, none⟩)]) hf rfl (by simp [Act.eval]) (hC _ hr.drewZ) ?_
  intro mm w1 hmm hr1 st1
  have st : Step rb w w1 := (Step.drewZ rb w).trans st1
  have o5 := h5.step st n5
  obtain ⟨x, y, z, h3⟩ := h3
  have o3 := h3.step st n3
  have r2 := h2.step st n2
  refine hK.out _ _ (range3Z o5.1.1 o5.1.2.1 o5.1.2.2) (fun hHeld => ?_)
  simp only [Act.put, List.setIfInBounds_toArray, List.set_cons_zero, List.set_cons_succ]
  obtain ⟨g, r2⟩ := r2
  refine wpAnyH_ready (rs := [3]) (by kernel_rfl) (by simp) (AllReadyH.cons (o := { dst := none, op := .store 37 (.tmp 2) (.tmp 11), type := 0, pos := pos, after := #[{ on := 1, ground := .data }, { on := 1, ground := .chain }, { on := 0, ground := .phase }, { on := 1, ground := .phase }, { on := 2, ground := .textOnly .lateStores }], guard := none }) rfl (fun K hK => ?_) AllReadyH.nil)
  rw [if_pos (by rfl)]
  with_reducible refine wp_storeMemK (m := mm) (b := b2) (.tmp 2) (.tmp 11) ?_ ?_ ?_ r2 ?_
  · rfl
  · simp [Act.eval]
  · simp [Act.eval]
  intro w2 HM2 hz2 hk2 hs2
  have o3' : Own w2 b3 x y z := o3.byBlock (hk2 b3 (fun e => n23 e.symm))
  have o5' : Own w2 b5 (.int .i64 k) (.int .i64 n) (.int .i64 p) := o5.byBlock (hk2 b5 n25)
  refine hK.out _ _ (range3Z o5'.1.1 o5'.1.2.1 o5'.1.2.2) (fun hHeld => ?_)
  simp only [Act.put]
  refine wpAnyH_ready (rs := [4]) (by kernel_rfl) (by simp) (AllReadyH.cons (o := { dst := none, op := .store 39 (.tmp 3) (.tmp 12), type := 0, pos := pos, after := #[{ on := 2, ground := .data }, { on := 3, ground := .chain }, { on := 0, ground := .phase }, { on := 1, ground := .phase }, { on := 2, ground := .phase }, { on := 3, ground := .phase }], guard := none }) rfl (fun K hK => ?_) AllReadyH.nil)
  rw [if_pos (by rfl)]
  refine wp_storeArg (k := k) (n := n) (p := p) (.tmp 3) (.tmp 12) rfl (by simp [Act.eval]) (by simp [Act.eval]) o3' ?_
  have o5'' := ((o5'.set (i := 0) (v := .int .i64 k) (fun e => n35 e.symm)).set (i := 1) (v := .int .i64 n) (fun e => n35 e.symm)).set (i := 2) (v := .int .i64 p) (fun e => n35 e.symm)
  refine hK.out _ _ (range3Z o5''.1.1 o5''.1.2.1 o5''.1.2.2) (fun hHeld => ?_)
  simp only [Act.put]
  have hd := hQ mm _ hmm (((HM2.other (.int .i64 k) n23).other (.int .i64 n) n23).other (.int .i64 p) n23) (put3 o3'.1)
    ⟨by simp [hz2]; exact st.size, by simp [World.setCell]; exact hs2.1.trans st.os, by simp [World.setCell]; exact hs2.2.1.trans st.tape, by simp [World.setCell]; exact hs2.2.2.trans st.output, fun j hj j1 j2 j3 => by
      rw [heap_setCell_other _ ⟨b3, 2, none⟩ j _ j3, heap_setCell_other _ ⟨b3, 1, none⟩ j _ j3, heap_setCell_other _ ⟨b3, 0, none⟩ j _ j3, hk2 j j2, st.block j hj j1]⟩
  refine wpAnyH_done ?_ ?_ _
  · kernel_rfl
  · exact NoPanic.normal hd

/-- What the drawing of a memory and an operand ends in. -/
def DrawnMA (w : World) (e : Ending) (w' : World) : Prop := ∃ (mm : Mm) (k n p : Int), e = .returned (.tuple #[mm.val, .agg #[.int .i64 k, .int .i64 n, .int .i64 p]]) ∧ mm.Ok ∧ Sm k ∧ (-4000000000 ≤ n ∧ n ≤ 4000000000) ∧ Sm p ∧ Below w.heap.size w w'
set_option maxHeartbeats 1000000 in
set_option maxRecDepth 100000 in
theorem drawBit_any (a : Option Addr) (len cap : Nat) (w : World) (h : IsRow w a len) (hlc : len ≤ cap) :
    Calls Tryd.prog 13 #[.slice a len cap] w (DrawnMA w) := by
  have hz : ∀ w, (zeroValue 37).run Tryd.prog w = .ok (.agg zeroM.cells) w := fun _ => by kernel_rfl
  have HH : Hid (IsRow w a len) := h
  clear h
  go_enter Tryd.func13, Tryd.ntmps13
  go_upto_region 1 with fail
  have HB : Hid (Below w.heap.size w ((w.alloc (.cells zeroM.cells 37)).alloc (.cells #[.int .i64 0, .int .i64 0, .int .i64 0] 39))) := ((Below.refl _ _).alloc (Nat.le_refl _) _).alloc (by simp) _
  have HI : Hid (IsRow ((w.alloc (.cells zeroM.cells 37)).alloc (.cells #[.int .i64 0, .int .i64 0, .int .i64 0] 39)) a len) := (HH.out.alloc _).alloc _
  have HR : Hid (RowF ((w.alloc (.cells zeroM.cells 37)).alloc (.cells #[.int .i64 0, .int .i64 0, .int .i64 0] 39)) w.heap.size) := ⟨_, (RowAt.new w 37 136 zeroM.cell).alloc _⟩
  have HO : Hid (Own ((w.alloc (.cells zeroM.cells 37)).alloc (.cells #[.int .i64 0, .int .i64 0, .int .i64 0] 39)) (w.heap.size + 1) (.int .i64 0) (.int .i64 0) (.int .i64 0)) := by
    have := Own.new (w.alloc (.cells zeroM.cells 37)) (.int .i64 0) (.int .i64 0) (.int .i64 0)
    rw [show (w.alloc (.cells zeroM.cells 37)).heap.size = w.heap.size + 1 by simp] at this
    exact this
  have HS : Hid ((World.heap ((w.alloc (.cells zeroM.cells 37)).alloc (.cells #[.int .i64 0, .int .i64 0, .int .i64 0] 39))).size = w.heap.size + 2) := by show _ = _; simp
  generalize ((w.alloc (.cells zeroM.cells 37)).alloc (.cells #[.int .i64 0, .int .i64 0, .int .i64 0] 39)) = V at *
  clear hz
  have HOp : Hid (∃ rb, rb = V.heap.size ∧ Calls Tryd.prog 32 #[.slice a len cap] V fun e w' => e = .returned (.pointer (some ⟨rb, 0, none⟩)) ∧ Rd w' rb 0 ∧ Below V.heap.size V w') := ⟨_, rfl, open_any a len cap V HI.out hlc⟩
  obtain ⟨rb, hrb, hcall⟩ := HOp.out
  have hs : w.heap.size + 1 < rb := by have := hrb.trans HS.out; omega
  have HCall : Hid _ := hcall
  clear HOp hcall
  go_wp2_with fail
  refine Calls.mono HCall.out ?_
  rintro e w1 ⟨rfl, hr1, hb1⟩
  have hl1 : rb < w1.heap.size := hr1.lt
  have HB1 : Hid (Below w.heap.size w w1) := HB.out.trans (hb1.mono HB.out.size)
  have HR1 : Hid (RowF w1 w.heap.size) := by obtain ⟨f, hf⟩ := HR.out; exact ⟨f, hf.to hb1⟩
  have HO1 : Hid (Own w1 (w.heap.size + 1) (.int .i64 0) (.int .i64 0) (.int .i64 0)) := HO.out.below hb1
  have Hr1 : Hid (Rd w1 rb 0) := hr1
  clear hb1 hr1 HB HI HR HO HS HCall hrb
  go_wp2_with fail
  have hA : Calls Tryd.prog 34 #[.pointer (some ⟨rb, 0, none⟩)] w1 (DrawnA rb 10 w1) := asks_any rb 0 w1 Hr1.out (Nat.zero_le _)
  refine Calls.mono hA ?_
  clear hA
  rintro e w2 ⟨k, n, p, rfl, hk, hn, hp, hr2, st2⟩
  have HR2 : Hid (RowF w2 w.heap.size) := HR1.out.step st2 (by omega)
  have HO2 : Hid (Own w2 (w.heap.size + 1) (.int .i64 0) (.int .i64 0) (.int .i64 0)) := HO1.out.step st2 (by omega)
  have hl2 : rb < w2.heap.size := hr2.lt
  have HB2 : Hid (Below w.heap.size w w2) := HB1.out.trans (st2.below (by omega) (by omega))
  have Hr2 : Hid (Rd w2 rb 10) := hr2
  clear hr2 st2 HR1 HO1 HB1 Hr1
  go_upto_region 3 with fail
  have HA3 : Hid (Own (w2.alloc (.cells #[.int .i64 k, .int .i64 n, .int .i64 p] 39)) w2.heap.size (.int .i64 k) (.int .i64 n) (.int .i64 p)) := Own.new w2 _ _ _
  have HR3 : Hid (RowF (w2.alloc (.cells #[.int .i64 k, .int .i64 n, .int .i64 p] 39)) w.heap.size) := by obtain ⟨f, hf⟩ := HR2.out; exact ⟨f, hf.alloc _⟩
  have HO3 : Hid (Own (w2.alloc (.cells #[.int .i64 k, .int .i64 n, .int .i64 p] 39)) (w.heap.size + 1) (.int .i64 0) (.int .i64 0) (.int .i64 0)) := HO2.out.alloc _
  have HB3 : Hid (Below w.heap.size w (w2.alloc (.cells #[.int .i64 k, .int .i64 n, .int .i64 p] 39))) := HB2.out.alloc HB2.out.size _
  have Hr3 : Hid (Rd (w2.alloc (.cells #[.int .i64 k, .int .i64 n, .int .i64 p] 39)) rb 10) := Hr2.out.alloc _
  generalize w2.alloc (.cells #[.int .i64 k, .int .i64 n, .int .i64 p] 39) = W3 at *
  clear HR2 HO2 HB2 Hr2
  refine bit_region Tryd.call36 HA3.out ⟨_, _, _, HO3.out⟩ HR3.out Hr3.out (by omega) (by omega) (by omega) (by omega) (by omega) (by omega) (fun W hW => draw_any rb 10 W hW (by omega)) ?_
  intro mm w4 hmm hat hc hrest
  have hB4 : Below w.heap.size w w4 := HB3.out.trans ⟨hrest.2.1, hrest.2.2.1, hrest.2.2.2.1, hrest.1, fun j hj => hrest.2.2.2.2 j (Nat.lt_of_lt_of_le hj HB3.out.size) (by omega) (by omega) (by omega)⟩
  have HAT : Hid (MemAt w4 w.heap.size mm) := hat
  have HC : Hid (w4.cell? ⟨w.heap.size + 1, 0, none⟩ = some (.int .i64 k) ∧ w4.cell? ⟨w.heap.size + 1, 1, none⟩ = some (.int .i64 n) ∧ w4.cell? ⟨w.heap.size + 1, 2, none⟩ = some (.int .i64 p)) := hc
  clear hat hc hrest HA3 HO3 HR3 Hr3 HB3
  go_wp2
  exact bodyPost_ret (v := .tuple #[mm.val, .agg #[.int .i64 k, .int .i64 n, .int .i64 p]]) (res2 Tryd.results13 rfl rfl HAT.out HC.out) rfl ⟨mm, k, n, p, rfl, hmm, hk, hn, hp, hB4⟩
end Go.Proofs.YtljhpagpohihcaaDoor
