/- The drawing of a memory, an operand and a third value: the last region of DrawMemPut. Helper text: no statement is claimed here. -/
import Derived.Test.YtljhpagpohihcaaDoorZd
import Derived.Deep.Cut
namespace Go.Proofs.YtljhpagpohihcaaDoor
open Go.ChangeShapes Go.WideShapes Go.ChangeAt Go.RowKit

set_option maxHeartbeats 1000000 in
set_option maxRecDepth 100000 in
theorem put_regionP {id : Nat} {pos : String} {TR TV : TypeId} {f : FuncId} {Q : Exit → Act → World → Prop} {w : World} {t0 t1 t4 t8 t9 t10 t11 t12 t13 t14 t15 t16 t17 t18 t19 t20 t21 t22 t23 t24 t25 t26 v : Value} {b2 b3 b7 rb m : Nat} {k n p : Int}
    (hf : ∀ (xs : Array Value) (w : World), (callFunc f xs).run Tryd.prog w = .ok (.enter f xs) w)
    (h5 : Own w b7 (.int .i64 k) (.int .i64 n) (.int .i64 p)) (h3 : ∃ x y z, Own w b3 x y z) (h2 : RowF w b2) (hr : Rd w rb m) (n2 : b2 ≠ rb) (n3 : b3 ≠ rb) (n5 : b7 ≠ rb) (n25 : b7 ≠ b2) (n35 : b7 ≠ b3) (n23 : b2 ≠ b3)
    (hC : ∀ W, Rd W rb m → Calls Tryd.prog f #[.pointer (some ⟨rb, 0, none⟩)] W (DrawnM rb (m + 720) W))
    (hQ : ∀ (mm : Mm) w', mm.Ok → MemAt w' b2 mm → (w'.cell? ⟨b3, 0, none⟩ = some (.int .i64 k) ∧ w'.cell? ⟨b3, 1, none⟩ = some (.int .i64 n) ∧ w'.cell? ⟨b3, 2, none⟩ = some (.int .i64 p)) →
      (w.heap.size ≤ w'.heap.size ∧ w'.os = w.os ∧ w'.tape = w.tape ∧ w'.output = w.output ∧ ∀ j, j < w.heap.size → j ≠ rb → j ≠ b2 → j ≠ b3 → w'.heap[j]? = w.heap[j]?) → Q .normal { tmps := #[t0, t1, .pointer (some ⟨b2, 0, none⟩), .pointer (some ⟨b3, 0, none⟩), v, .pointer (some ⟨rb, 0, none⟩), v, .pointer (some ⟨b7, 0, none⟩), t8, t9, t10, t11, t12, t13, t14, t15, t16, t17, t18, t19, t20, t21, t22, .pointer (some ⟨rb, 0, none⟩), mm.val, .agg #[.int .i64 k, .int .i64 n, .int .i64 p], v], defers := [] } w') :
    (Code.region id #[{ dst := some 23, op := .move (.tmp 5), type := TR, pos := pos, after := #[], guard := none }, { dst := some 24, op := .call { callee := .value (.func f), args := #[.tmp 23], argTypes := #[TR] }, type := 37, pos := pos, after := #[{ on := 0, ground := .data }], guard := none }, { dst := some 25, op := .load 39 (.tmp 7), type := 39, pos := pos, after := #[{ on := 4, ground := .gcOnly .lateStores }], guard := none }, { dst := some 26, op := .move (.tmp 6), type := TV, pos := pos, after := #[{ on := 5, ground := .gcOnly .lateStores }], guard := none }, { dst := none, op := .store 37 (.tmp 2) (.tmp 24), type := 0, pos := pos, after := #[{ on := 1, ground := .data }, { on := 1, ground := .chain }, { on := 0, ground := .phase }, { on := 1, ground := .phase }, { on := 2, ground := .textOnly .lateStores }, { on := 3, ground := .textOnly .lateStores }], guard := none }, { dst := none, op := .store 39 (.tmp 3) (.tmp 25), type := 0, pos := pos, after := #[{ on := 2, ground := .data }, { on := 4, ground := .chain }, { on := 0, ground := .phase }, { on := 1, ground := .phase }, { on := 2, ground := .phase }, { on := 3, ground := .textOnly .lateStores }, { on := 4, ground := .phase }], guard := none }, { dst := some 4, op := .assign (.tmp 26), type := TV, pos := pos, after := #[{ on := 3, ground := .data }, { on := 5, ground := .chain }, { on := 0, ground := .phase }, { on := 1, ground := .phase }, { on := 2, ground := .phase }, { on := 3, ground := .phase }, { on := 4, ground := .phase }, { on := 5, ground := .phase }], guard := none }] true).wp Tryd.prog Q { tmps := #[t0, t1, .pointer (some ⟨b2, 0, none⟩), .pointer (some ⟨b3, 0, none⟩), t4, .pointer (some ⟨rb, 0, none⟩), v, .pointer (some ⟨b7, 0, none⟩), t8, t9, t10, t11, t12, t13, t14, t15, t16, t17, t18, t19, t20, t21, t22, t23, t24, t25, t26], defers := [] } w := by
  have hA : w.rangeAt b7 0 [.int .i64 k, .int .i64 n, .int .i64 p] := range3Z h5.1.1 h5.1.2.1 h5.1.2.2
  refine wp_region_noPanic ?_
  refine wp_region_held_drew (S := fun W => W.rangeAt b7 0 [.int .i64 k, .int .i64 n, .int .i64 p]) (by kernel_rfl) (fun j v hv => hA j v hv) (fun hHeld => ?_)
  refine wpAnyH_take (i := 0) (oi := { dst := some 23, op := .move (.tmp 5), type := TR, pos := pos, after := #[], guard := none }) (v := .pointer (some ⟨rb, 0, none⟩)) rfl (by kernel_rfl) (by kernel_rfl) (by kernel_rfl) (fun _ _ _ h => h) (.inl ⟨by rfl, fun _ _ => rfl⟩) hHeld ?_
  simp only [Act.put, List.setIfInBounds_toArray, List.set_cons_zero, List.set_cons_succ]
  refine wpAnyH_take (i := 2) (oi := { dst := some 25, op := .load 39 (.tmp 7), type := 39, pos := pos, after := #[{ on := 4, ground := .gcOnly .lateStores }], guard := none }) (v := .agg #[.int .i64 k, .int .i64 n, .int .i64 p]) rfl (by kernel_rfl) (by kernel_rfl) (by kernel_rfl) (fun _ _ _ h => h) (yieldsIf_load_mid (by rfl) _ _ rfl b7 0 rfl [.int .i64 k, .int .i64 n, .int .i64 p] _ (fun _ h => h) Tryd.underlying39 rfl (by kernel_rfl)) hHeld ?_
  simp only [Act.put, List.setIfInBounds_toArray, List.set_cons_zero, List.set_cons_succ]
  refine wpAnyH_take (i := 3) (oi := { dst := some 26, op := .move (.tmp 6), type := TV, pos := pos, after := #[{ on := 5, ground := .gcOnly .lateStores }], guard := none }) (v := v) rfl (by kernel_rfl) (by kernel_rfl) (by kernel_rfl) (fun _ _ _ h => h) (.inl ⟨by rfl, fun _ _ => rfl⟩) hHeld ?_
  simp only [Act.put, List.setIfInBounds_toArray, List.set_cons_zero, List.set_cons_succ]
  refine wpAnyH_ready (rs := [1]) (by kernel_rfl) (by simp) ?_
  refine AllReadyH.cons (o := { dst := some 24, op := .call { callee := .value (.func f), args := #[.tmp 23], argTypes := #[TR] }, type := 37, pos := pos, after := #[{ on := 0, ground := .data }], guard := none }) rfl (fun K hK => ?_) AllReadyH.nil
  rw [if_pos (by rfl)]
  refine wp_callDrawn (args := #[.pointer (some ⟨rb, 0, none⟩)]) hf rfl (by simp [Act.eval]) (hC _ hr.drewZ) ?_
  intro mm w1 hmm hr1 st1
  have st : Step rb w w1 := (Step.drewZ rb w).trans st1
  have o5 := h5.step st n5
  obtain ⟨x, y, z, h3⟩ := h3
  have o3 := h3.step st n3
  have r2 := h2.step st n2
  refine hK.out _ _ (range3Z o5.1.1 o5.1.2.1 o5.1.2.2) (fun hHeld => ?_)
  simp only [Act.put, List.setIfInBounds_toArray, List.set_cons_zero, List.set_cons_succ]
  obtain ⟨g, r2⟩ := r2
  refine wpAnyH_ready (rs := [4]) (by kernel_rfl) (by simp) (AllReadyH.cons (o := { dst := none, op := .store 37 (.tmp 2) (.tmp 24), type := 0, pos := pos, after := #[{ on := 1, ground := .data }, { on := 1, ground := .chain }, { on := 0, ground := .phase }, { on := 1, ground := .phase }, { on := 2, ground := .textOnly .lateStores }, { on := 3, ground := .textOnly .lateStores }], guard := none }) rfl (fun K hK => ?_) AllReadyH.nil)
  rw [if_pos (by rfl)]
  with_reducible refine wp_storeMemK (m := mm) (b := b2) (.tmp 2) (.tmp 24) ?_ ?_ ?_ r2 ?_
  · rfl
  · simp [Act.eval]
  · simp [Act.eval]
  intro w2 HM2 hz2 hk2 hs2
  have o3' : Own w2 b3 x y z := o3.byBlock (hk2 b3 (fun e => n23 e.symm))
  have o5' : Own w2 b7 (.int .i64 k) (.int .i64 n) (.int .i64 p) := o5.byBlock (hk2 b7 n25)
  refine hK.out _ _ (range3Z o5'.1.1 o5'.1.2.1 o5'.1.2.2) (fun hHeld => ?_)
  simp only [Act.put]
  refine wpAnyH_ready (rs := [5]) (by kernel_rfl) (by simp) (AllReadyH.cons (o := { dst := none, op := .store 39 (.tmp 3) (.tmp 25), type := 0, pos := pos, after := #[{ on := 2, ground := .data }, { on := 4, ground := .chain }, { on := 0, ground := .phase }, { on := 1, ground := .phase }, { on := 2, ground := .phase }, { on := 3, ground := .textOnly .lateStores }, { on := 4, ground := .phase }], guard := none }) rfl (fun K hK => ?_) AllReadyH.nil)
  rw [if_pos (by rfl)]
  refine wp_storeArg (k := k) (n := n) (p := p) (.tmp 3) (.tmp 25) rfl (by simp [Act.eval]) (by simp [Act.eval]) o3' ?_
  have o5'' := ((o5'.set (i := 0) (v := .int .i64 k) (fun e => n35 e.symm)).set (i := 1) (v := .int .i64 n) (fun e => n35 e.symm)).set (i := 2) (v := .int .i64 p) (fun e => n35 e.symm)
  refine hK.out _ _ (range3Z o5''.1.1 o5''.1.2.1 o5''.1.2.2) (fun hHeld => ?_)
  simp only [Act.put]
  refine wpAnyH_take (i := 6) (oi := { dst := some 4, op := .assign (.tmp 26), type := TV, pos := pos, after := #[{ on := 3, ground := .data }, { on := 5, ground := .chain }, { on := 0, ground := .phase }, { on := 1, ground := .phase }, { on := 2, ground := .phase }, { on := 3, ground := .phase }, { on := 4, ground := .phase }, { on := 5, ground := .phase }], guard := none }) (v := v) rfl (by kernel_rfl) (by kernel_rfl) (by kernel_rfl) (fun _ _ _ h => h) (.inl ⟨by rfl, fun _ _ => rfl⟩) hHeld ?_
  simp only [Act.put, List.setIfInBounds_toArray, List.set_cons_zero, List.set_cons_succ]
  have hd := hQ mm _ hmm (((HM2.other (.int .i64 k) n23).other (.int .i64 n) n23).other (.int .i64 p) n23) (put3 o3'.1)
    ⟨by simp [hz2]; exact st.size, by simp [World.setCell]; exact hs2.1.trans st.os, by simp [World.setCell]; exact hs2.2.1.trans st.tape, by simp [World.setCell]; exact hs2.2.2.trans st.output, fun j hj j1 j2 j3 => by
      rw [heap_setCell_other _ ⟨b3, 2, none⟩ j _ j3, heap_setCell_other _ ⟨b3, 1, none⟩ j _ j3, heap_setCell_other _ ⟨b3, 0, none⟩ j _ j3, hk2 j j2, st.block j hj j1]⟩
  refine wpAnyH_done ?_ ?_ _
  · kernel_rfl
  · exact NoPanic.normal hd
end Go.Proofs.YtljhpagpohihcaaDoor
