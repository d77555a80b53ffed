/- The drawing of two memories: the two regions that draw their order. Helper text: no statement is claimed here. -/
import Derived.Test.YtlflihegadjpdaaDoorP39
import Derived.Test.YtlflihegadjpdaaDoorP38
import Derived.Test.YtlflihegadjpdaaDoorP42
import Derived.Test.YtlflihegadjpdaaDoorJw
import Derived.Deep.Cut
namespace Go.Proofs.YtlflihegadjpdaaDoor
open Go.ChangeShapes Go.WideShapes Go.ChangeAt Go.RowKit Fl

theorem wp_loadMem {o : Oper} {a : Act} {w : World} {K : Act → World → Prop} {Q : Exit → Act → World → Prop} {b : Nat} {m : Mm} (x : Operand) (ho : o.op = .load 37 x) (hx : a.eval x = .pointer (some ⟨b, 0, none⟩)) (hM : MemAt w b m)
    (hk : K (a.put o.dst m.val) w) : o.wp Tryd.prog a w K Q := by
  unfold Oper.wp execOp
  rw [ho]
  simp [hx, Instr.loadAt, Instr.sureAddr, runMem hM, Oper.upon_value]
  exact hk
set_option maxHeartbeats 1000000 in
set_option maxRecDepth 100000 in
theorem put_regionS {id : Nat} {pos : String} {Q : Exit → Act → World → Prop} {w : World} {t0 t1 t2 t3 t5 t7 t8 t9 t10 t11 t12 t13 t14 t15 t16 t17 t18 t19 t20 t21 t22 t23 t24 t25 t26 t27 t28 t29 t30 t31 t32 t33 t34 t35 t36 t37 t38 t39 t40 t41 t42 t43 t44 t45 t46 t47 t48 t49 t50 t51 t52 t53 t54 t55 t56 t57 t58 t59 t60 t61 t62 t63 t64 t65 t66 t67 t68 t69 t70 t71 t72 : Value} {b6 rb m0 : Nat} {mb : Mm} (hmb : mb.Ok) (hM : MemAt w b6 mb) (hr : Rd w rb m0) (hne : b6 ≠ rb)
    (h1 : ∀ W, Rd W rb m0 → Calls Tryd.prog 16 #[.pointer (some ⟨rb, 0, none⟩)] W (DrawnA rb (m0 + 10) W))
    (h2 : ∀ W, Rd W rb (m0 + 10) → Calls Tryd.prog 13 #[.pointer (some ⟨rb, 0, none⟩), .int .i64 2] W fun e w' => ∃ v, e = .returned v ∧ ∃ u : Int, v = .int .i64 u ∧ Rd w' rb (m0 + 11) ∧ Step rb W w')
    (h3 : ∀ k n p b W, Calls Tryd.prog 15 #[mb.val, .agg #[.int .i64 k, .int .i64 n, .int .i64 p], .bool b] W fun e w' => ∃ v, e = .returned v ∧ v = (mb.putB k n b).val ∧ Below W.heap.size W w')
    (hQ : ∀ (mm : Mm) (k n p u : Int) w', mm.Ok → MemAt w' b6 mm → (w.heap.size ≤ w'.heap.size ∧ w'.os = w.os ∧ w'.tape = w.tape ∧ w'.output = w.output ∧ ∀ j, j < w.heap.size → j ≠ rb → j ≠ b6 → w'.heap[j]? = w.heap[j]?) → Q .normal { tmps := #[t0, t1, t2, t3, .pointer (some ⟨rb, 0, none⟩), t5, .pointer (some ⟨b6, 0, none⟩), t7, t8, t9, t10, t11, t12, t13, t14, t15, t16, t17, t18, t19, t20, t21, t22, t23, t24, t25, t26, t27, t28, t29, t30, t31, t32, t33, t34, t35, t36, t37, t38, t39, t40, t41, t42, t43, t44, t45, t46, t47, t48, t49, t50, t51, t52, t53, t54, t55, t56, t57, t58, t59, mb.val, .pointer (some ⟨rb, 0, none⟩), .agg #[.int .i64 k, .int .i64 n, .int .i64 p], .pointer (some ⟨rb, 0, none⟩), .int .i64 u, .bool (u == 1), mm.val, t67, t68, t69, t70, t71, t72], defers := [] } w') :
    (Code.region id #[{ dst := some 60, op := .load 37 (.tmp 6), type := 37, pos := pos, after := #[], guard := none },
      { dst := some 61, op := .move (.tmp 4), type := 51, pos := pos, after := #[], guard := none },
      { dst := some 62, op := .call { callee := .value (.func 16), args := #[.tmp 61], argTypes := #[51] }, type := 58, pos := pos, after := #[{ on := 1, ground := .data }], guard := none },
      { dst := some 63, op := .move (.tmp 4), type := 51, pos := pos, after := #[], guard := none },
      { dst := some 64, op := .call { callee := .value (.func 13), args := #[.tmp 63, .const (.int .i64 2)], argTypes := #[51, 3] }, type := 3, pos := pos, after := #[{ on := 3, ground := .data }, { on := 2, ground := .chain }], guard := none },
      { dst := some 65, op := .binOp .eql 3 (.tmp 64) (.const (.int .i64 1)) 3, type := 4, pos := pos, after := #[{ on := 4, ground := .data }], guard := none },
      { dst := some 66, op := .call { callee := .value (.func 15), args := #[.tmp 60, .tmp 62, .tmp 65], argTypes := #[37, 58, 4] }, type := 37, pos := pos, after := #[{ on := 0, ground := .data }, { on := 2, ground := .data }, { on := 5, ground := .data }, { on := 4, ground := .chain }], guard := none },
      { dst := none, op := .store 37 (.tmp 6) (.tmp 66), type := 0, pos := pos, after := #[{ on := 6, ground := .data }, { on := 6, ground := .chain }, { on := 0, ground := .phase }, { on := 1, ground := .phase }, { on := 2, ground := .phase }, { on := 3, ground := .phase }, { on := 4, ground := .phase }, { on := 5, ground := .phase }, { on := 6, ground := .phase }], guard := none }] true).wp Tryd.prog Q { tmps := #[t0, t1, t2, t3, .pointer (some ⟨rb, 0, none⟩), t5, .pointer (some ⟨b6, 0, none⟩), t7, t8, t9, t10, t11, t12, t13, t14, t15, t16, t17, t18, t19, t20, t21, t22, t23, t24, t25, t26, t27, t28, t29, t30, t31, t32, t33, t34, t35, t36, t37, t38, t39, t40, t41, t42, t43, t44, t45, t46, t47, t48, t49, t50, t51, t52, t53, t54, t55, t56, t57, t58, t59, t60, t61, t62, t63, t64, t65, t66, t67, t68, t69, t70, t71, t72], defers := [] } w := by
  refine wp_region_noPanic ?_
  have hMd : MemAt w.drew b6 mb := hM
  refine wp_region_held_drew (S := fun _ => True) (by kernel_rfl) trivial (fun hHeld => ?_)
  refine wpAnyH_take (i := 1) (oi := { dst := some 61, op := .move (.tmp 4), type := 51, pos := pos, after := #[], guard := none }) (v := .pointer (some ⟨rb, 0, none⟩)) rfl (by kernel_rfl) (by kernel_rfl) (by kernel_rfl) (fun _ _ _ h => h) (.inl ⟨by rfl, fun _ _ => rfl⟩) hHeld ?_
  simp only [Act.put, List.setIfInBounds_toArray, List.set_cons_zero, List.set_cons_succ]
  refine wpAnyH_take (i := 3) (oi := { dst := some 63, op := .move (.tmp 4), type := 51, pos := pos, after := #[], guard := none }) (v := .pointer (some ⟨rb, 0, none⟩)) rfl (by kernel_rfl) (by kernel_rfl) (by kernel_rfl) (fun _ _ _ h => h) (.inl ⟨by rfl, fun _ _ => rfl⟩) hHeld ?_
  simp only [Act.put, List.setIfInBounds_toArray, List.set_cons_zero, List.set_cons_succ]
  refine wpAnyH_ready (rs := [0, 2]) (by kernel_rfl) (by simp) ?_
  refine AllReadyH.cons (o := { dst := some 60, op := .load 37 (.tmp 6), type := 37, pos := pos, after := #[], guard := none }) rfl (fun K hK => ?_) (AllReadyH.cons (o := { dst := some 62, op := .call { callee := .value (.func 16), args := #[.tmp 61], argTypes := #[51] }, type := 58, pos := pos, after := #[{ on := 1, ground := .data }], guard := none }) rfl (fun K hK => ?_) (AllReadyH.nil))
  · rw [if_pos (by rfl)]
    refine wp_loadMem (.tmp 6) rfl (by simp [Act.eval]) hMd ?_
    refine hK.out _ _ trivial (fun _ => ?_)
    simp only [Act.put, List.setIfInBounds_toArray, List.set_cons_zero, List.set_cons_succ]
    refine wpAnyH_ready (rs := [2]) (by kernel_rfl) (by simp) ?_
    refine AllReadyH.cons (o := { dst := some 62, op := .call { callee := .value (.func 16), args := #[.tmp 61], argTypes := #[51] }, type := 58, pos := pos, after := #[{ on := 1, ground := .data }], guard := none }) rfl (fun K hK => ?_) (AllReadyH.nil)
    · rw [if_pos (by rfl)]
      refine wp_callU (G := fun v w' => ∃ k n p : Int, v = .agg #[.int .i64 k, .int .i64 n, .int .i64 p] ∧ Rd w' rb (m0 + 10) ∧ Step rb w.drew w') (args := #[.pointer (some ⟨rb, 0, none⟩)]) Tryd.call16 rfl (by simp [Act.eval]) ((h1 _ hr.drewZ).mono fun e w' ⟨k, n, p, he, _, _, _, hr', st'⟩ => ⟨_, he, k, n, p, rfl, hr', st'⟩) ?_
      rintro v1 w1 ⟨k, n, p, rfl, hr1, st1⟩
      have st : Step rb w w1 := (Step.drewZ rb w).trans st1
      have hM1 : MemAt w1 b6 mb := RowAt.by hM (st.block b6 hM.lt hne)
      refine hK.out _ _ trivial (fun _ => ?_)
      simp only [Act.put, List.setIfInBounds_toArray, List.set_cons_zero, List.set_cons_succ]
      refine wpAnyH_ready (rs := [4]) (by kernel_rfl) (by simp) ?_
      refine AllReadyH.cons (o := { dst := some 64, op := .call { callee := .value (.func 13), args := #[.tmp 63, .const (.int .i64 2)], argTypes := #[51, 3] }, type := 3, pos := pos, after := #[{ on := 3, ground := .data }, { on := 2, ground := .chain }], guard := none }) rfl (fun K hK => ?_) (AllReadyH.nil)
      · rw [if_pos (by rfl)]
        refine wp_callU (G := fun v w' => ∃ u : Int, v = .int .i64 u ∧ Rd w' rb (m0 + 11) ∧ Step rb w1 w') (args := #[.pointer (some ⟨rb, 0, none⟩), .int .i64 2]) Tryd.call13 rfl (by simp [Act.eval]) (h2 _ hr1) ?_
        rintro v2 w2 ⟨u, rfl, hr2, st2⟩
        have st' : Step rb w w2 := st.trans st2
        have hM2 : MemAt w2 b6 mb := RowAt.by hM (st'.block b6 hM.lt hne)
        refine hK.out _ _ trivial (fun hHeld => ?_)
        simp only [Act.put, List.setIfInBounds_toArray, List.set_cons_zero, List.set_cons_succ]
        refine wpAnyH_take (i := 5) (oi := { dst := some 65, op := .binOp .eql 3 (.tmp 64) (.const (.int .i64 1)) 3, type := 4, pos := pos, after := #[{ on := 4, ground := .data }], guard := none }) (v := .bool (u == 1)) rfl (by kernel_rfl) (by kernel_rfl) (by kernel_rfl) (fun _ _ _ h => h) (.inl ⟨by rfl, fun _ _ => rfl⟩) hHeld ?_
        simp only [Act.put, List.setIfInBounds_toArray, List.set_cons_zero, List.set_cons_succ]
        refine wpAnyH_ready (rs := [6]) (by kernel_rfl) (by simp) ?_
        refine AllReadyH.cons (o := { dst := some 66, op := .call { callee := .value (.func 15), args := #[.tmp 60, .tmp 62, .tmp 65], argTypes := #[37, 58, 4] }, type := 37, pos := pos, after := #[{ on := 0, ground := .data }, { on := 2, ground := .data }, { on := 5, ground := .data }, { on := 4, ground := .chain }], guard := none }) rfl (fun K hK => ?_) (AllReadyH.nil)
        · rw [if_pos (by rfl)]
          refine wp_callU (G := fun v w' => v = (mb.putB k n (u == 1)).val ∧ Below w2.heap.size w2 w') (args := #[mb.val, .agg #[.int .i64 k, .int .i64 n, .int .i64 p], .bool (u == 1)]) Tryd.call15 rfl (by simp [Act.eval]) (h3 k n p (u == 1) _) ?_
          rintro v3 w3 ⟨rfl, hb3⟩
          have hM3 : MemAt w3 b6 mb := hM2.to hb3
          refine hK.out _ _ trivial (fun hHeld => ?_)
          simp only [Act.put, List.setIfInBounds_toArray, List.set_cons_zero, List.set_cons_succ]
          refine wpAnyH_ready (rs := [7]) (by kernel_rfl) (by simp) ?_
          refine AllReadyH.cons (o := { dst := none, op := .store 37 (.tmp 6) (.tmp 66), type := 0, pos := pos, after := #[{ on := 6, ground := .data }, { on := 6, ground := .chain }, { on := 0, ground := .phase }, { on := 1, ground := .phase }, { on := 2, ground := .phase }, { on := 3, ground := .phase }, { on := 4, ground := .phase }, { on := 5, ground := .phase }, { on := 6, ground := .phase }], guard := none }) rfl (fun K hK => ?_) (AllReadyH.nil)
          · rw [if_pos (by rfl)]
            with_reducible refine wp_storeMemK (m := mb.putB k n (u == 1)) (b := b6) (.tmp 6) (.tmp 66) ?_ ?_ ?_ hM3 ?_
            · rfl
            · simp [Act.eval]
            · simp [Act.eval]
            intro w4 HM4 hz4 hk4 hs4
            have hd := hQ (mb.putB k n (u == 1)) k n p u w4 (putB_ok hmb) HM4 ⟨by rw [hz4]; exact Nat.le_trans st'.size hb3.size, hs4.1.trans (hb3.os.trans st'.os), hs4.2.1.trans (hb3.tape.trans st'.tape), hs4.2.2.trans (hb3.output.trans st'.output), fun j hj j1 j2 => by
              rw [hk4 j j2, hb3.block j (Nat.lt_of_lt_of_le hj st'.size), st'.block j hj j1]⟩
            refine hK.out _ _ trivial (fun hHeld => ?_)
            simp only [Act.put]
            refine wpAnyH_done ?_ ?_ _
            · kernel_rfl
            · exact NoPanic.normal hd
  · rw [if_pos (by rfl)]
    refine wp_callU (G := fun v w' => ∃ k n p : Int, v = .agg #[.int .i64 k, .int .i64 n, .int .i64 p] ∧ Rd w' rb (m0 + 10) ∧ Step rb w.drew w') (args := #[.pointer (some ⟨rb, 0, none⟩)]) Tryd.call16 rfl (by simp [Act.eval]) ((h1 _ hr.drewZ).mono fun e w' ⟨k, n, p, he, _, _, _, hr', st'⟩ => ⟨_, he, k, n, p, rfl, hr', st'⟩) ?_
    rintro v1 w1 ⟨k, n, p, rfl, hr1, st1⟩
    have st : Step rb w w1 := (Step.drewZ rb w).trans st1
    have hM1 : MemAt w1 b6 mb := RowAt.by hM (st.block b6 hM.lt hne)
    refine hK.out _ _ trivial (fun _ => ?_)
    simp only [Act.put, List.setIfInBounds_toArray, List.set_cons_zero, List.set_cons_succ]
    refine wpAnyH_ready (rs := [0, 4]) (by kernel_rfl) (by simp) ?_
    refine AllReadyH.cons (o := { dst := some 60, op := .load 37 (.tmp 6), type := 37, pos := pos, after := #[], guard := none }) rfl (fun K hK => ?_) (AllReadyH.cons (o := { dst := some 64, op := .call { callee := .value (.func 13), args := #[.tmp 63, .const (.int .i64 2)], argTypes := #[51, 3] }, type := 3, pos := pos, after := #[{ on := 3, ground := .data }, { on := 2, ground := .chain }], guard := none }) rfl (fun K hK => ?_) (AllReadyH.nil))
    · rw [if_pos (by rfl)]
      refine wp_loadMem (.tmp 6) rfl (by simp [Act.eval]) hM1 ?_
      refine hK.out _ _ trivial (fun _ => ?_)
      simp only [Act.put, List.setIfInBounds_toArray, List.set_cons_zero, List.set_cons_succ]
      refine wpAnyH_ready (rs := [4]) (by kernel_rfl) (by simp) ?_
      refine AllReadyH.cons (o := { dst := some 64, op := .call { callee := .value (.func 13), args := #[.tmp 63, .const (.int .i64 2)], argTypes := #[51, 3] }, type := 3, pos := pos, after := #[{ on := 3, ground := .data }, { on := 2, ground := .chain }], guard := none }) rfl (fun K hK => ?_) (AllReadyH.nil)
      · rw [if_pos (by rfl)]
        refine wp_callU (G := fun v w' => ∃ u : Int, v = .int .i64 u ∧ Rd w' rb (m0 + 11) ∧ Step rb w1 w') (args := #[.pointer (some ⟨rb, 0, none⟩), .int .i64 2]) Tryd.call13 rfl (by simp [Act.eval]) (h2 _ hr1) ?_
        rintro v2 w2 ⟨u, rfl, hr2, st2⟩
        have st' : Step rb w w2 := st.trans st2
        have hM2 : MemAt w2 b6 mb := RowAt.by hM (st'.block b6 hM.lt hne)
        refine hK.out _ _ trivial (fun hHeld => ?_)
        simp only [Act.put, List.setIfInBounds_toArray, List.set_cons_zero, List.set_cons_succ]
        refine wpAnyH_take (i := 5) (oi := { dst := some 65, op := .binOp .eql 3 (.tmp 64) (.const (.int .i64 1)) 3, type := 4, pos := pos, after := #[{ on := 4, ground := .data }], guard := none }) (v := .bool (u == 1)) rfl (by kernel_rfl) (by kernel_rfl) (by kernel_rfl) (fun _ _ _ h => h) (.inl ⟨by rfl, fun _ _ => rfl⟩) hHeld ?_
        simp only [Act.put, List.setIfInBounds_toArray, List.set_cons_zero, List.set_cons_succ]
        refine wpAnyH_ready (rs := [6]) (by kernel_rfl) (by simp) ?_
        refine AllReadyH.cons (o := { dst := some 66, op := .call { callee := .value (.func 15), args := #[.tmp 60, .tmp 62, .tmp 65], argTypes := #[37, 58, 4] }, type := 37, pos := pos, after := #[{ on := 0, ground := .data }, { on := 2, ground := .data }, { on := 5, ground := .data }, { on := 4, ground := .chain }], guard := none }) rfl (fun K hK => ?_) (AllReadyH.nil)
        · rw [if_pos (by rfl)]
          refine wp_callU (G := fun v w' => v = (mb.putB k n (u == 1)).val ∧ Below w2.heap.size w2 w') (args := #[mb.val, .agg #[.int .i64 k, .int .i64 n, .int .i64 p], .bool (u == 1)]) Tryd.call15 rfl (by simp [Act.eval]) (h3 k n p (u == 1) _) ?_
          rintro v3 w3 ⟨rfl, hb3⟩
          have hM3 : MemAt w3 b6 mb := hM2.to hb3
          refine hK.out _ _ trivial (fun hHeld => ?_)
          simp only [Act.put, List.setIfInBounds_toArray, List.set_cons_zero, List.set_cons_succ]
          refine wpAnyH_ready (rs := [7]) (by kernel_rfl) (by simp) ?_
          refine AllReadyH.cons (o := { dst := none, op := .store 37 (.tmp 6) (.tmp 66), type := 0, pos := pos, after := #[{ on := 6, ground := .data }, { on := 6, ground := .chain }, { on := 0, ground := .phase }, { on := 1, ground := .phase }, { on := 2, ground := .phase }, { on := 3, ground := .phase }, { on := 4, ground := .phase }, { on := 5, ground := .phase }, { on := 6, ground := .phase }], guard := none }) rfl (fun K hK => ?_) (AllReadyH.nil)
          · rw [if_pos (by rfl)]
            with_reducible refine wp_storeMemK (m := mb.putB k n (u == 1)) (b := b6) (.tmp 6) (.tmp 66) ?_ ?_ ?_ hM3 ?_
            · rfl
            · simp [Act.eval]
            · simp [Act.eval]
            intro w4 HM4 hz4 hk4 hs4
            have hd := hQ (mb.putB k n (u == 1)) k n p u w4 (putB_ok hmb) HM4 ⟨by rw [hz4]; exact Nat.le_trans st'.size hb3.size, hs4.1.trans (hb3.os.trans st'.os), hs4.2.1.trans (hb3.tape.trans st'.tape), hs4.2.2.trans (hb3.output.trans st'.output), fun j hj j1 j2 => by
              rw [hk4 j j2, hb3.block j (Nat.lt_of_lt_of_le hj st'.size), st'.block j hj j1]⟩
            refine hK.out _ _ trivial (fun hHeld => ?_)
            simp only [Act.put]
            refine wpAnyH_done ?_ ?_ _
            · kernel_rfl
            · exact NoPanic.normal hd
    · rw [if_pos (by rfl)]
      refine wp_callU (G := fun v w' => ∃ u : Int, v = .int .i64 u ∧ Rd w' rb (m0 + 11) ∧ Step rb w1 w') (args := #[.pointer (some ⟨rb, 0, none⟩), .int .i64 2]) Tryd.call13 rfl (by simp [Act.eval]) (h2 _ hr1) ?_
      rintro v2 w2 ⟨u, rfl, hr2, st2⟩
      have st' : Step rb w w2 := st.trans st2
      have hM2 : MemAt w2 b6 mb := RowAt.by hM (st'.block b6 hM.lt hne)
      refine hK.out _ _ trivial (fun hHeld => ?_)
      simp only [Act.put, List.setIfInBounds_toArray, List.set_cons_zero, List.set_cons_succ]
      refine wpAnyH_take (i := 5) (oi := { dst := some 65, op := .binOp .eql 3 (.tmp 64) (.const (.int .i64 1)) 3, type := 4, pos := pos, after := #[{ on := 4, ground := .data }], guard := none }) (v := .bool (u == 1)) rfl (by kernel_rfl) (by kernel_rfl) (by kernel_rfl) (fun _ _ _ h => h) (.inl ⟨by rfl, fun _ _ => rfl⟩) hHeld ?_
      simp only [Act.put, List.setIfInBounds_toArray, List.set_cons_zero, List.set_cons_succ]
      refine wpAnyH_ready (rs := [0]) (by kernel_rfl) (by simp) ?_
      refine AllReadyH.cons (o := { dst := some 60, op := .load 37 (.tmp 6), type := 37, pos := pos, after := #[], guard := none }) rfl (fun K hK => ?_) (AllReadyH.nil)
      · rw [if_pos (by rfl)]
        refine wp_loadMem (.tmp 6) rfl (by simp [Act.eval]) hM2 ?_
        refine hK.out _ _ trivial (fun _ => ?_)
        simp only [Act.put, List.setIfInBounds_toArray, List.set_cons_zero, List.set_cons_succ]
        refine wpAnyH_ready (rs := [6]) (by kernel_rfl) (by simp) ?_
        refine AllReadyH.cons (o := { dst := some 66, op := .call { callee := .value (.func 15), args := #[.tmp 60, .tmp 62, .tmp 65], argTypes := #[37, 58, 4] }, type := 37, pos := pos, after := #[{ on := 0, ground := .data }, { on := 2, ground := .data }, { on := 5, ground := .data }, { on := 4, ground := .chain }], guard := none }) rfl (fun K hK => ?_) (AllReadyH.nil)
        · rw [if_pos (by rfl)]
          refine wp_callU (G := fun v w' => v = (mb.putB k n (u == 1)).val ∧ Below w2.heap.size w2 w') (args := #[mb.val, .agg #[.int .i64 k, .int .i64 n, .int .i64 p], .bool (u == 1)]) Tryd.call15 rfl (by simp [Act.eval]) (h3 k n p (u == 1) _) ?_
          rintro v3 w3 ⟨rfl, hb3⟩
          have hM3 : MemAt w3 b6 mb := hM2.to hb3
          refine hK.out _ _ trivial (fun hHeld => ?_)
          simp only [Act.put, List.setIfInBounds_toArray, List.set_cons_zero, List.set_cons_succ]
          refine wpAnyH_ready (rs := [7]) (by kernel_rfl) (by simp) ?_
          refine AllReadyH.cons (o := { dst := none, op := .store 37 (.tmp 6) (.tmp 66), type := 0, pos := pos, after := #[{ on := 6, ground := .data }, { on := 6, ground := .chain }, { on := 0, ground := .phase }, { on := 1, ground := .phase }, { on := 2, ground := .phase }, { on := 3, ground := .phase }, { on := 4, ground := .phase }, { on := 5, ground := .phase }, { on := 6, ground := .phase }], guard := none }) rfl (fun K hK => ?_) (AllReadyH.nil)
          · rw [if_pos (by rfl)]
            with_reducible refine wp_storeMemK (m := mb.putB k n (u == 1)) (b := b6) (.tmp 6) (.tmp 66) ?_ ?_ ?_ hM3 ?_
            · rfl
            · simp [Act.eval]
            · simp [Act.eval]
            intro w4 HM4 hz4 hk4 hs4
            have hd := hQ (mb.putB k n (u == 1)) k n p u w4 (putB_ok hmb) HM4 ⟨by rw [hz4]; exact Nat.le_trans st'.size hb3.size, hs4.1.trans (hb3.os.trans st'.os), hs4.2.1.trans (hb3.tape.trans st'.tape), hs4.2.2.trans (hb3.output.trans st'.output), fun j hj j1 j2 => by
              rw [hk4 j j2, hb3.block j (Nat.lt_of_lt_of_le hj st'.size), st'.block j hj j1]⟩
            refine hK.out _ _ trivial (fun hHeld => ?_)
            simp only [Act.put]
            refine wpAnyH_done ?_ ?_ _
            · kernel_rfl
            · exact NoPanic.normal hd

set_option maxHeartbeats 1000000 in
set_option maxRecDepth 100000 in
theorem pair_region {id : Nat} {pos : String} {Q : Exit → Act → World → Prop} {w : World} {t0 t1 t4 t7 t8 t9 t10 t11 t12 t13 t14 t15 t16 t17 t18 t19 t20 t21 t22 t23 t24 t25 t26 t27 t28 t29 t30 t31 t32 t33 t34 t35 t36 t37 t38 t39 t40 t41 t42 t43 t44 t45 t46 t47 t48 t49 t50 t51 t52 t53 t54 t55 t56 t57 t58 t59 t60 t61 t62 t63 t64 t65 t66 t67 t68 t69 t70 t71 t72 : Value} {b2 b3 b5 b6 : Nat} {ma mb : Mm} (hA : MemAt w b5 ma) (hB : MemAt w b6 mb) (h2 : RowF w b2) (h3 : RowF w b3) (n25 : b5 ≠ b2) (n26 : b6 ≠ b2) (n35 : b5 ≠ b3) (n36 : b6 ≠ b3) (n23 : b2 ≠ b3)
    (hQ : ∀ w', MemAt w' b2 ma → MemAt w' b3 mb → (w.heap.size ≤ w'.heap.size ∧ w'.os = w.os ∧ w'.tape = w.tape ∧ w'.output = w.output ∧ ∀ j, j < w.heap.size → j ≠ b2 → j ≠ b3 → w'.heap[j]? = w.heap[j]?) → Q .normal { tmps := #[t0, t1, .pointer (some ⟨b2, 0, none⟩), .pointer (some ⟨b3, 0, none⟩), t4, .pointer (some ⟨b5, 0, none⟩), .pointer (some ⟨b6, 0, none⟩), t7, t8, t9, t10, t11, t12, t13, t14, t15, t16, t17, t18, t19, t20, t21, t22, t23, t24, t25, t26, t27, t28, t29, t30, t31, t32, t33, t34, t35, t36, t37, t38, t39, t40, t41, t42, t43, t44, t45, t46, t47, t48, t49, t50, t51, t52, t53, t54, t55, t56, t57, t58, t59, t60, t61, t62, t63, t64, t65, t66, t67, t68, t69, t70, ma.val, mb.val], defers := [] } w') :
    (Code.region id #[{ dst := some 71, op := .load 37 (.tmp 5), type := 37, pos := pos, after := #[], guard := none },
      { dst := some 72, op := .load 37 (.tmp 6), type := 37, pos := pos, after := #[{ on := 2, ground := .gcOnly .lateStores }], guard := none },
      { dst := none, op := .store 37 (.tmp 2) (.tmp 71), type := 0, pos := pos, after := #[{ on := 0, ground := .data }, { on := 0, ground := .phase }, { on := 1, ground := .textOnly .lateStores }], guard := none },
      { dst := none, op := .store 37 (.tmp 3) (.tmp 72), type := 0, pos := pos, after := #[{ on := 1, ground := .data }, { on := 2, ground := .chain }, { on := 0, ground := .phase }, { on := 1, ground := .phase }, { on := 2, ground := .phase }], guard := none }] true).wp Tryd.prog Q { tmps := #[t0, t1, .pointer (some ⟨b2, 0, none⟩), .pointer (some ⟨b3, 0, none⟩), t4, .pointer (some ⟨b5, 0, none⟩), .pointer (some ⟨b6, 0, none⟩), t7, t8, t9, t10, t11, t12, t13, t14, t15, t16, t17, t18, t19, t20, t21, t22, t23, t24, t25, t26, t27, t28, t29, t30, t31, t32, t33, t34, t35, t36, t37, t38, t39, t40, t41, t42, t43, t44, t45, t46, t47, t48, t49, t50, t51, t52, t53, t54, t55, t56, t57, t58, t59, t60, t61, t62, t63, t64, t65, t66, t67, t68, t69, t70, t71, t72], defers := [] } w := by
  refine wp_region_noPanic ?_
  refine wp_region_held_drew (S := fun W => MemAt W b5 ma ∧ MemAt W b6 mb) (by kernel_rfl) (show MemAt w.drew b5 ma ∧ MemAt w.drew b6 mb from ⟨hA, hB⟩) (fun hHeld => ?_)
  refine wpAnyH_take (i := 0) (oi := { dst := some 71, op := .load 37 (.tmp 5), type := 37, pos := pos, after := #[], guard := none }) (v := ma.val) rfl (by kernel_rfl) (by kernel_rfl) (by kernel_rfl) (fun _ _ _ h => h) (yields_row (by rfl) (.tmp 5) rfl rfl (fun W hb => hb.1) Tryd.underlying37 rfl (by kernel_rfl)) hHeld ?_
  simp only [Act.put, List.setIfInBounds_toArray, List.set_cons_zero, List.set_cons_succ]
  refine wpAnyH_take (i := 1) (oi := { dst := some 72, op := .load 37 (.tmp 6), type := 37, pos := pos, after := #[{ on := 2, ground := .gcOnly .lateStores }], guard := none }) (v := mb.val) rfl (by kernel_rfl) (by kernel_rfl) (by kernel_rfl) (fun _ _ _ h => h) (yields_row (by rfl) (.tmp 6) rfl rfl (fun W hb => hb.2) Tryd.underlying37 rfl (by kernel_rfl)) hHeld ?_
  simp only [Act.put, List.setIfInBounds_toArray, List.set_cons_zero, List.set_cons_succ]
  obtain ⟨g2, r2⟩ := h2
  obtain ⟨g3, r3⟩ := h3
  have r2d : RowAt w.drew b2 37 136 g2 := r2
  refine wpAnyH_ready (rs := [2]) (by kernel_rfl) (by simp) ?_
  refine AllReadyH.cons (o := { dst := none, op := .store 37 (.tmp 2) (.tmp 71), type := 0, pos := pos, after := #[{ on := 0, ground := .data }, { on := 0, ground := .phase }, { on := 1, ground := .textOnly .lateStores }], guard := none }) rfl (fun K hK => ?_) AllReadyH.nil
  rw [if_pos (by rfl)]
  with_reducible refine wp_storeMemK (m := ma) (b := b2) (.tmp 2) (.tmp 71) ?_ ?_ ?_ r2d ?_
  · rfl
  · simp [Act.eval]
  · simp [Act.eval]
  intro w1 HM1 hz1 hk1 hs1
  have hA1 : MemAt w1 b5 ma := RowAt.by hA (hk1 b5 n25)
  have hB1 : MemAt w1 b6 mb := RowAt.by hB (hk1 b6 n26)
  have r31 : RowAt w1 b3 37 136 g3 := RowAt.by r3 (hk1 b3 fun e => n23 e.symm)
  refine hK.out _ _ ⟨hA1, hB1⟩ (fun hHeld => ?_)
  simp only [Act.put]
  refine wpAnyH_ready (rs := [3]) (by kernel_rfl) (by simp) ?_
  refine AllReadyH.cons (o := { dst := none, op := .store 37 (.tmp 3) (.tmp 72), type := 0, pos := pos, after := #[{ on := 1, ground := .data }, { on := 2, ground := .chain }, { on := 0, ground := .phase }, { on := 1, ground := .phase }, { on := 2, ground := .phase }], guard := none }) rfl (fun K hK => ?_) AllReadyH.nil
  rw [if_pos (by rfl)]
  with_reducible refine wp_storeMemK (m := mb) (b := b3) (.tmp 3) (.tmp 72) ?_ ?_ ?_ r31 ?_
  · rfl
  · simp [Act.eval]
  · simp [Act.eval]
  intro w2 HM2 hz2 hk2 hs2
  have hA2 : MemAt w2 b5 ma := RowAt.by hA1 (hk2 b5 n35)
  have hB2 : MemAt w2 b6 mb := RowAt.by hB1 (hk2 b6 n36)
  have hd := hQ w2 (RowAt.by HM1 (hk2 b2 n23)) HM2 ⟨by rw [hz2, hz1]; exact Nat.le_refl _, hs2.1.trans hs1.1, hs2.2.1.trans hs1.2.1, hs2.2.2.trans hs1.2.2, fun j hj j1 j2 => by
    rw [hk2 j j2, hk1 j j1]; rfl⟩
  refine hK.out _ _ ⟨hA2, hB2⟩ (fun hHeld => ?_)
  simp only [Act.put]
  refine wpAnyH_done ?_ ?_ _
  · kernel_rfl
  · exact NoPanic.normal hd
end Go.Proofs.YtlflihegadjpdaaDoor
