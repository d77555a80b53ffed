/- Contacts that the law makes itself and asks. Helper text: no statement is claimed here. -/
import Derived.Test.YtmgjngihngddfaaGreatDoorWv
import Derived.Test.YtmgjngihngddfaaGreatDoorP02
namespace Go.Proofs.YtmgjngihngddfaaGreatDoor
open Go.ChangeShapes Go.WideShapes Go.ChangeAt Go.RowKit Fl

theorem yields_slice {ops : Array Oper} {S : World → Prop} {op : Oper} {a : Act} {b o n cap : Nat} {p : Option Addr} (hw : Region.wanted op (yielded ops a.tmps) = true) (x : Operand) (ho : op.op = .load 38 x) (hx : a.eval x = .pointer (some ⟨b, o, none⟩))
    (hS : ∀ w, S w → w.cell? ⟨b, o, none⟩ = some (.slice p n cap)) : YieldsIf Tryz.prog ops S op (.slice p n cap) a :=
  .inl ⟨hw, fun w h => by
    unfold execOp
    simp only [ho, hx, Instr.loadAt, Instr.sureAddr, Sem.run_bind, Sem.run_pure, Result.andThen_ok]
    simp [go_sem, hS w h]⟩
theorem wp_allocMemZ {o : Oper} {a : Act} {w : World} {K : Act → World → Prop} {Q : Exit → Act → World → Prop} (ho : o.op = .alloc 37) (hk : K (a.put o.dst (.pointer (some ⟨w.heap.size, 0, none⟩))) (w.alloc (.cells zeroM.cells 37))) : o.wp Tryz.prog a w K Q := by
  have hz : ∀ w, (zeroValue 37).run Tryz.prog w = .ok (.agg zeroM.cells) w := fun _ => by kernel_rfl
  unfold Oper.wp execOp
  rw [ho]
  simp [go_sem, hz]
  exact hk
theorem wp_buildArg {o : Oper} {a : Act} {w : World} {K : Act → World → Prop} {Q : Exit → Act → World → Prop} {x : Operand} {A : Ar} (ho : o.op = .buildSlice 38 1 #[(0, x)]) (hx : a.eval x = arV A)
    (hk : K (a.put o.dst (.slice (some ⟨w.heap.size, 0, none⟩) 1 1)) (w.alloc (.cells #[.int .i64 A.1, .int .i64 A.2.1, .int .i64 A.2.2] 48))) : o.wp Tryz.prog a w K Q := by
  obtain ⟨A0, A1, A2⟩ := A
  have hr : ∀ w, (Instr.buildSlice 38 1 #[(0, .agg #[.int .i64 A0, .int .i64 A1, .int .i64 A2])]).run Tryz.prog w = .ok (.slice (some ⟨w.heap.size, 0, none⟩) 1 1) (w.alloc (.cells #[.int .i64 A0, .int .i64 A1, .int .i64 A2] 48)) := fun w => by kernel_rfl
  unfold Oper.wp execOp
  rw [ho]
  have hm : (#[(0, x)] : Array (Nat × Operand)).map (fun (i, x) => (i, a.eval x)) = #[(0, .agg #[.int .i64 A0, .int .i64 A1, .int .i64 A2])] := by simp [hx, arV]
  simp only [Sem.run_bind]
  rw [hm, hr]
  simp only [Result.andThen_ok]
  exact hk
theorem build_elem (op : Int) (p : Option Addr) (n cap : Nat) (w : World) : (Instr.build 40 #[(0, .int .i64 op), (1, .slice p n cap)]).run Tryz.prog w = .ok (.agg #[.int .i64 op, .slice p n cap]) w := by kernel_rfl
theorem newZ (w : World) : RowAt (w.alloc (.cells zeroM.cells 37)) w.heap.size 37 136 zeroM.cell := RowAt.new w 37 136 zeroM.cell
theorem args_one (W : World) (A : Ar) : ArgsIs (W.alloc (.cells #[.int .i64 A.1, .int .i64 A.2.1, .int .i64 A.2.2] 48)) (some ⟨W.heap.size, 0, none⟩) [A] :=
  .inr ⟨W.heap.size, rfl, by simp, argsAt_new W [A] 48⟩


set_option maxHeartbeats 1000000 in
set_option maxRecDepth 100000 in
theorem ask_region17 {id : Nat} {pos : String} {TT : TypeId} {f : FuncId} {Q : Exit → Act → World → Prop} {V : World} {t0 t1 t2 t5 t6 t7 t8 t9 t10 t11 t12 t13 t14 t15 t16 t17 t18 t19 t20 t21 t22 t23 t24 t25 t26 t27 t28 t29 t30 t31 t32 t33 t34 t35 t36 t37 t38 t39 t40 t41 t42 t43 t44 t45 t46 t47 t48 t49 t50 t51 t52 t53 t54 t55 t56 t57 t58 t59 t60 t61 t62 t63 t64 t65 t66 t67 t68 t69 t70 t71 t72 t73 t74 t75 t76 t77 t78 t79 t80 t81 t82 t83 t84 t85 t86 t87 t88 t89 t90 t91 t92 t93 t94 t95 t96 t97 t98 t99 t100 t101 t102 t103 t104 t105 t106 t107 t108 t109 t110 t111 t112 : Value} {bM bE B n cap : Nat} {op : Int} {m : Mm} {A : Ar} {bb : Bool} {D : List _}
    (hf : ∀ (xs : Array Value) (w : World), (callFunc f xs).run Tryz.prog w = .ok (.enter f xs) w) (hM : MemAt V bM m) (hE : Own2 V bE (.int .i64 op) (.slice (some ⟨B, 0, none⟩) (n + 1) cap)) (hA : V.rangeAt B 0 [.int .i64 A.1, .int .i64 A.2.1, .int .i64 A.2.2]) (hB : B < V.heap.size)
    (hC : ∀ (W : World) (p : Option Addr) (cp : Nat), Below V.heap.size V W → ArgsIs W p [A] → Calls Tryz.prog f #[m.val, .agg #[.int .i64 1, .slice p 1 cp]] W fun e w' => ∃ v, e = .returned v ∧ (∃ m1 : Mm, v = .tuple #[m1.val, .bool bb]) ∧ Below W.heap.size W w')
    (hQ : ∀ (u10 u88 u89 u90 u91 u92 u93 u94 u95 u96 u97 u98 : Value) (w' : World), Below V.heap.size V w' → Q .normal { tmps := #[t0, t1, t2, .pointer (some ⟨bM, 0, none⟩), .pointer (some ⟨bE, 0, none⟩), t5, t6, t7, t8, t9, u10, .bool bb, t12, t13, t14, t15, t16, t17, t18, t19, t20, t21, t22, t23, t24, t25, t26, t27, t28, t29, t30, t31, t32, t33, t34, t35, t36, t37, t38, t39, t40, t41, t42, t43, t44, t45, t46, t47, t48, t49, t50, t51, t52, t53, t54, t55, t56, t57, t58, t59, t60, t61, t62, t63, t64, t65, t66, t67, t68, t69, t70, t71, t72, t73, t74, t75, t76, t77, t78, t79, t80, t81, t82, t83, t84, t85, t86, t87, u88, u89, u90, u91, u92, u93, u94, u95, u96, u97, u98, t99, t100, t101, t102, t103, t104, t105, t106, t107, t108, t109, t110, t111, t112], defers := D } w') :
    (Code.region id #[{ dst := some 89, op := .load 37 (.tmp 3), type := 37, pos := pos, after := #[], guard := none }, { dst := some 90, op := .fieldAddr 40 (.tmp 4) 1, type := 0, pos := pos, after := #[], guard := none }, { dst := some 91, op := .load 38 (.tmp 90), type := 38, pos := pos, after := #[{ on := 1, ground := .data }], guard := none }, { dst := some 92, op := .indexAddr 38 (.tmp 91) (.const (.int .i64 0)), type := 0, pos := pos, after := #[{ on := 2, ground := .data }], guard := none }, { dst := some 93, op := .load 48 (.tmp 92), type := 48, pos := pos, after := #[{ on := 3, ground := .data }], guard := none }, { dst := some 94, op := .buildSlice 38 1 #[(0, .tmp 93)], type := 38, pos := pos, after := #[{ on := 4, ground := .data }], guard := none }, { dst := some 95, op := .build 40 #[(0, .const (.int .i64 1)), (1, .tmp 94)], type := 40, pos := pos, after := #[{ on := 5, ground := .data }], guard := none }, { dst := some 96, op := .call { callee := .value (.func f), args := #[.tmp 89, .tmp 95], argTypes := #[37, 40] }, type := TT, pos := pos, after := #[{ on := 0, ground := .data }, { on := 6, ground := .data }], guard := none }, { dst := some 88, op := .move (.tmp 96), type := TT, pos := pos, after := #[{ on := 7, ground := .data }], guard := none }, { dst := some 97, op := .extract (.tmp 88) 0, type := 37, pos := pos, after := #[{ on := 8, ground := .data }], guard := none }, { dst := some 98, op := .extract (.tmp 88) 1, type := 4, pos := pos, after := #[{ on := 8, ground := .data }, { on := 12, ground := .gcOnly .lateStores }], guard := none }, { dst := some 10, op := .alloc 37, type := 0, pos := pos, after := #[], guard := none }, { dst := none, op := .store 37 (.tmp 10) (.tmp 97), type := 0, pos := pos, after := #[{ on := 11, ground := .data }, { on := 9, ground := .data }, { on := 7, ground := .chain }, { on := 0, ground := .phase }, { on := 1, ground := .phase }, { on := 2, ground := .phase }, { on := 3, ground := .phase }, { on := 4, ground := .phase }, { on := 5, ground := .phase }, { on := 6, ground := .phase }, { on := 7, ground := .phase }, { on := 8, ground := .phase }, { on := 9, ground := .phase }, { on := 10, ground := .textOnly .lateStores }, { on := 11, ground := .phase }], guard := none }, { dst := some 11, op := .assign (.tmp 98), type := 4, pos := pos, after := #[{ on := 10, ground := .data }, { on := 12, ground := .chain }, { on := 0, ground := .phase }, { on := 1, ground := .phase }, { on := 2, ground := .phase }, { on := 3, ground := .phase }, { on := 4, ground := .phase }, { on := 5, ground := .phase }, { on := 6, ground := .phase }, { on := 7, ground := .phase }, { on := 8, ground := .phase }, { on := 9, ground := .phase }, { on := 10, ground := .phase }, { on := 11, ground := .phase }, { on := 12, ground := .phase }], guard := none }] true).wp Tryz.prog Q { tmps := #[t0, t1, t2, .pointer (some ⟨bM, 0, none⟩), .pointer (some ⟨bE, 0, none⟩), t5, t6, t7, t8, t9, t10, t11, t12, t13, t14, t15, t16, t17, t18, t19, t20, t21, t22, t23, t24, t25, t26, t27, t28, t29, t30, t31, t32, t33, t34, t35, t36, t37, t38, t39, t40, t41, t42, t43, t44, t45, t46, t47, t48, t49, t50, t51, t52, t53, t54, t55, t56, t57, t58, t59, t60, t61, t62, t63, t64, t65, t66, t67, t68, t69, t70, t71, t72, t73, t74, t75, t76, t77, t78, t79, t80, t81, t82, t83, t84, t85, t86, t87, t88, t89, t90, t91, t92, t93, t94, t95, t96, t97, t98, t99, t100, t101, t102, t103, t104, t105, t106, t107, t108, t109, t110, t111, t112], defers := D } V := by
  refine wp_region_noPanic ?_
  refine wp_region_held_drew (S := fun W => Below V.heap.size V W) (by kernel_rfl) (Below.refl _ _).drew (fun hHeld => ?_)
  refine wpAnyH_take (i := 0) (oi := { dst := some 89, op := .load 37 (.tmp 3), type := 37, pos := pos, after := #[], guard := none }) (v := m.val) rfl (by kernel_rfl) (by kernel_rfl) (by kernel_rfl) (fun _ _ _ h => h) (yields_row (by rfl) (.tmp 3) rfl rfl (fun W hb => hM.to hb) Tryz.underlying37 rfl (by kernel_rfl)) hHeld ?_
  simp only [Act.put, List.setIfInBounds_toArray, List.set_cons_zero, List.set_cons_succ]
  refine wpAnyH_take (i := 1) (oi := { dst := some 90, op := .fieldAddr 40 (.tmp 4) 1, type := 0, pos := pos, after := #[], guard := none }) (v := .pointer (some ⟨bE, 1, none⟩)) rfl (by kernel_rfl) (by kernel_rfl) (by kernel_rfl) (fun _ _ _ h => h) (.inl ⟨by rfl, fun _ _ => rfl⟩) hHeld ?_
  simp only [Act.put, List.setIfInBounds_toArray, List.set_cons_zero, List.set_cons_succ]
  refine wpAnyH_take (i := 2) (oi := { dst := some 91, op := .load 38 (.tmp 90), type := 38, pos := pos, after := #[{ on := 1, ground := .data }], guard := none }) (v := .slice (some ⟨B, 0, none⟩) (n + 1) cap) rfl (by kernel_rfl) (by kernel_rfl) (by kernel_rfl) (fun _ _ _ h => h) (yields_slice (by rfl) (.tmp 90) rfl rfl (fun W hb => (hE.below hb).1.2)) hHeld ?_
  simp only [Act.put, List.setIfInBounds_toArray, List.set_cons_zero, List.set_cons_succ]
  refine wpAnyH_take (i := 3) (oi := { dst := some 92, op := .indexAddr 38 (.tmp 91) (.const (.int .i64 0)), type := 0, pos := pos, after := #[{ on := 2, ground := .data }], guard := none }) (v := .pointer (some ⟨B, 0, none⟩)) rfl (by kernel_rfl) (by kernel_rfl) (by kernel_rfl) (fun _ _ _ h => h) (.inl ⟨by rfl, fun _ _ => by simp [execOp, Act.eval, go_sem, Tryz.underlying38]⟩) hHeld ?_
  simp only [Act.put, List.setIfInBounds_toArray, List.set_cons_zero, List.set_cons_succ]
  refine wpAnyH_take (i := 4) (oi := { dst := some 93, op := .load 48 (.tmp 92), type := 48, pos := pos, after := #[{ on := 3, ground := .data }], guard := none }) (v := arV A) rfl (by kernel_rfl) (by kernel_rfl) (by kernel_rfl) (fun _ _ _ h => h) (yieldsIf_load_mid (by rfl) _ _ rfl B 0 rfl [.int .i64 A.1, .int .i64 A.2.1, .int .i64 A.2.2] _ (fun W hb j v hv => by rw [hb.cell (p := ⟨B, 0 + j, none⟩) hB]; exact hA j v hv) Tryz.underlying48 rfl (by kernel_rfl)) hHeld ?_
  simp only [Act.put, List.setIfInBounds_toArray, List.set_cons_zero, List.set_cons_succ]
  refine wpAnyH_ready (rs := [5, 11]) (by kernel_rfl) (by simp) ?_
  refine AllReadyH.cons (o := { dst := some 94, op := .buildSlice 38 1 #[(0, .tmp 93)], type := 38, pos := pos, after := #[{ on := 4, ground := .data }], guard := none }) rfl (fun K hK => ?_) (AllReadyH.cons (o := { dst := some 10, op := .alloc 37, type := 0, pos := pos, after := #[], guard := none }) rfl (fun K hK => ?_) AllReadyH.nil)
  · rw [if_pos (by rfl)]
    refine wp_buildArg (x := .tmp 93) (A := A) rfl (by simp [Act.eval]) ?_
    have hl1 : Below V.heap.size V ((V.drew).alloc (.cells #[.int .i64 A.1, .int .i64 A.2.1, .int .i64 A.2.2] 48)) := (Below.refl V.heap.size V).drew.alloc (Below.refl V.heap.size V).drew.size _
    refine hK.out _ _ hl1 (fun hHeld => ?_)
    simp only [Act.put, List.setIfInBounds_toArray, List.set_cons_zero, List.set_cons_succ]
    refine wpAnyH_take (i := 6) (oi := { dst := some 95, op := .build 40 #[(0, .const (.int .i64 1)), (1, .tmp 94)], type := 40, pos := pos, after := #[{ on := 5, ground := .data }], guard := none }) (v := .agg #[.int .i64 1, .slice (some ⟨V.drew.heap.size, 0, none⟩) 1 1]) rfl (by kernel_rfl) (by kernel_rfl) (by kernel_rfl) (fun _ _ _ h => h) (.inl ⟨by rfl, fun _ _ => by simp [execOp, Act.eval, build_elem]⟩) hHeld ?_
    simp only [Act.put, List.setIfInBounds_toArray, List.set_cons_zero, List.set_cons_succ]
    refine wpAnyH_ready (rs := [7, 11]) (by kernel_rfl) (by simp) ?_
    refine AllReadyH.cons (o := { dst := some 96, op := .call { callee := .value (.func f), args := #[.tmp 89, .tmp 95], argTypes := #[37, 40] }, type := TT, pos := pos, after := #[{ on := 0, ground := .data }, { on := 6, ground := .data }], guard := none }) rfl (fun K hK => ?_) (AllReadyH.cons (o := { dst := some 10, op := .alloc 37, type := 0, pos := pos, after := #[], guard := none }) rfl (fun K hK => ?_) AllReadyH.nil)
    · rw [if_pos (by rfl)]
      refine wp_callGoE (args := #[m.val, .agg #[.int .i64 1, .slice (some ⟨V.drew.heap.size, 0, none⟩) 1 1]]) hf rfl (by simp [Act.eval]) (hC _ _ _ hl1 (args_one _ A)) ?_
      rintro _ w5 ⟨⟨m1, rfl⟩, hb5⟩
      have hl5 : Below V.heap.size V w5 := hl1.trans (hb5.mono hl1.size)
      refine hK.out _ _ hl5 (fun hHeld => ?_)
      simp only [Act.put, List.setIfInBounds_toArray, List.set_cons_zero, List.set_cons_succ]
      refine wpAnyH_take (i := 8) (oi := { dst := some 88, op := .move (.tmp 96), type := TT, pos := pos, after := #[{ on := 7, ground := .data }], guard := none }) (v := .tuple #[m1.val, .bool bb]) rfl (by kernel_rfl) (by kernel_rfl) (by kernel_rfl) (fun _ _ _ h => h) (.inl ⟨by rfl, fun _ _ => rfl⟩) hHeld ?_
      simp only [Act.put, List.setIfInBounds_toArray, List.set_cons_zero, List.set_cons_succ]
      refine wpAnyH_take (i := 9) (oi := { dst := some 97, op := .extract (.tmp 88) 0, type := 37, pos := pos, after := #[{ on := 8, ground := .data }], guard := none }) (v := m1.val) rfl (by kernel_rfl) (by kernel_rfl) (by kernel_rfl) (fun _ _ _ h => h) (.inl ⟨by rfl, fun _ _ => rfl⟩) hHeld ?_
      simp only [Act.put, List.setIfInBounds_toArray, List.set_cons_zero, List.set_cons_succ]
      refine wpAnyH_take (i := 10) (oi := { dst := some 98, op := .extract (.tmp 88) 1, type := 4, pos := pos, after := #[{ on := 8, ground := .data }, { on := 12, ground := .gcOnly .lateStores }], guard := none }) (v := .bool bb) rfl (by kernel_rfl) (by kernel_rfl) (by kernel_rfl) (fun _ _ _ h => h) (.inl ⟨by rfl, fun _ _ => rfl⟩) hHeld ?_
      simp only [Act.put, List.setIfInBounds_toArray, List.set_cons_zero, List.set_cons_succ]
      refine wpAnyH_ready (rs := [11]) (by kernel_rfl) (by simp) ?_
      refine AllReadyH.cons (o := { dst := some 10, op := .alloc 37, type := 0, pos := pos, after := #[], guard := none }) rfl (fun K hK => ?_) AllReadyH.nil
      rw [if_pos (by rfl)]
      refine wp_allocMemZ rfl ?_
      have hl6 : Below V.heap.size V ((w5).alloc (.cells zeroM.cells 37)) := hl5.alloc hl5.size _
      refine hK.out _ _ hl6 (fun hHeld => ?_)
      simp only [Act.put, List.setIfInBounds_toArray, List.set_cons_zero, List.set_cons_succ]
      refine wpAnyH_ready (rs := [12]) (by kernel_rfl) (by simp) ?_
      refine AllReadyH.cons (o := { dst := none, op := .store 37 (.tmp 10) (.tmp 97), type := 0, pos := pos, after := #[{ on := 11, ground := .data }, { on := 9, ground := .data }, { on := 7, ground := .chain }, { on := 0, ground := .phase }, { on := 1, ground := .phase }, { on := 2, ground := .phase }, { on := 3, ground := .phase }, { on := 4, ground := .phase }, { on := 5, ground := .phase }, { on := 6, ground := .phase }, { on := 7, ground := .phase }, { on := 8, ground := .phase }, { on := 9, ground := .phase }, { on := 10, ground := .textOnly .lateStores }, { on := 11, ground := .phase }], guard := none }) rfl (fun K hK => ?_) AllReadyH.nil
      rw [if_pos (by rfl)]
      with_reducible refine wp_storeMemV (m := m1) (b := w5.heap.size) (.tmp 10) (.tmp 97) ?_ ?_ ?_ (newZ w5) ?_
      · rfl
      · simp [Act.eval]
      · simp [Act.eval]
      intro w8 HM8 hk8 hb8
      have hl8 : Below V.heap.size V w8 := hb8 _ _ hl6 (by exact hl5.size)
      refine hK.out _ _ hl8 (fun hHeld => ?_)
      simp only [Act.put]
      refine wpAnyH_take (i := 13) (oi := { dst := some 11, op := .assign (.tmp 98), type := 4, pos := pos, after := #[{ on := 10, ground := .data }, { on := 12, ground := .chain }, { on := 0, ground := .phase }, { on := 1, ground := .phase }, { on := 2, ground := .phase }, { on := 3, ground := .phase }, { on := 4, ground := .phase }, { on := 5, ground := .phase }, { on := 6, ground := .phase }, { on := 7, ground := .phase }, { on := 8, ground := .phase }, { on := 9, ground := .phase }, { on := 10, ground := .phase }, { on := 11, ground := .phase }, { on := 12, ground := .phase }], guard := none }) (v := .bool bb) rfl (by kernel_rfl) (by kernel_rfl) (by kernel_rfl) (fun _ _ _ h => h) (.inl ⟨by rfl, fun _ _ => rfl⟩) hHeld ?_
      simp only [Act.put, List.setIfInBounds_toArray, List.set_cons_zero, List.set_cons_succ]
      refine wpAnyH_done ?_ ?_ _
      · kernel_rfl
      · exact NoPanic.normal (hQ _ _ _ _ _ _ _ _ _ _ _ _ w8 hl8)
    · rw [if_pos (by rfl)]
      refine wp_allocMemZ rfl ?_
      have hl2 : Below V.heap.size V ((((V.drew).alloc (.cells #[.int .i64 A.1, .int .i64 A.2.1, .int .i64 A.2.2] 48))).alloc (.cells zeroM.cells 37)) := hl1.alloc hl1.size _
      refine hK.out _ _ hl2 (fun hHeld => ?_)
      simp only [Act.put, List.setIfInBounds_toArray, List.set_cons_zero, List.set_cons_succ]
      refine wpAnyH_ready (rs := [7]) (by kernel_rfl) (by simp) ?_
      refine AllReadyH.cons (o := { dst := some 96, op := .call { callee := .value (.func f), args := #[.tmp 89, .tmp 95], argTypes := #[37, 40] }, type := TT, pos := pos, after := #[{ on := 0, ground := .data }, { on := 6, ground := .data }], guard := none }) rfl (fun K hK => ?_) AllReadyH.nil
      rw [if_pos (by rfl)]
      refine wp_callGoE (args := #[m.val, .agg #[.int .i64 1, .slice (some ⟨V.drew.heap.size, 0, none⟩) 1 1]]) hf rfl (by simp [Act.eval]) (hC _ _ _ hl2 ((args_one _ A).to (one _ _))) ?_
      rintro _ w5 ⟨⟨m1, rfl⟩, hb5⟩
      have hl5 : Below V.heap.size V w5 := hl2.trans (hb5.mono hl2.size)
      refine hK.out _ _ hl5 (fun hHeld => ?_)
      simp only [Act.put, List.setIfInBounds_toArray, List.set_cons_zero, List.set_cons_succ]
      refine wpAnyH_take (i := 8) (oi := { dst := some 88, op := .move (.tmp 96), type := TT, pos := pos, after := #[{ on := 7, ground := .data }], guard := none }) (v := .tuple #[m1.val, .bool bb]) rfl (by kernel_rfl) (by kernel_rfl) (by kernel_rfl) (fun _ _ _ h => h) (.inl ⟨by rfl, fun _ _ => rfl⟩) hHeld ?_
      simp only [Act.put, List.setIfInBounds_toArray, List.set_cons_zero, List.set_cons_succ]
      refine wpAnyH_take (i := 9) (oi := { dst := some 97, op := .extract (.tmp 88) 0, type := 37, pos := pos, after := #[{ on := 8, ground := .data }], guard := none }) (v := m1.val) rfl (by kernel_rfl) (by kernel_rfl) (by kernel_rfl) (fun _ _ _ h => h) (.inl ⟨by rfl, fun _ _ => rfl⟩) hHeld ?_
      simp only [Act.put, List.setIfInBounds_toArray, List.set_cons_zero, List.set_cons_succ]
      refine wpAnyH_take (i := 10) (oi := { dst := some 98, op := .extract (.tmp 88) 1, type := 4, pos := pos, after := #[{ on := 8, ground := .data }, { on := 12, ground := .gcOnly .lateStores }], guard := none }) (v := .bool bb) rfl (by kernel_rfl) (by kernel_rfl) (by kernel_rfl) (fun _ _ _ h => h) (.inl ⟨by rfl, fun _ _ => rfl⟩) hHeld ?_
      simp only [Act.put, List.setIfInBounds_toArray, List.set_cons_zero, List.set_cons_succ]
      refine wpAnyH_ready (rs := [12]) (by kernel_rfl) (by simp) ?_
      refine AllReadyH.cons (o := { dst := none, op := .store 37 (.tmp 10) (.tmp 97), type := 0, pos := pos, after := #[{ on := 11, ground := .data }, { on := 9, ground := .data }, { on := 7, ground := .chain }, { on := 0, ground := .phase }, { on := 1, ground := .phase }, { on := 2, ground := .phase }, { on := 3, ground := .phase }, { on := 4, ground := .phase }, { on := 5, ground := .phase }, { on := 6, ground := .phase }, { on := 7, ground := .phase }, { on := 8, ground := .phase }, { on := 9, ground := .phase }, { on := 10, ground := .textOnly .lateStores }, { on := 11, ground := .phase }], guard := none }) rfl (fun K hK => ?_) AllReadyH.nil
      rw [if_pos (by rfl)]
      with_reducible refine wp_storeMemV (m := m1) (b := (World.heap ((V.drew).alloc (.cells #[.int .i64 A.1, .int .i64 A.2.1, .int .i64 A.2.2] 48))).size) (.tmp 10) (.tmp 97) ?_ ?_ ?_ (RowAt.to (newZ ((V.drew).alloc (.cells #[.int .i64 A.1, .int .i64 A.2.1, .int .i64 A.2.2] 48))) hb5) ?_
      · rfl
      · simp [Act.eval]
      · simp [Act.eval]
      intro w8 HM8 hk8 hb8
      have hl8 : Below V.heap.size V w8 := hb8 _ _ hl5 (by exact hl1.size)
      refine hK.out _ _ hl8 (fun hHeld => ?_)
      simp only [Act.put]
      refine wpAnyH_take (i := 13) (oi := { dst := some 11, op := .assign (.tmp 98), type := 4, pos := pos, after := #[{ on := 10, ground := .data }, { on := 12, ground := .chain }, { on := 0, ground := .phase }, { on := 1, ground := .phase }, { on := 2, ground := .phase }, { on := 3, ground := .phase }, { on := 4, ground := .phase }, { on := 5, ground := .phase }, { on := 6, ground := .phase }, { on := 7, ground := .phase }, { on := 8, ground := .phase }, { on := 9, ground := .phase }, { on := 10, ground := .phase }, { on := 11, ground := .phase }, { on := 12, ground := .phase }], guard := none }) (v := .bool bb) rfl (by kernel_rfl) (by kernel_rfl) (by kernel_rfl) (fun _ _ _ h => h) (.inl ⟨by rfl, fun _ _ => rfl⟩) hHeld ?_
      simp only [Act.put, List.setIfInBounds_toArray, List.set_cons_zero, List.set_cons_succ]
      refine wpAnyH_done ?_ ?_ _
      · kernel_rfl
      · exact NoPanic.normal (hQ _ _ _ _ _ _ _ _ _ _ _ _ w8 hl8)
  · rw [if_pos (by rfl)]
    refine wp_allocMemZ rfl ?_
    have hl1 : Below V.heap.size V ((V.drew).alloc (.cells zeroM.cells 37)) := (Below.refl V.heap.size V).drew.alloc (Below.refl V.heap.size V).drew.size _
    refine hK.out _ _ hl1 (fun hHeld => ?_)
    simp only [Act.put, List.setIfInBounds_toArray, List.set_cons_zero, List.set_cons_succ]
    refine wpAnyH_ready (rs := [5]) (by kernel_rfl) (by simp) ?_
    refine AllReadyH.cons (o := { dst := some 94, op := .buildSlice 38 1 #[(0, .tmp 93)], type := 38, pos := pos, after := #[{ on := 4, ground := .data }], guard := none }) rfl (fun K hK => ?_) AllReadyH.nil
    rw [if_pos (by rfl)]
    refine wp_buildArg (x := .tmp 93) (A := A) rfl (by simp [Act.eval]) ?_
    have hl2 : Below V.heap.size V ((((V.drew).alloc (.cells zeroM.cells 37))).alloc (.cells #[.int .i64 A.1, .int .i64 A.2.1, .int .i64 A.2.2] 48)) := hl1.alloc hl1.size _
    refine hK.out _ _ hl2 (fun hHeld => ?_)
    simp only [Act.put, List.setIfInBounds_toArray, List.set_cons_zero, List.set_cons_succ]
    refine wpAnyH_take (i := 6) (oi := { dst := some 95, op := .build 40 #[(0, .const (.int .i64 1)), (1, .tmp 94)], type := 40, pos := pos, after := #[{ on := 5, ground := .data }], guard := none }) (v := .agg #[.int .i64 1, .slice (some ⟨(World.heap ((V.drew).alloc (.cells zeroM.cells 37))).size, 0, none⟩) 1 1]) rfl (by kernel_rfl) (by kernel_rfl) (by kernel_rfl) (fun _ _ _ h => h) (.inl ⟨by rfl, fun _ _ => by simp [execOp, Act.eval, build_elem]⟩) hHeld ?_
    simp only [Act.put, List.setIfInBounds_toArray, List.set_cons_zero, List.set_cons_succ]
    refine wpAnyH_ready (rs := [7]) (by kernel_rfl) (by simp) ?_
    refine AllReadyH.cons (o := { dst := some 96, op := .call { callee := .value (.func f), args := #[.tmp 89, .tmp 95], argTypes := #[37, 40] }, type := TT, pos := pos, after := #[{ on := 0, ground := .data }, { on := 6, ground := .data }], guard := none }) rfl (fun K hK => ?_) AllReadyH.nil
    rw [if_pos (by rfl)]
    refine wp_callGoE (args := #[m.val, .agg #[.int .i64 1, .slice (some ⟨(World.heap ((V.drew).alloc (.cells zeroM.cells 37))).size, 0, none⟩) 1 1]]) hf rfl (by simp [Act.eval]) (hC _ _ _ hl2 (args_one _ A)) ?_
    rintro _ w5 ⟨⟨m1, rfl⟩, hb5⟩
    have hl5 : Below V.heap.size V w5 := hl2.trans (hb5.mono hl2.size)
    refine hK.out _ _ hl5 (fun hHeld => ?_)
    simp only [Act.put, List.setIfInBounds_toArray, List.set_cons_zero, List.set_cons_succ]
    refine wpAnyH_take (i := 8) (oi := { dst := some 88, op := .move (.tmp 96), type := TT, pos := pos, after := #[{ on := 7, ground := .data }], guard := none }) (v := .tuple #[m1.val, .bool bb]) rfl (by kernel_rfl) (by kernel_rfl) (by kernel_rfl) (fun _ _ _ h => h) (.inl ⟨by rfl, fun _ _ => rfl⟩) hHeld ?_
    simp only [Act.put, List.setIfInBounds_toArray, List.set_cons_zero, List.set_cons_succ]
    refine wpAnyH_take (i := 9) (oi := { dst := some 97, op := .extract (.tmp 88) 0, type := 37, pos := pos, after := #[{ on := 8, ground := .data }], guard := none }) (v := m1.val) rfl (by kernel_rfl) (by kernel_rfl) (by kernel_rfl) (fun _ _ _ h => h) (.inl ⟨by rfl, fun _ _ => rfl⟩) hHeld ?_
    simp only [Act.put, List.setIfInBounds_toArray, List.set_cons_zero, List.set_cons_succ]
    refine wpAnyH_take (i := 10) (oi := { dst := some 98, op := .extract (.tmp 88) 1, type := 4, pos := pos, after := #[{ on := 8, ground := .data }, { on := 12, ground := .gcOnly .lateStores }], guard := none }) (v := .bool bb) rfl (by kernel_rfl) (by kernel_rfl) (by kernel_rfl) (fun _ _ _ h => h) (.inl ⟨by rfl, fun _ _ => rfl⟩) hHeld ?_
    simp only [Act.put, List.setIfInBounds_toArray, List.set_cons_zero, List.set_cons_succ]
    refine wpAnyH_ready (rs := [12]) (by kernel_rfl) (by simp) ?_
    refine AllReadyH.cons (o := { dst := none, op := .store 37 (.tmp 10) (.tmp 97), type := 0, pos := pos, after := #[{ on := 11, ground := .data }, { on := 9, ground := .data }, { on := 7, ground := .chain }, { on := 0, ground := .phase }, { on := 1, ground := .phase }, { on := 2, ground := .phase }, { on := 3, ground := .phase }, { on := 4, ground := .phase }, { on := 5, ground := .phase }, { on := 6, ground := .phase }, { on := 7, ground := .phase }, { on := 8, ground := .phase }, { on := 9, ground := .phase }, { on := 10, ground := .textOnly .lateStores }, { on := 11, ground := .phase }], guard := none }) rfl (fun K hK => ?_) AllReadyH.nil
    rw [if_pos (by rfl)]
    with_reducible refine wp_storeMemV (m := m1) (b := V.drew.heap.size) (.tmp 10) (.tmp 97) ?_ ?_ ?_ (RowAt.to (RowAt.alloc (newZ V.drew) _) hb5) ?_
    · rfl
    · simp [Act.eval]
    · simp [Act.eval]
    intro w8 HM8 hk8 hb8
    have hl8 : Below V.heap.size V w8 := hb8 _ _ hl5 (by exact (Below.refl V.heap.size V).drew.size)
    refine hK.out _ _ hl8 (fun hHeld => ?_)
    simp only [Act.put]
    refine wpAnyH_take (i := 13) (oi := { dst := some 11, op := .assign (.tmp 98), type := 4, pos := pos, after := #[{ on := 10, ground := .data }, { on := 12, ground := .chain }, { on := 0, ground := .phase }, { on := 1, ground := .phase }, { on := 2, ground := .phase }, { on := 3, ground := .phase }, { on := 4, ground := .phase }, { on := 5, ground := .phase }, { on := 6, ground := .phase }, { on := 7, ground := .phase }, { on := 8, ground := .phase }, { on := 9, ground := .phase }, { on := 10, ground := .phase }, { on := 11, ground := .phase }, { on := 12, ground := .phase }], guard := none }) (v := .bool bb) rfl (by kernel_rfl) (by kernel_rfl) (by kernel_rfl) (fun _ _ _ h => h) (.inl ⟨by rfl, fun _ _ => rfl⟩) hHeld ?_
    simp only [Act.put, List.setIfInBounds_toArray, List.set_cons_zero, List.set_cons_succ]
    refine wpAnyH_done ?_ ?_ _
    · kernel_rfl
    · exact NoPanic.normal (hQ _ _ _ _ _ _ _ _ _ _ _ _ w8 hl8)

set_option maxHeartbeats 1000000 in
set_option maxRecDepth 100000 in
theorem ask_region18 {id : Nat} {pos : String} {TT : TypeId} {f : FuncId} {Q : Exit → Act → World → Prop} {V : World} {t0 t1 t2 t5 t6 t7 t8 t9 t10 t11 t12 t13 t14 t15 t16 t17 t18 t19 t20 t21 t22 t23 t24 t25 t26 t27 t28 t29 t30 t31 t32 t33 t34 t35 t36 t37 t38 t39 t40 t41 t42 t43 t44 t45 t46 t47 t48 t49 t50 t51 t52 t53 t54 t55 t56 t57 t58 t59 t60 t61 t62 t63 t64 t65 t66 t67 t68 t69 t70 t71 t72 t73 t74 t75 t76 t77 t78 t79 t80 t81 t82 t83 t84 t85 t86 t87 t88 t89 t90 t91 t92 t93 t94 t95 t96 t97 t98 t99 t100 t101 t102 t103 t104 t105 t106 t107 t108 t109 t110 t111 t112 : Value} {bM bE B n cap : Nat} {op : Int} {m : Mm} {A : Ar} {bb : Bool} {D : List _}
    (hf : ∀ (xs : Array Value) (w : World), (callFunc f xs).run Tryz.prog w = .ok (.enter f xs) w) (hM : MemAt V bM m) (hE : Own2 V bE (.int .i64 op) (.slice (some ⟨B, 0, none⟩) (n + 1) cap)) (hA : V.rangeAt B 0 [.int .i64 A.1, .int .i64 A.2.1, .int .i64 A.2.2]) (hB : B < V.heap.size)
    (hC : ∀ (W : World) (p : Option Addr) (cp : Nat), Below V.heap.size V W → ArgsIs W p [A] → Calls Tryz.prog f #[m.val, .agg #[.int .i64 2, .slice p 1 cp]] W fun e w' => ∃ v, e = .returned v ∧ (∃ m1 : Mm, v = .tuple #[m1.val, .bool bb]) ∧ Below W.heap.size W w')
    (hQ : ∀ (u12 u99 u100 u101 u102 u103 u104 u105 u106 u107 u108 u109 : Value) (w' : World), Below V.heap.size V w' → Q .normal { tmps := #[t0, t1, t2, .pointer (some ⟨bM, 0, none⟩), .pointer (some ⟨bE, 0, none⟩), t5, t6, t7, t8, t9, t10, t11, u12, .bool bb, t14, t15, t16, t17, t18, t19, t20, t21, t22, t23, t24, t25, t26, t27, t28, t29, t30, t31, t32, t33, t34, t35, t36, t37, t38, t39, t40, t41, t42, t43, t44, t45, t46, t47, t48, t49, t50, t51, t52, t53, t54, t55, t56, t57, t58, t59, t60, t61, t62, t63, t64, t65, t66, t67, t68, t69, t70, t71, t72, t73, t74, t75, t76, t77, t78, t79, t80, t81, t82, t83, t84, t85, t86, t87, t88, t89, t90, t91, t92, t93, t94, t95, t96, t97, t98, u99, u100, u101, u102, u103, u104, u105, u106, u107, u108, u109, t110, t111, t112], defers := D } w') :
    (Code.region id #[{ dst := some 100, op := .load 37 (.tmp 3), type := 37, pos := pos, after := #[], guard := none }, { dst := some 101, op := .fieldAddr 40 (.tmp 4) 1, type := 0, pos := pos, after := #[], guard := none }, { dst := some 102, op := .load 38 (.tmp 101), type := 38, pos := pos, after := #[{ on := 1, ground := .data }], guard := none }, { dst := some 103, op := .indexAddr 38 (.tmp 102) (.const (.int .i64 0)), type := 0, pos := pos, after := #[{ on := 2, ground := .data }], guard := none }, { dst := some 104, op := .load 48 (.tmp 103), type := 48, pos := pos, after := #[{ on := 3, ground := .data }], guard := none }, { dst := some 105, op := .buildSlice 38 1 #[(0, .tmp 104)], type := 38, pos := pos, after := #[{ on := 4, ground := .data }], guard := none }, { dst := some 106, op := .build 40 #[(0, .const (.int .i64 2)), (1, .tmp 105)], type := 40, pos := pos, after := #[{ on := 5, ground := .data }], guard := none }, { dst := some 107, op := .call { callee := .value (.func f), args := #[.tmp 100, .tmp 106], argTypes := #[37, 40] }, type := TT, pos := pos, after := #[{ on := 0, ground := .data }, { on := 6, ground := .data }], guard := none }, { dst := some 99, op := .move (.tmp 107), type := TT, pos := pos, after := #[{ on := 7, ground := .data }], guard := none }, { dst := some 108, op := .extract (.tmp 99) 0, type := 37, pos := pos, after := #[{ on := 8, ground := .data }], guard := none }, { dst := some 109, op := .extract (.tmp 99) 1, type := 4, pos := pos, after := #[{ on := 8, ground := .data }, { on := 12, ground := .gcOnly .lateStores }], guard := none }, { dst := some 12, op := .alloc 37, type := 0, pos := pos, after := #[], guard := none }, { dst := none, op := .store 37 (.tmp 12) (.tmp 108), type := 0, pos := pos, after := #[{ on := 11, ground := .data }, { on := 9, ground := .data }, { on := 7, ground := .chain }, { on := 0, ground := .phase }, { on := 1, ground := .phase }, { on := 2, ground := .phase }, { on := 3, ground := .phase }, { on := 4, ground := .phase }, { on := 5, ground := .phase }, { on := 6, ground := .phase }, { on := 7, ground := .phase }, { on := 8, ground := .phase }, { on := 9, ground := .phase }, { on := 10, ground := .textOnly .lateStores }, { on := 11, ground := .phase }], guard := none }, { dst := some 13, op := .assign (.tmp 109), type := 4, pos := pos, after := #[{ on := 10, ground := .data }, { on := 12, ground := .chain }, { on := 0, ground := .phase }, { on := 1, ground := .phase }, { on := 2, ground := .phase }, { on := 3, ground := .phase }, { on := 4, ground := .phase }, { on := 5, ground := .phase }, { on := 6, ground := .phase }, { on := 7, ground := .phase }, { on := 8, ground := .phase }, { on := 9, ground := .phase }, { on := 10, ground := .phase }, { on := 11, ground := .phase }, { on := 12, ground := .phase }], guard := none }] true).wp Tryz.prog Q { tmps := #[t0, t1, t2, .pointer (some ⟨bM, 0, none⟩), .pointer (some ⟨bE, 0, none⟩), t5, t6, t7, t8, t9, t10, t11, t12, t13, t14, t15, t16, t17, t18, t19, t20, t21, t22, t23, t24, t25, t26, t27, t28, t29, t30, t31, t32, t33, t34, t35, t36, t37, t38, t39, t40, t41, t42, t43, t44, t45, t46, t47, t48, t49, t50, t51, t52, t53, t54, t55, t56, t57, t58, t59, t60, t61, t62, t63, t64, t65, t66, t67, t68, t69, t70, t71, t72, t73, t74, t75, t76, t77, t78, t79, t80, t81, t82, t83, t84, t85, t86, t87, t88, t89, t90, t91, t92, t93, t94, t95, t96, t97, t98, t99, t100, t101, t102, t103, t104, t105, t106, t107, t108, t109, t110, t111, t112], defers := D } V := by
  refine wp_region_noPanic ?_
  refine wp_region_held_drew (S := fun W => Below V.heap.size V W) (by kernel_rfl) (Below.refl _ _).drew (fun hHeld => ?_)
  refine wpAnyH_take (i := 0) (oi := { dst := some 100, op := .load 37 (.tmp 3), type := 37, pos := pos, after := #[], guard := none }) (v := m.val) rfl (by kernel_rfl) (by kernel_rfl) (by kernel_rfl) (fun _ _ _ h => h) (yields_row (by rfl) (.tmp 3) rfl rfl (fun W hb => hM.to hb) Tryz.underlying37 rfl (by kernel_rfl)) hHeld ?_
  simp only [Act.put, List.setIfInBounds_toArray, List.set_cons_zero, List.set_cons_succ]
  refine wpAnyH_take (i := 1) (oi := { dst := some 101, op := .fieldAddr 40 (.tmp 4) 1, type := 0, pos := pos, after := #[], guard := none }) (v := .pointer (some ⟨bE, 1, none⟩)) rfl (by kernel_rfl) (by kernel_rfl) (by kernel_rfl) (fun _ _ _ h => h) (.inl ⟨by rfl, fun _ _ => rfl⟩) hHeld ?_
  simp only [Act.put, List.setIfInBounds_toArray, List.set_cons_zero, List.set_cons_succ]
  refine wpAnyH_take (i := 2) (oi := { dst := some 102, op := .load 38 (.tmp 101), type := 38, pos := pos, after := #[{ on := 1, ground := .data }], guard := none }) (v := .slice (some ⟨B, 0, none⟩) (n + 1) cap) rfl (by kernel_rfl) (by kernel_rfl) (by kernel_rfl) (fun _ _ _ h => h) (yields_slice (by rfl) (.tmp 101) rfl rfl (fun W hb => (hE.below hb).1.2)) hHeld ?_
  simp only [Act.put, List.setIfInBounds_toArray, List.set_cons_zero, List.set_cons_succ]
  refine wpAnyH_take (i := 3) (oi := { dst := some 103, op := .indexAddr 38 (.tmp 102) (.const (.int .i64 0)), type := 0, pos := pos, after := #[{ on := 2, ground := .data }], guard := none }) (v := .pointer (some ⟨B, 0, none⟩)) rfl (by kernel_rfl) (by kernel_rfl) (by kernel_rfl) (fun _ _ _ h => h) (.inl ⟨by rfl, fun _ _ => by simp [execOp, Act.eval, go_sem, Tryz.underlying38]⟩) hHeld ?_
  simp only [Act.put, List.setIfInBounds_toArray, List.set_cons_zero, List.set_cons_succ]
  refine wpAnyH_take (i := 4) (oi := { dst := some 104, op := .load 48 (.tmp 103), type := 48, pos := pos, after := #[{ on := 3, ground := .data }], guard := none }) (v := arV A) rfl (by kernel_rfl) (by kernel_rfl) (by kernel_rfl) (fun _ _ _ h => h) (yieldsIf_load_mid (by rfl) _ _ rfl B 0 rfl [.int .i64 A.1, .int .i64 A.2.1, .int .i64 A.2.2] _ (fun W hb j v hv => by rw [hb.cell (p := ⟨B, 0 + j, none⟩) hB]; exact hA j v hv) Tryz.underlying48 rfl (by kernel_rfl)) hHeld ?_
  simp only [Act.put, List.setIfInBounds_toArray, List.set_cons_zero, List.set_cons_succ]
  refine wpAnyH_ready (rs := [5, 11]) (by kernel_rfl) (by simp) ?_
  refine AllReadyH.cons (o := { dst := some 105, op := .buildSlice 38 1 #[(0, .tmp 104)], type := 38, pos := pos, after := #[{ on := 4, ground := .data }], guard := none }) rfl (fun K hK => ?_) (AllReadyH.cons (o := { dst := some 12, op := .alloc 37, type := 0, pos := pos, after := #[], guard := none }) rfl (fun K hK => ?_) AllReadyH.nil)
  · rw [if_pos (by rfl)]
    refine wp_buildArg (x := .tmp 104) (A := A) rfl (by simp [Act.eval]) ?_
    have hl1 : Below V.heap.size V ((V.drew).alloc (.cells #[.int .i64 A.1, .int .i64 A.2.1, .int .i64 A.2.2] 48)) := (Below.refl V.heap.size V).drew.alloc (Below.refl V.heap.size V).drew.size _
    refine hK.out _ _ hl1 (fun hHeld => ?_)
    simp only [Act.put, List.setIfInBounds_toArray, List.set_cons_zero, List.set_cons_succ]
    refine wpAnyH_take (i := 6) (oi := { dst := some 106, op := .build 40 #[(0, .const (.int .i64 2)), (1, .tmp 105)], type := 40, pos := pos, after := #[{ on := 5, ground := .data }], guard := none }) (v := .agg #[.int .i64 2, .slice (some ⟨V.drew.heap.size, 0, none⟩) 1 1]) rfl (by kernel_rfl) (by kernel_rfl) (by kernel_rfl) (fun _ _ _ h => h) (.inl ⟨by rfl, fun _ _ => by simp [execOp, Act.eval, build_elem]⟩) hHeld ?_
    simp only [Act.put, List.setIfInBounds_toArray, List.set_cons_zero, List.set_cons_succ]
    refine wpAnyH_ready (rs := [7, 11]) (by kernel_rfl) (by simp) ?_
    refine AllReadyH.cons (o := { dst := some 107, op := .call { callee := .value (.func f), args := #[.tmp 100, .tmp 106], argTypes := #[37, 40] }, type := TT, pos := pos, after := #[{ on := 0, ground := .data }, { on := 6, ground := .data }], guard := none }) rfl (fun K hK => ?_) (AllReadyH.cons (o := { dst := some 12, op := .alloc 37, type := 0, pos := pos, after := #[], guard := none }) rfl (fun K hK => ?_) AllReadyH.nil)
    · rw [if_pos (by rfl)]
      refine wp_callGoE (args := #[m.val, .agg #[.int .i64 2, .slice (some ⟨V.drew.heap.size, 0, none⟩) 1 1]]) hf rfl (by simp [Act.eval]) (hC _ _ _ hl1 (args_one _ A)) ?_
      rintro _ w5 ⟨⟨m1, rfl⟩, hb5⟩
      have hl5 : Below V.heap.size V w5 := hl1.trans (hb5.mono hl1.size)
      refine hK.out _ _ hl5 (fun hHeld => ?_)
      simp only [Act.put, List.setIfInBounds_toArray, List.set_cons_zero, List.set_cons_succ]
      refine wpAnyH_take (i := 8) (oi := { dst := some 99, op := .move (.tmp 107), type := TT, pos := pos, after := #[{ on := 7, ground := .data }], guard := none }) (v := .tuple #[m1.val, .bool bb]) rfl (by kernel_rfl) (by kernel_rfl) (by kernel_rfl) (fun _ _ _ h => h) (.inl ⟨by rfl, fun _ _ => rfl⟩) hHeld ?_
      simp only [Act.put, List.setIfInBounds_toArray, List.set_cons_zero, List.set_cons_succ]
      refine wpAnyH_take (i := 9) (oi := { dst := some 108, op := .extract (.tmp 99) 0, type := 37, pos := pos, after := #[{ on := 8, ground := .data }], guard := none }) (v := m1.val) rfl (by kernel_rfl) (by kernel_rfl) (by kernel_rfl) (fun _ _ _ h => h) (.inl ⟨by rfl, fun _ _ => rfl⟩) hHeld ?_
      simp only [Act.put, List.setIfInBounds_toArray, List.set_cons_zero, List.set_cons_succ]
      refine wpAnyH_take (i := 10) (oi := { dst := some 109, op := .extract (.tmp 99) 1, type := 4, pos := pos, after := #[{ on := 8, ground := .data }, { on := 12, ground := .gcOnly .lateStores }], guard := none }) (v := .bool bb) rfl (by kernel_rfl) (by kernel_rfl) (by kernel_rfl) (fun _ _ _ h => h) (.inl ⟨by rfl, fun _ _ => rfl⟩) hHeld ?_
      simp only [Act.put, List.setIfInBounds_toArray, List.set_cons_zero, List.set_cons_succ]
      refine wpAnyH_ready (rs := [11]) (by kernel_rfl) (by simp) ?_
      refine AllReadyH.cons (o := { dst := some 12, op := .alloc 37, type := 0, pos := pos, after := #[], guard := none }) rfl (fun K hK => ?_) AllReadyH.nil
      rw [if_pos (by rfl)]
      refine wp_allocMemZ rfl ?_
      have hl6 : Below V.heap.size V ((w5).alloc (.cells zeroM.cells 37)) := hl5.alloc hl5.size _
      refine hK.out _ _ hl6 (fun hHeld => ?_)
      simp only [Act.put, List.setIfInBounds_toArray, List.set_cons_zero, List.set_cons_succ]
      refine wpAnyH_ready (rs := [12]) (by kernel_rfl) (by simp) ?_
      refine AllReadyH.cons (o := { dst := none, op := .store 37 (.tmp 12) (.tmp 108), type := 0, pos := pos, after := #[{ on := 11, ground := .data }, { on := 9, ground := .data }, { on := 7, ground := .chain }, { on := 0, ground := .phase }, { on := 1, ground := .phase }, { on := 2, ground := .phase }, { on := 3, ground := .phase }, { on := 4, ground := .phase }, { on := 5, ground := .phase }, { on := 6, ground := .phase }, { on := 7, ground := .phase }, { on := 8, ground := .phase }, { on := 9, ground := .phase }, { on := 10, ground := .textOnly .lateStores }, { on := 11, ground := .phase }], guard := none }) rfl (fun K hK => ?_) AllReadyH.nil
      rw [if_pos (by rfl)]
      with_reducible refine wp_storeMemV (m := m1) (b := w5.heap.size) (.tmp 12) (.tmp 108) ?_ ?_ ?_ (newZ w5) ?_
      · rfl
      · simp [Act.eval]
      · simp [Act.eval]
      intro w8 HM8 hk8 hb8
      have hl8 : Below V.heap.size V w8 := hb8 _ _ hl6 (by exact hl5.size)
      refine hK.out _ _ hl8 (fun hHeld => ?_)
      simp only [Act.put]
      refine wpAnyH_take (i := 13) (oi := { dst := some 13, op := .assign (.tmp 109), type := 4, pos := pos, after := #[{ on := 10, ground := .data }, { on := 12, ground := .chain }, { on := 0, ground := .phase }, { on := 1, ground := .phase }, { on := 2, ground := .phase }, { on := 3, ground := .phase }, { on := 4, ground := .phase }, { on := 5, ground := .phase }, { on := 6, ground := .phase }, { on := 7, ground := .phase }, { on := 8, ground := .phase }, { on := 9, ground := .phase }, { on := 10, ground := .phase }, { on := 11, ground := .phase }, { on := 12, ground := .phase }], guard := none }) (v := .bool bb) rfl (by kernel_rfl) (by kernel_rfl) (by kernel_rfl) (fun _ _ _ h => h) (.inl ⟨by rfl, fun _ _ => rfl⟩) hHeld ?_
      simp only [Act.put, List.setIfInBounds_toArray, List.set_cons_zero, List.set_cons_succ]
      refine wpAnyH_done ?_ ?_ _
      · kernel_rfl
      · exact NoPanic.normal (hQ _ _ _ _ _ _ _ _ _ _ _ _ w8 hl8)
    · rw [if_pos (by rfl)]
      refine wp_allocMemZ rfl ?_
      have hl2 : Below V.heap.size V ((((V.drew).alloc (.cells #[.int .i64 A.1, .int .i64 A.2.1, .int .i64 A.2.2] 48))).alloc (.cells zeroM.cells 37)) := hl1.alloc hl1.size _
      refine hK.out _ _ hl2 (fun hHeld => ?_)
      simp only [Act.put, List.setIfInBounds_toArray, List.set_cons_zero, List.set_cons_succ]
      refine wpAnyH_ready (rs := [7]) (by kernel_rfl) (by simp) ?_
      refine AllReadyH.cons (o := { dst := some 107, op := .call { callee := .value (.func f), args := #[.tmp 100, .tmp 106], argTypes := #[37, 40] }, type := TT, pos := pos, after := #[{ on := 0, ground := .data }, { on := 6, ground := .data }], guard := none }) rfl (fun K hK => ?_) AllReadyH.nil
      rw [if_pos (by rfl)]
      refine wp_callGoE (args := #[m.val, .agg #[.int .i64 2, .slice (some ⟨V.drew.heap.size, 0, none⟩) 1 1]]) hf rfl (by simp [Act.eval]) (hC _ _ _ hl2 ((args_one _ A).to (one _ _))) ?_
      rintro _ w5 ⟨⟨m1, rfl⟩, hb5⟩
      have hl5 : Below V.heap.size V w5 := hl2.trans (hb5.mono hl2.size)
      refine hK.out _ _ hl5 (fun hHeld => ?_)
      simp only [Act.put, List.setIfInBounds_toArray, List.set_cons_zero, List.set_cons_succ]
      refine wpAnyH_take (i := 8) (oi := { dst := some 99, op := .move (.tmp 107), type := TT, pos := pos, after := #[{ on := 7, ground := .data }], guard := none }) (v := .tuple #[m1.val, .bool bb]) rfl (by kernel_rfl) (by kernel_rfl) (by kernel_rfl) (fun _ _ _ h => h) (.inl ⟨by rfl, fun _ _ => rfl⟩) hHeld ?_
      simp only [Act.put, List.setIfInBounds_toArray, List.set_cons_zero, List.set_cons_succ]
      refine wpAnyH_take (i := 9) (oi := { dst := some 108, op := .extract (.tmp 99) 0, type := 37, pos := pos, after := #[{ on := 8, ground := .data }], guard := none }) (v := m1.val) rfl (by kernel_rfl) (by kernel_rfl) (by kernel_rfl) (fun _ _ _ h => h) (.inl ⟨by rfl, fun _ _ => rfl⟩) hHeld ?_
      simp only [Act.put, List.setIfInBounds_toArray, List.set_cons_zero, List.set_cons_succ]
      refine wpAnyH_take (i := 10) (oi := { dst := some 109, op := .extract (.tmp 99) 1, type := 4, pos := pos, after := #[{ on := 8, ground := .data }, { on := 12, ground := .gcOnly .lateStores }], guard := none }) (v := .bool bb) rfl (by kernel_rfl) (by kernel_rfl) (by kernel_rfl) (fun _ _ _ h => h) (.inl ⟨by rfl, fun _ _ => rfl⟩) hHeld ?_
      simp only [Act.put, List.setIfInBounds_toArray, List.set_cons_zero, List.set_cons_succ]
      refine wpAnyH_ready (rs := [12]) (by kernel_rfl) (by simp) ?_
      refine AllReadyH.cons (o := { dst := none, op := .store 37 (.tmp 12) (.tmp 108), type := 0, pos := pos, after := #[{ on := 11, ground := .data }, { on := 9, ground := .data }, { on := 7, ground := .chain }, { on := 0, ground := .phase }, { on := 1, ground := .phase }, { on := 2, ground := .phase }, { on := 3, ground := .phase }, { on := 4, ground := .phase }, { on := 5, ground := .phase }, { on := 6, ground := .phase }, { on := 7, ground := .phase }, { on := 8, ground := .phase }, { on := 9, ground := .phase }, { on := 10, ground := .textOnly .lateStores }, { on := 11, ground := .phase }], guard := none }) rfl (fun K hK => ?_) AllReadyH.nil
      rw [if_pos (by rfl)]
      with_reducible refine wp_storeMemV (m := m1) (b := (World.heap ((V.drew).alloc (.cells #[.int .i64 A.1, .int .i64 A.2.1, .int .i64 A.2.2] 48))).size) (.tmp 12) (.tmp 108) ?_ ?_ ?_ (RowAt.to (newZ ((V.drew).alloc (.cells #[.int .i64 A.1, .int .i64 A.2.1, .int .i64 A.2.2] 48))) hb5) ?_
      · rfl
      · simp [Act.eval]
      · simp [Act.eval]
      intro w8 HM8 hk8 hb8
      have hl8 : Below V.heap.size V w8 := hb8 _ _ hl5 (by exact hl1.size)
      refine hK.out _ _ hl8 (fun hHeld => ?_)
      simp only [Act.put]
      refine wpAnyH_take (i := 13) (oi := { dst := some 13, op := .assign (.tmp 109), type := 4, pos := pos, after := #[{ on := 10, ground := .data }, { on := 12, ground := .chain }, { on := 0, ground := .phase }, { on := 1, ground := .phase }, { on := 2, ground := .phase }, { on := 3, ground := .phase }, { on := 4, ground := .phase }, { on := 5, ground := .phase }, { on := 6, ground := .phase }, { on := 7, ground := .phase }, { on := 8, ground := .phase }, { on := 9, ground := .phase }, { on := 10, ground := .phase }, { on := 11, ground := .phase }, { on := 12, ground := .phase }], guard := none }) (v := .bool bb) rfl (by kernel_rfl) (by kernel_rfl) (by kernel_rfl) (fun _ _ _ h => h) (.inl ⟨by rfl, fun _ _ => rfl⟩) hHeld ?_
      simp only [Act.put, List.setIfInBounds_toArray, List.set_cons_zero, List.set_cons_succ]
      refine wpAnyH_done ?_ ?_ _
      · kernel_rfl
      · exact NoPanic.normal (hQ _ _ _ _ _ _ _ _ _ _ _ _ w8 hl8)
  · rw [if_pos (by rfl)]
    refine wp_allocMemZ rfl ?_
    have hl1 : Below V.heap.size V ((V.drew).alloc (.cells zeroM.cells 37)) := (Below.refl V.heap.size V).drew.alloc (Below.refl V.heap.size V).drew.size _
    refine hK.out _ _ hl1 (fun hHeld => ?_)
    simp only [Act.put, List.setIfInBounds_toArray, List.set_cons_zero, List.set_cons_succ]
    refine wpAnyH_ready (rs := [5]) (by kernel_rfl) (by simp) ?_
    refine AllReadyH.cons (o := { dst := some 105, op := .buildSlice 38 1 #[(0, .tmp 104)], type := 38, pos := pos, after := #[{ on := 4, ground := .data }], guard := none }) rfl (fun K hK => ?_) AllReadyH.nil
    rw [if_pos (by rfl)]
    refine wp_buildArg (x := .tmp 104) (A := A) rfl (by simp [Act.eval]) ?_
    have hl2 : Below V.heap.size V ((((V.drew).alloc (.cells zeroM.cells 37))).alloc (.cells #[.int .i64 A.1, .int .i64 A.2.1, .int .i64 A.2.2] 48)) := hl1.alloc hl1.size _
    refine hK.out _ _ hl2 (fun hHeld => ?_)
    simp only [Act.put, List.setIfInBounds_toArray, List.set_cons_zero, List.set_cons_succ]
    refine wpAnyH_take (i := 6) (oi := { dst := some 106, op := .build 40 #[(0, .const (.int .i64 2)), (1, .tmp 105)], type := 40, pos := pos, after := #[{ on := 5, ground := .data }], guard := none }) (v := .agg #[.int .i64 2, .slice (some ⟨(World.heap ((V.drew).alloc (.cells zeroM.cells 37))).size, 0, none⟩) 1 1]) rfl (by kernel_rfl) (by kernel_rfl) (by kernel_rfl) (fun _ _ _ h => h) (.inl ⟨by rfl, fun _ _ => by simp [execOp, Act.eval, build_elem]⟩) hHeld ?_
    simp only [Act.put, List.setIfInBounds_toArray, List.set_cons_zero, List.set_cons_succ]
    refine wpAnyH_ready (rs := [7]) (by kernel_rfl) (by simp) ?_
    refine AllReadyH.cons (o := { dst := some 107, op := .call { callee := .value (.func f), args := #[.tmp 100, .tmp 106], argTypes := #[37, 40] }, type := TT, pos := pos, after := #[{ on := 0, ground := .data }, { on := 6, ground := .data }], guard := none }) rfl (fun K hK => ?_) AllReadyH.nil
    rw [if_pos (by rfl)]
    refine wp_callGoE (args := #[m.val, .agg #[.int .i64 2, .slice (some ⟨(World.heap ((V.drew).alloc (.cells zeroM.cells 37))).size, 0, none⟩) 1 1]]) hf rfl (by simp [Act.eval]) (hC _ _ _ hl2 (args_one _ A)) ?_
    rintro _ w5 ⟨⟨m1, rfl⟩, hb5⟩
    have hl5 : Below V.heap.size V w5 := hl2.trans (hb5.mono hl2.size)
    refine hK.out _ _ hl5 (fun hHeld => ?_)
    simp only [Act.put, List.setIfInBounds_toArray, List.set_cons_zero, List.set_cons_succ]
    refine wpAnyH_take (i := 8) (oi := { dst := some 99, op := .move (.tmp 107), type := TT, pos := pos, after := #[{ on := 7, ground := .data }], guard := none }) (v := .tuple #[m1.val, .bool bb]) rfl (by kernel_rfl) (by kernel_rfl) (by kernel_rfl) (fun _ _ _ h => h) (.inl ⟨by rfl, fun _ _ => rfl⟩) hHeld ?_
    simp only [Act.put, List.setIfInBounds_toArray, List.set_cons_zero, List.set_cons_succ]
    refine wpAnyH_take (i := 9) (oi := { dst := some 108, op := .extract (.tmp 99) 0, type := 37, pos := pos, after := #[{ on := 8, ground := .data }], guard := none }) (v := m1.val) rfl (by kernel_rfl) (by kernel_rfl) (by kernel_rfl) (fun _ _ _ h => h) (.inl ⟨by rfl, fun _ _ => rfl⟩) hHeld ?_
    simp only [Act.put, List.setIfInBounds_toArray, List.set_cons_zero, List.set_cons_succ]
    refine wpAnyH_take (i := 10) (oi := { dst := some 109, op := .extract (.tmp 99) 1, type := 4, pos := pos, after := #[{ on := 8, ground := .data }, { on := 12, ground := .gcOnly .lateStores }], guard := none }) (v := .bool bb) rfl (by kernel_rfl) (by kernel_rfl) (by kernel_rfl) (fun _ _ _ h => h) (.inl ⟨by rfl, fun _ _ => rfl⟩) hHeld ?_
    simp only [Act.put, List.setIfInBounds_toArray, List.set_cons_zero, List.set_cons_succ]
    refine wpAnyH_ready (rs := [12]) (by kernel_rfl) (by simp) ?_
    refine AllReadyH.cons (o := { dst := none, op := .store 37 (.tmp 12) (.tmp 108), type := 0, pos := pos, after := #[{ on := 11, ground := .data }, { on := 9, ground := .data }, { on := 7, ground := .chain }, { on := 0, ground := .phase }, { on := 1, ground := .phase }, { on := 2, ground := .phase }, { on := 3, ground := .phase }, { on := 4, ground := .phase }, { on := 5, ground := .phase }, { on := 6, ground := .phase }, { on := 7, ground := .phase }, { on := 8, ground := .phase }, { on := 9, ground := .phase }, { on := 10, ground := .textOnly .lateStores }, { on := 11, ground := .phase }], guard := none }) rfl (fun K hK => ?_) AllReadyH.nil
    rw [if_pos (by rfl)]
    with_reducible refine wp_storeMemV (m := m1) (b := V.drew.heap.size) (.tmp 12) (.tmp 108) ?_ ?_ ?_ (RowAt.to (RowAt.alloc (newZ V.drew) _) hb5) ?_
    · rfl
    · simp [Act.eval]
    · simp [Act.eval]
    intro w8 HM8 hk8 hb8
    have hl8 : Below V.heap.size V w8 := hb8 _ _ hl5 (by exact (Below.refl V.heap.size V).drew.size)
    refine hK.out _ _ hl8 (fun hHeld => ?_)
    simp only [Act.put]
    refine wpAnyH_take (i := 13) (oi := { dst := some 13, op := .assign (.tmp 109), type := 4, pos := pos, after := #[{ on := 10, ground := .data }, { on := 12, ground := .chain }, { on := 0, ground := .phase }, { on := 1, ground := .phase }, { on := 2, ground := .phase }, { on := 3, ground := .phase }, { on := 4, ground := .phase }, { on := 5, ground := .phase }, { on := 6, ground := .phase }, { on := 7, ground := .phase }, { on := 8, ground := .phase }, { on := 9, ground := .phase }, { on := 10, ground := .phase }, { on := 11, ground := .phase }, { on := 12, ground := .phase }], guard := none }) (v := .bool bb) rfl (by kernel_rfl) (by kernel_rfl) (by kernel_rfl) (fun _ _ _ h => h) (.inl ⟨by rfl, fun _ _ => rfl⟩) hHeld ?_
    simp only [Act.put, List.setIfInBounds_toArray, List.set_cons_zero, List.set_cons_succ]
    refine wpAnyH_done ?_ ?_ _
    · kernel_rfl
    · exact NoPanic.normal (hQ _ _ _ _ _ _ _ _ _ _ _ _ w8 hl8)

end Go.Proofs.YtmgjngihngddfaaGreatDoor
