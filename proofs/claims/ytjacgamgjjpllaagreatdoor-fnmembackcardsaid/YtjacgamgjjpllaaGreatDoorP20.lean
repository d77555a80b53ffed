/- A value put into a device of numbers: the drawn regions of memWithDevice. Helper text: no statement is claimed here. -/
import Derived.Test.YtjacgamgjjpllaaGreatDoorP14
import Derived.Test.YtjacgamgjjpllaaGreatDoorP19
import Derived.Test.YtjacgamgjjpllaaGreatDoorP04
import Derived.Test.YtjacgamgjjpllaaGreatDoorP06
namespace Go.Proofs.YtjacgamgjjpllaaGreatDoor
open Go.ChangeShapes Go.WideShapes Go.ChangeAt Go.RowKit Fl

theorem yields_intX {ops : Array Oper} {S : World → Prop} {op : Oper} {a : Act} {b o : Nat} {v : Int} (hw : Region.wanted op (yielded ops a.tmps) = true) (x : Operand) (ho : op.op = .load 3 x) (hx : a.eval x = .pointer (some ⟨b, o, none⟩))
    (hS : ∀ w, S w → w.cell? ⟨b, o, none⟩ = some (.int .i64 v)) : YieldsIf Tryz.prog ops S op (.int .i64 v) a :=
  .inl ⟨hw, fun w h => by
    unfold execOp
    simp only [ho, hx, Instr.loadAt, Instr.sureAddr, Sem.run_bind, Sem.run_pure, Result.andThen_ok]
    simp [go_sem, hS w h]⟩
theorem wp_storeFloatX {o : Oper} {a : Act} {w : World} {K : Act → World → Prop} {Q : Exit → Act → World → Prop} {b k x0 y : Nat} (x z : Operand) (ho : o.op = .store 34 x z) (hx : a.eval x = .pointer (some ⟨b, k, none⟩)) (hz : a.eval z = .float .f64 y)
    (c0 : w.cell? ⟨b, k, none⟩ = some (.float .f64 x0)) (f0 : w.frozen? ⟨b, k, none⟩ = false) (hk : K (a.put o.dst undef) (w.setCell ⟨b, k, none⟩ (.float .f64 y))) : o.wp Tryz.prog a w K Q := by
  have hv : (storeVar 34 ⟨b, k, none⟩ (.float .f64 y)).run Tryz.prog w = .ok () (w.setCell ⟨b, k, none⟩ (.float .f64 y)) := by
    simp [go_sem, store_float2, c0, f0]
  unfold Oper.wp execOp
  rw [ho]
  simp only [hx, hz, Instr.storeAt, Instr.sureAddr, Sem.run_bind, Sem.run_pure, Result.andThen_ok, hv]
  exact hk
set_option maxHeartbeats 1000000 in
set_option maxRecDepth 100000 in
theorem timer_region {id : Nat} {pos : String} {Q : Exit → Act → World → Prop} {V : World} {t0 t1 t5 t6 t7 t8 t9 t10 t11 t12 t13 t14 t15 t16 t17 t18 t19 t20 t21 t22 t23 t24 t25 t26 t27 t28 t29 t30 t31 t32 t33 t34 t35 t36 t37 t38 t39 t40 t41 t42 t43 t44 t45 t46 t47 t48 t49 t50 t51 t52 t53 t54 : Value} {bM bE i : Nat} {s : ByteArray} {m : Mm} {D : List _} {R : (Nat → Value) → (Nat → Value) → Prop}
    (hM : MemAt V bM m) (h0 : V.cell? ⟨bE, 1, none⟩ = some (.int .i64 (i : Int))) (hne : bE ≠ bM) (hi : i < 16)
    (hC : ∀ W, Below V.heap.size V W → Calls Tryz.prog 92 #[.string s] W fun e w' => ∃ v, e = .returned v ∧ (∃ g m', v = .agg (cellsOf 2 g) ∧ (∀ j, j < 2 → (g j).oneCell' = true) ∧ (∀ j, j < 136 → m' j = if 5 + i * 2 ≤ j ∧ j < 5 + i * 2 + 2 then g (j - (5 + i * 2)) else m.cell j) ∧ R g m') ∧ Below W.heap.size W w')
    (hQ : ∀ (u16 u17 u18 u19 u20 u21 : Value) (g m' : Nat → Value) (w' : World), R g m' → RowAt w' bM 37 136 m' → (∀ B x, Below B x V → B ≤ bM → Below B x w') → (∀ b, b < V.heap.size → b ≠ bM → w'.heap[b]? = V.heap[b]?) → Q .normal { tmps := #[t0, t1, .string s, .pointer (some ⟨bM, 0, none⟩), .pointer (some ⟨bE, 0, none⟩), t5, t6, t7, t8, t9, t10, t11, t12, t13, t14, t15, u16, u17, u18, u19, u20, u21, t22, t23, t24, t25, t26, t27, t28, t29, t30, t31, t32, t33, t34, t35, t36, t37, t38, t39, t40, t41, t42, t43, t44, t45, t46, t47, t48, t49, t50, t51, t52, t53, t54], defers := D } w') :
    (Code.region id #[{ dst := some 16, op := .fieldAddr 71 (.tmp 4) 1, type := 0, pos := pos, after := #[], guard := none }, { dst := some 17, op := .load 3 (.tmp 16), type := 3, pos := pos, after := #[{ on := 0, ground := .data }], guard := none }, { dst := some 18, op := .move (.tmp 2), type := 9, pos := pos, after := #[], guard := none }, { dst := some 19, op := .call { callee := .value (.func 92), args := #[.tmp 18], argTypes := #[9] }, type := 27, pos := pos, after := #[{ on := 2, ground := .data }], guard := none }, { dst := some 20, op := .fieldAddr 37 (.tmp 3) 5, type := 0, pos := pos, after := #[], guard := none }, { dst := some 21, op := .indexAddr 28 (.tmp 20) (.tmp 17), type := 0, pos := pos, after := #[{ on := 4, ground := .data }, { on := 1, ground := .data }, { on := 0, ground := .phase }, { on := 1, ground := .phase }, { on := 2, ground := .phase }, { on := 3, ground := .phase }], guard := none }, { dst := none, op := .store 27 (.tmp 21) (.tmp 19), type := 0, pos := pos, after := #[{ on := 5, ground := .data }, { on := 3, ground := .data }, { on := 3, ground := .chain }, { on := 0, ground := .phase }, { on := 1, ground := .phase }, { on := 2, ground := .phase }, { on := 3, ground := .phase }], guard := none }] true).wp Tryz.prog Q { tmps := #[t0, t1, .string s, .pointer (some ⟨bM, 0, none⟩), .pointer (some ⟨bE, 0, none⟩), t5, t6, t7, t8, t9, t10, t11, t12, t13, t14, t15, t16, t17, t18, t19, t20, t21, t22, t23, t24, t25, t26, t27, t28, t29, t30, t31, t32, t33, t34, t35, t36, t37, t38, t39, t40, t41, t42, t43, t44, t45, t46, t47, t48, t49, t50, t51, t52, t53, t54], defers := D } V := by
  have hi' : (i : Int) < 16 := by omega
  refine wp_region_noPanic ?_
  refine wp_region_held_drew (S := fun W => W.cell? ⟨bE, 1, none⟩ = some (.int .i64 (i : Int))) (by kernel_rfl) h0 (fun hHeld => ?_)
  refine wpAnyH_take (i := 0) (oi := { dst := some 16, op := .fieldAddr 71 (.tmp 4) 1, type := 0, pos := pos, after := #[], guard := none }) (v := .pointer (some ⟨bE, 1, none⟩)) rfl (by kernel_rfl) (by kernel_rfl) (by kernel_rfl) (fun _ _ _ h => h) (.inl ⟨by rfl, fun _ _ => rfl⟩) hHeld ?_
  simp only [Act.put, List.setIfInBounds_toArray, List.set_cons_zero, List.set_cons_succ]
  refine wpAnyH_take (i := 1) (oi := { dst := some 17, op := .load 3 (.tmp 16), type := 3, pos := pos, after := #[{ on := 0, ground := .data }], guard := none }) (v := .int .i64 (i : Int)) rfl (by kernel_rfl) (by kernel_rfl) (by kernel_rfl) (fun _ _ _ h => h) (yields_intX (by rfl) (.tmp 16) rfl rfl (fun W h => h)) hHeld ?_
  simp only [Act.put, List.setIfInBounds_toArray, List.set_cons_zero, List.set_cons_succ]
  refine wpAnyH_take (i := 2) (oi := { dst := some 18, op := .move (.tmp 2), type := 9, pos := pos, after := #[], guard := none }) (v := .string s) rfl (by kernel_rfl) (by kernel_rfl) (by kernel_rfl) (fun _ _ _ h => h) (.inl ⟨by rfl, fun _ _ => rfl⟩) hHeld ?_
  simp only [Act.put, List.setIfInBounds_toArray, List.set_cons_zero, List.set_cons_succ]
  refine wpAnyH_take (i := 4) (oi := { dst := some 20, op := .fieldAddr 37 (.tmp 3) 5, type := 0, pos := pos, after := #[], guard := none }) (v := .pointer (some ⟨bM, 5, none⟩)) rfl (by kernel_rfl) (by kernel_rfl) (by kernel_rfl) (fun _ _ _ h => h) (.inl ⟨by rfl, fun _ _ => rfl⟩) hHeld ?_
  simp only [Act.put, List.setIfInBounds_toArray, List.set_cons_zero, List.set_cons_succ]
  refine wpAnyH_ready (rs := [3]) (by kernel_rfl) (by simp) ?_
  refine AllReadyH.cons (o := { dst := some 19, op := .call { callee := .value (.func 92), args := #[.tmp 18], argTypes := #[9] }, type := 27, pos := pos, after := #[{ on := 2, ground := .data }], guard := none }) rfl (fun K hK => ?_) AllReadyH.nil
  rw [if_pos (by rfl)]
  refine wp_callEx (args := #[.string s]) (R := fun v w' => (∃ g m', v = .agg (cellsOf 2 g) ∧ (∀ j, j < 2 → (g j).oneCell' = true) ∧ (∀ j, j < 136 → m' j = if 5 + i * 2 ≤ j ∧ j < 5 + i * 2 + 2 then g (j - (5 + i * 2)) else m.cell j) ∧ R g m') ∧ Below (World.heap V.drew).size V.drew w') Tryz.call92 rfl (by simp [Act.eval]) (hC _ (Below.refl V.heap.size V).drew) ?_
  rintro _ w1 ⟨⟨g, m', rfl, hg1, hgm, hR'⟩, hb1⟩
  have hl1 : Below V.heap.size V w1 := (Below.refl V.heap.size V).drew.trans (hb1.mono (Below.refl V.heap.size V).drew.size)
  have hA1 : w1.cell? ⟨bE, 1, none⟩ = some (.int .i64 (i : Int)) := (hl1.cell (p := ⟨bE, 1, none⟩) (World.block_lt_of_cell? V ⟨bE, 1, none⟩ h0)).trans h0
  refine hK.out _ _ hA1 (fun hHeld => ?_)
  simp only [Act.put, List.setIfInBounds_toArray, List.set_cons_zero, List.set_cons_succ]
  refine wpAnyH_take (i := 5) (oi := { dst := some 21, op := .indexAddr 28 (.tmp 20) (.tmp 17), type := 0, pos := pos, after := #[{ on := 4, ground := .data }, { on := 1, ground := .data }, { on := 0, ground := .phase }, { on := 1, ground := .phase }, { on := 2, ground := .phase }, { on := 3, ground := .phase }], guard := none }) (v := .pointer (some ⟨bM, 5 + i * 2, none⟩)) rfl (by kernel_rfl) (by kernel_rfl) (by kernel_rfl) (fun _ _ _ h => h) (.inl ⟨by rfl, fun _ _ => by simp [execOp, Act.eval, go_sem, Tryz.underlying28, hi']⟩) hHeld ?_
  simp only [Act.put, List.setIfInBounds_toArray, List.set_cons_zero, List.set_cons_succ]
  refine wpAnyH_ready (rs := [6]) (by kernel_rfl) (by simp) ?_
  refine AllReadyH.cons (o := { dst := none, op := .store 27 (.tmp 21) (.tmp 19), type := 0, pos := pos, after := #[{ on := 5, ground := .data }, { on := 3, ground := .data }, { on := 3, ground := .chain }, { on := 0, ground := .phase }, { on := 1, ground := .phase }, { on := 2, ground := .phase }, { on := 3, ground := .phase }], guard := none }) rfl (fun K hK => ?_) AllReadyH.nil
  rw [if_pos (by rfl)]
  have hlt := hM.lt
  with_reducible refine wp_storeRowX (n := 136) (t := 37) (f := m.cell) 27 (.tmp 21) (.tmp 19) ?_ bM (5 + i * 2) 2 g m' ?_ ?_ (hM.to hl1) ?_ ?_ ?_ ?_ ?_
  · rfl
  · simp [Act.eval]
  · simp [Act.eval]
  · omega
  · exact hg1
  · exact hgm
  · kernel_rfl
  intro w2 HM2 hz2 hk2 hb2
  have hA2 : w2.cell? ⟨bE, 1, none⟩ = some (.int .i64 (i : Int)) := (World.cell?_of_block (w := w1) (a := ⟨bE, 1, none⟩) (hk2 bE hne)).trans hA1
  refine hK.out _ _ hA2 (fun hHeld => ?_)
  simp only [Act.put]
  have hd := fun u16 u17 u18 u19 u20 u21 => hQ u16 u17 u18 u19 u20 u21 g m' w2 hR' HM2 (fun B x hx hB => hb2 _ _ (hx.trans (hl1.mono (by omega))) hB) (fun b hb hne => (hk2 b hne).trans (hl1.block b hb))
  refine wpAnyH_done ?_ ?_ _
  · kernel_rfl
  · exact NoPanic.normal (hd _ _ _ _ _ _)
set_option maxHeartbeats 1000000 in
set_option maxRecDepth 100000 in
theorem count_region {id : Nat} {pos : String} {Q : Exit → Act → World → Prop} {V : World} {t0 t1 t5 t6 t7 t8 t9 t10 t11 t12 t13 t14 t15 t16 t17 t18 t19 t20 t21 t22 t23 t24 t25 t26 t27 t28 t29 t30 t31 t32 t33 t34 t35 t36 t37 t38 t39 t40 t41 t42 t43 t44 t45 t46 t47 t48 t49 t50 t51 t52 t53 t54 : Value} {bM bE i : Nat} {s : ByteArray} {m : Mm} {D : List _} {R : (Nat → Value) → (Nat → Value) → Prop}
    (hM : MemAt V bM m) (h0 : V.cell? ⟨bE, 1, none⟩ = some (.int .i64 (i : Int))) (hne : bE ≠ bM) (hi : i < 16)
    (hC : ∀ W, Below V.heap.size V W → Calls Tryz.prog 93 #[.string s] W fun e w' => ∃ v, e = .returned v ∧ (∃ g m', v = .agg (cellsOf 3 g) ∧ (∀ j, j < 3 → (g j).oneCell' = true) ∧ (∀ j, j < 136 → m' j = if 37 + i * 3 ≤ j ∧ j < 37 + i * 3 + 3 then g (j - (37 + i * 3)) else m.cell j) ∧ R g m') ∧ Below W.heap.size W w')
    (hQ : ∀ (u24 u25 u26 u27 u28 u29 : Value) (g m' : Nat → Value) (w' : World), R g m' → RowAt w' bM 37 136 m' → (∀ B x, Below B x V → B ≤ bM → Below B x w') → (∀ b, b < V.heap.size → b ≠ bM → w'.heap[b]? = V.heap[b]?) → Q .normal { tmps := #[t0, t1, .string s, .pointer (some ⟨bM, 0, none⟩), .pointer (some ⟨bE, 0, none⟩), t5, t6, t7, t8, t9, t10, t11, t12, t13, t14, t15, t16, t17, t18, t19, t20, t21, t22, t23, u24, u25, u26, u27, u28, u29, t30, t31, t32, t33, t34, t35, t36, t37, t38, t39, t40, t41, t42, t43, t44, t45, t46, t47, t48, t49, t50, t51, t52, t53, t54], defers := D } w') :
    (Code.region id #[{ dst := some 24, op := .fieldAddr 71 (.tmp 4) 1, type := 0, pos := pos, after := #[], guard := none }, { dst := some 25, op := .load 3 (.tmp 24), type := 3, pos := pos, after := #[{ on := 0, ground := .data }], guard := none }, { dst := some 26, op := .move (.tmp 2), type := 9, pos := pos, after := #[], guard := none }, { dst := some 27, op := .call { callee := .value (.func 93), args := #[.tmp 26], argTypes := #[9] }, type := 30, pos := pos, after := #[{ on := 2, ground := .data }], guard := none }, { dst := some 28, op := .fieldAddr 37 (.tmp 3) 6, type := 0, pos := pos, after := #[], guard := none }, { dst := some 29, op := .indexAddr 31 (.tmp 28) (.tmp 25), type := 0, pos := pos, after := #[{ on := 4, ground := .data }, { on := 1, ground := .data }, { on := 0, ground := .phase }, { on := 1, ground := .phase }, { on := 2, ground := .phase }, { on := 3, ground := .phase }], guard := none }, { dst := none, op := .store 30 (.tmp 29) (.tmp 27), type := 0, pos := pos, after := #[{ on := 5, ground := .data }, { on := 3, ground := .data }, { on := 3, ground := .chain }, { on := 0, ground := .phase }, { on := 1, ground := .phase }, { on := 2, ground := .phase }, { on := 3, ground := .phase }], guard := none }] true).wp Tryz.prog Q { tmps := #[t0, t1, .string s, .pointer (some ⟨bM, 0, none⟩), .pointer (some ⟨bE, 0, none⟩), t5, t6, t7, t8, t9, t10, t11, t12, t13, t14, t15, t16, t17, t18, t19, t20, t21, t22, t23, t24, t25, t26, t27, t28, t29, t30, t31, t32, t33, t34, t35, t36, t37, t38, t39, t40, t41, t42, t43, t44, t45, t46, t47, t48, t49, t50, t51, t52, t53, t54], defers := D } V := by
  have hi' : (i : Int) < 16 := by omega
  refine wp_region_noPanic ?_
  refine wp_region_held_drew (S := fun W => W.cell? ⟨bE, 1, none⟩ = some (.int .i64 (i : Int))) (by kernel_rfl) h0 (fun hHeld => ?_)
  refine wpAnyH_take (i := 0) (oi := { dst := some 24, op := .fieldAddr 71 (.tmp 4) 1, type := 0, pos := pos, after := #[], guard := none }) (v := .pointer (some ⟨bE, 1, none⟩)) rfl (by kernel_rfl) (by kernel_rfl) (by kernel_rfl) (fun _ _ _ h => h) (.inl ⟨by rfl, fun _ _ => rfl⟩) hHeld ?_
  simp only [Act.put, List.setIfInBounds_toArray, List.set_cons_zero, List.set_cons_succ]
  refine wpAnyH_take (i := 1) (oi := { dst := some 25, op := .load 3 (.tmp 24), type := 3, pos := pos, after := #[{ on := 0, ground := .data }], guard := none }) (v := .int .i64 (i : Int)) rfl (by kernel_rfl) (by kernel_rfl) (by kernel_rfl) (fun _ _ _ h => h) (yields_intX (by rfl) (.tmp 24) rfl rfl (fun W h => h)) hHeld ?_
  simp only [Act.put, List.setIfInBounds_toArray, List.set_cons_zero, List.set_cons_succ]
  refine wpAnyH_take (i := 2) (oi := { dst := some 26, op := .move (.tmp 2), type := 9, pos := pos, after := #[], guard := none }) (v := .string s) rfl (by kernel_rfl) (by kernel_rfl) (by kernel_rfl) (fun _ _ _ h => h) (.inl ⟨by rfl, fun _ _ => rfl⟩) hHeld ?_
  simp only [Act.put, List.setIfInBounds_toArray, List.set_cons_zero, List.set_cons_succ]
  refine wpAnyH_take (i := 4) (oi := { dst := some 28, op := .fieldAddr 37 (.tmp 3) 6, type := 0, pos := pos, after := #[], guard := none }) (v := .pointer (some ⟨bM, 37, none⟩)) rfl (by kernel_rfl) (by kernel_rfl) (by kernel_rfl) (fun _ _ _ h => h) (.inl ⟨by rfl, fun _ _ => rfl⟩) hHeld ?_
  simp only [Act.put, List.setIfInBounds_toArray, List.set_cons_zero, List.set_cons_succ]
  refine wpAnyH_ready (rs := [3]) (by kernel_rfl) (by simp) ?_
  refine AllReadyH.cons (o := { dst := some 27, op := .call { callee := .value (.func 93), args := #[.tmp 26], argTypes := #[9] }, type := 30, pos := pos, after := #[{ on := 2, ground := .data }], guard := none }) rfl (fun K hK => ?_) AllReadyH.nil
  rw [if_pos (by rfl)]
  refine wp_callEx (args := #[.string s]) (R := fun v w' => (∃ g m', v = .agg (cellsOf 3 g) ∧ (∀ j, j < 3 → (g j).oneCell' = true) ∧ (∀ j, j < 136 → m' j = if 37 + i * 3 ≤ j ∧ j < 37 + i * 3 + 3 then g (j - (37 + i * 3)) else m.cell j) ∧ R g m') ∧ Below (World.heap V.drew).size V.drew w') Tryz.call93 rfl (by simp [Act.eval]) (hC _ (Below.refl V.heap.size V).drew) ?_
  rintro _ w1 ⟨⟨g, m', rfl, hg1, hgm, hR'⟩, hb1⟩
  have hl1 : Below V.heap.size V w1 := (Below.refl V.heap.size V).drew.trans (hb1.mono (Below.refl V.heap.size V).drew.size)
  have hA1 : w1.cell? ⟨bE, 1, none⟩ = some (.int .i64 (i : Int)) := (hl1.cell (p := ⟨bE, 1, none⟩) (World.block_lt_of_cell? V ⟨bE, 1, none⟩ h0)).trans h0
  refine hK.out _ _ hA1 (fun hHeld => ?_)
  simp only [Act.put, List.setIfInBounds_toArray, List.set_cons_zero, List.set_cons_succ]
  refine wpAnyH_take (i := 5) (oi := { dst := some 29, op := .indexAddr 31 (.tmp 28) (.tmp 25), type := 0, pos := pos, after := #[{ on := 4, ground := .data }, { on := 1, ground := .data }, { on := 0, ground := .phase }, { on := 1, ground := .phase }, { on := 2, ground := .phase }, { on := 3, ground := .phase }], guard := none }) (v := .pointer (some ⟨bM, 37 + i * 3, none⟩)) rfl (by kernel_rfl) (by kernel_rfl) (by kernel_rfl) (fun _ _ _ h => h) (.inl ⟨by rfl, fun _ _ => by simp [execOp, Act.eval, go_sem, Tryz.underlying31, hi']⟩) hHeld ?_
  simp only [Act.put, List.setIfInBounds_toArray, List.set_cons_zero, List.set_cons_succ]
  refine wpAnyH_ready (rs := [6]) (by kernel_rfl) (by simp) ?_
  refine AllReadyH.cons (o := { dst := none, op := .store 30 (.tmp 29) (.tmp 27), type := 0, pos := pos, after := #[{ on := 5, ground := .data }, { on := 3, ground := .data }, { on := 3, ground := .chain }, { on := 0, ground := .phase }, { on := 1, ground := .phase }, { on := 2, ground := .phase }, { on := 3, ground := .phase }], guard := none }) rfl (fun K hK => ?_) AllReadyH.nil
  rw [if_pos (by rfl)]
  have hlt := hM.lt
  with_reducible refine wp_storeRowX (n := 136) (t := 37) (f := m.cell) 30 (.tmp 29) (.tmp 27) ?_ bM (37 + i * 3) 3 g m' ?_ ?_ (hM.to hl1) ?_ ?_ ?_ ?_ ?_
  · rfl
  · simp [Act.eval]
  · simp [Act.eval]
  · omega
  · exact hg1
  · exact hgm
  · kernel_rfl
  intro w2 HM2 hz2 hk2 hb2
  have hA2 : w2.cell? ⟨bE, 1, none⟩ = some (.int .i64 (i : Int)) := (World.cell?_of_block (w := w1) (a := ⟨bE, 1, none⟩) (hk2 bE hne)).trans hA1
  refine hK.out _ _ hA2 (fun hHeld => ?_)
  simp only [Act.put]
  have hd := fun u24 u25 u26 u27 u28 u29 => hQ u24 u25 u26 u27 u28 u29 g m' w2 hR' HM2 (fun B x hx hB => hb2 _ _ (hx.trans (hl1.mono (by omega))) hB) (fun b hb hne => (hk2 b hne).trans (hl1.block b hb))
  refine wpAnyH_done ?_ ?_ _
  · kernel_rfl
  · exact NoPanic.normal (hd _ _ _ _ _ _)
set_option maxHeartbeats 1000000 in
set_option maxRecDepth 100000 in
theorem real_region {id : Nat} {pos : String} {Q : Exit → Act → World → Prop} {V : World} {t0 t1 t5 t6 t7 t8 t9 t10 t11 t12 t13 t14 t15 t16 t17 t18 t19 t20 t21 t22 t23 t24 t25 t26 t27 t28 t29 t30 t31 t32 t33 t34 t35 t36 t37 t38 t39 t40 t41 t42 t43 t44 t45 t46 t47 t48 t49 t50 t51 t52 t53 t54 : Value} {bM bE i : Nat} {s : ByteArray} {m : Mm} {D : List _} {R : Nat → Prop}
    (hM : MemAt V bM m) (h0 : V.cell? ⟨bE, 1, none⟩ = some (.int .i64 (i : Int))) (hne : bE ≠ bM) (hi : i < 16)
    (hC : ∀ W, Below V.heap.size V W → Calls Tryz.prog 95 #[.string s] W fun e w' => ∃ v, e = .returned v ∧ (∃ (x : Nat) (b : Bool), v = .tuple #[.float .f64 x, .bool b] ∧ R x) ∧ Below W.heap.size W w')
    (hQ : ∀ (u45 u46 u47 u48 u49 u50 u51 u52 u53 : Value) (x : Nat) (w' : World), R x → MemAt w' bM (m.setR i x) → (∀ B x, Below B x V → B ≤ bM → Below B x w') → (∀ b, b < V.heap.size → b ≠ bM → w'.heap[b]? = V.heap[b]?) → Q .normal { tmps := #[t0, t1, .string s, .pointer (some ⟨bM, 0, none⟩), .pointer (some ⟨bE, 0, none⟩), t5, t6, t7, t8, t9, t10, t11, t12, t13, t14, t15, t16, t17, t18, t19, t20, t21, t22, t23, t24, t25, t26, t27, t28, t29, t30, t31, t32, t33, t34, t35, t36, t37, t38, t39, t40, t41, t42, t43, t44, u45, u46, u47, u48, u49, u50, u51, u52, u53, t54], defers := D } w') :
    (Code.region id #[{ dst := some 46, op := .fieldAddr 71 (.tmp 4) 1, type := 0, pos := pos, after := #[], guard := none }, { dst := some 47, op := .load 3 (.tmp 46), type := 3, pos := pos, after := #[{ on := 0, ground := .data }], guard := none }, { dst := some 48, op := .move (.tmp 2), type := 9, pos := pos, after := #[], guard := none }, { dst := some 49, op := .call { callee := .value (.func 95), args := #[.tmp 48], argTypes := #[9] }, type := 131, pos := pos, after := #[{ on := 2, ground := .data }], guard := none }, { dst := some 45, op := .move (.tmp 49), type := 131, pos := pos, after := #[{ on := 3, ground := .data }], guard := none }, { dst := some 50, op := .extract (.tmp 45) 0, type := 34, pos := pos, after := #[{ on := 4, ground := .data }], guard := none }, { dst := some 51, op := .extract (.tmp 45) 1, type := 4, pos := pos, after := #[{ on := 4, ground := .data }, { on := 9, ground := .gcOnly .lateStores }], guard := none }, { dst := some 52, op := .fieldAddr 37 (.tmp 3) 8, type := 0, pos := pos, after := #[], guard := none }, { dst := some 53, op := .indexAddr 35 (.tmp 52) (.tmp 47), type := 0, pos := pos, after := #[{ on := 7, ground := .data }, { on := 1, ground := .data }, { on := 0, ground := .phase }, { on := 1, ground := .phase }, { on := 2, ground := .phase }, { on := 3, ground := .phase }, { on := 4, ground := .phase }, { on := 5, ground := .phase }, { on := 6, ground := .textOnly .lateStores }], guard := none }, { dst := none, op := .store 34 (.tmp 53) (.tmp 50), type := 0, pos := pos, after := #[{ on := 8, ground := .data }, { on := 5, ground := .data }, { on := 3, ground := .chain }, { on := 0, ground := .phase }, { on := 1, ground := .phase }, { on := 2, ground := .phase }, { on := 3, ground := .phase }, { on := 4, ground := .phase }, { on := 5, ground := .phase }, { on := 6, ground := .textOnly .lateStores }], guard := none }] true).wp Tryz.prog Q { tmps := #[t0, t1, .string s, .pointer (some ⟨bM, 0, none⟩), .pointer (some ⟨bE, 0, none⟩), t5, t6, t7, t8, t9, t10, t11, t12, t13, t14, t15, t16, t17, t18, t19, t20, t21, t22, t23, t24, t25, t26, t27, t28, t29, t30, t31, t32, t33, t34, t35, t36, t37, t38, t39, t40, t41, t42, t43, t44, t45, t46, t47, t48, t49, t50, t51, t52, t53, t54], defers := D } V := by
  have hi' : (i : Int) < 16 := by omega
  refine wp_region_noPanic ?_
  refine wp_region_held_drew (S := fun W => W.cell? ⟨bE, 1, none⟩ = some (.int .i64 (i : Int))) (by kernel_rfl) h0 (fun hHeld => ?_)
  refine wpAnyH_take (i := 0) (oi := { dst := some 46, op := .fieldAddr 71 (.tmp 4) 1, type := 0, pos := pos, after := #[], guard := none }) (v := .pointer (some ⟨bE, 1, none⟩)) rfl (by kernel_rfl) (by kernel_rfl) (by kernel_rfl) (fun _ _ _ h => h) (.inl ⟨by rfl, fun _ _ => rfl⟩) hHeld ?_
  simp only [Act.put, List.setIfInBounds_toArray, List.set_cons_zero, List.set_cons_succ]
  refine wpAnyH_take (i := 1) (oi := { dst := some 47, op := .load 3 (.tmp 46), type := 3, pos := pos, after := #[{ on := 0, ground := .data }], guard := none }) (v := .int .i64 (i : Int)) rfl (by kernel_rfl) (by kernel_rfl) (by kernel_rfl) (fun _ _ _ h => h) (yields_intX (by rfl) (.tmp 46) rfl rfl (fun W h => h)) hHeld ?_
  simp only [Act.put, List.setIfInBounds_toArray, List.set_cons_zero, List.set_cons_succ]
  refine wpAnyH_take (i := 2) (oi := { dst := some 48, op := .move (.tmp 2), type := 9, pos := pos, after := #[], guard := none }) (v := .string s) rfl (by kernel_rfl) (by kernel_rfl) (by kernel_rfl) (fun _ _ _ h => h) (.inl ⟨by rfl, fun _ _ => rfl⟩) hHeld ?_
  simp only [Act.put, List.setIfInBounds_toArray, List.set_cons_zero, List.set_cons_succ]
  refine wpAnyH_take (i := 7) (oi := { dst := some 52, op := .fieldAddr 37 (.tmp 3) 8, type := 0, pos := pos, after := #[], guard := none }) (v := .pointer (some ⟨bM, 117, none⟩)) rfl (by kernel_rfl) (by kernel_rfl) (by kernel_rfl) (fun _ _ _ h => h) (.inl ⟨by rfl, fun _ _ => rfl⟩) hHeld ?_
  simp only [Act.put, List.setIfInBounds_toArray, List.set_cons_zero, List.set_cons_succ]
  refine wpAnyH_ready (rs := [3]) (by kernel_rfl) (by simp) ?_
  refine AllReadyH.cons (o := { dst := some 49, op := .call { callee := .value (.func 95), args := #[.tmp 48], argTypes := #[9] }, type := 131, pos := pos, after := #[{ on := 2, ground := .data }], guard := none }) rfl (fun K hK => ?_) AllReadyH.nil
  rw [if_pos (by rfl)]
  refine wp_callEx (args := #[.string s]) (R := fun v w' => (∃ (x : Nat) (b : Bool), v = .tuple #[.float .f64 x, .bool b] ∧ R x) ∧ Below (World.heap V.drew).size V.drew w') Tryz.call95 rfl (by simp [Act.eval]) (hC _ (Below.refl V.heap.size V).drew) ?_
  rintro _ w1 ⟨⟨x, b, rfl, hR'⟩, hb1⟩
  have hl1 : Below V.heap.size V w1 := (Below.refl V.heap.size V).drew.trans (hb1.mono (Below.refl V.heap.size V).drew.size)
  have hA1 : w1.cell? ⟨bE, 1, none⟩ = some (.int .i64 (i : Int)) := (hl1.cell (p := ⟨bE, 1, none⟩) (World.block_lt_of_cell? V ⟨bE, 1, none⟩ h0)).trans h0
  refine hK.out _ _ hA1 (fun hHeld => ?_)
  simp only [Act.put, List.setIfInBounds_toArray, List.set_cons_zero, List.set_cons_succ]
  refine wpAnyH_take (i := 4) (oi := { dst := some 45, op := .move (.tmp 49), type := 131, pos := pos, after := #[{ on := 3, ground := .data }], guard := none }) (v := .tuple #[.float .f64 x, .bool b]) rfl (by kernel_rfl) (by kernel_rfl) (by kernel_rfl) (fun _ _ _ h => h) (.inl ⟨by rfl, fun _ _ => rfl⟩) hHeld ?_
  simp only [Act.put, List.setIfInBounds_toArray, List.set_cons_zero, List.set_cons_succ]
  refine wpAnyH_take (i := 5) (oi := { dst := some 50, op := .extract (.tmp 45) 0, type := 34, pos := pos, after := #[{ on := 4, ground := .data }], guard := none }) (v := .float .f64 x) rfl (by kernel_rfl) (by kernel_rfl) (by kernel_rfl) (fun _ _ _ h => h) (.inl ⟨by rfl, fun _ _ => rfl⟩) hHeld ?_
  simp only [Act.put, List.setIfInBounds_toArray, List.set_cons_zero, List.set_cons_succ]
  refine wpAnyH_take (i := 6) (oi := { dst := some 51, op := .extract (.tmp 45) 1, type := 4, pos := pos, after := #[{ on := 4, ground := .data }, { on := 9, ground := .gcOnly .lateStores }], guard := none }) (v := .bool b) rfl (by kernel_rfl) (by kernel_rfl) (by kernel_rfl) (fun _ _ _ h => h) (.inl ⟨by rfl, fun _ _ => rfl⟩) hHeld ?_
  simp only [Act.put, List.setIfInBounds_toArray, List.set_cons_zero, List.set_cons_succ]
  refine wpAnyH_take (i := 8) (oi := { dst := some 53, op := .indexAddr 35 (.tmp 52) (.tmp 47), type := 0, pos := pos, after := #[{ on := 7, ground := .data }, { on := 1, ground := .data }, { on := 0, ground := .phase }, { on := 1, ground := .phase }, { on := 2, ground := .phase }, { on := 3, ground := .phase }, { on := 4, ground := .phase }, { on := 5, ground := .phase }, { on := 6, ground := .textOnly .lateStores }], guard := none }) (v := .pointer (some ⟨bM, 117 + i, none⟩)) rfl (by kernel_rfl) (by kernel_rfl) (by kernel_rfl) (fun _ _ _ h => h) (.inl ⟨by rfl, fun _ _ => by simp [execOp, Act.eval, go_sem, Tryz.underlying35, hi']⟩) hHeld ?_
  simp only [Act.put, List.setIfInBounds_toArray, List.set_cons_zero, List.set_cons_succ]
  refine wpAnyH_ready (rs := [9]) (by kernel_rfl) (by simp) ?_
  refine AllReadyH.cons (o := { dst := none, op := .store 34 (.tmp 53) (.tmp 50), type := 0, pos := pos, after := #[{ on := 8, ground := .data }, { on := 5, ground := .data }, { on := 3, ground := .chain }, { on := 0, ground := .phase }, { on := 1, ground := .phase }, { on := 2, ground := .phase }, { on := 3, ground := .phase }, { on := 4, ground := .phase }, { on := 5, ground := .phase }, { on := 6, ground := .textOnly .lateStores }], guard := none }) rfl (fun K hK => ?_) AllReadyH.nil
  rw [if_pos (by rfl)]
  have hlt := hM.lt
  have hM1 := hM.to hl1
  have c0 : w1.cell? ⟨bM, 117 + i, none⟩ = some (.float .f64 (m.r i)) := (hM1.cell (i := 117 + i) (by omega)).trans (by rw [m.cell_r hi]; rfl)
  refine wp_storeFloatX (b := bM) (k := 117 + i) (y := x) (.tmp 53) (.tmp 50) rfl (by simp [Act.eval]) (by simp [Act.eval]) c0 (hM1.frozen _) ?_
  have hA2 : (w1.setCell ⟨bM, 117 + i, none⟩ (.float .f64 x)).cell? ⟨bE, 1, none⟩ = some (.int .i64 (i : Int)) := (World.cell?_setCell_far w1 ⟨bM, 117 + i, none⟩ ⟨bE, 1, none⟩ _ (fun e => hne e.symm)).trans hA1
  refine hK.out _ _ hA2 (fun hHeld => ?_)
  simp only [Act.put]
  have hM2 : MemAt (w1.setCell ⟨bM, 117 + i, none⟩ (.float .f64 x)) bM (m.setR i x) := (hM1.set (117 + i) (.float .f64 x)).ext (setR_cell m hi x)
  have hd := fun u45 u46 u47 u48 u49 u50 u51 u52 u53 => hQ u45 u46 u47 u48 u49 u50 u51 u52 u53 x _ hR' hM2 (fun B y hx hB => (hx.trans (hl1.mono (by omega))).setCell (p := ⟨bM, 117 + i, none⟩) hB _) (fun b hb hne => (heap_setCell_other w1 ⟨bM, 117 + i, none⟩ b _ hne).trans (hl1.block b hb))
  refine wpAnyH_done ?_ ?_ _
  · kernel_rfl
  · exact NoPanic.normal (hd _ _ _ _ _ _ _ _ _)
end Go.Proofs.YtjacgamgjjpllaaGreatDoor

/- A word with one bit put, the program's. Helper text: no statement is claimed here. -/
namespace Go.Proofs.YtjacgamgjjpllaaGreatDoor
open Go.ChangeShapes Go.WideShapes Go.ChangeAt Go.RowKit

set_option maxHeartbeats 400000 in
theorem turn_any (W k : Nat) (b : Bool) (w : World) (hW : W < 18446744073709551616) (hk : k < 64) :
    Calls Tryz.prog 130 #[.agg #[.int .i64 k, .bool b], .int .u64 W] w fun e w' => e = .returned (.int .u64 (putN W k b : Nat)) ∧ Below w.heap.size w w' := by
  obtain ⟨P, hP⟩ : ∃ P : Nat, P = 2 ^ k := ⟨_, rfl⟩
  have hPl : P < 18446744073709551616 := by rw [hP]; exact pow_lt64 hk
  have hs : IntKind.u64.wrap (2 ^ k) = (P : Int) := by rw [show (2 : Int) ^ k = ((P : Nat) : Int) by rw [hP, Int.natCast_pow]; rfl, wrap_u64n P hPl]
  have ho : bits .or .u64 (W : Int) (P : Int) = ((putN W k true : Nat) : Int) := by rw [u64_or_nat W P hW hPl, hP, putN_true]
  have ha : bits .andNot .u64 (W : Int) (P : Int) = ((putN W k false : Nat) : Int) := by rw [u64_andNot_nat W P hW hPl, hP, putN_false W k hk hW]
  clear hP hPl
  cases b
  · generalize putN W k false = q0 at *
    go_enter Tryz.func130, Tryz.ntmps130
    go_wp2
    go_ret
    exact ⟨rfl, (Below.refl _ _).alloc (Nat.le_refl _) _⟩
  · generalize putN W k true = q1 at *
    go_enter Tryz.func130, Tryz.ntmps130
    go_wp2
    go_ret
    exact ⟨rfl, (Below.refl _ _).alloc (Nat.le_refl _) _⟩
end Go.Proofs.YtjacgamgjjpllaaGreatDoor
