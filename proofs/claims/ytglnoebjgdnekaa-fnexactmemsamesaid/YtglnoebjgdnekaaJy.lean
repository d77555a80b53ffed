/- The exact laws' own regions, which draw their order: two memories are copied, and asked. Helper text: no statement is claimed here. -/
import Derived.Test.YtglnoebjgdnekaaJz
namespace Go.Proofs.Ytglnoebjgdnekaa
open Go.ChangeShapes Go.WideShapes Go.ChangeAt Go.RowKit

/-- A call of a function of the program that answers with something that is so. -/
theorem wp_callSome {o : Oper} {a : Act} {w : World} {K : Act → World → Prop} {Q : Exit → Act → World → Prop} {f : FuncId} {xs : Array Operand} {ts : Array TypeId} {G : Value → Prop} {R : World → Prop} (hf : ∀ (xs : Array Value) (w : World), (callFunc f xs).run Try.prog w = .ok (.enter f xs) w) (ho : o.op = .call { callee := .value (.func f), args := xs, argTypes := ts })
    {args : Array Value} (ha : xs.map a.eval = args) (hC : Calls Try.prog f args w fun e w' => ∃ u, e = .returned u ∧ G u ∧ R w') (hk : ∀ u w', G u → R w' → K (a.put o.dst u) w') : o.wp Try.prog a w K Q := by
  subst ha
  have he : (execOp a.eval o).run Try.prog w = .ok (.enter f (xs.map a.eval)) w := by
    unfold execOp
    rw [ho]
    simp [go_sem, resolve, hf]
  unfold Oper.wp
  rw [he, Oper.upon_enter]
  refine hC.mono ?_
  rintro e w' ⟨u, rfl, h1, h2⟩
  exact hk u w' h1 h2
theorem wp_assign {o : Oper} {a : Act} {w : World} {K : Act → World → Prop} {Q : Exit → Act → World → Prop} (x : Operand) {u : Value} (ho : o.op = .assign x) (hx : a.eval x = u) (hk : K (a.put o.dst u) w) : o.wp Try.prog a w K Q := by
  unfold Oper.wp execOp
  rw [ho]
  simp [hx, Oper.upon_value]
  exact hk

set_option maxHeartbeats 1000000 in
set_option maxRecDepth 100000 in
theorem two1 {id : Nat} {pos : String} {TM TA TR : TypeId} {f1 f2 f3 : FuncId} {Q : Exit → Act → World → Prop} {w : World} {t0 t1 t4 t5 t6 t7 t8 t9 t10 t11 t12 t13 t14 t15 t16 t17 t18 t19 : Value} {b1 b2 : Nat} {m m2 : Mm} {G : Value → Prop}
    (hf1 : ∀ (xs : Array Value) (w : World), (callFunc f1 xs).run Try.prog w = .ok (.enter f1 xs) w) (hf2 : ∀ (xs : Array Value) (w : World), (callFunc f2 xs).run Try.prog w = .ok (.enter f2 xs) w) (hf3 : ∀ (xs : Array Value) (w : World), (callFunc f3 xs).run Try.prog w = .ok (.enter f3 xs) w)
    (hI : RowAt w b1 36 136 m.cell) (hA : RowAt w b2 36 136 m2.cell)
    (h1 : ∀ W, Calls Try.prog f1 #[m.val] W fun e w' => e = .returned m.val ∧ Below W.heap.size W w')
    (h2 : ∀ W, Calls Try.prog f2 #[m2.val] W fun e w' => e = .returned (m2.val) ∧ Below W.heap.size W w')
    (h3 : ∀ W, Below w.heap.size w W → Calls Try.prog f3 #[m.val, m2.val] W fun e w' => ∃ u, e = .returned u ∧ G u ∧ Below W.heap.size W w')
    (hQ : ∀ u w', G u → Below w.heap.size w w' → Q .normal { tmps := #[t0, t1, .pointer (some ⟨b1, 0, none⟩), .pointer (some ⟨b2, 0, none⟩), t4, u, t6, m.val, m.val, m2.val, m2.val, u, t12, t13, t14, t15, t16, t17, t18, t19], defers := [] } w') :
    (Code.region id #[{ dst := some 7, op := .load 36 (.tmp 2), type := 36, pos := pos, after := #[], guard := none },
      { dst := some 8, op := .call { callee := .value (.func f1), args := #[.tmp 7], argTypes := #[36] }, type := TM, pos := pos, after := #[{ on := 0, ground := .data }], guard := none },
      { dst := some 9, op := .load 36 (.tmp 3), type := 36, pos := pos, after := #[], guard := none },
      { dst := some 10, op := .call { callee := .value (.func f2), args := #[.tmp 9], argTypes := #[36] }, type := TA, pos := pos, after := #[{ on := 2, ground := .data }, { on := 1, ground := .chain }], guard := none },
      { dst := some 11, op := .call { callee := .value (.func f3), args := #[.tmp 8, .tmp 10], argTypes := #[TM, TA] }, type := TR, pos := pos, after := #[{ on := 1, ground := .data }, { on := 3, ground := .data }, { on := 3, ground := .chain }], guard := none },
      { dst := some 5, op := .assign (.tmp 11), type := TR, pos := pos, after := #[{ on := 4, ground := .data }, { on := 4, ground := .chain }, { on := 0, ground := .phase }, { on := 1, ground := .phase }, { on := 2, ground := .phase }, { on := 3, ground := .phase }, { on := 4, ground := .phase }], guard := none }] true).wp Try.prog Q { tmps := #[t0, t1, .pointer (some ⟨b1, 0, none⟩), .pointer (some ⟨b2, 0, none⟩), t4, t5, t6, t7, t8, t9, t10, t11, t12, t13, t14, t15, t16, t17, t18, t19], defers := [] } w := by
  refine wp_region_noPanic ?_
  refine wp_region_held_drew (S := fun W => Below w.heap.size w W) (by kernel_rfl) (Below.refl _ _).drew (fun hHeld => ?_)
  refine wpAnyH_take (i := 0) (oi := { dst := some 7, op := .load 36 (.tmp 2), type := 36, pos := pos, after := #[], guard := none }) (v := m.val) rfl (by kernel_rfl) (by kernel_rfl) (by kernel_rfl) (fun _ _ _ h => h) (yields_row (by rfl) (.tmp 2) rfl rfl (fun W hb => RowAt.to hI hb) Try.underlying36 rfl (by kernel_rfl)) hHeld ?_
  simp only [Act.put, List.setIfInBounds_toArray, List.set_cons_zero, List.set_cons_succ]
  refine wpAnyH_take (i := 2) (oi := { dst := some 9, op := .load 36 (.tmp 3), type := 36, pos := pos, after := #[], guard := none }) (v := m2.val) rfl (by kernel_rfl) (by kernel_rfl) (by kernel_rfl) (fun _ _ _ h => h) (yields_row (by rfl) (.tmp 3) rfl rfl (fun W hb => RowAt.to hA hb) Try.underlying36 rfl (by kernel_rfl)) hHeld ?_
  simp only [Act.put, List.setIfInBounds_toArray, List.set_cons_zero, List.set_cons_succ]
  refine wpAnyH_ready (rs := [1]) (by kernel_rfl) (by simp) ?_
  refine AllReadyH.cons (o := { dst := some 8, op := .call { callee := .value (.func f1), args := #[.tmp 7], argTypes := #[36] }, type := TM, pos := pos, after := #[{ on := 0, ground := .data }], guard := none }) rfl (fun K hK => ?_) AllReadyH.nil
  rw [if_pos (by rfl)]
  refine wp_callGo (args := #[m.val]) hf1 rfl (by simp [Act.eval]) (h1 _) ?_
  intro w0 hb0
  have hl0 : Below w.heap.size w w0 := Below.trans hHeld (Below.mono hb0 (Below.size hHeld))
  refine hK.out _ _ hl0 (fun _ => ?_)
  simp only [Act.put, List.setIfInBounds_toArray, List.set_cons_zero, List.set_cons_succ]
  refine wpAnyH_ready (rs := [3]) (by kernel_rfl) (by simp) ?_
  refine AllReadyH.cons (o := { dst := some 10, op := .call { callee := .value (.func f2), args := #[.tmp 9], argTypes := #[36] }, type := TA, pos := pos, after := #[{ on := 2, ground := .data }, { on := 1, ground := .chain }], guard := none }) rfl (fun K hK => ?_) AllReadyH.nil
  rw [if_pos (by rfl)]
  refine wp_callGo (args := #[m2.val]) hf2 rfl (by simp [Act.eval]) (h2 _) ?_
  intro w1 hb1
  have hl1 : Below w.heap.size w w1 := Below.trans hl0 (Below.mono hb1 (Below.size hl0))
  refine hK.out _ _ hl1 (fun _ => ?_)
  simp only [Act.put, List.setIfInBounds_toArray, List.set_cons_zero, List.set_cons_succ]
  refine wpAnyH_ready (rs := [4]) (by kernel_rfl) (by simp) ?_
  refine AllReadyH.cons (o := { dst := some 11, op := .call { callee := .value (.func f3), args := #[.tmp 8, .tmp 10], argTypes := #[TM, TA] }, type := TR, pos := pos, after := #[{ on := 1, ground := .data }, { on := 3, ground := .data }, { on := 3, ground := .chain }], guard := none }) rfl (fun K hK => ?_) AllReadyH.nil
  rw [if_pos (by rfl)]
  refine wp_callSome (args := #[m.val, m2.val]) hf3 rfl (by simp [Act.eval]) (h3 _ hl1) ?_
  intro u w2 hG hb2'
  have hl2 : Below w.heap.size w w2 := Below.trans hl1 (Below.mono hb2' (Below.size hl1))
  refine hK.out _ _ hl2 (fun _ => ?_)
  simp only [Act.put, List.setIfInBounds_toArray, List.set_cons_zero, List.set_cons_succ]
  refine wpAnyH_ready (rs := [5]) (by kernel_rfl) (by simp) ?_
  refine AllReadyH.cons (o := { dst := some 5, op := .assign (.tmp 11), type := TR, pos := pos, after := #[{ on := 4, ground := .data }, { on := 4, ground := .chain }, { on := 0, ground := .phase }, { on := 1, ground := .phase }, { on := 2, ground := .phase }, { on := 3, ground := .phase }, { on := 4, ground := .phase }], guard := none }) rfl (fun K hK => ?_) AllReadyH.nil
  rw [if_pos (by rfl)]
  refine wp_assign (.tmp 11) rfl (u := u) (by simp [Act.eval]) ?_
  refine hK.out _ _ hl2 (fun _ => ?_)
  simp only [Act.put, List.setIfInBounds_toArray, List.set_cons_zero, List.set_cons_succ]
  have hd := hQ u w2 hG hl2
  refine wpAnyH_done ?_ ?_ _
  · kernel_rfl
  · exact NoPanic.normal hd

set_option maxHeartbeats 1000000 in
set_option maxRecDepth 100000 in
theorem two2 {id : Nat} {pos : String} {TM TA TR : TypeId} {f1 f2 f3 : FuncId} {Q : Exit → Act → World → Prop} {w : World} {t0 t1 t4 t5 t6 t7 t8 t9 t10 t11 t12 t13 t14 t15 t16 t17 t18 t19 : Value} {b1 b2 : Nat} {m m2 : Mm} {G : Value → Prop}
    (hf1 : ∀ (xs : Array Value) (w : World), (callFunc f1 xs).run Try.prog w = .ok (.enter f1 xs) w) (hf2 : ∀ (xs : Array Value) (w : World), (callFunc f2 xs).run Try.prog w = .ok (.enter f2 xs) w) (hf3 : ∀ (xs : Array Value) (w : World), (callFunc f3 xs).run Try.prog w = .ok (.enter f3 xs) w)
    (hI : RowAt w b1 36 136 m.cell) (hA : RowAt w b2 36 136 m2.cell)
    (h1 : ∀ W, Calls Try.prog f1 #[m.val] W fun e w' => e = .returned m.val ∧ Below W.heap.size W w')
    (h2 : ∀ W, Calls Try.prog f2 #[m2.val] W fun e w' => e = .returned (m2.val) ∧ Below W.heap.size W w')
    (h3 : ∀ W, Below w.heap.size w W → Calls Try.prog f3 #[m.val, m2.val] W fun e w' => ∃ u, e = .returned u ∧ G u ∧ Below W.heap.size W w')
    (hQ : ∀ u w', G u → Below w.heap.size w w' → Q .normal { tmps := #[t0, t1, .pointer (some ⟨b1, 0, none⟩), .pointer (some ⟨b2, 0, none⟩), t4, t5, u, t7, t8, t9, t10, t11, m.val, m.val, m2.val, m2.val, u, t17, t18, t19], defers := [] } w') :
    (Code.region id #[{ dst := some 12, op := .load 36 (.tmp 2), type := 36, pos := pos, after := #[], guard := none },
      { dst := some 13, op := .call { callee := .value (.func f1), args := #[.tmp 12], argTypes := #[36] }, type := TM, pos := pos, after := #[{ on := 0, ground := .data }], guard := none },
      { dst := some 14, op := .load 36 (.tmp 3), type := 36, pos := pos, after := #[], guard := none },
      { dst := some 15, op := .call { callee := .value (.func f2), args := #[.tmp 14], argTypes := #[36] }, type := TA, pos := pos, after := #[{ on := 2, ground := .data }, { on := 1, ground := .chain }], guard := none },
      { dst := some 16, op := .call { callee := .value (.func f3), args := #[.tmp 13, .tmp 15], argTypes := #[TM, TA] }, type := TR, pos := pos, after := #[{ on := 1, ground := .data }, { on := 3, ground := .data }, { on := 3, ground := .chain }], guard := none },
      { dst := some 6, op := .assign (.tmp 16), type := TR, pos := pos, after := #[{ on := 4, ground := .data }, { on := 4, ground := .chain }, { on := 0, ground := .phase }, { on := 1, ground := .phase }, { on := 2, ground := .phase }, { on := 3, ground := .phase }, { on := 4, ground := .phase }], guard := none }] true).wp Try.prog Q { tmps := #[t0, t1, .pointer (some ⟨b1, 0, none⟩), .pointer (some ⟨b2, 0, none⟩), t4, t5, t6, t7, t8, t9, t10, t11, t12, t13, t14, t15, t16, t17, t18, t19], defers := [] } w := by
  refine wp_region_noPanic ?_
  refine wp_region_held_drew (S := fun W => Below w.heap.size w W) (by kernel_rfl) (Below.refl _ _).drew (fun hHeld => ?_)
  refine wpAnyH_take (i := 0) (oi := { dst := some 12, op := .load 36 (.tmp 2), type := 36, pos := pos, after := #[], guard := none }) (v := m.val) rfl (by kernel_rfl) (by kernel_rfl) (by kernel_rfl) (fun _ _ _ h => h) (yields_row (by rfl) (.tmp 2) rfl rfl (fun W hb => RowAt.to hI hb) Try.underlying36 rfl (by kernel_rfl)) hHeld ?_
  simp only [Act.put, List.setIfInBounds_toArray, List.set_cons_zero, List.set_cons_succ]
  refine wpAnyH_take (i := 2) (oi := { dst := some 14, op := .load 36 (.tmp 3), type := 36, pos := pos, after := #[], guard := none }) (v := m2.val) rfl (by kernel_rfl) (by kernel_rfl) (by kernel_rfl) (fun _ _ _ h => h) (yields_row (by rfl) (.tmp 3) rfl rfl (fun W hb => RowAt.to hA hb) Try.underlying36 rfl (by kernel_rfl)) hHeld ?_
  simp only [Act.put, List.setIfInBounds_toArray, List.set_cons_zero, List.set_cons_succ]
  refine wpAnyH_ready (rs := [1]) (by kernel_rfl) (by simp) ?_
  refine AllReadyH.cons (o := { dst := some 13, op := .call { callee := .value (.func f1), args := #[.tmp 12], argTypes := #[36] }, type := TM, pos := pos, after := #[{ on := 0, ground := .data }], guard := none }) rfl (fun K hK => ?_) AllReadyH.nil
  rw [if_pos (by rfl)]
  refine wp_callGo (args := #[m.val]) hf1 rfl (by simp [Act.eval]) (h1 _) ?_
  intro w0 hb0
  have hl0 : Below w.heap.size w w0 := Below.trans hHeld (Below.mono hb0 (Below.size hHeld))
  refine hK.out _ _ hl0 (fun _ => ?_)
  simp only [Act.put, List.setIfInBounds_toArray, List.set_cons_zero, List.set_cons_succ]
  refine wpAnyH_ready (rs := [3]) (by kernel_rfl) (by simp) ?_
  refine AllReadyH.cons (o := { dst := some 15, op := .call { callee := .value (.func f2), args := #[.tmp 14], argTypes := #[36] }, type := TA, pos := pos, after := #[{ on := 2, ground := .data }, { on := 1, ground := .chain }], guard := none }) rfl (fun K hK => ?_) AllReadyH.nil
  rw [if_pos (by rfl)]
  refine wp_callGo (args := #[m2.val]) hf2 rfl (by simp [Act.eval]) (h2 _) ?_
  intro w1 hb1
  have hl1 : Below w.heap.size w w1 := Below.trans hl0 (Below.mono hb1 (Below.size hl0))
  refine hK.out _ _ hl1 (fun _ => ?_)
  simp only [Act.put, List.setIfInBounds_toArray, List.set_cons_zero, List.set_cons_succ]
  refine wpAnyH_ready (rs := [4]) (by kernel_rfl) (by simp) ?_
  refine AllReadyH.cons (o := { dst := some 16, op := .call { callee := .value (.func f3), args := #[.tmp 13, .tmp 15], argTypes := #[TM, TA] }, type := TR, pos := pos, after := #[{ on := 1, ground := .data }, { on := 3, ground := .data }, { on := 3, ground := .chain }], guard := none }) rfl (fun K hK => ?_) AllReadyH.nil
  rw [if_pos (by rfl)]
  refine wp_callSome (args := #[m.val, m2.val]) hf3 rfl (by simp [Act.eval]) (h3 _ hl1) ?_
  intro u w2 hG hb2'
  have hl2 : Below w.heap.size w w2 := Below.trans hl1 (Below.mono hb2' (Below.size hl1))
  refine hK.out _ _ hl2 (fun _ => ?_)
  simp only [Act.put, List.setIfInBounds_toArray, List.set_cons_zero, List.set_cons_succ]
  refine wpAnyH_ready (rs := [5]) (by kernel_rfl) (by simp) ?_
  refine AllReadyH.cons (o := { dst := some 6, op := .assign (.tmp 16), type := TR, pos := pos, after := #[{ on := 4, ground := .data }, { on := 4, ground := .chain }, { on := 0, ground := .phase }, { on := 1, ground := .phase }, { on := 2, ground := .phase }, { on := 3, ground := .phase }, { on := 4, ground := .phase }], guard := none }) rfl (fun K hK => ?_) AllReadyH.nil
  rw [if_pos (by rfl)]
  refine wp_assign (.tmp 16) rfl (u := u) (by simp [Act.eval]) ?_
  refine hK.out _ _ hl2 (fun _ => ?_)
  simp only [Act.put, List.setIfInBounds_toArray, List.set_cons_zero, List.set_cons_succ]
  have hd := hQ u w2 hG hl2
  refine wpAnyH_done ?_ ?_ _
  · kernel_rfl
  · exact NoPanic.normal hd
end Go.Proofs.Ytglnoebjgdnekaa
