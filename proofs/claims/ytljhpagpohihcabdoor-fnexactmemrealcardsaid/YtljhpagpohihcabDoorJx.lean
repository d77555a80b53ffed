/- The exact laws' own regions, which draw their order: a memory and an operand are copied, and asked. Helper text: no statement is claimed here. -/
import Derived.Test.YtljhpagpohihcabDoorJf
namespace Go.Proofs.YtljhpagpohihcabDoor
open Go.ChangeShapes Go.WideShapes Go.ChangeAt Go.RowKit

/-- A call of a function of the program that answers with something that is so. -/
theorem wp_callSome {o : Oper} {a : Act} {w : World} {K : Act → World → Prop} {Q : Exit → Act → World → Prop} {f : FuncId} {xs : Array Operand} {ts : Array TypeId} {G : Value → Prop} {R : World → Prop} (hf : ∀ (xs : Array Value) (w : World), (callFunc f xs).run Tryd.prog w = .ok (.enter f xs) w) (ho : o.op = .call { callee := .value (.func f), args := xs, argTypes := ts })
    {args : Array Value} (ha : xs.map a.eval = args) (hC : Calls Tryd.prog f args w fun e w' => ∃ u, e = .returned u ∧ G u ∧ R w') (hk : ∀ u w', G u → R w' → K (a.put o.dst u) w') : o.wp Tryd.prog a w K Q := by
  subst ha
  have he : (execOp a.eval o).run Tryd.prog w = .ok (.enter f (xs.map a.eval)) w := by
    unfold execOp
    rw [ho]
    simp [go_sem, resolve, hf]
  unfold Oper.wp
  rw [he, Oper.upon_enter]
  refine hC.mono ?_
  rintro e w' ⟨u, rfl, h1, h2⟩
  exact hk u w' h1 h2
theorem wp_assign {o : Oper} {a : Act} {w : World} {K : Act → World → Prop} {Q : Exit → Act → World → Prop} (x : Operand) {u : Value} (ho : o.op = .assign x) (hx : a.eval x = u) (hk : K (a.put o.dst u) w) : o.wp Tryd.prog a w K Q := by
  unfold Oper.wp execOp
  rw [ho]
  simp [hx, Oper.upon_value]
  exact hk

set_option maxHeartbeats 1000000 in
set_option maxRecDepth 100000 in
theorem ask1_20 {id : Nat} {pos : String} {TM TA TR : TypeId} {f1 f2 f3 : FuncId} {Q : Exit → Act → World → Prop} {w : World} {t0 t1 t4 t5 t6 t7 t8 t9 t10 t11 t12 t13 t14 t15 t16 t17 t18 t19 : Value} {b1 b2 : Nat} {k n p : Int} {m : Mm} {G : Value → Prop}
    (hf1 : ∀ (xs : Array Value) (w : World), (callFunc f1 xs).run Tryd.prog w = .ok (.enter f1 xs) w) (hf2 : ∀ (xs : Array Value) (w : World), (callFunc f2 xs).run Tryd.prog w = .ok (.enter f2 xs) w) (hf3 : ∀ (xs : Array Value) (w : World), (callFunc f3 xs).run Tryd.prog w = .ok (.enter f3 xs) w)
    (hI : RowAt w b1 36 136 m.cell) (hA : w.rangeAt b2 0 [.int .i64 k, .int .i64 n, .int .i64 p]) (hb2 : b2 < w.heap.size)
    (h1 : ∀ W, Calls Tryd.prog f1 #[m.val] W fun e w' => e = .returned m.val ∧ Below W.heap.size W w')
    (h2 : ∀ W, Calls Tryd.prog f2 #[.agg #[.int .i64 k, .int .i64 n, .int .i64 p]] W fun e w' => e = .returned (.agg #[.int .i64 k, .int .i64 n, .int .i64 p]) ∧ Below W.heap.size W w')
    (h3 : ∀ W, Below w.heap.size w W → Calls Tryd.prog f3 #[m.val, .agg #[.int .i64 k, .int .i64 n, .int .i64 p]] W fun e w' => ∃ u, e = .returned u ∧ G u ∧ Below W.heap.size W w')
    (hQ : ∀ u w', G u → Below w.heap.size w w' → Q .normal { tmps := #[t0, t1, .pointer (some ⟨b1, 0, none⟩), .pointer (some ⟨b2, 0, none⟩), t4, u, t6, m.val, m.val, .agg #[.int .i64 k, .int .i64 n, .int .i64 p], .agg #[.int .i64 k, .int .i64 n, .int .i64 p], u, t12, t13, t14, t15, t16, t17, t18, t19], defers := [] } w') :
    (Code.region id #[{ dst := some 7, op := .load 36 (.tmp 2), type := 36, pos := pos, after := #[], guard := none },
      { dst := some 8, op := .call { callee := .value (.func f1), args := #[.tmp 7], argTypes := #[36] }, type := TM, pos := pos, after := #[{ on := 0, ground := .data }], guard := none },
      { dst := some 9, op := .load 38 (.tmp 3), type := 38, pos := pos, after := #[], guard := none },
      { dst := some 10, op := .call { callee := .value (.func f2), args := #[.tmp 9], argTypes := #[38] }, type := TA, pos := pos, after := #[{ on := 2, ground := .data }, { on := 1, ground := .chain }], guard := none },
      { dst := some 11, op := .call { callee := .value (.func f3), args := #[.tmp 8, .tmp 10], argTypes := #[TM, TA] }, type := TR, pos := pos, after := #[{ on := 1, ground := .data }, { on := 3, ground := .data }, { on := 3, ground := .chain }], guard := none },
      { dst := some 5, op := .assign (.tmp 11), type := TR, pos := pos, after := #[{ on := 4, ground := .data }, { on := 4, ground := .chain }, { on := 0, ground := .phase }, { on := 1, ground := .phase }, { on := 2, ground := .phase }, { on := 3, ground := .phase }, { on := 4, ground := .phase }], guard := none }] true).wp Tryd.prog Q { tmps := #[t0, t1, .pointer (some ⟨b1, 0, none⟩), .pointer (some ⟨b2, 0, none⟩), t4, t5, t6, t7, t8, t9, t10, t11, t12, t13, t14, t15, t16, t17, t18, t19], defers := [] } w := by
  have hAW : ∀ W, Below w.heap.size w W → W.rangeAt b2 0 [.int .i64 k, .int .i64 n, .int .i64 p] := fun W hb j u hu => by
    rw [hb.cell (p := ⟨b2, 0 + j, none⟩) hb2]; exact hA j u hu
  refine wp_region_noPanic ?_
  refine wp_region_held_drew (S := fun W => Below w.heap.size w W) (by kernel_rfl) (Below.refl _ _).drew (fun hHeld => ?_)
  refine wpAnyH_take (i := 0) (oi := { dst := some 7, op := .load 36 (.tmp 2), type := 36, pos := pos, after := #[], guard := none }) (v := m.val) rfl (by kernel_rfl) (by kernel_rfl) (by kernel_rfl) (fun _ _ _ h => h) (yields_row (by rfl) (.tmp 2) rfl rfl (fun W hb => RowAt.to hI hb) Tryd.underlying36 rfl (by kernel_rfl)) hHeld ?_
  simp only [Act.put, List.setIfInBounds_toArray, List.set_cons_zero, List.set_cons_succ]
  refine wpAnyH_take (i := 2) (oi := { dst := some 9, op := .load 38 (.tmp 3), type := 38, pos := pos, after := #[], guard := none }) (v := .agg #[.int .i64 k, .int .i64 n, .int .i64 p]) rfl (by kernel_rfl) (by kernel_rfl) (by kernel_rfl) (fun _ _ _ h => h) (yieldsIf_load_mid (by rfl) _ _ rfl b2 0 rfl [.int .i64 k, .int .i64 n, .int .i64 p] _ hAW Tryd.underlying38 rfl (by kernel_rfl)) hHeld ?_
  simp only [Act.put, List.setIfInBounds_toArray, List.set_cons_zero, List.set_cons_succ]
  refine wpAnyH_ready (rs := [1]) (by kernel_rfl) (by simp) ?_
  refine AllReadyH.cons (o := { dst := some 8, op := .call { callee := .value (.func f1), args := #[.tmp 7], argTypes := #[36] }, type := TM, pos := pos, after := #[{ on := 0, ground := .data }], guard := none }) rfl (fun K hK => ?_) AllReadyH.nil
  rw [if_pos (by rfl)]
  refine wp_callGo (args := #[m.val]) hf1 rfl (by simp [Act.eval]) (h1 _) ?_
  intro w0 hb0
  have hl0 : Below w.heap.size w w0 := Below.trans hHeld (Below.mono hb0 (Below.size hHeld))
  refine hK.out _ _ hl0 (fun _ => ?_)
  simp only [Act.put, List.setIfInBounds_toArray, List.set_cons_zero, List.set_cons_succ]
  refine wpAnyH_ready (rs := [3]) (by kernel_rfl) (by simp) ?_
  refine AllReadyH.cons (o := { dst := some 10, op := .call { callee := .value (.func f2), args := #[.tmp 9], argTypes := #[38] }, type := TA, pos := pos, after := #[{ on := 2, ground := .data }, { on := 1, ground := .chain }], guard := none }) rfl (fun K hK => ?_) AllReadyH.nil
  rw [if_pos (by rfl)]
  refine wp_callGo (args := #[.agg #[.int .i64 k, .int .i64 n, .int .i64 p]]) hf2 rfl (by simp [Act.eval]) (h2 _) ?_
  intro w1 hb1
  have hl1 : Below w.heap.size w w1 := Below.trans hl0 (Below.mono hb1 (Below.size hl0))
  refine hK.out _ _ hl1 (fun _ => ?_)
  simp only [Act.put, List.setIfInBounds_toArray, List.set_cons_zero, List.set_cons_succ]
  refine wpAnyH_ready (rs := [4]) (by kernel_rfl) (by simp) ?_
  refine AllReadyH.cons (o := { dst := some 11, op := .call { callee := .value (.func f3), args := #[.tmp 8, .tmp 10], argTypes := #[TM, TA] }, type := TR, pos := pos, after := #[{ on := 1, ground := .data }, { on := 3, ground := .data }, { on := 3, ground := .chain }], guard := none }) rfl (fun K hK => ?_) AllReadyH.nil
  rw [if_pos (by rfl)]
  refine wp_callSome (args := #[m.val, .agg #[.int .i64 k, .int .i64 n, .int .i64 p]]) hf3 rfl (by simp [Act.eval]) (h3 _ hl1) ?_
  intro u w2 hG hb2'
  have hl2 : Below w.heap.size w w2 := Below.trans hl1 (Below.mono hb2' (Below.size hl1))
  refine hK.out _ _ hl2 (fun _ => ?_)
  simp only [Act.put, List.setIfInBounds_toArray, List.set_cons_zero, List.set_cons_succ]
  refine wpAnyH_ready (rs := [5]) (by kernel_rfl) (by simp) ?_
  refine AllReadyH.cons (o := { dst := some 5, op := .assign (.tmp 11), type := TR, pos := pos, after := #[{ on := 4, ground := .data }, { on := 4, ground := .chain }, { on := 0, ground := .phase }, { on := 1, ground := .phase }, { on := 2, ground := .phase }, { on := 3, ground := .phase }, { on := 4, ground := .phase }], guard := none }) rfl (fun K hK => ?_) AllReadyH.nil
  rw [if_pos (by rfl)]
  refine wp_assign (.tmp 11) rfl (u := u) (by simp [Act.eval]) ?_
  refine hK.out _ _ hl2 (fun _ => ?_)
  simp only [Act.put, List.setIfInBounds_toArray, List.set_cons_zero, List.set_cons_succ]
  have hd := hQ u w2 hG hl2
  refine wpAnyH_done ?_ ?_ _
  · kernel_rfl
  · exact NoPanic.normal hd

set_option maxHeartbeats 1000000 in
set_option maxRecDepth 100000 in
theorem ask2_20 {id : Nat} {pos : String} {TM TA TR : TypeId} {f1 f2 f3 : FuncId} {Q : Exit → Act → World → Prop} {w : World} {t0 t1 t4 t5 t6 t7 t8 t9 t10 t11 t12 t13 t14 t15 t16 t17 t18 t19 : Value} {b1 b2 : Nat} {k n p : Int} {m : Mm} {G : Value → Prop}
    (hf1 : ∀ (xs : Array Value) (w : World), (callFunc f1 xs).run Tryd.prog w = .ok (.enter f1 xs) w) (hf2 : ∀ (xs : Array Value) (w : World), (callFunc f2 xs).run Tryd.prog w = .ok (.enter f2 xs) w) (hf3 : ∀ (xs : Array Value) (w : World), (callFunc f3 xs).run Tryd.prog w = .ok (.enter f3 xs) w)
    (hI : RowAt w b1 36 136 m.cell) (hA : w.rangeAt b2 0 [.int .i64 k, .int .i64 n, .int .i64 p]) (hb2 : b2 < w.heap.size)
    (h1 : ∀ W, Calls Tryd.prog f1 #[m.val] W fun e w' => e = .returned m.val ∧ Below W.heap.size W w')
    (h2 : ∀ W, Calls Tryd.prog f2 #[.agg #[.int .i64 k, .int .i64 n, .int .i64 p]] W fun e w' => e = .returned (.agg #[.int .i64 k, .int .i64 n, .int .i64 p]) ∧ Below W.heap.size W w')
    (h3 : ∀ W, Below w.heap.size w W → Calls Tryd.prog f3 #[m.val, .agg #[.int .i64 k, .int .i64 n, .int .i64 p]] W fun e w' => ∃ u, e = .returned u ∧ G u ∧ Below W.heap.size W w')
    (hQ : ∀ u w', G u → Below w.heap.size w w' → Q .normal { tmps := #[t0, t1, .pointer (some ⟨b1, 0, none⟩), .pointer (some ⟨b2, 0, none⟩), t4, t5, u, t7, t8, t9, t10, t11, m.val, m.val, .agg #[.int .i64 k, .int .i64 n, .int .i64 p], .agg #[.int .i64 k, .int .i64 n, .int .i64 p], u, t17, t18, t19], defers := [] } w') :
    (Code.region id #[{ dst := some 12, op := .load 36 (.tmp 2), type := 36, pos := pos, after := #[], guard := none },
      { dst := some 13, op := .call { callee := .value (.func f1), args := #[.tmp 12], argTypes := #[36] }, type := TM, pos := pos, after := #[{ on := 0, ground := .data }], guard := none },
      { dst := some 14, op := .load 38 (.tmp 3), type := 38, pos := pos, after := #[], guard := none },
      { dst := some 15, op := .call { callee := .value (.func f2), args := #[.tmp 14], argTypes := #[38] }, type := TA, pos := pos, after := #[{ on := 2, ground := .data }, { on := 1, ground := .chain }], guard := none },
      { dst := some 16, op := .call { callee := .value (.func f3), args := #[.tmp 13, .tmp 15], argTypes := #[TM, TA] }, type := TR, pos := pos, after := #[{ on := 1, ground := .data }, { on := 3, ground := .data }, { on := 3, ground := .chain }], guard := none },
      { dst := some 6, op := .assign (.tmp 16), type := TR, pos := pos, after := #[{ on := 4, ground := .data }, { on := 4, ground := .chain }, { on := 0, ground := .phase }, { on := 1, ground := .phase }, { on := 2, ground := .phase }, { on := 3, ground := .phase }, { on := 4, ground := .phase }], guard := none }] true).wp Tryd.prog Q { tmps := #[t0, t1, .pointer (some ⟨b1, 0, none⟩), .pointer (some ⟨b2, 0, none⟩), t4, t5, t6, t7, t8, t9, t10, t11, t12, t13, t14, t15, t16, t17, t18, t19], defers := [] } w := by
  have hAW : ∀ W, Below w.heap.size w W → W.rangeAt b2 0 [.int .i64 k, .int .i64 n, .int .i64 p] := fun W hb j u hu => by
    rw [hb.cell (p := ⟨b2, 0 + j, none⟩) hb2]; exact hA j u hu
  refine wp_region_noPanic ?_
  refine wp_region_held_drew (S := fun W => Below w.heap.size w W) (by kernel_rfl) (Below.refl _ _).drew (fun hHeld => ?_)
  refine wpAnyH_take (i := 0) (oi := { dst := some 12, op := .load 36 (.tmp 2), type := 36, pos := pos, after := #[], guard := none }) (v := m.val) rfl (by kernel_rfl) (by kernel_rfl) (by kernel_rfl) (fun _ _ _ h => h) (yields_row (by rfl) (.tmp 2) rfl rfl (fun W hb => RowAt.to hI hb) Tryd.underlying36 rfl (by kernel_rfl)) hHeld ?_
  simp only [Act.put, List.setIfInBounds_toArray, List.set_cons_zero, List.set_cons_succ]
  refine wpAnyH_take (i := 2) (oi := { dst := some 14, op := .load 38 (.tmp 3), type := 38, pos := pos, after := #[], guard := none }) (v := .agg #[.int .i64 k, .int .i64 n, .int .i64 p]) rfl (by kernel_rfl) (by kernel_rfl) (by kernel_rfl) (fun _ _ _ h => h) (yieldsIf_load_mid (by rfl) _ _ rfl b2 0 rfl [.int .i64 k, .int .i64 n, .int .i64 p] _ hAW Tryd.underlying38 rfl (by kernel_rfl)) hHeld ?_
  simp only [Act.put, List.setIfInBounds_toArray, List.set_cons_zero, List.set_cons_succ]
  refine wpAnyH_ready (rs := [1]) (by kernel_rfl) (by simp) ?_
  refine AllReadyH.cons (o := { dst := some 13, op := .call { callee := .value (.func f1), args := #[.tmp 12], argTypes := #[36] }, type := TM, pos := pos, after := #[{ on := 0, ground := .data }], guard := none }) rfl (fun K hK => ?_) AllReadyH.nil
  rw [if_pos (by rfl)]
  refine wp_callGo (args := #[m.val]) hf1 rfl (by simp [Act.eval]) (h1 _) ?_
  intro w0 hb0
  have hl0 : Below w.heap.size w w0 := Below.trans hHeld (Below.mono hb0 (Below.size hHeld))
  refine hK.out _ _ hl0 (fun _ => ?_)
  simp only [Act.put, List.setIfInBounds_toArray, List.set_cons_zero, List.set_cons_succ]
  refine wpAnyH_ready (rs := [3]) (by kernel_rfl) (by simp) ?_
  refine AllReadyH.cons (o := { dst := some 15, op := .call { callee := .value (.func f2), args := #[.tmp 14], argTypes := #[38] }, type := TA, pos := pos, after := #[{ on := 2, ground := .data }, { on := 1, ground := .chain }], guard := none }) rfl (fun K hK => ?_) AllReadyH.nil
  rw [if_pos (by rfl)]
  refine wp_callGo (args := #[.agg #[.int .i64 k, .int .i64 n, .int .i64 p]]) hf2 rfl (by simp [Act.eval]) (h2 _) ?_
  intro w1 hb1
  have hl1 : Below w.heap.size w w1 := Below.trans hl0 (Below.mono hb1 (Below.size hl0))
  refine hK.out _ _ hl1 (fun _ => ?_)
  simp only [Act.put, List.setIfInBounds_toArray, List.set_cons_zero, List.set_cons_succ]
  refine wpAnyH_ready (rs := [4]) (by kernel_rfl) (by simp) ?_
  refine AllReadyH.cons (o := { dst := some 16, op := .call { callee := .value (.func f3), args := #[.tmp 13, .tmp 15], argTypes := #[TM, TA] }, type := TR, pos := pos, after := #[{ on := 1, ground := .data }, { on := 3, ground := .data }, { on := 3, ground := .chain }], guard := none }) rfl (fun K hK => ?_) AllReadyH.nil
  rw [if_pos (by rfl)]
  refine wp_callSome (args := #[m.val, .agg #[.int .i64 k, .int .i64 n, .int .i64 p]]) hf3 rfl (by simp [Act.eval]) (h3 _ hl1) ?_
  intro u w2 hG hb2'
  have hl2 : Below w.heap.size w w2 := Below.trans hl1 (Below.mono hb2' (Below.size hl1))
  refine hK.out _ _ hl2 (fun _ => ?_)
  simp only [Act.put, List.setIfInBounds_toArray, List.set_cons_zero, List.set_cons_succ]
  refine wpAnyH_ready (rs := [5]) (by kernel_rfl) (by simp) ?_
  refine AllReadyH.cons (o := { dst := some 6, op := .assign (.tmp 16), type := TR, pos := pos, after := #[{ on := 4, ground := .data }, { on := 4, ground := .chain }, { on := 0, ground := .phase }, { on := 1, ground := .phase }, { on := 2, ground := .phase }, { on := 3, ground := .phase }, { on := 4, ground := .phase }], guard := none }) rfl (fun K hK => ?_) AllReadyH.nil
  rw [if_pos (by rfl)]
  refine wp_assign (.tmp 16) rfl (u := u) (by simp [Act.eval]) ?_
  refine hK.out _ _ hl2 (fun _ => ?_)
  simp only [Act.put, List.setIfInBounds_toArray, List.set_cons_zero, List.set_cons_succ]
  have hd := hQ u w2 hG hl2
  refine wpAnyH_done ?_ ?_ _
  · kernel_rfl
  · exact NoPanic.normal hd

set_option maxHeartbeats 1000000 in
set_option maxRecDepth 100000 in
theorem ask1_21 {id : Nat} {pos : String} {TM TA TR : TypeId} {f1 f2 f3 : FuncId} {Q : Exit → Act → World → Prop} {w : World} {t0 t1 t4 t5 t6 t7 t8 t9 t10 t11 t12 t13 t14 t15 t16 t17 t18 t19 t20 : Value} {b1 b2 : Nat} {k n p : Int} {m : Mm} {G : Value → Prop}
    (hf1 : ∀ (xs : Array Value) (w : World), (callFunc f1 xs).run Tryd.prog w = .ok (.enter f1 xs) w) (hf2 : ∀ (xs : Array Value) (w : World), (callFunc f2 xs).run Tryd.prog w = .ok (.enter f2 xs) w) (hf3 : ∀ (xs : Array Value) (w : World), (callFunc f3 xs).run Tryd.prog w = .ok (.enter f3 xs) w)
    (hI : RowAt w b1 36 136 m.cell) (hA : w.rangeAt b2 0 [.int .i64 k, .int .i64 n, .int .i64 p]) (hb2 : b2 < w.heap.size)
    (h1 : ∀ W, Calls Tryd.prog f1 #[m.val] W fun e w' => e = .returned m.val ∧ Below W.heap.size W w')
    (h2 : ∀ W, Calls Tryd.prog f2 #[.agg #[.int .i64 k, .int .i64 n, .int .i64 p]] W fun e w' => e = .returned (.agg #[.int .i64 k, .int .i64 n, .int .i64 p]) ∧ Below W.heap.size W w')
    (h3 : ∀ W, Below w.heap.size w W → Calls Tryd.prog f3 #[m.val, .agg #[.int .i64 k, .int .i64 n, .int .i64 p]] W fun e w' => ∃ u, e = .returned u ∧ G u ∧ Below W.heap.size W w')
    (hQ : ∀ u w', G u → Below w.heap.size w w' → Q .normal { tmps := #[t0, t1, .pointer (some ⟨b1, 0, none⟩), .pointer (some ⟨b2, 0, none⟩), t4, u, t6, m.val, m.val, .agg #[.int .i64 k, .int .i64 n, .int .i64 p], .agg #[.int .i64 k, .int .i64 n, .int .i64 p], u, t12, t13, t14, t15, t16, t17, t18, t19, t20], defers := [] } w') :
    (Code.region id #[{ dst := some 7, op := .load 36 (.tmp 2), type := 36, pos := pos, after := #[], guard := none },
      { dst := some 8, op := .call { callee := .value (.func f1), args := #[.tmp 7], argTypes := #[36] }, type := TM, pos := pos, after := #[{ on := 0, ground := .data }], guard := none },
      { dst := some 9, op := .load 38 (.tmp 3), type := 38, pos := pos, after := #[], guard := none },
      { dst := some 10, op := .call { callee := .value (.func f2), args := #[.tmp 9], argTypes := #[38] }, type := TA, pos := pos, after := #[{ on := 2, ground := .data }, { on := 1, ground := .chain }], guard := none },
      { dst := some 11, op := .call { callee := .value (.func f3), args := #[.tmp 8, .tmp 10], argTypes := #[TM, TA] }, type := TR, pos := pos, after := #[{ on := 1, ground := .data }, { on := 3, ground := .data }, { on := 3, ground := .chain }], guard := none },
      { dst := some 5, op := .assign (.tmp 11), type := TR, pos := pos, after := #[{ on := 4, ground := .data }, { on := 4, ground := .chain }, { on := 0, ground := .phase }, { on := 1, ground := .phase }, { on := 2, ground := .phase }, { on := 3, ground := .phase }, { on := 4, ground := .phase }], guard := none }] true).wp Tryd.prog Q { tmps := #[t0, t1, .pointer (some ⟨b1, 0, none⟩), .pointer (some ⟨b2, 0, none⟩), t4, t5, t6, t7, t8, t9, t10, t11, t12, t13, t14, t15, t16, t17, t18, t19, t20], defers := [] } w := by
  have hAW : ∀ W, Below w.heap.size w W → W.rangeAt b2 0 [.int .i64 k, .int .i64 n, .int .i64 p] := fun W hb j u hu => by
    rw [hb.cell (p := ⟨b2, 0 + j, none⟩) hb2]; exact hA j u hu
  refine wp_region_noPanic ?_
  refine wp_region_held_drew (S := fun W => Below w.heap.size w W) (by kernel_rfl) (Below.refl _ _).drew (fun hHeld => ?_)
  refine wpAnyH_take (i := 0) (oi := { dst := some 7, op := .load 36 (.tmp 2), type := 36, pos := pos, after := #[], guard := none }) (v := m.val) rfl (by kernel_rfl) (by kernel_rfl) (by kernel_rfl) (fun _ _ _ h => h) (yields_row (by rfl) (.tmp 2) rfl rfl (fun W hb => RowAt.to hI hb) Tryd.underlying36 rfl (by kernel_rfl)) hHeld ?_
  simp only [Act.put, List.setIfInBounds_toArray, List.set_cons_zero, List.set_cons_succ]
  refine wpAnyH_take (i := 2) (oi := { dst := some 9, op := .load 38 (.tmp 3), type := 38, pos := pos, after := #[], guard := none }) (v := .agg #[.int .i64 k, .int .i64 n, .int .i64 p]) rfl (by kernel_rfl) (by kernel_rfl) (by kernel_rfl) (fun _ _ _ h => h) (yieldsIf_load_mid (by rfl) _ _ rfl b2 0 rfl [.int .i64 k, .int .i64 n, .int .i64 p] _ hAW Tryd.underlying38 rfl (by kernel_rfl)) hHeld ?_
  simp only [Act.put, List.setIfInBounds_toArray, List.set_cons_zero, List.set_cons_succ]
  refine wpAnyH_ready (rs := [1]) (by kernel_rfl) (by simp) ?_
  refine AllReadyH.cons (o := { dst := some 8, op := .call { callee := .value (.func f1), args := #[.tmp 7], argTypes := #[36] }, type := TM, pos := pos, after := #[{ on := 0, ground := .data }], guard := none }) rfl (fun K hK => ?_) AllReadyH.nil
  rw [if_pos (by rfl)]
  refine wp_callGo (args := #[m.val]) hf1 rfl (by simp [Act.eval]) (h1 _) ?_
  intro w0 hb0
  have hl0 : Below w.heap.size w w0 := Below.trans hHeld (Below.mono hb0 (Below.size hHeld))
  refine hK.out _ _ hl0 (fun _ => ?_)
  simp only [Act.put, List.setIfInBounds_toArray, List.set_cons_zero, List.set_cons_succ]
  refine wpAnyH_ready (rs := [3]) (by kernel_rfl) (by simp) ?_
  refine AllReadyH.cons (o := { dst := some 10, op := .call { callee := .value (.func f2), args := #[.tmp 9], argTypes := #[38] }, type := TA, pos := pos, after := #[{ on := 2, ground := .data }, { on := 1, ground := .chain }], guard := none }) rfl (fun K hK => ?_) AllReadyH.nil
  rw [if_pos (by rfl)]
  refine wp_callGo (args := #[.agg #[.int .i64 k, .int .i64 n, .int .i64 p]]) hf2 rfl (by simp [Act.eval]) (h2 _) ?_
  intro w1 hb1
  have hl1 : Below w.heap.size w w1 := Below.trans hl0 (Below.mono hb1 (Below.size hl0))
  refine hK.out _ _ hl1 (fun _ => ?_)
  simp only [Act.put, List.setIfInBounds_toArray, List.set_cons_zero, List.set_cons_succ]
  refine wpAnyH_ready (rs := [4]) (by kernel_rfl) (by simp) ?_
  refine AllReadyH.cons (o := { dst := some 11, op := .call { callee := .value (.func f3), args := #[.tmp 8, .tmp 10], argTypes := #[TM, TA] }, type := TR, pos := pos, after := #[{ on := 1, ground := .data }, { on := 3, ground := .data }, { on := 3, ground := .chain }], guard := none }) rfl (fun K hK => ?_) AllReadyH.nil
  rw [if_pos (by rfl)]
  refine wp_callSome (args := #[m.val, .agg #[.int .i64 k, .int .i64 n, .int .i64 p]]) hf3 rfl (by simp [Act.eval]) (h3 _ hl1) ?_
  intro u w2 hG hb2'
  have hl2 : Below w.heap.size w w2 := Below.trans hl1 (Below.mono hb2' (Below.size hl1))
  refine hK.out _ _ hl2 (fun _ => ?_)
  simp only [Act.put, List.setIfInBounds_toArray, List.set_cons_zero, List.set_cons_succ]
  refine wpAnyH_ready (rs := [5]) (by kernel_rfl) (by simp) ?_
  refine AllReadyH.cons (o := { dst := some 5, op := .assign (.tmp 11), type := TR, pos := pos, after := #[{ on := 4, ground := .data }, { on := 4, ground := .chain }, { on := 0, ground := .phase }, { on := 1, ground := .phase }, { on := 2, ground := .phase }, { on := 3, ground := .phase }, { on := 4, ground := .phase }], guard := none }) rfl (fun K hK => ?_) AllReadyH.nil
  rw [if_pos (by rfl)]
  refine wp_assign (.tmp 11) rfl (u := u) (by simp [Act.eval]) ?_
  refine hK.out _ _ hl2 (fun _ => ?_)
  simp only [Act.put, List.setIfInBounds_toArray, List.set_cons_zero, List.set_cons_succ]
  have hd := hQ u w2 hG hl2
  refine wpAnyH_done ?_ ?_ _
  · kernel_rfl
  · exact NoPanic.normal hd

set_option maxHeartbeats 1000000 in
set_option maxRecDepth 100000 in
theorem ask2_21 {id : Nat} {pos : String} {TM TA TR : TypeId} {f1 f2 f3 : FuncId} {Q : Exit → Act → World → Prop} {w : World} {t0 t1 t4 t5 t6 t7 t8 t9 t10 t11 t12 t13 t14 t15 t16 t17 t18 t19 t20 : Value} {b1 b2 : Nat} {k n p : Int} {m : Mm} {G : Value → Prop}
    (hf1 : ∀ (xs : Array Value) (w : World), (callFunc f1 xs).run Tryd.prog w = .ok (.enter f1 xs) w) (hf2 : ∀ (xs : Array Value) (w : World), (callFunc f2 xs).run Tryd.prog w = .ok (.enter f2 xs) w) (hf3 : ∀ (xs : Array Value) (w : World), (callFunc f3 xs).run Tryd.prog w = .ok (.enter f3 xs) w)
    (hI : RowAt w b1 36 136 m.cell) (hA : w.rangeAt b2 0 [.int .i64 k, .int .i64 n, .int .i64 p]) (hb2 : b2 < w.heap.size)
    (h1 : ∀ W, Calls Tryd.prog f1 #[m.val] W fun e w' => e = .returned m.val ∧ Below W.heap.size W w')
    (h2 : ∀ W, Calls Tryd.prog f2 #[.agg #[.int .i64 k, .int .i64 n, .int .i64 p]] W fun e w' => e = .returned (.agg #[.int .i64 k, .int .i64 n, .int .i64 p]) ∧ Below W.heap.size W w')
    (h3 : ∀ W, Below w.heap.size w W → Calls Tryd.prog f3 #[m.val, .agg #[.int .i64 k, .int .i64 n, .int .i64 p]] W fun e w' => ∃ u, e = .returned u ∧ G u ∧ Below W.heap.size W w')
    (hQ : ∀ u w', G u → Below w.heap.size w w' → Q .normal { tmps := #[t0, t1, .pointer (some ⟨b1, 0, none⟩), .pointer (some ⟨b2, 0, none⟩), t4, t5, u, t7, t8, t9, t10, t11, m.val, m.val, .agg #[.int .i64 k, .int .i64 n, .int .i64 p], .agg #[.int .i64 k, .int .i64 n, .int .i64 p], u, t17, t18, t19, t20], defers := [] } w') :
    (Code.region id #[{ dst := some 12, op := .load 36 (.tmp 2), type := 36, pos := pos, after := #[], guard := none },
      { dst := some 13, op := .call { callee := .value (.func f1), args := #[.tmp 12], argTypes := #[36] }, type := TM, pos := pos, after := #[{ on := 0, ground := .data }], guard := none },
      { dst := some 14, op := .load 38 (.tmp 3), type := 38, pos := pos, after := #[], guard := none },
      { dst := some 15, op := .call { callee := .value (.func f2), args := #[.tmp 14], argTypes := #[38] }, type := TA, pos := pos, after := #[{ on := 2, ground := .data }, { on := 1, ground := .chain }], guard := none },
      { dst := some 16, op := .call { callee := .value (.func f3), args := #[.tmp 13, .tmp 15], argTypes := #[TM, TA] }, type := TR, pos := pos, after := #[{ on := 1, ground := .data }, { on := 3, ground := .data }, { on := 3, ground := .chain }], guard := none },
      { dst := some 6, op := .assign (.tmp 16), type := TR, pos := pos, after := #[{ on := 4, ground := .data }, { on := 4, ground := .chain }, { on := 0, ground := .phase }, { on := 1, ground := .phase }, { on := 2, ground := .phase }, { on := 3, ground := .phase }, { on := 4, ground := .phase }], guard := none }] true).wp Tryd.prog Q { tmps := #[t0, t1, .pointer (some ⟨b1, 0, none⟩), .pointer (some ⟨b2, 0, none⟩), t4, t5, t6, t7, t8, t9, t10, t11, t12, t13, t14, t15, t16, t17, t18, t19, t20], defers := [] } w := by
  have hAW : ∀ W, Below w.heap.size w W → W.rangeAt b2 0 [.int .i64 k, .int .i64 n, .int .i64 p] := fun W hb j u hu => by
    rw [hb.cell (p := ⟨b2, 0 + j, none⟩) hb2]; exact hA j u hu
  refine wp_region_noPanic ?_
  refine wp_region_held_drew (S := fun W => Below w.heap.size w W) (by kernel_rfl) (Below.refl _ _).drew (fun hHeld => ?_)
  refine wpAnyH_take (i := 0) (oi := { dst := some 12, op := .load 36 (.tmp 2), type := 36, pos := pos, after := #[], guard := none }) (v := m.val) rfl (by kernel_rfl) (by kernel_rfl) (by kernel_rfl) (fun _ _ _ h => h) (yields_row (by rfl) (.tmp 2) rfl rfl (fun W hb => RowAt.to hI hb) Tryd.underlying36 rfl (by kernel_rfl)) hHeld ?_
  simp only [Act.put, List.setIfInBounds_toArray, List.set_cons_zero, List.set_cons_succ]
  refine wpAnyH_take (i := 2) (oi := { dst := some 14, op := .load 38 (.tmp 3), type := 38, pos := pos, after := #[], guard := none }) (v := .agg #[.int .i64 k, .int .i64 n, .int .i64 p]) rfl (by kernel_rfl) (by kernel_rfl) (by kernel_rfl) (fun _ _ _ h => h) (yieldsIf_load_mid (by rfl) _ _ rfl b2 0 rfl [.int .i64 k, .int .i64 n, .int .i64 p] _ hAW Tryd.underlying38 rfl (by kernel_rfl)) hHeld ?_
  simp only [Act.put, List.setIfInBounds_toArray, List.set_cons_zero, List.set_cons_succ]
  refine wpAnyH_ready (rs := [1]) (by kernel_rfl) (by simp) ?_
  refine AllReadyH.cons (o := { dst := some 13, op := .call { callee := .value (.func f1), args := #[.tmp 12], argTypes := #[36] }, type := TM, pos := pos, after := #[{ on := 0, ground := .data }], guard := none }) rfl (fun K hK => ?_) AllReadyH.nil
  rw [if_pos (by rfl)]
  refine wp_callGo (args := #[m.val]) hf1 rfl (by simp [Act.eval]) (h1 _) ?_
  intro w0 hb0
  have hl0 : Below w.heap.size w w0 := Below.trans hHeld (Below.mono hb0 (Below.size hHeld))
  refine hK.out _ _ hl0 (fun _ => ?_)
  simp only [Act.put, List.setIfInBounds_toArray, List.set_cons_zero, List.set_cons_succ]
  refine wpAnyH_ready (rs := [3]) (by kernel_rfl) (by simp) ?_
  refine AllReadyH.cons (o := { dst := some 15, op := .call { callee := .value (.func f2), args := #[.tmp 14], argTypes := #[38] }, type := TA, pos := pos, after := #[{ on := 2, ground := .data }, { on := 1, ground := .chain }], guard := none }) rfl (fun K hK => ?_) AllReadyH.nil
  rw [if_pos (by rfl)]
  refine wp_callGo (args := #[.agg #[.int .i64 k, .int .i64 n, .int .i64 p]]) hf2 rfl (by simp [Act.eval]) (h2 _) ?_
  intro w1 hb1
  have hl1 : Below w.heap.size w w1 := Below.trans hl0 (Below.mono hb1 (Below.size hl0))
  refine hK.out _ _ hl1 (fun _ => ?_)
  simp only [Act.put, List.setIfInBounds_toArray, List.set_cons_zero, List.set_cons_succ]
  refine wpAnyH_ready (rs := [4]) (by kernel_rfl) (by simp) ?_
  refine AllReadyH.cons (o := { dst := some 16, op := .call { callee := .value (.func f3), args := #[.tmp 13, .tmp 15], argTypes := #[TM, TA] }, type := TR, pos := pos, after := #[{ on := 1, ground := .data }, { on := 3, ground := .data }, { on := 3, ground := .chain }], guard := none }) rfl (fun K hK => ?_) AllReadyH.nil
  rw [if_pos (by rfl)]
  refine wp_callSome (args := #[m.val, .agg #[.int .i64 k, .int .i64 n, .int .i64 p]]) hf3 rfl (by simp [Act.eval]) (h3 _ hl1) ?_
  intro u w2 hG hb2'
  have hl2 : Below w.heap.size w w2 := Below.trans hl1 (Below.mono hb2' (Below.size hl1))
  refine hK.out _ _ hl2 (fun _ => ?_)
  simp only [Act.put, List.setIfInBounds_toArray, List.set_cons_zero, List.set_cons_succ]
  refine wpAnyH_ready (rs := [5]) (by kernel_rfl) (by simp) ?_
  refine AllReadyH.cons (o := { dst := some 6, op := .assign (.tmp 16), type := TR, pos := pos, after := #[{ on := 4, ground := .data }, { on := 4, ground := .chain }, { on := 0, ground := .phase }, { on := 1, ground := .phase }, { on := 2, ground := .phase }, { on := 3, ground := .phase }, { on := 4, ground := .phase }], guard := none }) rfl (fun K hK => ?_) AllReadyH.nil
  rw [if_pos (by rfl)]
  refine wp_assign (.tmp 16) rfl (u := u) (by simp [Act.eval]) ?_
  refine hK.out _ _ hl2 (fun _ => ?_)
  simp only [Act.put, List.setIfInBounds_toArray, List.set_cons_zero, List.set_cons_succ]
  have hd := hQ u w2 hG hl2
  refine wpAnyH_done ?_ ?_ _
  · kernel_rfl
  · exact NoPanic.normal hd
end Go.Proofs.YtljhpagpohihcabDoor
