/- Steps of a walk at calls and at whole memories. Helper text: no statement is claimed here. -/
import Derived.Test.YtjacgamgjjpllaaGreatDoorP06
import Derived.Deep.RegionHeld3
import Derived.Test.YtjacgamgjjpllaaGreatDoorXm
namespace Go.Proofs.YtjacgamgjjpllaaGreatDoor
open Go.ChangeShapes Go.WideShapes Go.ChangeAt Go.RowKit

theorem RowAt.range {w : World} {b n : Nat} {t : TypeId} {f : Nat → Value} (h : RowAt w b t n f) : w.rangeAt b 0 (cellsOf n f).toList := fun j v hv => by
  have hj : j < n := by
    have := (List.getElem?_eq_some_iff.1 hv).1
    simpa [cellsOf_size] using this
  rw [Nat.zero_add, h.cell hj]
  rw [Array.getElem?_toList, cellsOf_at _ hj] at hv
  exact hv
/-- A call of a function of the program, whatever it is called with. -/
theorem wp_callGo {o : Oper} {a : Act} {w : World} {K : Act → World → Prop} {Q : Exit → Act → World → Prop} {f : FuncId} {xs : Array Operand} {ts : Array TypeId} {v : Value} {R : World → Prop} (hf : ∀ (xs : Array Value) (w : World), (callFunc f xs).run Tryz.prog w = .ok (.enter f xs) w) (ho : o.op = .call { callee := .value (.func f), args := xs, argTypes := ts })
    {args : Array Value} (ha : xs.map a.eval = args) (hC : Calls Tryz.prog f args w fun e w' => e = .returned v ∧ R w') (hk : ∀ w', R w' → K (a.put o.dst v) w') : o.wp Tryz.prog a w K Q := by
  subst ha
  have he : (execOp a.eval o).run Tryz.prog w = .ok (.enter f (xs.map a.eval)) w := by
    unfold execOp
    rw [ho]
    simp [go_sem, resolve, hf]
  unfold Oper.wp
  rw [he, Oper.upon_enter]
  refine hC.mono ?_
  rintro e w' ⟨rfl, h⟩
  exact hk w' h
theorem wp_allocMem {o : Oper} {a : Act} {w : World} {K : Act → World → Prop} {Q : Exit → Act → World → Prop} (ho : o.op = .alloc 37) (hz : ∀ w, (zeroValue 37).run Tryz.prog w = .ok (.agg zeroM.cells) w)
    (hk : K (a.put o.dst (.pointer (some ⟨w.heap.size, 0, none⟩))) (w.alloc (.cells zeroM.cells 37))) : o.wp Tryz.prog a w K Q := by
  unfold Oper.wp execOp
  rw [ho]
  simp [go_sem, hz]
  exact hk
theorem storeVar_row {w w2 : World} {ty : TypeId} {b o k : Nat} {g : Nat → Value} (hi : (Tryz.prog.info? ty).map (·.size) = some k) (hs : (storeCells ⟨b, o, none⟩ (cellsOf k g).toList 0).run Tryz.prog w = .ok () w2) :
    (storeVar ty ⟨b, o, none⟩ (.agg (cellsOf k g))).run Tryz.prog w = .ok () w2 := by
  cases hq : Tryz.prog.info? ty with
  | none => simp [hq] at hi
  | some i =>
    have hs' : i.size = k := by simpa [hq] using hi
    simp [storeVar, sizeOf, typeInfo, hq, Value.cells, hs', cellsOf_size, hs]
theorem yields_row {ops : Array Oper} {S : World → Prop} {op : Oper} {a : Act} {b n : Nat} {t ty : TypeId} {f : Nat → Value} {d : TypeDesc} (hw : Region.wanted op (yielded ops a.tmps) = true) (x : Operand) (ho : op.op = .load ty x) (hx : a.eval x = .pointer (some ⟨b, 0, none⟩))
    (hS : ∀ w, S w → RowAt w b t n f) (hu : Tryz.prog.underlying ty = some d) (hd : d.isRow = true) (hi : (Tryz.prog.info? ty).map (·.size) = some n) : YieldsIf Tryz.prog ops S op (.agg (cellsOf n f)) a := by
  have := yieldsIf_load_mid (P := Tryz.prog) (ops := ops) (S := S) hw ty x ho b 0 hx (cellsOf n f).toList d (fun w h => (hS w h).range) hu hd (by rw [Array.length_toList, cellsOf_size]; exact hi)
  rwa [Array.toArray_toList] at this
theorem wp_storeMem {o : Oper} {a : Act} {w : World} {K : Act → World → Prop} {Q : Exit → Act → World → Prop} {b : Nat} {m : Mm} (x y : Operand) (ho : o.op = .store 37 x y) (hx : a.eval x = .pointer (some ⟨b, 0, none⟩)) (hy : a.eval y = m.val) {f : Nat → Value} (hR : RowAt w b 37 136 f)
    (hk : ∀ w2, MemAt w2 b m → (∀ B a, Below B a w → B ≤ b → Below B a w2) → K (a.put o.dst undef) w2) : o.wp Tryz.prog a w K Q := by
  obtain ⟨w2, hs, hR2, hz2, hk2, hb2⟩ := hR.store 0 136 m.cell m.cell (by omega) (fun i _ => cell_one m i) (fun i hi => by rw [if_pos ⟨by omega, by omega⟩, Nat.sub_zero])
  have hv : (storeVar 37 ⟨b, 0, none⟩ m.val).run Tryz.prog w = .ok () w2 := storeVar_row (by kernel_rfl) hs
  unfold Oper.wp execOp
  rw [ho]
  simp only [hx, hy, Instr.storeAt, Instr.sureAddr, Sem.run_bind, Sem.run_pure, Result.andThen_ok, hv]
  exact hk w2 hR2 hb2
end Go.Proofs.YtjacgamgjjpllaaGreatDoor

/- A word's value put: the drawn region of l4Word. Helper text: no statement is claimed here. -/
namespace Go.Proofs.YtjacgamgjjpllaaGreatDoor
open Go.ChangeShapes Go.WideShapes Go.ChangeAt Go.RowKit Fl

theorem wp_callEx {o : Oper} {a : Act} {w : World} {K : Act → World → Prop} {Q : Exit → Act → World → Prop} {f : FuncId} {xs : Array Operand} {ts : Array TypeId} {R : Value → World → Prop} (hf : ∀ (xs : Array Value) (w : World), (callFunc f xs).run Tryz.prog w = .ok (.enter f xs) w) (ho : o.op = .call { callee := .value (.func f), args := xs, argTypes := ts })
    {args : Array Value} (ha : xs.map a.eval = args) (hC : Calls Tryz.prog f args w fun e w' => ∃ v, e = .returned v ∧ R v w') (hk : ∀ v w', R v w' → K (a.put o.dst v) w') : o.wp Tryz.prog a w K Q := by
  subst ha
  have he : (execOp a.eval o).run Tryz.prog w = .ok (.enter f (xs.map a.eval)) w := by
    unfold execOp
    rw [ho]
    simp [go_sem, resolve, hf]
  unfold Oper.wp
  rw [he, Oper.upon_enter]
  refine hC.mono ?_
  rintro e w' ⟨v, rfl, h⟩
  exact hk v w' h
theorem range3A {w : World} {b : Nat} {x y z : Value} (h0 : w.cell? ⟨b, 0, none⟩ = some x) (h1 : w.cell? ⟨b, 1, none⟩ = some y) (h2 : w.cell? ⟨b, 2, none⟩ = some z) : w.rangeAt b 0 [x, y, z] := fun j v hv => by
  match j, hv with
  | 0, hv => cases hv; exact h0
  | 1, hv => cases hv; exact h1
  | 2, hv => cases hv; exact h2
theorem slice_at1 (s : ByteArray) (a : Nat) (h : a + 1 ≤ s.size) (w : World) : (Instr.sliceAt 9 (.string s) (some (.int .i64 ((a : Int) + 1))) none none).run Tryz.prog w = .ok (.string (s.extract (a + 1) s.size)) w := by
  rw [show (a : Int) + 1 = ((a + 1 : Nat) : Int) by omega]
  have := slice_from s (a + 1) h w
  simpa [Instr.sliceAt] using this
theorem runMemX {W : World} {b : Nat} {m : Mm} (h : MemAt W b m) : (loadVar 37 ⟨b, 0, none⟩).run Tryz.prog W = .ok m.val W := by
  have := run_loadVar_mid (P := Tryz.prog) W b 0 37 m.cells.toList _ h.range Tryz.underlying37 rfl (by rw [Array.length_toList, cells_size]; kernel_rfl)
  rwa [Array.toArray_toList] at this
theorem wp_loadMemX {o : Oper} {a : Act} {w : World} {K : Act → World → Prop} {Q : Exit → Act → World → Prop} {b : Nat} {m : Mm} (x : Operand) (ho : o.op = .load 37 x) (hx : a.eval x = .pointer (some ⟨b, 0, none⟩)) (hM : MemAt w b m)
    (hk : K (a.put o.dst m.val) w) : o.wp Tryz.prog a w K Q := by
  unfold Oper.wp execOp
  rw [ho]
  simp [hx, Instr.loadAt, Instr.sureAddr, runMemX hM, Oper.upon_value]
  exact hk
/-- A store of many cells into a row, as a step of a region. -/
theorem wp_storeRowX {o : Oper} {a : Act} {w : World} {K : Act → World → Prop} {Q : Exit → Act → World → Prop} {n : Nat} {t : TypeId} {f : Nat → Value} (ty : TypeId) (x y : Operand) (ho : o.op = .store ty x y)
    (b f0 k : Nat) (g f' : Nat → Value) (hx : a.eval x = .pointer (some ⟨b, f0, none⟩)) (hy : a.eval y = .agg (cellsOf k g)) (hR : RowAt w b t n f) (hok : f0 + k ≤ n) (h1 : ∀ i, i < k → (g i).oneCell' = true)
    (e : ∀ i, i < n → f' i = if f0 ≤ i ∧ i < f0 + k then g (i - f0) else f i) (hi : (Tryz.prog.info? ty).map (·.size) = some k)
    (hk : ∀ w2, RowAt w2 b t n f' → w2.heap.size = w.heap.size → (∀ j, j ≠ b → w2.heap[j]? = w.heap[j]?) → (∀ B a, Below B a w → B ≤ b → Below B a w2) → K (a.put o.dst undef) w2) : o.wp Tryz.prog a w K Q := by
  obtain ⟨w2, hs, hR2, hz2, hk2, hb2⟩ := hR.store f0 k g f' hok h1 e
  have hv : (storeVar ty ⟨b, f0, none⟩ (.agg (cellsOf k g))).run Tryz.prog w = .ok () w2 := storeVar_row hi hs
  unfold Oper.wp execOp
  rw [ho]
  simp only [hx, hy, Instr.storeAt, Instr.sureAddr, Sem.run_bind, Sem.run_pure, Result.andThen_ok, hv]
  exact hk w2 hR2 hz2 hk2 hb2
set_option maxHeartbeats 1000000 in
set_option maxRecDepth 100000 in
theorem word_region {id : Nat} {pos : String} {Q : Exit → Act → World → Prop} {V : World} {t0 t3 t4 t6 t7 t9 t10 t11 t12 t13 t14 t15 t16 t17 t18 t19 t20 t21 t22 t23 t24 t25 t26 t27 t28 t29 t30 t31 t32 t33 t34 t35 t36 t37 t38 t39 t40 t41 t42 t43 t44 t45 t46 t47 t48 t49 t50 t51 t52 t53 t54 t55 t56 t57 t58 t59 t60 t61 t62 t63 t64 t65 t66 t67 t68 t69 t70 t71 t72 t73 t74 t75 t76 t77 t78 t79 t80 t81 t82 t83 t84 t85 t86 t87 t88 t89 : Value} {bM bE a : Nat} {s : ByteArray} {k n p : Int} {m : Mm} {D : List _} {R : Mm → Prop} (hs : s.size ≤ 6000)
    (hM : MemAt V bM m) (h0 : V.cell? ⟨bE, 0, none⟩ = some (.int .i64 k)) (h1 : V.cell? ⟨bE, 1, none⟩ = some (.int .i64 n)) (h2 : V.cell? ⟨bE, 2, none⟩ = some (.int .i64 p)) (hne : bE ≠ bM) (ha : a + 1 ≤ s.size)
    (hC : ∀ W, Calls Tryz.prog 61 #[m.val, .agg #[.int .i64 k, .int .i64 n, .int .i64 p], .string (s.extract (a + 1) s.size)] W fun e w' => ∃ m' : Mm, e = .returned m'.val ∧ R m' ∧ Below W.heap.size W w')
    (hQ : ∀ (u82 u83 u84 u85 u86 u87 u88 : Value) (m' : Mm) (w' : World), R m' → MemAt w' bM m' → (∀ B x, Below B x V → B ≤ bM → Below B x w') → (∀ b, b < V.heap.size → b ≠ bM → w'.heap[b]? = V.heap[b]?) → Q .normal { tmps := #[t0, .string s, .pointer (some ⟨bM, 0, none⟩), t3, t4, .int .i64 (a : Int), t6, t7, .pointer (some ⟨bE, 0, none⟩), t9, t10, t11, t12, t13, t14, t15, t16, t17, t18, t19, t20, t21, t22, t23, t24, t25, t26, t27, t28, t29, t30, t31, t32, t33, t34, t35, t36, t37, t38, t39, t40, t41, t42, t43, t44, t45, t46, t47, t48, t49, t50, t51, t52, t53, t54, t55, t56, t57, t58, t59, t60, t61, t62, t63, t64, t65, t66, t67, t68, t69, t70, t71, t72, t73, t74, t75, t76, t77, t78, t79, t80, t81, u82, u83, u84, u85, u86, u87, u88, t89], defers := D } w') :
    (Code.region id #[{ dst := some 82, op := .load 37 (.tmp 2), type := 37, pos := pos, after := #[], guard := none }, { dst := some 83, op := .load 71 (.tmp 8), type := 71, pos := pos, after := #[], guard := none }, { dst := some 84, op := .move (.tmp 1), type := 9, pos := pos, after := #[], guard := none }, { dst := some 85, op := .move (.tmp 5), type := 3, pos := pos, after := #[], guard := none }, { dst := some 86, op := .binOp .add 3 (.tmp 85) (.const (.int .i64 1)) 3, type := 3, pos := pos, after := #[{ on := 3, ground := .data }], guard := none }, { dst := some 87, op := .slice 9 (.tmp 84) (some (.tmp 86)) none none, type := 9, pos := pos, after := #[{ on := 2, ground := .data }, { on := 4, ground := .data }], guard := none }, { dst := some 88, op := .call { callee := .value (.func 61), args := #[.tmp 82, .tmp 83, .tmp 87], argTypes := #[37, 71, 9] }, type := 37, pos := pos, after := #[{ on := 0, ground := .data }, { on := 1, ground := .data }, { on := 5, ground := .data }], guard := none }, { dst := none, op := .store 37 (.tmp 2) (.tmp 88), type := 0, pos := pos, after := #[{ on := 6, ground := .data }, { on := 6, ground := .chain }, { on := 0, ground := .phase }, { on := 1, ground := .phase }, { on := 2, ground := .phase }, { on := 3, ground := .phase }, { on := 4, ground := .phase }, { on := 5, ground := .phase }, { on := 6, ground := .phase }], guard := none }] true).wp Tryz.prog Q { tmps := #[t0, .string s, .pointer (some ⟨bM, 0, none⟩), t3, t4, .int .i64 (a : Int), t6, t7, .pointer (some ⟨bE, 0, none⟩), t9, t10, t11, t12, t13, t14, t15, t16, t17, t18, t19, t20, t21, t22, t23, t24, t25, t26, t27, t28, t29, t30, t31, t32, t33, t34, t35, t36, t37, t38, t39, t40, t41, t42, t43, t44, t45, t46, t47, t48, t49, t50, t51, t52, t53, t54, t55, t56, t57, t58, t59, t60, t61, t62, t63, t64, t65, t66, t67, t68, t69, t70, t71, t72, t73, t74, t75, t76, t77, t78, t79, t80, t81, t82, t83, t84, t85, t86, t87, t88, t89], defers := D } V := by
  have hA := range3A h0 h1 h2
  have hadd : IntKind.i64.wrap ((a : Int) + 1) = (a : Int) + 1 := by rw [IntKind.wrap_i64]; omega
  refine wp_region_noPanic ?_
  refine wp_region_held_drew (S := fun W => W.rangeAt bE 0 [.int .i64 k, .int .i64 n, .int .i64 p]) (by kernel_rfl) (fun j v hv => hA j v hv) (fun hHeld => ?_)
  refine wpAnyH_take (i := 1) (oi := { dst := some 83, op := .load 71 (.tmp 8), type := 71, pos := pos, after := #[], guard := none }) (v := .agg #[.int .i64 k, .int .i64 n, .int .i64 p]) rfl (by kernel_rfl) (by kernel_rfl) (by kernel_rfl) (fun _ _ _ h => h) (yieldsIf_load_mid (by rfl) _ _ rfl bE 0 rfl [.int .i64 k, .int .i64 n, .int .i64 p] _ (fun W h => h) Tryz.underlying71 rfl (by kernel_rfl)) hHeld ?_
  simp only [Act.put, List.setIfInBounds_toArray, List.set_cons_zero, List.set_cons_succ]
  refine wpAnyH_take (i := 2) (oi := { dst := some 84, op := .move (.tmp 1), type := 9, pos := pos, after := #[], guard := none }) (v := .string s) rfl (by kernel_rfl) (by kernel_rfl) (by kernel_rfl) (fun _ _ _ h => h) (.inl ⟨by rfl, fun _ _ => rfl⟩) hHeld ?_
  simp only [Act.put, List.setIfInBounds_toArray, List.set_cons_zero, List.set_cons_succ]
  refine wpAnyH_take (i := 3) (oi := { dst := some 85, op := .move (.tmp 5), type := 3, pos := pos, after := #[], guard := none }) (v := .int .i64 (a : Int)) rfl (by kernel_rfl) (by kernel_rfl) (by kernel_rfl) (fun _ _ _ h => h) (.inl ⟨by rfl, fun _ _ => rfl⟩) hHeld ?_
  simp only [Act.put, List.setIfInBounds_toArray, List.set_cons_zero, List.set_cons_succ]
  refine wpAnyH_take (i := 4) (oi := { dst := some 86, op := .binOp .add 3 (.tmp 85) (.const (.int .i64 1)) 3, type := 3, pos := pos, after := #[{ on := 3, ground := .data }], guard := none }) (v := .int .i64 ((a : Int) + 1)) rfl (by kernel_rfl) (by kernel_rfl) (by kernel_rfl) (fun _ _ _ h => h) (.inl ⟨by rfl, fun _ _ => by simp [execOp, Act.eval, go_sem, hadd]⟩) hHeld ?_
  simp only [Act.put, List.setIfInBounds_toArray, List.set_cons_zero, List.set_cons_succ]
  refine wpAnyH_take (i := 5) (oi := { dst := some 87, op := .slice 9 (.tmp 84) (some (.tmp 86)) none none, type := 9, pos := pos, after := #[{ on := 2, ground := .data }, { on := 4, ground := .data }], guard := none }) (v := .string (s.extract (a + 1) s.size)) rfl (by kernel_rfl) (by kernel_rfl) (by kernel_rfl) (fun _ _ _ h => h) (.inl ⟨by rfl, fun W _ => by simp [execOp, Act.eval, slice_at1 s a ha W]⟩) hHeld ?_
  simp only [Act.put, List.setIfInBounds_toArray, List.set_cons_zero, List.set_cons_succ]
  refine wpAnyH_ready (rs := [0]) (by kernel_rfl) (by simp) ?_
  refine AllReadyH.cons (o := { dst := some 82, op := .load 37 (.tmp 2), type := 37, pos := pos, after := #[], guard := none }) rfl (fun K hK => ?_) AllReadyH.nil
  rw [if_pos (by rfl)]
  refine wp_loadMemX (m := m) (b := bM) (.tmp 2) rfl (by simp [Act.eval]) hM ?_
  refine hK.out _ _ hHeld (fun hHeld => ?_)
  simp only [Act.put, List.setIfInBounds_toArray, List.set_cons_zero, List.set_cons_succ]
  refine wpAnyH_ready (rs := [6]) (by kernel_rfl) (by simp) ?_
  refine AllReadyH.cons (o := { dst := some 88, op := .call { callee := .value (.func 61), args := #[.tmp 82, .tmp 83, .tmp 87], argTypes := #[37, 71, 9] }, type := 37, pos := pos, after := #[{ on := 0, ground := .data }, { on := 1, ground := .data }, { on := 5, ground := .data }], guard := none }) rfl (fun K hK => ?_) AllReadyH.nil
  rw [if_pos (by rfl)]
  refine wp_callEx (args := #[m.val, .agg #[.int .i64 k, .int .i64 n, .int .i64 p], .string (s.extract (a + 1) s.size)]) (R := fun v w' => ∃ m' : Mm, v = m'.val ∧ R m' ∧ Below (World.heap V.drew).size V.drew w') Tryz.call61 rfl (by simp [Act.eval]) ((hC _).mono fun e w' ⟨m', he, hr, hb⟩ => ⟨m'.val, he, m', rfl, hr, hb⟩) ?_
  rintro _ w1 ⟨m', rfl, hR', hb1⟩
  have hl1 : Below V.heap.size V w1 := (Below.refl V.heap.size V).drew.trans (hb1.mono (Below.refl V.heap.size V).drew.size)
  have hlE : bE < V.heap.size := World.block_lt_of_cell? V ⟨bE, 0, none⟩ h0
  have hA1 : w1.rangeAt bE 0 [.int .i64 k, .int .i64 n, .int .i64 p] := fun j v hv => by rw [hl1.cell (p := ⟨bE, 0 + j, none⟩) hlE]; exact hA j v hv
  refine hK.out _ _ hA1 (fun hHeld => ?_)
  simp only [Act.put, List.setIfInBounds_toArray, List.set_cons_zero, List.set_cons_succ]
  refine wpAnyH_ready (rs := [7]) (by kernel_rfl) (by simp) ?_
  refine AllReadyH.cons (o := { dst := none, op := .store 37 (.tmp 2) (.tmp 88), type := 0, pos := pos, after := #[{ on := 6, ground := .data }, { on := 6, ground := .chain }, { on := 0, ground := .phase }, { on := 1, ground := .phase }, { on := 2, ground := .phase }, { on := 3, ground := .phase }, { on := 4, ground := .phase }, { on := 5, ground := .phase }, { on := 6, ground := .phase }], guard := none }) rfl (fun K hK => ?_) AllReadyH.nil
  rw [if_pos (by rfl)]
  have hlt := hM.lt
  with_reducible refine wp_storeRowX (n := 136) (t := 37) (f := m.cell) 37 (.tmp 2) (.tmp 88) ?_ bM 0 136 m'.cell m'.cell ?_ ?_ (hM.to hl1) ?_ ?_ ?_ ?_ ?_
  · rfl
  · simp [Act.eval]
  · simp [Act.eval]; rfl
  · omega
  · exact fun i _ => cell_one m' i
  · exact fun i hi => by rw [if_pos ⟨by omega, by omega⟩, Nat.sub_zero]
  · kernel_rfl
  intro w2 HM2 hz2 hk2 hb2
  have hA2 : w2.rangeAt bE 0 [.int .i64 k, .int .i64 n, .int .i64 p] := fun j v hv => by rw [World.cell?_of_block (w := w1) (a := ⟨bE, 0 + j, none⟩) (hk2 bE hne)]; exact hA1 j v hv
  refine hK.out _ _ hA2 (fun hHeld => ?_)
  simp only [Act.put]
  have hd := fun u82 u83 u84 u85 u86 u87 u88 => hQ u82 u83 u84 u85 u86 u87 u88 m' w2 hR' HM2 (fun B x hx hB => hb2 _ _ (hx.trans (hl1.mono (by omega))) hB) (fun b hb hne => (hk2 b hne).trans (hl1.block b hb))
  refine wpAnyH_done ?_ ?_ _
  · kernel_rfl
  · exact NoPanic.normal (hd _ _ _ _ _ _ _)
end Go.Proofs.YtjacgamgjjpllaaGreatDoor

/- One bit of a word, asked and put, on both sides. Helper text: no statement is claimed here. -/
namespace Go.Proofs.YtjacgamgjjpllaaGreatDoor
open Go.ChangeShapes Go.WideShapes Go.ChangeAt Go.RowKit

set_option maxHeartbeats 400000 in
theorem sbit_any (W k : Nat) (w : World) (hW : W < 18446744073709551616) (hk : k ≤ 64) :
    Calls Tryz.prog 106 #[.int .u64 W, .int .i64 k] w fun e w' => e = .returned (.bool (bitN W k)) ∧ w' = w := by
  go_enter Tryz.func106, Tryz.ntmps106
  go_wp2
  go_loop [0, 5] (fun t c => ∃ u j : Nat, j ≤ k ∧ t = .int .u64 (u : Int) ∧ c = .int .i64 (j : Int) ∧ Hid (u = W / 2 ^ j)) (fun _ c => k - (intOf c).toNat)
  case atStart => exact ⟨W, 0, by omega, rfl, rfl, by show _ = _; simp⟩
  case round =>
    obtain ⟨u, j, hj, rfl, rfl, HU⟩ := hrel
    have hu : u < 18446744073709551616 := by rw [HU.out]; exact Nat.lt_of_le_of_lt (Nat.div_le_self _ _) hW
    by_cases hlt : j < k
    · have hlt' : (j : Int) < (k : Int) := by omega
      obtain ⟨u2, hu2⟩ : ∃ u2 : Nat, u2 = u / 2 := ⟨_, rfl⟩
      have h1 : (u : Int).tdiv 2 = (u2 : Int) := by rw [Int.tdiv_eq_ediv_of_nonneg (by omega)]; omega
      have h2 : IntKind.u64.wrap (u2 : Int) = (u2 : Int) := wrap_u64n u2 (by omega)
      have HU2 : Hid (u2 = W / 2 ^ (j + 1)) := by show _ = _; rw [hu2, HU.out, Nat.div_div_eq_div_mul, Nat.pow_succ]
      clear hu2 HU
      go_wp2
      exact ⟨⟨u2, j + 1, by omega, rfl, by go_num, HU2⟩, by simp [intOf]; omega⟩
    · obtain rfl : j = k := by omega
      obtain ⟨r, hr⟩ : ∃ r : Nat, r = u % 2 := ⟨_, rfl⟩
      have h1 : (u : Int).tmod 2 = (r : Int) := by rw [Int.tmod_eq_emod_of_nonneg (by omega)]; omega
      have h2 : IntKind.u64.wrap (r : Int) = (r : Int) := wrap_u64n r (by omega)
      have HR : Hid (((r : Int) == 1) = bitN W j) := by
        show _ = _
        rw [bitN, ← HU.out, ← hr]
        by_cases h : r = 1
        · subst h; rfl
        · have : ¬ (r : Int) = 1 := by omega
          simp [h, this]
      clear hr HU
      go_wp2
      go_ret
      exact ⟨ret_bool4 HR.out, rfl⟩

end Go.Proofs.YtjacgamgjjpllaaGreatDoor

/- A word with one bit put, the document's. Helper text: no statement is claimed here. -/
namespace Go.Proofs.YtjacgamgjjpllaaGreatDoor
open Go.ChangeShapes Go.WideShapes Go.ChangeAt Go.RowKit

set_option maxHeartbeats 400000 in
theorem sturn_any (W k : Nat) (b : Bool) (w : World) (hW : W < 18446744073709551616) (hk : k < 64) :
    Calls Tryz.prog 62 #[.int .u64 W, .int .i64 k, .bool b] w fun e w' => e = .returned (.int .u64 (putN W k b : Nat)) ∧ w' = w := by
  have HB : Hid (∀ w, Calls Tryz.prog 106 #[.int .u64 W, .int .i64 k] w fun e w' => e = .returned (.bool (bitN W k)) ∧ w' = w) := fun w => sbit_any W k w hW (by omega)
  have HP : Hid (∀ q, q = putN W k b → (bitN W k = b → q = W) ∧ (bitN W k = !b → b = true → q = W + 2 ^ k) ∧ (bitN W k = !b → b = false → q = W - 2 ^ k ∧ 2 ^ k ≤ W)) := by
    rintro q rfl
    refine ⟨fun h => ?_, fun h hb => ?_, fun h hb => ?_⟩
    · unfold putN; rw [if_pos h]
    · unfold putN; rw [if_neg (by rw [h]; cases b <;> simp), if_pos hb]
    · refine ⟨?_, ?_⟩
      · unfold putN; rw [if_neg (by rw [h]; cases b <;> simp), if_neg (by simp [hb])]
      · subst hb
        rw [bitN_test] at h
        exact two_pow_le_of_test (by simpa using h)
  have HL : Hid (putN W k b < 18446744073709551616) := putN_lt (n := 64) b hk hW
  generalize hq : putN W k b = q at *
  have HPq := HP.out q rfl
  clear HP hq
  generalize hc : bitN W k = c at *
  by_cases hcb : c = b
  · obtain rfl : q = W := HPq.1 hcb
    subst hcb
    clear HPq
    have hcc : (c == c) = true := by cases c <;> rfl
    go_enter Tryz.func62, Tryz.ntmps62
    go_wp2_with fail
    refine (HB.out _).mono ?_
    rintro e w1 ⟨rfl, rfl⟩
    go_wp2
    go_ret
    exact ⟨rfl, rfl⟩
  · have hcn : c = !b := by cases b <;> cases c <;> first | rfl | exact absurd rfl hcb
    have hcc : (c == b) = false := by cases b <;> cases c <;> first | rfl | exact absurd rfl hcb
    have HQ : Hid ((b = true → q = W + 2 ^ k) ∧ (b = false → q = W - 2 ^ k ∧ 2 ^ k ≤ W)) := ⟨HPq.2.1 hcn, HPq.2.2 hcn⟩
    clear HPq hcn hcb hc
    go_enter Tryz.func62, Tryz.ntmps62
    go_wp2_with fail
    refine (HB.out _).mono ?_
    rintro e w1 ⟨rfl, rfl⟩
    clear HB
    go_wp2
    go_loop [7, 8] (fun t i => ∃ u j : Nat, j ≤ k ∧ t = .int .u64 (u : Int) ∧ i = .int .i64 (j : Int) ∧ Hid (u = 2 ^ j)) (fun _ i => k - (intOf i).toNat)
    case atStart => exact ⟨1, 0, by omega, rfl, rfl, (Nat.pow_zero 2).symm⟩
    case round =>
      obtain ⟨u, j, hj, rfl, rfl, HU⟩ := hrel
      by_cases hlt : j < k
      · have hlt' : (j : Int) < (k : Int) := by omega
        obtain ⟨u2, hu2⟩ : ∃ u2 : Nat, u2 = 2 ^ (j + 1) := ⟨_, rfl⟩
        have hu3 : u2 = u * 2 := by rw [hu2, HU.out, Nat.pow_succ]
        have h1 : (u : Int) * 2 = (u2 : Int) := by omega
        have h2 : IntKind.u64.wrap (u2 : Int) = (u2 : Int) := wrap_u64n u2 (by rw [hu2]; exact pow_lt64 (by omega))
        have HU2 : Hid (u2 = 2 ^ (j + 1)) := hu2
        clear hu2 hu3 HU
        go_wp2
        exact ⟨⟨u2, j + 1, by omega, rfl, by go_num, HU2⟩, by simp [intOf]; omega⟩
      · obtain rfl : j = k := by omega
        have HQ2 := HQ.out
        rw [← HU.out] at HQ2
        cases b
        · obtain ⟨e1, e2⟩ := HQ2.2 rfl
          have h1 : (W : Int) - (u : Int) = (q : Int) := by omega
          have h2 : IntKind.u64.wrap (q : Int) = (q : Int) := wrap_u64n q HL.out
          clear e1 e2 HQ2 HQ HU
          go_wp2
          go_ret
          exact ⟨rfl, rfl⟩
        · have e1 := HQ2.1 rfl
          have h1 : (W : Int) + (u : Int) = (q : Int) := by omega
          have h2 : IntKind.u64.wrap (q : Int) = (q : Int) := wrap_u64n q HL.out
          clear e1 HQ2 HQ HU
          go_wp2
          go_ret
          exact ⟨rfl, rfl⟩

end Go.Proofs.YtjacgamgjjpllaaGreatDoor
