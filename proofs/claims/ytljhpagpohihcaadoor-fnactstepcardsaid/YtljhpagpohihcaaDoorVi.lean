/- The region of ActDo in which a part is made and lets do what it does. Helper text: no statement is claimed here. -/
import Derived.Test.YtljhpagpohihcaaDoorJz
import Derived.Deep.RegionHeld3
namespace Go.Proofs.YtljhpagpohihcaaDoor
open Go.ChangeShapes Go.WideShapes Go.ChangeAt Go.RowKit

/-- A call through an interface. -/
theorem wp_callInvoke {o : Oper} {a : Act} {w : World} {K : Act → World → Prop} {Q : Exit → Act → World → Prop} {f : FuncId} {x : Operand} {name : String} {xs : Array Operand} {ts : Array TypeId} {t : TypeId} {dv r v : Value} {R : World → Prop} (hf : ∀ (xs : Array Value) (w : World), (callFunc f xs).run Tryd.prog w = .ok (.enter f xs) w)
    (hme : ∀ w, (method 291 t dv name).run Tryd.prog w = .ok (f, r) w) (ho : o.op = .call { callee := .invoke x name, args := xs, argTypes := ts }) (hx : a.eval x = .iface t dv)
    {args : Array Value} (ha : #[r] ++ xs.map a.eval = args) (hC : Calls Tryd.prog f args w fun e w' => e = .returned v ∧ R w') (hk : ∀ w', R w' → K (a.put o.dst v) w') : o.wp Tryd.prog a w K Q := by
  subst ha
  have hq : ∀ E : Operand → Value, E x = .iface t dv → (execOp E o).run Tryd.prog w = .ok (.enter f (#[r] ++ xs.map E)) w := fun E hE => by
    unfold execOp
    rw [ho]
    have h0 : (#[Value.iface t dv] ++ Array.map E xs)[0]? = some (.iface t dv) := by rw [Array.getElem?_append_left (by simp)]; rfl
    have h1 : (Array.map E xs).extract 0 xs.size = Array.map E xs := by rw [show xs.size = (Array.map E xs).size by simp]; exact Array.extract_size
    simp [go_sem, resolve, hE, h0, h1]
    simp [hme, hf]
  have he := hq a.eval hx
  unfold Oper.wp
  rw [he, Oper.upon_enter]
  refine hC.mono ?_
  rintro e w' ⟨rfl, h⟩
  exact hk w' h

/-- The same, where the walk stands still ahead of the method that is looked up. -/
theorem upon_invoke {o : Oper} {a : Act} {w : World} {K : Act → World → Prop} {Q : Exit → Act → World → Prop} {F : Nat} {f : FuncId} {name : String} {t : TypeId} {dv r v : Value} {R : World → Prop} {g : Value → Array Value} (hme : (method F t dv name).run Tryd.prog w = .ok (f, r) w) (hf : ∀ (xs : Array Value) (w : World), (callFunc f xs).run Tryd.prog w = .ok (.enter f xs) w)
    (hC : Calls Tryd.prog f (g r) w fun e w' => e = .returned v ∧ R w') (hk : ∀ w', R w' → K (a.put o.dst v) w') : o.upon Tryd.prog a K Q ((Sem.run Tryd.prog (method F t dv name) w).andThen fun b w' => Sem.run Tryd.prog (callFunc b.fst (g b.snd)) w') := by
  rw [hme, Result.andThen_ok, hf, Oper.upon_enter]
  refine hC.mono ?_
  rintro e w' ⟨rfl, h⟩
  exact hk w' h

theorem wp_storeMemV {o : Oper} {a : Act} {w : World} {K : Act → World → Prop} {Q : Exit → Act → World → Prop} {b : Nat} {m : Mm} (x y : Operand) (ho : o.op = .store 37 x y) (hx : a.eval x = .pointer (some ⟨b, 0, none⟩)) (hy : a.eval y = m.val) {f : Nat → Value} (hR : RowAt w b 37 136 f)
    (hk : ∀ w2, MemAt w2 b m → (∀ j, j ≠ b → w2.heap[j]? = w.heap[j]?) → (∀ B a, Below B a w → B ≤ b → Below B a w2) → K (a.put o.dst undef) w2) : o.wp Tryd.prog a w K Q := by
  obtain ⟨w2, hs, hR2, hz2, hk2, hb2⟩ := hR.store 0 136 m.cell m.cell (by omega) (fun i _ => cell_one m i) (fun i hi => by rw [if_pos ⟨by omega, by omega⟩, Nat.sub_zero])
  have hv : (storeVar 37 ⟨b, 0, none⟩ m.val).run Tryd.prog w = .ok () w2 := storeVar_row (by kernel_rfl) hs
  unfold Oper.wp execOp
  rw [ho]
  simp only [hx, hy, Instr.storeAt, Instr.sureAddr, Sem.run_bind, Sem.run_pure, Result.andThen_ok, hv]
  exact hk w2 hR2 hk2 hb2

set_option maxHeartbeats 1000000 in
set_option maxRecDepth 100000 in
theorem do_region {id : Nat} {pos name : String} {TP TB TU TD : TypeId} {f1 fm : FuncId} {Q : Exit → Act → World → Prop} {w : World} {t0 t1 t6 t7 t9 t10 t11 t12 t13 t14 t15 v d dv : Value} {b4 b5 b8 n cap : Nat} {p : Option Addr} {op : Int} {m m' : Mm} {D : List _}
    (hf1 : ∀ (xs : Array Value) (w : World), (callFunc f1 xs).run Tryd.prog w = .ok (.enter f1 xs) w) (hfm : ∀ (xs : Array Value) (w : World), (callFunc fm xs).run Tryd.prog w = .ok (.enter fm xs) w) (hme : ∀ w, (method 291 TD dv name).run Tryd.prog w = .ok (fm, dv) w)
    (hM : MemAt w b4 m) (hE : w.rangeAt b5 0 [.int .i64 op, .slice p n cap]) (h5 : b5 < w.heap.size) (hR : MemAt w b8 zeroM) (n4 : b4 ≠ b8) (n5 : b5 ≠ b8)
    (h1 : ∀ W, Below w.heap.size w W → Calls Tryd.prog f1 #[.agg #[.int .i64 op, .slice p n cap]] W fun e w' => e = .returned (.iface TD dv) ∧ Below W.heap.size W w')
    (h2 : ∀ W, Below w.heap.size w W → Calls Tryd.prog fm #[dv, m.val, v, d] W fun e w' => e = .returned m'.val ∧ Below W.heap.size W w')
    (hQ : ∀ w', MemAt w' b8 m' → MemAt w' b4 m → (∀ B a, Below B a w → B ≤ b8 → B ≤ w.heap.size → Below B a w') → Q .normal { tmps := #[t0, t1, v, d, .pointer (some ⟨b4, 0, none⟩), .pointer (some ⟨b5, 0, none⟩), t6, t7, .pointer (some ⟨b8, 0, none⟩), t9, .agg #[.int .i64 op, .slice p n cap], .iface TD dv, m.val, v, d, m'.val], defers := D } w') :
    (Code.region id #[{ dst := some 10, op := .load 64 (.tmp 5), type := 64, pos := pos, after := #[], guard := none }, { dst := some 11, op := .call { callee := .value (.func f1), args := #[.tmp 10], argTypes := #[64] }, type := TP, pos := pos, after := #[{ on := 0, ground := .data }], guard := none }, { dst := some 12, op := .load 37 (.tmp 4), type := 37, pos := pos, after := #[], guard := none }, { dst := some 13, op := .move (.tmp 2), type := TB, pos := pos, after := #[], guard := none }, { dst := some 14, op := .move (.tmp 3), type := TU, pos := pos, after := #[], guard := none }, { dst := some 15, op := .call { callee := .invoke (.tmp 11) name, args := #[.tmp 12, .tmp 13, .tmp 14], argTypes := #[37, TB, TU] }, type := 37, pos := pos, after := #[{ on := 1, ground := .data }, { on := 2, ground := .data }, { on := 3, ground := .data }, { on := 4, ground := .data }, { on := 1, ground := .chain }], guard := none }, { dst := none, op := .store 37 (.tmp 8) (.tmp 15), type := 0, pos := pos, after := #[{ on := 5, ground := .data }, { on := 5, ground := .chain }, { on := 0, ground := .phase }, { on := 1, ground := .phase }, { on := 2, ground := .phase }, { on := 3, ground := .phase }, { on := 4, ground := .phase }, { on := 5, ground := .phase }], guard := none }] true).wp Tryd.prog Q { tmps := #[t0, t1, v, d, .pointer (some ⟨b4, 0, none⟩), .pointer (some ⟨b5, 0, none⟩), t6, t7, .pointer (some ⟨b8, 0, none⟩), t9, t10, t11, t12, t13, t14, t15], defers := D } w := by
  have hEW : ∀ W, Below w.heap.size w W → W.rangeAt b5 0 [.int .i64 op, .slice p n cap] := fun W hb j u hu => by
    rw [hb.cell (p := ⟨b5, 0 + j, none⟩) h5]; exact hE j u hu
  refine wp_region_noPanic ?_
  refine wp_region_held_drew (S := fun W => MemAt W b4 m ∧ W.rangeAt b5 0 [.int .i64 op, .slice p n cap]) (by kernel_rfl) ⟨hM.to (Below.refl _ _).drew, hEW _ (Below.refl _ _).drew⟩ (fun hHeld => ?_)
  refine wpAnyH_take (i := 0) (oi := { dst := some 10, op := .load 64 (.tmp 5), type := 64, pos := pos, after := #[], guard := none }) (v := .agg #[.int .i64 op, .slice p n cap]) rfl (by kernel_rfl) (by kernel_rfl) (by kernel_rfl) (fun _ _ _ h => h) (yieldsIf_load_mid (by rfl) _ _ rfl b5 0 rfl [.int .i64 op, .slice p n cap] _ (fun _ h => h.2) Tryd.underlying64 rfl (by kernel_rfl)) hHeld ?_
  simp only [Act.put, List.setIfInBounds_toArray, List.set_cons_zero, List.set_cons_succ]
  refine wpAnyH_take (i := 2) (oi := { dst := some 12, op := .load 37 (.tmp 4), type := 37, pos := pos, after := #[], guard := none }) (v := m.val) rfl (by kernel_rfl) (by kernel_rfl) (by kernel_rfl) (fun _ _ _ h => h) (yields_row (by rfl) (.tmp 4) rfl rfl (fun W hb => hb.1) Tryd.underlying37 rfl (by kernel_rfl)) hHeld ?_
  simp only [Act.put, List.setIfInBounds_toArray, List.set_cons_zero, List.set_cons_succ]
  refine wpAnyH_take (i := 3) (oi := { dst := some 13, op := .move (.tmp 2), type := TB, pos := pos, after := #[], guard := none }) (v := v) rfl (by kernel_rfl) (by kernel_rfl) (by kernel_rfl) (fun _ _ _ h => h) (.inl ⟨by rfl, fun _ _ => rfl⟩) hHeld ?_
  simp only [Act.put, List.setIfInBounds_toArray, List.set_cons_zero, List.set_cons_succ]
  refine wpAnyH_take (i := 4) (oi := { dst := some 14, op := .move (.tmp 3), type := TU, pos := pos, after := #[], guard := none }) (v := d) rfl (by kernel_rfl) (by kernel_rfl) (by kernel_rfl) (fun _ _ _ h => h) (.inl ⟨by rfl, fun _ _ => rfl⟩) hHeld ?_
  simp only [Act.put, List.setIfInBounds_toArray, List.set_cons_zero, List.set_cons_succ]
  refine wpAnyH_ready (rs := [1]) (by kernel_rfl) (by simp) ?_
  refine AllReadyH.cons (o := { dst := some 11, op := .call { callee := .value (.func f1), args := #[.tmp 10], argTypes := #[64] }, type := TP, pos := pos, after := #[{ on := 0, ground := .data }], guard := none }) rfl (fun K hK => ?_) AllReadyH.nil
  rw [if_pos (by rfl)]
  refine wp_callGo (args := #[.agg #[.int .i64 op, .slice p n cap]]) hf1 rfl (by simp [Act.eval]) (h1 _ (Below.refl _ _).drew) ?_
  intro w1 hb1
  have hl1 : Below w.heap.size w w1 := (Below.refl _ _).drew.trans (hb1.mono (Nat.le_refl _))
  refine hK.out _ _ ⟨hM.to hl1, hEW _ hl1⟩ (fun hHeld => ?_)
  simp only [Act.put, List.setIfInBounds_toArray, List.set_cons_zero, List.set_cons_succ]
  refine wpAnyH_ready (rs := [5]) (by kernel_rfl) (by simp) ?_
  refine AllReadyH.cons (o := { dst := some 15, op := .call { callee := .invoke (.tmp 11) name, args := #[.tmp 12, .tmp 13, .tmp 14], argTypes := #[37, TB, TU] }, type := 37, pos := pos, after := #[{ on := 1, ground := .data }, { on := 2, ground := .data }, { on := 3, ground := .data }, { on := 4, ground := .data }, { on := 1, ground := .chain }], guard := none }) rfl (fun K hK => ?_) AllReadyH.nil
  rw [if_pos (by rfl)]
  refine wp_callInvoke (args := #[dv, m.val, v, d]) hfm hme rfl (by simp [Act.eval]) (by simp [Act.eval]) (h2 _ hl1) ?_
  intro w2 hb2
  have hl2 : Below w.heap.size w w2 := hl1.trans (hb2.mono hl1.size)
  refine hK.out _ _ ⟨hM.to hl2, hEW _ hl2⟩ (fun hHeld => ?_)
  simp only [Act.put, List.setIfInBounds_toArray, List.set_cons_zero, List.set_cons_succ]
  refine wpAnyH_ready (rs := [6]) (by kernel_rfl) (by simp) (AllReadyH.cons (o := { dst := none, op := .store 37 (.tmp 8) (.tmp 15), type := 0, pos := pos, after := #[{ on := 5, ground := .data }, { on := 5, ground := .chain }, { on := 0, ground := .phase }, { on := 1, ground := .phase }, { on := 2, ground := .phase }, { on := 3, ground := .phase }, { on := 4, ground := .phase }, { on := 5, ground := .phase }], guard := none }) rfl (fun K hK => ?_) AllReadyH.nil)
  rw [if_pos (by rfl)]
  with_reducible refine wp_storeMemV (m := m') (b := b8) (.tmp 8) (.tmp 15) ?_ ?_ ?_ (hR.to hl2) ?_
  · rfl
  · simp [Act.eval]
  · simp [Act.eval]
  intro w3 HM3 hk3 hb3
  have h4 : MemAt w3 b4 m := RowAt.by (hM.to hl2) (hk3 b4 n4)
  have h5' : w3.rangeAt b5 0 [.int .i64 op, .slice p n cap] := fun j u hu => by
    rw [World.cell?_of_block (w := w2) (a := ⟨b5, 0 + j, none⟩) (hk3 b5 n5)]; exact hEW _ hl2 j u hu
  refine hK.out _ _ ⟨h4, h5'⟩ (fun hHeld => ?_)
  have hd := hQ w3 HM3 h4 (fun B a hb hB hB' => hb3 _ _ (hb.trans (hl2.mono hB')) hB)
  simp only [Act.put]
  refine wpAnyH_done ?_ ?_ _
  · kernel_rfl
  · exact NoPanic.normal hd
end Go.Proofs.YtljhpagpohihcaaDoor
