/- The program's ActTest: a part is made and asked through its interface. Helper text: no statement is claimed here. -/
import Derived.Test.YtmgjngihngddfaaGreatDoorVy
namespace Go.Proofs.YtmgjngihngddfaaGreatDoor
open Go.ChangeShapes Go.WideShapes Go.ChangeAt Go.RowKit Fl

theorem range2V {w : World} {b : Nat} {x y : Value} (h0 : w.cell? ⟨b, 0, none⟩ = some x) (h1 : w.cell? ⟨b, 1, none⟩ = some y) : w.rangeAt b 0 [x, y] := fun j v hv => by
  rw [Nat.zero_add]
  match j, hv with
  | 0, hv => simp at hv; rw [h0, hv]
  | 1, hv => simp at hv; rw [h1, hv]
theorem wp_callInvokeE {o : Oper} {a : Act} {w : World} {K : Act → World → Prop} {Q : Exit → Act → World → Prop} {f : FuncId} {x : Operand} {name : String} {xs : Array Operand} {ts : Array TypeId} {t : TypeId} {dv r : Value} {R : Value → World → Prop} (hf : ∀ (xs : Array Value) (w : World), (callFunc f xs).run Tryz.prog w = .ok (.enter f xs) w)
    (hme : ∀ w, (method 256 t dv name).run Tryz.prog w = .ok (f, r) w) (ho : o.op = .call { callee := .invoke x name, args := xs, argTypes := ts }) (hx : a.eval x = .iface t dv)
    {args : Array Value} (ha : #[r] ++ xs.map a.eval = args) (hC : Calls Tryz.prog f args w fun e w' => ∃ v, e = .returned v ∧ R v w') (hk : ∀ v w', R v w' → K (a.put o.dst v) w') : o.wp Tryz.prog a w K Q := by
  subst ha
  have hq : ∀ E : Operand → Value, E x = .iface t dv → (execOp E o).run Tryz.prog w = .ok (.enter f (#[r] ++ xs.map E)) w := fun E hE => by
    unfold execOp
    rw [ho]
    have h0 : (#[Value.iface t dv] ++ Array.map E xs)[0]? = some (.iface t dv) := by rw [Array.getElem?_append_left (by simp)]; rfl
    have h1 : (Array.map E xs).extract 0 xs.size = Array.map E xs := by rw [show xs.size = (Array.map E xs).size by simp]; exact Array.extract_size
    simp [go_sem, resolve, hE, h0, h1]
    simp [hme, hf]
  have he := hq a.eval hx
  unfold Oper.wp
  rw [he, Oper.upon_enter]
  refine hC.mono ?_
  rintro e w' ⟨v, rfl, h⟩
  exact hk v w' h

set_option maxHeartbeats 1000000 in
set_option maxRecDepth 100000 in
theorem test_region {id : Nat} {pos name : String} {TP TT TB TD : TypeId} {f1 fm : FuncId} {Q : Exit → Act → World → Prop} {w : World} {t0 t1 t5 t6 t7 t8 t9 t10 t11 dv r : Value} {b2 b3 b4 n cap : Nat} {p : Option Addr} {op : Int} {m m' : Mm} {D : List _} {P : Bool → Prop}
    (hf1 : ∀ (xs : Array Value) (w : World), (callFunc f1 xs).run Tryz.prog w = .ok (.enter f1 xs) w) (hfm : ∀ (xs : Array Value) (w : World), (callFunc fm xs).run Tryz.prog w = .ok (.enter fm xs) w) (hme : ∀ w, (method 256 TD dv name).run Tryz.prog w = .ok (fm, r) w)
    (hM : MemAt w b2 m) (hE : w.rangeAt b3 0 [.int .i64 op, .slice p n cap]) (h3 : b3 < w.heap.size) (hR : MemAt w b4 zeroM) (n2 : b2 ≠ b4) (n3 : b3 ≠ b4)
    (h1 : ∀ W, Below w.heap.size w W → Calls Tryz.prog f1 #[.agg #[.int .i64 op, .slice p n cap]] W fun e w' => e = .returned (.iface TD dv) ∧ Below W.heap.size W w')
    (h2 : ∀ W, Below w.heap.size w W → Calls Tryz.prog fm #[r, m.val] W fun e w' => ∃ v, e = .returned v ∧ (∃ b, v = .tuple #[m'.val, .bool b] ∧ P b) ∧ Below W.heap.size W w')
    (hQ : ∀ b w', P b → MemAt w' b4 m' → (∀ B a, Below B a w → B ≤ b4 → B ≤ w.heap.size → Below B a w') → Q .normal { tmps := #[t0, t1, .pointer (some ⟨b2, 0, none⟩), .pointer (some ⟨b3, 0, none⟩), .pointer (some ⟨b4, 0, none⟩), .bool b, .agg #[.int .i64 op, .slice p n cap], .iface TD dv, m.val, .tuple #[m'.val, .bool b], m'.val, .bool b], defers := D } w') :
    (Code.region id #[{ dst := some 6, op := .load 40 (.tmp 3), type := 40, pos := pos, after := #[], guard := none }, { dst := some 7, op := .call { callee := .value (.func f1), args := #[.tmp 6], argTypes := #[40] }, type := TP, pos := pos, after := #[{ on := 0, ground := .data }], guard := none }, { dst := some 8, op := .load 37 (.tmp 2), type := 37, pos := pos, after := #[], guard := none }, { dst := some 9, op := .call { callee := .invoke (.tmp 7) name, args := #[.tmp 8], argTypes := #[37] }, type := TT, pos := pos, after := #[{ on := 1, ground := .data }, { on := 2, ground := .data }, { on := 1, ground := .chain }], guard := none }, { dst := some 10, op := .extract (.tmp 9) 0, type := 37, pos := pos, after := #[{ on := 3, ground := .data }], guard := none }, { dst := some 11, op := .extract (.tmp 9) 1, type := TB, pos := pos, after := #[{ on := 3, ground := .data }], guard := none }, { dst := none, op := .store 37 (.tmp 4) (.tmp 10), type := 0, pos := pos, after := #[{ on := 4, ground := .data }, { on := 3, ground := .chain }, { on := 0, ground := .phase }, { on := 1, ground := .phase }, { on := 2, ground := .phase }, { on := 3, ground := .phase }, { on := 4, ground := .phase }, { on := 5, ground := .phase }], guard := none }, { dst := some 5, op := .assign (.tmp 11), type := TB, pos := pos, after := #[{ on := 5, ground := .data }, { on := 6, ground := .chain }, { on := 0, ground := .phase }, { on := 1, ground := .phase }, { on := 2, ground := .phase }, { on := 3, ground := .phase }, { on := 4, ground := .phase }, { on := 5, ground := .phase }, { on := 6, ground := .phase }], guard := none }] true).wp Tryz.prog Q { tmps := #[t0, t1, .pointer (some ⟨b2, 0, none⟩), .pointer (some ⟨b3, 0, none⟩), .pointer (some ⟨b4, 0, none⟩), t5, t6, t7, t8, t9, t10, t11], defers := D } w := by
  refine wp_region_noPanic ?_
  refine wp_region_held_drew (S := Same1 w b4) (by kernel_rfl) (Same1.of _ (Below.refl _ _).drew) (fun hHeld => ?_)
  refine wpAnyH_take (i := 0) (oi := { dst := some 6, op := .load 40 (.tmp 3), type := 40, pos := pos, after := #[], guard := none }) (v := .agg #[.int .i64 op, .slice p n cap]) rfl (by kernel_rfl) (by kernel_rfl) (by kernel_rfl) (fun _ _ _ h => h) (yieldsIf_load_mid (by rfl) _ _ rfl b3 0 rfl [.int .i64 op, .slice p n cap] _ (fun W h => h.range hE h3 n3) Tryz.underlying40 rfl (by kernel_rfl)) hHeld ?_
  simp only [Act.put, List.setIfInBounds_toArray, List.set_cons_zero, List.set_cons_succ]
  refine wpAnyH_take (i := 2) (oi := { dst := some 8, op := .load 37 (.tmp 2), type := 37, pos := pos, after := #[], guard := none }) (v := m.val) rfl (by kernel_rfl) (by kernel_rfl) (by kernel_rfl) (fun _ _ _ h => h) (yields_row (by rfl) (.tmp 2) rfl rfl (fun W hb => hb.mem hM n2) Tryz.underlying37 rfl (by kernel_rfl)) hHeld ?_
  simp only [Act.put, List.setIfInBounds_toArray, List.set_cons_zero, List.set_cons_succ]
  refine wpAnyH_ready (rs := [1]) (by kernel_rfl) (by simp) ?_
  refine AllReadyH.cons (o := { dst := some 7, op := .call { callee := .value (.func f1), args := #[.tmp 6], argTypes := #[40] }, type := TP, pos := pos, after := #[{ on := 0, ground := .data }], guard := none }) rfl (fun K hK => ?_) AllReadyH.nil
  rw [if_pos (by rfl)]
  refine wp_callGo (args := #[.agg #[.int .i64 op, .slice p n cap]]) hf1 rfl (by simp [Act.eval]) (h1 _ (Below.refl _ _).drew) ?_
  intro w1 hb1
  have hl1 : Below w.heap.size w w1 := (Below.refl _ _).drew.trans (hb1.mono (Nat.le_refl _))
  refine hK.out _ _ (Same1.of _ hl1) (fun hHeld => ?_)
  simp only [Act.put, List.setIfInBounds_toArray, List.set_cons_zero, List.set_cons_succ]
  refine wpAnyH_ready (rs := [3]) (by kernel_rfl) (by simp) ?_
  refine AllReadyH.cons (o := { dst := some 9, op := .call { callee := .invoke (.tmp 7) name, args := #[.tmp 8], argTypes := #[37] }, type := TT, pos := pos, after := #[{ on := 1, ground := .data }, { on := 2, ground := .data }, { on := 1, ground := .chain }], guard := none }) rfl (fun K hK => ?_) AllReadyH.nil
  rw [if_pos (by rfl)]
  refine wp_callInvokeE (args := #[r, m.val]) hfm hme rfl (by simp [Act.eval]) (by simp [Act.eval]) (h2 _ hl1) ?_
  rintro _ w2 ⟨⟨b, rfl, hP⟩, hb2⟩
  have hl2 : Below w.heap.size w w2 := hl1.trans (hb2.mono hl1.size)
  refine hK.out _ _ (Same1.of _ hl2) (fun hHeld => ?_)
  simp only [Act.put, List.setIfInBounds_toArray, List.set_cons_zero, List.set_cons_succ]
  refine wpAnyH_take (i := 4) (oi := { dst := some 10, op := .extract (.tmp 9) 0, type := 37, pos := pos, after := #[{ on := 3, ground := .data }], guard := none }) (v := m'.val) rfl (by kernel_rfl) (by kernel_rfl) (by kernel_rfl) (fun _ _ _ h => h) (.inl ⟨by rfl, fun _ _ => rfl⟩) hHeld ?_
  simp only [Act.put, List.setIfInBounds_toArray, List.set_cons_zero, List.set_cons_succ]
  refine wpAnyH_take (i := 5) (oi := { dst := some 11, op := .extract (.tmp 9) 1, type := TB, pos := pos, after := #[{ on := 3, ground := .data }], guard := none }) (v := .bool b) rfl (by kernel_rfl) (by kernel_rfl) (by kernel_rfl) (fun _ _ _ h => h) (.inl ⟨by rfl, fun _ _ => rfl⟩) hHeld ?_
  simp only [Act.put, List.setIfInBounds_toArray, List.set_cons_zero, List.set_cons_succ]
  refine wpAnyH_ready (rs := [6]) (by kernel_rfl) (by simp) ?_
  refine AllReadyH.cons (o := { dst := none, op := .store 37 (.tmp 4) (.tmp 10), type := 0, pos := pos, after := #[{ on := 4, ground := .data }, { on := 3, ground := .chain }, { on := 0, ground := .phase }, { on := 1, ground := .phase }, { on := 2, ground := .phase }, { on := 3, ground := .phase }, { on := 4, ground := .phase }, { on := 5, ground := .phase }], guard := none }) rfl (fun K hK => ?_) AllReadyH.nil
  rw [if_pos (by rfl)]
  with_reducible refine wp_storeMemV (m := m') (b := b4) (.tmp 4) (.tmp 10) ?_ ?_ ?_ (hR.to hl2) ?_
  · rfl
  · simp [Act.eval]
  · simp [Act.eval]
  intro w3 HM3 hk3 hb3
  refine hK.out _ _ ((Same1.of _ hl2).on hk3) (fun hHeld => ?_)
  simp only [Act.put]
  refine wpAnyH_take (i := 7) (oi := { dst := some 5, op := .assign (.tmp 11), type := TB, pos := pos, after := #[{ on := 5, ground := .data }, { on := 6, ground := .chain }, { on := 0, ground := .phase }, { on := 1, ground := .phase }, { on := 2, ground := .phase }, { on := 3, ground := .phase }, { on := 4, ground := .phase }, { on := 5, ground := .phase }, { on := 6, ground := .phase }], guard := none }) (v := .bool b) rfl (by kernel_rfl) (by kernel_rfl) (by kernel_rfl) (fun _ _ _ h => h) (.inl ⟨by rfl, fun _ _ => rfl⟩) hHeld ?_
  simp only [Act.put, List.setIfInBounds_toArray, List.set_cons_zero, List.set_cons_succ]
  have hd := hQ b w3 hP HM3 (fun B a hb hB hB' => hb3 _ _ (hb.trans (hl2.mono hB')) hB)
  refine wpAnyH_done ?_ ?_ _
  · kernel_rfl
  · exact NoPanic.normal hd

set_option maxHeartbeats 1000000 in
set_option maxRecDepth 100000 in
theorem says_none (x : Nat → Int) (m : Mm) (w : World) :
    Calls Tryz.prog 80 #[lit9 x, m.val] w fun e w' => ∃ b, e = .returned (.tuple #[m.val, .bool b]) ∧ b = false ∧ Below w.heap.size w w' := by
  have hz : ∀ w, (zeroValue 37).run Tryz.prog w = .ok (.agg zeroM.cells) w := fun _ => by kernel_rfl
  unfold lit9
  generalize x 0 = x0 at *
  generalize x 1 = x1 at *
  generalize x 2 = x2 at *
  generalize x 3 = x3 at *
  generalize x 4 = x4 at *
  generalize x 5 = x5 at *
  generalize x 6 = x6 at *
  generalize x 7 = x7 at *
  generalize x 8 = x8 at *
  have hu : m.val = .agg m.cells := rfl
  rw [hu]
  clear hu
  go_enter Tryz.func80, Tryz.ntmps80
  go_upto_region 1 with fail
  have HB : Hid (Below w.heap.size w (((w.alloc (.cells #[.int .i64 x0, .int .i64 x1, .int .i64 x2, .int .i64 x3, .int .i64 x4, .int .i64 x5, .int .i64 x6, .int .i64 x7, .int .i64 x8] 84)).alloc (.cells m.cells 37)).alloc (.cells zeroM.cells 37))) := (((Below.refl _ _).alloc (Nat.le_refl _) _).alloc (by simp) _).alloc (by simp; omega) _
  have HI : Hid (MemAt (((w.alloc (.cells #[.int .i64 x0, .int .i64 x1, .int .i64 x2, .int .i64 x3, .int .i64 x4, .int .i64 x5, .int .i64 x6, .int .i64 x7, .int .i64 x8] 84)).alloc (.cells m.cells 37)).alloc (.cells zeroM.cells 37)) (w.heap.size + 1) m) := by
    have := (RowAt.new (w.alloc (.cells #[.int .i64 x0, .int .i64 x1, .int .i64 x2, .int .i64 x3, .int .i64 x4, .int .i64 x5, .int .i64 x6, .int .i64 x7, .int .i64 x8] 84)) 37 136 m.cell).alloc (.cells zeroM.cells 37)
    rw [show ((w.alloc (.cells #[.int .i64 x0, .int .i64 x1, .int .i64 x2, .int .i64 x3, .int .i64 x4, .int .i64 x5, .int .i64 x6, .int .i64 x7, .int .i64 x8] 84))).heap.size = w.heap.size + 1 by simp] at this
    exact this
  have HR : Hid (MemAt (((w.alloc (.cells #[.int .i64 x0, .int .i64 x1, .int .i64 x2, .int .i64 x3, .int .i64 x4, .int .i64 x5, .int .i64 x6, .int .i64 x7, .int .i64 x8] 84)).alloc (.cells m.cells 37)).alloc (.cells zeroM.cells 37)) (w.heap.size + 1 + 1) zeroM) := by
    have := RowAt.new ((w.alloc (.cells #[.int .i64 x0, .int .i64 x1, .int .i64 x2, .int .i64 x3, .int .i64 x4, .int .i64 x5, .int .i64 x6, .int .i64 x7, .int .i64 x8] 84)).alloc (.cells m.cells 37)) 37 136 zeroM.cell
    rw [show (((w.alloc (.cells #[.int .i64 x0, .int .i64 x1, .int .i64 x2, .int .i64 x3, .int .i64 x4, .int .i64 x5, .int .i64 x6, .int .i64 x7, .int .i64 x8] 84)).alloc (.cells m.cells 37))).heap.size = w.heap.size + 1 + 1 by simp] at this
    exact this
  have hlt : w.heap.size + 1 + 1 < ((((w.alloc (.cells #[.int .i64 x0, .int .i64 x1, .int .i64 x2, .int .i64 x3, .int .i64 x4, .int .i64 x5, .int .i64 x6, .int .i64 x7, .int .i64 x8] 84)).alloc (.cells m.cells 37)).alloc (.cells zeroM.cells 37))).heap.size := HR.out.lt
  generalize (((w.alloc (.cells #[.int .i64 x0, .int .i64 x1, .int .i64 x2, .int .i64 x3, .int .i64 x4, .int .i64 x5, .int .i64 x6, .int .i64 x7, .int .i64 x8] 84)).alloc (.cells m.cells 37)).alloc (.cells zeroM.cells 37)) = V at *
  clear hz
  go_wp2_with (first
    | refine wpList_rowLoad rfl 37 (.tmp 3) rfl _ 0 136 m.cell rfl HI.out (by omega) (fun i _ => by rw [Nat.zero_add]) Tryz.underlying37 rfl (by kernel_rfl) ?_
    | (refine wpList_rowStore rfl 37 (.tmp 4) (.tmp 6) rfl _ 0 136 m.cell m.cell rfl rfl HR.out (by omega) (fun i _ => cell_one m i) (fun i hi => by rw [if_pos ⟨by omega, by omega⟩, Nat.sub_zero]) (by kernel_rfl) ?_; intro w2 HZ2 hz2 hk2 hb2))
  exact bodyPost_ret (resMB Tryz.results80 rfl rfl HZ2) rfl ⟨false, rfl, rfl, hb2 _ _ HB.out (by omega)⟩
end Go.Proofs.YtmgjngihngddfaaGreatDoor
