/- The document's ActTest. Helper text: no statement is claimed here. -/
import Derived.Test.YtmgjngihngddfaaGreatDoorP02
import Derived.Test.YtmgjngihngddfaaGreatDoorP04
import Derived.Test.YtmgjngihngddfaaGreatDoorP05
import Derived.Test.YtmgjngihngddfaaGreatDoorP07
import Derived.Test.YtmgjngihngddfaaGreatDoorP09
namespace Go.Proofs.YtmgjngihngddfaaGreatDoor
open Go.ChangeShapes Go.WideShapes Go.ChangeAt Go.RowKit Fl

theorem range3V {w : World} {b : Nat} {x y z : Value} (h0 : w.cell? ⟨b, 0, none⟩ = some x) (h1 : w.cell? ⟨b, 1, none⟩ = some y) (h2 : w.cell? ⟨b, 2, none⟩ = some z) : w.rangeAt b 0 [x, y, z] := fun j v hv => by
  rw [Nat.zero_add]
  match j, hv with
  | 0, hv => simp at hv; rw [h0, hv]
  | 1, hv => simp at hv; rw [h1, hv]
  | 2, hv => simp at hv; rw [h2, hv]
theorem loadMemV {W : World} {b : Nat} {m : Mm} (h : MemAt W b m) : (loadVar 37 ⟨b, 0, none⟩).run Tryz.prog W = .ok m.val W := by
  have := run_loadVar_mid (P := Tryz.prog) W b 0 37 m.cells.toList _ h.range Tryz.underlying37 rfl (by rw [Array.length_toList, cells_size]; kernel_rfl)
  rwa [Array.toArray_toList] at this
/-- A memory that lies there, and a value: two results. -/
theorem resMB {fn : Func} {W : World} {b p r : Nat} {tmps : Array Value} {m : Mm} {v : Value} (h : fn.results = #[.cell p 37, .tmp r]) (hp : tmps.getD p undef = .pointer (some ⟨b, 0, none⟩)) (hr : tmps.getD r undef = v) (hM : MemAt W b m) : (results fn tmps).run Tryz.prog W = .ok (.tuple #[m.val, v]) W := by
  have hp' : tmps[p]?.getD undef = .pointer (some ⟨b, 0, none⟩) := by simpa [Array.getD_eq_getD_getElem?] using hp
  have hr' : tmps[r]?.getD undef = v := by simpa [Array.getD_eq_getD_getElem?] using hr
  simp [results, h, hp', hr', asAddr, loadMemV hM]

set_option maxHeartbeats 1000000 in
set_option maxRecDepth 100000 in
theorem sTest_1 (m : Mm) (hm : m.Ok) (ys : List Ar) (p : Option Addr) (cap : Nat) (w : World) (hA : ArgsIs w p ys) :
    Calls Tryz.prog 6 #[m.val, elemV 1 p ys.length cap] w fun e w' => e = .returned (.tuple #[m.val, .bool (m.bit (at3 ys 0).1 (at3 ys 0).2.1)]) ∧ Below w.heap.size w w' := by
  have hz : ∀ w, (zeroValue 37).run Tryz.prog w = .ok (.agg zeroM.cells) w := fun _ => by kernel_rfl
  have H0 : Hid (∀ W, Below w.heap.size w W → Calls Tryz.prog 19 #[elemV 1 p ys.length cap, .int .i64 0] W fun e w' => e = .returned (arV (at3 ys 0)) ∧ Below W.heap.size W w') := fun W hW => l5Arg_any 1 ys p cap 0 W (hA.to hW)
  have H1 : Hid (∀ W, Below w.heap.size w W → Calls Tryz.prog 19 #[elemV 1 p ys.length cap, .int .i64 1] W fun e w' => e = .returned (arV (at3 ys 1)) ∧ Below W.heap.size W w') := fun W hW => l5Arg_any 1 ys p cap 1 W (hA.to hW)
  clear hA
  generalize at3 ys 0 = A at *
  generalize at3 ys 1 = B at *
  have hu : m.val = .agg m.cells := rfl
  rw [hu]
  clear hu
  go_enter Tryz.func6, Tryz.ntmps6
  go_upto_region 1 with fail
  have HB : Hid (Below w.heap.size w (((w.alloc (.cells m.cells 37)).alloc (.cells #[.int .i64 1, .slice p ys.length cap] 40)).alloc (.cells zeroM.cells 37))) := (((Below.refl _ _).alloc (Nat.le_refl _) _).alloc (by simp) _).alloc (by simp; omega) _
  have HI : Hid (MemAt (((w.alloc (.cells m.cells 37)).alloc (.cells #[.int .i64 1, .slice p ys.length cap] 40)).alloc (.cells zeroM.cells 37)) w.heap.size m) := ((RowAt.new w 37 136 m.cell).alloc _).alloc _
  have HE : Hid (Own2 (((w.alloc (.cells m.cells 37)).alloc (.cells #[.int .i64 1, .slice p ys.length cap] 40)).alloc (.cells zeroM.cells 37)) (w.heap.size + 1) (.int .i64 1) (.slice p ys.length cap)) := by
    have := (Own2.new (w.alloc (.cells m.cells 37)) (.int .i64 1) (.slice p ys.length cap)).alloc (.cells zeroM.cells 37)
    rw [show (w.alloc (.cells m.cells 37)).heap.size = w.heap.size + 1 by simp] at this
    exact this
  have HR : Hid (MemAt (((w.alloc (.cells m.cells 37)).alloc (.cells #[.int .i64 1, .slice p ys.length cap] 40)).alloc (.cells zeroM.cells 37)) (w.heap.size + 1 + 1) zeroM) := by
    have := RowAt.new ((w.alloc (.cells m.cells 37)).alloc (.cells #[.int .i64 1, .slice p ys.length cap] 40)) 37 136 zeroM.cell
    rw [show ((w.alloc (.cells m.cells 37)).alloc (.cells #[.int .i64 1, .slice p ys.length cap] 40)).heap.size = w.heap.size + 1 + 1 by simp] at this
    exact this
  generalize (((w.alloc (.cells m.cells 37)).alloc (.cells #[.int .i64 1, .slice p ys.length cap] 40)).alloc (.cells zeroM.cells 37)) = V at *
  clear hz
  obtain ⟨⟨e0, e1⟩, -, -⟩ := HE.out
  go_wp2_with fail
  refine Calls.mono (H0.out V HB.out) ?_
  rintro e w1 ⟨rfl, hb1⟩
  have HB1 : Hid (Below w.heap.size w w1) := HB.out.trans (hb1.mono HB.out.size)
  have HI1 : Hid (MemAt w1 w.heap.size m) := HI.out.to hb1
  have HE1 : Hid (Own2 w1 (w.heap.size + 1) (.int .i64 1) (.slice p ys.length cap)) := HE.out.below hb1
  have HR1 : Hid (MemAt w1 (w.heap.size + 1 + 1) zeroM) := HR.out.to hb1
  have hl1 : w.heap.size + 1 + 1 < w1.heap.size := HR1.out.lt
  clear hb1 HB HI HE HR e0 e1
  go_upto_region 2 with fail
  have HB2 : Hid (Below w.heap.size w (w1.alloc (.cells #[.int .i64 A.1, .int .i64 A.2.1, .int .i64 A.2.2] 48))) := HB1.out.alloc HB1.out.size _
  have HI2 : Hid (MemAt (w1.alloc (.cells #[.int .i64 A.1, .int .i64 A.2.1, .int .i64 A.2.2] 48)) w.heap.size m) := RowAt.alloc HI1.out _
  have HE2 : Hid (Own2 (w1.alloc (.cells #[.int .i64 A.1, .int .i64 A.2.1, .int .i64 A.2.2] 48)) (w.heap.size + 1) (.int .i64 1) (.slice p ys.length cap)) := HE1.out.alloc _
  have HR2 : Hid (MemAt (w1.alloc (.cells #[.int .i64 A.1, .int .i64 A.2.1, .int .i64 A.2.2] 48)) (w.heap.size + 1 + 1) zeroM) := RowAt.alloc HR1.out _
  have HA2 : Hid (Own (w1.alloc (.cells #[.int .i64 A.1, .int .i64 A.2.1, .int .i64 A.2.2] 48)) w1.heap.size (.int .i64 A.1) (.int .i64 A.2.1) (.int .i64 A.2.2)) := Own.new w1 _ _ _
  generalize (w1.alloc (.cells #[.int .i64 A.1, .int .i64 A.2.1, .int .i64 A.2.2] 48)) = V2 at *
  obtain ⟨a1, ha1⟩ : ∃ a1, a1 = w1.heap.size := ⟨_, rfl⟩
  rw [← ha1] at HA2 hl1 ⊢
  clear ha1 HB1 HI1 HE1 HR1
  obtain ⟨⟨e0, e1⟩, -, -⟩ := HE2.out
  go_wp2_with fail
  refine Calls.mono (H1.out V2 HB2.out) ?_
  rintro e w3 ⟨rfl, hb3⟩
  have HB3 : Hid (Below w.heap.size w w3) := HB2.out.trans (hb3.mono HB2.out.size)
  have HI3 : Hid (MemAt w3 w.heap.size m) := HI2.out.to hb3
  have HE3 : Hid (Own2 w3 (w.heap.size + 1) (.int .i64 1) (.slice p ys.length cap)) := HE2.out.below hb3
  have HR3 : Hid (MemAt w3 (w.heap.size + 1 + 1) zeroM) := HR2.out.to hb3
  have HA3 : Hid (Own w3 a1 (.int .i64 A.1) (.int .i64 A.2.1) (.int .i64 A.2.2)) := HA2.out.below hb3
  have hl3 : a1 < w3.heap.size := HA3.out.lt
  clear hb3 HB2 HI2 HE2 HR2 HA2 e0 e1 H0 H1
  go_upto_region 3 with fail
  have HB4 : Hid (Below w.heap.size w (w3.alloc (.cells #[.int .i64 B.1, .int .i64 B.2.1, .int .i64 B.2.2] 48))) := HB3.out.alloc HB3.out.size _
  have HI4 : Hid (MemAt (w3.alloc (.cells #[.int .i64 B.1, .int .i64 B.2.1, .int .i64 B.2.2] 48)) w.heap.size m) := RowAt.alloc HI3.out _
  have HE4 : Hid (Own2 (w3.alloc (.cells #[.int .i64 B.1, .int .i64 B.2.1, .int .i64 B.2.2] 48)) (w.heap.size + 1) (.int .i64 1) (.slice p ys.length cap)) := HE3.out.alloc _
  have HR4 : Hid (MemAt (w3.alloc (.cells #[.int .i64 B.1, .int .i64 B.2.1, .int .i64 B.2.2] 48)) (w.heap.size + 1 + 1) zeroM) := RowAt.alloc HR3.out _
  have HA4 : Hid (Own (w3.alloc (.cells #[.int .i64 B.1, .int .i64 B.2.1, .int .i64 B.2.2] 48)) a1 (.int .i64 A.1) (.int .i64 A.2.1) (.int .i64 A.2.2)) := HA3.out.alloc _
  have HO4 : Hid (Own (w3.alloc (.cells #[.int .i64 B.1, .int .i64 B.2.1, .int .i64 B.2.2] 48)) w3.heap.size (.int .i64 B.1) (.int .i64 B.2.1) (.int .i64 B.2.2)) := Own.new w3 _ _ _
  generalize (w3.alloc (.cells #[.int .i64 B.1, .int .i64 B.2.1, .int .i64 B.2.2] 48)) = V4 at *
  obtain ⟨b1, hb1⟩ : ∃ b1, b1 = w3.heap.size := ⟨_, rfl⟩
  rw [← hb1] at HO4 hl3 ⊢
  clear hb1 HB3 HI3 HE3 HR3 HA3
  obtain ⟨⟨e0, e1⟩, -, -⟩ := HE4.out
  go_wp2_with fail
  have hEW : ∀ W, Below V4.heap.size V4 W → W.rangeAt a1 0 [.int .i64 A.1, .int .i64 A.2.1, .int .i64 A.2.2] := fun W hb => by
    have o := HA4.out.below hb
    exact range3V o.1.1 o.1.2.1 o.1.2.2
  have HSB : Hid (∀ W, Calls Tryz.prog 8 #[m.val, arV A] W fun e w' => e = .returned (.bool (m.bit A.1 A.2.1)) ∧ Below W.heap.size W w') := fun W => sbt_any m hm A.1 A.2.1 A.2.2 W
  refine wp_region_noPanic ?_
  refine wp_region_held_drew (S := fun W => MemAt W w.heap.size m ∧ W.rangeAt a1 0 [.int .i64 A.1, .int .i64 A.2.1, .int .i64 A.2.2]) (by kernel_rfl) ⟨HI4.out.to (Below.refl _ _).drew, hEW _ (Below.refl _ _).drew⟩ (fun hHeld => ?_)
  refine wpAnyH_take (i := 0) (oi := { dst := some 18, op := .load 37 (.tmp 2), type := 37, pos := _, after := #[], guard := none }) (v := m.val) rfl (by kernel_rfl) (by kernel_rfl) (by kernel_rfl) (fun _ _ _ h => h) (yields_row (by rfl) (.tmp 2) rfl rfl (fun W hb => hb.1) Tryz.underlying37 rfl (by kernel_rfl)) hHeld ?_
  simp only [Act.put, List.setIfInBounds_toArray, List.set_cons_zero, List.set_cons_succ]
  refine wpAnyH_take (i := 1) (oi := { dst := some 19, op := .load 37 (.tmp 2), type := 37, pos := _, after := #[], guard := none }) (v := m.val) rfl (by kernel_rfl) (by kernel_rfl) (by kernel_rfl) (fun _ _ _ h => h) (yields_row (by rfl) (.tmp 2) rfl rfl (fun W hb => hb.1) Tryz.underlying37 rfl (by kernel_rfl)) hHeld ?_
  simp only [Act.put, List.setIfInBounds_toArray, List.set_cons_zero, List.set_cons_succ]
  refine wpAnyH_take (i := 2) (oi := { dst := some 20, op := .load 48 (.tmp 6), type := 48, pos := _, after := #[], guard := none }) (v := arV A) rfl (by kernel_rfl) (by kernel_rfl) (by kernel_rfl) (fun _ _ _ h => h) (yieldsIf_load_mid (by rfl) _ _ rfl a1 0 rfl [.int .i64 A.1, .int .i64 A.2.1, .int .i64 A.2.2] _ (fun _ h => h.2) Tryz.underlying48 rfl (by kernel_rfl)) hHeld ?_
  simp only [Act.put, List.setIfInBounds_toArray, List.set_cons_zero, List.set_cons_succ]
  refine wpAnyH_ready (rs := [3]) (by kernel_rfl) (by simp) ?_
  refine AllReadyH.cons (o := { dst := some 21, op := .call { callee := .value (.func 8), args := #[.tmp 19, .tmp 20], argTypes := #[37, 48] }, type := 4, pos := _, after := #[{ on := 1, ground := .data }, { on := 2, ground := .data }], guard := none }) rfl (fun K hK => ?_) AllReadyH.nil
  rw [if_pos (by rfl)]
  refine wp_callGo (args := #[m.val, arV A]) Tryz.call8 rfl (by simp [Act.eval]) (HSB.out _) ?_
  intro w5 hb5
  have hl5 : Below V4.heap.size V4 w5 := (Below.refl _ _).drew.trans (hb5.mono (Nat.le_refl _))
  refine hK.out _ _ ⟨HI4.out.to hl5, hEW _ hl5⟩ (fun hHeld => ?_)
  simp only [Act.put, List.setIfInBounds_toArray, List.set_cons_zero, List.set_cons_succ]
  refine wpAnyH_ready (rs := [4]) (by kernel_rfl) (by simp) (AllReadyH.cons (o := { dst := none, op := .store 37 (.tmp 4) (.tmp 18), type := 0, pos := _, after := #[{ on := 0, ground := .data }, { on := 3, ground := .chain }, { on := 0, ground := .phase }, { on := 1, ground := .textOnly .lateStores }, { on := 2, ground := .textOnly .lateStores }, { on := 3, ground := .textOnly .lateStoresUnsure }], guard := none }) rfl (fun K hK => ?_) AllReadyH.nil)
  rw [if_pos (by rfl)]
  with_reducible refine wp_storeMemV (m := m) (b := w.heap.size + 1 + 1) (.tmp 4) (.tmp 18) ?_ ?_ ?_ (HR4.out.to hl5) ?_
  · rfl
  · simp [Act.eval]
  · simp [Act.eval]
  intro w6 HM6 hk6 hb6
  have h6 : MemAt w6 w.heap.size m := RowAt.by (HI4.out.to hl5) (hk6 _ (by omega))
  have h6' : w6.rangeAt a1 0 [.int .i64 A.1, .int .i64 A.2.1, .int .i64 A.2.2] := fun j u hu => by
    rw [World.cell?_of_block (w := w5) (a := ⟨a1, 0 + j, none⟩) (hk6 a1 (by omega))]; exact hEW _ hl5 j u hu
  refine hK.out _ _ ⟨h6, h6'⟩ (fun hHeld => ?_)
  simp only [Act.put]
  refine wpAnyH_take (i := 5) (oi := { dst := some 5, op := .assign (.tmp 21), type := 4, pos := _, after := #[{ on := 3, ground := .data }, { on := 4, ground := .chain }, { on := 0, ground := .phase }, { on := 1, ground := .phase }, { on := 2, ground := .phase }, { on := 3, ground := .phase }, { on := 4, ground := .phase }], guard := none }) (v := .bool (m.bit A.1 A.2.1)) rfl (by kernel_rfl) (by kernel_rfl) (by kernel_rfl) (fun _ _ _ h => h) (.inl ⟨by rfl, fun _ _ => rfl⟩) hHeld ?_
  simp only [Act.put, List.setIfInBounds_toArray, List.set_cons_zero, List.set_cons_succ]
  have HB6 : Hid (Below w.heap.size w w6) := hb6 _ _ (HB4.out.trans (hl5.mono HB4.out.size)) (by omega)
  refine wpAnyH_done ?_ ?_ _
  · kernel_rfl
  refine NoPanic.normal ?_
  go_wp2_with fail
  exact bodyPost_ret (resMB Tryz.results6 rfl rfl HM6) rfl ⟨rfl, HB6.out⟩
end Go.Proofs.YtmgjngihngddfaaGreatDoor

/- Regions that draw their order and hold calls, by one condition; real tests. Helper text: no statement is claimed here. -/
namespace Go.Proofs.YtmgjngihngddfaaGreatDoor
open Go.ChangeShapes Go.WideShapes Go.ChangeAt Go.RowKit Fl

/-- All blocks that were there are as they were, but one. -/
def Same1 (V : World) (r : Nat) (W : World) : Prop := ∀ j, j < V.heap.size → j ≠ r → W.heap[j]? = V.heap[j]?
theorem Same1.of {V W : World} (r : Nat) (h : Below V.heap.size V W) : Same1 V r W := fun j hj _ => h.block j hj
theorem Same1.on {V W W' : World} {r : Nat} (h : Same1 V r W) (hk : ∀ j, j ≠ r → W'.heap[j]? = W.heap[j]?) : Same1 V r W' := fun j hj hn => (hk j hn).trans (h j hj hn)
theorem Same1.mem {V W : World} {r b : Nat} {m : Mm} (h : Same1 V r W) (hM : MemAt V b m) (hn : b ≠ r) : MemAt W b m := RowAt.by hM (h b hM.lt hn)
theorem Same1.range {V W : World} {r b o : Nat} {xs : List Value} (h : Same1 V r W) (hR : V.rangeAt b o xs) (hl : b < V.heap.size) (hn : b ≠ r) : W.rangeAt b o xs := fun j u hu => by
  rw [World.cell?_of_block (w := V) (a := ⟨b, o + j, none⟩) (h b hl hn)]; exact hR j u hu
theorem Same1.cell {V W : World} {r b o : Nat} {v : Value} (h : Same1 V r W) (hR : V.cell? ⟨b, o, none⟩ = some v) (hn : b ≠ r) : W.cell? ⟨b, o, none⟩ = some v := by
  rw [World.cell?_of_block (w := V) (a := ⟨b, o, none⟩) (h b (World.block_lt_of_cell? V _ hR) hn)]; exact hR

theorem yields_int {ops : Array Oper} {S : World → Prop} {op : Oper} {a : Act} {b o : Nat} {n : Int} (hw : Region.wanted op (yielded ops a.tmps) = true) (x : Operand) (ho : op.op = .load 3 x) (hx : a.eval x = .pointer (some ⟨b, o, none⟩))
    (hS : ∀ w, S w → w.cell? ⟨b, o, none⟩ = some (.int .i64 n)) : YieldsIf Tryz.prog ops S op (.int .i64 n) a :=
  .inl ⟨hw, fun w h => by
    unfold execOp
    simp only [ho, hx, Instr.loadAt, Instr.sureAddr, Sem.run_bind, Sem.run_pure, Result.andThen_ok]
    simp [go_sem, hS w h]⟩

/-- A call whose answer is known up to a condition. -/
theorem wp_callGoE {o : Oper} {a : Act} {w : World} {K : Act → World → Prop} {Q : Exit → Act → World → Prop} {f : FuncId} {xs : Array Operand} {ts : Array TypeId} {R : Value → World → Prop} (hf : ∀ (xs : Array Value) (w : World), (callFunc f xs).run Tryz.prog w = .ok (.enter f xs) w) (ho : o.op = .call { callee := .value (.func f), args := xs, argTypes := ts })
    {args : Array Value} (ha : xs.map a.eval = args) (hC : Calls Tryz.prog f args w fun e w' => ∃ v, e = .returned v ∧ R v w') (hk : ∀ v w', R v w' → K (a.put o.dst v) w') : o.wp Tryz.prog a w K Q := by
  subst ha
  have he : (execOp a.eval o).run Tryz.prog w = .ok (.enter f (xs.map a.eval)) w := by
    unfold execOp
    rw [ho]
    simp [go_sem, resolve, hf]
  unfold Oper.wp
  rw [he, Oper.upon_enter]
  refine hC.mono ?_
  rintro e w' ⟨v, rfl, h⟩
  exact hk v w' h

/-- Whether an operand is a real one by its kind alone. -/
def realB (k : Int) : Bool := k == 10 || k == 12 || k == 13
/-- What a comparison says. -/
def CmpR (m : Mm) (i : Nat) (A B : Ar) (r : Bool) : Prop :=
  if realB A.1 = true then ∃ x y, m.RealR A.1 A.2.1 A.2.2 x ∧ m.RealR B.1 B.2.1 B.2.2 y ∧ r = rT i x y else r = wT i (m.whole A.1 A.2.1) (m.whole B.1 B.2.1)
theorem rT_ord {i x y x' y' : Nat} (h : ord x y = ord x' y') : rT i x y = rT i x' y' := by
  unfold rT
  split <;> rw [h]
theorem rT_same {i x y x' y' : Nat} (hx : SameV x x') (hy : SameV y y') : rT i x y = rT i x' y' := by
  refine rT_ord ?_
  rcases hx with rfl | ⟨a, b⟩
  · rcases hy with rfl | ⟨c, d⟩
    · rfl
    · exact (order_nan_right c _).trans (order_nan_right d _).symm
  · exact (order_nan_left a _).trans (order_nan_left b _).symm
theorem CmpR.one {m : Mm} {i : Nat} {A B : Ar} {r r' : Bool} (h : CmpR m i A B r) (h' : CmpR m i A B r') : r = r' := by
  unfold CmpR at h h'
  split at h
  · rename_i hr
    rw [if_pos hr] at h'
    obtain ⟨x, y, hx, hy, rfl⟩ := h
    obtain ⟨x', y', hx', hy', rfl⟩ := h'
    exact rT_same (hx.one hx') (hy.one hy')
  · rename_i hr
    rw [if_neg hr] at h'
    rw [h, h']
end Go.Proofs.YtmgjngihngddfaaGreatDoor
