/- The document's ActTest, on: shut. Helper text: no statement is claimed here. -/
import Derived.Test.YtmgjngihngddfaaGreatDoorP10
namespace Go.Proofs.YtmgjngihngddfaaGreatDoor
open Go.ChangeShapes Go.WideShapes Go.ChangeAt Go.RowKit Fl

set_option maxHeartbeats 1000000 in
set_option maxRecDepth 100000 in
theorem sTest_2 (m : Mm) (hm : m.Ok) (ys : List Ar) (p : Option Addr) (cap : Nat) (w : World) (hA : ArgsIs w p ys) :
    Calls Tryz.prog 6 #[m.val, elemV 2 p ys.length cap] w fun e w' => e = .returned (.tuple #[m.val, .bool (!m.bit (at3 ys 0).1 (at3 ys 0).2.1)]) ∧ Below w.heap.size w w' := by
  have hz : ∀ w, (zeroValue 37).run Tryz.prog w = .ok (.agg zeroM.cells) w := fun _ => by kernel_rfl
  have H0 : Hid (∀ W, Below w.heap.size w W → Calls Tryz.prog 19 #[elemV 2 p ys.length cap, .int .i64 0] W fun e w' => e = .returned (arV (at3 ys 0)) ∧ Below W.heap.size W w') := fun W hW => l5Arg_any 2 ys p cap 0 W (hA.to hW)
  have H1 : Hid (∀ W, Below w.heap.size w W → Calls Tryz.prog 19 #[elemV 2 p ys.length cap, .int .i64 1] W fun e w' => e = .returned (arV (at3 ys 1)) ∧ Below W.heap.size W w') := fun W hW => l5Arg_any 2 ys p cap 1 W (hA.to hW)
  clear hA
  generalize at3 ys 0 = A at *
  generalize at3 ys 1 = B at *
  have hu : m.val = .agg m.cells := rfl
  rw [hu]
  clear hu
  go_enter Tryz.func6, Tryz.ntmps6
  go_upto_region 1 with fail
  have HB : Hid (Below w.heap.size w (((w.alloc (.cells m.cells 37)).alloc (.cells #[.int .i64 2, .slice p ys.length cap] 40)).alloc (.cells zeroM.cells 37))) := (((Below.refl _ _).alloc (Nat.le_refl _) _).alloc (by simp) _).alloc (by simp; omega) _
  have HI : Hid (MemAt (((w.alloc (.cells m.cells 37)).alloc (.cells #[.int .i64 2, .slice p ys.length cap] 40)).alloc (.cells zeroM.cells 37)) w.heap.size m) := ((RowAt.new w 37 136 m.cell).alloc _).alloc _
  have HE : Hid (Own2 (((w.alloc (.cells m.cells 37)).alloc (.cells #[.int .i64 2, .slice p ys.length cap] 40)).alloc (.cells zeroM.cells 37)) (w.heap.size + 1) (.int .i64 2) (.slice p ys.length cap)) := by
    have := (Own2.new (w.alloc (.cells m.cells 37)) (.int .i64 2) (.slice p ys.length cap)).alloc (.cells zeroM.cells 37)
    rw [show (w.alloc (.cells m.cells 37)).heap.size = w.heap.size + 1 by simp] at this
    exact this
  have HR : Hid (MemAt (((w.alloc (.cells m.cells 37)).alloc (.cells #[.int .i64 2, .slice p ys.length cap] 40)).alloc (.cells zeroM.cells 37)) (w.heap.size + 1 + 1) zeroM) := by
    have := RowAt.new ((w.alloc (.cells m.cells 37)).alloc (.cells #[.int .i64 2, .slice p ys.length cap] 40)) 37 136 zeroM.cell
    rw [show ((w.alloc (.cells m.cells 37)).alloc (.cells #[.int .i64 2, .slice p ys.length cap] 40)).heap.size = w.heap.size + 1 + 1 by simp] at this
    exact this
  generalize (((w.alloc (.cells m.cells 37)).alloc (.cells #[.int .i64 2, .slice p ys.length cap] 40)).alloc (.cells zeroM.cells 37)) = V at *
  clear hz
  obtain ⟨⟨e0, e1⟩, -, -⟩ := HE.out
  go_wp2_with fail
  refine Calls.mono (H0.out V HB.out) ?_
  rintro e w1 ⟨rfl, hb1⟩
  have HB1 : Hid (Below w.heap.size w w1) := HB.out.trans (hb1.mono HB.out.size)
  have HI1 : Hid (MemAt w1 w.heap.size m) := HI.out.to hb1
  have HE1 : Hid (Own2 w1 (w.heap.size + 1) (.int .i64 2) (.slice p ys.length cap)) := HE.out.below hb1
  have HR1 : Hid (MemAt w1 (w.heap.size + 1 + 1) zeroM) := HR.out.to hb1
  have hl1 : w.heap.size + 1 + 1 < w1.heap.size := HR1.out.lt
  clear hb1 HB HI HE HR e0 e1
  go_upto_region 2 with fail
  have HB2 : Hid (Below w.heap.size w (w1.alloc (.cells #[.int .i64 A.1, .int .i64 A.2.1, .int .i64 A.2.2] 48))) := HB1.out.alloc HB1.out.size _
  have HI2 : Hid (MemAt (w1.alloc (.cells #[.int .i64 A.1, .int .i64 A.2.1, .int .i64 A.2.2] 48)) w.heap.size m) := RowAt.alloc HI1.out _
  have HE2 : Hid (Own2 (w1.alloc (.cells #[.int .i64 A.1, .int .i64 A.2.1, .int .i64 A.2.2] 48)) (w.heap.size + 1) (.int .i64 2) (.slice p ys.length cap)) := HE1.out.alloc _
  have HR2 : Hid (MemAt (w1.alloc (.cells #[.int .i64 A.1, .int .i64 A.2.1, .int .i64 A.2.2] 48)) (w.heap.size + 1 + 1) zeroM) := RowAt.alloc HR1.out _
  have HA2 : Hid (Own (w1.alloc (.cells #[.int .i64 A.1, .int .i64 A.2.1, .int .i64 A.2.2] 48)) w1.heap.size (.int .i64 A.1) (.int .i64 A.2.1) (.int .i64 A.2.2)) := Own.new w1 _ _ _
  generalize (w1.alloc (.cells #[.int .i64 A.1, .int .i64 A.2.1, .int .i64 A.2.2] 48)) = V2 at *
  obtain ⟨a1, ha1⟩ : ∃ a1, a1 = w1.heap.size := ⟨_, rfl⟩
  rw [← ha1] at HA2 hl1 ⊢
  clear ha1 HB1 HI1 HE1 HR1
  obtain ⟨⟨e0, e1⟩, -, -⟩ := HE2.out
  go_wp2_with fail
  refine Calls.mono (H1.out V2 HB2.out) ?_
  rintro e w3 ⟨rfl, hb3⟩
  have HB3 : Hid (Below w.heap.size w w3) := HB2.out.trans (hb3.mono HB2.out.size)
  have HI3 : Hid (MemAt w3 w.heap.size m) := HI2.out.to hb3
  have HE3 : Hid (Own2 w3 (w.heap.size + 1) (.int .i64 2) (.slice p ys.length cap)) := HE2.out.below hb3
  have HR3 : Hid (MemAt w3 (w.heap.size + 1 + 1) zeroM) := HR2.out.to hb3
  have HA3 : Hid (Own w3 a1 (.int .i64 A.1) (.int .i64 A.2.1) (.int .i64 A.2.2)) := HA2.out.below hb3
  have hl3 : a1 < w3.heap.size := HA3.out.lt
  clear hb3 HB2 HI2 HE2 HR2 HA2 e0 e1 H0 H1
  go_upto_region 3 with fail
  have HB4 : Hid (Below w.heap.size w (w3.alloc (.cells #[.int .i64 B.1, .int .i64 B.2.1, .int .i64 B.2.2] 48))) := HB3.out.alloc HB3.out.size _
  have HI4 : Hid (MemAt (w3.alloc (.cells #[.int .i64 B.1, .int .i64 B.2.1, .int .i64 B.2.2] 48)) w.heap.size m) := RowAt.alloc HI3.out _
  have HE4 : Hid (Own2 (w3.alloc (.cells #[.int .i64 B.1, .int .i64 B.2.1, .int .i64 B.2.2] 48)) (w.heap.size + 1) (.int .i64 2) (.slice p ys.length cap)) := HE3.out.alloc _
  have HR4 : Hid (MemAt (w3.alloc (.cells #[.int .i64 B.1, .int .i64 B.2.1, .int .i64 B.2.2] 48)) (w.heap.size + 1 + 1) zeroM) := RowAt.alloc HR3.out _
  have HA4 : Hid (Own (w3.alloc (.cells #[.int .i64 B.1, .int .i64 B.2.1, .int .i64 B.2.2] 48)) a1 (.int .i64 A.1) (.int .i64 A.2.1) (.int .i64 A.2.2)) := HA3.out.alloc _
  have HO4 : Hid (Own (w3.alloc (.cells #[.int .i64 B.1, .int .i64 B.2.1, .int .i64 B.2.2] 48)) w3.heap.size (.int .i64 B.1) (.int .i64 B.2.1) (.int .i64 B.2.2)) := Own.new w3 _ _ _
  generalize (w3.alloc (.cells #[.int .i64 B.1, .int .i64 B.2.1, .int .i64 B.2.2] 48)) = V4 at *
  obtain ⟨b1, hb1⟩ : ∃ b1, b1 = w3.heap.size := ⟨_, rfl⟩
  rw [← hb1] at HO4 hl3 ⊢
  clear hb1 HB3 HI3 HE3 HR3 HA3
  obtain ⟨⟨e0, e1⟩, -, -⟩ := HE4.out
  go_wp2_with fail
  have hEW : ∀ W, Below V4.heap.size V4 W → W.rangeAt a1 0 [.int .i64 A.1, .int .i64 A.2.1, .int .i64 A.2.2] := fun W hb => by
    have o := HA4.out.below hb
    exact range3V o.1.1 o.1.2.1 o.1.2.2
  have HSB : Hid (∀ W, Calls Tryz.prog 8 #[m.val, arV A] W fun e w' => e = .returned (.bool (m.bit A.1 A.2.1)) ∧ Below W.heap.size W w') := fun W => sbt_any m hm A.1 A.2.1 A.2.2 W
  refine wp_region_noPanic ?_
  refine wp_region_held_drew (S := fun W => MemAt W w.heap.size m ∧ W.rangeAt a1 0 [.int .i64 A.1, .int .i64 A.2.1, .int .i64 A.2.2]) (by kernel_rfl) ⟨HI4.out.to (Below.refl _ _).drew, hEW _ (Below.refl _ _).drew⟩ (fun hHeld => ?_)
  refine wpAnyH_take (i := 0) (oi := { dst := some 26, op := .load 37 (.tmp 2), type := 37, pos := _, after := #[], guard := none }) (v := m.val) rfl (by kernel_rfl) (by kernel_rfl) (by kernel_rfl) (fun _ _ _ h => h) (yields_row (by rfl) (.tmp 2) rfl rfl (fun W hb => hb.1) Tryz.underlying37 rfl (by kernel_rfl)) hHeld ?_
  simp only [Act.put, List.setIfInBounds_toArray, List.set_cons_zero, List.set_cons_succ]
  refine wpAnyH_take (i := 1) (oi := { dst := some 27, op := .load 37 (.tmp 2), type := 37, pos := _, after := #[], guard := none }) (v := m.val) rfl (by kernel_rfl) (by kernel_rfl) (by kernel_rfl) (fun _ _ _ h => h) (yields_row (by rfl) (.tmp 2) rfl rfl (fun W hb => hb.1) Tryz.underlying37 rfl (by kernel_rfl)) hHeld ?_
  simp only [Act.put, List.setIfInBounds_toArray, List.set_cons_zero, List.set_cons_succ]
  refine wpAnyH_take (i := 2) (oi := { dst := some 28, op := .load 48 (.tmp 6), type := 48, pos := _, after := #[], guard := none }) (v := arV A) rfl (by kernel_rfl) (by kernel_rfl) (by kernel_rfl) (fun _ _ _ h => h) (yieldsIf_load_mid (by rfl) _ _ rfl a1 0 rfl [.int .i64 A.1, .int .i64 A.2.1, .int .i64 A.2.2] _ (fun _ h => h.2) Tryz.underlying48 rfl (by kernel_rfl)) hHeld ?_
  simp only [Act.put, List.setIfInBounds_toArray, List.set_cons_zero, List.set_cons_succ]
  refine wpAnyH_ready (rs := [3]) (by kernel_rfl) (by simp) ?_
  refine AllReadyH.cons (o := { dst := some 29, op := .call { callee := .value (.func 8), args := #[.tmp 27, .tmp 28], argTypes := #[37, 48] }, type := 4, pos := _, after := #[{ on := 1, ground := .data }, { on := 2, ground := .data }], guard := none }) rfl (fun K hK => ?_) AllReadyH.nil
  rw [if_pos (by rfl)]
  refine wp_callGo (args := #[m.val, arV A]) Tryz.call8 rfl (by simp [Act.eval]) (HSB.out _) ?_
  intro w5 hb5
  have hl5 : Below V4.heap.size V4 w5 := (Below.refl _ _).drew.trans (hb5.mono (Nat.le_refl _))
  refine hK.out _ _ ⟨HI4.out.to hl5, hEW _ hl5⟩ (fun hHeld => ?_)
  simp only [Act.put, List.setIfInBounds_toArray, List.set_cons_zero, List.set_cons_succ]
  refine wpAnyH_take (i := 4) (oi := { dst := some 30, op := .unOp .not 4 (.tmp 29), type := 4, pos := _, after := #[{ on := 3, ground := .data }, { on := 5, ground := .gcOnly .lateStores }], guard := none }) (v := .bool (!m.bit A.1 A.2.1)) rfl (by kernel_rfl) (by kernel_rfl) (by kernel_rfl) (fun _ _ _ h => h) (.inl ⟨by rfl, fun _ _ => rfl⟩) hHeld ?_
  simp only [Act.put, List.setIfInBounds_toArray, List.set_cons_zero, List.set_cons_succ]
  refine wpAnyH_ready (rs := [5]) (by kernel_rfl) (by simp) (AllReadyH.cons (o := { dst := none, op := .store 37 (.tmp 4) (.tmp 26), type := 0, pos := _, after := #[{ on := 0, ground := .data }, { on := 3, ground := .chain }, { on := 0, ground := .phase }, { on := 1, ground := .textOnly .lateStores }, { on := 2, ground := .textOnly .lateStores }, { on := 3, ground := .textOnly .lateStoresUnsure }, { on := 4, ground := .textOnly .lateStores }], guard := none }) rfl (fun K hK => ?_) AllReadyH.nil)
  rw [if_pos (by rfl)]
  with_reducible refine wp_storeMemV (m := m) (b := w.heap.size + 1 + 1) (.tmp 4) (.tmp 26) ?_ ?_ ?_ (HR4.out.to hl5) ?_
  · rfl
  · simp [Act.eval]
  · simp [Act.eval]
  intro w6 HM6 hk6 hb6
  have h6 : MemAt w6 w.heap.size m := RowAt.by (HI4.out.to hl5) (hk6 _ (by omega))
  have h6' : w6.rangeAt a1 0 [.int .i64 A.1, .int .i64 A.2.1, .int .i64 A.2.2] := fun j u hu => by
    rw [World.cell?_of_block (w := w5) (a := ⟨a1, 0 + j, none⟩) (hk6 a1 (by omega))]; exact hEW _ hl5 j u hu
  refine hK.out _ _ ⟨h6, h6'⟩ (fun hHeld => ?_)
  simp only [Act.put]
  refine wpAnyH_take (i := 6) (oi := { dst := some 5, op := .assign (.tmp 30), type := 4, pos := _, after := #[{ on := 4, ground := .data }, { on := 5, ground := .chain }, { on := 0, ground := .phase }, { on := 1, ground := .phase }, { on := 2, ground := .phase }, { on := 3, ground := .phase }, { on := 4, ground := .phase }, { on := 5, ground := .phase }], guard := none }) (v := .bool (!m.bit A.1 A.2.1)) rfl (by kernel_rfl) (by kernel_rfl) (by kernel_rfl) (fun _ _ _ h => h) (.inl ⟨by rfl, fun _ _ => rfl⟩) hHeld ?_
  simp only [Act.put, List.setIfInBounds_toArray, List.set_cons_zero, List.set_cons_succ]
  have HB6 : Hid (Below w.heap.size w w6) := hb6 _ _ (HB4.out.trans (hl5.mono HB4.out.size)) (by omega)
  refine wpAnyH_done ?_ ?_ _
  · kernel_rfl
  refine NoPanic.normal ?_
  go_wp2_with fail
  exact bodyPost_ret (resMB Tryz.results6 rfl rfl HM6) rfl ⟨rfl, HB6.out⟩
end Go.Proofs.YtmgjngihngddfaaGreatDoor

/- The document's ActTest, on: comparisons of real operands. Helper text: no statement is claimed here. -/
namespace Go.Proofs.YtmgjngihngddfaaGreatDoor
open Go.ChangeShapes Go.WideShapes Go.ChangeAt Go.RowKit Fl

set_option maxHeartbeats 1000000 in
theorem isReal_any (k n p : Int) (w : World) :
    Calls Tryz.prog 21 #[.agg #[.int .i64 k, .int .i64 n, .int .i64 p]] w fun e w' => e = .returned (.bool (realB k)) ∧ Below w.heap.size w w' := by
  by_cases h1 : k = 10
  · subst h1
    go_enter Tryz.func21, Tryz.ntmps21
    go_wp2
    go_ret
    exact ⟨rfl, one w _⟩
  by_cases h2 : k = 12
  · subst h2
    go_enter Tryz.func21, Tryz.ntmps21
    go_wp2
    go_ret
    exact ⟨rfl, one w _⟩
  have q1 : (k == 10) = false := by simpa using h1
  have q2 : (k == 12) = false := by simpa using h2
  have hr : realB k = (k == 13) := by simp [realB, q1, q2]
  rw [hr]
  clear hr h1 h2
  cases q3 : (k == 13)
  all_goals (
    go_enter Tryz.func21, Tryz.ntmps21
    go_wp2
    go_ret
    exact ⟨rfl, one w _⟩)

set_option maxHeartbeats 1000000 in
set_option maxRecDepth 100000 in
theorem sTest_r (m : Mm) (hm : m.Ok) (i : Nat) (h1 : 1 ≤ i) (h2 : i ≤ 6) (ys : List Ar) (p : Option Addr) (cap : Nat) (w : World) (hA : ArgsIs w p ys) (hr : realB (at3 ys 0).1 = true) :
    Calls Tryz.prog 6 #[m.val, elemV ((i : Int) + 4) p ys.length cap] w fun e w' => ∃ r, e = .returned (.tuple #[m.val, .bool r]) ∧ CmpR m i (at3 ys 0) (at3 ys 1) r ∧ Below w.heap.size w w' := by
  obtain ⟨op, hop⟩ : ∃ op : Int, op = (i : Int) + 4 := ⟨_, rfl⟩
  rw [← hop]
  have q1 : (op == 1) = false := by simp only [beq_eq_false_iff_ne, ne_eq]; omega
  have q2 : (op == 2) = false := by simp only [beq_eq_false_iff_ne, ne_eq]; omega
  have q3 : (op == 3) = false := by simp only [beq_eq_false_iff_ne, ne_eq]; omega
  have q4 : (op == 4) = false := by simp only [beq_eq_false_iff_ne, ne_eq]; omega
  have q5 : (5 : Int) ≤ op := by omega
  have q6 : op ≤ (10 : Int) := by omega
  have hw1 : IntKind.i64.wrap (op - 5) = op - 5 := wrap_small (by omega) (by omega)
  have hw2 : IntKind.i64.wrap (op - 5 + 1) = (i : Int) := by rw [show op - 5 + 1 = (i : Int) by omega]; exact wrap_small (by omega) (by omega)
  have hz : ∀ w, (zeroValue 37).run Tryz.prog w = .ok (.agg zeroM.cells) w := fun _ => by kernel_rfl
  have H0 : Hid (∀ W, Below w.heap.size w W → Calls Tryz.prog 19 #[elemV op p ys.length cap, .int .i64 0] W fun e w' => e = .returned (arV (at3 ys 0)) ∧ Below W.heap.size W w') := fun W hW => l5Arg_any op ys p cap 0 W (hA.to hW)
  have H1 : Hid (∀ W, Below w.heap.size w W → Calls Tryz.prog 19 #[elemV op p ys.length cap, .int .i64 1] W fun e w' => e = .returned (arV (at3 ys 1)) ∧ Below W.heap.size W w') := fun W hW => l5Arg_any op ys p cap 1 W (hA.to hW)
  clear hA hop
  have HS0 : Hid (∀ W, Calls Tryz.prog 23 #[m.val, arV (at3 ys 0)] W fun e w' => ∃ u, e = .returned u ∧ (∃ r, u = Value.float .f64 r ∧ m.RealR (at3 ys 0).1 (at3 ys 0).2.1 (at3 ys 0).2.2 r) ∧ Below W.heap.size W w') := fun W => sreal_any m hm _ _ _ W
  have HS1 : Hid (∀ W, Calls Tryz.prog 23 #[m.val, arV (at3 ys 1)] W fun e w' => ∃ u, e = .returned u ∧ (∃ r, u = Value.float .f64 r ∧ m.RealR (at3 ys 1).1 (at3 ys 1).2.1 (at3 ys 1).2.2 r) ∧ Below W.heap.size W w') := fun W => sreal_any m hm _ _ _ W
  have HSC : Hid (∀ x y W, Calls Tryz.prog 22 #[.int .i64 (i : Int), .float .f64 x, .float .f64 y] W fun e w' => e = .returned (.bool (rT i x y)) ∧ w' = W) := fun x y W => srcmp_any i x y W h1 h2
  have HCM : Hid (∀ x y, m.RealR (at3 ys 0).1 (at3 ys 0).2.1 (at3 ys 0).2.2 x → m.RealR (at3 ys 1).1 (at3 ys 1).2.1 (at3 ys 1).2.2 y → CmpR m i (at3 ys 0) (at3 ys 1) (rT i x y)) := fun x y hx hy => by unfold CmpR; rw [if_pos hr]; exact ⟨x, y, hx, hy, rfl⟩
  clear hm h1 h2
  generalize at3 ys 0 = A at *
  generalize at3 ys 1 = B at *
  have hu : m.val = .agg m.cells := rfl
  rw [hu]
  clear hu
  go_enter Tryz.func6, Tryz.ntmps6
  go_upto_region 1 with fail
  have HB : Hid (Below w.heap.size w (((w.alloc (.cells m.cells 37)).alloc (.cells #[.int .i64 op, .slice p ys.length cap] 40)).alloc (.cells zeroM.cells 37))) := (((Below.refl _ _).alloc (Nat.le_refl _) _).alloc (by simp) _).alloc (by simp; omega) _
  have HI : Hid (MemAt (((w.alloc (.cells m.cells 37)).alloc (.cells #[.int .i64 op, .slice p ys.length cap] 40)).alloc (.cells zeroM.cells 37)) w.heap.size m) := ((RowAt.new w 37 136 m.cell).alloc _).alloc _
  have HE : Hid (Own2 (((w.alloc (.cells m.cells 37)).alloc (.cells #[.int .i64 op, .slice p ys.length cap] 40)).alloc (.cells zeroM.cells 37)) (w.heap.size + 1) (.int .i64 op) (.slice p ys.length cap)) := by
    have := (Own2.new (w.alloc (.cells m.cells 37)) (.int .i64 op) (.slice p ys.length cap)).alloc (.cells zeroM.cells 37)
    rw [show (w.alloc (.cells m.cells 37)).heap.size = w.heap.size + 1 by simp] at this
    exact this
  have HR : Hid (MemAt (((w.alloc (.cells m.cells 37)).alloc (.cells #[.int .i64 op, .slice p ys.length cap] 40)).alloc (.cells zeroM.cells 37)) (w.heap.size + 1 + 1) zeroM) := by
    have := RowAt.new ((w.alloc (.cells m.cells 37)).alloc (.cells #[.int .i64 op, .slice p ys.length cap] 40)) 37 136 zeroM.cell
    rw [show ((w.alloc (.cells m.cells 37)).alloc (.cells #[.int .i64 op, .slice p ys.length cap] 40)).heap.size = w.heap.size + 1 + 1 by simp] at this
    exact this
  generalize (((w.alloc (.cells m.cells 37)).alloc (.cells #[.int .i64 op, .slice p ys.length cap] 40)).alloc (.cells zeroM.cells 37)) = V at *
  clear hz
  obtain ⟨⟨e0, e1⟩, -, -⟩ := HE.out
  go_wp2_with fail
  refine Calls.mono (H0.out V HB.out) ?_
  rintro e w1 ⟨rfl, hb1⟩
  have HB1 : Hid (Below w.heap.size w w1) := HB.out.trans (hb1.mono HB.out.size)
  have HI1 : Hid (MemAt w1 w.heap.size m) := HI.out.to hb1
  have HE1 : Hid (Own2 w1 (w.heap.size + 1) (.int .i64 op) (.slice p ys.length cap)) := HE.out.below hb1
  have HR1 : Hid (MemAt w1 (w.heap.size + 1 + 1) zeroM) := HR.out.to hb1
  have hl1 : w.heap.size + 1 + 1 < w1.heap.size := HR1.out.lt
  clear hb1 HB HI HE HR e0 e1
  go_upto_region 2 with fail
  have HB2 : Hid (Below w.heap.size w (w1.alloc (.cells #[.int .i64 A.1, .int .i64 A.2.1, .int .i64 A.2.2] 48))) := HB1.out.alloc HB1.out.size _
  have HI2 : Hid (MemAt (w1.alloc (.cells #[.int .i64 A.1, .int .i64 A.2.1, .int .i64 A.2.2] 48)) w.heap.size m) := RowAt.alloc HI1.out _
  have HE2 : Hid (Own2 (w1.alloc (.cells #[.int .i64 A.1, .int .i64 A.2.1, .int .i64 A.2.2] 48)) (w.heap.size + 1) (.int .i64 op) (.slice p ys.length cap)) := HE1.out.alloc _
  have HR2 : Hid (MemAt (w1.alloc (.cells #[.int .i64 A.1, .int .i64 A.2.1, .int .i64 A.2.2] 48)) (w.heap.size + 1 + 1) zeroM) := RowAt.alloc HR1.out _
  have HA2 : Hid (Own (w1.alloc (.cells #[.int .i64 A.1, .int .i64 A.2.1, .int .i64 A.2.2] 48)) w1.heap.size (.int .i64 A.1) (.int .i64 A.2.1) (.int .i64 A.2.2)) := Own.new w1 _ _ _
  generalize (w1.alloc (.cells #[.int .i64 A.1, .int .i64 A.2.1, .int .i64 A.2.2] 48)) = V2 at *
  obtain ⟨a1, ha1⟩ : ∃ a1, a1 = w1.heap.size := ⟨_, rfl⟩
  rw [← ha1] at HA2 hl1 ⊢
  clear ha1 HB1 HI1 HE1 HR1
  obtain ⟨⟨e0, e1⟩, -, -⟩ := HE2.out
  go_wp2_with fail
  refine Calls.mono (H1.out V2 HB2.out) ?_
  rintro e w3 ⟨rfl, hb3⟩
  have HB3 : Hid (Below w.heap.size w w3) := HB2.out.trans (hb3.mono HB2.out.size)
  have HI3 : Hid (MemAt w3 w.heap.size m) := HI2.out.to hb3
  have HE3 : Hid (Own2 w3 (w.heap.size + 1) (.int .i64 op) (.slice p ys.length cap)) := HE2.out.below hb3
  have HR3 : Hid (MemAt w3 (w.heap.size + 1 + 1) zeroM) := HR2.out.to hb3
  have HA3 : Hid (Own w3 a1 (.int .i64 A.1) (.int .i64 A.2.1) (.int .i64 A.2.2)) := HA2.out.below hb3
  have hl3 : a1 < w3.heap.size := HA3.out.lt
  clear hb3 HB2 HI2 HE2 HR2 HA2 e0 e1 H0 H1
  go_upto_region 3 with fail
  have HB4 : Hid (Below w.heap.size w (w3.alloc (.cells #[.int .i64 B.1, .int .i64 B.2.1, .int .i64 B.2.2] 48))) := HB3.out.alloc HB3.out.size _
  have HI4 : Hid (MemAt (w3.alloc (.cells #[.int .i64 B.1, .int .i64 B.2.1, .int .i64 B.2.2] 48)) w.heap.size m) := RowAt.alloc HI3.out _
  have HE4 : Hid (Own2 (w3.alloc (.cells #[.int .i64 B.1, .int .i64 B.2.1, .int .i64 B.2.2] 48)) (w.heap.size + 1) (.int .i64 op) (.slice p ys.length cap)) := HE3.out.alloc _
  have HR4 : Hid (MemAt (w3.alloc (.cells #[.int .i64 B.1, .int .i64 B.2.1, .int .i64 B.2.2] 48)) (w.heap.size + 1 + 1) zeroM) := RowAt.alloc HR3.out _
  have HA4 : Hid (Own (w3.alloc (.cells #[.int .i64 B.1, .int .i64 B.2.1, .int .i64 B.2.2] 48)) a1 (.int .i64 A.1) (.int .i64 A.2.1) (.int .i64 A.2.2)) := HA3.out.alloc _
  have HO4 : Hid (Own (w3.alloc (.cells #[.int .i64 B.1, .int .i64 B.2.1, .int .i64 B.2.2] 48)) w3.heap.size (.int .i64 B.1) (.int .i64 B.2.1) (.int .i64 B.2.2)) := Own.new w3 _ _ _
  generalize (w3.alloc (.cells #[.int .i64 B.1, .int .i64 B.2.1, .int .i64 B.2.2] 48)) = V4 at *
  obtain ⟨b1, hb1⟩ : ∃ b1, b1 = w3.heap.size := ⟨_, rfl⟩
  rw [← hb1] at HO4 hl3 ⊢
  clear hb1 HB3 HI3 HE3 HR3 HA3
  obtain ⟨⟨e0, e1⟩, -, -⟩ := HE4.out
  obtain ⟨⟨a0, a1c, a2⟩, -, -, -⟩ := HA4.out
  go_wp2_with fail
  refine Calls.mono (isReal_any A.1 A.2.1 A.2.2 V4) ?_
  rintro e w5 ⟨rfl, hb5⟩
  rw [hr]
  have HB5 : Hid (Below w.heap.size w w5) := HB4.out.trans (hb5.mono HB4.out.size)
  have HI5 : Hid (MemAt w5 w.heap.size m) := HI4.out.to hb5
  have HE5 : Hid (Own2 w5 (w.heap.size + 1) (.int .i64 op) (.slice p ys.length cap)) := HE4.out.below hb5
  have HR5 : Hid (MemAt w5 (w.heap.size + 1 + 1) zeroM) := HR4.out.to hb5
  have HA5 : Hid (Own w5 a1 (.int .i64 A.1) (.int .i64 A.2.1) (.int .i64 A.2.2)) := HA4.out.below hb5
  have HO5 : Hid (Own w5 b1 (.int .i64 B.1) (.int .i64 B.2.1) (.int .i64 B.2.2)) := HO4.out.below hb5
  have hla : a1 < w5.heap.size := HA5.out.lt
  have hlb : b1 < w5.heap.size := HO5.out.lt
  have ra : w5.rangeAt a1 0 [.int .i64 A.1, .int .i64 A.2.1, .int .i64 A.2.2] := range3V HA5.out.1.1 HA5.out.1.2.1 HA5.out.1.2.2
  have rb : w5.rangeAt b1 0 [.int .i64 B.1, .int .i64 B.2.1, .int .i64 B.2.2] := range3V HO5.out.1.1 HO5.out.1.2.1 HO5.out.1.2.2
  clear hb5 HB4 HI4 HE4 HR4 HO4 HA4 e0 e1 a0 a1c a2 HA5 HO5
  obtain ⟨⟨e0, e1⟩, -, -⟩ := HE5.out
  go_upto_region 17 with fail
  refine wp_region_noPanic ?_
  refine wp_region_held_drew (S := Same1 w5 (w.heap.size + 1 + 1)) (by kernel_rfl) (Same1.of _ (Below.refl _ _).drew) (fun hHeld => ?_)
  refine wpAnyH_take (i := 0) (oi := { dst := some 84, op := .load 37 (.tmp 2), type := 37, pos := _, after := #[], guard := none }) (v := m.val) rfl (by kernel_rfl) (by kernel_rfl) (by kernel_rfl) (fun _ _ _ h => h) (yields_row (by rfl) (.tmp 2) rfl rfl (fun W hb => hb.mem HI5.out (by omega)) Tryz.underlying37 rfl (by kernel_rfl)) hHeld ?_
  simp only [Act.put, List.setIfInBounds_toArray, List.set_cons_zero, List.set_cons_succ]
  refine wpAnyH_take (i := 1) (oi := { dst := some 85, op := .fieldAddr 40 (.tmp 3) 0, type := 0, pos := _, after := #[], guard := none }) (v := .pointer (some ⟨w.heap.size + 1, 0, none⟩)) rfl (by kernel_rfl) (by kernel_rfl) (by kernel_rfl) (fun _ _ _ h => h) (.inl ⟨by rfl, fun _ _ => rfl⟩) hHeld ?_
  simp only [Act.put, List.setIfInBounds_toArray, List.set_cons_zero, List.set_cons_succ]
  refine wpAnyH_take (i := 2) (oi := { dst := some 86, op := .load 3 (.tmp 85), type := 3, pos := _, after := #[{ on := 1, ground := .data }], guard := none }) (v := .int .i64 op) rfl (by kernel_rfl) (by kernel_rfl) (by kernel_rfl) (fun _ _ _ h => h) (yields_int (by rfl) (.tmp 85) rfl rfl (fun W h => h.cell e0 (by omega))) hHeld ?_
  simp only [Act.put, List.setIfInBounds_toArray, List.set_cons_zero, List.set_cons_succ]
  refine wpAnyH_take (i := 3) (oi := { dst := some 87, op := .binOp .sub 3 (.tmp 86) (.const (.int .i64 5)) 3, type := 3, pos := _, after := #[{ on := 2, ground := .data }], guard := none }) (v := .int .i64 (IntKind.i64.wrap (op - 5))) rfl (by kernel_rfl) (by kernel_rfl) (by kernel_rfl) (fun _ _ _ h => h) (.inl ⟨by rfl, fun _ _ => rfl⟩) hHeld ?_
  simp only [Act.put, List.setIfInBounds_toArray, List.set_cons_zero, List.set_cons_succ]
  rw [hw1]
  refine wpAnyH_take (i := 4) (oi := { dst := some 88, op := .binOp .add 3 (.tmp 87) (.const (.int .i64 1)) 3, type := 3, pos := _, after := #[{ on := 3, ground := .data }], guard := none }) (v := .int .i64 (IntKind.i64.wrap (op - 5 + 1))) rfl (by kernel_rfl) (by kernel_rfl) (by kernel_rfl) (fun _ _ _ h => h) (.inl ⟨by rfl, fun _ _ => rfl⟩) hHeld ?_
  simp only [Act.put, List.setIfInBounds_toArray, List.set_cons_zero, List.set_cons_succ]
  rw [hw2]
  refine wpAnyH_take (i := 5) (oi := { dst := some 89, op := .load 37 (.tmp 2), type := 37, pos := _, after := #[], guard := none }) (v := m.val) rfl (by kernel_rfl) (by kernel_rfl) (by kernel_rfl) (fun _ _ _ h => h) (yields_row (by rfl) (.tmp 2) rfl rfl (fun W hb => hb.mem HI5.out (by omega)) Tryz.underlying37 rfl (by kernel_rfl)) hHeld ?_
  simp only [Act.put, List.setIfInBounds_toArray, List.set_cons_zero, List.set_cons_succ]
  refine wpAnyH_take (i := 6) (oi := { dst := some 90, op := .load 48 (.tmp 6), type := 48, pos := _, after := #[], guard := none }) (v := arV A) rfl (by kernel_rfl) (by kernel_rfl) (by kernel_rfl) (fun _ _ _ h => h) (yieldsIf_load_mid (by rfl) _ _ rfl a1 0 rfl [.int .i64 A.1, .int .i64 A.2.1, .int .i64 A.2.2] _ (fun W h => h.range ra (by omega) (by omega)) Tryz.underlying48 rfl (by kernel_rfl)) hHeld ?_
  simp only [Act.put, List.setIfInBounds_toArray, List.set_cons_zero, List.set_cons_succ]
  refine wpAnyH_take (i := 8) (oi := { dst := some 92, op := .load 37 (.tmp 2), type := 37, pos := _, after := #[], guard := none }) (v := m.val) rfl (by kernel_rfl) (by kernel_rfl) (by kernel_rfl) (fun _ _ _ h => h) (yields_row (by rfl) (.tmp 2) rfl rfl (fun W hb => hb.mem HI5.out (by omega)) Tryz.underlying37 rfl (by kernel_rfl)) hHeld ?_
  simp only [Act.put, List.setIfInBounds_toArray, List.set_cons_zero, List.set_cons_succ]
  refine wpAnyH_take (i := 9) (oi := { dst := some 93, op := .load 48 (.tmp 7), type := 48, pos := _, after := #[], guard := none }) (v := arV B) rfl (by kernel_rfl) (by kernel_rfl) (by kernel_rfl) (fun _ _ _ h => h) (yieldsIf_load_mid (by rfl) _ _ rfl b1 0 rfl [.int .i64 B.1, .int .i64 B.2.1, .int .i64 B.2.2] _ (fun W h => h.range rb (by omega) (by omega)) Tryz.underlying48 rfl (by kernel_rfl)) hHeld ?_
  simp only [Act.put, List.setIfInBounds_toArray, List.set_cons_zero, List.set_cons_succ]
  refine wpAnyH_ready (rs := [7]) (by kernel_rfl) (by simp) ?_
  refine AllReadyH.cons (o := { dst := some 91, op := .call { callee := .value (.func 23), args := #[.tmp 89, .tmp 90], argTypes := #[37, 48] }, type := 34, pos := _, after := #[{ on := 5, ground := .data }, { on := 6, ground := .data }], guard := none }) rfl (fun K hK => ?_) AllReadyH.nil
  rw [if_pos (by rfl)]
  refine wp_callGoE (args := #[m.val, arV A]) Tryz.call23 rfl (by simp [Act.eval]) (HS0.out _) ?_
  rintro _ w6 ⟨⟨x, rfl, hx⟩, hb6⟩
  have hl6 : Below w5.heap.size w5 w6 := (Below.refl _ _).drew.trans (hb6.mono (Nat.le_refl _))
  clear hb6
  refine hK.out _ _ (Same1.of _ hl6) (fun hHeld => ?_)
  simp only [Act.put, List.setIfInBounds_toArray, List.set_cons_zero, List.set_cons_succ]
  refine wpAnyH_ready (rs := [10]) (by kernel_rfl) (by simp) ?_
  refine AllReadyH.cons (o := { dst := some 94, op := .call { callee := .value (.func 23), args := #[.tmp 92, .tmp 93], argTypes := #[37, 48] }, type := 34, pos := _, after := #[{ on := 8, ground := .data }, { on := 9, ground := .data }, { on := 7, ground := .chain }], guard := none }) rfl (fun K hK => ?_) AllReadyH.nil
  rw [if_pos (by rfl)]
  refine wp_callGoE (args := #[m.val, arV B]) Tryz.call23 rfl (by simp [Act.eval]) (HS1.out _) ?_
  rintro _ w7 ⟨⟨y, rfl, hy⟩, hb7⟩
  have hl7 : Below w5.heap.size w5 w7 := hl6.trans (hb7.mono hl6.size)
  clear hb7 hl6
  refine hK.out _ _ (Same1.of _ hl7) (fun hHeld => ?_)
  simp only [Act.put, List.setIfInBounds_toArray, List.set_cons_zero, List.set_cons_succ]
  refine wpAnyH_ready (rs := [11]) (by kernel_rfl) (by simp) ?_
  refine AllReadyH.cons (o := { dst := some 95, op := .call { callee := .value (.func 22), args := #[.tmp 88, .tmp 91, .tmp 94], argTypes := #[3, 34, 34] }, type := 4, pos := _, after := #[{ on := 4, ground := .data }, { on := 7, ground := .data }, { on := 10, ground := .data }, { on := 10, ground := .chain }], guard := none }) rfl (fun K hK => ?_) AllReadyH.nil
  rw [if_pos (by rfl)]
  refine wp_callGo (args := #[.int .i64 (i : Int), .float .f64 x, .float .f64 y]) Tryz.call22 rfl (by simp [Act.eval]) (HSC.out x y _) ?_
  rintro _ rfl
  refine hK.out _ _ (Same1.of _ hl7) (fun hHeld => ?_)
  simp only [Act.put, List.setIfInBounds_toArray, List.set_cons_zero, List.set_cons_succ]
  refine wpAnyH_ready (rs := [12]) (by kernel_rfl) (by simp) ?_
  refine AllReadyH.cons (o := { dst := none, op := .store 37 (.tmp 4) (.tmp 84), type := 0, pos := _, after := #[{ on := 0, ground := .data }, { on := 11, ground := .chain }, { on := 0, ground := .phase }, { on := 1, ground := .textOnly .lateStores }, { on := 2, ground := .textOnly .lateStores }, { on := 3, ground := .textOnly .lateStores }, { on := 4, ground := .textOnly .lateStores }, { on := 5, ground := .textOnly .lateStores }, { on := 6, ground := .textOnly .lateStores }, { on := 7, ground := .textOnly .lateStoresUnsure }, { on := 8, ground := .textOnly .lateStores }, { on := 9, ground := .textOnly .lateStores }, { on := 10, ground := .textOnly .lateStoresUnsure }, { on := 11, ground := .textOnly .lateStoresUnsure }], guard := none }) rfl (fun K hK => ?_) AllReadyH.nil
  rw [if_pos (by rfl)]
  with_reducible refine wp_storeMemV (m := m) (b := w.heap.size + 1 + 1) (.tmp 4) (.tmp 84) ?_ ?_ ?_ (HR5.out.to hl7) ?_
  · rfl
  · simp [Act.eval]
  · simp [Act.eval]
  intro w8 HM8 hk8 hb8
  refine hK.out _ _ ((Same1.of _ hl7).on hk8) (fun hHeld => ?_)
  simp only [Act.put]
  refine wpAnyH_take (i := 13) (oi := { dst := some 5, op := .assign (.tmp 95), type := 4, pos := _, after := #[{ on := 11, ground := .data }, { on := 12, ground := .chain }, { on := 0, ground := .phase }, { on := 1, ground := .phase }, { on := 2, ground := .phase }, { on := 3, ground := .phase }, { on := 4, ground := .phase }, { on := 5, ground := .phase }, { on := 6, ground := .phase }, { on := 7, ground := .phase }, { on := 8, ground := .phase }, { on := 9, ground := .phase }, { on := 10, ground := .phase }, { on := 11, ground := .phase }, { on := 12, ground := .phase }], guard := none }) (v := .bool (rT i x y)) rfl (by kernel_rfl) (by kernel_rfl) (by kernel_rfl) (fun _ _ _ h => h) (.inl ⟨by rfl, fun _ _ => rfl⟩) hHeld ?_
  simp only [Act.put, List.setIfInBounds_toArray, List.set_cons_zero, List.set_cons_succ]
  have HB8 : Hid (Below w.heap.size w w8) := hb8 _ _ (HB5.out.trans (hl7.mono HB5.out.size)) (by omega)
  refine wpAnyH_done ?_ ?_ _
  · kernel_rfl
  refine NoPanic.normal ?_
  go_wp2_with fail
  exact bodyPost_ret (resMB Tryz.results6 rfl rfl HM8) rfl ⟨_, rfl, HCM.out x y hx hy, HB8.out⟩
end Go.Proofs.YtmgjngihngddfaaGreatDoor
