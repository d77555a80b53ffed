/- What a comparison says. Helper text: no statement is claimed here. -/
import Derived.Test.YtmgjngihngddfaaGreatDoorP10
import Derived.Test.YtmgjngihngddfaaGreatDoorP15
import Derived.Test.YtmgjngihngddfaaGreatDoorP01
import Derived.Test.YtmgjngihngddfaaGreatDoorP04
import Derived.Test.YtmgjngihngddfaaGreatDoorP07
namespace Go.Proofs.YtmgjngihngddfaaGreatDoor
open Go.ChangeShapes Go.WideShapes Go.ChangeAt Go.RowKit Fl

theorem range3W {w : World} {b o : Nat} {x y z : Value} (h0 : w.cell? ⟨b, o, none⟩ = some x) (h1 : w.cell? ⟨b, o + 1, none⟩ = some y) (h2 : w.cell? ⟨b, o + 2, none⟩ = some z) : w.rangeAt b o [x, y, z] := fun j v hv => by
  match j, hv with
  | 0, hv => simp at hv; rw [Nat.add_zero, h0, hv]
  | 1, hv => simp at hv; rw [h1, hv]
  | 2, hv => simp at hv; rw [h2, hv]

set_option maxHeartbeats 1000000 in
set_option maxRecDepth 100000 in
theorem says_cmp_r (x : Nat → Int) (m : Mm) (hm : m.Ok) (i : Nat) (h1 : 1 ≤ i) (h2 : i ≤ 6) (w : World) (hT : DevTab w) (hr : realB (x 0) = true) :
    Calls Tryz.prog 87 #[.agg #[.int .i64 (x 0), .int .i64 (x 1), .int .i64 (x 2), .int .i64 (x 3), .int .i64 (x 4), .int .i64 (x 5), .int .i64 (x 6), .int .i64 (x 7), .int .i64 (x 8), .int .i64 (i : Int)], m.val] w fun e w' => ∃ r, e = .returned (.tuple #[m.val, .bool r]) ∧ CmpR m i (x 0, x 1, x 2) (x 3, x 4, x 5) r ∧ Below w.heap.size w w' := by
  have HT : Hid (DevTab w) := hT
  have hz : ∀ w, (zeroValue 37).run Tryz.prog w = .ok (.agg zeroM.cells) w := fun _ => by kernel_rfl
  have HS0 : Hid (∀ W, DevTab W → Calls Tryz.prog 89 #[m.val, .agg #[.int .i64 (x 0), .int .i64 (x 1), .int .i64 (x 2)]] W fun e w' => ∃ u, e = .returned u ∧ (∃ r, u = Value.float .f64 r ∧ m.RealR (x 0) (x 1) (x 2) r) ∧ Below W.heap.size W w') := fun W hW => ireal_any m hm _ _ _ W hW
  have HS1 : Hid (∀ W, DevTab W → Calls Tryz.prog 89 #[m.val, .agg #[.int .i64 (x 3), .int .i64 (x 4), .int .i64 (x 5)]] W fun e w' => ∃ u, e = .returned u ∧ (∃ r, u = Value.float .f64 r ∧ m.RealR (x 3) (x 4) (x 5) r) ∧ Below W.heap.size W w') := fun W hW => ireal_any m hm _ _ _ W hW
  have HSC : Hid (∀ a b W, Calls Tryz.prog 88 #[.int .i64 (i : Int), .float .f64 a, .float .f64 b] W fun e w' => e = .returned (.bool (rT i a b)) ∧ Below W.heap.size W w') := fun a b W => rcmp_any i a b W h1 h2
  have HCM : Hid (∀ a b, m.RealR (x 0) (x 1) (x 2) a → m.RealR (x 3) (x 4) (x 5) b → CmpR m i (x 0, x 1, x 2) (x 3, x 4, x 5) (rT i a b)) := fun a b ha hb => by unfold CmpR; rw [if_pos hr]; exact ⟨a, b, ha, hb, rfl⟩
  clear hT hm h1 h2
  generalize x 0 = x0 at *
  generalize x 1 = x1 at *
  generalize x 2 = x2 at *
  generalize x 3 = x3 at *
  generalize x 4 = x4 at *
  generalize x 5 = x5 at *
  generalize x 6 = x6 at *
  generalize x 7 = x7 at *
  generalize x 8 = x8 at *
  have hk : x0 = 10 ∨ x0 = 12 ∨ x0 = 13 := by simpa [realB, or_assoc] using hr
  clear hr
  have e1 : ∃ b1 : Bool, (x0 == 10) = b1 := ⟨_, rfl⟩
  have e2 : ∃ b2 : Bool, (x0 == 12) = b2 := ⟨_, rfl⟩
  have hk' : (x0 == 10) = true ∨ (x0 == 10) = false ∧ (x0 == 12) = true ∨ (x0 == 10) = false ∧ (x0 == 12) = false ∧ (x0 == 13) = true := by rcases hk with rfl | rfl | rfl <;> simp
  clear hk e1 e2
  have hu : m.val = .agg m.cells := rfl
  rw [hu]
  clear hu
  go_enter Tryz.func87, Tryz.ntmps87
  go_upto_region 1 with fail
  have HB : Hid (Below w.heap.size w (((w.alloc (.cells #[.int .i64 x0, .int .i64 x1, .int .i64 x2, .int .i64 x3, .int .i64 x4, .int .i64 x5, .int .i64 x6, .int .i64 x7, .int .i64 x8, .int .i64 (i : Int)] 92)).alloc (.cells m.cells 37)).alloc (.cells zeroM.cells 37))) := (((Below.refl _ _).alloc (Nat.le_refl _) _).alloc (by simp) _).alloc (by simp; omega) _
  have HI : Hid (MemAt (((w.alloc (.cells #[.int .i64 x0, .int .i64 x1, .int .i64 x2, .int .i64 x3, .int .i64 x4, .int .i64 x5, .int .i64 x6, .int .i64 x7, .int .i64 x8, .int .i64 (i : Int)] 92)).alloc (.cells m.cells 37)).alloc (.cells zeroM.cells 37)) (w.heap.size + 1) m) := by
    have := (RowAt.new (w.alloc (.cells #[.int .i64 x0, .int .i64 x1, .int .i64 x2, .int .i64 x3, .int .i64 x4, .int .i64 x5, .int .i64 x6, .int .i64 x7, .int .i64 x8, .int .i64 (i : Int)] 92)) 37 136 m.cell).alloc (.cells zeroM.cells 37)
    rw [show ((w.alloc (.cells #[.int .i64 x0, .int .i64 x1, .int .i64 x2, .int .i64 x3, .int .i64 x4, .int .i64 x5, .int .i64 x6, .int .i64 x7, .int .i64 x8, .int .i64 (i : Int)] 92))).heap.size = w.heap.size + 1 by simp] at this
    exact this
  have HR : Hid (MemAt (((w.alloc (.cells #[.int .i64 x0, .int .i64 x1, .int .i64 x2, .int .i64 x3, .int .i64 x4, .int .i64 x5, .int .i64 x6, .int .i64 x7, .int .i64 x8, .int .i64 (i : Int)] 92)).alloc (.cells m.cells 37)).alloc (.cells zeroM.cells 37)) (w.heap.size + 1 + 1) zeroM) := by
    have := RowAt.new ((w.alloc (.cells #[.int .i64 x0, .int .i64 x1, .int .i64 x2, .int .i64 x3, .int .i64 x4, .int .i64 x5, .int .i64 x6, .int .i64 x7, .int .i64 x8, .int .i64 (i : Int)] 92)).alloc (.cells m.cells 37)) 37 136 zeroM.cell
    rw [show (((w.alloc (.cells #[.int .i64 x0, .int .i64 x1, .int .i64 x2, .int .i64 x3, .int .i64 x4, .int .i64 x5, .int .i64 x6, .int .i64 x7, .int .i64 x8, .int .i64 (i : Int)] 92)).alloc (.cells m.cells 37))).heap.size = w.heap.size + 1 + 1 by simp] at this
    exact this
  have c0 : ((((w.alloc (.cells #[.int .i64 x0, .int .i64 x1, .int .i64 x2, .int .i64 x3, .int .i64 x4, .int .i64 x5, .int .i64 x6, .int .i64 x7, .int .i64 x8, .int .i64 (i : Int)] 92)).alloc (.cells m.cells 37)).alloc (.cells zeroM.cells 37))).cell? ⟨w.heap.size, 0, none⟩ = some (.int .i64 x0) := by simp [go_sem]
  have c1 : ((((w.alloc (.cells #[.int .i64 x0, .int .i64 x1, .int .i64 x2, .int .i64 x3, .int .i64 x4, .int .i64 x5, .int .i64 x6, .int .i64 x7, .int .i64 x8, .int .i64 (i : Int)] 92)).alloc (.cells m.cells 37)).alloc (.cells zeroM.cells 37))).cell? ⟨w.heap.size, 1, none⟩ = some (.int .i64 x1) := by simp [go_sem]
  have c2 : ((((w.alloc (.cells #[.int .i64 x0, .int .i64 x1, .int .i64 x2, .int .i64 x3, .int .i64 x4, .int .i64 x5, .int .i64 x6, .int .i64 x7, .int .i64 x8, .int .i64 (i : Int)] 92)).alloc (.cells m.cells 37)).alloc (.cells zeroM.cells 37))).cell? ⟨w.heap.size, 2, none⟩ = some (.int .i64 x2) := by simp [go_sem]
  have c3 : ((((w.alloc (.cells #[.int .i64 x0, .int .i64 x1, .int .i64 x2, .int .i64 x3, .int .i64 x4, .int .i64 x5, .int .i64 x6, .int .i64 x7, .int .i64 x8, .int .i64 (i : Int)] 92)).alloc (.cells m.cells 37)).alloc (.cells zeroM.cells 37))).cell? ⟨w.heap.size, 3, none⟩ = some (.int .i64 x3) := by simp [go_sem]
  have c4 : ((((w.alloc (.cells #[.int .i64 x0, .int .i64 x1, .int .i64 x2, .int .i64 x3, .int .i64 x4, .int .i64 x5, .int .i64 x6, .int .i64 x7, .int .i64 x8, .int .i64 (i : Int)] 92)).alloc (.cells m.cells 37)).alloc (.cells zeroM.cells 37))).cell? ⟨w.heap.size, 4, none⟩ = some (.int .i64 x4) := by simp [go_sem]
  have c5 : ((((w.alloc (.cells #[.int .i64 x0, .int .i64 x1, .int .i64 x2, .int .i64 x3, .int .i64 x4, .int .i64 x5, .int .i64 x6, .int .i64 x7, .int .i64 x8, .int .i64 (i : Int)] 92)).alloc (.cells m.cells 37)).alloc (.cells zeroM.cells 37))).cell? ⟨w.heap.size, 5, none⟩ = some (.int .i64 x5) := by simp [go_sem]
  have c6 : ((((w.alloc (.cells #[.int .i64 x0, .int .i64 x1, .int .i64 x2, .int .i64 x3, .int .i64 x4, .int .i64 x5, .int .i64 x6, .int .i64 x7, .int .i64 x8, .int .i64 (i : Int)] 92)).alloc (.cells m.cells 37)).alloc (.cells zeroM.cells 37))).cell? ⟨w.heap.size, 6, none⟩ = some (.int .i64 x6) := by simp [go_sem]
  have c7 : ((((w.alloc (.cells #[.int .i64 x0, .int .i64 x1, .int .i64 x2, .int .i64 x3, .int .i64 x4, .int .i64 x5, .int .i64 x6, .int .i64 x7, .int .i64 x8, .int .i64 (i : Int)] 92)).alloc (.cells m.cells 37)).alloc (.cells zeroM.cells 37))).cell? ⟨w.heap.size, 7, none⟩ = some (.int .i64 x7) := by simp [go_sem]
  have c8 : ((((w.alloc (.cells #[.int .i64 x0, .int .i64 x1, .int .i64 x2, .int .i64 x3, .int .i64 x4, .int .i64 x5, .int .i64 x6, .int .i64 x7, .int .i64 x8, .int .i64 (i : Int)] 92)).alloc (.cells m.cells 37)).alloc (.cells zeroM.cells 37))).cell? ⟨w.heap.size, 8, none⟩ = some (.int .i64 x8) := by simp [go_sem]
  have c9 : ((((w.alloc (.cells #[.int .i64 x0, .int .i64 x1, .int .i64 x2, .int .i64 x3, .int .i64 x4, .int .i64 x5, .int .i64 x6, .int .i64 x7, .int .i64 x8, .int .i64 (i : Int)] 92)).alloc (.cells m.cells 37)).alloc (.cells zeroM.cells 37))).cell? ⟨w.heap.size, 9, none⟩ = some (.int .i64 (i : Int)) := by simp [go_sem]
  have hlt : w.heap.size + 1 + 1 < ((((w.alloc (.cells #[.int .i64 x0, .int .i64 x1, .int .i64 x2, .int .i64 x3, .int .i64 x4, .int .i64 x5, .int .i64 x6, .int .i64 x7, .int .i64 x8, .int .i64 (i : Int)] 92)).alloc (.cells m.cells 37)).alloc (.cells zeroM.cells 37))).heap.size := HR.out.lt
  generalize (((w.alloc (.cells #[.int .i64 x0, .int .i64 x1, .int .i64 x2, .int .i64 x3, .int .i64 x4, .int .i64 x5, .int .i64 x6, .int .i64 x7, .int .i64 x8, .int .i64 (i : Int)] 92)).alloc (.cells m.cells 37)).alloc (.cells zeroM.cells 37)) = V at *
  clear hz
  have ra : V.rangeAt w.heap.size 0 [.int .i64 x0, .int .i64 x1, .int .i64 x2] := range3W c0 c1 c2
  have rb : V.rangeAt w.heap.size 3 [.int .i64 x3, .int .i64 x4, .int .i64 x5] := range3W c3 c4 c5
  clear c1 c2 c3 c4 c5 c6 c7 c8
  rcases hk' with q1 | ⟨q1, q2⟩ | ⟨q1, q2, q3⟩
  all_goals (
    go_upto_region 5 with fail
    refine wp_region_noPanic ?_
    refine wp_region_held_drew (S := Same1 V (w.heap.size + 1 + 1)) (by kernel_rfl) (Same1.of _ (Below.refl _ _).drew) (fun hHeld => ?_)
    refine wpAnyH_take (i := 0) (oi := { dst := some 14, op := .load 37 (.tmp 3), type := 37, pos := _, after := #[], guard := none }) (v := m.val) rfl (by kernel_rfl) (by kernel_rfl) (by kernel_rfl) (fun _ _ _ h => h) (yields_row (by rfl) (.tmp 3) rfl rfl (fun W hb => hb.mem HI.out (by omega)) Tryz.underlying37 rfl (by kernel_rfl)) hHeld ?_
    simp only [Act.put, List.setIfInBounds_toArray, List.set_cons_zero, List.set_cons_succ]
    refine wpAnyH_take (i := 1) (oi := { dst := some 15, op := .fieldAddr 92 (.tmp 2) 1, type := 0, pos := _, after := #[], guard := none }) (v := .pointer (some ⟨w.heap.size, 9, none⟩)) rfl (by kernel_rfl) (by kernel_rfl) (by kernel_rfl) (fun _ _ _ h => h) (.inl ⟨by rfl, fun _ _ => rfl⟩) hHeld ?_
    simp only [Act.put, List.setIfInBounds_toArray, List.set_cons_zero, List.set_cons_succ]
    refine wpAnyH_take (i := 2) (oi := { dst := some 16, op := .load 3 (.tmp 15), type := 3, pos := _, after := #[{ on := 1, ground := .data }], guard := none }) (v := .int .i64 (i : Int)) rfl (by kernel_rfl) (by kernel_rfl) (by kernel_rfl) (fun _ _ _ h => h) (yields_int (by rfl) (.tmp 15) rfl rfl (fun W h => h.cell c9 (by omega))) hHeld ?_
    simp only [Act.put, List.setIfInBounds_toArray, List.set_cons_zero, List.set_cons_succ]
    refine wpAnyH_take (i := 3) (oi := { dst := some 17, op := .load 37 (.tmp 3), type := 37, pos := _, after := #[], guard := none }) (v := m.val) rfl (by kernel_rfl) (by kernel_rfl) (by kernel_rfl) (fun _ _ _ h => h) (yields_row (by rfl) (.tmp 3) rfl rfl (fun W hb => hb.mem HI.out (by omega)) Tryz.underlying37 rfl (by kernel_rfl)) hHeld ?_
    simp only [Act.put, List.setIfInBounds_toArray, List.set_cons_zero, List.set_cons_succ]
    refine wpAnyH_take (i := 4) (oi := { dst := some 18, op := .fieldAddr 92 (.tmp 2) 0, type := 0, pos := _, after := #[], guard := none }) (v := .pointer (some ⟨w.heap.size, 0, none⟩)) rfl (by kernel_rfl) (by kernel_rfl) (by kernel_rfl) (fun _ _ _ h => h) (.inl ⟨by rfl, fun _ _ => rfl⟩) hHeld ?_
    simp only [Act.put, List.setIfInBounds_toArray, List.set_cons_zero, List.set_cons_succ]
    refine wpAnyH_take (i := 5) (oi := { dst := some 19, op := .fieldAddr 84 (.tmp 18) 0, type := 0, pos := _, after := #[{ on := 4, ground := .data }], guard := none }) (v := .pointer (some ⟨w.heap.size, 0, none⟩)) rfl (by kernel_rfl) (by kernel_rfl) (by kernel_rfl) (fun _ _ _ h => h) (.inl ⟨by rfl, fun _ _ => rfl⟩) hHeld ?_
    simp only [Act.put, List.setIfInBounds_toArray, List.set_cons_zero, List.set_cons_succ]
    refine wpAnyH_take (i := 6) (oi := { dst := some 20, op := .load 48 (.tmp 19), type := 48, pos := _, after := #[{ on := 5, ground := .data }], guard := none }) (v := .agg #[.int .i64 x0, .int .i64 x1, .int .i64 x2]) rfl (by kernel_rfl) (by kernel_rfl) (by kernel_rfl) (fun _ _ _ h => h) (yieldsIf_load_mid (by rfl) _ _ rfl w.heap.size 0 rfl [.int .i64 x0, .int .i64 x1, .int .i64 x2] _ (fun W h => h.range ra (by omega) (by omega)) Tryz.underlying48 rfl (by kernel_rfl)) hHeld ?_
    simp only [Act.put, List.setIfInBounds_toArray, List.set_cons_zero, List.set_cons_succ]
    refine wpAnyH_take (i := 8) (oi := { dst := some 22, op := .load 37 (.tmp 3), type := 37, pos := _, after := #[], guard := none }) (v := m.val) rfl (by kernel_rfl) (by kernel_rfl) (by kernel_rfl) (fun _ _ _ h => h) (yields_row (by rfl) (.tmp 3) rfl rfl (fun W hb => hb.mem HI.out (by omega)) Tryz.underlying37 rfl (by kernel_rfl)) hHeld ?_
    simp only [Act.put, List.setIfInBounds_toArray, List.set_cons_zero, List.set_cons_succ]
    refine wpAnyH_take (i := 9) (oi := { dst := some 23, op := .fieldAddr 92 (.tmp 2) 0, type := 0, pos := _, after := #[], guard := none }) (v := .pointer (some ⟨w.heap.size, 0, none⟩)) rfl (by kernel_rfl) (by kernel_rfl) (by kernel_rfl) (fun _ _ _ h => h) (.inl ⟨by rfl, fun _ _ => rfl⟩) hHeld ?_
    simp only [Act.put, List.setIfInBounds_toArray, List.set_cons_zero, List.set_cons_succ]
    refine wpAnyH_take (i := 10) (oi := { dst := some 24, op := .fieldAddr 84 (.tmp 23) 1, type := 0, pos := _, after := #[{ on := 9, ground := .data }], guard := none }) (v := .pointer (some ⟨w.heap.size, 3, none⟩)) rfl (by kernel_rfl) (by kernel_rfl) (by kernel_rfl) (fun _ _ _ h => h) (.inl ⟨by rfl, fun _ _ => rfl⟩) hHeld ?_
    simp only [Act.put, List.setIfInBounds_toArray, List.set_cons_zero, List.set_cons_succ]
    refine wpAnyH_take (i := 11) (oi := { dst := some 25, op := .load 48 (.tmp 24), type := 48, pos := _, after := #[{ on := 10, ground := .data }], guard := none }) (v := .agg #[.int .i64 x3, .int .i64 x4, .int .i64 x5]) rfl (by kernel_rfl) (by kernel_rfl) (by kernel_rfl) (fun _ _ _ h => h) (yieldsIf_load_mid (by rfl) _ _ rfl w.heap.size 3 rfl [.int .i64 x3, .int .i64 x4, .int .i64 x5] _ (fun W h => h.range rb (by omega) (by omega)) Tryz.underlying48 rfl (by kernel_rfl)) hHeld ?_
    simp only [Act.put, List.setIfInBounds_toArray, List.set_cons_zero, List.set_cons_succ]
    refine wpAnyH_ready (rs := [7]) (by kernel_rfl) (by simp) ?_
    refine AllReadyH.cons (o := { dst := some 21, op := .call { callee := .value (.func 89), args := #[.tmp 17, .tmp 20], argTypes := #[37, 48] }, type := 34, pos := _, after := #[{ on := 3, ground := .data }, { on := 6, ground := .data }], guard := none }) rfl (fun K hK => ?_) AllReadyH.nil
    rw [if_pos (by rfl)]
    refine wp_callGoE (args := #[m.val, .agg #[.int .i64 x0, .int .i64 x1, .int .i64 x2]]) Tryz.call89 rfl (by simp [Act.eval]) (HS0.out _ ((HT.out.to HB.out).to (Below.refl _ _).drew)) ?_
    rintro _ w6 ⟨⟨xA, rfl, hx⟩, hb6⟩
    have hl6 : Below V.heap.size V w6 := (Below.refl _ _).drew.trans (hb6.mono (Nat.le_refl _))
    clear hb6
    refine hK.out _ _ (Same1.of _ hl6) (fun hHeld => ?_)
    simp only [Act.put, List.setIfInBounds_toArray, List.set_cons_zero, List.set_cons_succ]
    refine wpAnyH_ready (rs := [12]) (by kernel_rfl) (by simp) ?_
    refine AllReadyH.cons (o := { dst := some 26, op := .call { callee := .value (.func 89), args := #[.tmp 22, .tmp 25], argTypes := #[37, 48] }, type := 34, pos := _, after := #[{ on := 8, ground := .data }, { on := 11, ground := .data }, { on := 7, ground := .chain }], guard := none }) rfl (fun K hK => ?_) AllReadyH.nil
    rw [if_pos (by rfl)]
    refine wp_callGoE (args := #[m.val, .agg #[.int .i64 x3, .int .i64 x4, .int .i64 x5]]) Tryz.call89 rfl (by simp [Act.eval]) (HS1.out _ ((HT.out.to HB.out).to hl6)) ?_
    rintro _ w7 ⟨⟨xB, rfl, hy⟩, hb7⟩
    have hl7 : Below V.heap.size V w7 := hl6.trans (hb7.mono hl6.size)
    clear hb7 hl6
    refine hK.out _ _ (Same1.of _ hl7) (fun hHeld => ?_)
    simp only [Act.put, List.setIfInBounds_toArray, List.set_cons_zero, List.set_cons_succ]
    refine wpAnyH_ready (rs := [13]) (by kernel_rfl) (by simp) ?_
    refine AllReadyH.cons (o := { dst := some 27, op := .call { callee := .value (.func 88), args := #[.tmp 16, .tmp 21, .tmp 26], argTypes := #[3, 34, 34] }, type := 4, pos := _, after := #[{ on := 2, ground := .data }, { on := 7, ground := .data }, { on := 12, ground := .data }, { on := 12, ground := .chain }], guard := none }) rfl (fun K hK => ?_) AllReadyH.nil
    rw [if_pos (by rfl)]
    refine wp_callGo (args := #[.int .i64 (i : Int), .float .f64 xA, .float .f64 xB]) Tryz.call88 rfl (by simp [Act.eval]) (HSC.out xA xB _) ?_
    intro w9 hb9
    have hl9 : Below V.heap.size V w9 := hl7.trans (hb9.mono hl7.size)
    clear hb9 hl7
    refine hK.out _ _ (Same1.of _ hl9) (fun hHeld => ?_)
    simp only [Act.put, List.setIfInBounds_toArray, List.set_cons_zero, List.set_cons_succ]
    refine wpAnyH_ready (rs := [14]) (by kernel_rfl) (by simp) ?_
    refine AllReadyH.cons (o := { dst := none, op := .store 37 (.tmp 4) (.tmp 14), type := 0, pos := _, after := #[{ on := 0, ground := .data }, { on := 13, ground := .chain }, { on := 0, ground := .phase }, { on := 1, ground := .textOnly .lateStores }, { on := 2, ground := .textOnly .lateStores }, { on := 3, ground := .textOnly .lateStores }, { on := 4, ground := .textOnly .lateStores }, { on := 5, ground := .textOnly .lateStores }, { on := 6, ground := .textOnly .lateStores }, { on := 7, ground := .textOnly .lateStoresUnsure }, { on := 8, ground := .textOnly .lateStores }, { on := 9, ground := .textOnly .lateStores }, { on := 10, ground := .textOnly .lateStores }, { on := 11, ground := .textOnly .lateStores }, { on := 12, ground := .textOnly .lateStoresUnsure }, { on := 13, ground := .textOnly .lateStoresUnsure }], guard := none }) rfl (fun K hK => ?_) AllReadyH.nil
    rw [if_pos (by rfl)]
    with_reducible refine wp_storeMemV (m := m) (b := w.heap.size + 1 + 1) (.tmp 4) (.tmp 14) ?_ ?_ ?_ (HR.out.to hl9) ?_
    · rfl
    · simp [Act.eval]
    · simp [Act.eval]
    intro w8 HM8 hk8 hb8
    refine hK.out _ _ ((Same1.of _ hl9).on hk8) (fun hHeld => ?_)
    simp only [Act.put]
    refine wpAnyH_take (i := 15) (oi := { dst := some 5, op := .assign (.tmp 27), type := 4, pos := _, after := #[{ on := 13, ground := .data }, { on := 14, ground := .chain }, { on := 0, ground := .phase }, { on := 1, ground := .phase }, { on := 2, ground := .phase }, { on := 3, ground := .phase }, { on := 4, ground := .phase }, { on := 5, ground := .phase }, { on := 6, ground := .phase }, { on := 7, ground := .phase }, { on := 8, ground := .phase }, { on := 9, ground := .phase }, { on := 10, ground := .phase }, { on := 11, ground := .phase }, { on := 12, ground := .phase }, { on := 13, ground := .phase }, { on := 14, ground := .phase }], guard := none }) (v := .bool (rT i xA xB)) rfl (by kernel_rfl) (by kernel_rfl) (by kernel_rfl) (fun _ _ _ h => h) (.inl ⟨by rfl, fun _ _ => rfl⟩) hHeld ?_
    simp only [Act.put, List.setIfInBounds_toArray, List.set_cons_zero, List.set_cons_succ]
    have HB8 : Hid (Below w.heap.size w w8) := hb8 _ _ (HB.out.trans (hl9.mono HB.out.size)) (by omega)
    refine wpAnyH_done ?_ ?_ _
    · kernel_rfl
    refine NoPanic.normal ?_
    go_wp2_with fail
    exact bodyPost_ret (resMB Tryz.results87 rfl rfl HM8) rfl ⟨_, rfl, HCM.out xA xB hx hy, HB8.out⟩)

set_option maxHeartbeats 1000000 in
set_option maxRecDepth 100000 in
theorem says_cmp_w (x : Nat → Int) (m : Mm) (hm : m.Ok) (i : Nat) (h1 : 1 ≤ i) (h2 : i ≤ 6) (w : World) (hT : DevTab w) (hr : realB (x 0) = false) :
    Calls Tryz.prog 87 #[.agg #[.int .i64 (x 0), .int .i64 (x 1), .int .i64 (x 2), .int .i64 (x 3), .int .i64 (x 4), .int .i64 (x 5), .int .i64 (x 6), .int .i64 (x 7), .int .i64 (x 8), .int .i64 (i : Int)], m.val] w fun e w' => ∃ r, e = .returned (.tuple #[m.val, .bool r]) ∧ CmpR m i (x 0, x 1, x 2) (x 3, x 4, x 5) r ∧ Below w.heap.size w w' := by
  have HT : Hid (DevTab w) := hT
  have hz : ∀ w, (zeroValue 37).run Tryz.prog w = .ok (.agg zeroM.cells) w := fun _ => by kernel_rfl
  have HS0 : Hid (∀ W, DevTab W → Calls Tryz.prog 91 #[m.val, .agg #[.int .i64 (x 0), .int .i64 (x 1), .int .i64 (x 2)]] W fun e w' => e = .returned (.int .i16 (m.whole (x 0) (x 1))) ∧ Below W.heap.size W w') := fun W hW => iwhole_any m hm _ _ _ W hW
  have HS1 : Hid (∀ W, DevTab W → Calls Tryz.prog 91 #[m.val, .agg #[.int .i64 (x 3), .int .i64 (x 4), .int .i64 (x 5)]] W fun e w' => e = .returned (.int .i16 (m.whole (x 3) (x 4))) ∧ Below W.heap.size W w') := fun W hW => iwhole_any m hm _ _ _ W hW
  have HSC : Hid (∀ a b W, Calls Tryz.prog 90 #[.int .i64 (i : Int), .int .i16 a, .int .i16 b] W fun e w' => e = .returned (.bool (wT i a b)) ∧ Below W.heap.size W w') := fun a b W => wcmp_any i a b W h1 h2
  have hcm : CmpR m i (x 0, x 1, x 2) (x 3, x 4, x 5) (wT i (m.whole (x 0) (x 1)) (m.whole (x 3) (x 4))) := by unfold CmpR; rw [if_neg (by simp [hr])]
  have HCM : Hid (CmpR m i (x 0, x 1, x 2) (x 3, x 4, x 5) (wT i (m.whole (x 0) (x 1)) (m.whole (x 3) (x 4)))) := hcm
  clear hcm
  generalize m.whole (x 0) (x 1) = xA at *
  generalize m.whole (x 3) (x 4) = xB at *
  clear hT hm h1 h2
  generalize x 0 = x0 at *
  generalize x 1 = x1 at *
  generalize x 2 = x2 at *
  generalize x 3 = x3 at *
  generalize x 4 = x4 at *
  generalize x 5 = x5 at *
  generalize x 6 = x6 at *
  generalize x 7 = x7 at *
  generalize x 8 = x8 at *
  have q1 : (x0 == 10) = false := by simp [realB] at hr; simpa using hr.1.1
  have q2 : (x0 == 12) = false := by simp [realB] at hr; simpa using hr.1.2
  have q3 : (x0 == 13) = false := by simp [realB] at hr; simpa using hr.2
  clear hr
  have hu : m.val = .agg m.cells := rfl
  rw [hu]
  clear hu
  go_enter Tryz.func87, Tryz.ntmps87
  go_upto_region 1 with fail
  have HB : Hid (Below w.heap.size w (((w.alloc (.cells #[.int .i64 x0, .int .i64 x1, .int .i64 x2, .int .i64 x3, .int .i64 x4, .int .i64 x5, .int .i64 x6, .int .i64 x7, .int .i64 x8, .int .i64 (i : Int)] 92)).alloc (.cells m.cells 37)).alloc (.cells zeroM.cells 37))) := (((Below.refl _ _).alloc (Nat.le_refl _) _).alloc (by simp) _).alloc (by simp; omega) _
  have HI : Hid (MemAt (((w.alloc (.cells #[.int .i64 x0, .int .i64 x1, .int .i64 x2, .int .i64 x3, .int .i64 x4, .int .i64 x5, .int .i64 x6, .int .i64 x7, .int .i64 x8, .int .i64 (i : Int)] 92)).alloc (.cells m.cells 37)).alloc (.cells zeroM.cells 37)) (w.heap.size + 1) m) := by
    have := (RowAt.new (w.alloc (.cells #[.int .i64 x0, .int .i64 x1, .int .i64 x2, .int .i64 x3, .int .i64 x4, .int .i64 x5, .int .i64 x6, .int .i64 x7, .int .i64 x8, .int .i64 (i : Int)] 92)) 37 136 m.cell).alloc (.cells zeroM.cells 37)
    rw [show ((w.alloc (.cells #[.int .i64 x0, .int .i64 x1, .int .i64 x2, .int .i64 x3, .int .i64 x4, .int .i64 x5, .int .i64 x6, .int .i64 x7, .int .i64 x8, .int .i64 (i : Int)] 92))).heap.size = w.heap.size + 1 by simp] at this
    exact this
  have HR : Hid (MemAt (((w.alloc (.cells #[.int .i64 x0, .int .i64 x1, .int .i64 x2, .int .i64 x3, .int .i64 x4, .int .i64 x5, .int .i64 x6, .int .i64 x7, .int .i64 x8, .int .i64 (i : Int)] 92)).alloc (.cells m.cells 37)).alloc (.cells zeroM.cells 37)) (w.heap.size + 1 + 1) zeroM) := by
    have := RowAt.new ((w.alloc (.cells #[.int .i64 x0, .int .i64 x1, .int .i64 x2, .int .i64 x3, .int .i64 x4, .int .i64 x5, .int .i64 x6, .int .i64 x7, .int .i64 x8, .int .i64 (i : Int)] 92)).alloc (.cells m.cells 37)) 37 136 zeroM.cell
    rw [show (((w.alloc (.cells #[.int .i64 x0, .int .i64 x1, .int .i64 x2, .int .i64 x3, .int .i64 x4, .int .i64 x5, .int .i64 x6, .int .i64 x7, .int .i64 x8, .int .i64 (i : Int)] 92)).alloc (.cells m.cells 37))).heap.size = w.heap.size + 1 + 1 by simp] at this
    exact this
  have c0 : ((((w.alloc (.cells #[.int .i64 x0, .int .i64 x1, .int .i64 x2, .int .i64 x3, .int .i64 x4, .int .i64 x5, .int .i64 x6, .int .i64 x7, .int .i64 x8, .int .i64 (i : Int)] 92)).alloc (.cells m.cells 37)).alloc (.cells zeroM.cells 37))).cell? ⟨w.heap.size, 0, none⟩ = some (.int .i64 x0) := by simp [go_sem]
  have c1 : ((((w.alloc (.cells #[.int .i64 x0, .int .i64 x1, .int .i64 x2, .int .i64 x3, .int .i64 x4, .int .i64 x5, .int .i64 x6, .int .i64 x7, .int .i64 x8, .int .i64 (i : Int)] 92)).alloc (.cells m.cells 37)).alloc (.cells zeroM.cells 37))).cell? ⟨w.heap.size, 1, none⟩ = some (.int .i64 x1) := by simp [go_sem]
  have c2 : ((((w.alloc (.cells #[.int .i64 x0, .int .i64 x1, .int .i64 x2, .int .i64 x3, .int .i64 x4, .int .i64 x5, .int .i64 x6, .int .i64 x7, .int .i64 x8, .int .i64 (i : Int)] 92)).alloc (.cells m.cells 37)).alloc (.cells zeroM.cells 37))).cell? ⟨w.heap.size, 2, none⟩ = some (.int .i64 x2) := by simp [go_sem]
  have c3 : ((((w.alloc (.cells #[.int .i64 x0, .int .i64 x1, .int .i64 x2, .int .i64 x3, .int .i64 x4, .int .i64 x5, .int .i64 x6, .int .i64 x7, .int .i64 x8, .int .i64 (i : Int)] 92)).alloc (.cells m.cells 37)).alloc (.cells zeroM.cells 37))).cell? ⟨w.heap.size, 3, none⟩ = some (.int .i64 x3) := by simp [go_sem]
  have c4 : ((((w.alloc (.cells #[.int .i64 x0, .int .i64 x1, .int .i64 x2, .int .i64 x3, .int .i64 x4, .int .i64 x5, .int .i64 x6, .int .i64 x7, .int .i64 x8, .int .i64 (i : Int)] 92)).alloc (.cells m.cells 37)).alloc (.cells zeroM.cells 37))).cell? ⟨w.heap.size, 4, none⟩ = some (.int .i64 x4) := by simp [go_sem]
  have c5 : ((((w.alloc (.cells #[.int .i64 x0, .int .i64 x1, .int .i64 x2, .int .i64 x3, .int .i64 x4, .int .i64 x5, .int .i64 x6, .int .i64 x7, .int .i64 x8, .int .i64 (i : Int)] 92)).alloc (.cells m.cells 37)).alloc (.cells zeroM.cells 37))).cell? ⟨w.heap.size, 5, none⟩ = some (.int .i64 x5) := by simp [go_sem]
  have c6 : ((((w.alloc (.cells #[.int .i64 x0, .int .i64 x1, .int .i64 x2, .int .i64 x3, .int .i64 x4, .int .i64 x5, .int .i64 x6, .int .i64 x7, .int .i64 x8, .int .i64 (i : Int)] 92)).alloc (.cells m.cells 37)).alloc (.cells zeroM.cells 37))).cell? ⟨w.heap.size, 6, none⟩ = some (.int .i64 x6) := by simp [go_sem]
  have c7 : ((((w.alloc (.cells #[.int .i64 x0, .int .i64 x1, .int .i64 x2, .int .i64 x3, .int .i64 x4, .int .i64 x5, .int .i64 x6, .int .i64 x7, .int .i64 x8, .int .i64 (i : Int)] 92)).alloc (.cells m.cells 37)).alloc (.cells zeroM.cells 37))).cell? ⟨w.heap.size, 7, none⟩ = some (.int .i64 x7) := by simp [go_sem]
  have c8 : ((((w.alloc (.cells #[.int .i64 x0, .int .i64 x1, .int .i64 x2, .int .i64 x3, .int .i64 x4, .int .i64 x5, .int .i64 x6, .int .i64 x7, .int .i64 x8, .int .i64 (i : Int)] 92)).alloc (.cells m.cells 37)).alloc (.cells zeroM.cells 37))).cell? ⟨w.heap.size, 8, none⟩ = some (.int .i64 x8) := by simp [go_sem]
  have c9 : ((((w.alloc (.cells #[.int .i64 x0, .int .i64 x1, .int .i64 x2, .int .i64 x3, .int .i64 x4, .int .i64 x5, .int .i64 x6, .int .i64 x7, .int .i64 x8, .int .i64 (i : Int)] 92)).alloc (.cells m.cells 37)).alloc (.cells zeroM.cells 37))).cell? ⟨w.heap.size, 9, none⟩ = some (.int .i64 (i : Int)) := by simp [go_sem]
  have hlt : w.heap.size + 1 + 1 < ((((w.alloc (.cells #[.int .i64 x0, .int .i64 x1, .int .i64 x2, .int .i64 x3, .int .i64 x4, .int .i64 x5, .int .i64 x6, .int .i64 x7, .int .i64 x8, .int .i64 (i : Int)] 92)).alloc (.cells m.cells 37)).alloc (.cells zeroM.cells 37))).heap.size := HR.out.lt
  generalize (((w.alloc (.cells #[.int .i64 x0, .int .i64 x1, .int .i64 x2, .int .i64 x3, .int .i64 x4, .int .i64 x5, .int .i64 x6, .int .i64 x7, .int .i64 x8, .int .i64 (i : Int)] 92)).alloc (.cells m.cells 37)).alloc (.cells zeroM.cells 37)) = V at *
  clear hz
  have ra : V.rangeAt w.heap.size 0 [.int .i64 x0, .int .i64 x1, .int .i64 x2] := range3W c0 c1 c2
  have rb : V.rangeAt w.heap.size 3 [.int .i64 x3, .int .i64 x4, .int .i64 x5] := range3W c3 c4 c5
  clear c1 c2 c3 c4 c5 c6 c7 c8
  go_upto_region 6 with fail
  refine wp_region_noPanic ?_
  refine wp_region_held_drew (S := Same1 V (w.heap.size + 1 + 1)) (by kernel_rfl) (Same1.of _ (Below.refl _ _).drew) (fun hHeld => ?_)
  refine wpAnyH_take (i := 0) (oi := { dst := some 28, op := .load 37 (.tmp 3), type := 37, pos := _, after := #[], guard := none }) (v := m.val) rfl (by kernel_rfl) (by kernel_rfl) (by kernel_rfl) (fun _ _ _ h => h) (yields_row (by rfl) (.tmp 3) rfl rfl (fun W hb => hb.mem HI.out (by omega)) Tryz.underlying37 rfl (by kernel_rfl)) hHeld ?_
  simp only [Act.put, List.setIfInBounds_toArray, List.set_cons_zero, List.set_cons_succ]
  refine wpAnyH_take (i := 1) (oi := { dst := some 29, op := .fieldAddr 92 (.tmp 2) 1, type := 0, pos := _, after := #[], guard := none }) (v := .pointer (some ⟨w.heap.size, 9, none⟩)) rfl (by kernel_rfl) (by kernel_rfl) (by kernel_rfl) (fun _ _ _ h => h) (.inl ⟨by rfl, fun _ _ => rfl⟩) hHeld ?_
  simp only [Act.put, List.setIfInBounds_toArray, List.set_cons_zero, List.set_cons_succ]
  refine wpAnyH_take (i := 2) (oi := { dst := some 30, op := .load 3 (.tmp 29), type := 3, pos := _, after := #[{ on := 1, ground := .data }], guard := none }) (v := .int .i64 (i : Int)) rfl (by kernel_rfl) (by kernel_rfl) (by kernel_rfl) (fun _ _ _ h => h) (yields_int (by rfl) (.tmp 29) rfl rfl (fun W h => h.cell c9 (by omega))) hHeld ?_
  simp only [Act.put, List.setIfInBounds_toArray, List.set_cons_zero, List.set_cons_succ]
  refine wpAnyH_take (i := 3) (oi := { dst := some 31, op := .load 37 (.tmp 3), type := 37, pos := _, after := #[], guard := none }) (v := m.val) rfl (by kernel_rfl) (by kernel_rfl) (by kernel_rfl) (fun _ _ _ h => h) (yields_row (by rfl) (.tmp 3) rfl rfl (fun W hb => hb.mem HI.out (by omega)) Tryz.underlying37 rfl (by kernel_rfl)) hHeld ?_
  simp only [Act.put, List.setIfInBounds_toArray, List.set_cons_zero, List.set_cons_succ]
  refine wpAnyH_take (i := 4) (oi := { dst := some 32, op := .fieldAddr 92 (.tmp 2) 0, type := 0, pos := _, after := #[], guard := none }) (v := .pointer (some ⟨w.heap.size, 0, none⟩)) rfl (by kernel_rfl) (by kernel_rfl) (by kernel_rfl) (fun _ _ _ h => h) (.inl ⟨by rfl, fun _ _ => rfl⟩) hHeld ?_
  simp only [Act.put, List.setIfInBounds_toArray, List.set_cons_zero, List.set_cons_succ]
  refine wpAnyH_take (i := 5) (oi := { dst := some 33, op := .fieldAddr 84 (.tmp 32) 0, type := 0, pos := _, after := #[{ on := 4, ground := .data }], guard := none }) (v := .pointer (some ⟨w.heap.size, 0, none⟩)) rfl (by kernel_rfl) (by kernel_rfl) (by kernel_rfl) (fun _ _ _ h => h) (.inl ⟨by rfl, fun _ _ => rfl⟩) hHeld ?_
  simp only [Act.put, List.setIfInBounds_toArray, List.set_cons_zero, List.set_cons_succ]
  refine wpAnyH_take (i := 6) (oi := { dst := some 34, op := .load 48 (.tmp 33), type := 48, pos := _, after := #[{ on := 5, ground := .data }], guard := none }) (v := .agg #[.int .i64 x0, .int .i64 x1, .int .i64 x2]) rfl (by kernel_rfl) (by kernel_rfl) (by kernel_rfl) (fun _ _ _ h => h) (yieldsIf_load_mid (by rfl) _ _ rfl w.heap.size 0 rfl [.int .i64 x0, .int .i64 x1, .int .i64 x2] _ (fun W h => h.range ra (by omega) (by omega)) Tryz.underlying48 rfl (by kernel_rfl)) hHeld ?_
  simp only [Act.put, List.setIfInBounds_toArray, List.set_cons_zero, List.set_cons_succ]
  refine wpAnyH_take (i := 8) (oi := { dst := some 36, op := .load 37 (.tmp 3), type := 37, pos := _, after := #[], guard := none }) (v := m.val) rfl (by kernel_rfl) (by kernel_rfl) (by kernel_rfl) (fun _ _ _ h => h) (yields_row (by rfl) (.tmp 3) rfl rfl (fun W hb => hb.mem HI.out (by omega)) Tryz.underlying37 rfl (by kernel_rfl)) hHeld ?_
  simp only [Act.put, List.setIfInBounds_toArray, List.set_cons_zero, List.set_cons_succ]
  refine wpAnyH_take (i := 9) (oi := { dst := some 37, op := .fieldAddr 92 (.tmp 2) 0, type := 0, pos := _, after := #[], guard := none }) (v := .pointer (some ⟨w.heap.size, 0, none⟩)) rfl (by kernel_rfl) (by kernel_rfl) (by kernel_rfl) (fun _ _ _ h => h) (.inl ⟨by rfl, fun _ _ => rfl⟩) hHeld ?_
  simp only [Act.put, List.setIfInBounds_toArray, List.set_cons_zero, List.set_cons_succ]
  refine wpAnyH_take (i := 10) (oi := { dst := some 38, op := .fieldAddr 84 (.tmp 37) 1, type := 0, pos := _, after := #[{ on := 9, ground := .data }], guard := none }) (v := .pointer (some ⟨w.heap.size, 3, none⟩)) rfl (by kernel_rfl) (by kernel_rfl) (by kernel_rfl) (fun _ _ _ h => h) (.inl ⟨by rfl, fun _ _ => rfl⟩) hHeld ?_
  simp only [Act.put, List.setIfInBounds_toArray, List.set_cons_zero, List.set_cons_succ]
  refine wpAnyH_take (i := 11) (oi := { dst := some 39, op := .load 48 (.tmp 38), type := 48, pos := _, after := #[{ on := 10, ground := .data }], guard := none }) (v := .agg #[.int .i64 x3, .int .i64 x4, .int .i64 x5]) rfl (by kernel_rfl) (by kernel_rfl) (by kernel_rfl) (fun _ _ _ h => h) (yieldsIf_load_mid (by rfl) _ _ rfl w.heap.size 3 rfl [.int .i64 x3, .int .i64 x4, .int .i64 x5] _ (fun W h => h.range rb (by omega) (by omega)) Tryz.underlying48 rfl (by kernel_rfl)) hHeld ?_
  simp only [Act.put, List.setIfInBounds_toArray, List.set_cons_zero, List.set_cons_succ]
  refine wpAnyH_ready (rs := [7]) (by kernel_rfl) (by simp) ?_
  refine AllReadyH.cons (o := { dst := some 35, op := .call { callee := .value (.func 91), args := #[.tmp 31, .tmp 34], argTypes := #[37, 48] }, type := 32, pos := _, after := #[{ on := 3, ground := .data }, { on := 6, ground := .data }], guard := none }) rfl (fun K hK => ?_) AllReadyH.nil
  rw [if_pos (by rfl)]
  refine wp_callGo (args := #[m.val, .agg #[.int .i64 x0, .int .i64 x1, .int .i64 x2]]) Tryz.call91 rfl (by simp [Act.eval]) (HS0.out _ ((HT.out.to HB.out).to (Below.refl _ _).drew)) ?_
  intro w6 hb6
  have hl6 : Below V.heap.size V w6 := (Below.refl _ _).drew.trans (hb6.mono (Nat.le_refl _))
  clear hb6
  refine hK.out _ _ (Same1.of _ hl6) (fun hHeld => ?_)
  simp only [Act.put, List.setIfInBounds_toArray, List.set_cons_zero, List.set_cons_succ]
  refine wpAnyH_ready (rs := [12]) (by kernel_rfl) (by simp) ?_
  refine AllReadyH.cons (o := { dst := some 40, op := .call { callee := .value (.func 91), args := #[.tmp 36, .tmp 39], argTypes := #[37, 48] }, type := 32, pos := _, after := #[{ on := 8, ground := .data }, { on := 11, ground := .data }, { on := 7, ground := .chain }], guard := none }) rfl (fun K hK => ?_) AllReadyH.nil
  rw [if_pos (by rfl)]
  refine wp_callGo (args := #[m.val, .agg #[.int .i64 x3, .int .i64 x4, .int .i64 x5]]) Tryz.call91 rfl (by simp [Act.eval]) (HS1.out _ ((HT.out.to HB.out).to hl6)) ?_
  intro w7 hb7
  have hl7 : Below V.heap.size V w7 := hl6.trans (hb7.mono hl6.size)
  clear hb7 hl6
  refine hK.out _ _ (Same1.of _ hl7) (fun hHeld => ?_)
  simp only [Act.put, List.setIfInBounds_toArray, List.set_cons_zero, List.set_cons_succ]
  refine wpAnyH_ready (rs := [13]) (by kernel_rfl) (by simp) ?_
  refine AllReadyH.cons (o := { dst := some 41, op := .call { callee := .value (.func 90), args := #[.tmp 30, .tmp 35, .tmp 40], argTypes := #[3, 32, 32] }, type := 4, pos := _, after := #[{ on := 2, ground := .data }, { on := 7, ground := .data }, { on := 12, ground := .data }, { on := 12, ground := .chain }], guard := none }) rfl (fun K hK => ?_) AllReadyH.nil
  rw [if_pos (by rfl)]
  refine wp_callGo (args := #[.int .i64 (i : Int), .int .i16 xA, .int .i16 xB]) Tryz.call90 rfl (by simp [Act.eval]) (HSC.out xA xB _) ?_
  intro w9 hb9
  have hl9 : Below V.heap.size V w9 := hl7.trans (hb9.mono hl7.size)
  clear hb9 hl7
  refine hK.out _ _ (Same1.of _ hl9) (fun hHeld => ?_)
  simp only [Act.put, List.setIfInBounds_toArray, List.set_cons_zero, List.set_cons_succ]
  refine wpAnyH_ready (rs := [14]) (by kernel_rfl) (by simp) ?_
  refine AllReadyH.cons (o := { dst := none, op := .store 37 (.tmp 4) (.tmp 28), type := 0, pos := _, after := #[{ on := 0, ground := .data }, { on := 13, ground := .chain }, { on := 0, ground := .phase }, { on := 1, ground := .textOnly .lateStores }, { on := 2, ground := .textOnly .lateStores }, { on := 3, ground := .textOnly .lateStores }, { on := 4, ground := .textOnly .lateStores }, { on := 5, ground := .textOnly .lateStores }, { on := 6, ground := .textOnly .lateStores }, { on := 7, ground := .textOnly .lateStoresUnsure }, { on := 8, ground := .textOnly .lateStores }, { on := 9, ground := .textOnly .lateStores }, { on := 10, ground := .textOnly .lateStores }, { on := 11, ground := .textOnly .lateStores }, { on := 12, ground := .textOnly .lateStoresUnsure }, { on := 13, ground := .textOnly .lateStoresUnsure }], guard := none }) rfl (fun K hK => ?_) AllReadyH.nil
  rw [if_pos (by rfl)]
  with_reducible refine wp_storeMemV (m := m) (b := w.heap.size + 1 + 1) (.tmp 4) (.tmp 28) ?_ ?_ ?_ (HR.out.to hl9) ?_
  · rfl
  · simp [Act.eval]
  · simp [Act.eval]
  intro w8 HM8 hk8 hb8
  refine hK.out _ _ ((Same1.of _ hl9).on hk8) (fun hHeld => ?_)
  simp only [Act.put]
  refine wpAnyH_take (i := 15) (oi := { dst := some 5, op := .assign (.tmp 41), type := 4, pos := _, after := #[{ on := 13, ground := .data }, { on := 14, ground := .chain }, { on := 0, ground := .phase }, { on := 1, ground := .phase }, { on := 2, ground := .phase }, { on := 3, ground := .phase }, { on := 4, ground := .phase }, { on := 5, ground := .phase }, { on := 6, ground := .phase }, { on := 7, ground := .phase }, { on := 8, ground := .phase }, { on := 9, ground := .phase }, { on := 10, ground := .phase }, { on := 11, ground := .phase }, { on := 12, ground := .phase }, { on := 13, ground := .phase }, { on := 14, ground := .phase }], guard := none }) (v := .bool (wT i xA xB)) rfl (by kernel_rfl) (by kernel_rfl) (by kernel_rfl) (fun _ _ _ h => h) (.inl ⟨by rfl, fun _ _ => rfl⟩) hHeld ?_
  simp only [Act.put, List.setIfInBounds_toArray, List.set_cons_zero, List.set_cons_succ]
  have HB8 : Hid (Below w.heap.size w w8) := hb8 _ _ (HB.out.trans (hl9.mono HB.out.size)) (by omega)
  refine wpAnyH_done ?_ ?_ _
  · kernel_rfl
  refine NoPanic.normal ?_
  go_wp2_with fail
  exact bodyPost_ret (resMB Tryz.results87 rfl rfl HM8) rfl ⟨_, rfl, HCM.out, HB8.out⟩

end Go.Proofs.YtmgjngihngddfaaGreatDoor
