/- What open and shut says. Helper text: no statement is claimed here. -/
import Derived.Test.YtmgjngihngddfaaGreatDoorP10
import Derived.Test.YtmgjngihngddfaaGreatDoorP15
import Derived.Test.YtmgjngihngddfaaGreatDoorP01
namespace Go.Proofs.YtmgjngihngddfaaGreatDoor
open Go.ChangeShapes Go.WideShapes Go.ChangeAt Go.RowKit Fl

set_option maxHeartbeats 1000000 in
set_option maxRecDepth 100000 in
theorem says_open (x : Nat → Int) (m : Mm) (hm : m.Ok) (w : World) (hT : DevTab w) :
    Calls Tryz.prog 81 #[lit9 x, m.val] w fun e w' => e = .returned (.tuple #[m.val, .bool (m.bit (x 0) (x 1))]) ∧ Below w.heap.size w w' := by
  have HT : Hid (DevTab w) := hT
  have hz : ∀ w, (zeroValue 37).run Tryz.prog w = .ok (.agg zeroM.cells) w := fun _ => by kernel_rfl
  have HS : Hid (∀ W, DevTab W → Calls Tryz.prog 9 #[m.val, .agg #[.int .i64 (x 0), .int .i64 (x 1), .int .i64 (x 2)]] W fun e w' => e = .returned (.bool (m.bit (x 0) (x 1))) ∧ Below W.heap.size W w') := fun W hW => ibit_any m hm _ _ _ W hW
  generalize m.bit (x 0) (x 1) = r at *
  clear hT hm
  unfold lit9
  generalize x 0 = x0 at *
  generalize x 1 = x1 at *
  generalize x 2 = x2 at *
  generalize x 3 = x3 at *
  generalize x 4 = x4 at *
  generalize x 5 = x5 at *
  generalize x 6 = x6 at *
  generalize x 7 = x7 at *
  generalize x 8 = x8 at *
  have hu : m.val = .agg m.cells := rfl
  rw [hu]
  clear hu
  go_enter Tryz.func81, Tryz.ntmps81
  go_upto_region 1 with fail
  have HB : Hid (Below w.heap.size w (((w.alloc (.cells #[.int .i64 x0, .int .i64 x1, .int .i64 x2, .int .i64 x3, .int .i64 x4, .int .i64 x5, .int .i64 x6, .int .i64 x7, .int .i64 x8] 87)).alloc (.cells m.cells 37)).alloc (.cells zeroM.cells 37))) := (((Below.refl _ _).alloc (Nat.le_refl _) _).alloc (by simp) _).alloc (by simp; omega) _
  have HI : Hid (MemAt (((w.alloc (.cells #[.int .i64 x0, .int .i64 x1, .int .i64 x2, .int .i64 x3, .int .i64 x4, .int .i64 x5, .int .i64 x6, .int .i64 x7, .int .i64 x8] 87)).alloc (.cells m.cells 37)).alloc (.cells zeroM.cells 37)) (w.heap.size + 1) m) := by
    have := (RowAt.new (w.alloc (.cells #[.int .i64 x0, .int .i64 x1, .int .i64 x2, .int .i64 x3, .int .i64 x4, .int .i64 x5, .int .i64 x6, .int .i64 x7, .int .i64 x8] 87)) 37 136 m.cell).alloc (.cells zeroM.cells 37)
    rw [show ((w.alloc (.cells #[.int .i64 x0, .int .i64 x1, .int .i64 x2, .int .i64 x3, .int .i64 x4, .int .i64 x5, .int .i64 x6, .int .i64 x7, .int .i64 x8] 87))).heap.size = w.heap.size + 1 by simp] at this
    exact this
  have HR : Hid (MemAt (((w.alloc (.cells #[.int .i64 x0, .int .i64 x1, .int .i64 x2, .int .i64 x3, .int .i64 x4, .int .i64 x5, .int .i64 x6, .int .i64 x7, .int .i64 x8] 87)).alloc (.cells m.cells 37)).alloc (.cells zeroM.cells 37)) (w.heap.size + 1 + 1) zeroM) := by
    have := RowAt.new ((w.alloc (.cells #[.int .i64 x0, .int .i64 x1, .int .i64 x2, .int .i64 x3, .int .i64 x4, .int .i64 x5, .int .i64 x6, .int .i64 x7, .int .i64 x8] 87)).alloc (.cells m.cells 37)) 37 136 zeroM.cell
    rw [show (((w.alloc (.cells #[.int .i64 x0, .int .i64 x1, .int .i64 x2, .int .i64 x3, .int .i64 x4, .int .i64 x5, .int .i64 x6, .int .i64 x7, .int .i64 x8] 87)).alloc (.cells m.cells 37))).heap.size = w.heap.size + 1 + 1 by simp] at this
    exact this
  have c0 : ((((w.alloc (.cells #[.int .i64 x0, .int .i64 x1, .int .i64 x2, .int .i64 x3, .int .i64 x4, .int .i64 x5, .int .i64 x6, .int .i64 x7, .int .i64 x8] 87)).alloc (.cells m.cells 37)).alloc (.cells zeroM.cells 37))).cell? ⟨w.heap.size, 0, none⟩ = some (.int .i64 x0) := by simp [go_sem]
  have c1 : ((((w.alloc (.cells #[.int .i64 x0, .int .i64 x1, .int .i64 x2, .int .i64 x3, .int .i64 x4, .int .i64 x5, .int .i64 x6, .int .i64 x7, .int .i64 x8] 87)).alloc (.cells m.cells 37)).alloc (.cells zeroM.cells 37))).cell? ⟨w.heap.size, 1, none⟩ = some (.int .i64 x1) := by simp [go_sem]
  have c2 : ((((w.alloc (.cells #[.int .i64 x0, .int .i64 x1, .int .i64 x2, .int .i64 x3, .int .i64 x4, .int .i64 x5, .int .i64 x6, .int .i64 x7, .int .i64 x8] 87)).alloc (.cells m.cells 37)).alloc (.cells zeroM.cells 37))).cell? ⟨w.heap.size, 2, none⟩ = some (.int .i64 x2) := by simp [go_sem]
  have c3 : ((((w.alloc (.cells #[.int .i64 x0, .int .i64 x1, .int .i64 x2, .int .i64 x3, .int .i64 x4, .int .i64 x5, .int .i64 x6, .int .i64 x7, .int .i64 x8] 87)).alloc (.cells m.cells 37)).alloc (.cells zeroM.cells 37))).cell? ⟨w.heap.size, 3, none⟩ = some (.int .i64 x3) := by simp [go_sem]
  have c4 : ((((w.alloc (.cells #[.int .i64 x0, .int .i64 x1, .int .i64 x2, .int .i64 x3, .int .i64 x4, .int .i64 x5, .int .i64 x6, .int .i64 x7, .int .i64 x8] 87)).alloc (.cells m.cells 37)).alloc (.cells zeroM.cells 37))).cell? ⟨w.heap.size, 4, none⟩ = some (.int .i64 x4) := by simp [go_sem]
  have c5 : ((((w.alloc (.cells #[.int .i64 x0, .int .i64 x1, .int .i64 x2, .int .i64 x3, .int .i64 x4, .int .i64 x5, .int .i64 x6, .int .i64 x7, .int .i64 x8] 87)).alloc (.cells m.cells 37)).alloc (.cells zeroM.cells 37))).cell? ⟨w.heap.size, 5, none⟩ = some (.int .i64 x5) := by simp [go_sem]
  have c6 : ((((w.alloc (.cells #[.int .i64 x0, .int .i64 x1, .int .i64 x2, .int .i64 x3, .int .i64 x4, .int .i64 x5, .int .i64 x6, .int .i64 x7, .int .i64 x8] 87)).alloc (.cells m.cells 37)).alloc (.cells zeroM.cells 37))).cell? ⟨w.heap.size, 6, none⟩ = some (.int .i64 x6) := by simp [go_sem]
  have c7 : ((((w.alloc (.cells #[.int .i64 x0, .int .i64 x1, .int .i64 x2, .int .i64 x3, .int .i64 x4, .int .i64 x5, .int .i64 x6, .int .i64 x7, .int .i64 x8] 87)).alloc (.cells m.cells 37)).alloc (.cells zeroM.cells 37))).cell? ⟨w.heap.size, 7, none⟩ = some (.int .i64 x7) := by simp [go_sem]
  have c8 : ((((w.alloc (.cells #[.int .i64 x0, .int .i64 x1, .int .i64 x2, .int .i64 x3, .int .i64 x4, .int .i64 x5, .int .i64 x6, .int .i64 x7, .int .i64 x8] 87)).alloc (.cells m.cells 37)).alloc (.cells zeroM.cells 37))).cell? ⟨w.heap.size, 8, none⟩ = some (.int .i64 x8) := by simp [go_sem]
  have hlt : w.heap.size + 1 + 1 < ((((w.alloc (.cells #[.int .i64 x0, .int .i64 x1, .int .i64 x2, .int .i64 x3, .int .i64 x4, .int .i64 x5, .int .i64 x6, .int .i64 x7, .int .i64 x8] 87)).alloc (.cells m.cells 37)).alloc (.cells zeroM.cells 37))).heap.size := HR.out.lt
  generalize (((w.alloc (.cells #[.int .i64 x0, .int .i64 x1, .int .i64 x2, .int .i64 x3, .int .i64 x4, .int .i64 x5, .int .i64 x6, .int .i64 x7, .int .i64 x8] 87)).alloc (.cells m.cells 37)).alloc (.cells zeroM.cells 37)) = V at *
  clear hz
  have ra : V.rangeAt w.heap.size 0 [.int .i64 x0, .int .i64 x1, .int .i64 x2] := range3V c0 c1 c2
  clear c0 c1 c2 c3 c4 c5 c6 c7 c8
  refine wp_region_noPanic ?_
  refine wp_region_held_drew (S := Same1 V (w.heap.size + 1 + 1)) (by kernel_rfl) (Same1.of _ (Below.refl _ _).drew) (fun hHeld => ?_)
  refine wpAnyH_take (i := 0) (oi := { dst := some 6, op := .load 37 (.tmp 3), type := 37, pos := _, after := #[], guard := none }) (v := m.val) rfl (by kernel_rfl) (by kernel_rfl) (by kernel_rfl) (fun _ _ _ h => h) (yields_row (by rfl) (.tmp 3) rfl rfl (fun W hb => hb.mem HI.out (by omega)) Tryz.underlying37 rfl (by kernel_rfl)) hHeld ?_
  simp only [Act.put, List.setIfInBounds_toArray, List.set_cons_zero, List.set_cons_succ]
  refine wpAnyH_take (i := 1) (oi := { dst := some 7, op := .load 37 (.tmp 3), type := 37, pos := _, after := #[], guard := none }) (v := m.val) rfl (by kernel_rfl) (by kernel_rfl) (by kernel_rfl) (fun _ _ _ h => h) (yields_row (by rfl) (.tmp 3) rfl rfl (fun W hb => hb.mem HI.out (by omega)) Tryz.underlying37 rfl (by kernel_rfl)) hHeld ?_
  simp only [Act.put, List.setIfInBounds_toArray, List.set_cons_zero, List.set_cons_succ]
  refine wpAnyH_take (i := 2) (oi := { dst := some 8, op := .fieldAddr 87 (.tmp 2) 0, type := 0, pos := _, after := #[], guard := none }) (v := .pointer (some ⟨w.heap.size, 0, none⟩)) rfl (by kernel_rfl) (by kernel_rfl) (by kernel_rfl) (fun _ _ _ h => h) (.inl ⟨by rfl, fun _ _ => rfl⟩) hHeld ?_
  simp only [Act.put, List.setIfInBounds_toArray, List.set_cons_zero, List.set_cons_succ]
  refine wpAnyH_take (i := 3) (oi := { dst := some 9, op := .fieldAddr 84 (.tmp 8) 0, type := 0, pos := _, after := #[{ on := 2, ground := .data }], guard := none }) (v := .pointer (some ⟨w.heap.size, 0, none⟩)) rfl (by kernel_rfl) (by kernel_rfl) (by kernel_rfl) (fun _ _ _ h => h) (.inl ⟨by rfl, fun _ _ => rfl⟩) hHeld ?_
  simp only [Act.put, List.setIfInBounds_toArray, List.set_cons_zero, List.set_cons_succ]
  refine wpAnyH_take (i := 4) (oi := { dst := some 10, op := .load 48 (.tmp 9), type := 48, pos := _, after := #[{ on := 3, ground := .data }], guard := none }) (v := .agg #[.int .i64 x0, .int .i64 x1, .int .i64 x2]) rfl (by kernel_rfl) (by kernel_rfl) (by kernel_rfl) (fun _ _ _ h => h) (yieldsIf_load_mid (by rfl) _ _ rfl w.heap.size 0 rfl [.int .i64 x0, .int .i64 x1, .int .i64 x2] _ (fun W h => h.range ra (by omega) (by omega)) Tryz.underlying48 rfl (by kernel_rfl)) hHeld ?_
  simp only [Act.put, List.setIfInBounds_toArray, List.set_cons_zero, List.set_cons_succ]
  refine wpAnyH_ready (rs := [5]) (by kernel_rfl) (by simp) ?_
  refine AllReadyH.cons (o := { dst := some 11, op := .call { callee := .value (.func 9), args := #[.tmp 7, .tmp 10], argTypes := #[37, 48] }, type := 4, pos := _, after := #[{ on := 1, ground := .data }, { on := 4, ground := .data }], guard := none }) rfl (fun K hK => ?_) AllReadyH.nil
  rw [if_pos (by rfl)]
  refine wp_callGo (args := #[m.val, .agg #[.int .i64 x0, .int .i64 x1, .int .i64 x2]]) Tryz.call9 rfl (by simp [Act.eval]) (HS.out _ ((HT.out.to HB.out).to (Below.refl _ _).drew)) ?_
  intro w6 hb6
  have hl6 : Below V.heap.size V w6 := (Below.refl _ _).drew.trans (hb6.mono (Nat.le_refl _))
  clear hb6
  refine hK.out _ _ (Same1.of _ hl6) (fun hHeld => ?_)
  simp only [Act.put, List.setIfInBounds_toArray, List.set_cons_zero, List.set_cons_succ]
  refine wpAnyH_ready (rs := [6]) (by kernel_rfl) (by simp) ?_
  refine AllReadyH.cons (o := { dst := none, op := .store 37 (.tmp 4) (.tmp 6), type := 0, pos := _, after := #[{ on := 0, ground := .data }, { on := 5, ground := .chain }, { on := 0, ground := .phase }, { on := 1, ground := .textOnly .lateStores }, { on := 2, ground := .textOnly .lateStores }, { on := 3, ground := .textOnly .lateStores }, { on := 4, ground := .textOnly .lateStores }, { on := 5, ground := .textOnly .lateStoresUnsure }], guard := none }) rfl (fun K hK => ?_) AllReadyH.nil
  rw [if_pos (by rfl)]
  with_reducible refine wp_storeMemV (m := m) (b := w.heap.size + 1 + 1) (.tmp 4) (.tmp 6) ?_ ?_ ?_ (HR.out.to hl6) ?_
  · rfl
  · simp [Act.eval]
  · simp [Act.eval]
  intro w8 HM8 hk8 hb8
  refine hK.out _ _ ((Same1.of _ hl6).on hk8) (fun hHeld => ?_)
  simp only [Act.put]
  refine wpAnyH_take (i := 7) (oi := { dst := some 5, op := .assign (.tmp 11), type := 4, pos := _, after := #[{ on := 5, ground := .data }, { on := 6, ground := .chain }, { on := 0, ground := .phase }, { on := 1, ground := .phase }, { on := 2, ground := .phase }, { on := 3, ground := .phase }, { on := 4, ground := .phase }, { on := 5, ground := .phase }, { on := 6, ground := .phase }], guard := none }) (v := .bool (r)) rfl (by kernel_rfl) (by kernel_rfl) (by kernel_rfl) (fun _ _ _ h => h) (.inl ⟨by rfl, fun _ _ => rfl⟩) hHeld ?_
  simp only [Act.put, List.setIfInBounds_toArray, List.set_cons_zero, List.set_cons_succ]
  have HB8 : Hid (Below w.heap.size w w8) := hb8 _ _ (HB.out.trans (hl6.mono HB.out.size)) (by omega)
  refine wpAnyH_done ?_ ?_ _
  · kernel_rfl
  refine NoPanic.normal ?_
  go_wp2_with fail
  exact bodyPost_ret (resMB Tryz.results81 rfl rfl HM8) rfl ⟨rfl, HB8.out⟩

set_option maxHeartbeats 1000000 in
set_option maxRecDepth 100000 in
theorem says_shut (x : Nat → Int) (m : Mm) (hm : m.Ok) (w : World) (hT : DevTab w) :
    Calls Tryz.prog 82 #[lit9 x, m.val] w fun e w' => e = .returned (.tuple #[m.val, .bool (!m.bit (x 0) (x 1))]) ∧ Below w.heap.size w w' := by
  have HT : Hid (DevTab w) := hT
  have hz : ∀ w, (zeroValue 37).run Tryz.prog w = .ok (.agg zeroM.cells) w := fun _ => by kernel_rfl
  have HS : Hid (∀ W, DevTab W → Calls Tryz.prog 9 #[m.val, .agg #[.int .i64 (x 0), .int .i64 (x 1), .int .i64 (x 2)]] W fun e w' => e = .returned (.bool (m.bit (x 0) (x 1))) ∧ Below W.heap.size W w') := fun W hW => ibit_any m hm _ _ _ W hW
  generalize m.bit (x 0) (x 1) = r at *
  clear hT hm
  unfold lit9
  generalize x 0 = x0 at *
  generalize x 1 = x1 at *
  generalize x 2 = x2 at *
  generalize x 3 = x3 at *
  generalize x 4 = x4 at *
  generalize x 5 = x5 at *
  generalize x 6 = x6 at *
  generalize x 7 = x7 at *
  generalize x 8 = x8 at *
  have hu : m.val = .agg m.cells := rfl
  rw [hu]
  clear hu
  go_enter Tryz.func82, Tryz.ntmps82
  go_upto_region 1 with fail
  have HB : Hid (Below w.heap.size w (((w.alloc (.cells #[.int .i64 x0, .int .i64 x1, .int .i64 x2, .int .i64 x3, .int .i64 x4, .int .i64 x5, .int .i64 x6, .int .i64 x7, .int .i64 x8] 88)).alloc (.cells m.cells 37)).alloc (.cells zeroM.cells 37))) := (((Below.refl _ _).alloc (Nat.le_refl _) _).alloc (by simp) _).alloc (by simp; omega) _
  have HI : Hid (MemAt (((w.alloc (.cells #[.int .i64 x0, .int .i64 x1, .int .i64 x2, .int .i64 x3, .int .i64 x4, .int .i64 x5, .int .i64 x6, .int .i64 x7, .int .i64 x8] 88)).alloc (.cells m.cells 37)).alloc (.cells zeroM.cells 37)) (w.heap.size + 1) m) := by
    have := (RowAt.new (w.alloc (.cells #[.int .i64 x0, .int .i64 x1, .int .i64 x2, .int .i64 x3, .int .i64 x4, .int .i64 x5, .int .i64 x6, .int .i64 x7, .int .i64 x8] 88)) 37 136 m.cell).alloc (.cells zeroM.cells 37)
    rw [show ((w.alloc (.cells #[.int .i64 x0, .int .i64 x1, .int .i64 x2, .int .i64 x3, .int .i64 x4, .int .i64 x5, .int .i64 x6, .int .i64 x7, .int .i64 x8] 88))).heap.size = w.heap.size + 1 by simp] at this
    exact this
  have HR : Hid (MemAt (((w.alloc (.cells #[.int .i64 x0, .int .i64 x1, .int .i64 x2, .int .i64 x3, .int .i64 x4, .int .i64 x5, .int .i64 x6, .int .i64 x7, .int .i64 x8] 88)).alloc (.cells m.cells 37)).alloc (.cells zeroM.cells 37)) (w.heap.size + 1 + 1) zeroM) := by
    have := RowAt.new ((w.alloc (.cells #[.int .i64 x0, .int .i64 x1, .int .i64 x2, .int .i64 x3, .int .i64 x4, .int .i64 x5, .int .i64 x6, .int .i64 x7, .int .i64 x8] 88)).alloc (.cells m.cells 37)) 37 136 zeroM.cell
    rw [show (((w.alloc (.cells #[.int .i64 x0, .int .i64 x1, .int .i64 x2, .int .i64 x3, .int .i64 x4, .int .i64 x5, .int .i64 x6, .int .i64 x7, .int .i64 x8] 88)).alloc (.cells m.cells 37))).heap.size = w.heap.size + 1 + 1 by simp] at this
    exact this
  have c0 : ((((w.alloc (.cells #[.int .i64 x0, .int .i64 x1, .int .i64 x2, .int .i64 x3, .int .i64 x4, .int .i64 x5, .int .i64 x6, .int .i64 x7, .int .i64 x8] 88)).alloc (.cells m.cells 37)).alloc (.cells zeroM.cells 37))).cell? ⟨w.heap.size, 0, none⟩ = some (.int .i64 x0) := by simp [go_sem]
  have c1 : ((((w.alloc (.cells #[.int .i64 x0, .int .i64 x1, .int .i64 x2, .int .i64 x3, .int .i64 x4, .int .i64 x5, .int .i64 x6, .int .i64 x7, .int .i64 x8] 88)).alloc (.cells m.cells 37)).alloc (.cells zeroM.cells 37))).cell? ⟨w.heap.size, 1, none⟩ = some (.int .i64 x1) := by simp [go_sem]
  have c2 : ((((w.alloc (.cells #[.int .i64 x0, .int .i64 x1, .int .i64 x2, .int .i64 x3, .int .i64 x4, .int .i64 x5, .int .i64 x6, .int .i64 x7, .int .i64 x8] 88)).alloc (.cells m.cells 37)).alloc (.cells zeroM.cells 37))).cell? ⟨w.heap.size, 2, none⟩ = some (.int .i64 x2) := by simp [go_sem]
  have c3 : ((((w.alloc (.cells #[.int .i64 x0, .int .i64 x1, .int .i64 x2, .int .i64 x3, .int .i64 x4, .int .i64 x5, .int .i64 x6, .int .i64 x7, .int .i64 x8] 88)).alloc (.cells m.cells 37)).alloc (.cells zeroM.cells 37))).cell? ⟨w.heap.size, 3, none⟩ = some (.int .i64 x3) := by simp [go_sem]
  have c4 : ((((w.alloc (.cells #[.int .i64 x0, .int .i64 x1, .int .i64 x2, .int .i64 x3, .int .i64 x4, .int .i64 x5, .int .i64 x6, .int .i64 x7, .int .i64 x8] 88)).alloc (.cells m.cells 37)).alloc (.cells zeroM.cells 37))).cell? ⟨w.heap.size, 4, none⟩ = some (.int .i64 x4) := by simp [go_sem]
  have c5 : ((((w.alloc (.cells #[.int .i64 x0, .int .i64 x1, .int .i64 x2, .int .i64 x3, .int .i64 x4, .int .i64 x5, .int .i64 x6, .int .i64 x7, .int .i64 x8] 88)).alloc (.cells m.cells 37)).alloc (.cells zeroM.cells 37))).cell? ⟨w.heap.size, 5, none⟩ = some (.int .i64 x5) := by simp [go_sem]
  have c6 : ((((w.alloc (.cells #[.int .i64 x0, .int .i64 x1, .int .i64 x2, .int .i64 x3, .int .i64 x4, .int .i64 x5, .int .i64 x6, .int .i64 x7, .int .i64 x8] 88)).alloc (.cells m.cells 37)).alloc (.cells zeroM.cells 37))).cell? ⟨w.heap.size, 6, none⟩ = some (.int .i64 x6) := by simp [go_sem]
  have c7 : ((((w.alloc (.cells #[.int .i64 x0, .int .i64 x1, .int .i64 x2, .int .i64 x3, .int .i64 x4, .int .i64 x5, .int .i64 x6, .int .i64 x7, .int .i64 x8] 88)).alloc (.cells m.cells 37)).alloc (.cells zeroM.cells 37))).cell? ⟨w.heap.size, 7, none⟩ = some (.int .i64 x7) := by simp [go_sem]
  have c8 : ((((w.alloc (.cells #[.int .i64 x0, .int .i64 x1, .int .i64 x2, .int .i64 x3, .int .i64 x4, .int .i64 x5, .int .i64 x6, .int .i64 x7, .int .i64 x8] 88)).alloc (.cells m.cells 37)).alloc (.cells zeroM.cells 37))).cell? ⟨w.heap.size, 8, none⟩ = some (.int .i64 x8) := by simp [go_sem]
  have hlt : w.heap.size + 1 + 1 < ((((w.alloc (.cells #[.int .i64 x0, .int .i64 x1, .int .i64 x2, .int .i64 x3, .int .i64 x4, .int .i64 x5, .int .i64 x6, .int .i64 x7, .int .i64 x8] 88)).alloc (.cells m.cells 37)).alloc (.cells zeroM.cells 37))).heap.size := HR.out.lt
  generalize (((w.alloc (.cells #[.int .i64 x0, .int .i64 x1, .int .i64 x2, .int .i64 x3, .int .i64 x4, .int .i64 x5, .int .i64 x6, .int .i64 x7, .int .i64 x8] 88)).alloc (.cells m.cells 37)).alloc (.cells zeroM.cells 37)) = V at *
  clear hz
  have ra : V.rangeAt w.heap.size 0 [.int .i64 x0, .int .i64 x1, .int .i64 x2] := range3V c0 c1 c2
  clear c0 c1 c2 c3 c4 c5 c6 c7 c8
  refine wp_region_noPanic ?_
  refine wp_region_held_drew (S := Same1 V (w.heap.size + 1 + 1)) (by kernel_rfl) (Same1.of _ (Below.refl _ _).drew) (fun hHeld => ?_)
  refine wpAnyH_take (i := 0) (oi := { dst := some 6, op := .load 37 (.tmp 3), type := 37, pos := _, after := #[], guard := none }) (v := m.val) rfl (by kernel_rfl) (by kernel_rfl) (by kernel_rfl) (fun _ _ _ h => h) (yields_row (by rfl) (.tmp 3) rfl rfl (fun W hb => hb.mem HI.out (by omega)) Tryz.underlying37 rfl (by kernel_rfl)) hHeld ?_
  simp only [Act.put, List.setIfInBounds_toArray, List.set_cons_zero, List.set_cons_succ]
  refine wpAnyH_take (i := 1) (oi := { dst := some 7, op := .load 37 (.tmp 3), type := 37, pos := _, after := #[], guard := none }) (v := m.val) rfl (by kernel_rfl) (by kernel_rfl) (by kernel_rfl) (fun _ _ _ h => h) (yields_row (by rfl) (.tmp 3) rfl rfl (fun W hb => hb.mem HI.out (by omega)) Tryz.underlying37 rfl (by kernel_rfl)) hHeld ?_
  simp only [Act.put, List.setIfInBounds_toArray, List.set_cons_zero, List.set_cons_succ]
  refine wpAnyH_take (i := 2) (oi := { dst := some 8, op := .fieldAddr 88 (.tmp 2) 0, type := 0, pos := _, after := #[], guard := none }) (v := .pointer (some ⟨w.heap.size, 0, none⟩)) rfl (by kernel_rfl) (by kernel_rfl) (by kernel_rfl) (fun _ _ _ h => h) (.inl ⟨by rfl, fun _ _ => rfl⟩) hHeld ?_
  simp only [Act.put, List.setIfInBounds_toArray, List.set_cons_zero, List.set_cons_succ]
  refine wpAnyH_take (i := 3) (oi := { dst := some 9, op := .fieldAddr 84 (.tmp 8) 0, type := 0, pos := _, after := #[{ on := 2, ground := .data }], guard := none }) (v := .pointer (some ⟨w.heap.size, 0, none⟩)) rfl (by kernel_rfl) (by kernel_rfl) (by kernel_rfl) (fun _ _ _ h => h) (.inl ⟨by rfl, fun _ _ => rfl⟩) hHeld ?_
  simp only [Act.put, List.setIfInBounds_toArray, List.set_cons_zero, List.set_cons_succ]
  refine wpAnyH_take (i := 4) (oi := { dst := some 10, op := .load 48 (.tmp 9), type := 48, pos := _, after := #[{ on := 3, ground := .data }], guard := none }) (v := .agg #[.int .i64 x0, .int .i64 x1, .int .i64 x2]) rfl (by kernel_rfl) (by kernel_rfl) (by kernel_rfl) (fun _ _ _ h => h) (yieldsIf_load_mid (by rfl) _ _ rfl w.heap.size 0 rfl [.int .i64 x0, .int .i64 x1, .int .i64 x2] _ (fun W h => h.range ra (by omega) (by omega)) Tryz.underlying48 rfl (by kernel_rfl)) hHeld ?_
  simp only [Act.put, List.setIfInBounds_toArray, List.set_cons_zero, List.set_cons_succ]
  refine wpAnyH_ready (rs := [5]) (by kernel_rfl) (by simp) ?_
  refine AllReadyH.cons (o := { dst := some 11, op := .call { callee := .value (.func 9), args := #[.tmp 7, .tmp 10], argTypes := #[37, 48] }, type := 4, pos := _, after := #[{ on := 1, ground := .data }, { on := 4, ground := .data }], guard := none }) rfl (fun K hK => ?_) AllReadyH.nil
  rw [if_pos (by rfl)]
  refine wp_callGo (args := #[m.val, .agg #[.int .i64 x0, .int .i64 x1, .int .i64 x2]]) Tryz.call9 rfl (by simp [Act.eval]) (HS.out _ ((HT.out.to HB.out).to (Below.refl _ _).drew)) ?_
  intro w6 hb6
  have hl6 : Below V.heap.size V w6 := (Below.refl _ _).drew.trans (hb6.mono (Nat.le_refl _))
  clear hb6
  refine hK.out _ _ (Same1.of _ hl6) (fun hHeld => ?_)
  simp only [Act.put, List.setIfInBounds_toArray, List.set_cons_zero, List.set_cons_succ]
  refine wpAnyH_take (i := 6) (oi := { dst := some 12, op := .unOp .not 4 (.tmp 11), type := 4, pos := _, after := #[{ on := 5, ground := .data }, { on := 7, ground := .gcOnly .lateStores }], guard := none }) (v := .bool (!r)) rfl (by kernel_rfl) (by kernel_rfl) (by kernel_rfl) (fun _ _ _ h => h) (.inl ⟨by rfl, fun _ _ => rfl⟩) hHeld ?_
  simp only [Act.put, List.setIfInBounds_toArray, List.set_cons_zero, List.set_cons_succ]
  refine wpAnyH_ready (rs := [7]) (by kernel_rfl) (by simp) ?_
  refine AllReadyH.cons (o := { dst := none, op := .store 37 (.tmp 4) (.tmp 6), type := 0, pos := _, after := #[{ on := 0, ground := .data }, { on := 5, ground := .chain }, { on := 0, ground := .phase }, { on := 1, ground := .textOnly .lateStores }, { on := 2, ground := .textOnly .lateStores }, { on := 3, ground := .textOnly .lateStores }, { on := 4, ground := .textOnly .lateStores }, { on := 5, ground := .textOnly .lateStoresUnsure }, { on := 6, ground := .textOnly .lateStores }], guard := none }) rfl (fun K hK => ?_) AllReadyH.nil
  rw [if_pos (by rfl)]
  with_reducible refine wp_storeMemV (m := m) (b := w.heap.size + 1 + 1) (.tmp 4) (.tmp 6) ?_ ?_ ?_ (HR.out.to hl6) ?_
  · rfl
  · simp [Act.eval]
  · simp [Act.eval]
  intro w8 HM8 hk8 hb8
  refine hK.out _ _ ((Same1.of _ hl6).on hk8) (fun hHeld => ?_)
  simp only [Act.put]
  refine wpAnyH_take (i := 8) (oi := { dst := some 5, op := .assign (.tmp 12), type := 4, pos := _, after := #[{ on := 6, ground := .data }, { on := 7, ground := .chain }, { on := 0, ground := .phase }, { on := 1, ground := .phase }, { on := 2, ground := .phase }, { on := 3, ground := .phase }, { on := 4, ground := .phase }, { on := 5, ground := .phase }, { on := 6, ground := .phase }, { on := 7, ground := .phase }], guard := none }) (v := .bool (!r)) rfl (by kernel_rfl) (by kernel_rfl) (by kernel_rfl) (fun _ _ _ h => h) (.inl ⟨by rfl, fun _ _ => rfl⟩) hHeld ?_
  simp only [Act.put, List.setIfInBounds_toArray, List.set_cons_zero, List.set_cons_succ]
  have HB8 : Hid (Below w.heap.size w w8) := hb8 _ _ (HB.out.trans (hl6.mono HB.out.size)) (by omega)
  refine wpAnyH_done ?_ ?_ _
  · kernel_rfl
  refine NoPanic.normal ?_
  go_wp2_with fail
  exact bodyPost_ret (resMB Tryz.results82 rfl rfl HM8) rfl ⟨rfl, HB8.out⟩

end Go.Proofs.YtmgjngihngddfaaGreatDoor
