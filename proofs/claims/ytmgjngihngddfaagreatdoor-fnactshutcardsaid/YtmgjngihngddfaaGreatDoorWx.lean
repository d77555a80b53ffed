/- The program's ActTest, on: contacts. Helper text: no statement is claimed here. -/
import Derived.Test.YtmgjngihngddfaaGreatDoorVz
namespace Go.Proofs.YtmgjngihngddfaaGreatDoor
open Go.ChangeShapes Go.WideShapes Go.ChangeAt Go.RowKit Fl

set_option maxHeartbeats 1000000 in
set_option maxRecDepth 100000 in
theorem test_1 {P : Bool → Prop} {m m' : Mm} (p : Option Addr) (cap : Nat) (ys : List Ar) (w : World) (h : ArgsIs w p ys) (hT : DevTab w)
    (H2 : ∀ W, DevTab W → Calls Tryz.prog 81 #[lit9 (nine ys), m.val] W fun e w' => ∃ b, e = .returned (.tuple #[m'.val, .bool b]) ∧ P b ∧ Below W.heap.size W w') :
    Calls Tryz.prog 5 #[m.val, elemV 1 p ys.length cap] w fun e w' => ∃ b, e = .returned (.tuple #[m'.val, .bool b]) ∧ P b ∧ Below w.heap.size w w' := by
  have hz : ∀ w, (zeroValue 37).run Tryz.prog w = .ok (.agg zeroM.cells) w := fun _ => by kernel_rfl
  have HP : Hid (∀ W, Below w.heap.size w W → Calls Tryz.prog 18 #[elemV 1 p ys.length cap] W fun e w' => e = .returned (.iface 87 (lit9 (nine ys))) ∧ Below W.heap.size W w') := fun W hW => partOf_1 p cap ys W (h.to hW)
  have H2' : Hid (∀ W, Below w.heap.size w W → Calls Tryz.prog 81 #[lit9 (nine ys), m.val] W fun e w' => ∃ v, e = .returned v ∧ (∃ b, v = .tuple #[m'.val, .bool b] ∧ P b) ∧ Below W.heap.size W w') := fun W hW => (H2 W (hT.to hW)).mono (by rintro e w' ⟨b, rfl, hP, hb⟩; exact ⟨_, rfl, ⟨b, rfl, hP⟩, hb⟩)
  clear h hT H2
  generalize nine ys = x at *
  have hu : m.val = .agg m.cells := rfl
  rw [hu]
  clear hu
  go_enter Tryz.func5, Tryz.ntmps5
  go_upto_region 1 with fail
  have HB : Hid (Below w.heap.size w (((w.alloc (.cells m.cells 37)).alloc (.cells #[.int .i64 1, .slice p ys.length cap] 40)).alloc (.cells zeroM.cells 37))) := (((Below.refl _ _).alloc (Nat.le_refl _) _).alloc (by simp) _).alloc (by simp; omega) _
  have HI : Hid (MemAt (((w.alloc (.cells m.cells 37)).alloc (.cells #[.int .i64 1, .slice p ys.length cap] 40)).alloc (.cells zeroM.cells 37)) w.heap.size m) := ((RowAt.new w 37 136 m.cell).alloc _).alloc _
  have HE : Hid (Own2 (((w.alloc (.cells m.cells 37)).alloc (.cells #[.int .i64 1, .slice p ys.length cap] 40)).alloc (.cells zeroM.cells 37)) (w.heap.size + 1) (.int .i64 1) (.slice p ys.length cap)) := by
    have := (Own2.new (w.alloc (.cells m.cells 37)) (.int .i64 1) (.slice p ys.length cap)).alloc (.cells zeroM.cells 37)
    rw [show ((w.alloc (.cells m.cells 37))).heap.size = w.heap.size + 1 by simp] at this
    exact this
  have HR : Hid (MemAt (((w.alloc (.cells m.cells 37)).alloc (.cells #[.int .i64 1, .slice p ys.length cap] 40)).alloc (.cells zeroM.cells 37)) (w.heap.size + 1 + 1) zeroM) := by
    have := RowAt.new ((w.alloc (.cells m.cells 37)).alloc (.cells #[.int .i64 1, .slice p ys.length cap] 40)) 37 136 zeroM.cell
    rw [show (((w.alloc (.cells m.cells 37)).alloc (.cells #[.int .i64 1, .slice p ys.length cap] 40))).heap.size = w.heap.size + 1 + 1 by simp] at this
    exact this
  generalize (((w.alloc (.cells m.cells 37)).alloc (.cells #[.int .i64 1, .slice p ys.length cap] 40)).alloc (.cells zeroM.cells 37)) = V at *
  clear hz
  have hlt : w.heap.size + 1 + 1 < V.heap.size := HR.out.lt
  refine test_region (m := m) (m' := m') (P := P) (TD := 87) (dv := lit9 x) (fm := 81) (r := lit9 x) Tryz.call18 Tryz.call81 (fun _ => by kernel_rfl) HI.out (range2V HE.out.1.1 HE.out.1.2) (by omega) HR.out (by omega) (by omega) (fun W hW => HP.out W (HB.out.trans (hW.mono HB.out.size))) (fun W hW => H2'.out W (HB.out.trans (hW.mono HB.out.size))) ?_
  intro b w3 hP HM3 hb3
  go_wp2_with fail
  exact bodyPost_ret (resMB Tryz.results5 rfl rfl HM3) rfl ⟨b, rfl, hP, hb3 _ _ HB.out (by omega) HB.out.size⟩

set_option maxHeartbeats 1000000 in
set_option maxRecDepth 100000 in
theorem test_2 {P : Bool → Prop} {m m' : Mm} (p : Option Addr) (cap : Nat) (ys : List Ar) (w : World) (h : ArgsIs w p ys) (hT : DevTab w)
    (H2 : ∀ W, DevTab W → Calls Tryz.prog 82 #[lit9 (nine ys), m.val] W fun e w' => ∃ b, e = .returned (.tuple #[m'.val, .bool b]) ∧ P b ∧ Below W.heap.size W w') :
    Calls Tryz.prog 5 #[m.val, elemV 2 p ys.length cap] w fun e w' => ∃ b, e = .returned (.tuple #[m'.val, .bool b]) ∧ P b ∧ Below w.heap.size w w' := by
  have hz : ∀ w, (zeroValue 37).run Tryz.prog w = .ok (.agg zeroM.cells) w := fun _ => by kernel_rfl
  have HP : Hid (∀ W, Below w.heap.size w W → Calls Tryz.prog 18 #[elemV 2 p ys.length cap] W fun e w' => e = .returned (.iface 88 (lit9 (nine ys))) ∧ Below W.heap.size W w') := fun W hW => partOf_2 p cap ys W (h.to hW)
  have H2' : Hid (∀ W, Below w.heap.size w W → Calls Tryz.prog 82 #[lit9 (nine ys), m.val] W fun e w' => ∃ v, e = .returned v ∧ (∃ b, v = .tuple #[m'.val, .bool b] ∧ P b) ∧ Below W.heap.size W w') := fun W hW => (H2 W (hT.to hW)).mono (by rintro e w' ⟨b, rfl, hP, hb⟩; exact ⟨_, rfl, ⟨b, rfl, hP⟩, hb⟩)
  clear h hT H2
  generalize nine ys = x at *
  have hu : m.val = .agg m.cells := rfl
  rw [hu]
  clear hu
  go_enter Tryz.func5, Tryz.ntmps5
  go_upto_region 1 with fail
  have HB : Hid (Below w.heap.size w (((w.alloc (.cells m.cells 37)).alloc (.cells #[.int .i64 2, .slice p ys.length cap] 40)).alloc (.cells zeroM.cells 37))) := (((Below.refl _ _).alloc (Nat.le_refl _) _).alloc (by simp) _).alloc (by simp; omega) _
  have HI : Hid (MemAt (((w.alloc (.cells m.cells 37)).alloc (.cells #[.int .i64 2, .slice p ys.length cap] 40)).alloc (.cells zeroM.cells 37)) w.heap.size m) := ((RowAt.new w 37 136 m.cell).alloc _).alloc _
  have HE : Hid (Own2 (((w.alloc (.cells m.cells 37)).alloc (.cells #[.int .i64 2, .slice p ys.length cap] 40)).alloc (.cells zeroM.cells 37)) (w.heap.size + 1) (.int .i64 2) (.slice p ys.length cap)) := by
    have := (Own2.new (w.alloc (.cells m.cells 37)) (.int .i64 2) (.slice p ys.length cap)).alloc (.cells zeroM.cells 37)
    rw [show ((w.alloc (.cells m.cells 37))).heap.size = w.heap.size + 1 by simp] at this
    exact this
  have HR : Hid (MemAt (((w.alloc (.cells m.cells 37)).alloc (.cells #[.int .i64 2, .slice p ys.length cap] 40)).alloc (.cells zeroM.cells 37)) (w.heap.size + 1 + 1) zeroM) := by
    have := RowAt.new ((w.alloc (.cells m.cells 37)).alloc (.cells #[.int .i64 2, .slice p ys.length cap] 40)) 37 136 zeroM.cell
    rw [show (((w.alloc (.cells m.cells 37)).alloc (.cells #[.int .i64 2, .slice p ys.length cap] 40))).heap.size = w.heap.size + 1 + 1 by simp] at this
    exact this
  generalize (((w.alloc (.cells m.cells 37)).alloc (.cells #[.int .i64 2, .slice p ys.length cap] 40)).alloc (.cells zeroM.cells 37)) = V at *
  clear hz
  have hlt : w.heap.size + 1 + 1 < V.heap.size := HR.out.lt
  refine test_region (m := m) (m' := m') (P := P) (TD := 88) (dv := lit9 x) (fm := 82) (r := lit9 x) Tryz.call18 Tryz.call82 (fun _ => by kernel_rfl) HI.out (range2V HE.out.1.1 HE.out.1.2) (by omega) HR.out (by omega) (by omega) (fun W hW => HP.out W (HB.out.trans (hW.mono HB.out.size))) (fun W hW => H2'.out W (HB.out.trans (hW.mono HB.out.size))) ?_
  intro b w3 hP HM3 hb3
  go_wp2_with fail
  exact bodyPost_ret (resMB Tryz.results5 rfl rfl HM3) rfl ⟨b, rfl, hP, hb3 _ _ HB.out (by omega) HB.out.size⟩

set_option maxHeartbeats 1000000 in
set_option maxRecDepth 100000 in
theorem test_3 {P : Bool → Prop} {m m' : Mm} (p : Option Addr) (cap : Nat) (ys : List Ar) (w : World) (h : ArgsIs w p ys) (hT : DevTab w)
    (H2 : ∀ W, DevTab W → Calls Tryz.prog 83 #[lit9 (nine ys), m.val] W fun e w' => ∃ b, e = .returned (.tuple #[m'.val, .bool b]) ∧ P b ∧ Below W.heap.size W w') :
    Calls Tryz.prog 5 #[m.val, elemV 3 p ys.length cap] w fun e w' => ∃ b, e = .returned (.tuple #[m'.val, .bool b]) ∧ P b ∧ Below w.heap.size w w' := by
  have hz : ∀ w, (zeroValue 37).run Tryz.prog w = .ok (.agg zeroM.cells) w := fun _ => by kernel_rfl
  have HP : Hid (∀ W, Below w.heap.size w W → Calls Tryz.prog 18 #[elemV 3 p ys.length cap] W fun e w' => e = .returned (.iface 89 (lit9 (nine ys))) ∧ Below W.heap.size W w') := fun W hW => partOf_3 p cap ys W (h.to hW)
  have H2' : Hid (∀ W, Below w.heap.size w W → Calls Tryz.prog 83 #[lit9 (nine ys), m.val] W fun e w' => ∃ v, e = .returned v ∧ (∃ b, v = .tuple #[m'.val, .bool b] ∧ P b) ∧ Below W.heap.size W w') := fun W hW => (H2 W (hT.to hW)).mono (by rintro e w' ⟨b, rfl, hP, hb⟩; exact ⟨_, rfl, ⟨b, rfl, hP⟩, hb⟩)
  clear h hT H2
  generalize nine ys = x at *
  have hu : m.val = .agg m.cells := rfl
  rw [hu]
  clear hu
  go_enter Tryz.func5, Tryz.ntmps5
  go_upto_region 1 with fail
  have HB : Hid (Below w.heap.size w (((w.alloc (.cells m.cells 37)).alloc (.cells #[.int .i64 3, .slice p ys.length cap] 40)).alloc (.cells zeroM.cells 37))) := (((Below.refl _ _).alloc (Nat.le_refl _) _).alloc (by simp) _).alloc (by simp; omega) _
  have HI : Hid (MemAt (((w.alloc (.cells m.cells 37)).alloc (.cells #[.int .i64 3, .slice p ys.length cap] 40)).alloc (.cells zeroM.cells 37)) w.heap.size m) := ((RowAt.new w 37 136 m.cell).alloc _).alloc _
  have HE : Hid (Own2 (((w.alloc (.cells m.cells 37)).alloc (.cells #[.int .i64 3, .slice p ys.length cap] 40)).alloc (.cells zeroM.cells 37)) (w.heap.size + 1) (.int .i64 3) (.slice p ys.length cap)) := by
    have := (Own2.new (w.alloc (.cells m.cells 37)) (.int .i64 3) (.slice p ys.length cap)).alloc (.cells zeroM.cells 37)
    rw [show ((w.alloc (.cells m.cells 37))).heap.size = w.heap.size + 1 by simp] at this
    exact this
  have HR : Hid (MemAt (((w.alloc (.cells m.cells 37)).alloc (.cells #[.int .i64 3, .slice p ys.length cap] 40)).alloc (.cells zeroM.cells 37)) (w.heap.size + 1 + 1) zeroM) := by
    have := RowAt.new ((w.alloc (.cells m.cells 37)).alloc (.cells #[.int .i64 3, .slice p ys.length cap] 40)) 37 136 zeroM.cell
    rw [show (((w.alloc (.cells m.cells 37)).alloc (.cells #[.int .i64 3, .slice p ys.length cap] 40))).heap.size = w.heap.size + 1 + 1 by simp] at this
    exact this
  generalize (((w.alloc (.cells m.cells 37)).alloc (.cells #[.int .i64 3, .slice p ys.length cap] 40)).alloc (.cells zeroM.cells 37)) = V at *
  clear hz
  have hlt : w.heap.size + 1 + 1 < V.heap.size := HR.out.lt
  refine test_region (m := m) (m' := m') (P := P) (TD := 89) (dv := lit9 x) (fm := 83) (r := lit9 x) Tryz.call18 Tryz.call83 (fun _ => by kernel_rfl) HI.out (range2V HE.out.1.1 HE.out.1.2) (by omega) HR.out (by omega) (by omega) (fun W hW => HP.out W (HB.out.trans (hW.mono HB.out.size))) (fun W hW => H2'.out W (HB.out.trans (hW.mono HB.out.size))) ?_
  intro b w3 hP HM3 hb3
  go_wp2_with fail
  exact bodyPost_ret (resMB Tryz.results5 rfl rfl HM3) rfl ⟨b, rfl, hP, hb3 _ _ HB.out (by omega) HB.out.size⟩

set_option maxHeartbeats 1000000 in
set_option maxRecDepth 100000 in
theorem test_4 {P : Bool → Prop} {m m' : Mm} (p : Option Addr) (cap : Nat) (ys : List Ar) (w : World) (h : ArgsIs w p ys) (hT : DevTab w)
    (H2 : ∀ W, DevTab W → Calls Tryz.prog 86 #[lit9 (nine ys), m.val] W fun e w' => ∃ b, e = .returned (.tuple #[m'.val, .bool b]) ∧ P b ∧ Below W.heap.size W w') :
    Calls Tryz.prog 5 #[m.val, elemV 4 p ys.length cap] w fun e w' => ∃ b, e = .returned (.tuple #[m'.val, .bool b]) ∧ P b ∧ Below w.heap.size w w' := by
  have hz : ∀ w, (zeroValue 37).run Tryz.prog w = .ok (.agg zeroM.cells) w := fun _ => by kernel_rfl
  have HP : Hid (∀ W, Below w.heap.size w W → Calls Tryz.prog 18 #[elemV 4 p ys.length cap] W fun e w' => e = .returned (.iface 90 (lit9 (nine ys))) ∧ Below W.heap.size W w') := fun W hW => partOf_4 p cap ys W (h.to hW)
  have H2' : Hid (∀ W, Below w.heap.size w W → Calls Tryz.prog 86 #[lit9 (nine ys), m.val] W fun e w' => ∃ v, e = .returned v ∧ (∃ b, v = .tuple #[m'.val, .bool b] ∧ P b) ∧ Below W.heap.size W w') := fun W hW => (H2 W (hT.to hW)).mono (by rintro e w' ⟨b, rfl, hP, hb⟩; exact ⟨_, rfl, ⟨b, rfl, hP⟩, hb⟩)
  clear h hT H2
  generalize nine ys = x at *
  have hu : m.val = .agg m.cells := rfl
  rw [hu]
  clear hu
  go_enter Tryz.func5, Tryz.ntmps5
  go_upto_region 1 with fail
  have HB : Hid (Below w.heap.size w (((w.alloc (.cells m.cells 37)).alloc (.cells #[.int .i64 4, .slice p ys.length cap] 40)).alloc (.cells zeroM.cells 37))) := (((Below.refl _ _).alloc (Nat.le_refl _) _).alloc (by simp) _).alloc (by simp; omega) _
  have HI : Hid (MemAt (((w.alloc (.cells m.cells 37)).alloc (.cells #[.int .i64 4, .slice p ys.length cap] 40)).alloc (.cells zeroM.cells 37)) w.heap.size m) := ((RowAt.new w 37 136 m.cell).alloc _).alloc _
  have HE : Hid (Own2 (((w.alloc (.cells m.cells 37)).alloc (.cells #[.int .i64 4, .slice p ys.length cap] 40)).alloc (.cells zeroM.cells 37)) (w.heap.size + 1) (.int .i64 4) (.slice p ys.length cap)) := by
    have := (Own2.new (w.alloc (.cells m.cells 37)) (.int .i64 4) (.slice p ys.length cap)).alloc (.cells zeroM.cells 37)
    rw [show ((w.alloc (.cells m.cells 37))).heap.size = w.heap.size + 1 by simp] at this
    exact this
  have HR : Hid (MemAt (((w.alloc (.cells m.cells 37)).alloc (.cells #[.int .i64 4, .slice p ys.length cap] 40)).alloc (.cells zeroM.cells 37)) (w.heap.size + 1 + 1) zeroM) := by
    have := RowAt.new ((w.alloc (.cells m.cells 37)).alloc (.cells #[.int .i64 4, .slice p ys.length cap] 40)) 37 136 zeroM.cell
    rw [show (((w.alloc (.cells m.cells 37)).alloc (.cells #[.int .i64 4, .slice p ys.length cap] 40))).heap.size = w.heap.size + 1 + 1 by simp] at this
    exact this
  generalize (((w.alloc (.cells m.cells 37)).alloc (.cells #[.int .i64 4, .slice p ys.length cap] 40)).alloc (.cells zeroM.cells 37)) = V at *
  clear hz
  have hlt : w.heap.size + 1 + 1 < V.heap.size := HR.out.lt
  refine test_region (m := m) (m' := m') (P := P) (TD := 90) (dv := lit9 x) (fm := 86) (r := lit9 x) Tryz.call18 Tryz.call86 (fun _ => by kernel_rfl) HI.out (range2V HE.out.1.1 HE.out.1.2) (by omega) HR.out (by omega) (by omega) (fun W hW => HP.out W (HB.out.trans (hW.mono HB.out.size))) (fun W hW => H2'.out W (HB.out.trans (hW.mono HB.out.size))) ?_
  intro b w3 hP HM3 hb3
  go_wp2_with fail
  exact bodyPost_ret (resMB Tryz.results5 rfl rfl HM3) rfl ⟨b, rfl, hP, hb3 _ _ HB.out (by omega) HB.out.size⟩

set_option maxHeartbeats 1000000 in
set_option maxRecDepth 100000 in
theorem test_5 {P : Bool → Prop} {m m' : Mm} (p : Option Addr) (cap : Nat) (ys : List Ar) (w : World) (h : ArgsIs w p ys) (hT : DevTab w)
    (H2 : ∀ W, DevTab W → Calls Tryz.prog 87 #[.agg #[.int .i64 (nine ys 0), .int .i64 (nine ys 1), .int .i64 (nine ys 2), .int .i64 (nine ys 3), .int .i64 (nine ys 4), .int .i64 (nine ys 5), .int .i64 (nine ys 6), .int .i64 (nine ys 7), .int .i64 (nine ys 8), .int .i64 1], m.val] W fun e w' => ∃ b, e = .returned (.tuple #[m'.val, .bool b]) ∧ P b ∧ Below W.heap.size W w') :
    Calls Tryz.prog 5 #[m.val, elemV 5 p ys.length cap] w fun e w' => ∃ b, e = .returned (.tuple #[m'.val, .bool b]) ∧ P b ∧ Below w.heap.size w w' := by
  have hz : ∀ w, (zeroValue 37).run Tryz.prog w = .ok (.agg zeroM.cells) w := fun _ => by kernel_rfl
  have HP : Hid (∀ W, Below w.heap.size w W → Calls Tryz.prog 18 #[elemV 5 p ys.length cap] W fun e w' => e = .returned (.iface 92 (.agg #[.int .i64 (nine ys 0), .int .i64 (nine ys 1), .int .i64 (nine ys 2), .int .i64 (nine ys 3), .int .i64 (nine ys 4), .int .i64 (nine ys 5), .int .i64 (nine ys 6), .int .i64 (nine ys 7), .int .i64 (nine ys 8), .int .i64 1])) ∧ Below W.heap.size W w') := fun W hW => partOf_5 p cap ys W (h.to hW)
  have H2' : Hid (∀ W, Below w.heap.size w W → Calls Tryz.prog 87 #[.agg #[.int .i64 (nine ys 0), .int .i64 (nine ys 1), .int .i64 (nine ys 2), .int .i64 (nine ys 3), .int .i64 (nine ys 4), .int .i64 (nine ys 5), .int .i64 (nine ys 6), .int .i64 (nine ys 7), .int .i64 (nine ys 8), .int .i64 1], m.val] W fun e w' => ∃ v, e = .returned v ∧ (∃ b, v = .tuple #[m'.val, .bool b] ∧ P b) ∧ Below W.heap.size W w') := fun W hW => (H2 W (hT.to hW)).mono (by rintro e w' ⟨b, rfl, hP, hb⟩; exact ⟨_, rfl, ⟨b, rfl, hP⟩, hb⟩)
  clear h hT H2
  generalize nine ys = x at *
  have hu : m.val = .agg m.cells := rfl
  rw [hu]
  clear hu
  go_enter Tryz.func5, Tryz.ntmps5
  go_upto_region 1 with fail
  have HB : Hid (Below w.heap.size w (((w.alloc (.cells m.cells 37)).alloc (.cells #[.int .i64 5, .slice p ys.length cap] 40)).alloc (.cells zeroM.cells 37))) := (((Below.refl _ _).alloc (Nat.le_refl _) _).alloc (by simp) _).alloc (by simp; omega) _
  have HI : Hid (MemAt (((w.alloc (.cells m.cells 37)).alloc (.cells #[.int .i64 5, .slice p ys.length cap] 40)).alloc (.cells zeroM.cells 37)) w.heap.size m) := ((RowAt.new w 37 136 m.cell).alloc _).alloc _
  have HE : Hid (Own2 (((w.alloc (.cells m.cells 37)).alloc (.cells #[.int .i64 5, .slice p ys.length cap] 40)).alloc (.cells zeroM.cells 37)) (w.heap.size + 1) (.int .i64 5) (.slice p ys.length cap)) := by
    have := (Own2.new (w.alloc (.cells m.cells 37)) (.int .i64 5) (.slice p ys.length cap)).alloc (.cells zeroM.cells 37)
    rw [show ((w.alloc (.cells m.cells 37))).heap.size = w.heap.size + 1 by simp] at this
    exact this
  have HR : Hid (MemAt (((w.alloc (.cells m.cells 37)).alloc (.cells #[.int .i64 5, .slice p ys.length cap] 40)).alloc (.cells zeroM.cells 37)) (w.heap.size + 1 + 1) zeroM) := by
    have := RowAt.new ((w.alloc (.cells m.cells 37)).alloc (.cells #[.int .i64 5, .slice p ys.length cap] 40)) 37 136 zeroM.cell
    rw [show (((w.alloc (.cells m.cells 37)).alloc (.cells #[.int .i64 5, .slice p ys.length cap] 40))).heap.size = w.heap.size + 1 + 1 by simp] at this
    exact this
  generalize (((w.alloc (.cells m.cells 37)).alloc (.cells #[.int .i64 5, .slice p ys.length cap] 40)).alloc (.cells zeroM.cells 37)) = V at *
  clear hz
  have hlt : w.heap.size + 1 + 1 < V.heap.size := HR.out.lt
  refine test_region (m := m) (m' := m') (P := P) (TD := 92) (dv := .agg #[.int .i64 (x 0), .int .i64 (x 1), .int .i64 (x 2), .int .i64 (x 3), .int .i64 (x 4), .int .i64 (x 5), .int .i64 (x 6), .int .i64 (x 7), .int .i64 (x 8), .int .i64 1]) (fm := 87) (r := .agg #[.int .i64 (x 0), .int .i64 (x 1), .int .i64 (x 2), .int .i64 (x 3), .int .i64 (x 4), .int .i64 (x 5), .int .i64 (x 6), .int .i64 (x 7), .int .i64 (x 8), .int .i64 1]) Tryz.call18 Tryz.call87 (fun _ => by kernel_rfl) HI.out (range2V HE.out.1.1 HE.out.1.2) (by omega) HR.out (by omega) (by omega) (fun W hW => HP.out W (HB.out.trans (hW.mono HB.out.size))) (fun W hW => H2'.out W (HB.out.trans (hW.mono HB.out.size))) ?_
  intro b w3 hP HM3 hb3
  go_wp2_with fail
  exact bodyPost_ret (resMB Tryz.results5 rfl rfl HM3) rfl ⟨b, rfl, hP, hb3 _ _ HB.out (by omega) HB.out.size⟩

set_option maxHeartbeats 1000000 in
set_option maxRecDepth 100000 in
theorem test_6 {P : Bool → Prop} {m m' : Mm} (p : Option Addr) (cap : Nat) (ys : List Ar) (w : World) (h : ArgsIs w p ys) (hT : DevTab w)
    (H2 : ∀ W, DevTab W → Calls Tryz.prog 87 #[.agg #[.int .i64 (nine ys 0), .int .i64 (nine ys 1), .int .i64 (nine ys 2), .int .i64 (nine ys 3), .int .i64 (nine ys 4), .int .i64 (nine ys 5), .int .i64 (nine ys 6), .int .i64 (nine ys 7), .int .i64 (nine ys 8), .int .i64 2], m.val] W fun e w' => ∃ b, e = .returned (.tuple #[m'.val, .bool b]) ∧ P b ∧ Below W.heap.size W w') :
    Calls Tryz.prog 5 #[m.val, elemV 6 p ys.length cap] w fun e w' => ∃ b, e = .returned (.tuple #[m'.val, .bool b]) ∧ P b ∧ Below w.heap.size w w' := by
  have hz : ∀ w, (zeroValue 37).run Tryz.prog w = .ok (.agg zeroM.cells) w := fun _ => by kernel_rfl
  have HP : Hid (∀ W, Below w.heap.size w W → Calls Tryz.prog 18 #[elemV 6 p ys.length cap] W fun e w' => e = .returned (.iface 92 (.agg #[.int .i64 (nine ys 0), .int .i64 (nine ys 1), .int .i64 (nine ys 2), .int .i64 (nine ys 3), .int .i64 (nine ys 4), .int .i64 (nine ys 5), .int .i64 (nine ys 6), .int .i64 (nine ys 7), .int .i64 (nine ys 8), .int .i64 2])) ∧ Below W.heap.size W w') := fun W hW => partOf_6 p cap ys W (h.to hW)
  have H2' : Hid (∀ W, Below w.heap.size w W → Calls Tryz.prog 87 #[.agg #[.int .i64 (nine ys 0), .int .i64 (nine ys 1), .int .i64 (nine ys 2), .int .i64 (nine ys 3), .int .i64 (nine ys 4), .int .i64 (nine ys 5), .int .i64 (nine ys 6), .int .i64 (nine ys 7), .int .i64 (nine ys 8), .int .i64 2], m.val] W fun e w' => ∃ v, e = .returned v ∧ (∃ b, v = .tuple #[m'.val, .bool b] ∧ P b) ∧ Below W.heap.size W w') := fun W hW => (H2 W (hT.to hW)).mono (by rintro e w' ⟨b, rfl, hP, hb⟩; exact ⟨_, rfl, ⟨b, rfl, hP⟩, hb⟩)
  clear h hT H2
  generalize nine ys = x at *
  have hu : m.val = .agg m.cells := rfl
  rw [hu]
  clear hu
  go_enter Tryz.func5, Tryz.ntmps5
  go_upto_region 1 with fail
  have HB : Hid (Below w.heap.size w (((w.alloc (.cells m.cells 37)).alloc (.cells #[.int .i64 6, .slice p ys.length cap] 40)).alloc (.cells zeroM.cells 37))) := (((Below.refl _ _).alloc (Nat.le_refl _) _).alloc (by simp) _).alloc (by simp; omega) _
  have HI : Hid (MemAt (((w.alloc (.cells m.cells 37)).alloc (.cells #[.int .i64 6, .slice p ys.length cap] 40)).alloc (.cells zeroM.cells 37)) w.heap.size m) := ((RowAt.new w 37 136 m.cell).alloc _).alloc _
  have HE : Hid (Own2 (((w.alloc (.cells m.cells 37)).alloc (.cells #[.int .i64 6, .slice p ys.length cap] 40)).alloc (.cells zeroM.cells 37)) (w.heap.size + 1) (.int .i64 6) (.slice p ys.length cap)) := by
    have := (Own2.new (w.alloc (.cells m.cells 37)) (.int .i64 6) (.slice p ys.length cap)).alloc (.cells zeroM.cells 37)
    rw [show ((w.alloc (.cells m.cells 37))).heap.size = w.heap.size + 1 by simp] at this
    exact this
  have HR : Hid (MemAt (((w.alloc (.cells m.cells 37)).alloc (.cells #[.int .i64 6, .slice p ys.length cap] 40)).alloc (.cells zeroM.cells 37)) (w.heap.size + 1 + 1) zeroM) := by
    have := RowAt.new ((w.alloc (.cells m.cells 37)).alloc (.cells #[.int .i64 6, .slice p ys.length cap] 40)) 37 136 zeroM.cell
    rw [show (((w.alloc (.cells m.cells 37)).alloc (.cells #[.int .i64 6, .slice p ys.length cap] 40))).heap.size = w.heap.size + 1 + 1 by simp] at this
    exact this
  generalize (((w.alloc (.cells m.cells 37)).alloc (.cells #[.int .i64 6, .slice p ys.length cap] 40)).alloc (.cells zeroM.cells 37)) = V at *
  clear hz
  have hlt : w.heap.size + 1 + 1 < V.heap.size := HR.out.lt
  refine test_region (m := m) (m' := m') (P := P) (TD := 92) (dv := .agg #[.int .i64 (x 0), .int .i64 (x 1), .int .i64 (x 2), .int .i64 (x 3), .int .i64 (x 4), .int .i64 (x 5), .int .i64 (x 6), .int .i64 (x 7), .int .i64 (x 8), .int .i64 2]) (fm := 87) (r := .agg #[.int .i64 (x 0), .int .i64 (x 1), .int .i64 (x 2), .int .i64 (x 3), .int .i64 (x 4), .int .i64 (x 5), .int .i64 (x 6), .int .i64 (x 7), .int .i64 (x 8), .int .i64 2]) Tryz.call18 Tryz.call87 (fun _ => by kernel_rfl) HI.out (range2V HE.out.1.1 HE.out.1.2) (by omega) HR.out (by omega) (by omega) (fun W hW => HP.out W (HB.out.trans (hW.mono HB.out.size))) (fun W hW => H2'.out W (HB.out.trans (hW.mono HB.out.size))) ?_
  intro b w3 hP HM3 hb3
  go_wp2_with fail
  exact bodyPost_ret (resMB Tryz.results5 rfl rfl HM3) rfl ⟨b, rfl, hP, hb3 _ _ HB.out (by omega) HB.out.size⟩

set_option maxHeartbeats 1000000 in
set_option maxRecDepth 100000 in
theorem test_7 {P : Bool → Prop} {m m' : Mm} (p : Option Addr) (cap : Nat) (ys : List Ar) (w : World) (h : ArgsIs w p ys) (hT : DevTab w)
    (H2 : ∀ W, DevTab W → Calls Tryz.prog 87 #[.agg #[.int .i64 (nine ys 0), .int .i64 (nine ys 1), .int .i64 (nine ys 2), .int .i64 (nine ys 3), .int .i64 (nine ys 4), .int .i64 (nine ys 5), .int .i64 (nine ys 6), .int .i64 (nine ys 7), .int .i64 (nine ys 8), .int .i64 3], m.val] W fun e w' => ∃ b, e = .returned (.tuple #[m'.val, .bool b]) ∧ P b ∧ Below W.heap.size W w') :
    Calls Tryz.prog 5 #[m.val, elemV 7 p ys.length cap] w fun e w' => ∃ b, e = .returned (.tuple #[m'.val, .bool b]) ∧ P b ∧ Below w.heap.size w w' := by
  have hz : ∀ w, (zeroValue 37).run Tryz.prog w = .ok (.agg zeroM.cells) w := fun _ => by kernel_rfl
  have HP : Hid (∀ W, Below w.heap.size w W → Calls Tryz.prog 18 #[elemV 7 p ys.length cap] W fun e w' => e = .returned (.iface 92 (.agg #[.int .i64 (nine ys 0), .int .i64 (nine ys 1), .int .i64 (nine ys 2), .int .i64 (nine ys 3), .int .i64 (nine ys 4), .int .i64 (nine ys 5), .int .i64 (nine ys 6), .int .i64 (nine ys 7), .int .i64 (nine ys 8), .int .i64 3])) ∧ Below W.heap.size W w') := fun W hW => partOf_7 p cap ys W (h.to hW)
  have H2' : Hid (∀ W, Below w.heap.size w W → Calls Tryz.prog 87 #[.agg #[.int .i64 (nine ys 0), .int .i64 (nine ys 1), .int .i64 (nine ys 2), .int .i64 (nine ys 3), .int .i64 (nine ys 4), .int .i64 (nine ys 5), .int .i64 (nine ys 6), .int .i64 (nine ys 7), .int .i64 (nine ys 8), .int .i64 3], m.val] W fun e w' => ∃ v, e = .returned v ∧ (∃ b, v = .tuple #[m'.val, .bool b] ∧ P b) ∧ Below W.heap.size W w') := fun W hW => (H2 W (hT.to hW)).mono (by rintro e w' ⟨b, rfl, hP, hb⟩; exact ⟨_, rfl, ⟨b, rfl, hP⟩, hb⟩)
  clear h hT H2
  generalize nine ys = x at *
  have hu : m.val = .agg m.cells := rfl
  rw [hu]
  clear hu
  go_enter Tryz.func5, Tryz.ntmps5
  go_upto_region 1 with fail
  have HB : Hid (Below w.heap.size w (((w.alloc (.cells m.cells 37)).alloc (.cells #[.int .i64 7, .slice p ys.length cap] 40)).alloc (.cells zeroM.cells 37))) := (((Below.refl _ _).alloc (Nat.le_refl _) _).alloc (by simp) _).alloc (by simp; omega) _
  have HI : Hid (MemAt (((w.alloc (.cells m.cells 37)).alloc (.cells #[.int .i64 7, .slice p ys.length cap] 40)).alloc (.cells zeroM.cells 37)) w.heap.size m) := ((RowAt.new w 37 136 m.cell).alloc _).alloc _
  have HE : Hid (Own2 (((w.alloc (.cells m.cells 37)).alloc (.cells #[.int .i64 7, .slice p ys.length cap] 40)).alloc (.cells zeroM.cells 37)) (w.heap.size + 1) (.int .i64 7) (.slice p ys.length cap)) := by
    have := (Own2.new (w.alloc (.cells m.cells 37)) (.int .i64 7) (.slice p ys.length cap)).alloc (.cells zeroM.cells 37)
    rw [show ((w.alloc (.cells m.cells 37))).heap.size = w.heap.size + 1 by simp] at this
    exact this
  have HR : Hid (MemAt (((w.alloc (.cells m.cells 37)).alloc (.cells #[.int .i64 7, .slice p ys.length cap] 40)).alloc (.cells zeroM.cells 37)) (w.heap.size + 1 + 1) zeroM) := by
    have := RowAt.new ((w.alloc (.cells m.cells 37)).alloc (.cells #[.int .i64 7, .slice p ys.length cap] 40)) 37 136 zeroM.cell
    rw [show (((w.alloc (.cells m.cells 37)).alloc (.cells #[.int .i64 7, .slice p ys.length cap] 40))).heap.size = w.heap.size + 1 + 1 by simp] at this
    exact this
  generalize (((w.alloc (.cells m.cells 37)).alloc (.cells #[.int .i64 7, .slice p ys.length cap] 40)).alloc (.cells zeroM.cells 37)) = V at *
  clear hz
  have hlt : w.heap.size + 1 + 1 < V.heap.size := HR.out.lt
  refine test_region (m := m) (m' := m') (P := P) (TD := 92) (dv := .agg #[.int .i64 (x 0), .int .i64 (x 1), .int .i64 (x 2), .int .i64 (x 3), .int .i64 (x 4), .int .i64 (x 5), .int .i64 (x 6), .int .i64 (x 7), .int .i64 (x 8), .int .i64 3]) (fm := 87) (r := .agg #[.int .i64 (x 0), .int .i64 (x 1), .int .i64 (x 2), .int .i64 (x 3), .int .i64 (x 4), .int .i64 (x 5), .int .i64 (x 6), .int .i64 (x 7), .int .i64 (x 8), .int .i64 3]) Tryz.call18 Tryz.call87 (fun _ => by kernel_rfl) HI.out (range2V HE.out.1.1 HE.out.1.2) (by omega) HR.out (by omega) (by omega) (fun W hW => HP.out W (HB.out.trans (hW.mono HB.out.size))) (fun W hW => H2'.out W (HB.out.trans (hW.mono HB.out.size))) ?_
  intro b w3 hP HM3 hb3
  go_wp2_with fail
  exact bodyPost_ret (resMB Tryz.results5 rfl rfl HM3) rfl ⟨b, rfl, hP, hb3 _ _ HB.out (by omega) HB.out.size⟩

set_option maxHeartbeats 1000000 in
set_option maxRecDepth 100000 in
theorem test_8 {P : Bool → Prop} {m m' : Mm} (p : Option Addr) (cap : Nat) (ys : List Ar) (w : World) (h : ArgsIs w p ys) (hT : DevTab w)
    (H2 : ∀ W, DevTab W → Calls Tryz.prog 87 #[.agg #[.int .i64 (nine ys 0), .int .i64 (nine ys 1), .int .i64 (nine ys 2), .int .i64 (nine ys 3), .int .i64 (nine ys 4), .int .i64 (nine ys 5), .int .i64 (nine ys 6), .int .i64 (nine ys 7), .int .i64 (nine ys 8), .int .i64 4], m.val] W fun e w' => ∃ b, e = .returned (.tuple #[m'.val, .bool b]) ∧ P b ∧ Below W.heap.size W w') :
    Calls Tryz.prog 5 #[m.val, elemV 8 p ys.length cap] w fun e w' => ∃ b, e = .returned (.tuple #[m'.val, .bool b]) ∧ P b ∧ Below w.heap.size w w' := by
  have hz : ∀ w, (zeroValue 37).run Tryz.prog w = .ok (.agg zeroM.cells) w := fun _ => by kernel_rfl
  have HP : Hid (∀ W, Below w.heap.size w W → Calls Tryz.prog 18 #[elemV 8 p ys.length cap] W fun e w' => e = .returned (.iface 92 (.agg #[.int .i64 (nine ys 0), .int .i64 (nine ys 1), .int .i64 (nine ys 2), .int .i64 (nine ys 3), .int .i64 (nine ys 4), .int .i64 (nine ys 5), .int .i64 (nine ys 6), .int .i64 (nine ys 7), .int .i64 (nine ys 8), .int .i64 4])) ∧ Below W.heap.size W w') := fun W hW => partOf_8 p cap ys W (h.to hW)
  have H2' : Hid (∀ W, Below w.heap.size w W → Calls Tryz.prog 87 #[.agg #[.int .i64 (nine ys 0), .int .i64 (nine ys 1), .int .i64 (nine ys 2), .int .i64 (nine ys 3), .int .i64 (nine ys 4), .int .i64 (nine ys 5), .int .i64 (nine ys 6), .int .i64 (nine ys 7), .int .i64 (nine ys 8), .int .i64 4], m.val] W fun e w' => ∃ v, e = .returned v ∧ (∃ b, v = .tuple #[m'.val, .bool b] ∧ P b) ∧ Below W.heap.size W w') := fun W hW => (H2 W (hT.to hW)).mono (by rintro e w' ⟨b, rfl, hP, hb⟩; exact ⟨_, rfl, ⟨b, rfl, hP⟩, hb⟩)
  clear h hT H2
  generalize nine ys = x at *
  have hu : m.val = .agg m.cells := rfl
  rw [hu]
  clear hu
  go_enter Tryz.func5, Tryz.ntmps5
  go_upto_region 1 with fail
  have HB : Hid (Below w.heap.size w (((w.alloc (.cells m.cells 37)).alloc (.cells #[.int .i64 8, .slice p ys.length cap] 40)).alloc (.cells zeroM.cells 37))) := (((Below.refl _ _).alloc (Nat.le_refl _) _).alloc (by simp) _).alloc (by simp; omega) _
  have HI : Hid (MemAt (((w.alloc (.cells m.cells 37)).alloc (.cells #[.int .i64 8, .slice p ys.length cap] 40)).alloc (.cells zeroM.cells 37)) w.heap.size m) := ((RowAt.new w 37 136 m.cell).alloc _).alloc _
  have HE : Hid (Own2 (((w.alloc (.cells m.cells 37)).alloc (.cells #[.int .i64 8, .slice p ys.length cap] 40)).alloc (.cells zeroM.cells 37)) (w.heap.size + 1) (.int .i64 8) (.slice p ys.length cap)) := by
    have := (Own2.new (w.alloc (.cells m.cells 37)) (.int .i64 8) (.slice p ys.length cap)).alloc (.cells zeroM.cells 37)
    rw [show ((w.alloc (.cells m.cells 37))).heap.size = w.heap.size + 1 by simp] at this
    exact this
  have HR : Hid (MemAt (((w.alloc (.cells m.cells 37)).alloc (.cells #[.int .i64 8, .slice p ys.length cap] 40)).alloc (.cells zeroM.cells 37)) (w.heap.size + 1 + 1) zeroM) := by
    have := RowAt.new ((w.alloc (.cells m.cells 37)).alloc (.cells #[.int .i64 8, .slice p ys.length cap] 40)) 37 136 zeroM.cell
    rw [show (((w.alloc (.cells m.cells 37)).alloc (.cells #[.int .i64 8, .slice p ys.length cap] 40))).heap.size = w.heap.size + 1 + 1 by simp] at this
    exact this
  generalize (((w.alloc (.cells m.cells 37)).alloc (.cells #[.int .i64 8, .slice p ys.length cap] 40)).alloc (.cells zeroM.cells 37)) = V at *
  clear hz
  have hlt : w.heap.size + 1 + 1 < V.heap.size := HR.out.lt
  refine test_region (m := m) (m' := m') (P := P) (TD := 92) (dv := .agg #[.int .i64 (x 0), .int .i64 (x 1), .int .i64 (x 2), .int .i64 (x 3), .int .i64 (x 4), .int .i64 (x 5), .int .i64 (x 6), .int .i64 (x 7), .int .i64 (x 8), .int .i64 4]) (fm := 87) (r := .agg #[.int .i64 (x 0), .int .i64 (x 1), .int .i64 (x 2), .int .i64 (x 3), .int .i64 (x 4), .int .i64 (x 5), .int .i64 (x 6), .int .i64 (x 7), .int .i64 (x 8), .int .i64 4]) Tryz.call18 Tryz.call87 (fun _ => by kernel_rfl) HI.out (range2V HE.out.1.1 HE.out.1.2) (by omega) HR.out (by omega) (by omega) (fun W hW => HP.out W (HB.out.trans (hW.mono HB.out.size))) (fun W hW => H2'.out W (HB.out.trans (hW.mono HB.out.size))) ?_
  intro b w3 hP HM3 hb3
  go_wp2_with fail
  exact bodyPost_ret (resMB Tryz.results5 rfl rfl HM3) rfl ⟨b, rfl, hP, hb3 _ _ HB.out (by omega) HB.out.size⟩

set_option maxHeartbeats 1000000 in
set_option maxRecDepth 100000 in
theorem test_9 {P : Bool → Prop} {m m' : Mm} (p : Option Addr) (cap : Nat) (ys : List Ar) (w : World) (h : ArgsIs w p ys) (hT : DevTab w)
    (H2 : ∀ W, DevTab W → Calls Tryz.prog 87 #[.agg #[.int .i64 (nine ys 0), .int .i64 (nine ys 1), .int .i64 (nine ys 2), .int .i64 (nine ys 3), .int .i64 (nine ys 4), .int .i64 (nine ys 5), .int .i64 (nine ys 6), .int .i64 (nine ys 7), .int .i64 (nine ys 8), .int .i64 5], m.val] W fun e w' => ∃ b, e = .returned (.tuple #[m'.val, .bool b]) ∧ P b ∧ Below W.heap.size W w') :
    Calls Tryz.prog 5 #[m.val, elemV 9 p ys.length cap] w fun e w' => ∃ b, e = .returned (.tuple #[m'.val, .bool b]) ∧ P b ∧ Below w.heap.size w w' := by
  have hz : ∀ w, (zeroValue 37).run Tryz.prog w = .ok (.agg zeroM.cells) w := fun _ => by kernel_rfl
  have HP : Hid (∀ W, Below w.heap.size w W → Calls Tryz.prog 18 #[elemV 9 p ys.length cap] W fun e w' => e = .returned (.iface 92 (.agg #[.int .i64 (nine ys 0), .int .i64 (nine ys 1), .int .i64 (nine ys 2), .int .i64 (nine ys 3), .int .i64 (nine ys 4), .int .i64 (nine ys 5), .int .i64 (nine ys 6), .int .i64 (nine ys 7), .int .i64 (nine ys 8), .int .i64 5])) ∧ Below W.heap.size W w') := fun W hW => partOf_9 p cap ys W (h.to hW)
  have H2' : Hid (∀ W, Below w.heap.size w W → Calls Tryz.prog 87 #[.agg #[.int .i64 (nine ys 0), .int .i64 (nine ys 1), .int .i64 (nine ys 2), .int .i64 (nine ys 3), .int .i64 (nine ys 4), .int .i64 (nine ys 5), .int .i64 (nine ys 6), .int .i64 (nine ys 7), .int .i64 (nine ys 8), .int .i64 5], m.val] W fun e w' => ∃ v, e = .returned v ∧ (∃ b, v = .tuple #[m'.val, .bool b] ∧ P b) ∧ Below W.heap.size W w') := fun W hW => (H2 W (hT.to hW)).mono (by rintro e w' ⟨b, rfl, hP, hb⟩; exact ⟨_, rfl, ⟨b, rfl, hP⟩, hb⟩)
  clear h hT H2
  generalize nine ys = x at *
  have hu : m.val = .agg m.cells := rfl
  rw [hu]
  clear hu
  go_enter Tryz.func5, Tryz.ntmps5
  go_upto_region 1 with fail
  have HB : Hid (Below w.heap.size w (((w.alloc (.cells m.cells 37)).alloc (.cells #[.int .i64 9, .slice p ys.length cap] 40)).alloc (.cells zeroM.cells 37))) := (((Below.refl _ _).alloc (Nat.le_refl _) _).alloc (by simp) _).alloc (by simp; omega) _
  have HI : Hid (MemAt (((w.alloc (.cells m.cells 37)).alloc (.cells #[.int .i64 9, .slice p ys.length cap] 40)).alloc (.cells zeroM.cells 37)) w.heap.size m) := ((RowAt.new w 37 136 m.cell).alloc _).alloc _
  have HE : Hid (Own2 (((w.alloc (.cells m.cells 37)).alloc (.cells #[.int .i64 9, .slice p ys.length cap] 40)).alloc (.cells zeroM.cells 37)) (w.heap.size + 1) (.int .i64 9) (.slice p ys.length cap)) := by
    have := (Own2.new (w.alloc (.cells m.cells 37)) (.int .i64 9) (.slice p ys.length cap)).alloc (.cells zeroM.cells 37)
    rw [show ((w.alloc (.cells m.cells 37))).heap.size = w.heap.size + 1 by simp] at this
    exact this
  have HR : Hid (MemAt (((w.alloc (.cells m.cells 37)).alloc (.cells #[.int .i64 9, .slice p ys.length cap] 40)).alloc (.cells zeroM.cells 37)) (w.heap.size + 1 + 1) zeroM) := by
    have := RowAt.new ((w.alloc (.cells m.cells 37)).alloc (.cells #[.int .i64 9, .slice p ys.length cap] 40)) 37 136 zeroM.cell
    rw [show (((w.alloc (.cells m.cells 37)).alloc (.cells #[.int .i64 9, .slice p ys.length cap] 40))).heap.size = w.heap.size + 1 + 1 by simp] at this
    exact this
  generalize (((w.alloc (.cells m.cells 37)).alloc (.cells #[.int .i64 9, .slice p ys.length cap] 40)).alloc (.cells zeroM.cells 37)) = V at *
  clear hz
  have hlt : w.heap.size + 1 + 1 < V.heap.size := HR.out.lt
  refine test_region (m := m) (m' := m') (P := P) (TD := 92) (dv := .agg #[.int .i64 (x 0), .int .i64 (x 1), .int .i64 (x 2), .int .i64 (x 3), .int .i64 (x 4), .int .i64 (x 5), .int .i64 (x 6), .int .i64 (x 7), .int .i64 (x 8), .int .i64 5]) (fm := 87) (r := .agg #[.int .i64 (x 0), .int .i64 (x 1), .int .i64 (x 2), .int .i64 (x 3), .int .i64 (x 4), .int .i64 (x 5), .int .i64 (x 6), .int .i64 (x 7), .int .i64 (x 8), .int .i64 5]) Tryz.call18 Tryz.call87 (fun _ => by kernel_rfl) HI.out (range2V HE.out.1.1 HE.out.1.2) (by omega) HR.out (by omega) (by omega) (fun W hW => HP.out W (HB.out.trans (hW.mono HB.out.size))) (fun W hW => H2'.out W (HB.out.trans (hW.mono HB.out.size))) ?_
  intro b w3 hP HM3 hb3
  go_wp2_with fail
  exact bodyPost_ret (resMB Tryz.results5 rfl rfl HM3) rfl ⟨b, rfl, hP, hb3 _ _ HB.out (by omega) HB.out.size⟩

set_option maxHeartbeats 1000000 in
set_option maxRecDepth 100000 in
theorem test_10 {P : Bool → Prop} {m m' : Mm} (p : Option Addr) (cap : Nat) (ys : List Ar) (w : World) (h : ArgsIs w p ys) (hT : DevTab w)
    (H2 : ∀ W, DevTab W → Calls Tryz.prog 87 #[.agg #[.int .i64 (nine ys 0), .int .i64 (nine ys 1), .int .i64 (nine ys 2), .int .i64 (nine ys 3), .int .i64 (nine ys 4), .int .i64 (nine ys 5), .int .i64 (nine ys 6), .int .i64 (nine ys 7), .int .i64 (nine ys 8), .int .i64 6], m.val] W fun e w' => ∃ b, e = .returned (.tuple #[m'.val, .bool b]) ∧ P b ∧ Below W.heap.size W w') :
    Calls Tryz.prog 5 #[m.val, elemV 10 p ys.length cap] w fun e w' => ∃ b, e = .returned (.tuple #[m'.val, .bool b]) ∧ P b ∧ Below w.heap.size w w' := by
  have hz : ∀ w, (zeroValue 37).run Tryz.prog w = .ok (.agg zeroM.cells) w := fun _ => by kernel_rfl
  have HP : Hid (∀ W, Below w.heap.size w W → Calls Tryz.prog 18 #[elemV 10 p ys.length cap] W fun e w' => e = .returned (.iface 92 (.agg #[.int .i64 (nine ys 0), .int .i64 (nine ys 1), .int .i64 (nine ys 2), .int .i64 (nine ys 3), .int .i64 (nine ys 4), .int .i64 (nine ys 5), .int .i64 (nine ys 6), .int .i64 (nine ys 7), .int .i64 (nine ys 8), .int .i64 6])) ∧ Below W.heap.size W w') := fun W hW => partOf_10 p cap ys W (h.to hW)
  have H2' : Hid (∀ W, Below w.heap.size w W → Calls Tryz.prog 87 #[.agg #[.int .i64 (nine ys 0), .int .i64 (nine ys 1), .int .i64 (nine ys 2), .int .i64 (nine ys 3), .int .i64 (nine ys 4), .int .i64 (nine ys 5), .int .i64 (nine ys 6), .int .i64 (nine ys 7), .int .i64 (nine ys 8), .int .i64 6], m.val] W fun e w' => ∃ v, e = .returned v ∧ (∃ b, v = .tuple #[m'.val, .bool b] ∧ P b) ∧ Below W.heap.size W w') := fun W hW => (H2 W (hT.to hW)).mono (by rintro e w' ⟨b, rfl, hP, hb⟩; exact ⟨_, rfl, ⟨b, rfl, hP⟩, hb⟩)
  clear h hT H2
  generalize nine ys = x at *
  have hu : m.val = .agg m.cells := rfl
  rw [hu]
  clear hu
  go_enter Tryz.func5, Tryz.ntmps5
  go_upto_region 1 with fail
  have HB : Hid (Below w.heap.size w (((w.alloc (.cells m.cells 37)).alloc (.cells #[.int .i64 10, .slice p ys.length cap] 40)).alloc (.cells zeroM.cells 37))) := (((Below.refl _ _).alloc (Nat.le_refl _) _).alloc (by simp) _).alloc (by simp; omega) _
  have HI : Hid (MemAt (((w.alloc (.cells m.cells 37)).alloc (.cells #[.int .i64 10, .slice p ys.length cap] 40)).alloc (.cells zeroM.cells 37)) w.heap.size m) := ((RowAt.new w 37 136 m.cell).alloc _).alloc _
  have HE : Hid (Own2 (((w.alloc (.cells m.cells 37)).alloc (.cells #[.int .i64 10, .slice p ys.length cap] 40)).alloc (.cells zeroM.cells 37)) (w.heap.size + 1) (.int .i64 10) (.slice p ys.length cap)) := by
    have := (Own2.new (w.alloc (.cells m.cells 37)) (.int .i64 10) (.slice p ys.length cap)).alloc (.cells zeroM.cells 37)
    rw [show ((w.alloc (.cells m.cells 37))).heap.size = w.heap.size + 1 by simp] at this
    exact this
  have HR : Hid (MemAt (((w.alloc (.cells m.cells 37)).alloc (.cells #[.int .i64 10, .slice p ys.length cap] 40)).alloc (.cells zeroM.cells 37)) (w.heap.size + 1 + 1) zeroM) := by
    have := RowAt.new ((w.alloc (.cells m.cells 37)).alloc (.cells #[.int .i64 10, .slice p ys.length cap] 40)) 37 136 zeroM.cell
    rw [show (((w.alloc (.cells m.cells 37)).alloc (.cells #[.int .i64 10, .slice p ys.length cap] 40))).heap.size = w.heap.size + 1 + 1 by simp] at this
    exact this
  generalize (((w.alloc (.cells m.cells 37)).alloc (.cells #[.int .i64 10, .slice p ys.length cap] 40)).alloc (.cells zeroM.cells 37)) = V at *
  clear hz
  have hlt : w.heap.size + 1 + 1 < V.heap.size := HR.out.lt
  refine test_region (m := m) (m' := m') (P := P) (TD := 92) (dv := .agg #[.int .i64 (x 0), .int .i64 (x 1), .int .i64 (x 2), .int .i64 (x 3), .int .i64 (x 4), .int .i64 (x 5), .int .i64 (x 6), .int .i64 (x 7), .int .i64 (x 8), .int .i64 6]) (fm := 87) (r := .agg #[.int .i64 (x 0), .int .i64 (x 1), .int .i64 (x 2), .int .i64 (x 3), .int .i64 (x 4), .int .i64 (x 5), .int .i64 (x 6), .int .i64 (x 7), .int .i64 (x 8), .int .i64 6]) Tryz.call18 Tryz.call87 (fun _ => by kernel_rfl) HI.out (range2V HE.out.1.1 HE.out.1.2) (by omega) HR.out (by omega) (by omega) (fun W hW => HP.out W (HB.out.trans (hW.mono HB.out.size))) (fun W hW => H2'.out W (HB.out.trans (hW.mono HB.out.size))) ?_
  intro b w3 hP HM3 hb3
  go_wp2_with fail
  exact bodyPost_ret (resMB Tryz.results5 rfl rfl HM3) rfl ⟨b, rfl, hP, hb3 _ _ HB.out (by omega) HB.out.size⟩

end Go.Proofs.YtmgjngihngddfaaGreatDoor
