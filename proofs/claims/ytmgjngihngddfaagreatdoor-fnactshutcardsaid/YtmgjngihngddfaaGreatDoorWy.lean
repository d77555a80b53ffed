/- The program's ActTest, on: coils. Helper text: no statement is claimed here. -/
import Derived.Test.YtmgjngihngddfaaGreatDoorVz
namespace Go.Proofs.YtmgjngihngddfaaGreatDoor
open Go.ChangeShapes Go.WideShapes Go.ChangeAt Go.RowKit Fl

set_option maxHeartbeats 1000000 in
set_option maxRecDepth 100000 in
theorem test_21 {P : Bool → Prop} {m m' : Mm} (p : Option Addr) (cap : Nat) (ys : List Ar) (w : World) (h : ArgsIs w p ys) (hT : DevTab w)
    (H2 : ∀ W, DevTab W → Calls Tryz.prog 80 #[lit9 (nine ys), m.val] W fun e w' => ∃ b, e = .returned (.tuple #[m'.val, .bool b]) ∧ P b ∧ Below W.heap.size W w') :
    Calls Tryz.prog 5 #[m.val, elemV 21 p ys.length cap] w fun e w' => ∃ b, e = .returned (.tuple #[m'.val, .bool b]) ∧ P b ∧ Below w.heap.size w w' := by
  have hz : ∀ w, (zeroValue 37).run Tryz.prog w = .ok (.agg zeroM.cells) w := fun _ => by kernel_rfl
  have HP : Hid (∀ W, Below w.heap.size w W → Calls Tryz.prog 18 #[elemV 21 p ys.length cap] W fun e w' => e = .returned (.iface 93 (lit9 (nine ys))) ∧ Below W.heap.size W w') := fun W hW => partOf_21 p cap ys W (h.to hW)
  have H2' : Hid (∀ W, Below w.heap.size w W → Calls Tryz.prog 80 #[lit9 (nine ys), m.val] W fun e w' => ∃ v, e = .returned v ∧ (∃ b, v = .tuple #[m'.val, .bool b] ∧ P b) ∧ Below W.heap.size W w') := fun W hW => (H2 W (hT.to hW)).mono (by rintro e w' ⟨b, rfl, hP, hb⟩; exact ⟨_, rfl, ⟨b, rfl, hP⟩, hb⟩)
  clear h hT H2
  generalize nine ys = x at *
  have hu : m.val = .agg m.cells := rfl
  rw [hu]
  clear hu
  go_enter Tryz.func5, Tryz.ntmps5
  go_upto_region 1 with fail
  have HB : Hid (Below w.heap.size w (((w.alloc (.cells m.cells 37)).alloc (.cells #[.int .i64 21, .slice p ys.length cap] 40)).alloc (.cells zeroM.cells 37))) := (((Below.refl _ _).alloc (Nat.le_refl _) _).alloc (by simp) _).alloc (by simp; omega) _
  have HI : Hid (MemAt (((w.alloc (.cells m.cells 37)).alloc (.cells #[.int .i64 21, .slice p ys.length cap] 40)).alloc (.cells zeroM.cells 37)) w.heap.size m) := ((RowAt.new w 37 136 m.cell).alloc _).alloc _
  have HE : Hid (Own2 (((w.alloc (.cells m.cells 37)).alloc (.cells #[.int .i64 21, .slice p ys.length cap] 40)).alloc (.cells zeroM.cells 37)) (w.heap.size + 1) (.int .i64 21) (.slice p ys.length cap)) := by
    have := (Own2.new (w.alloc (.cells m.cells 37)) (.int .i64 21) (.slice p ys.length cap)).alloc (.cells zeroM.cells 37)
    rw [show ((w.alloc (.cells m.cells 37))).heap.size = w.heap.size + 1 by simp] at this
    exact this
  have HR : Hid (MemAt (((w.alloc (.cells m.cells 37)).alloc (.cells #[.int .i64 21, .slice p ys.length cap] 40)).alloc (.cells zeroM.cells 37)) (w.heap.size + 1 + 1) zeroM) := by
    have := RowAt.new ((w.alloc (.cells m.cells 37)).alloc (.cells #[.int .i64 21, .slice p ys.length cap] 40)) 37 136 zeroM.cell
    rw [show (((w.alloc (.cells m.cells 37)).alloc (.cells #[.int .i64 21, .slice p ys.length cap] 40))).heap.size = w.heap.size + 1 + 1 by simp] at this
    exact this
  generalize (((w.alloc (.cells m.cells 37)).alloc (.cells #[.int .i64 21, .slice p ys.length cap] 40)).alloc (.cells zeroM.cells 37)) = V at *
  clear hz
  have hlt : w.heap.size + 1 + 1 < V.heap.size := HR.out.lt
  refine test_region (m := m) (m' := m') (P := P) (TD := 93) (dv := lit9 x) (fm := 80) (r := lit9 x) Tryz.call18 Tryz.call80 (fun _ => by kernel_rfl) HI.out (range2V HE.out.1.1 HE.out.1.2) (by omega) HR.out (by omega) (by omega) (fun W hW => HP.out W (HB.out.trans (hW.mono HB.out.size))) (fun W hW => H2'.out W (HB.out.trans (hW.mono HB.out.size))) ?_
  intro b w3 hP HM3 hb3
  go_wp2_with fail
  exact bodyPost_ret (resMB Tryz.results5 rfl rfl HM3) rfl ⟨b, rfl, hP, hb3 _ _ HB.out (by omega) HB.out.size⟩

set_option maxHeartbeats 1000000 in
set_option maxRecDepth 100000 in
theorem test_24 {P : Bool → Prop} {m m' : Mm} (p : Option Addr) (cap : Nat) (ys : List Ar) (w : World) (h : ArgsIs w p ys) (hT : DevTab w)
    (H2 : ∀ W, DevTab W → Calls Tryz.prog 80 #[lit9 (nine ys), m.val] W fun e w' => ∃ b, e = .returned (.tuple #[m'.val, .bool b]) ∧ P b ∧ Below W.heap.size W w') :
    Calls Tryz.prog 5 #[m.val, elemV 24 p ys.length cap] w fun e w' => ∃ b, e = .returned (.tuple #[m'.val, .bool b]) ∧ P b ∧ Below w.heap.size w w' := by
  have hz : ∀ w, (zeroValue 37).run Tryz.prog w = .ok (.agg zeroM.cells) w := fun _ => by kernel_rfl
  have HP : Hid (∀ W, Below w.heap.size w W → Calls Tryz.prog 18 #[elemV 24 p ys.length cap] W fun e w' => e = .returned (.iface 94 (lit9 (nine ys))) ∧ Below W.heap.size W w') := fun W hW => partOf_24 p cap ys W (h.to hW)
  have H2' : Hid (∀ W, Below w.heap.size w W → Calls Tryz.prog 80 #[lit9 (nine ys), m.val] W fun e w' => ∃ v, e = .returned v ∧ (∃ b, v = .tuple #[m'.val, .bool b] ∧ P b) ∧ Below W.heap.size W w') := fun W hW => (H2 W (hT.to hW)).mono (by rintro e w' ⟨b, rfl, hP, hb⟩; exact ⟨_, rfl, ⟨b, rfl, hP⟩, hb⟩)
  clear h hT H2
  generalize nine ys = x at *
  have hu : m.val = .agg m.cells := rfl
  rw [hu]
  clear hu
  go_enter Tryz.func5, Tryz.ntmps5
  go_upto_region 1 with fail
  have HB : Hid (Below w.heap.size w (((w.alloc (.cells m.cells 37)).alloc (.cells #[.int .i64 24, .slice p ys.length cap] 40)).alloc (.cells zeroM.cells 37))) := (((Below.refl _ _).alloc (Nat.le_refl _) _).alloc (by simp) _).alloc (by simp; omega) _
  have HI : Hid (MemAt (((w.alloc (.cells m.cells 37)).alloc (.cells #[.int .i64 24, .slice p ys.length cap] 40)).alloc (.cells zeroM.cells 37)) w.heap.size m) := ((RowAt.new w 37 136 m.cell).alloc _).alloc _
  have HE : Hid (Own2 (((w.alloc (.cells m.cells 37)).alloc (.cells #[.int .i64 24, .slice p ys.length cap] 40)).alloc (.cells zeroM.cells 37)) (w.heap.size + 1) (.int .i64 24) (.slice p ys.length cap)) := by
    have := (Own2.new (w.alloc (.cells m.cells 37)) (.int .i64 24) (.slice p ys.length cap)).alloc (.cells zeroM.cells 37)
    rw [show ((w.alloc (.cells m.cells 37))).heap.size = w.heap.size + 1 by simp] at this
    exact this
  have HR : Hid (MemAt (((w.alloc (.cells m.cells 37)).alloc (.cells #[.int .i64 24, .slice p ys.length cap] 40)).alloc (.cells zeroM.cells 37)) (w.heap.size + 1 + 1) zeroM) := by
    have := RowAt.new ((w.alloc (.cells m.cells 37)).alloc (.cells #[.int .i64 24, .slice p ys.length cap] 40)) 37 136 zeroM.cell
    rw [show (((w.alloc (.cells m.cells 37)).alloc (.cells #[.int .i64 24, .slice p ys.length cap] 40))).heap.size = w.heap.size + 1 + 1 by simp] at this
    exact this
  generalize (((w.alloc (.cells m.cells 37)).alloc (.cells #[.int .i64 24, .slice p ys.length cap] 40)).alloc (.cells zeroM.cells 37)) = V at *
  clear hz
  have hlt : w.heap.size + 1 + 1 < V.heap.size := HR.out.lt
  refine test_region (m := m) (m' := m') (P := P) (TD := 94) (dv := lit9 x) (fm := 80) (r := lit9 x) Tryz.call18 Tryz.call80 (fun _ => by kernel_rfl) HI.out (range2V HE.out.1.1 HE.out.1.2) (by omega) HR.out (by omega) (by omega) (fun W hW => HP.out W (HB.out.trans (hW.mono HB.out.size))) (fun W hW => H2'.out W (HB.out.trans (hW.mono HB.out.size))) ?_
  intro b w3 hP HM3 hb3
  go_wp2_with fail
  exact bodyPost_ret (resMB Tryz.results5 rfl rfl HM3) rfl ⟨b, rfl, hP, hb3 _ _ HB.out (by omega) HB.out.size⟩

set_option maxHeartbeats 1000000 in
set_option maxRecDepth 100000 in
theorem test_26 {P : Bool → Prop} {m m' : Mm} (p : Option Addr) (cap : Nat) (ys : List Ar) (w : World) (h : ArgsIs w p ys) (hT : DevTab w)
    (H2 : ∀ W, DevTab W → Calls Tryz.prog 80 #[lit9 (nine ys), m.val] W fun e w' => ∃ b, e = .returned (.tuple #[m'.val, .bool b]) ∧ P b ∧ Below W.heap.size W w') :
    Calls Tryz.prog 5 #[m.val, elemV 26 p ys.length cap] w fun e w' => ∃ b, e = .returned (.tuple #[m'.val, .bool b]) ∧ P b ∧ Below w.heap.size w w' := by
  have hz : ∀ w, (zeroValue 37).run Tryz.prog w = .ok (.agg zeroM.cells) w := fun _ => by kernel_rfl
  have HP : Hid (∀ W, Below w.heap.size w W → Calls Tryz.prog 18 #[elemV 26 p ys.length cap] W fun e w' => e = .returned (.iface 95 (lit9 (nine ys))) ∧ Below W.heap.size W w') := fun W hW => partOf_26 p cap ys W (h.to hW)
  have H2' : Hid (∀ W, Below w.heap.size w W → Calls Tryz.prog 80 #[lit9 (nine ys), m.val] W fun e w' => ∃ v, e = .returned v ∧ (∃ b, v = .tuple #[m'.val, .bool b] ∧ P b) ∧ Below W.heap.size W w') := fun W hW => (H2 W (hT.to hW)).mono (by rintro e w' ⟨b, rfl, hP, hb⟩; exact ⟨_, rfl, ⟨b, rfl, hP⟩, hb⟩)
  clear h hT H2
  generalize nine ys = x at *
  have hu : m.val = .agg m.cells := rfl
  rw [hu]
  clear hu
  go_enter Tryz.func5, Tryz.ntmps5
  go_upto_region 1 with fail
  have HB : Hid (Below w.heap.size w (((w.alloc (.cells m.cells 37)).alloc (.cells #[.int .i64 26, .slice p ys.length cap] 40)).alloc (.cells zeroM.cells 37))) := (((Below.refl _ _).alloc (Nat.le_refl _) _).alloc (by simp) _).alloc (by simp; omega) _
  have HI : Hid (MemAt (((w.alloc (.cells m.cells 37)).alloc (.cells #[.int .i64 26, .slice p ys.length cap] 40)).alloc (.cells zeroM.cells 37)) w.heap.size m) := ((RowAt.new w 37 136 m.cell).alloc _).alloc _
  have HE : Hid (Own2 (((w.alloc (.cells m.cells 37)).alloc (.cells #[.int .i64 26, .slice p ys.length cap] 40)).alloc (.cells zeroM.cells 37)) (w.heap.size + 1) (.int .i64 26) (.slice p ys.length cap)) := by
    have := (Own2.new (w.alloc (.cells m.cells 37)) (.int .i64 26) (.slice p ys.length cap)).alloc (.cells zeroM.cells 37)
    rw [show ((w.alloc (.cells m.cells 37))).heap.size = w.heap.size + 1 by simp] at this
    exact this
  have HR : Hid (MemAt (((w.alloc (.cells m.cells 37)).alloc (.cells #[.int .i64 26, .slice p ys.length cap] 40)).alloc (.cells zeroM.cells 37)) (w.heap.size + 1 + 1) zeroM) := by
    have := RowAt.new ((w.alloc (.cells m.cells 37)).alloc (.cells #[.int .i64 26, .slice p ys.length cap] 40)) 37 136 zeroM.cell
    rw [show (((w.alloc (.cells m.cells 37)).alloc (.cells #[.int .i64 26, .slice p ys.length cap] 40))).heap.size = w.heap.size + 1 + 1 by simp] at this
    exact this
  generalize (((w.alloc (.cells m.cells 37)).alloc (.cells #[.int .i64 26, .slice p ys.length cap] 40)).alloc (.cells zeroM.cells 37)) = V at *
  clear hz
  have hlt : w.heap.size + 1 + 1 < V.heap.size := HR.out.lt
  refine test_region (m := m) (m' := m') (P := P) (TD := 95) (dv := lit9 x) (fm := 80) (r := lit9 x) Tryz.call18 Tryz.call80 (fun _ => by kernel_rfl) HI.out (range2V HE.out.1.1 HE.out.1.2) (by omega) HR.out (by omega) (by omega) (fun W hW => HP.out W (HB.out.trans (hW.mono HB.out.size))) (fun W hW => H2'.out W (HB.out.trans (hW.mono HB.out.size))) ?_
  intro b w3 hP HM3 hb3
  go_wp2_with fail
  exact bodyPost_ret (resMB Tryz.results5 rfl rfl HM3) rfl ⟨b, rfl, hP, hb3 _ _ HB.out (by omega) HB.out.size⟩

set_option maxHeartbeats 1000000 in
set_option maxRecDepth 100000 in
theorem test_28 {P : Bool → Prop} {m m' : Mm} (p : Option Addr) (cap : Nat) (ys : List Ar) (w : World) (h : ArgsIs w p ys) (hT : DevTab w)
    (H2 : ∀ W, DevTab W → Calls Tryz.prog 80 #[lit9 (nine ys), m.val] W fun e w' => ∃ b, e = .returned (.tuple #[m'.val, .bool b]) ∧ P b ∧ Below W.heap.size W w') :
    Calls Tryz.prog 5 #[m.val, elemV 28 p ys.length cap] w fun e w' => ∃ b, e = .returned (.tuple #[m'.val, .bool b]) ∧ P b ∧ Below w.heap.size w w' := by
  have hz : ∀ w, (zeroValue 37).run Tryz.prog w = .ok (.agg zeroM.cells) w := fun _ => by kernel_rfl
  have HP : Hid (∀ W, Below w.heap.size w W → Calls Tryz.prog 18 #[elemV 28 p ys.length cap] W fun e w' => e = .returned (.iface 96 (lit9 (nine ys))) ∧ Below W.heap.size W w') := fun W hW => partOf_28 p cap ys W (h.to hW)
  have H2' : Hid (∀ W, Below w.heap.size w W → Calls Tryz.prog 80 #[lit9 (nine ys), m.val] W fun e w' => ∃ v, e = .returned v ∧ (∃ b, v = .tuple #[m'.val, .bool b] ∧ P b) ∧ Below W.heap.size W w') := fun W hW => (H2 W (hT.to hW)).mono (by rintro e w' ⟨b, rfl, hP, hb⟩; exact ⟨_, rfl, ⟨b, rfl, hP⟩, hb⟩)
  clear h hT H2
  generalize nine ys = x at *
  have hu : m.val = .agg m.cells := rfl
  rw [hu]
  clear hu
  go_enter Tryz.func5, Tryz.ntmps5
  go_upto_region 1 with fail
  have HB : Hid (Below w.heap.size w (((w.alloc (.cells m.cells 37)).alloc (.cells #[.int .i64 28, .slice p ys.length cap] 40)).alloc (.cells zeroM.cells 37))) := (((Below.refl _ _).alloc (Nat.le_refl _) _).alloc (by simp) _).alloc (by simp; omega) _
  have HI : Hid (MemAt (((w.alloc (.cells m.cells 37)).alloc (.cells #[.int .i64 28, .slice p ys.length cap] 40)).alloc (.cells zeroM.cells 37)) w.heap.size m) := ((RowAt.new w 37 136 m.cell).alloc _).alloc _
  have HE : Hid (Own2 (((w.alloc (.cells m.cells 37)).alloc (.cells #[.int .i64 28, .slice p ys.length cap] 40)).alloc (.cells zeroM.cells 37)) (w.heap.size + 1) (.int .i64 28) (.slice p ys.length cap)) := by
    have := (Own2.new (w.alloc (.cells m.cells 37)) (.int .i64 28) (.slice p ys.length cap)).alloc (.cells zeroM.cells 37)
    rw [show ((w.alloc (.cells m.cells 37))).heap.size = w.heap.size + 1 by simp] at this
    exact this
  have HR : Hid (MemAt (((w.alloc (.cells m.cells 37)).alloc (.cells #[.int .i64 28, .slice p ys.length cap] 40)).alloc (.cells zeroM.cells 37)) (w.heap.size + 1 + 1) zeroM) := by
    have := RowAt.new ((w.alloc (.cells m.cells 37)).alloc (.cells #[.int .i64 28, .slice p ys.length cap] 40)) 37 136 zeroM.cell
    rw [show (((w.alloc (.cells m.cells 37)).alloc (.cells #[.int .i64 28, .slice p ys.length cap] 40))).heap.size = w.heap.size + 1 + 1 by simp] at this
    exact this
  generalize (((w.alloc (.cells m.cells 37)).alloc (.cells #[.int .i64 28, .slice p ys.length cap] 40)).alloc (.cells zeroM.cells 37)) = V at *
  clear hz
  have hlt : w.heap.size + 1 + 1 < V.heap.size := HR.out.lt
  refine test_region (m := m) (m' := m') (P := P) (TD := 96) (dv := lit9 x) (fm := 80) (r := lit9 x) Tryz.call18 Tryz.call80 (fun _ => by kernel_rfl) HI.out (range2V HE.out.1.1 HE.out.1.2) (by omega) HR.out (by omega) (by omega) (fun W hW => HP.out W (HB.out.trans (hW.mono HB.out.size))) (fun W hW => H2'.out W (HB.out.trans (hW.mono HB.out.size))) ?_
  intro b w3 hP HM3 hb3
  go_wp2_with fail
  exact bodyPost_ret (resMB Tryz.results5 rfl rfl HM3) rfl ⟨b, rfl, hP, hb3 _ _ HB.out (by omega) HB.out.size⟩

set_option maxHeartbeats 1000000 in
set_option maxRecDepth 100000 in
theorem test_29 {P : Bool → Prop} {m m' : Mm} (p : Option Addr) (cap : Nat) (ys : List Ar) (w : World) (h : ArgsIs w p ys) (hT : DevTab w)
    (H2 : ∀ W, DevTab W → Calls Tryz.prog 80 #[lit9 (nine ys), m.val] W fun e w' => ∃ b, e = .returned (.tuple #[m'.val, .bool b]) ∧ P b ∧ Below W.heap.size W w') :
    Calls Tryz.prog 5 #[m.val, elemV 29 p ys.length cap] w fun e w' => ∃ b, e = .returned (.tuple #[m'.val, .bool b]) ∧ P b ∧ Below w.heap.size w w' := by
  have hz : ∀ w, (zeroValue 37).run Tryz.prog w = .ok (.agg zeroM.cells) w := fun _ => by kernel_rfl
  have HP : Hid (∀ W, Below w.heap.size w W → Calls Tryz.prog 18 #[elemV 29 p ys.length cap] W fun e w' => e = .returned (.iface 97 (lit9 (nine ys))) ∧ Below W.heap.size W w') := fun W hW => partOf_29 p cap ys W (h.to hW)
  have H2' : Hid (∀ W, Below w.heap.size w W → Calls Tryz.prog 80 #[lit9 (nine ys), m.val] W fun e w' => ∃ v, e = .returned v ∧ (∃ b, v = .tuple #[m'.val, .bool b] ∧ P b) ∧ Below W.heap.size W w') := fun W hW => (H2 W (hT.to hW)).mono (by rintro e w' ⟨b, rfl, hP, hb⟩; exact ⟨_, rfl, ⟨b, rfl, hP⟩, hb⟩)
  clear h hT H2
  generalize nine ys = x at *
  have hu : m.val = .agg m.cells := rfl
  rw [hu]
  clear hu
  go_enter Tryz.func5, Tryz.ntmps5
  go_upto_region 1 with fail
  have HB : Hid (Below w.heap.size w (((w.alloc (.cells m.cells 37)).alloc (.cells #[.int .i64 29, .slice p ys.length cap] 40)).alloc (.cells zeroM.cells 37))) := (((Below.refl _ _).alloc (Nat.le_refl _) _).alloc (by simp) _).alloc (by simp; omega) _
  have HI : Hid (MemAt (((w.alloc (.cells m.cells 37)).alloc (.cells #[.int .i64 29, .slice p ys.length cap] 40)).alloc (.cells zeroM.cells 37)) w.heap.size m) := ((RowAt.new w 37 136 m.cell).alloc _).alloc _
  have HE : Hid (Own2 (((w.alloc (.cells m.cells 37)).alloc (.cells #[.int .i64 29, .slice p ys.length cap] 40)).alloc (.cells zeroM.cells 37)) (w.heap.size + 1) (.int .i64 29) (.slice p ys.length cap)) := by
    have := (Own2.new (w.alloc (.cells m.cells 37)) (.int .i64 29) (.slice p ys.length cap)).alloc (.cells zeroM.cells 37)
    rw [show ((w.alloc (.cells m.cells 37))).heap.size = w.heap.size + 1 by simp] at this
    exact this
  have HR : Hid (MemAt (((w.alloc (.cells m.cells 37)).alloc (.cells #[.int .i64 29, .slice p ys.length cap] 40)).alloc (.cells zeroM.cells 37)) (w.heap.size + 1 + 1) zeroM) := by
    have := RowAt.new ((w.alloc (.cells m.cells 37)).alloc (.cells #[.int .i64 29, .slice p ys.length cap] 40)) 37 136 zeroM.cell
    rw [show (((w.alloc (.cells m.cells 37)).alloc (.cells #[.int .i64 29, .slice p ys.length cap] 40))).heap.size = w.heap.size + 1 + 1 by simp] at this
    exact this
  generalize (((w.alloc (.cells m.cells 37)).alloc (.cells #[.int .i64 29, .slice p ys.length cap] 40)).alloc (.cells zeroM.cells 37)) = V at *
  clear hz
  have hlt : w.heap.size + 1 + 1 < V.heap.size := HR.out.lt
  refine test_region (m := m) (m' := m') (P := P) (TD := 97) (dv := lit9 x) (fm := 80) (r := lit9 x) Tryz.call18 Tryz.call80 (fun _ => by kernel_rfl) HI.out (range2V HE.out.1.1 HE.out.1.2) (by omega) HR.out (by omega) (by omega) (fun W hW => HP.out W (HB.out.trans (hW.mono HB.out.size))) (fun W hW => H2'.out W (HB.out.trans (hW.mono HB.out.size))) ?_
  intro b w3 hP HM3 hb3
  go_wp2_with fail
  exact bodyPost_ret (resMB Tryz.results5 rfl rfl HM3) rfl ⟨b, rfl, hP, hb3 _ _ HB.out (by omega) HB.out.size⟩

set_option maxHeartbeats 1000000 in
set_option maxRecDepth 100000 in
theorem test_d31 {P : Bool → Prop} {m m' : Mm} (p : Option Addr) (cap : Nat) (ys : List Ar) (w : World) (h : ArgsIs w p ys) (hT : DevTab w)
    (H2 : ∀ W, DevTab W → Calls Tryz.prog 80 #[lit9 (nine ys), m.val] W fun e w' => ∃ b, e = .returned (.tuple #[m'.val, .bool b]) ∧ P b ∧ Below W.heap.size W w') :
    Calls Tryz.prog 5 #[m.val, elemV 31 p ys.length cap] w fun e w' => ∃ b, e = .returned (.tuple #[m'.val, .bool b]) ∧ P b ∧ Below w.heap.size w w' := by
  have hz : ∀ w, (zeroValue 37).run Tryz.prog w = .ok (.agg zeroM.cells) w := fun _ => by kernel_rfl
  have HP : Hid (∀ W, Below w.heap.size w W → Calls Tryz.prog 18 #[elemV 31 p ys.length cap] W fun e w' => e = .returned (.iface 100 (.agg #[.iface 115 (.agg #[.int .i64 (nine ys 0), .int .i64 (nine ys 1), .int .i64 (nine ys 2), .int .i64 (nine ys 3), .int .i64 (nine ys 4), .int .i64 (nine ys 5), .int .i64 (nine ys 6), .int .i64 (nine ys 7), .int .i64 (nine ys 8), .int .i64 1])])) ∧ Below W.heap.size W w') := fun W hW => partOf_driven 31 (by decide) _ (fun x => .agg #[.int .i64 (x 0), .int .i64 (x 1), .int .i64 (x 2), .int .i64 (x 3), .int .i64 (x 4), .int .i64 (x 5), .int .i64 (x 6), .int .i64 (x 7), .int .i64 (x 8), .int .i64 1]) (fun x W => drivenOf_s31 x W) p cap ys W (h.to hW)
  have H2' : Hid (∀ W, Below w.heap.size w W → Calls Tryz.prog 80 #[lit9 (nine ys), m.val] W fun e w' => ∃ v, e = .returned v ∧ (∃ b, v = .tuple #[m'.val, .bool b] ∧ P b) ∧ Below W.heap.size W w') := fun W hW => (H2 W (hT.to hW)).mono (by rintro e w' ⟨b, rfl, hP, hb⟩; exact ⟨_, rfl, ⟨b, rfl, hP⟩, hb⟩)
  clear h hT H2
  generalize nine ys = x at *
  have hu : m.val = .agg m.cells := rfl
  rw [hu]
  clear hu
  go_enter Tryz.func5, Tryz.ntmps5
  go_upto_region 1 with fail
  have HB : Hid (Below w.heap.size w (((w.alloc (.cells m.cells 37)).alloc (.cells #[.int .i64 31, .slice p ys.length cap] 40)).alloc (.cells zeroM.cells 37))) := (((Below.refl _ _).alloc (Nat.le_refl _) _).alloc (by simp) _).alloc (by simp; omega) _
  have HI : Hid (MemAt (((w.alloc (.cells m.cells 37)).alloc (.cells #[.int .i64 31, .slice p ys.length cap] 40)).alloc (.cells zeroM.cells 37)) w.heap.size m) := ((RowAt.new w 37 136 m.cell).alloc _).alloc _
  have HE : Hid (Own2 (((w.alloc (.cells m.cells 37)).alloc (.cells #[.int .i64 31, .slice p ys.length cap] 40)).alloc (.cells zeroM.cells 37)) (w.heap.size + 1) (.int .i64 31) (.slice p ys.length cap)) := by
    have := (Own2.new (w.alloc (.cells m.cells 37)) (.int .i64 31) (.slice p ys.length cap)).alloc (.cells zeroM.cells 37)
    rw [show ((w.alloc (.cells m.cells 37))).heap.size = w.heap.size + 1 by simp] at this
    exact this
  have HR : Hid (MemAt (((w.alloc (.cells m.cells 37)).alloc (.cells #[.int .i64 31, .slice p ys.length cap] 40)).alloc (.cells zeroM.cells 37)) (w.heap.size + 1 + 1) zeroM) := by
    have := RowAt.new ((w.alloc (.cells m.cells 37)).alloc (.cells #[.int .i64 31, .slice p ys.length cap] 40)) 37 136 zeroM.cell
    rw [show (((w.alloc (.cells m.cells 37)).alloc (.cells #[.int .i64 31, .slice p ys.length cap] 40))).heap.size = w.heap.size + 1 + 1 by simp] at this
    exact this
  generalize (((w.alloc (.cells m.cells 37)).alloc (.cells #[.int .i64 31, .slice p ys.length cap] 40)).alloc (.cells zeroM.cells 37)) = V at *
  clear hz
  have hlt : w.heap.size + 1 + 1 < V.heap.size := HR.out.lt
  refine test_region (m := m) (m' := m') (P := P) (TD := 100) (dv := .agg #[.iface 115 (.agg #[.int .i64 (x 0), .int .i64 (x 1), .int .i64 (x 2), .int .i64 (x 3), .int .i64 (x 4), .int .i64 (x 5), .int .i64 (x 6), .int .i64 (x 7), .int .i64 (x 8), .int .i64 1])]) (fm := 80) (r := lit9 x) Tryz.call18 Tryz.call80 (fun _ => by kernel_rfl) HI.out (range2V HE.out.1.1 HE.out.1.2) (by omega) HR.out (by omega) (by omega) (fun W hW => HP.out W (HB.out.trans (hW.mono HB.out.size))) (fun W hW => H2'.out W (HB.out.trans (hW.mono HB.out.size))) ?_
  intro b w3 hP HM3 hb3
  go_wp2_with fail
  exact bodyPost_ret (resMB Tryz.results5 rfl rfl HM3) rfl ⟨b, rfl, hP, hb3 _ _ HB.out (by omega) HB.out.size⟩

set_option maxHeartbeats 1000000 in
set_option maxRecDepth 100000 in
theorem test_d32 {P : Bool → Prop} {m m' : Mm} (p : Option Addr) (cap : Nat) (ys : List Ar) (w : World) (h : ArgsIs w p ys) (hT : DevTab w)
    (H2 : ∀ W, DevTab W → Calls Tryz.prog 80 #[lit9 (nine ys), m.val] W fun e w' => ∃ b, e = .returned (.tuple #[m'.val, .bool b]) ∧ P b ∧ Below W.heap.size W w') :
    Calls Tryz.prog 5 #[m.val, elemV 32 p ys.length cap] w fun e w' => ∃ b, e = .returned (.tuple #[m'.val, .bool b]) ∧ P b ∧ Below w.heap.size w w' := by
  have hz : ∀ w, (zeroValue 37).run Tryz.prog w = .ok (.agg zeroM.cells) w := fun _ => by kernel_rfl
  have HP : Hid (∀ W, Below w.heap.size w W → Calls Tryz.prog 18 #[elemV 32 p ys.length cap] W fun e w' => e = .returned (.iface 100 (.agg #[.iface 115 (.agg #[.int .i64 (nine ys 0), .int .i64 (nine ys 1), .int .i64 (nine ys 2), .int .i64 (nine ys 3), .int .i64 (nine ys 4), .int .i64 (nine ys 5), .int .i64 (nine ys 6), .int .i64 (nine ys 7), .int .i64 (nine ys 8), .int .i64 2])])) ∧ Below W.heap.size W w') := fun W hW => partOf_driven 32 (by decide) _ (fun x => .agg #[.int .i64 (x 0), .int .i64 (x 1), .int .i64 (x 2), .int .i64 (x 3), .int .i64 (x 4), .int .i64 (x 5), .int .i64 (x 6), .int .i64 (x 7), .int .i64 (x 8), .int .i64 2]) (fun x W => drivenOf_s32 x W) p cap ys W (h.to hW)
  have H2' : Hid (∀ W, Below w.heap.size w W → Calls Tryz.prog 80 #[lit9 (nine ys), m.val] W fun e w' => ∃ v, e = .returned v ∧ (∃ b, v = .tuple #[m'.val, .bool b] ∧ P b) ∧ Below W.heap.size W w') := fun W hW => (H2 W (hT.to hW)).mono (by rintro e w' ⟨b, rfl, hP, hb⟩; exact ⟨_, rfl, ⟨b, rfl, hP⟩, hb⟩)
  clear h hT H2
  generalize nine ys = x at *
  have hu : m.val = .agg m.cells := rfl
  rw [hu]
  clear hu
  go_enter Tryz.func5, Tryz.ntmps5
  go_upto_region 1 with fail
  have HB : Hid (Below w.heap.size w (((w.alloc (.cells m.cells 37)).alloc (.cells #[.int .i64 32, .slice p ys.length cap] 40)).alloc (.cells zeroM.cells 37))) := (((Below.refl _ _).alloc (Nat.le_refl _) _).alloc (by simp) _).alloc (by simp; omega) _
  have HI : Hid (MemAt (((w.alloc (.cells m.cells 37)).alloc (.cells #[.int .i64 32, .slice p ys.length cap] 40)).alloc (.cells zeroM.cells 37)) w.heap.size m) := ((RowAt.new w 37 136 m.cell).alloc _).alloc _
  have HE : Hid (Own2 (((w.alloc (.cells m.cells 37)).alloc (.cells #[.int .i64 32, .slice p ys.length cap] 40)).alloc (.cells zeroM.cells 37)) (w.heap.size + 1) (.int .i64 32) (.slice p ys.length cap)) := by
    have := (Own2.new (w.alloc (.cells m.cells 37)) (.int .i64 32) (.slice p ys.length cap)).alloc (.cells zeroM.cells 37)
    rw [show ((w.alloc (.cells m.cells 37))).heap.size = w.heap.size + 1 by simp] at this
    exact this
  have HR : Hid (MemAt (((w.alloc (.cells m.cells 37)).alloc (.cells #[.int .i64 32, .slice p ys.length cap] 40)).alloc (.cells zeroM.cells 37)) (w.heap.size + 1 + 1) zeroM) := by
    have := RowAt.new ((w.alloc (.cells m.cells 37)).alloc (.cells #[.int .i64 32, .slice p ys.length cap] 40)) 37 136 zeroM.cell
    rw [show (((w.alloc (.cells m.cells 37)).alloc (.cells #[.int .i64 32, .slice p ys.length cap] 40))).heap.size = w.heap.size + 1 + 1 by simp] at this
    exact this
  generalize (((w.alloc (.cells m.cells 37)).alloc (.cells #[.int .i64 32, .slice p ys.length cap] 40)).alloc (.cells zeroM.cells 37)) = V at *
  clear hz
  have hlt : w.heap.size + 1 + 1 < V.heap.size := HR.out.lt
  refine test_region (m := m) (m' := m') (P := P) (TD := 100) (dv := .agg #[.iface 115 (.agg #[.int .i64 (x 0), .int .i64 (x 1), .int .i64 (x 2), .int .i64 (x 3), .int .i64 (x 4), .int .i64 (x 5), .int .i64 (x 6), .int .i64 (x 7), .int .i64 (x 8), .int .i64 2])]) (fm := 80) (r := lit9 x) Tryz.call18 Tryz.call80 (fun _ => by kernel_rfl) HI.out (range2V HE.out.1.1 HE.out.1.2) (by omega) HR.out (by omega) (by omega) (fun W hW => HP.out W (HB.out.trans (hW.mono HB.out.size))) (fun W hW => H2'.out W (HB.out.trans (hW.mono HB.out.size))) ?_
  intro b w3 hP HM3 hb3
  go_wp2_with fail
  exact bodyPost_ret (resMB Tryz.results5 rfl rfl HM3) rfl ⟨b, rfl, hP, hb3 _ _ HB.out (by omega) HB.out.size⟩

set_option maxHeartbeats 1000000 in
set_option maxRecDepth 100000 in
theorem test_d33 {P : Bool → Prop} {m m' : Mm} (p : Option Addr) (cap : Nat) (ys : List Ar) (w : World) (h : ArgsIs w p ys) (hT : DevTab w)
    (H2 : ∀ W, DevTab W → Calls Tryz.prog 80 #[lit9 (nine ys), m.val] W fun e w' => ∃ b, e = .returned (.tuple #[m'.val, .bool b]) ∧ P b ∧ Below W.heap.size W w') :
    Calls Tryz.prog 5 #[m.val, elemV 33 p ys.length cap] w fun e w' => ∃ b, e = .returned (.tuple #[m'.val, .bool b]) ∧ P b ∧ Below w.heap.size w w' := by
  have hz : ∀ w, (zeroValue 37).run Tryz.prog w = .ok (.agg zeroM.cells) w := fun _ => by kernel_rfl
  have HP : Hid (∀ W, Below w.heap.size w W → Calls Tryz.prog 18 #[elemV 33 p ys.length cap] W fun e w' => e = .returned (.iface 100 (.agg #[.iface 115 (.agg #[.int .i64 (nine ys 0), .int .i64 (nine ys 1), .int .i64 (nine ys 2), .int .i64 (nine ys 3), .int .i64 (nine ys 4), .int .i64 (nine ys 5), .int .i64 (nine ys 6), .int .i64 (nine ys 7), .int .i64 (nine ys 8), .int .i64 3])])) ∧ Below W.heap.size W w') := fun W hW => partOf_driven 33 (by decide) _ (fun x => .agg #[.int .i64 (x 0), .int .i64 (x 1), .int .i64 (x 2), .int .i64 (x 3), .int .i64 (x 4), .int .i64 (x 5), .int .i64 (x 6), .int .i64 (x 7), .int .i64 (x 8), .int .i64 3]) (fun x W => drivenOf_s33 x W) p cap ys W (h.to hW)
  have H2' : Hid (∀ W, Below w.heap.size w W → Calls Tryz.prog 80 #[lit9 (nine ys), m.val] W fun e w' => ∃ v, e = .returned v ∧ (∃ b, v = .tuple #[m'.val, .bool b] ∧ P b) ∧ Below W.heap.size W w') := fun W hW => (H2 W (hT.to hW)).mono (by rintro e w' ⟨b, rfl, hP, hb⟩; exact ⟨_, rfl, ⟨b, rfl, hP⟩, hb⟩)
  clear h hT H2
  generalize nine ys = x at *
  have hu : m.val = .agg m.cells := rfl
  rw [hu]
  clear hu
  go_enter Tryz.func5, Tryz.ntmps5
  go_upto_region 1 with fail
  have HB : Hid (Below w.heap.size w (((w.alloc (.cells m.cells 37)).alloc (.cells #[.int .i64 33, .slice p ys.length cap] 40)).alloc (.cells zeroM.cells 37))) := (((Below.refl _ _).alloc (Nat.le_refl _) _).alloc (by simp) _).alloc (by simp; omega) _
  have HI : Hid (MemAt (((w.alloc (.cells m.cells 37)).alloc (.cells #[.int .i64 33, .slice p ys.length cap] 40)).alloc (.cells zeroM.cells 37)) w.heap.size m) := ((RowAt.new w 37 136 m.cell).alloc _).alloc _
  have HE : Hid (Own2 (((w.alloc (.cells m.cells 37)).alloc (.cells #[.int .i64 33, .slice p ys.length cap] 40)).alloc (.cells zeroM.cells 37)) (w.heap.size + 1) (.int .i64 33) (.slice p ys.length cap)) := by
    have := (Own2.new (w.alloc (.cells m.cells 37)) (.int .i64 33) (.slice p ys.length cap)).alloc (.cells zeroM.cells 37)
    rw [show ((w.alloc (.cells m.cells 37))).heap.size = w.heap.size + 1 by simp] at this
    exact this
  have HR : Hid (MemAt (((w.alloc (.cells m.cells 37)).alloc (.cells #[.int .i64 33, .slice p ys.length cap] 40)).alloc (.cells zeroM.cells 37)) (w.heap.size + 1 + 1) zeroM) := by
    have := RowAt.new ((w.alloc (.cells m.cells 37)).alloc (.cells #[.int .i64 33, .slice p ys.length cap] 40)) 37 136 zeroM.cell
    rw [show (((w.alloc (.cells m.cells 37)).alloc (.cells #[.int .i64 33, .slice p ys.length cap] 40))).heap.size = w.heap.size + 1 + 1 by simp] at this
    exact this
  generalize (((w.alloc (.cells m.cells 37)).alloc (.cells #[.int .i64 33, .slice p ys.length cap] 40)).alloc (.cells zeroM.cells 37)) = V at *
  clear hz
  have hlt : w.heap.size + 1 + 1 < V.heap.size := HR.out.lt
  refine test_region (m := m) (m' := m') (P := P) (TD := 100) (dv := .agg #[.iface 115 (.agg #[.int .i64 (x 0), .int .i64 (x 1), .int .i64 (x 2), .int .i64 (x 3), .int .i64 (x 4), .int .i64 (x 5), .int .i64 (x 6), .int .i64 (x 7), .int .i64 (x 8), .int .i64 3])]) (fm := 80) (r := lit9 x) Tryz.call18 Tryz.call80 (fun _ => by kernel_rfl) HI.out (range2V HE.out.1.1 HE.out.1.2) (by omega) HR.out (by omega) (by omega) (fun W hW => HP.out W (HB.out.trans (hW.mono HB.out.size))) (fun W hW => H2'.out W (HB.out.trans (hW.mono HB.out.size))) ?_
  intro b w3 hP HM3 hb3
  go_wp2_with fail
  exact bodyPost_ret (resMB Tryz.results5 rfl rfl HM3) rfl ⟨b, rfl, hP, hb3 _ _ HB.out (by omega) HB.out.size⟩

set_option maxHeartbeats 1000000 in
set_option maxRecDepth 100000 in
theorem test_d34 {P : Bool → Prop} {m m' : Mm} (p : Option Addr) (cap : Nat) (ys : List Ar) (w : World) (h : ArgsIs w p ys) (hT : DevTab w)
    (H2 : ∀ W, DevTab W → Calls Tryz.prog 80 #[lit9 (nine ys), m.val] W fun e w' => ∃ b, e = .returned (.tuple #[m'.val, .bool b]) ∧ P b ∧ Below W.heap.size W w') :
    Calls Tryz.prog 5 #[m.val, elemV 34 p ys.length cap] w fun e w' => ∃ b, e = .returned (.tuple #[m'.val, .bool b]) ∧ P b ∧ Below w.heap.size w w' := by
  have hz : ∀ w, (zeroValue 37).run Tryz.prog w = .ok (.agg zeroM.cells) w := fun _ => by kernel_rfl
  have HP : Hid (∀ W, Below w.heap.size w W → Calls Tryz.prog 18 #[elemV 34 p ys.length cap] W fun e w' => e = .returned (.iface 100 (.agg #[.iface 115 (.agg #[.int .i64 (nine ys 0), .int .i64 (nine ys 1), .int .i64 (nine ys 2), .int .i64 (nine ys 3), .int .i64 (nine ys 4), .int .i64 (nine ys 5), .int .i64 (nine ys 6), .int .i64 (nine ys 7), .int .i64 (nine ys 8), .int .i64 4])])) ∧ Below W.heap.size W w') := fun W hW => partOf_driven 34 (by decide) _ (fun x => .agg #[.int .i64 (x 0), .int .i64 (x 1), .int .i64 (x 2), .int .i64 (x 3), .int .i64 (x 4), .int .i64 (x 5), .int .i64 (x 6), .int .i64 (x 7), .int .i64 (x 8), .int .i64 4]) (fun x W => drivenOf_s34 x W) p cap ys W (h.to hW)
  have H2' : Hid (∀ W, Below w.heap.size w W → Calls Tryz.prog 80 #[lit9 (nine ys), m.val] W fun e w' => ∃ v, e = .returned v ∧ (∃ b, v = .tuple #[m'.val, .bool b] ∧ P b) ∧ Below W.heap.size W w') := fun W hW => (H2 W (hT.to hW)).mono (by rintro e w' ⟨b, rfl, hP, hb⟩; exact ⟨_, rfl, ⟨b, rfl, hP⟩, hb⟩)
  clear h hT H2
  generalize nine ys = x at *
  have hu : m.val = .agg m.cells := rfl
  rw [hu]
  clear hu
  go_enter Tryz.func5, Tryz.ntmps5
  go_upto_region 1 with fail
  have HB : Hid (Below w.heap.size w (((w.alloc (.cells m.cells 37)).alloc (.cells #[.int .i64 34, .slice p ys.length cap] 40)).alloc (.cells zeroM.cells 37))) := (((Below.refl _ _).alloc (Nat.le_refl _) _).alloc (by simp) _).alloc (by simp; omega) _
  have HI : Hid (MemAt (((w.alloc (.cells m.cells 37)).alloc (.cells #[.int .i64 34, .slice p ys.length cap] 40)).alloc (.cells zeroM.cells 37)) w.heap.size m) := ((RowAt.new w 37 136 m.cell).alloc _).alloc _
  have HE : Hid (Own2 (((w.alloc (.cells m.cells 37)).alloc (.cells #[.int .i64 34, .slice p ys.length cap] 40)).alloc (.cells zeroM.cells 37)) (w.heap.size + 1) (.int .i64 34) (.slice p ys.length cap)) := by
    have := (Own2.new (w.alloc (.cells m.cells 37)) (.int .i64 34) (.slice p ys.length cap)).alloc (.cells zeroM.cells 37)
    rw [show ((w.alloc (.cells m.cells 37))).heap.size = w.heap.size + 1 by simp] at this
    exact this
  have HR : Hid (MemAt (((w.alloc (.cells m.cells 37)).alloc (.cells #[.int .i64 34, .slice p ys.length cap] 40)).alloc (.cells zeroM.cells 37)) (w.heap.size + 1 + 1) zeroM) := by
    have := RowAt.new ((w.alloc (.cells m.cells 37)).alloc (.cells #[.int .i64 34, .slice p ys.length cap] 40)) 37 136 zeroM.cell
    rw [show (((w.alloc (.cells m.cells 37)).alloc (.cells #[.int .i64 34, .slice p ys.length cap] 40))).heap.size = w.heap.size + 1 + 1 by simp] at this
    exact this
  generalize (((w.alloc (.cells m.cells 37)).alloc (.cells #[.int .i64 34, .slice p ys.length cap] 40)).alloc (.cells zeroM.cells 37)) = V at *
  clear hz
  have hlt : w.heap.size + 1 + 1 < V.heap.size := HR.out.lt
  refine test_region (m := m) (m' := m') (P := P) (TD := 100) (dv := .agg #[.iface 115 (.agg #[.int .i64 (x 0), .int .i64 (x 1), .int .i64 (x 2), .int .i64 (x 3), .int .i64 (x 4), .int .i64 (x 5), .int .i64 (x 6), .int .i64 (x 7), .int .i64 (x 8), .int .i64 4])]) (fm := 80) (r := lit9 x) Tryz.call18 Tryz.call80 (fun _ => by kernel_rfl) HI.out (range2V HE.out.1.1 HE.out.1.2) (by omega) HR.out (by omega) (by omega) (fun W hW => HP.out W (HB.out.trans (hW.mono HB.out.size))) (fun W hW => H2'.out W (HB.out.trans (hW.mono HB.out.size))) ?_
  intro b w3 hP HM3 hb3
  go_wp2_with fail
  exact bodyPost_ret (resMB Tryz.results5 rfl rfl HM3) rfl ⟨b, rfl, hP, hb3 _ _ HB.out (by omega) HB.out.size⟩

set_option maxHeartbeats 1000000 in
set_option maxRecDepth 100000 in
theorem test_d35 {P : Bool → Prop} {m m' : Mm} (p : Option Addr) (cap : Nat) (ys : List Ar) (w : World) (h : ArgsIs w p ys) (hT : DevTab w)
    (H2 : ∀ W, DevTab W → Calls Tryz.prog 80 #[lit9 (nine ys), m.val] W fun e w' => ∃ b, e = .returned (.tuple #[m'.val, .bool b]) ∧ P b ∧ Below W.heap.size W w') :
    Calls Tryz.prog 5 #[m.val, elemV 35 p ys.length cap] w fun e w' => ∃ b, e = .returned (.tuple #[m'.val, .bool b]) ∧ P b ∧ Below w.heap.size w w' := by
  have hz : ∀ w, (zeroValue 37).run Tryz.prog w = .ok (.agg zeroM.cells) w := fun _ => by kernel_rfl
  have HP : Hid (∀ W, Below w.heap.size w W → Calls Tryz.prog 18 #[elemV 35 p ys.length cap] W fun e w' => e = .returned (.iface 100 (.agg #[.iface 115 (.agg #[.int .i64 (nine ys 0), .int .i64 (nine ys 1), .int .i64 (nine ys 2), .int .i64 (nine ys 3), .int .i64 (nine ys 4), .int .i64 (nine ys 5), .int .i64 (nine ys 6), .int .i64 (nine ys 7), .int .i64 (nine ys 8), .int .i64 5])])) ∧ Below W.heap.size W w') := fun W hW => partOf_driven 35 (by decide) _ (fun x => .agg #[.int .i64 (x 0), .int .i64 (x 1), .int .i64 (x 2), .int .i64 (x 3), .int .i64 (x 4), .int .i64 (x 5), .int .i64 (x 6), .int .i64 (x 7), .int .i64 (x 8), .int .i64 5]) (fun x W => drivenOf_s35 x W) p cap ys W (h.to hW)
  have H2' : Hid (∀ W, Below w.heap.size w W → Calls Tryz.prog 80 #[lit9 (nine ys), m.val] W fun e w' => ∃ v, e = .returned v ∧ (∃ b, v = .tuple #[m'.val, .bool b] ∧ P b) ∧ Below W.heap.size W w') := fun W hW => (H2 W (hT.to hW)).mono (by rintro e w' ⟨b, rfl, hP, hb⟩; exact ⟨_, rfl, ⟨b, rfl, hP⟩, hb⟩)
  clear h hT H2
  generalize nine ys = x at *
  have hu : m.val = .agg m.cells := rfl
  rw [hu]
  clear hu
  go_enter Tryz.func5, Tryz.ntmps5
  go_upto_region 1 with fail
  have HB : Hid (Below w.heap.size w (((w.alloc (.cells m.cells 37)).alloc (.cells #[.int .i64 35, .slice p ys.length cap] 40)).alloc (.cells zeroM.cells 37))) := (((Below.refl _ _).alloc (Nat.le_refl _) _).alloc (by simp) _).alloc (by simp; omega) _
  have HI : Hid (MemAt (((w.alloc (.cells m.cells 37)).alloc (.cells #[.int .i64 35, .slice p ys.length cap] 40)).alloc (.cells zeroM.cells 37)) w.heap.size m) := ((RowAt.new w 37 136 m.cell).alloc _).alloc _
  have HE : Hid (Own2 (((w.alloc (.cells m.cells 37)).alloc (.cells #[.int .i64 35, .slice p ys.length cap] 40)).alloc (.cells zeroM.cells 37)) (w.heap.size + 1) (.int .i64 35) (.slice p ys.length cap)) := by
    have := (Own2.new (w.alloc (.cells m.cells 37)) (.int .i64 35) (.slice p ys.length cap)).alloc (.cells zeroM.cells 37)
    rw [show ((w.alloc (.cells m.cells 37))).heap.size = w.heap.size + 1 by simp] at this
    exact this
  have HR : Hid (MemAt (((w.alloc (.cells m.cells 37)).alloc (.cells #[.int .i64 35, .slice p ys.length cap] 40)).alloc (.cells zeroM.cells 37)) (w.heap.size + 1 + 1) zeroM) := by
    have := RowAt.new ((w.alloc (.cells m.cells 37)).alloc (.cells #[.int .i64 35, .slice p ys.length cap] 40)) 37 136 zeroM.cell
    rw [show (((w.alloc (.cells m.cells 37)).alloc (.cells #[.int .i64 35, .slice p ys.length cap] 40))).heap.size = w.heap.size + 1 + 1 by simp] at this
    exact this
  generalize (((w.alloc (.cells m.cells 37)).alloc (.cells #[.int .i64 35, .slice p ys.length cap] 40)).alloc (.cells zeroM.cells 37)) = V at *
  clear hz
  have hlt : w.heap.size + 1 + 1 < V.heap.size := HR.out.lt
  refine test_region (m := m) (m' := m') (P := P) (TD := 100) (dv := .agg #[.iface 115 (.agg #[.int .i64 (x 0), .int .i64 (x 1), .int .i64 (x 2), .int .i64 (x 3), .int .i64 (x 4), .int .i64 (x 5), .int .i64 (x 6), .int .i64 (x 7), .int .i64 (x 8), .int .i64 5])]) (fm := 80) (r := lit9 x) Tryz.call18 Tryz.call80 (fun _ => by kernel_rfl) HI.out (range2V HE.out.1.1 HE.out.1.2) (by omega) HR.out (by omega) (by omega) (fun W hW => HP.out W (HB.out.trans (hW.mono HB.out.size))) (fun W hW => H2'.out W (HB.out.trans (hW.mono HB.out.size))) ?_
  intro b w3 hP HM3 hb3
  go_wp2_with fail
  exact bodyPost_ret (resMB Tryz.results5 rfl rfl HM3) rfl ⟨b, rfl, hP, hb3 _ _ HB.out (by omega) HB.out.size⟩

end Go.Proofs.YtmgjngihngddfaaGreatDoor
