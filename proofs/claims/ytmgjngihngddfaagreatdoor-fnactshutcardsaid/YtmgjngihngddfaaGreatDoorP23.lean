/- The document's ActTest, on: edges that keep nothing. Helper text: no statement is claimed here. -/
import Derived.Test.YtmgjngihngddfaaGreatDoorP22
import Derived.Test.YtmgjngihngddfaaGreatDoorP16
namespace Go.Proofs.YtmgjngihngddfaaGreatDoor
open Go.ChangeShapes Go.WideShapes Go.ChangeAt Go.RowKit Fl

set_option maxHeartbeats 1000000 in
set_option maxRecDepth 100000 in
theorem sTest_3n (m : Mm) (hm : m.Ok) (ys : List Ar) (p : Option Addr) (cap : Nat) (nb : Bool) (w : World) (hA : ArgsIs w p ys) (hnb : m.bit (at3 ys 0).1 (at3 ys 0).2.1 = nb) (hB : (at3 ys 1).1 ≠ 5) :
    Calls Tryz.prog 6 #[m.val, elemV 3 p ys.length cap] w fun e w' => e = .returned (.tuple #[m.val, .bool nb]) ∧ Below w.heap.size w w' := by
  have hz : ∀ w, (zeroValue 37).run Tryz.prog w = .ok (.agg zeroM.cells) w := fun _ => by kernel_rfl
  have H0 : Hid (∀ W, Below w.heap.size w W → Calls Tryz.prog 19 #[elemV 3 p ys.length cap, .int .i64 0] W fun e w' => e = .returned (arV (at3 ys 0)) ∧ Below W.heap.size W w') := fun W hW => l5Arg_any 3 ys p cap 0 W (hA.to hW)
  have H1 : Hid (∀ W, Below w.heap.size w W → Calls Tryz.prog 19 #[elemV 3 p ys.length cap, .int .i64 1] W fun e w' => e = .returned (arV (at3 ys 1)) ∧ Below W.heap.size W w') := fun W hW => l5Arg_any 3 ys p cap 1 W (hA.to hW)
  clear hA
  generalize at3 ys 0 = A at *
  generalize at3 ys 1 = B at *
  have hB' : (B.1 == 5) = false := by simpa using hB
  have HSB : Hid (∀ W, Calls Tryz.prog 8 #[m.val, arV A] W fun e w' => e = .returned (.bool nb) ∧ Below W.heap.size W w') := fun W => hnb ▸ sbt_any m hm A.1 A.2.1 A.2.2 W
  clear hnb hB hm
  have hu : m.val = .agg m.cells := rfl
  rw [hu]
  clear hu
  go_enter Tryz.func6, Tryz.ntmps6
  go_upto_region 1 with fail
  have HB : Hid (Below w.heap.size w (((w.alloc (.cells m.cells 37)).alloc (.cells #[.int .i64 3, .slice p ys.length cap] 40)).alloc (.cells zeroM.cells 37))) := (((Below.refl _ _).alloc (Nat.le_refl _) _).alloc (by simp) _).alloc (by simp; omega) _
  have HI : Hid (MemAt (((w.alloc (.cells m.cells 37)).alloc (.cells #[.int .i64 3, .slice p ys.length cap] 40)).alloc (.cells zeroM.cells 37)) w.heap.size m) := ((RowAt.new w 37 136 m.cell).alloc _).alloc _
  have HE : Hid (Own2 (((w.alloc (.cells m.cells 37)).alloc (.cells #[.int .i64 3, .slice p ys.length cap] 40)).alloc (.cells zeroM.cells 37)) (w.heap.size + 1) (.int .i64 3) (.slice p ys.length cap)) := by
    have := (Own2.new (w.alloc (.cells m.cells 37)) (.int .i64 3) (.slice p ys.length cap)).alloc (.cells zeroM.cells 37)
    rw [show (w.alloc (.cells m.cells 37)).heap.size = w.heap.size + 1 by simp] at this
    exact this
  have HR : Hid (MemAt (((w.alloc (.cells m.cells 37)).alloc (.cells #[.int .i64 3, .slice p ys.length cap] 40)).alloc (.cells zeroM.cells 37)) (w.heap.size + 1 + 1) zeroM) := by
    have := RowAt.new ((w.alloc (.cells m.cells 37)).alloc (.cells #[.int .i64 3, .slice p ys.length cap] 40)) 37 136 zeroM.cell
    rw [show ((w.alloc (.cells m.cells 37)).alloc (.cells #[.int .i64 3, .slice p ys.length cap] 40)).heap.size = w.heap.size + 1 + 1 by simp] at this
    exact this
  generalize (((w.alloc (.cells m.cells 37)).alloc (.cells #[.int .i64 3, .slice p ys.length cap] 40)).alloc (.cells zeroM.cells 37)) = V at *
  clear hz
  obtain ⟨⟨e0, e1⟩, -, -⟩ := HE.out
  go_wp2_with fail
  refine Calls.mono (H0.out V HB.out) ?_
  rintro e w1 ⟨rfl, hb1⟩
  have HB1 : Hid (Below w.heap.size w w1) := HB.out.trans (hb1.mono HB.out.size)
  have HI1 : Hid (MemAt w1 w.heap.size m) := HI.out.to hb1
  have HE1 : Hid (Own2 w1 (w.heap.size + 1) (.int .i64 3) (.slice p ys.length cap)) := HE.out.below hb1
  have HR1 : Hid (MemAt w1 (w.heap.size + 1 + 1) zeroM) := HR.out.to hb1
  have hl1 : w.heap.size + 1 + 1 < w1.heap.size := HR1.out.lt
  clear hb1 HB HI HE HR e0 e1
  go_upto_region 2 with fail
  have HB2 : Hid (Below w.heap.size w (w1.alloc (.cells #[.int .i64 A.1, .int .i64 A.2.1, .int .i64 A.2.2] 48))) := HB1.out.alloc HB1.out.size _
  have HI2 : Hid (MemAt (w1.alloc (.cells #[.int .i64 A.1, .int .i64 A.2.1, .int .i64 A.2.2] 48)) w.heap.size m) := RowAt.alloc HI1.out _
  have HE2 : Hid (Own2 (w1.alloc (.cells #[.int .i64 A.1, .int .i64 A.2.1, .int .i64 A.2.2] 48)) (w.heap.size + 1) (.int .i64 3) (.slice p ys.length cap)) := HE1.out.alloc _
  have HR2 : Hid (MemAt (w1.alloc (.cells #[.int .i64 A.1, .int .i64 A.2.1, .int .i64 A.2.2] 48)) (w.heap.size + 1 + 1) zeroM) := RowAt.alloc HR1.out _
  have HA2 : Hid (Own (w1.alloc (.cells #[.int .i64 A.1, .int .i64 A.2.1, .int .i64 A.2.2] 48)) w1.heap.size (.int .i64 A.1) (.int .i64 A.2.1) (.int .i64 A.2.2)) := Own.new w1 _ _ _
  generalize (w1.alloc (.cells #[.int .i64 A.1, .int .i64 A.2.1, .int .i64 A.2.2] 48)) = V2 at *
  obtain ⟨a1, ha1⟩ : ∃ a1, a1 = w1.heap.size := ⟨_, rfl⟩
  rw [← ha1] at HA2 hl1 ⊢
  clear ha1 HB1 HI1 HE1 HR1
  obtain ⟨⟨e0, e1⟩, -, -⟩ := HE2.out
  go_wp2_with fail
  refine Calls.mono (H1.out V2 HB2.out) ?_
  rintro e w3 ⟨rfl, hb3⟩
  have HB3 : Hid (Below w.heap.size w w3) := HB2.out.trans (hb3.mono HB2.out.size)
  have HI3 : Hid (MemAt w3 w.heap.size m) := HI2.out.to hb3
  have HE3 : Hid (Own2 w3 (w.heap.size + 1) (.int .i64 3) (.slice p ys.length cap)) := HE2.out.below hb3
  have HR3 : Hid (MemAt w3 (w.heap.size + 1 + 1) zeroM) := HR2.out.to hb3
  have HA3 : Hid (Own w3 a1 (.int .i64 A.1) (.int .i64 A.2.1) (.int .i64 A.2.2)) := HA2.out.below hb3
  have hl3 : a1 < w3.heap.size := HA3.out.lt
  clear hb3 HB2 HI2 HE2 HR2 HA2 e0 e1 H0 H1
  go_upto_region 3 with fail
  have HB4 : Hid (Below w.heap.size w (w3.alloc (.cells #[.int .i64 B.1, .int .i64 B.2.1, .int .i64 B.2.2] 48))) := HB3.out.alloc HB3.out.size _
  have HI4 : Hid (MemAt (w3.alloc (.cells #[.int .i64 B.1, .int .i64 B.2.1, .int .i64 B.2.2] 48)) w.heap.size m) := RowAt.alloc HI3.out _
  have HE4 : Hid (Own2 (w3.alloc (.cells #[.int .i64 B.1, .int .i64 B.2.1, .int .i64 B.2.2] 48)) (w.heap.size + 1) (.int .i64 3) (.slice p ys.length cap)) := HE3.out.alloc _
  have HR4 : Hid (MemAt (w3.alloc (.cells #[.int .i64 B.1, .int .i64 B.2.1, .int .i64 B.2.2] 48)) (w.heap.size + 1 + 1) zeroM) := RowAt.alloc HR3.out _
  have HA4 : Hid (Own (w3.alloc (.cells #[.int .i64 B.1, .int .i64 B.2.1, .int .i64 B.2.2] 48)) a1 (.int .i64 A.1) (.int .i64 A.2.1) (.int .i64 A.2.2)) := HA3.out.alloc _
  have HO4 : Hid (Own (w3.alloc (.cells #[.int .i64 B.1, .int .i64 B.2.1, .int .i64 B.2.2] 48)) w3.heap.size (.int .i64 B.1) (.int .i64 B.2.1) (.int .i64 B.2.2)) := Own.new w3 _ _ _
  generalize (w3.alloc (.cells #[.int .i64 B.1, .int .i64 B.2.1, .int .i64 B.2.2] 48)) = V4 at *
  obtain ⟨b1, hb1⟩ : ∃ b1, b1 = w3.heap.size := ⟨_, rfl⟩
  rw [← hb1] at HO4 hl3 ⊢
  clear hb1 HB3 HI3 HE3 HR3 HA3
  obtain ⟨⟨e0, e1⟩, -, -⟩ := HE4.out
  obtain ⟨⟨a0, a1c, a2⟩, -, -, -⟩ := HA4.out
  go_wp2_with (refine wpList_rowLoad rfl 37 (.tmp 2) rfl _ 0 136 m.cell rfl HI4.out (by omega) (fun i _ => by rw [Nat.zero_add]) Tryz.underlying37 rfl (by kernel_rfl) ?_)
  refine Calls.mono (HSB.out V4) ?_
  rintro e w5 ⟨rfl, hb5⟩
  have HB5 : Hid (Below w.heap.size w w5) := HB4.out.trans (hb5.mono HB4.out.size)
  have HI5 : Hid (MemAt w5 w.heap.size m) := HI4.out.to hb5
  have HE5 : Hid (Own2 w5 (w.heap.size + 1) (.int .i64 3) (.slice p ys.length cap)) := HE4.out.below hb5
  have HR5 : Hid (MemAt w5 (w.heap.size + 1 + 1) zeroM) := HR4.out.to hb5
  have HO5 : Hid (Own w5 b1 (.int .i64 B.1) (.int .i64 B.2.1) (.int .i64 B.2.2)) := HO4.out.below hb5
  clear hb5 HB4 HI4 HE4 HR4 HO4 HA4 e0 e1 a0 a1c a2
  obtain ⟨⟨e0, e1⟩, -, -⟩ := HE5.out
  obtain ⟨⟨c0, c1, c2⟩, -, -, -⟩ := HO5.out
  cases nb
  all_goals (
    go_wp2_with (first
      | refine wpList_rowLoad rfl 37 (.tmp 2) rfl _ 0 136 m.cell rfl HI5.out (by omega) (fun i _ => by rw [Nat.zero_add]) Tryz.underlying37 rfl (by kernel_rfl) ?_
      | (refine wpList_rowStore rfl 37 (.tmp 4) (.tmp 61) rfl _ 0 136 m.cell m.cell rfl rfl HR5.out (by omega) (fun i _ => cell_one m i) (fun i hi => by rw [if_pos ⟨by omega, by omega⟩, Nat.sub_zero]) (by kernel_rfl) ?_; intro w6 HM6 hz6 hk6 hb6)))
  all_goals exact bodyPost_ret (resMB Tryz.results6 rfl rfl HM6) rfl ⟨rfl, hb6 _ _ HB5.out (by omega)⟩
set_option maxHeartbeats 1000000 in
set_option maxRecDepth 100000 in
theorem sTest_4n (m : Mm) (hm : m.Ok) (ys : List Ar) (p : Option Addr) (cap : Nat) (nb : Bool) (w : World) (hA : ArgsIs w p ys) (hnb : m.bit (at3 ys 0).1 (at3 ys 0).2.1 = nb) (hB : (at3 ys 1).1 ≠ 5) :
    Calls Tryz.prog 6 #[m.val, elemV 4 p ys.length cap] w fun e w' => e = .returned (.tuple #[m.val, .bool false]) ∧ Below w.heap.size w w' := by
  have hz : ∀ w, (zeroValue 37).run Tryz.prog w = .ok (.agg zeroM.cells) w := fun _ => by kernel_rfl
  have H0 : Hid (∀ W, Below w.heap.size w W → Calls Tryz.prog 19 #[elemV 4 p ys.length cap, .int .i64 0] W fun e w' => e = .returned (arV (at3 ys 0)) ∧ Below W.heap.size W w') := fun W hW => l5Arg_any 4 ys p cap 0 W (hA.to hW)
  have H1 : Hid (∀ W, Below w.heap.size w W → Calls Tryz.prog 19 #[elemV 4 p ys.length cap, .int .i64 1] W fun e w' => e = .returned (arV (at3 ys 1)) ∧ Below W.heap.size W w') := fun W hW => l5Arg_any 4 ys p cap 1 W (hA.to hW)
  clear hA
  generalize at3 ys 0 = A at *
  generalize at3 ys 1 = B at *
  have hB' : (B.1 == 5) = false := by simpa using hB
  have HSB : Hid (∀ W, Calls Tryz.prog 8 #[m.val, arV A] W fun e w' => e = .returned (.bool nb) ∧ Below W.heap.size W w') := fun W => hnb ▸ sbt_any m hm A.1 A.2.1 A.2.2 W
  clear hnb hB hm
  have hu : m.val = .agg m.cells := rfl
  rw [hu]
  clear hu
  go_enter Tryz.func6, Tryz.ntmps6
  go_upto_region 1 with fail
  have HB : Hid (Below w.heap.size w (((w.alloc (.cells m.cells 37)).alloc (.cells #[.int .i64 4, .slice p ys.length cap] 40)).alloc (.cells zeroM.cells 37))) := (((Below.refl _ _).alloc (Nat.le_refl _) _).alloc (by simp) _).alloc (by simp; omega) _
  have HI : Hid (MemAt (((w.alloc (.cells m.cells 37)).alloc (.cells #[.int .i64 4, .slice p ys.length cap] 40)).alloc (.cells zeroM.cells 37)) w.heap.size m) := ((RowAt.new w 37 136 m.cell).alloc _).alloc _
  have HE : Hid (Own2 (((w.alloc (.cells m.cells 37)).alloc (.cells #[.int .i64 4, .slice p ys.length cap] 40)).alloc (.cells zeroM.cells 37)) (w.heap.size + 1) (.int .i64 4) (.slice p ys.length cap)) := by
    have := (Own2.new (w.alloc (.cells m.cells 37)) (.int .i64 4) (.slice p ys.length cap)).alloc (.cells zeroM.cells 37)
    rw [show (w.alloc (.cells m.cells 37)).heap.size = w.heap.size + 1 by simp] at this
    exact this
  have HR : Hid (MemAt (((w.alloc (.cells m.cells 37)).alloc (.cells #[.int .i64 4, .slice p ys.length cap] 40)).alloc (.cells zeroM.cells 37)) (w.heap.size + 1 + 1) zeroM) := by
    have := RowAt.new ((w.alloc (.cells m.cells 37)).alloc (.cells #[.int .i64 4, .slice p ys.length cap] 40)) 37 136 zeroM.cell
    rw [show ((w.alloc (.cells m.cells 37)).alloc (.cells #[.int .i64 4, .slice p ys.length cap] 40)).heap.size = w.heap.size + 1 + 1 by simp] at this
    exact this
  generalize (((w.alloc (.cells m.cells 37)).alloc (.cells #[.int .i64 4, .slice p ys.length cap] 40)).alloc (.cells zeroM.cells 37)) = V at *
  clear hz
  obtain ⟨⟨e0, e1⟩, -, -⟩ := HE.out
  go_wp2_with fail
  refine Calls.mono (H0.out V HB.out) ?_
  rintro e w1 ⟨rfl, hb1⟩
  have HB1 : Hid (Below w.heap.size w w1) := HB.out.trans (hb1.mono HB.out.size)
  have HI1 : Hid (MemAt w1 w.heap.size m) := HI.out.to hb1
  have HE1 : Hid (Own2 w1 (w.heap.size + 1) (.int .i64 4) (.slice p ys.length cap)) := HE.out.below hb1
  have HR1 : Hid (MemAt w1 (w.heap.size + 1 + 1) zeroM) := HR.out.to hb1
  have hl1 : w.heap.size + 1 + 1 < w1.heap.size := HR1.out.lt
  clear hb1 HB HI HE HR e0 e1
  go_upto_region 2 with fail
  have HB2 : Hid (Below w.heap.size w (w1.alloc (.cells #[.int .i64 A.1, .int .i64 A.2.1, .int .i64 A.2.2] 48))) := HB1.out.alloc HB1.out.size _
  have HI2 : Hid (MemAt (w1.alloc (.cells #[.int .i64 A.1, .int .i64 A.2.1, .int .i64 A.2.2] 48)) w.heap.size m) := RowAt.alloc HI1.out _
  have HE2 : Hid (Own2 (w1.alloc (.cells #[.int .i64 A.1, .int .i64 A.2.1, .int .i64 A.2.2] 48)) (w.heap.size + 1) (.int .i64 4) (.slice p ys.length cap)) := HE1.out.alloc _
  have HR2 : Hid (MemAt (w1.alloc (.cells #[.int .i64 A.1, .int .i64 A.2.1, .int .i64 A.2.2] 48)) (w.heap.size + 1 + 1) zeroM) := RowAt.alloc HR1.out _
  have HA2 : Hid (Own (w1.alloc (.cells #[.int .i64 A.1, .int .i64 A.2.1, .int .i64 A.2.2] 48)) w1.heap.size (.int .i64 A.1) (.int .i64 A.2.1) (.int .i64 A.2.2)) := Own.new w1 _ _ _
  generalize (w1.alloc (.cells #[.int .i64 A.1, .int .i64 A.2.1, .int .i64 A.2.2] 48)) = V2 at *
  obtain ⟨a1, ha1⟩ : ∃ a1, a1 = w1.heap.size := ⟨_, rfl⟩
  rw [← ha1] at HA2 hl1 ⊢
  clear ha1 HB1 HI1 HE1 HR1
  obtain ⟨⟨e0, e1⟩, -, -⟩ := HE2.out
  go_wp2_with fail
  refine Calls.mono (H1.out V2 HB2.out) ?_
  rintro e w3 ⟨rfl, hb3⟩
  have HB3 : Hid (Below w.heap.size w w3) := HB2.out.trans (hb3.mono HB2.out.size)
  have HI3 : Hid (MemAt w3 w.heap.size m) := HI2.out.to hb3
  have HE3 : Hid (Own2 w3 (w.heap.size + 1) (.int .i64 4) (.slice p ys.length cap)) := HE2.out.below hb3
  have HR3 : Hid (MemAt w3 (w.heap.size + 1 + 1) zeroM) := HR2.out.to hb3
  have HA3 : Hid (Own w3 a1 (.int .i64 A.1) (.int .i64 A.2.1) (.int .i64 A.2.2)) := HA2.out.below hb3
  have hl3 : a1 < w3.heap.size := HA3.out.lt
  clear hb3 HB2 HI2 HE2 HR2 HA2 e0 e1 H0 H1
  go_upto_region 3 with fail
  have HB4 : Hid (Below w.heap.size w (w3.alloc (.cells #[.int .i64 B.1, .int .i64 B.2.1, .int .i64 B.2.2] 48))) := HB3.out.alloc HB3.out.size _
  have HI4 : Hid (MemAt (w3.alloc (.cells #[.int .i64 B.1, .int .i64 B.2.1, .int .i64 B.2.2] 48)) w.heap.size m) := RowAt.alloc HI3.out _
  have HE4 : Hid (Own2 (w3.alloc (.cells #[.int .i64 B.1, .int .i64 B.2.1, .int .i64 B.2.2] 48)) (w.heap.size + 1) (.int .i64 4) (.slice p ys.length cap)) := HE3.out.alloc _
  have HR4 : Hid (MemAt (w3.alloc (.cells #[.int .i64 B.1, .int .i64 B.2.1, .int .i64 B.2.2] 48)) (w.heap.size + 1 + 1) zeroM) := RowAt.alloc HR3.out _
  have HA4 : Hid (Own (w3.alloc (.cells #[.int .i64 B.1, .int .i64 B.2.1, .int .i64 B.2.2] 48)) a1 (.int .i64 A.1) (.int .i64 A.2.1) (.int .i64 A.2.2)) := HA3.out.alloc _
  have HO4 : Hid (Own (w3.alloc (.cells #[.int .i64 B.1, .int .i64 B.2.1, .int .i64 B.2.2] 48)) w3.heap.size (.int .i64 B.1) (.int .i64 B.2.1) (.int .i64 B.2.2)) := Own.new w3 _ _ _
  generalize (w3.alloc (.cells #[.int .i64 B.1, .int .i64 B.2.1, .int .i64 B.2.2] 48)) = V4 at *
  obtain ⟨b1, hb1⟩ : ∃ b1, b1 = w3.heap.size := ⟨_, rfl⟩
  rw [← hb1] at HO4 hl3 ⊢
  clear hb1 HB3 HI3 HE3 HR3 HA3
  obtain ⟨⟨e0, e1⟩, -, -⟩ := HE4.out
  obtain ⟨⟨a0, a1c, a2⟩, -, -, -⟩ := HA4.out
  go_wp2_with (refine wpList_rowLoad rfl 37 (.tmp 2) rfl _ 0 136 m.cell rfl HI4.out (by omega) (fun i _ => by rw [Nat.zero_add]) Tryz.underlying37 rfl (by kernel_rfl) ?_)
  refine Calls.mono (HSB.out V4) ?_
  rintro e w5 ⟨rfl, hb5⟩
  have HB5 : Hid (Below w.heap.size w w5) := HB4.out.trans (hb5.mono HB4.out.size)
  have HI5 : Hid (MemAt w5 w.heap.size m) := HI4.out.to hb5
  have HE5 : Hid (Own2 w5 (w.heap.size + 1) (.int .i64 4) (.slice p ys.length cap)) := HE4.out.below hb5
  have HR5 : Hid (MemAt w5 (w.heap.size + 1 + 1) zeroM) := HR4.out.to hb5
  have HO5 : Hid (Own w5 b1 (.int .i64 B.1) (.int .i64 B.2.1) (.int .i64 B.2.2)) := HO4.out.below hb5
  clear hb5 HB4 HI4 HE4 HR4 HO4 HA4 e0 e1 a0 a1c a2
  obtain ⟨⟨e0, e1⟩, -, -⟩ := HE5.out
  obtain ⟨⟨c0, c1, c2⟩, -, -, -⟩ := HO5.out
  cases nb
  all_goals (
    go_wp2_with (first
      | refine wpList_rowLoad rfl 37 (.tmp 2) rfl _ 0 136 m.cell rfl HI5.out (by omega) (fun i _ => by rw [Nat.zero_add]) Tryz.underlying37 rfl (by kernel_rfl) ?_
      | (refine wpList_rowStore rfl 37 (.tmp 4) (.tmp 67) rfl _ 0 136 m.cell m.cell rfl rfl HR5.out (by omega) (fun i _ => cell_one m i) (fun i hi => by rw [if_pos ⟨by omega, by omega⟩, Nat.sub_zero]) (by kernel_rfl) ?_; intro w6 HM6 hz6 hk6 hb6)))
  all_goals exact bodyPost_ret (resMB Tryz.results6 rfl rfl HM6) rfl ⟨rfl, hb6 _ _ HB5.out (by omega)⟩
end Go.Proofs.YtmgjngihngddfaaGreatDoor

/- The document's ActTest, on: edges. Helper text: no statement is claimed here. -/
namespace Go.Proofs.YtmgjngihngddfaaGreatDoor
open Go.ChangeShapes Go.WideShapes Go.ChangeAt Go.RowKit Fl

set_option maxHeartbeats 1000000 in
set_option maxRecDepth 100000 in
theorem sTest_3e (m : Mm) (hm : m.Ok) (ys : List Ar) (p : Option Addr) (cap : Nat) (nb bb : Bool) (bn bp : Int) (w : World) (hA : ArgsIs w p ys) (hnb : m.bit (at3 ys 0).1 (at3 ys 0).2.1 = nb) (hB : at3 ys 1 = (5, bn, bp)) (hbb : m.bit 5 bn = bb) :
    Calls Tryz.prog 6 #[m.val, elemV 3 p ys.length cap] w fun e w' => e = .returned (.tuple #[(m.putB 5 bn nb).val, .bool (nb && !bb)]) ∧ Below w.heap.size w w' := by
  have hz : ∀ w, (zeroValue 37).run Tryz.prog w = .ok (.agg zeroM.cells) w := fun _ => by kernel_rfl
  have H0 : Hid (∀ W, Below w.heap.size w W → Calls Tryz.prog 19 #[elemV 3 p ys.length cap, .int .i64 0] W fun e w' => e = .returned (arV (at3 ys 0)) ∧ Below W.heap.size W w') := fun W hW => l5Arg_any 3 ys p cap 0 W (hA.to hW)
  have H1 : Hid (∀ W, Below w.heap.size w W → Calls Tryz.prog 19 #[elemV 3 p ys.length cap, .int .i64 1] W fun e w' => e = .returned (arV (at3 ys 1)) ∧ Below W.heap.size W w') := fun W hW => l5Arg_any 3 ys p cap 1 W (hA.to hW)
  clear hA
  generalize at3 ys 0 = A at *
  rw [hB] at H1
  have HSB : Hid (∀ W, Calls Tryz.prog 8 #[m.val, arV A] W fun e w' => e = .returned (.bool nb) ∧ Below W.heap.size W w') := fun W => hnb ▸ sbt_any m hm A.1 A.2.1 A.2.2 W
  have HSE : Hid (∀ W, Calls Tryz.prog 8 #[m.val, .agg #[.int .i64 5, .int .i64 bn, .int .i64 bp]] W fun e w' => e = .returned (.bool bb) ∧ Below W.heap.size W w') := fun W => hbb ▸ sbt_any m hm 5 bn bp W
  have HSP : Hid (∀ W, Calls Tryz.prog 20 #[m.val, .agg #[.int .i64 5, .int .i64 bn, .int .i64 bp], .bool nb] W fun e w' => e = .returned (m.putB 5 bn nb).val ∧ Below W.heap.size W w') := fun W => sPut_any m hm 5 bn bp nb W
  generalize m.putB 5 bn nb = m' at *
  clear hnb hbb hB hm
  have hu : m.val = .agg m.cells := rfl
  rw [hu]
  clear hu
  go_enter Tryz.func6, Tryz.ntmps6
  go_upto_region 1 with fail
  have HB : Hid (Below w.heap.size w (((w.alloc (.cells m.cells 37)).alloc (.cells #[.int .i64 3, .slice p ys.length cap] 40)).alloc (.cells zeroM.cells 37))) := (((Below.refl _ _).alloc (Nat.le_refl _) _).alloc (by simp) _).alloc (by simp; omega) _
  have HI : Hid (MemAt (((w.alloc (.cells m.cells 37)).alloc (.cells #[.int .i64 3, .slice p ys.length cap] 40)).alloc (.cells zeroM.cells 37)) w.heap.size m) := ((RowAt.new w 37 136 m.cell).alloc _).alloc _
  have HE : Hid (Own2 (((w.alloc (.cells m.cells 37)).alloc (.cells #[.int .i64 3, .slice p ys.length cap] 40)).alloc (.cells zeroM.cells 37)) (w.heap.size + 1) (.int .i64 3) (.slice p ys.length cap)) := by
    have := (Own2.new (w.alloc (.cells m.cells 37)) (.int .i64 3) (.slice p ys.length cap)).alloc (.cells zeroM.cells 37)
    rw [show (w.alloc (.cells m.cells 37)).heap.size = w.heap.size + 1 by simp] at this
    exact this
  have HR : Hid (MemAt (((w.alloc (.cells m.cells 37)).alloc (.cells #[.int .i64 3, .slice p ys.length cap] 40)).alloc (.cells zeroM.cells 37)) (w.heap.size + 1 + 1) zeroM) := by
    have := RowAt.new ((w.alloc (.cells m.cells 37)).alloc (.cells #[.int .i64 3, .slice p ys.length cap] 40)) 37 136 zeroM.cell
    rw [show ((w.alloc (.cells m.cells 37)).alloc (.cells #[.int .i64 3, .slice p ys.length cap] 40)).heap.size = w.heap.size + 1 + 1 by simp] at this
    exact this
  generalize (((w.alloc (.cells m.cells 37)).alloc (.cells #[.int .i64 3, .slice p ys.length cap] 40)).alloc (.cells zeroM.cells 37)) = V at *
  clear hz
  obtain ⟨⟨e0, e1⟩, -, -⟩ := HE.out
  go_wp2_with fail
  refine Calls.mono (H0.out V HB.out) ?_
  rintro e w1 ⟨rfl, hb1⟩
  have HB1 : Hid (Below w.heap.size w w1) := HB.out.trans (hb1.mono HB.out.size)
  have HI1 : Hid (MemAt w1 w.heap.size m) := HI.out.to hb1
  have HE1 : Hid (Own2 w1 (w.heap.size + 1) (.int .i64 3) (.slice p ys.length cap)) := HE.out.below hb1
  have HR1 : Hid (MemAt w1 (w.heap.size + 1 + 1) zeroM) := HR.out.to hb1
  have hl1 : w.heap.size + 1 + 1 < w1.heap.size := HR1.out.lt
  clear hb1 HB HI HE HR e0 e1
  go_upto_region 2 with fail
  have HB2 : Hid (Below w.heap.size w (w1.alloc (.cells #[.int .i64 A.1, .int .i64 A.2.1, .int .i64 A.2.2] 48))) := HB1.out.alloc HB1.out.size _
  have HI2 : Hid (MemAt (w1.alloc (.cells #[.int .i64 A.1, .int .i64 A.2.1, .int .i64 A.2.2] 48)) w.heap.size m) := RowAt.alloc HI1.out _
  have HE2 : Hid (Own2 (w1.alloc (.cells #[.int .i64 A.1, .int .i64 A.2.1, .int .i64 A.2.2] 48)) (w.heap.size + 1) (.int .i64 3) (.slice p ys.length cap)) := HE1.out.alloc _
  have HR2 : Hid (MemAt (w1.alloc (.cells #[.int .i64 A.1, .int .i64 A.2.1, .int .i64 A.2.2] 48)) (w.heap.size + 1 + 1) zeroM) := RowAt.alloc HR1.out _
  have HA2 : Hid (Own (w1.alloc (.cells #[.int .i64 A.1, .int .i64 A.2.1, .int .i64 A.2.2] 48)) w1.heap.size (.int .i64 A.1) (.int .i64 A.2.1) (.int .i64 A.2.2)) := Own.new w1 _ _ _
  generalize (w1.alloc (.cells #[.int .i64 A.1, .int .i64 A.2.1, .int .i64 A.2.2] 48)) = V2 at *
  obtain ⟨a1, ha1⟩ : ∃ a1, a1 = w1.heap.size := ⟨_, rfl⟩
  rw [← ha1] at HA2 hl1 ⊢
  clear ha1 HB1 HI1 HE1 HR1
  obtain ⟨⟨e0, e1⟩, -, -⟩ := HE2.out
  go_wp2_with fail
  refine Calls.mono (H1.out V2 HB2.out) ?_
  rintro e w3 ⟨rfl, hb3⟩
  have HB3 : Hid (Below w.heap.size w w3) := HB2.out.trans (hb3.mono HB2.out.size)
  have HI3 : Hid (MemAt w3 w.heap.size m) := HI2.out.to hb3
  have HE3 : Hid (Own2 w3 (w.heap.size + 1) (.int .i64 3) (.slice p ys.length cap)) := HE2.out.below hb3
  have HR3 : Hid (MemAt w3 (w.heap.size + 1 + 1) zeroM) := HR2.out.to hb3
  have HA3 : Hid (Own w3 a1 (.int .i64 A.1) (.int .i64 A.2.1) (.int .i64 A.2.2)) := HA2.out.below hb3
  have hl3 : a1 < w3.heap.size := HA3.out.lt
  clear hb3 HB2 HI2 HE2 HR2 HA2 e0 e1 H0 H1
  go_upto_region 3 with fail
  have HB4 : Hid (Below w.heap.size w (w3.alloc (.cells #[.int .i64 5, .int .i64 bn, .int .i64 bp] 48))) := HB3.out.alloc HB3.out.size _
  have HI4 : Hid (MemAt (w3.alloc (.cells #[.int .i64 5, .int .i64 bn, .int .i64 bp] 48)) w.heap.size m) := RowAt.alloc HI3.out _
  have HE4 : Hid (Own2 (w3.alloc (.cells #[.int .i64 5, .int .i64 bn, .int .i64 bp] 48)) (w.heap.size + 1) (.int .i64 3) (.slice p ys.length cap)) := HE3.out.alloc _
  have HR4 : Hid (MemAt (w3.alloc (.cells #[.int .i64 5, .int .i64 bn, .int .i64 bp] 48)) (w.heap.size + 1 + 1) zeroM) := RowAt.alloc HR3.out _
  have HA4 : Hid (Own (w3.alloc (.cells #[.int .i64 5, .int .i64 bn, .int .i64 bp] 48)) a1 (.int .i64 A.1) (.int .i64 A.2.1) (.int .i64 A.2.2)) := HA3.out.alloc _
  have HO4 : Hid (Own (w3.alloc (.cells #[.int .i64 5, .int .i64 bn, .int .i64 bp] 48)) w3.heap.size (.int .i64 5) (.int .i64 bn) (.int .i64 bp)) := Own.new w3 _ _ _
  generalize (w3.alloc (.cells #[.int .i64 5, .int .i64 bn, .int .i64 bp] 48)) = V4 at *
  obtain ⟨b1, hb1⟩ : ∃ b1, b1 = w3.heap.size := ⟨_, rfl⟩
  rw [← hb1] at HO4 hl3 ⊢
  clear hb1 HB3 HI3 HE3 HR3 HA3
  obtain ⟨⟨e0, e1⟩, -, -⟩ := HE4.out
  obtain ⟨⟨a0, a1c, a2⟩, -, -, -⟩ := HA4.out
  go_wp2_with (refine wpList_rowLoad rfl 37 (.tmp 2) rfl _ 0 136 m.cell rfl HI4.out (by omega) (fun i _ => by rw [Nat.zero_add]) Tryz.underlying37 rfl (by kernel_rfl) ?_)
  refine Calls.mono (HSB.out V4) ?_
  rintro e w5 ⟨rfl, hb5⟩
  have HB5 : Hid (Below w.heap.size w w5) := HB4.out.trans (hb5.mono HB4.out.size)
  have HI5 : Hid (MemAt w5 w.heap.size m) := HI4.out.to hb5
  have HE5 : Hid (Own2 w5 (w.heap.size + 1) (.int .i64 3) (.slice p ys.length cap)) := HE4.out.below hb5
  have HR5 : Hid (MemAt w5 (w.heap.size + 1 + 1) zeroM) := HR4.out.to hb5
  have HO5 : Hid (Own w5 b1 (.int .i64 5) (.int .i64 bn) (.int .i64 bp)) := HO4.out.below hb5
  clear hb5 HB4 HI4 HE4 HR4 HO4 HA4 e0 e1 a0 a1c a2
  obtain ⟨⟨e0, e1⟩, -, -⟩ := HE5.out
  obtain ⟨⟨c0, c1, c2⟩, -, -, -⟩ := HO5.out
  go_wp2_with (refine wpList_rowLoadG (by rfl) 37 (.tmp 2) rfl _ 0 136 m.cell rfl HI5.out (by omega) (fun i _ => by rw [Nat.zero_add]) Tryz.underlying37 rfl (by kernel_rfl) ?_)
  refine Calls.mono (HSE.out w5) ?_
  rintro e w7 ⟨rfl, hb7⟩
  have HB7 : Hid (Below w.heap.size w w7) := HB5.out.trans (hb7.mono HB5.out.size)
  have HI7 : Hid (MemAt w7 w.heap.size m) := HI5.out.to hb7
  have HE7 : Hid (Own2 w7 (w.heap.size + 1) (.int .i64 3) (.slice p ys.length cap)) := HE5.out.below hb7
  have HR7 : Hid (MemAt w7 (w.heap.size + 1 + 1) zeroM) := HR5.out.to hb7
  have HO7 : Hid (Own w7 b1 (.int .i64 5) (.int .i64 bn) (.int .i64 bp)) := HO5.out.below hb7
  clear hb7 HB5 HI5 HE5 HR5 HO5 e0 e1 c0 c1 c2
  obtain ⟨⟨e0, e1⟩, -, -⟩ := HE7.out
  obtain ⟨⟨c0, c1, c2⟩, -, -, -⟩ := HO7.out
  go_wp2_with (refine wpList_rowLoad rfl 37 (.tmp 2) rfl _ 0 136 m.cell rfl HI7.out (by omega) (fun i _ => by rw [Nat.zero_add]) Tryz.underlying37 rfl (by kernel_rfl) ?_)
  refine Calls.mono (HSP.out w7) ?_
  rintro e w8 ⟨rfl, hb8⟩
  have HB8 : Hid (Below w.heap.size w w8) := HB7.out.trans (hb8.mono HB7.out.size)
  have HI8 : Hid (MemAt w8 w.heap.size m) := HI7.out.to hb8
  have HE8 : Hid (Own2 w8 (w.heap.size + 1) (.int .i64 3) (.slice p ys.length cap)) := HE7.out.below hb8
  have HR8 : Hid (MemAt w8 (w.heap.size + 1 + 1) zeroM) := HR7.out.to hb8
  clear hb8 HB7 HI7 HE7 HR7 HO7 e0 e1 c0 c1 c2
  go_upto_region 12 with (refine wpList_rowStore rfl 37 (.tmp 2) (.tmp 57) rfl _ 0 136 m'.cell m'.cell rfl rfl HI8.out (by omega) (fun i _ => cell_one m' i) (fun i hi => by rw [if_pos ⟨by omega, by omega⟩, Nat.sub_zero]) (by kernel_rfl) ?_; intro w9 HM9 hz9 hk9 hb9)
  have e0 : w9.cell? ⟨w.heap.size + 1, 0, none⟩ = some (.int .i64 3) := by rw [World.cell?_of_block (w := w8) (a := ⟨w.heap.size + 1, 0, none⟩) (hk9 _ (by show w.heap.size + 1 ≠ _; omega))]; exact HE8.out.1.1
  have HR9 : Hid (MemAt w9 (w.heap.size + 1 + 1) zeroM) := RowAt.by HR8.out (hk9 _ (by omega))
  have HM9' : Hid (MemAt w9 w.heap.size m') := HM9
  have HB9 : Hid (Below w.heap.size w w9) := hb9 _ _ HB8.out (Nat.le_refl _)
  clear HM9 hz9 hk9 hb9 HB8 HI8 HE8 HR8
  simp only [Act.put]
  cases nb <;> cases bb
  all_goals (
    go_wp2_with (first
      | refine wpList_rowLoad rfl 37 (.tmp 2) rfl _ 0 136 m'.cell rfl HM9'.out (by omega) (fun i _ => by rw [Nat.zero_add]) Tryz.underlying37 rfl (by kernel_rfl) ?_
      | (refine wpList_rowStore rfl 37 (.tmp 4) (.tmp 61) rfl _ 0 136 m'.cell m'.cell rfl rfl HR9.out (by omega) (fun i _ => cell_one m' i) (fun i hi => by rw [if_pos ⟨by omega, by omega⟩, Nat.sub_zero]) (by kernel_rfl) ?_; intro w6 HM6 hz6 hk6 hb6)))
  all_goals exact bodyPost_ret (resMB Tryz.results6 rfl rfl HM6) rfl ⟨rfl, hb6 _ _ HB9.out (by omega)⟩
set_option maxHeartbeats 1000000 in
set_option maxRecDepth 100000 in
theorem sTest_4e (m : Mm) (hm : m.Ok) (ys : List Ar) (p : Option Addr) (cap : Nat) (nb bb : Bool) (bn bp : Int) (w : World) (hA : ArgsIs w p ys) (hnb : m.bit (at3 ys 0).1 (at3 ys 0).2.1 = nb) (hB : at3 ys 1 = (5, bn, bp)) (hbb : m.bit 5 bn = bb) :
    Calls Tryz.prog 6 #[m.val, elemV 4 p ys.length cap] w fun e w' => e = .returned (.tuple #[(m.putB 5 bn nb).val, .bool (!nb && bb)]) ∧ Below w.heap.size w w' := by
  have hz : ∀ w, (zeroValue 37).run Tryz.prog w = .ok (.agg zeroM.cells) w := fun _ => by kernel_rfl
  have H0 : Hid (∀ W, Below w.heap.size w W → Calls Tryz.prog 19 #[elemV 4 p ys.length cap, .int .i64 0] W fun e w' => e = .returned (arV (at3 ys 0)) ∧ Below W.heap.size W w') := fun W hW => l5Arg_any 4 ys p cap 0 W (hA.to hW)
  have H1 : Hid (∀ W, Below w.heap.size w W → Calls Tryz.prog 19 #[elemV 4 p ys.length cap, .int .i64 1] W fun e w' => e = .returned (arV (at3 ys 1)) ∧ Below W.heap.size W w') := fun W hW => l5Arg_any 4 ys p cap 1 W (hA.to hW)
  clear hA
  generalize at3 ys 0 = A at *
  rw [hB] at H1
  have HSB : Hid (∀ W, Calls Tryz.prog 8 #[m.val, arV A] W fun e w' => e = .returned (.bool nb) ∧ Below W.heap.size W w') := fun W => hnb ▸ sbt_any m hm A.1 A.2.1 A.2.2 W
  have HSE : Hid (∀ W, Calls Tryz.prog 8 #[m.val, .agg #[.int .i64 5, .int .i64 bn, .int .i64 bp]] W fun e w' => e = .returned (.bool bb) ∧ Below W.heap.size W w') := fun W => hbb ▸ sbt_any m hm 5 bn bp W
  have HSP : Hid (∀ W, Calls Tryz.prog 20 #[m.val, .agg #[.int .i64 5, .int .i64 bn, .int .i64 bp], .bool nb] W fun e w' => e = .returned (m.putB 5 bn nb).val ∧ Below W.heap.size W w') := fun W => sPut_any m hm 5 bn bp nb W
  generalize m.putB 5 bn nb = m' at *
  clear hnb hbb hB hm
  have hu : m.val = .agg m.cells := rfl
  rw [hu]
  clear hu
  go_enter Tryz.func6, Tryz.ntmps6
  go_upto_region 1 with fail
  have HB : Hid (Below w.heap.size w (((w.alloc (.cells m.cells 37)).alloc (.cells #[.int .i64 4, .slice p ys.length cap] 40)).alloc (.cells zeroM.cells 37))) := (((Below.refl _ _).alloc (Nat.le_refl _) _).alloc (by simp) _).alloc (by simp; omega) _
  have HI : Hid (MemAt (((w.alloc (.cells m.cells 37)).alloc (.cells #[.int .i64 4, .slice p ys.length cap] 40)).alloc (.cells zeroM.cells 37)) w.heap.size m) := ((RowAt.new w 37 136 m.cell).alloc _).alloc _
  have HE : Hid (Own2 (((w.alloc (.cells m.cells 37)).alloc (.cells #[.int .i64 4, .slice p ys.length cap] 40)).alloc (.cells zeroM.cells 37)) (w.heap.size + 1) (.int .i64 4) (.slice p ys.length cap)) := by
    have := (Own2.new (w.alloc (.cells m.cells 37)) (.int .i64 4) (.slice p ys.length cap)).alloc (.cells zeroM.cells 37)
    rw [show (w.alloc (.cells m.cells 37)).heap.size = w.heap.size + 1 by simp] at this
    exact this
  have HR : Hid (MemAt (((w.alloc (.cells m.cells 37)).alloc (.cells #[.int .i64 4, .slice p ys.length cap] 40)).alloc (.cells zeroM.cells 37)) (w.heap.size + 1 + 1) zeroM) := by
    have := RowAt.new ((w.alloc (.cells m.cells 37)).alloc (.cells #[.int .i64 4, .slice p ys.length cap] 40)) 37 136 zeroM.cell
    rw [show ((w.alloc (.cells m.cells 37)).alloc (.cells #[.int .i64 4, .slice p ys.length cap] 40)).heap.size = w.heap.size + 1 + 1 by simp] at this
    exact this
  generalize (((w.alloc (.cells m.cells 37)).alloc (.cells #[.int .i64 4, .slice p ys.length cap] 40)).alloc (.cells zeroM.cells 37)) = V at *
  clear hz
  obtain ⟨⟨e0, e1⟩, -, -⟩ := HE.out
  go_wp2_with fail
  refine Calls.mono (H0.out V HB.out) ?_
  rintro e w1 ⟨rfl, hb1⟩
  have HB1 : Hid (Below w.heap.size w w1) := HB.out.trans (hb1.mono HB.out.size)
  have HI1 : Hid (MemAt w1 w.heap.size m) := HI.out.to hb1
  have HE1 : Hid (Own2 w1 (w.heap.size + 1) (.int .i64 4) (.slice p ys.length cap)) := HE.out.below hb1
  have HR1 : Hid (MemAt w1 (w.heap.size + 1 + 1) zeroM) := HR.out.to hb1
  have hl1 : w.heap.size + 1 + 1 < w1.heap.size := HR1.out.lt
  clear hb1 HB HI HE HR e0 e1
  go_upto_region 2 with fail
  have HB2 : Hid (Below w.heap.size w (w1.alloc (.cells #[.int .i64 A.1, .int .i64 A.2.1, .int .i64 A.2.2] 48))) := HB1.out.alloc HB1.out.size _
  have HI2 : Hid (MemAt (w1.alloc (.cells #[.int .i64 A.1, .int .i64 A.2.1, .int .i64 A.2.2] 48)) w.heap.size m) := RowAt.alloc HI1.out _
  have HE2 : Hid (Own2 (w1.alloc (.cells #[.int .i64 A.1, .int .i64 A.2.1, .int .i64 A.2.2] 48)) (w.heap.size + 1) (.int .i64 4) (.slice p ys.length cap)) := HE1.out.alloc _
  have HR2 : Hid (MemAt (w1.alloc (.cells #[.int .i64 A.1, .int .i64 A.2.1, .int .i64 A.2.2] 48)) (w.heap.size + 1 + 1) zeroM) := RowAt.alloc HR1.out _
  have HA2 : Hid (Own (w1.alloc (.cells #[.int .i64 A.1, .int .i64 A.2.1, .int .i64 A.2.2] 48)) w1.heap.size (.int .i64 A.1) (.int .i64 A.2.1) (.int .i64 A.2.2)) := Own.new w1 _ _ _
  generalize (w1.alloc (.cells #[.int .i64 A.1, .int .i64 A.2.1, .int .i64 A.2.2] 48)) = V2 at *
  obtain ⟨a1, ha1⟩ : ∃ a1, a1 = w1.heap.size := ⟨_, rfl⟩
  rw [← ha1] at HA2 hl1 ⊢
  clear ha1 HB1 HI1 HE1 HR1
  obtain ⟨⟨e0, e1⟩, -, -⟩ := HE2.out
  go_wp2_with fail
  refine Calls.mono (H1.out V2 HB2.out) ?_
  rintro e w3 ⟨rfl, hb3⟩
  have HB3 : Hid (Below w.heap.size w w3) := HB2.out.trans (hb3.mono HB2.out.size)
  have HI3 : Hid (MemAt w3 w.heap.size m) := HI2.out.to hb3
  have HE3 : Hid (Own2 w3 (w.heap.size + 1) (.int .i64 4) (.slice p ys.length cap)) := HE2.out.below hb3
  have HR3 : Hid (MemAt w3 (w.heap.size + 1 + 1) zeroM) := HR2.out.to hb3
  have HA3 : Hid (Own w3 a1 (.int .i64 A.1) (.int .i64 A.2.1) (.int .i64 A.2.2)) := HA2.out.below hb3
  have hl3 : a1 < w3.heap.size := HA3.out.lt
  clear hb3 HB2 HI2 HE2 HR2 HA2 e0 e1 H0 H1
  go_upto_region 3 with fail
  have HB4 : Hid (Below w.heap.size w (w3.alloc (.cells #[.int .i64 5, .int .i64 bn, .int .i64 bp] 48))) := HB3.out.alloc HB3.out.size _
  have HI4 : Hid (MemAt (w3.alloc (.cells #[.int .i64 5, .int .i64 bn, .int .i64 bp] 48)) w.heap.size m) := RowAt.alloc HI3.out _
  have HE4 : Hid (Own2 (w3.alloc (.cells #[.int .i64 5, .int .i64 bn, .int .i64 bp] 48)) (w.heap.size + 1) (.int .i64 4) (.slice p ys.length cap)) := HE3.out.alloc _
  have HR4 : Hid (MemAt (w3.alloc (.cells #[.int .i64 5, .int .i64 bn, .int .i64 bp] 48)) (w.heap.size + 1 + 1) zeroM) := RowAt.alloc HR3.out _
  have HA4 : Hid (Own (w3.alloc (.cells #[.int .i64 5, .int .i64 bn, .int .i64 bp] 48)) a1 (.int .i64 A.1) (.int .i64 A.2.1) (.int .i64 A.2.2)) := HA3.out.alloc _
  have HO4 : Hid (Own (w3.alloc (.cells #[.int .i64 5, .int .i64 bn, .int .i64 bp] 48)) w3.heap.size (.int .i64 5) (.int .i64 bn) (.int .i64 bp)) := Own.new w3 _ _ _
  generalize (w3.alloc (.cells #[.int .i64 5, .int .i64 bn, .int .i64 bp] 48)) = V4 at *
  obtain ⟨b1, hb1⟩ : ∃ b1, b1 = w3.heap.size := ⟨_, rfl⟩
  rw [← hb1] at HO4 hl3 ⊢
  clear hb1 HB3 HI3 HE3 HR3 HA3
  obtain ⟨⟨e0, e1⟩, -, -⟩ := HE4.out
  obtain ⟨⟨a0, a1c, a2⟩, -, -, -⟩ := HA4.out
  go_wp2_with (refine wpList_rowLoad rfl 37 (.tmp 2) rfl _ 0 136 m.cell rfl HI4.out (by omega) (fun i _ => by rw [Nat.zero_add]) Tryz.underlying37 rfl (by kernel_rfl) ?_)
  refine Calls.mono (HSB.out V4) ?_
  rintro e w5 ⟨rfl, hb5⟩
  have HB5 : Hid (Below w.heap.size w w5) := HB4.out.trans (hb5.mono HB4.out.size)
  have HI5 : Hid (MemAt w5 w.heap.size m) := HI4.out.to hb5
  have HE5 : Hid (Own2 w5 (w.heap.size + 1) (.int .i64 4) (.slice p ys.length cap)) := HE4.out.below hb5
  have HR5 : Hid (MemAt w5 (w.heap.size + 1 + 1) zeroM) := HR4.out.to hb5
  have HO5 : Hid (Own w5 b1 (.int .i64 5) (.int .i64 bn) (.int .i64 bp)) := HO4.out.below hb5
  clear hb5 HB4 HI4 HE4 HR4 HO4 HA4 e0 e1 a0 a1c a2
  obtain ⟨⟨e0, e1⟩, -, -⟩ := HE5.out
  obtain ⟨⟨c0, c1, c2⟩, -, -, -⟩ := HO5.out
  go_wp2_with (refine wpList_rowLoadG (by rfl) 37 (.tmp 2) rfl _ 0 136 m.cell rfl HI5.out (by omega) (fun i _ => by rw [Nat.zero_add]) Tryz.underlying37 rfl (by kernel_rfl) ?_)
  refine Calls.mono (HSE.out w5) ?_
  rintro e w7 ⟨rfl, hb7⟩
  have HB7 : Hid (Below w.heap.size w w7) := HB5.out.trans (hb7.mono HB5.out.size)
  have HI7 : Hid (MemAt w7 w.heap.size m) := HI5.out.to hb7
  have HE7 : Hid (Own2 w7 (w.heap.size + 1) (.int .i64 4) (.slice p ys.length cap)) := HE5.out.below hb7
  have HR7 : Hid (MemAt w7 (w.heap.size + 1 + 1) zeroM) := HR5.out.to hb7
  have HO7 : Hid (Own w7 b1 (.int .i64 5) (.int .i64 bn) (.int .i64 bp)) := HO5.out.below hb7
  clear hb7 HB5 HI5 HE5 HR5 HO5 e0 e1 c0 c1 c2
  obtain ⟨⟨e0, e1⟩, -, -⟩ := HE7.out
  obtain ⟨⟨c0, c1, c2⟩, -, -, -⟩ := HO7.out
  go_wp2_with (refine wpList_rowLoad rfl 37 (.tmp 2) rfl _ 0 136 m.cell rfl HI7.out (by omega) (fun i _ => by rw [Nat.zero_add]) Tryz.underlying37 rfl (by kernel_rfl) ?_)
  refine Calls.mono (HSP.out w7) ?_
  rintro e w8 ⟨rfl, hb8⟩
  have HB8 : Hid (Below w.heap.size w w8) := HB7.out.trans (hb8.mono HB7.out.size)
  have HI8 : Hid (MemAt w8 w.heap.size m) := HI7.out.to hb8
  have HE8 : Hid (Own2 w8 (w.heap.size + 1) (.int .i64 4) (.slice p ys.length cap)) := HE7.out.below hb8
  have HR8 : Hid (MemAt w8 (w.heap.size + 1 + 1) zeroM) := HR7.out.to hb8
  clear hb8 HB7 HI7 HE7 HR7 HO7 e0 e1 c0 c1 c2
  go_upto_region 12 with (refine wpList_rowStore rfl 37 (.tmp 2) (.tmp 57) rfl _ 0 136 m'.cell m'.cell rfl rfl HI8.out (by omega) (fun i _ => cell_one m' i) (fun i hi => by rw [if_pos ⟨by omega, by omega⟩, Nat.sub_zero]) (by kernel_rfl) ?_; intro w9 HM9 hz9 hk9 hb9)
  have e0 : w9.cell? ⟨w.heap.size + 1, 0, none⟩ = some (.int .i64 4) := by rw [World.cell?_of_block (w := w8) (a := ⟨w.heap.size + 1, 0, none⟩) (hk9 _ (by show w.heap.size + 1 ≠ _; omega))]; exact HE8.out.1.1
  have HR9 : Hid (MemAt w9 (w.heap.size + 1 + 1) zeroM) := RowAt.by HR8.out (hk9 _ (by omega))
  have HM9' : Hid (MemAt w9 w.heap.size m') := HM9
  have HB9 : Hid (Below w.heap.size w w9) := hb9 _ _ HB8.out (Nat.le_refl _)
  clear HM9 hz9 hk9 hb9 HB8 HI8 HE8 HR8
  simp only [Act.put]
  cases nb <;> cases bb
  all_goals (
    go_wp2_with (first
      | refine wpList_rowLoad rfl 37 (.tmp 2) rfl _ 0 136 m'.cell rfl HM9'.out (by omega) (fun i _ => by rw [Nat.zero_add]) Tryz.underlying37 rfl (by kernel_rfl) ?_
      | (refine wpList_rowStore rfl 37 (.tmp 4) (.tmp 67) rfl _ 0 136 m'.cell m'.cell rfl rfl HR9.out (by omega) (fun i _ => cell_one m' i) (fun i hi => by rw [if_pos ⟨by omega, by omega⟩, Nat.sub_zero]) (by kernel_rfl) ?_; intro w6 HM6 hz6 hk6 hb6)))
  all_goals exact bodyPost_ret (resMB Tryz.results6 rfl rfl HM6) rfl ⟨rfl, hb6 _ _ HB9.out (by omega)⟩
end Go.Proofs.YtmgjngihngddfaaGreatDoor
