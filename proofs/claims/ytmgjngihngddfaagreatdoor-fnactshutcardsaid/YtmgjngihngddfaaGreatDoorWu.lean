/- What an edge says. Helper text: no statement is claimed here. -/
import Derived.Test.YtmgjngihngddfaaGreatDoorP10
import Derived.Test.YtmgjngihngddfaaGreatDoorP15
import Derived.Test.YtmgjngihngddfaaGreatDoorP01
import Derived.Test.YtmgjngihngddfaaGreatDoorP02
import Derived.Test.YtmgjngihngddfaaGreatDoorP16
namespace Go.Proofs.YtmgjngihngddfaaGreatDoor
open Go.ChangeShapes Go.WideShapes Go.ChangeAt Go.RowKit Fl

theorem range9V {w : World} {b : Nat} {y0 y1 y2 y3 y4 y5 y6 y7 y8 : Value} (h0 : w.cell? ⟨b, 0, none⟩ = some y0) (h1 : w.cell? ⟨b, 1, none⟩ = some y1) (h2 : w.cell? ⟨b, 2, none⟩ = some y2) (h3 : w.cell? ⟨b, 3, none⟩ = some y3) (h4 : w.cell? ⟨b, 4, none⟩ = some y4) (h5 : w.cell? ⟨b, 5, none⟩ = some y5) (h6 : w.cell? ⟨b, 6, none⟩ = some y6) (h7 : w.cell? ⟨b, 7, none⟩ = some y7) (h8 : w.cell? ⟨b, 8, none⟩ = some y8) : w.rangeAt b 0 [y0, y1, y2, y3, y4, y5, y6, y7, y8] := fun j v hv => by
  rw [Nat.zero_add]
  match j, hv with
  | 0, hv => simp at hv; rw [h0, hv]
  | 1, hv => simp at hv; rw [h1, hv]
  | 2, hv => simp at hv; rw [h2, hv]
  | 3, hv => simp at hv; rw [h3, hv]
  | 4, hv => simp at hv; rw [h4, hv]
  | 5, hv => simp at hv; rw [h5, hv]
  | 6, hv => simp at hv; rw [h6, hv]
  | 7, hv => simp at hv; rw [h7, hv]
  | 8, hv => simp at hv; rw [h8, hv]

set_option maxHeartbeats 1000000 in
set_option maxRecDepth 100000 in
theorem says_up (x : Nat → Int) (m m' : Mm) (hm : m.Ok) (nb ww : Bool) (w : World) (hT : DevTab w) (hnb : m.bit (x 0) (x 1) = nb)
    (HK : ∀ W, DevTab W → Calls Tryz.prog 84 #[lit9 x, m.val, .bool nb] W fun e w' => e = .returned m'.val ∧ Below W.heap.size W w')
    (HW : ∀ W, DevTab W → Calls Tryz.prog 85 #[lit9 x, m.val] W fun e w' => e = .returned (.bool ww) ∧ Below W.heap.size W w') :
    Calls Tryz.prog 83 #[lit9 x, m.val] w fun e w' => e = .returned (.tuple #[m'.val, .bool (nb && !ww)]) ∧ Below w.heap.size w w' := by
  have HT : Hid (DevTab w) := hT
  have hz : ∀ w, (zeroValue 37).run Tryz.prog w = .ok (.agg zeroM.cells) w := fun _ => by kernel_rfl
  have HS : Hid (∀ W, DevTab W → Calls Tryz.prog 9 #[m.val, .agg #[.int .i64 (x 0), .int .i64 (x 1), .int .i64 (x 2)]] W fun e w' => e = .returned (.bool nb) ∧ Below W.heap.size W w') := fun W hW => hnb ▸ ibit_any m hm _ _ _ W hW
  have HK' : Hid (∀ W, DevTab W → Calls Tryz.prog 84 #[lit9 x, m.val, .bool nb] W fun e w' => e = .returned m'.val ∧ Below W.heap.size W w') := HK
  have HW' : Hid (∀ W, DevTab W → Calls Tryz.prog 85 #[lit9 x, m.val] W fun e w' => e = .returned (.bool ww) ∧ Below W.heap.size W w') := HW
  clear hT hm hnb HK HW
  unfold lit9 at *
  generalize x 0 = x0 at *
  generalize x 1 = x1 at *
  generalize x 2 = x2 at *
  generalize x 3 = x3 at *
  generalize x 4 = x4 at *
  generalize x 5 = x5 at *
  generalize x 6 = x6 at *
  generalize x 7 = x7 at *
  generalize x 8 = x8 at *
  have hu : m.val = .agg m.cells := rfl
  rw [hu]
  clear hu
  go_enter Tryz.func83, Tryz.ntmps83
  go_upto_region 1 with fail
  have HB : Hid (Below w.heap.size w (((w.alloc (.cells #[.int .i64 x0, .int .i64 x1, .int .i64 x2, .int .i64 x3, .int .i64 x4, .int .i64 x5, .int .i64 x6, .int .i64 x7, .int .i64 x8] 89)).alloc (.cells m.cells 37)).alloc (.cells zeroM.cells 37))) := (((Below.refl _ _).alloc (Nat.le_refl _) _).alloc (by simp) _).alloc (by simp; omega) _
  have HI : Hid (MemAt (((w.alloc (.cells #[.int .i64 x0, .int .i64 x1, .int .i64 x2, .int .i64 x3, .int .i64 x4, .int .i64 x5, .int .i64 x6, .int .i64 x7, .int .i64 x8] 89)).alloc (.cells m.cells 37)).alloc (.cells zeroM.cells 37)) (w.heap.size + 1) m) := by
    have := (RowAt.new (w.alloc (.cells #[.int .i64 x0, .int .i64 x1, .int .i64 x2, .int .i64 x3, .int .i64 x4, .int .i64 x5, .int .i64 x6, .int .i64 x7, .int .i64 x8] 89)) 37 136 m.cell).alloc (.cells zeroM.cells 37)
    rw [show ((w.alloc (.cells #[.int .i64 x0, .int .i64 x1, .int .i64 x2, .int .i64 x3, .int .i64 x4, .int .i64 x5, .int .i64 x6, .int .i64 x7, .int .i64 x8] 89))).heap.size = w.heap.size + 1 by simp] at this
    exact this
  have HR : Hid (MemAt (((w.alloc (.cells #[.int .i64 x0, .int .i64 x1, .int .i64 x2, .int .i64 x3, .int .i64 x4, .int .i64 x5, .int .i64 x6, .int .i64 x7, .int .i64 x8] 89)).alloc (.cells m.cells 37)).alloc (.cells zeroM.cells 37)) (w.heap.size + 1 + 1) zeroM) := by
    have := RowAt.new ((w.alloc (.cells #[.int .i64 x0, .int .i64 x1, .int .i64 x2, .int .i64 x3, .int .i64 x4, .int .i64 x5, .int .i64 x6, .int .i64 x7, .int .i64 x8] 89)).alloc (.cells m.cells 37)) 37 136 zeroM.cell
    rw [show (((w.alloc (.cells #[.int .i64 x0, .int .i64 x1, .int .i64 x2, .int .i64 x3, .int .i64 x4, .int .i64 x5, .int .i64 x6, .int .i64 x7, .int .i64 x8] 89)).alloc (.cells m.cells 37))).heap.size = w.heap.size + 1 + 1 by simp] at this
    exact this
  have c0 : ((((w.alloc (.cells #[.int .i64 x0, .int .i64 x1, .int .i64 x2, .int .i64 x3, .int .i64 x4, .int .i64 x5, .int .i64 x6, .int .i64 x7, .int .i64 x8] 89)).alloc (.cells m.cells 37)).alloc (.cells zeroM.cells 37))).cell? ⟨w.heap.size, 0, none⟩ = some (.int .i64 x0) := by simp [go_sem]
  have c1 : ((((w.alloc (.cells #[.int .i64 x0, .int .i64 x1, .int .i64 x2, .int .i64 x3, .int .i64 x4, .int .i64 x5, .int .i64 x6, .int .i64 x7, .int .i64 x8] 89)).alloc (.cells m.cells 37)).alloc (.cells zeroM.cells 37))).cell? ⟨w.heap.size, 1, none⟩ = some (.int .i64 x1) := by simp [go_sem]
  have c2 : ((((w.alloc (.cells #[.int .i64 x0, .int .i64 x1, .int .i64 x2, .int .i64 x3, .int .i64 x4, .int .i64 x5, .int .i64 x6, .int .i64 x7, .int .i64 x8] 89)).alloc (.cells m.cells 37)).alloc (.cells zeroM.cells 37))).cell? ⟨w.heap.size, 2, none⟩ = some (.int .i64 x2) := by simp [go_sem]
  have c3 : ((((w.alloc (.cells #[.int .i64 x0, .int .i64 x1, .int .i64 x2, .int .i64 x3, .int .i64 x4, .int .i64 x5, .int .i64 x6, .int .i64 x7, .int .i64 x8] 89)).alloc (.cells m.cells 37)).alloc (.cells zeroM.cells 37))).cell? ⟨w.heap.size, 3, none⟩ = some (.int .i64 x3) := by simp [go_sem]
  have c4 : ((((w.alloc (.cells #[.int .i64 x0, .int .i64 x1, .int .i64 x2, .int .i64 x3, .int .i64 x4, .int .i64 x5, .int .i64 x6, .int .i64 x7, .int .i64 x8] 89)).alloc (.cells m.cells 37)).alloc (.cells zeroM.cells 37))).cell? ⟨w.heap.size, 4, none⟩ = some (.int .i64 x4) := by simp [go_sem]
  have c5 : ((((w.alloc (.cells #[.int .i64 x0, .int .i64 x1, .int .i64 x2, .int .i64 x3, .int .i64 x4, .int .i64 x5, .int .i64 x6, .int .i64 x7, .int .i64 x8] 89)).alloc (.cells m.cells 37)).alloc (.cells zeroM.cells 37))).cell? ⟨w.heap.size, 5, none⟩ = some (.int .i64 x5) := by simp [go_sem]
  have c6 : ((((w.alloc (.cells #[.int .i64 x0, .int .i64 x1, .int .i64 x2, .int .i64 x3, .int .i64 x4, .int .i64 x5, .int .i64 x6, .int .i64 x7, .int .i64 x8] 89)).alloc (.cells m.cells 37)).alloc (.cells zeroM.cells 37))).cell? ⟨w.heap.size, 6, none⟩ = some (.int .i64 x6) := by simp [go_sem]
  have c7 : ((((w.alloc (.cells #[.int .i64 x0, .int .i64 x1, .int .i64 x2, .int .i64 x3, .int .i64 x4, .int .i64 x5, .int .i64 x6, .int .i64 x7, .int .i64 x8] 89)).alloc (.cells m.cells 37)).alloc (.cells zeroM.cells 37))).cell? ⟨w.heap.size, 7, none⟩ = some (.int .i64 x7) := by simp [go_sem]
  have c8 : ((((w.alloc (.cells #[.int .i64 x0, .int .i64 x1, .int .i64 x2, .int .i64 x3, .int .i64 x4, .int .i64 x5, .int .i64 x6, .int .i64 x7, .int .i64 x8] 89)).alloc (.cells m.cells 37)).alloc (.cells zeroM.cells 37))).cell? ⟨w.heap.size, 8, none⟩ = some (.int .i64 x8) := by simp [go_sem]
  have hlt : w.heap.size + 1 + 1 < ((((w.alloc (.cells #[.int .i64 x0, .int .i64 x1, .int .i64 x2, .int .i64 x3, .int .i64 x4, .int .i64 x5, .int .i64 x6, .int .i64 x7, .int .i64 x8] 89)).alloc (.cells m.cells 37)).alloc (.cells zeroM.cells 37))).heap.size := HR.out.lt
  generalize (((w.alloc (.cells #[.int .i64 x0, .int .i64 x1, .int .i64 x2, .int .i64 x3, .int .i64 x4, .int .i64 x5, .int .i64 x6, .int .i64 x7, .int .i64 x8] 89)).alloc (.cells m.cells 37)).alloc (.cells zeroM.cells 37)) = V at *
  clear hz
  go_wp2_with (refine wpList_rowLoad rfl 37 (.tmp 3) rfl _ 0 136 m.cell rfl HI.out (by omega) (fun i _ => by rw [Nat.zero_add]) Tryz.underlying37 rfl (by kernel_rfl) ?_)
  refine Calls.mono (HS.out V (HT.out.to HB.out)) ?_
  rintro e w1 ⟨rfl, hb1⟩
  have HB1 : Hid (Below w.heap.size w w1) := HB.out.trans (hb1.mono HB.out.size)
  have HI1 : Hid (MemAt w1 (w.heap.size + 1) m) := HI.out.to hb1
  have HR1 : Hid (MemAt w1 (w.heap.size + 1 + 1) zeroM) := HR.out.to hb1
  have d0 : w1.cell? ⟨w.heap.size, 0, none⟩ = some (.int .i64 x0) := (hb1.cell (p := ⟨w.heap.size, 0, none⟩) (World.block_lt_of_cell? V _ c0)).trans c0
  have d1 : w1.cell? ⟨w.heap.size, 1, none⟩ = some (.int .i64 x1) := (hb1.cell (p := ⟨w.heap.size, 1, none⟩) (World.block_lt_of_cell? V _ c1)).trans c1
  have d2 : w1.cell? ⟨w.heap.size, 2, none⟩ = some (.int .i64 x2) := (hb1.cell (p := ⟨w.heap.size, 2, none⟩) (World.block_lt_of_cell? V _ c2)).trans c2
  have d3 : w1.cell? ⟨w.heap.size, 3, none⟩ = some (.int .i64 x3) := (hb1.cell (p := ⟨w.heap.size, 3, none⟩) (World.block_lt_of_cell? V _ c3)).trans c3
  have d4 : w1.cell? ⟨w.heap.size, 4, none⟩ = some (.int .i64 x4) := (hb1.cell (p := ⟨w.heap.size, 4, none⟩) (World.block_lt_of_cell? V _ c4)).trans c4
  have d5 : w1.cell? ⟨w.heap.size, 5, none⟩ = some (.int .i64 x5) := (hb1.cell (p := ⟨w.heap.size, 5, none⟩) (World.block_lt_of_cell? V _ c5)).trans c5
  have d6 : w1.cell? ⟨w.heap.size, 6, none⟩ = some (.int .i64 x6) := (hb1.cell (p := ⟨w.heap.size, 6, none⟩) (World.block_lt_of_cell? V _ c6)).trans c6
  have d7 : w1.cell? ⟨w.heap.size, 7, none⟩ = some (.int .i64 x7) := (hb1.cell (p := ⟨w.heap.size, 7, none⟩) (World.block_lt_of_cell? V _ c7)).trans c7
  have d8 : w1.cell? ⟨w.heap.size, 8, none⟩ = some (.int .i64 x8) := (hb1.cell (p := ⟨w.heap.size, 8, none⟩) (World.block_lt_of_cell? V _ c8)).trans c8
  have hlt1 : w.heap.size + 1 + 1 < w1.heap.size := HR1.out.lt
  clear hb1 HB HI HR HS hlt c0 c1 c2 c3 c4 c5 c6 c7 c8
  go_wp2_with (refine wpList_rowLoad rfl 37 (.tmp 3) rfl _ 0 136 m.cell rfl HI1.out (by omega) (fun i _ => by rw [Nat.zero_add]) Tryz.underlying37 rfl (by kernel_rfl) ?_)
  refine Calls.mono (HK'.out w1 (HT.out.to HB1.out)) ?_
  rintro e w2 ⟨rfl, hb2⟩
  have HB2 : Hid (Below w.heap.size w w2) := HB1.out.trans (hb2.mono HB1.out.size)
  have HI2 : Hid (MemAt w2 (w.heap.size + 1) m) := HI1.out.to hb2
  have HR2 : Hid (MemAt w2 (w.heap.size + 1 + 1) zeroM) := HR1.out.to hb2
  have c0 : w2.cell? ⟨w.heap.size, 0, none⟩ = some (.int .i64 x0) := (hb2.cell (p := ⟨w.heap.size, 0, none⟩) (World.block_lt_of_cell? w1 _ d0)).trans d0
  have c1 : w2.cell? ⟨w.heap.size, 1, none⟩ = some (.int .i64 x1) := (hb2.cell (p := ⟨w.heap.size, 1, none⟩) (World.block_lt_of_cell? w1 _ d1)).trans d1
  have c2 : w2.cell? ⟨w.heap.size, 2, none⟩ = some (.int .i64 x2) := (hb2.cell (p := ⟨w.heap.size, 2, none⟩) (World.block_lt_of_cell? w1 _ d2)).trans d2
  have c3 : w2.cell? ⟨w.heap.size, 3, none⟩ = some (.int .i64 x3) := (hb2.cell (p := ⟨w.heap.size, 3, none⟩) (World.block_lt_of_cell? w1 _ d3)).trans d3
  have c4 : w2.cell? ⟨w.heap.size, 4, none⟩ = some (.int .i64 x4) := (hb2.cell (p := ⟨w.heap.size, 4, none⟩) (World.block_lt_of_cell? w1 _ d4)).trans d4
  have c5 : w2.cell? ⟨w.heap.size, 5, none⟩ = some (.int .i64 x5) := (hb2.cell (p := ⟨w.heap.size, 5, none⟩) (World.block_lt_of_cell? w1 _ d5)).trans d5
  have c6 : w2.cell? ⟨w.heap.size, 6, none⟩ = some (.int .i64 x6) := (hb2.cell (p := ⟨w.heap.size, 6, none⟩) (World.block_lt_of_cell? w1 _ d6)).trans d6
  have c7 : w2.cell? ⟨w.heap.size, 7, none⟩ = some (.int .i64 x7) := (hb2.cell (p := ⟨w.heap.size, 7, none⟩) (World.block_lt_of_cell? w1 _ d7)).trans d7
  have c8 : w2.cell? ⟨w.heap.size, 8, none⟩ = some (.int .i64 x8) := (hb2.cell (p := ⟨w.heap.size, 8, none⟩) (World.block_lt_of_cell? w1 _ d8)).trans d8
  clear hb2 HB1 HI1 HR1 hlt1 d0 d1 d2 d3 d4 d5 d6 d7 d8
  cases nb
  · go_wp2_with ((refine wpList_rowStore rfl 37 (.tmp 4) (.tmp 16) rfl _ 0 136 m'.cell m'.cell rfl rfl HR2.out (by omega) (fun i _ => cell_one m' i) (fun i hi => by rw [if_pos ⟨by omega, by omega⟩, Nat.sub_zero]) (by kernel_rfl) ?_; intro w8 HM8 hz8 hk8 hb8))
    exact bodyPost_ret (resMB Tryz.results83 rfl rfl HM8) rfl ⟨rfl, hb8 _ _ HB2.out (by omega)⟩
  · go_wp2_with (refine wpList_rowLoadG (by rfl) 37 (.tmp 3) rfl _ 0 136 m.cell rfl HI2.out (by omega) (fun i _ => by rw [Nat.zero_add]) Tryz.underlying37 rfl (by kernel_rfl) ?_)
    refine Calls.mono (HW'.out w2 (HT.out.to HB2.out)) ?_
    rintro e w3 ⟨rfl, hb3⟩
    have HB3 : Hid (Below w.heap.size w w3) := HB2.out.trans (hb3.mono HB2.out.size)
    have HR3 : Hid (MemAt w3 (w.heap.size + 1 + 1) zeroM) := HR2.out.to hb3
    clear hb3 HB2 HI2 HR2
    go_wp2_with (refine wpList_rowStore rfl 37 (.tmp 4) (.tmp 16) rfl _ 0 136 m'.cell m'.cell rfl rfl HR3.out (by omega) (fun i _ => cell_one m' i) (fun i hi => by rw [if_pos ⟨by omega, by omega⟩, Nat.sub_zero]) (by kernel_rfl) ?_; intro w8 HM8 hz8 hk8 hb8)
    exact bodyPost_ret (resMB Tryz.results83 rfl rfl HM8) rfl ⟨by simp, hb8 _ _ HB3.out (by omega)⟩

set_option maxHeartbeats 1000000 in
set_option maxRecDepth 100000 in
theorem says_down (x : Nat → Int) (m m' : Mm) (hm : m.Ok) (nb ww : Bool) (w : World) (hT : DevTab w) (hnb : m.bit (x 0) (x 1) = nb)
    (HK : ∀ W, DevTab W → Calls Tryz.prog 84 #[lit9 x, m.val, .bool nb] W fun e w' => e = .returned m'.val ∧ Below W.heap.size W w')
    (HW : ∀ W, DevTab W → Calls Tryz.prog 85 #[lit9 x, m.val] W fun e w' => e = .returned (.bool ww) ∧ Below W.heap.size W w') :
    Calls Tryz.prog 86 #[lit9 x, m.val] w fun e w' => e = .returned (.tuple #[m'.val, .bool (ww && !nb)]) ∧ Below w.heap.size w w' := by
  have HT : Hid (DevTab w) := hT
  have hz : ∀ w, (zeroValue 37).run Tryz.prog w = .ok (.agg zeroM.cells) w := fun _ => by kernel_rfl
  have HS : Hid (∀ W, DevTab W → Calls Tryz.prog 9 #[m.val, .agg #[.int .i64 (x 0), .int .i64 (x 1), .int .i64 (x 2)]] W fun e w' => e = .returned (.bool nb) ∧ Below W.heap.size W w') := fun W hW => hnb ▸ ibit_any m hm _ _ _ W hW
  have HK' : Hid (∀ W, DevTab W → Calls Tryz.prog 84 #[lit9 x, m.val, .bool nb] W fun e w' => e = .returned m'.val ∧ Below W.heap.size W w') := HK
  have HW' : Hid (∀ W, DevTab W → Calls Tryz.prog 85 #[lit9 x, m.val] W fun e w' => e = .returned (.bool ww) ∧ Below W.heap.size W w') := HW
  clear hT hm hnb HK HW
  unfold lit9 at *
  generalize x 0 = x0 at *
  generalize x 1 = x1 at *
  generalize x 2 = x2 at *
  generalize x 3 = x3 at *
  generalize x 4 = x4 at *
  generalize x 5 = x5 at *
  generalize x 6 = x6 at *
  generalize x 7 = x7 at *
  generalize x 8 = x8 at *
  have hu : m.val = .agg m.cells := rfl
  rw [hu]
  clear hu
  go_enter Tryz.func86, Tryz.ntmps86
  go_upto_region 1 with fail
  have HB : Hid (Below w.heap.size w (((w.alloc (.cells #[.int .i64 x0, .int .i64 x1, .int .i64 x2, .int .i64 x3, .int .i64 x4, .int .i64 x5, .int .i64 x6, .int .i64 x7, .int .i64 x8] 90)).alloc (.cells m.cells 37)).alloc (.cells zeroM.cells 37))) := (((Below.refl _ _).alloc (Nat.le_refl _) _).alloc (by simp) _).alloc (by simp; omega) _
  have HI : Hid (MemAt (((w.alloc (.cells #[.int .i64 x0, .int .i64 x1, .int .i64 x2, .int .i64 x3, .int .i64 x4, .int .i64 x5, .int .i64 x6, .int .i64 x7, .int .i64 x8] 90)).alloc (.cells m.cells 37)).alloc (.cells zeroM.cells 37)) (w.heap.size + 1) m) := by
    have := (RowAt.new (w.alloc (.cells #[.int .i64 x0, .int .i64 x1, .int .i64 x2, .int .i64 x3, .int .i64 x4, .int .i64 x5, .int .i64 x6, .int .i64 x7, .int .i64 x8] 90)) 37 136 m.cell).alloc (.cells zeroM.cells 37)
    rw [show ((w.alloc (.cells #[.int .i64 x0, .int .i64 x1, .int .i64 x2, .int .i64 x3, .int .i64 x4, .int .i64 x5, .int .i64 x6, .int .i64 x7, .int .i64 x8] 90))).heap.size = w.heap.size + 1 by simp] at this
    exact this
  have HR : Hid (MemAt (((w.alloc (.cells #[.int .i64 x0, .int .i64 x1, .int .i64 x2, .int .i64 x3, .int .i64 x4, .int .i64 x5, .int .i64 x6, .int .i64 x7, .int .i64 x8] 90)).alloc (.cells m.cells 37)).alloc (.cells zeroM.cells 37)) (w.heap.size + 1 + 1) zeroM) := by
    have := RowAt.new ((w.alloc (.cells #[.int .i64 x0, .int .i64 x1, .int .i64 x2, .int .i64 x3, .int .i64 x4, .int .i64 x5, .int .i64 x6, .int .i64 x7, .int .i64 x8] 90)).alloc (.cells m.cells 37)) 37 136 zeroM.cell
    rw [show (((w.alloc (.cells #[.int .i64 x0, .int .i64 x1, .int .i64 x2, .int .i64 x3, .int .i64 x4, .int .i64 x5, .int .i64 x6, .int .i64 x7, .int .i64 x8] 90)).alloc (.cells m.cells 37))).heap.size = w.heap.size + 1 + 1 by simp] at this
    exact this
  have c0 : ((((w.alloc (.cells #[.int .i64 x0, .int .i64 x1, .int .i64 x2, .int .i64 x3, .int .i64 x4, .int .i64 x5, .int .i64 x6, .int .i64 x7, .int .i64 x8] 90)).alloc (.cells m.cells 37)).alloc (.cells zeroM.cells 37))).cell? ⟨w.heap.size, 0, none⟩ = some (.int .i64 x0) := by simp [go_sem]
  have c1 : ((((w.alloc (.cells #[.int .i64 x0, .int .i64 x1, .int .i64 x2, .int .i64 x3, .int .i64 x4, .int .i64 x5, .int .i64 x6, .int .i64 x7, .int .i64 x8] 90)).alloc (.cells m.cells 37)).alloc (.cells zeroM.cells 37))).cell? ⟨w.heap.size, 1, none⟩ = some (.int .i64 x1) := by simp [go_sem]
  have c2 : ((((w.alloc (.cells #[.int .i64 x0, .int .i64 x1, .int .i64 x2, .int .i64 x3, .int .i64 x4, .int .i64 x5, .int .i64 x6, .int .i64 x7, .int .i64 x8] 90)).alloc (.cells m.cells 37)).alloc (.cells zeroM.cells 37))).cell? ⟨w.heap.size, 2, none⟩ = some (.int .i64 x2) := by simp [go_sem]
  have c3 : ((((w.alloc (.cells #[.int .i64 x0, .int .i64 x1, .int .i64 x2, .int .i64 x3, .int .i64 x4, .int .i64 x5, .int .i64 x6, .int .i64 x7, .int .i64 x8] 90)).alloc (.cells m.cells 37)).alloc (.cells zeroM.cells 37))).cell? ⟨w.heap.size, 3, none⟩ = some (.int .i64 x3) := by simp [go_sem]
  have c4 : ((((w.alloc (.cells #[.int .i64 x0, .int .i64 x1, .int .i64 x2, .int .i64 x3, .int .i64 x4, .int .i64 x5, .int .i64 x6, .int .i64 x7, .int .i64 x8] 90)).alloc (.cells m.cells 37)).alloc (.cells zeroM.cells 37))).cell? ⟨w.heap.size, 4, none⟩ = some (.int .i64 x4) := by simp [go_sem]
  have c5 : ((((w.alloc (.cells #[.int .i64 x0, .int .i64 x1, .int .i64 x2, .int .i64 x3, .int .i64 x4, .int .i64 x5, .int .i64 x6, .int .i64 x7, .int .i64 x8] 90)).alloc (.cells m.cells 37)).alloc (.cells zeroM.cells 37))).cell? ⟨w.heap.size, 5, none⟩ = some (.int .i64 x5) := by simp [go_sem]
  have c6 : ((((w.alloc (.cells #[.int .i64 x0, .int .i64 x1, .int .i64 x2, .int .i64 x3, .int .i64 x4, .int .i64 x5, .int .i64 x6, .int .i64 x7, .int .i64 x8] 90)).alloc (.cells m.cells 37)).alloc (.cells zeroM.cells 37))).cell? ⟨w.heap.size, 6, none⟩ = some (.int .i64 x6) := by simp [go_sem]
  have c7 : ((((w.alloc (.cells #[.int .i64 x0, .int .i64 x1, .int .i64 x2, .int .i64 x3, .int .i64 x4, .int .i64 x5, .int .i64 x6, .int .i64 x7, .int .i64 x8] 90)).alloc (.cells m.cells 37)).alloc (.cells zeroM.cells 37))).cell? ⟨w.heap.size, 7, none⟩ = some (.int .i64 x7) := by simp [go_sem]
  have c8 : ((((w.alloc (.cells #[.int .i64 x0, .int .i64 x1, .int .i64 x2, .int .i64 x3, .int .i64 x4, .int .i64 x5, .int .i64 x6, .int .i64 x7, .int .i64 x8] 90)).alloc (.cells m.cells 37)).alloc (.cells zeroM.cells 37))).cell? ⟨w.heap.size, 8, none⟩ = some (.int .i64 x8) := by simp [go_sem]
  have hlt : w.heap.size + 1 + 1 < ((((w.alloc (.cells #[.int .i64 x0, .int .i64 x1, .int .i64 x2, .int .i64 x3, .int .i64 x4, .int .i64 x5, .int .i64 x6, .int .i64 x7, .int .i64 x8] 90)).alloc (.cells m.cells 37)).alloc (.cells zeroM.cells 37))).heap.size := HR.out.lt
  generalize (((w.alloc (.cells #[.int .i64 x0, .int .i64 x1, .int .i64 x2, .int .i64 x3, .int .i64 x4, .int .i64 x5, .int .i64 x6, .int .i64 x7, .int .i64 x8] 90)).alloc (.cells m.cells 37)).alloc (.cells zeroM.cells 37)) = V at *
  clear hz
  go_wp2_with (refine wpList_rowLoad rfl 37 (.tmp 3) rfl _ 0 136 m.cell rfl HI.out (by omega) (fun i _ => by rw [Nat.zero_add]) Tryz.underlying37 rfl (by kernel_rfl) ?_)
  refine Calls.mono (HS.out V (HT.out.to HB.out)) ?_
  rintro e w1 ⟨rfl, hb1⟩
  have HB1 : Hid (Below w.heap.size w w1) := HB.out.trans (hb1.mono HB.out.size)
  have HI1 : Hid (MemAt w1 (w.heap.size + 1) m) := HI.out.to hb1
  have HR1 : Hid (MemAt w1 (w.heap.size + 1 + 1) zeroM) := HR.out.to hb1
  have d0 : w1.cell? ⟨w.heap.size, 0, none⟩ = some (.int .i64 x0) := (hb1.cell (p := ⟨w.heap.size, 0, none⟩) (World.block_lt_of_cell? V _ c0)).trans c0
  have d1 : w1.cell? ⟨w.heap.size, 1, none⟩ = some (.int .i64 x1) := (hb1.cell (p := ⟨w.heap.size, 1, none⟩) (World.block_lt_of_cell? V _ c1)).trans c1
  have d2 : w1.cell? ⟨w.heap.size, 2, none⟩ = some (.int .i64 x2) := (hb1.cell (p := ⟨w.heap.size, 2, none⟩) (World.block_lt_of_cell? V _ c2)).trans c2
  have d3 : w1.cell? ⟨w.heap.size, 3, none⟩ = some (.int .i64 x3) := (hb1.cell (p := ⟨w.heap.size, 3, none⟩) (World.block_lt_of_cell? V _ c3)).trans c3
  have d4 : w1.cell? ⟨w.heap.size, 4, none⟩ = some (.int .i64 x4) := (hb1.cell (p := ⟨w.heap.size, 4, none⟩) (World.block_lt_of_cell? V _ c4)).trans c4
  have d5 : w1.cell? ⟨w.heap.size, 5, none⟩ = some (.int .i64 x5) := (hb1.cell (p := ⟨w.heap.size, 5, none⟩) (World.block_lt_of_cell? V _ c5)).trans c5
  have d6 : w1.cell? ⟨w.heap.size, 6, none⟩ = some (.int .i64 x6) := (hb1.cell (p := ⟨w.heap.size, 6, none⟩) (World.block_lt_of_cell? V _ c6)).trans c6
  have d7 : w1.cell? ⟨w.heap.size, 7, none⟩ = some (.int .i64 x7) := (hb1.cell (p := ⟨w.heap.size, 7, none⟩) (World.block_lt_of_cell? V _ c7)).trans c7
  have d8 : w1.cell? ⟨w.heap.size, 8, none⟩ = some (.int .i64 x8) := (hb1.cell (p := ⟨w.heap.size, 8, none⟩) (World.block_lt_of_cell? V _ c8)).trans c8
  have hlt1 : w.heap.size + 1 + 1 < w1.heap.size := HR1.out.lt
  clear hb1 HB HI HR HS hlt c0 c1 c2 c3 c4 c5 c6 c7 c8
  have rn : w1.rangeAt w.heap.size 0 [.int .i64 x0, .int .i64 x1, .int .i64 x2, .int .i64 x3, .int .i64 x4, .int .i64 x5, .int .i64 x6, .int .i64 x7, .int .i64 x8] := range9V d0 d1 d2 d3 d4 d5 d6 d7 d8
  clear d0 d1 d2 d3 d4 d5 d6 d7 d8
  go_upto_region 2 with fail
  refine wp_region_noPanic ?_
  refine wp_region_held_drew (S := Same1 w1 (w.heap.size + 1 + 1)) (by kernel_rfl) (Same1.of _ (Below.refl _ _).drew) (fun hHeld => ?_)
  refine wpAnyH_take (i := 0) (oi := { dst := some 12, op := .fieldAddr 90 (.tmp 2) 0, type := 0, pos := _, after := #[], guard := none }) (v := .pointer (some ⟨w.heap.size, 0, none⟩)) rfl (by kernel_rfl) (by kernel_rfl) (by kernel_rfl) (fun _ _ _ h => h) (.inl ⟨by rfl, fun _ _ => rfl⟩) hHeld ?_
  simp only [Act.put, List.setIfInBounds_toArray, List.set_cons_zero, List.set_cons_succ]
  refine wpAnyH_take (i := 1) (oi := { dst := some 13, op := .load 84 (.tmp 12), type := 84, pos := _, after := #[{ on := 0, ground := .data }], guard := none }) (v := .agg #[.int .i64 x0, .int .i64 x1, .int .i64 x2, .int .i64 x3, .int .i64 x4, .int .i64 x5, .int .i64 x6, .int .i64 x7, .int .i64 x8]) rfl (by kernel_rfl) (by kernel_rfl) (by kernel_rfl) (fun _ _ _ h => h) (yieldsIf_load_mid (by rfl) _ _ rfl w.heap.size 0 rfl [.int .i64 x0, .int .i64 x1, .int .i64 x2, .int .i64 x3, .int .i64 x4, .int .i64 x5, .int .i64 x6, .int .i64 x7, .int .i64 x8] _ (fun W h => h.range rn (by omega) (by omega)) Tryz.underlying84 rfl (by kernel_rfl)) hHeld ?_
  simp only [Act.put, List.setIfInBounds_toArray, List.set_cons_zero, List.set_cons_succ]
  refine wpAnyH_take (i := 2) (oi := { dst := some 14, op := .load 37 (.tmp 3), type := 37, pos := _, after := #[], guard := none }) (v := m.val) rfl (by kernel_rfl) (by kernel_rfl) (by kernel_rfl) (fun _ _ _ h => h) (yields_row (by rfl) (.tmp 3) rfl rfl (fun W hb => hb.mem HI1.out (by omega)) Tryz.underlying37 rfl (by kernel_rfl)) hHeld ?_
  simp only [Act.put, List.setIfInBounds_toArray, List.set_cons_zero, List.set_cons_succ]
  refine wpAnyH_take (i := 3) (oi := { dst := some 15, op := .move (.tmp 6), type := 4, pos := _, after := #[], guard := none }) (v := .bool nb) rfl (by kernel_rfl) (by kernel_rfl) (by kernel_rfl) (fun _ _ _ h => h) (.inl ⟨by rfl, fun _ _ => rfl⟩) hHeld ?_
  simp only [Act.put, List.setIfInBounds_toArray, List.set_cons_zero, List.set_cons_succ]
  refine wpAnyH_take (i := 5) (oi := { dst := some 17, op := .fieldAddr 90 (.tmp 2) 0, type := 0, pos := _, after := #[], guard := none }) (v := .pointer (some ⟨w.heap.size, 0, none⟩)) rfl (by kernel_rfl) (by kernel_rfl) (by kernel_rfl) (fun _ _ _ h => h) (.inl ⟨by rfl, fun _ _ => rfl⟩) hHeld ?_
  simp only [Act.put, List.setIfInBounds_toArray, List.set_cons_zero, List.set_cons_succ]
  refine wpAnyH_take (i := 6) (oi := { dst := some 18, op := .load 84 (.tmp 17), type := 84, pos := _, after := #[{ on := 5, ground := .data }], guard := none }) (v := .agg #[.int .i64 x0, .int .i64 x1, .int .i64 x2, .int .i64 x3, .int .i64 x4, .int .i64 x5, .int .i64 x6, .int .i64 x7, .int .i64 x8]) rfl (by kernel_rfl) (by kernel_rfl) (by kernel_rfl) (fun _ _ _ h => h) (yieldsIf_load_mid (by rfl) _ _ rfl w.heap.size 0 rfl [.int .i64 x0, .int .i64 x1, .int .i64 x2, .int .i64 x3, .int .i64 x4, .int .i64 x5, .int .i64 x6, .int .i64 x7, .int .i64 x8] _ (fun W h => h.range rn (by omega) (by omega)) Tryz.underlying84 rfl (by kernel_rfl)) hHeld ?_
  simp only [Act.put, List.setIfInBounds_toArray, List.set_cons_zero, List.set_cons_succ]
  refine wpAnyH_take (i := 7) (oi := { dst := some 19, op := .load 37 (.tmp 3), type := 37, pos := _, after := #[], guard := none }) (v := m.val) rfl (by kernel_rfl) (by kernel_rfl) (by kernel_rfl) (fun _ _ _ h => h) (yields_row (by rfl) (.tmp 3) rfl rfl (fun W hb => hb.mem HI1.out (by omega)) Tryz.underlying37 rfl (by kernel_rfl)) hHeld ?_
  simp only [Act.put, List.setIfInBounds_toArray, List.set_cons_zero, List.set_cons_succ]
  refine wpAnyH_ready (rs := [4]) (by kernel_rfl) (by simp) ?_
  refine AllReadyH.cons (o := { dst := some 16, op := .call { callee := .value (.func 84), args := #[.tmp 13, .tmp 14, .tmp 15], argTypes := #[84, 37, 4] }, type := 37, pos := _, after := #[{ on := 1, ground := .data }, { on := 2, ground := .data }, { on := 3, ground := .data }], guard := none }) rfl (fun K hK => ?_) AllReadyH.nil
  rw [if_pos (by rfl)]
  refine wp_callGo (args := #[.agg #[.int .i64 x0, .int .i64 x1, .int .i64 x2, .int .i64 x3, .int .i64 x4, .int .i64 x5, .int .i64 x6, .int .i64 x7, .int .i64 x8], m.val, .bool nb]) Tryz.call84 rfl (by simp [Act.eval]) (HK'.out _ ((HT.out.to HB1.out).to (Below.refl _ _).drew)) ?_
  intro w6 hb6
  have hl6 : Below w1.heap.size w1 w6 := (Below.refl _ _).drew.trans (hb6.mono (Nat.le_refl _))
  clear hb6
  refine hK.out _ _ (Same1.of _ hl6) (fun hHeld => ?_)
  simp only [Act.put, List.setIfInBounds_toArray, List.set_cons_zero, List.set_cons_succ]
  refine wpAnyH_ready (rs := [8]) (by kernel_rfl) (by simp) ?_
  refine AllReadyH.cons (o := { dst := some 20, op := .call { callee := .value (.func 85), args := #[.tmp 18, .tmp 19], argTypes := #[84, 37] }, type := 4, pos := _, after := #[{ on := 6, ground := .data }, { on := 7, ground := .data }, { on := 4, ground := .chain }], guard := none }) rfl (fun K hK => ?_) AllReadyH.nil
  rw [if_pos (by rfl)]
  refine wp_callGo (args := #[.agg #[.int .i64 x0, .int .i64 x1, .int .i64 x2, .int .i64 x3, .int .i64 x4, .int .i64 x5, .int .i64 x6, .int .i64 x7, .int .i64 x8], m.val]) Tryz.call85 rfl (by simp [Act.eval]) (HW'.out _ ((HT.out.to HB1.out).to hl6)) ?_
  intro w7 hb7
  have hl7 : Below w1.heap.size w1 w7 := hl6.trans (hb7.mono hl6.size)
  clear hb7 hl6
  refine hK.out _ _ (Same1.of _ hl7) (fun hHeld => ?_)
  simp only [Act.put, List.setIfInBounds_toArray, List.set_cons_zero, List.set_cons_succ]
  refine wpAnyH_take (i := 9) (oi := { dst := some 21, op := .move (.tmp 20), type := 4, pos := _, after := #[{ on := 8, ground := .data }, { on := 8, ground := .chain }], guard := none }) (v := .bool ww) rfl (by kernel_rfl) (by kernel_rfl) (by kernel_rfl) (fun _ _ _ h => h) (.inl ⟨by rfl, fun _ _ => rfl⟩) hHeld ?_
  simp only [Act.put, List.setIfInBounds_toArray, List.set_cons_zero, List.set_cons_succ]
  cases ww
  · refine wpAnyH_take (i := 10) (oi := { dst := some 22, op := .move (.tmp 6), type := 4, pos := _, after := #[{ on := 9, ground := .guard }, { on := 13, ground := .gcOnly .lateStores }], guard := some (9, true) }) (v := undef) rfl (by kernel_rfl) (by kernel_rfl) (by kernel_rfl) (fun _ _ _ h => h) (.inr ⟨by rfl, rfl⟩) hHeld ?_
    simp only [Act.put, List.setIfInBounds_toArray, List.set_cons_zero, List.set_cons_succ]
    refine wpAnyH_take (i := 11) (oi := { dst := some 23, op := .unOp .not 4 (.tmp 22), type := 4, pos := _, after := #[{ on := 10, ground := .data }, { on := 9, ground := .guard }, { on := 13, ground := .gcOnly .lateStores }], guard := some (9, true) }) (v := undef) rfl (by kernel_rfl) (by kernel_rfl) (by kernel_rfl) (fun _ _ _ h => h) (.inr ⟨by rfl, rfl⟩) hHeld ?_
    simp only [Act.put, List.setIfInBounds_toArray, List.set_cons_zero, List.set_cons_succ]
    refine wpAnyH_take (i := 12) (oi := { dst := some 24, op := .pick (.tmp 21) (.tmp 23) (.const (.bool false)), type := 4, pos := _, after := #[{ on := 9, ground := .data }, { on := 11, ground := .data }, { on := 13, ground := .gcOnly .lateStores }], guard := none }) (v := .bool false) rfl (by kernel_rfl) (by kernel_rfl) (by kernel_rfl) (fun _ _ _ h => h) (.inl ⟨by rfl, fun _ _ => rfl⟩) hHeld ?_
    simp only [Act.put, List.setIfInBounds_toArray, List.set_cons_zero, List.set_cons_succ]
    refine wpAnyH_ready (rs := [13]) (by kernel_rfl) (by simp) ?_
    refine AllReadyH.cons (o := { dst := none, op := .store 37 (.tmp 4) (.tmp 16), type := 0, pos := _, after := #[{ on := 4, ground := .data }, { on := 9, ground := .chain }, { on := 0, ground := .phase }, { on := 1, ground := .phase }, { on := 2, ground := .phase }, { on := 3, ground := .phase }, { on := 4, ground := .phase }, { on := 5, ground := .textOnly .lateStores }, { on := 6, ground := .textOnly .lateStores }, { on := 7, ground := .textOnly .lateStores }, { on := 8, ground := .textOnly .lateStoresUnsure }, { on := 9, ground := .textOnly .lateStores }, { on := 10, ground := .textOnly .lateStores }, { on := 11, ground := .textOnly .lateStores }, { on := 12, ground := .textOnly .lateStores }], guard := none }) rfl (fun K hK => ?_) AllReadyH.nil
    rw [if_pos (by rfl)]
    with_reducible refine wp_storeMemV (m := m') (b := w.heap.size + 1 + 1) (.tmp 4) (.tmp 16) ?_ ?_ ?_ (HR1.out.to hl7) ?_
    · rfl
    · simp [Act.eval]
    · simp [Act.eval]
    intro w8 HM8 hk8 hb8
    refine hK.out _ _ ((Same1.of _ hl7).on hk8) (fun hHeld => ?_)
    simp only [Act.put]
    refine wpAnyH_take (i := 14) (oi := { dst := some 5, op := .assign (.tmp 24), type := 4, pos := _, after := #[{ on := 12, ground := .data }, { on := 13, ground := .chain }, { on := 0, ground := .phase }, { on := 1, ground := .phase }, { on := 2, ground := .phase }, { on := 3, ground := .phase }, { on := 4, ground := .phase }, { on := 5, ground := .phase }, { on := 6, ground := .phase }, { on := 7, ground := .phase }, { on := 8, ground := .phase }, { on := 9, ground := .phase }, { on := 10, ground := .phase }, { on := 11, ground := .phase }, { on := 12, ground := .phase }, { on := 13, ground := .phase }], guard := none }) (v := .bool false) rfl (by kernel_rfl) (by kernel_rfl) (by kernel_rfl) (fun _ _ _ h => h) (.inl ⟨by rfl, fun _ _ => rfl⟩) hHeld ?_
    simp only [Act.put, List.setIfInBounds_toArray, List.set_cons_zero, List.set_cons_succ]
    have HB8 : Hid (Below w.heap.size w w8) := hb8 _ _ (HB1.out.trans (hl7.mono HB1.out.size)) (by omega)
    refine wpAnyH_done ?_ ?_ _
    · kernel_rfl
    refine NoPanic.normal ?_
    go_wp2_with fail
    exact bodyPost_ret (resMB Tryz.results86 rfl rfl HM8) rfl ⟨by simp, HB8.out⟩
  · refine wpAnyH_take (i := 10) (oi := { dst := some 22, op := .move (.tmp 6), type := 4, pos := _, after := #[{ on := 9, ground := .guard }, { on := 13, ground := .gcOnly .lateStores }], guard := some (9, true) }) (v := .bool nb) rfl (by kernel_rfl) (by kernel_rfl) (by kernel_rfl) (fun _ _ _ h => h) (.inl ⟨by rfl, fun _ _ => rfl⟩) hHeld ?_
    simp only [Act.put, List.setIfInBounds_toArray, List.set_cons_zero, List.set_cons_succ]
    refine wpAnyH_take (i := 11) (oi := { dst := some 23, op := .unOp .not 4 (.tmp 22), type := 4, pos := _, after := #[{ on := 10, ground := .data }, { on := 9, ground := .guard }, { on := 13, ground := .gcOnly .lateStores }], guard := some (9, true) }) (v := .bool (!nb)) rfl (by kernel_rfl) (by kernel_rfl) (by kernel_rfl) (fun _ _ _ h => h) (.inl ⟨by rfl, fun _ _ => rfl⟩) hHeld ?_
    simp only [Act.put, List.setIfInBounds_toArray, List.set_cons_zero, List.set_cons_succ]
    refine wpAnyH_take (i := 12) (oi := { dst := some 24, op := .pick (.tmp 21) (.tmp 23) (.const (.bool false)), type := 4, pos := _, after := #[{ on := 9, ground := .data }, { on := 11, ground := .data }, { on := 13, ground := .gcOnly .lateStores }], guard := none }) (v := .bool (!nb)) rfl (by kernel_rfl) (by kernel_rfl) (by kernel_rfl) (fun _ _ _ h => h) (.inl ⟨by rfl, fun _ _ => rfl⟩) hHeld ?_
    simp only [Act.put, List.setIfInBounds_toArray, List.set_cons_zero, List.set_cons_succ]
    refine wpAnyH_ready (rs := [13]) (by kernel_rfl) (by simp) ?_
    refine AllReadyH.cons (o := { dst := none, op := .store 37 (.tmp 4) (.tmp 16), type := 0, pos := _, after := #[{ on := 4, ground := .data }, { on := 9, ground := .chain }, { on := 0, ground := .phase }, { on := 1, ground := .phase }, { on := 2, ground := .phase }, { on := 3, ground := .phase }, { on := 4, ground := .phase }, { on := 5, ground := .textOnly .lateStores }, { on := 6, ground := .textOnly .lateStores }, { on := 7, ground := .textOnly .lateStores }, { on := 8, ground := .textOnly .lateStoresUnsure }, { on := 9, ground := .textOnly .lateStores }, { on := 10, ground := .textOnly .lateStores }, { on := 11, ground := .textOnly .lateStores }, { on := 12, ground := .textOnly .lateStores }], guard := none }) rfl (fun K hK => ?_) AllReadyH.nil
    rw [if_pos (by rfl)]
    with_reducible refine wp_storeMemV (m := m') (b := w.heap.size + 1 + 1) (.tmp 4) (.tmp 16) ?_ ?_ ?_ (HR1.out.to hl7) ?_
    · rfl
    · simp [Act.eval]
    · simp [Act.eval]
    intro w8 HM8 hk8 hb8
    refine hK.out _ _ ((Same1.of _ hl7).on hk8) (fun hHeld => ?_)
    simp only [Act.put]
    refine wpAnyH_take (i := 14) (oi := { dst := some 5, op := .assign (.tmp 24), type := 4, pos := _, after := #[{ on := 12, ground := .data }, { on := 13, ground := .chain }, { on := 0, ground := .phase }, { on := 1, ground := .phase }, { on := 2, ground := .phase }, { on := 3, ground := .phase }, { on := 4, ground := .phase }, { on := 5, ground := .phase }, { on := 6, ground := .phase }, { on := 7, ground := .phase }, { on := 8, ground := .phase }, { on := 9, ground := .phase }, { on := 10, ground := .phase }, { on := 11, ground := .phase }, { on := 12, ground := .phase }, { on := 13, ground := .phase }], guard := none }) (v := .bool (!nb)) rfl (by kernel_rfl) (by kernel_rfl) (by kernel_rfl) (fun _ _ _ h => h) (.inl ⟨by rfl, fun _ _ => rfl⟩) hHeld ?_
    simp only [Act.put, List.setIfInBounds_toArray, List.set_cons_zero, List.set_cons_succ]
    have HB8 : Hid (Below w.heap.size w w8) := hb8 _ _ (HB1.out.trans (hl7.mono HB1.out.size)) (by omega)
    refine wpAnyH_done ?_ ?_ _
    · kernel_rfl
    refine NoPanic.normal ?_
    go_wp2_with fail
    exact bodyPost_ret (resMB Tryz.results86 rfl rfl HM8) rfl ⟨by simp, HB8.out⟩

end Go.Proofs.YtmgjngihngddfaaGreatDoor
