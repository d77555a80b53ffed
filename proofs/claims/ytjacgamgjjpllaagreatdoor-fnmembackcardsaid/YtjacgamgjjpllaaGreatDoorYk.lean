/- memTurned of the program. Helper text: no statement is claimed here. -/
import Derived.Test.YtjacgamgjjpllaaGreatDoorP06
import Derived.Test.YtjacgamgjjpllaaGreatDoorP20
import Derived.Test.YtjacgamgjjpllaaGreatDoorP08
import Derived.Deep.Cut
namespace Go.Proofs.YtjacgamgjjpllaaGreatDoor
open Go.ChangeShapes Go.WideShapes Go.ChangeAt Go.RowKit

set_option maxHeartbeats 1000000 in
set_option maxRecDepth 10000 in
theorem iTurn_1 (m : Mm) (hok : m.Ok) (n p : Int) (b : Bool) (w : World) (hT : DevTab w) :
    Calls Tryz.prog 96 #[m.val, .agg #[.int .i64 1, .int .i64 n, .int .i64 p], .bool b] w fun e w' => e = .returned (m.turn 1 n b).val ∧ Below w.heap.size w w' := by
  have HT : Hid (DevTab w) := hT
  clear hT
  have hz : ∀ w, (zeroValue 37).run Tryz.prog w = .ok (.agg zeroM.cells) w := fun _ => by kernel_rfl
  obtain ⟨j, hj⟩ := Int.eq_ofNat_of_zero_le (plc_range 1 n).1
  have hlt : j < 32 := by
    have := (plc_range 1 n).2
    rw [hj, show sz4 1 = 32 from rfl] at this
    omega
  have hX : m.x < 4294967296 := hok.hx
  have HC : Hid (∀ i, i < 136 → (if i = 0 then Value.int .u32 ((putN m.x j b : Nat) : Int) else m.cell i) = (m.turn 1 n b).cell i) := fun i _ => by
    rw [turn_x, hj]
    exact set_x m _ i
  have HQl : putN m.x j b < 4294967296 := putN_lt (n := 32) b hlt hX
  have HQ : Hid (∀ W, Calls Tryz.prog 130 #[.agg #[.int .i64 j, .bool b], .int .u64 (m.x : Nat)] W fun e w' => e = .returned (.int .u64 (putN m.x j b : Nat)) ∧ Below W.heap.size W w') := fun W => turn_any m.x j b W (by omega) (by omega)
  have w1 : IntKind.u64.wrap (m.x : Int) = (m.x : Int) := wrap_u64n _ (by omega)
  have w2 : IntKind.u32.wrap ((putN m.x j b : Nat) : Int) = ((putN m.x j b : Nat) : Int) := wrap_u32n _ HQl
  clear hX HQl hok
  unfold Mm.val
  generalize m.turn 1 n b = m' at *
  generalize hxx : m.x = xx at *
  generalize putN xx j b = q at *
  go_enter Tryz.func96, Tryz.ntmps96
  go_upto_region 1 with fail
  have HB : Hid (Below w.heap.size w (((w.alloc (.cells m.cells 37)).alloc (.cells #[.int .i64 1, .int .i64 n, .int .i64 p] 71)).alloc (.cells zeroM.cells 37))) := (((Below.refl _ _).alloc (Nat.le_refl _) _).alloc (by simp) _).alloc (by simp; omega) _
  have HI : Hid (MemAt (((w.alloc (.cells m.cells 37)).alloc (.cells #[.int .i64 1, .int .i64 n, .int .i64 p] 71)).alloc (.cells zeroM.cells 37)) w.heap.size m) := ((RowAt.new w 37 136 m.cell).alloc _).alloc _
  have HR : Hid (MemAt (((w.alloc (.cells m.cells 37)).alloc (.cells #[.int .i64 1, .int .i64 n, .int .i64 p] 71)).alloc (.cells zeroM.cells 37)) (w.heap.size + 1 + 1) zeroM) := by
    have := RowAt.new ((w.alloc (.cells m.cells 37)).alloc (.cells #[.int .i64 1, .int .i64 n, .int .i64 p] 71)) 37 136 zeroM.cell
    rw [show ((w.alloc (.cells m.cells 37)).alloc (.cells #[.int .i64 1, .int .i64 n, .int .i64 p] 71)).heap.size = w.heap.size + 1 + 1 by simp] at this
    exact this
  have a0 : World.cell? (((w.alloc (.cells m.cells 37)).alloc (.cells #[.int .i64 1, .int .i64 n, .int .i64 p] 71)).alloc (.cells zeroM.cells 37)) ⟨w.heap.size + 1, 0, none⟩ = some (.int .i64 1) := by simp [go_sem]
  have a1 : World.cell? (((w.alloc (.cells m.cells 37)).alloc (.cells #[.int .i64 1, .int .i64 n, .int .i64 p] 71)).alloc (.cells zeroM.cells 37)) ⟨w.heap.size + 1, 1, none⟩ = some (.int .i64 n) := by simp [go_sem]
  have a2 : World.cell? (((w.alloc (.cells m.cells 37)).alloc (.cells #[.int .i64 1, .int .i64 n, .int .i64 p] 71)).alloc (.cells zeroM.cells 37)) ⟨w.heap.size + 1, 2, none⟩ = some (.int .i64 p) := by simp [go_sem]
  generalize (((w.alloc (.cells m.cells 37)).alloc (.cells #[.int .i64 1, .int .i64 n, .int .i64 p] 71)).alloc (.cells zeroM.cells 37)) = V at *
  clear hz
  go_wp2_with fail
  refine (place_any 1 n p _ (HT.out.to HB.out)).mono ?_
  rw [hj]
  rintro e w1' ⟨rfl, hb1⟩
  have HB1 : Hid (Below w.heap.size w w1') := HB.out.trans (hb1.mono HB.out.size)
  have HI1 : Hid (MemAt w1' w.heap.size m) := HI.out.to hb1
  have HR1 : Hid (MemAt w1' (w.heap.size + 1 + 1) zeroM) := HR.out.to hb1
  have b0 : w1'.cell? ⟨w.heap.size + 1, 0, none⟩ = some (.int .i64 1) := (hb1.cell (p := ⟨w.heap.size + 1, 0, none⟩) (World.block_lt_of_cell? V _ a0)).trans a0
  have c0 : w1'.cell? ⟨w.heap.size, 0, none⟩ = some (.int .u32 (xx : Int)) := (HI1.out.cell (i := 0) (by omega)).trans (by rw [← hxx]; rfl)
  clear hb1 HB HI HR a0 a1 a2
  go_wp2_with fail
  refine (HQ.out _).mono ?_
  rintro e wq ⟨rfl, hbq⟩
  have HB2 : Hid (Below w.heap.size w wq) := HB1.out.trans (hbq.mono HB1.out.size)
  have HI2 : Hid (MemAt wq w.heap.size m) := HI1.out.to hbq
  have HR2 : Hid (MemAt wq (w.heap.size + 1 + 1) zeroM) := HR1.out.to hbq
  clear hbq HB1 HI1 HR1 c0 b0
  have d0 := HI2.out.cell (i := 0) (by omega)
  have f0 := HI2.out.frozen 0
  have HS : Hid (MemAt (World.setCell wq ⟨w.heap.size, 0, none⟩ (.int .u32 (q : Int))) w.heap.size m') := (HI2.out.set 0 (.int .u32 (q : Int))).ext HC.out
  have HR3 : Hid (MemAt (World.setCell wq ⟨w.heap.size, 0, none⟩ (.int .u32 (q : Int))) (w.heap.size + 1 + 1) zeroM) := HR2.out.other _ (by omega)
  have HB3 : Hid (Below w.heap.size w (World.setCell wq ⟨w.heap.size, 0, none⟩ (.int .u32 (q : Int)))) := HB2.out.setCell (p := ⟨_, _, none⟩) (Nat.le_refl _) _
  clear HB2 HI2 HR2 HC HQ
  go_wp2_with (first
    | refine wpList_rowLoad rfl 37 (.tmp 3) rfl _ 0 136 m'.cell rfl HS.out (by omega) (fun i _ => by rw [Nat.zero_add]) Tryz.underlying37 rfl (by kernel_rfl) ?_
    | (refine wpList_rowStore rfl 37 (.tmp 6) (.tmp 58) rfl _ 0 136 m'.cell m'.cell rfl rfl HR3.out (by omega) (fun i _ => cell_one m' i) (fun i hi => by rw [if_pos ⟨by omega, by omega⟩, Nat.sub_zero]) (by kernel_rfl) ?_; intro w2 HZ2 hz2 hk2 hb2))
  exact bodyPost_ret (v := .agg m'.cells) (resRow Tryz.results96 rfl HZ2 Tryz.underlying37 rfl (by kernel_rfl)) rfl ⟨rfl, hb2 _ _ HB3.out (by omega)⟩

set_option maxHeartbeats 1000000 in
set_option maxRecDepth 10000 in
theorem iTurn_2 (m : Mm) (hok : m.Ok) (n p : Int) (b : Bool) (w : World) (hT : DevTab w) :
    Calls Tryz.prog 96 #[m.val, .agg #[.int .i64 2, .int .i64 n, .int .i64 p], .bool b] w fun e w' => e = .returned (m.turn 2 n b).val ∧ Below w.heap.size w w' := by
  have HT : Hid (DevTab w) := hT
  clear hT
  have hz : ∀ w, (zeroValue 37).run Tryz.prog w = .ok (.agg zeroM.cells) w := fun _ => by kernel_rfl
  obtain ⟨j, hj⟩ := Int.eq_ofNat_of_zero_le (plc_range 2 n).1
  have hlt : j < 32 := by
    have := (plc_range 2 n).2
    rw [hj, show sz4 2 = 32 from rfl] at this
    omega
  have hX : m.y < 4294967296 := hok.hy
  have HC : Hid (∀ i, i < 136 → (if i = 1 then Value.int .u32 ((putN m.y j b : Nat) : Int) else m.cell i) = (m.turn 2 n b).cell i) := fun i _ => by
    rw [turn_y, hj]
    exact set_y m _ i
  have HQl : putN m.y j b < 4294967296 := putN_lt (n := 32) b hlt hX
  have HQ : Hid (∀ W, Calls Tryz.prog 130 #[.agg #[.int .i64 j, .bool b], .int .u64 (m.y : Nat)] W fun e w' => e = .returned (.int .u64 (putN m.y j b : Nat)) ∧ Below W.heap.size W w') := fun W => turn_any m.y j b W (by omega) (by omega)
  have w1 : IntKind.u64.wrap (m.y : Int) = (m.y : Int) := wrap_u64n _ (by omega)
  have w2 : IntKind.u32.wrap ((putN m.y j b : Nat) : Int) = ((putN m.y j b : Nat) : Int) := wrap_u32n _ HQl
  clear hX HQl hok
  unfold Mm.val
  generalize m.turn 2 n b = m' at *
  generalize hxx : m.y = xx at *
  generalize putN xx j b = q at *
  go_enter Tryz.func96, Tryz.ntmps96
  go_upto_region 1 with fail
  have HB : Hid (Below w.heap.size w (((w.alloc (.cells m.cells 37)).alloc (.cells #[.int .i64 2, .int .i64 n, .int .i64 p] 71)).alloc (.cells zeroM.cells 37))) := (((Below.refl _ _).alloc (Nat.le_refl _) _).alloc (by simp) _).alloc (by simp; omega) _
  have HI : Hid (MemAt (((w.alloc (.cells m.cells 37)).alloc (.cells #[.int .i64 2, .int .i64 n, .int .i64 p] 71)).alloc (.cells zeroM.cells 37)) w.heap.size m) := ((RowAt.new w 37 136 m.cell).alloc _).alloc _
  have HR : Hid (MemAt (((w.alloc (.cells m.cells 37)).alloc (.cells #[.int .i64 2, .int .i64 n, .int .i64 p] 71)).alloc (.cells zeroM.cells 37)) (w.heap.size + 1 + 1) zeroM) := by
    have := RowAt.new ((w.alloc (.cells m.cells 37)).alloc (.cells #[.int .i64 2, .int .i64 n, .int .i64 p] 71)) 37 136 zeroM.cell
    rw [show ((w.alloc (.cells m.cells 37)).alloc (.cells #[.int .i64 2, .int .i64 n, .int .i64 p] 71)).heap.size = w.heap.size + 1 + 1 by simp] at this
    exact this
  have a0 : World.cell? (((w.alloc (.cells m.cells 37)).alloc (.cells #[.int .i64 2, .int .i64 n, .int .i64 p] 71)).alloc (.cells zeroM.cells 37)) ⟨w.heap.size + 1, 0, none⟩ = some (.int .i64 2) := by simp [go_sem]
  have a1 : World.cell? (((w.alloc (.cells m.cells 37)).alloc (.cells #[.int .i64 2, .int .i64 n, .int .i64 p] 71)).alloc (.cells zeroM.cells 37)) ⟨w.heap.size + 1, 1, none⟩ = some (.int .i64 n) := by simp [go_sem]
  have a2 : World.cell? (((w.alloc (.cells m.cells 37)).alloc (.cells #[.int .i64 2, .int .i64 n, .int .i64 p] 71)).alloc (.cells zeroM.cells 37)) ⟨w.heap.size + 1, 2, none⟩ = some (.int .i64 p) := by simp [go_sem]
  generalize (((w.alloc (.cells m.cells 37)).alloc (.cells #[.int .i64 2, .int .i64 n, .int .i64 p] 71)).alloc (.cells zeroM.cells 37)) = V at *
  clear hz
  go_wp2_with fail
  refine (place_any 2 n p _ (HT.out.to HB.out)).mono ?_
  rw [hj]
  rintro e w1' ⟨rfl, hb1⟩
  have HB1 : Hid (Below w.heap.size w w1') := HB.out.trans (hb1.mono HB.out.size)
  have HI1 : Hid (MemAt w1' w.heap.size m) := HI.out.to hb1
  have HR1 : Hid (MemAt w1' (w.heap.size + 1 + 1) zeroM) := HR.out.to hb1
  have b0 : w1'.cell? ⟨w.heap.size + 1, 0, none⟩ = some (.int .i64 2) := (hb1.cell (p := ⟨w.heap.size + 1, 0, none⟩) (World.block_lt_of_cell? V _ a0)).trans a0
  have c0 : w1'.cell? ⟨w.heap.size, 1, none⟩ = some (.int .u32 (xx : Int)) := (HI1.out.cell (i := 1) (by omega)).trans (by rw [← hxx]; rfl)
  clear hb1 HB HI HR a0 a1 a2
  go_wp2_with fail
  refine (HQ.out _).mono ?_
  rintro e wq ⟨rfl, hbq⟩
  have HB2 : Hid (Below w.heap.size w wq) := HB1.out.trans (hbq.mono HB1.out.size)
  have HI2 : Hid (MemAt wq w.heap.size m) := HI1.out.to hbq
  have HR2 : Hid (MemAt wq (w.heap.size + 1 + 1) zeroM) := HR1.out.to hbq
  clear hbq HB1 HI1 HR1 c0 b0
  have d0 := HI2.out.cell (i := 1) (by omega)
  have f0 := HI2.out.frozen 1
  have HS : Hid (MemAt (World.setCell wq ⟨w.heap.size, 1, none⟩ (.int .u32 (q : Int))) w.heap.size m') := (HI2.out.set 1 (.int .u32 (q : Int))).ext HC.out
  have HR3 : Hid (MemAt (World.setCell wq ⟨w.heap.size, 1, none⟩ (.int .u32 (q : Int))) (w.heap.size + 1 + 1) zeroM) := HR2.out.other _ (by omega)
  have HB3 : Hid (Below w.heap.size w (World.setCell wq ⟨w.heap.size, 1, none⟩ (.int .u32 (q : Int)))) := HB2.out.setCell (p := ⟨_, _, none⟩) (Nat.le_refl _) _
  clear HB2 HI2 HR2 HC HQ
  go_wp2_with (first
    | refine wpList_rowLoad rfl 37 (.tmp 3) rfl _ 0 136 m'.cell rfl HS.out (by omega) (fun i _ => by rw [Nat.zero_add]) Tryz.underlying37 rfl (by kernel_rfl) ?_
    | (refine wpList_rowStore rfl 37 (.tmp 6) (.tmp 58) rfl _ 0 136 m'.cell m'.cell rfl rfl HR3.out (by omega) (fun i _ => cell_one m' i) (fun i hi => by rw [if_pos ⟨by omega, by omega⟩, Nat.sub_zero]) (by kernel_rfl) ?_; intro w2 HZ2 hz2 hk2 hb2))
  exact bodyPost_ret (v := .agg m'.cells) (resRow Tryz.results96 rfl HZ2 Tryz.underlying37 rfl (by kernel_rfl)) rfl ⟨rfl, hb2 _ _ HB3.out (by omega)⟩

set_option maxHeartbeats 1000000 in
set_option maxRecDepth 10000 in
theorem iTurn_3 (m : Mm) (hok : m.Ok) (n p : Int) (b : Bool) (w : World) (hT : DevTab w) :
    Calls Tryz.prog 96 #[m.val, .agg #[.int .i64 3, .int .i64 n, .int .i64 p], .bool b] w fun e w' => e = .returned (m.turn 3 n b).val ∧ Below w.heap.size w w' := by
  have HT : Hid (DevTab w) := hT
  clear hT
  have hz : ∀ w, (zeroValue 37).run Tryz.prog w = .ok (.agg zeroM.cells) w := fun _ => by kernel_rfl
  obtain ⟨j, hj⟩ := Int.eq_ofNat_of_zero_le (plc_range 3 n).1
  have hlt : j < 64 := by
    have := (plc_range 3 n).2
    rw [hj, show sz4 3 = 64 from rfl] at this
    omega
  have hX : m.m < 18446744073709551616 := hok.hm
  have HC : Hid (∀ i, i < 136 → (if i = 2 then Value.int .u64 ((putN m.m j b : Nat) : Int) else m.cell i) = (m.turn 3 n b).cell i) := fun i _ => by
    rw [turn_m, hj]
    exact set_m m _ i
  have HQl : putN m.m j b < 18446744073709551616 := putN_lt (n := 64) b hlt hX
  have HQ : Hid (∀ W, Calls Tryz.prog 130 #[.agg #[.int .i64 j, .bool b], .int .u64 (m.m : Nat)] W fun e w' => e = .returned (.int .u64 (putN m.m j b : Nat)) ∧ Below W.heap.size W w') := fun W => turn_any m.m j b W (by omega) (by omega)
  have w1 : IntKind.u64.wrap (m.m : Int) = (m.m : Int) := wrap_u64n _ (by omega)
  have w2 : IntKind.u64.wrap ((putN m.m j b : Nat) : Int) = ((putN m.m j b : Nat) : Int) := wrap_u64n _ HQl
  clear hX HQl hok
  unfold Mm.val
  generalize m.turn 3 n b = m' at *
  generalize hxx : m.m = xx at *
  generalize putN xx j b = q at *
  go_enter Tryz.func96, Tryz.ntmps96
  go_upto_region 1 with fail
  have HB : Hid (Below w.heap.size w (((w.alloc (.cells m.cells 37)).alloc (.cells #[.int .i64 3, .int .i64 n, .int .i64 p] 71)).alloc (.cells zeroM.cells 37))) := (((Below.refl _ _).alloc (Nat.le_refl _) _).alloc (by simp) _).alloc (by simp; omega) _
  have HI : Hid (MemAt (((w.alloc (.cells m.cells 37)).alloc (.cells #[.int .i64 3, .int .i64 n, .int .i64 p] 71)).alloc (.cells zeroM.cells 37)) w.heap.size m) := ((RowAt.new w 37 136 m.cell).alloc _).alloc _
  have HR : Hid (MemAt (((w.alloc (.cells m.cells 37)).alloc (.cells #[.int .i64 3, .int .i64 n, .int .i64 p] 71)).alloc (.cells zeroM.cells 37)) (w.heap.size + 1 + 1) zeroM) := by
    have := RowAt.new ((w.alloc (.cells m.cells 37)).alloc (.cells #[.int .i64 3, .int .i64 n, .int .i64 p] 71)) 37 136 zeroM.cell
    rw [show ((w.alloc (.cells m.cells 37)).alloc (.cells #[.int .i64 3, .int .i64 n, .int .i64 p] 71)).heap.size = w.heap.size + 1 + 1 by simp] at this
    exact this
  have a0 : World.cell? (((w.alloc (.cells m.cells 37)).alloc (.cells #[.int .i64 3, .int .i64 n, .int .i64 p] 71)).alloc (.cells zeroM.cells 37)) ⟨w.heap.size + 1, 0, none⟩ = some (.int .i64 3) := by simp [go_sem]
  have a1 : World.cell? (((w.alloc (.cells m.cells 37)).alloc (.cells #[.int .i64 3, .int .i64 n, .int .i64 p] 71)).alloc (.cells zeroM.cells 37)) ⟨w.heap.size + 1, 1, none⟩ = some (.int .i64 n) := by simp [go_sem]
  have a2 : World.cell? (((w.alloc (.cells m.cells 37)).alloc (.cells #[.int .i64 3, .int .i64 n, .int .i64 p] 71)).alloc (.cells zeroM.cells 37)) ⟨w.heap.size + 1, 2, none⟩ = some (.int .i64 p) := by simp [go_sem]
  generalize (((w.alloc (.cells m.cells 37)).alloc (.cells #[.int .i64 3, .int .i64 n, .int .i64 p] 71)).alloc (.cells zeroM.cells 37)) = V at *
  clear hz
  go_wp2_with fail
  refine (place_any 3 n p _ (HT.out.to HB.out)).mono ?_
  rw [hj]
  rintro e w1' ⟨rfl, hb1⟩
  have HB1 : Hid (Below w.heap.size w w1') := HB.out.trans (hb1.mono HB.out.size)
  have HI1 : Hid (MemAt w1' w.heap.size m) := HI.out.to hb1
  have HR1 : Hid (MemAt w1' (w.heap.size + 1 + 1) zeroM) := HR.out.to hb1
  have b0 : w1'.cell? ⟨w.heap.size + 1, 0, none⟩ = some (.int .i64 3) := (hb1.cell (p := ⟨w.heap.size + 1, 0, none⟩) (World.block_lt_of_cell? V _ a0)).trans a0
  have c0 : w1'.cell? ⟨w.heap.size, 2, none⟩ = some (.int .u64 (xx : Int)) := (HI1.out.cell (i := 2) (by omega)).trans (by rw [← hxx]; rfl)
  clear hb1 HB HI HR a0 a1 a2
  go_wp2_with fail
  refine (HQ.out _).mono ?_
  rintro e wq ⟨rfl, hbq⟩
  have HB2 : Hid (Below w.heap.size w wq) := HB1.out.trans (hbq.mono HB1.out.size)
  have HI2 : Hid (MemAt wq w.heap.size m) := HI1.out.to hbq
  have HR2 : Hid (MemAt wq (w.heap.size + 1 + 1) zeroM) := HR1.out.to hbq
  clear hbq HB1 HI1 HR1 c0 b0
  have d0 := HI2.out.cell (i := 2) (by omega)
  have f0 := HI2.out.frozen 2
  have HS : Hid (MemAt (World.setCell wq ⟨w.heap.size, 2, none⟩ (.int .u64 (q : Int))) w.heap.size m') := (HI2.out.set 2 (.int .u64 (q : Int))).ext HC.out
  have HR3 : Hid (MemAt (World.setCell wq ⟨w.heap.size, 2, none⟩ (.int .u64 (q : Int))) (w.heap.size + 1 + 1) zeroM) := HR2.out.other _ (by omega)
  have HB3 : Hid (Below w.heap.size w (World.setCell wq ⟨w.heap.size, 2, none⟩ (.int .u64 (q : Int)))) := HB2.out.setCell (p := ⟨_, _, none⟩) (Nat.le_refl _) _
  clear HB2 HI2 HR2 HC HQ
  go_wp2_with (first
    | refine wpList_rowLoad rfl 37 (.tmp 3) rfl _ 0 136 m'.cell rfl HS.out (by omega) (fun i _ => by rw [Nat.zero_add]) Tryz.underlying37 rfl (by kernel_rfl) ?_
    | (refine wpList_rowStore rfl 37 (.tmp 6) (.tmp 58) rfl _ 0 136 m'.cell m'.cell rfl rfl HR3.out (by omega) (fun i _ => cell_one m' i) (fun i hi => by rw [if_pos ⟨by omega, by omega⟩, Nat.sub_zero]) (by kernel_rfl) ?_; intro w2 HZ2 hz2 hk2 hb2))
  exact bodyPost_ret (v := .agg m'.cells) (resRow Tryz.results96 rfl HZ2 Tryz.underlying37 rfl (by kernel_rfl)) rfl ⟨rfl, hb2 _ _ HB3.out (by omega)⟩

set_option maxHeartbeats 1000000 in
set_option maxRecDepth 10000 in
theorem iTurn_4 (m : Mm) (hok : m.Ok) (n p : Int) (b : Bool) (w : World) (hT : DevTab w) :
    Calls Tryz.prog 96 #[m.val, .agg #[.int .i64 4, .int .i64 n, .int .i64 p], .bool b] w fun e w' => e = .returned (m.turn 4 n b).val ∧ Below w.heap.size w w' := by
  have HT : Hid (DevTab w) := hT
  clear hT
  have hz : ∀ w, (zeroValue 37).run Tryz.prog w = .ok (.agg zeroM.cells) w := fun _ => by kernel_rfl
  obtain ⟨j, hj⟩ := Int.eq_ofNat_of_zero_le (plc_range 4 n).1
  have hlt : j < 16 := by
    have := (plc_range 4 n).2
    rw [hj, show sz4 4 = 16 from rfl] at this
    omega
  have hX : m.s < 65536 := hok.hs
  have HC : Hid (∀ i, i < 136 → (if i = 3 then Value.int .u16 ((putN m.s j b : Nat) : Int) else m.cell i) = (m.turn 4 n b).cell i) := fun i _ => by
    rw [turn_s, hj]
    exact set_s m _ i
  have HQl : putN m.s j b < 65536 := putN_lt (n := 16) b hlt hX
  have HQ : Hid (∀ W, Calls Tryz.prog 130 #[.agg #[.int .i64 j, .bool b], .int .u64 (m.s : Nat)] W fun e w' => e = .returned (.int .u64 (putN m.s j b : Nat)) ∧ Below W.heap.size W w') := fun W => turn_any m.s j b W (by omega) (by omega)
  have w1 : IntKind.u64.wrap (m.s : Int) = (m.s : Int) := wrap_u64n _ (by omega)
  have w2 : IntKind.u16.wrap ((putN m.s j b : Nat) : Int) = ((putN m.s j b : Nat) : Int) := wrap_u16n _ HQl
  clear hX HQl hok
  unfold Mm.val
  generalize m.turn 4 n b = m' at *
  generalize hxx : m.s = xx at *
  generalize putN xx j b = q at *
  go_enter Tryz.func96, Tryz.ntmps96
  go_upto_region 1 with fail
  have HB : Hid (Below w.heap.size w (((w.alloc (.cells m.cells 37)).alloc (.cells #[.int .i64 4, .int .i64 n, .int .i64 p] 71)).alloc (.cells zeroM.cells 37))) := (((Below.refl _ _).alloc (Nat.le_refl _) _).alloc (by simp) _).alloc (by simp; omega) _
  have HI : Hid (MemAt (((w.alloc (.cells m.cells 37)).alloc (.cells #[.int .i64 4, .int .i64 n, .int .i64 p] 71)).alloc (.cells zeroM.cells 37)) w.heap.size m) := ((RowAt.new w 37 136 m.cell).alloc _).alloc _
  have HR : Hid (MemAt (((w.alloc (.cells m.cells 37)).alloc (.cells #[.int .i64 4, .int .i64 n, .int .i64 p] 71)).alloc (.cells zeroM.cells 37)) (w.heap.size + 1 + 1) zeroM) := by
    have := RowAt.new ((w.alloc (.cells m.cells 37)).alloc (.cells #[.int .i64 4, .int .i64 n, .int .i64 p] 71)) 37 136 zeroM.cell
    rw [show ((w.alloc (.cells m.cells 37)).alloc (.cells #[.int .i64 4, .int .i64 n, .int .i64 p] 71)).heap.size = w.heap.size + 1 + 1 by simp] at this
    exact this
  have a0 : World.cell? (((w.alloc (.cells m.cells 37)).alloc (.cells #[.int .i64 4, .int .i64 n, .int .i64 p] 71)).alloc (.cells zeroM.cells 37)) ⟨w.heap.size + 1, 0, none⟩ = some (.int .i64 4) := by simp [go_sem]
  have a1 : World.cell? (((w.alloc (.cells m.cells 37)).alloc (.cells #[.int .i64 4, .int .i64 n, .int .i64 p] 71)).alloc (.cells zeroM.cells 37)) ⟨w.heap.size + 1, 1, none⟩ = some (.int .i64 n) := by simp [go_sem]
  have a2 : World.cell? (((w.alloc (.cells m.cells 37)).alloc (.cells #[.int .i64 4, .int .i64 n, .int .i64 p] 71)).alloc (.cells zeroM.cells 37)) ⟨w.heap.size + 1, 2, none⟩ = some (.int .i64 p) := by simp [go_sem]
  generalize (((w.alloc (.cells m.cells 37)).alloc (.cells #[.int .i64 4, .int .i64 n, .int .i64 p] 71)).alloc (.cells zeroM.cells 37)) = V at *
  clear hz
  go_wp2_with fail
  refine (place_any 4 n p _ (HT.out.to HB.out)).mono ?_
  rw [hj]
  rintro e w1' ⟨rfl, hb1⟩
  have HB1 : Hid (Below w.heap.size w w1') := HB.out.trans (hb1.mono HB.out.size)
  have HI1 : Hid (MemAt w1' w.heap.size m) := HI.out.to hb1
  have HR1 : Hid (MemAt w1' (w.heap.size + 1 + 1) zeroM) := HR.out.to hb1
  have b0 : w1'.cell? ⟨w.heap.size + 1, 0, none⟩ = some (.int .i64 4) := (hb1.cell (p := ⟨w.heap.size + 1, 0, none⟩) (World.block_lt_of_cell? V _ a0)).trans a0
  have c0 : w1'.cell? ⟨w.heap.size, 3, none⟩ = some (.int .u16 (xx : Int)) := (HI1.out.cell (i := 3) (by omega)).trans (by rw [← hxx]; rfl)
  clear hb1 HB HI HR a0 a1 a2
  go_wp2_with fail
  refine (HQ.out _).mono ?_
  rintro e wq ⟨rfl, hbq⟩
  have HB2 : Hid (Below w.heap.size w wq) := HB1.out.trans (hbq.mono HB1.out.size)
  have HI2 : Hid (MemAt wq w.heap.size m) := HI1.out.to hbq
  have HR2 : Hid (MemAt wq (w.heap.size + 1 + 1) zeroM) := HR1.out.to hbq
  clear hbq HB1 HI1 HR1 c0 b0
  have d0 := HI2.out.cell (i := 3) (by omega)
  have f0 := HI2.out.frozen 3
  have HS : Hid (MemAt (World.setCell wq ⟨w.heap.size, 3, none⟩ (.int .u16 (q : Int))) w.heap.size m') := (HI2.out.set 3 (.int .u16 (q : Int))).ext HC.out
  have HR3 : Hid (MemAt (World.setCell wq ⟨w.heap.size, 3, none⟩ (.int .u16 (q : Int))) (w.heap.size + 1 + 1) zeroM) := HR2.out.other _ (by omega)
  have HB3 : Hid (Below w.heap.size w (World.setCell wq ⟨w.heap.size, 3, none⟩ (.int .u16 (q : Int)))) := HB2.out.setCell (p := ⟨_, _, none⟩) (Nat.le_refl _) _
  clear HB2 HI2 HR2 HC HQ
  go_wp2_with (first
    | refine wpList_rowLoad rfl 37 (.tmp 3) rfl _ 0 136 m'.cell rfl HS.out (by omega) (fun i _ => by rw [Nat.zero_add]) Tryz.underlying37 rfl (by kernel_rfl) ?_
    | (refine wpList_rowStore rfl 37 (.tmp 6) (.tmp 58) rfl _ 0 136 m'.cell m'.cell rfl rfl HR3.out (by omega) (fun i _ => cell_one m' i) (fun i hi => by rw [if_pos ⟨by omega, by omega⟩, Nat.sub_zero]) (by kernel_rfl) ?_; intro w2 HZ2 hz2 hk2 hb2))
  exact bodyPost_ret (v := .agg m'.cells) (resRow Tryz.results96 rfl HZ2 Tryz.underlying37 rfl (by kernel_rfl)) rfl ⟨rfl, hb2 _ _ HB3.out (by omega)⟩

set_option maxHeartbeats 1000000 in
set_option maxRecDepth 10000 in
theorem iTurn_5 (m : Mm) (hok : m.Ok) (n p : Int) (b : Bool) (w : World) (hT : DevTab w) :
    Calls Tryz.prog 96 #[m.val, .agg #[.int .i64 5, .int .i64 n, .int .i64 p], .bool b] w fun e w' => e = .returned (m.turn 5 n b).val ∧ Below w.heap.size w w' := by
  have HT : Hid (DevTab w) := hT
  clear hT
  have hz : ∀ w, (zeroValue 37).run Tryz.prog w = .ok (.agg zeroM.cells) w := fun _ => by kernel_rfl
  obtain ⟨j, hj⟩ := Int.eq_ofNat_of_zero_le (plc_range 5 n).1
  have hlt : j < 32 := by
    have := (plc_range 5 n).2
    rw [hj, show sz4 5 = 32 from rfl] at this
    omega
  have hX : m.e < 4294967296 := hok.he
  have HC : Hid (∀ i, i < 136 → (if i = 4 then Value.int .u32 ((putN m.e j b : Nat) : Int) else m.cell i) = (m.turn 5 n b).cell i) := fun i _ => by
    rw [turn_e, hj]
    exact set_e m _ i
  have HQl : putN m.e j b < 4294967296 := putN_lt (n := 32) b hlt hX
  have HQ : Hid (∀ W, Calls Tryz.prog 130 #[.agg #[.int .i64 j, .bool b], .int .u64 (m.e : Nat)] W fun e w' => e = .returned (.int .u64 (putN m.e j b : Nat)) ∧ Below W.heap.size W w') := fun W => turn_any m.e j b W (by omega) (by omega)
  have w1 : IntKind.u64.wrap (m.e : Int) = (m.e : Int) := wrap_u64n _ (by omega)
  have w2 : IntKind.u32.wrap ((putN m.e j b : Nat) : Int) = ((putN m.e j b : Nat) : Int) := wrap_u32n _ HQl
  clear hX HQl hok
  unfold Mm.val
  generalize m.turn 5 n b = m' at *
  generalize hxx : m.e = xx at *
  generalize putN xx j b = q at *
  go_enter Tryz.func96, Tryz.ntmps96
  go_upto_region 1 with fail
  have HB : Hid (Below w.heap.size w (((w.alloc (.cells m.cells 37)).alloc (.cells #[.int .i64 5, .int .i64 n, .int .i64 p] 71)).alloc (.cells zeroM.cells 37))) := (((Below.refl _ _).alloc (Nat.le_refl _) _).alloc (by simp) _).alloc (by simp; omega) _
  have HI : Hid (MemAt (((w.alloc (.cells m.cells 37)).alloc (.cells #[.int .i64 5, .int .i64 n, .int .i64 p] 71)).alloc (.cells zeroM.cells 37)) w.heap.size m) := ((RowAt.new w 37 136 m.cell).alloc _).alloc _
  have HR : Hid (MemAt (((w.alloc (.cells m.cells 37)).alloc (.cells #[.int .i64 5, .int .i64 n, .int .i64 p] 71)).alloc (.cells zeroM.cells 37)) (w.heap.size + 1 + 1) zeroM) := by
    have := RowAt.new ((w.alloc (.cells m.cells 37)).alloc (.cells #[.int .i64 5, .int .i64 n, .int .i64 p] 71)) 37 136 zeroM.cell
    rw [show ((w.alloc (.cells m.cells 37)).alloc (.cells #[.int .i64 5, .int .i64 n, .int .i64 p] 71)).heap.size = w.heap.size + 1 + 1 by simp] at this
    exact this
  have a0 : World.cell? (((w.alloc (.cells m.cells 37)).alloc (.cells #[.int .i64 5, .int .i64 n, .int .i64 p] 71)).alloc (.cells zeroM.cells 37)) ⟨w.heap.size + 1, 0, none⟩ = some (.int .i64 5) := by simp [go_sem]
  have a1 : World.cell? (((w.alloc (.cells m.cells 37)).alloc (.cells #[.int .i64 5, .int .i64 n, .int .i64 p] 71)).alloc (.cells zeroM.cells 37)) ⟨w.heap.size + 1, 1, none⟩ = some (.int .i64 n) := by simp [go_sem]
  have a2 : World.cell? (((w.alloc (.cells m.cells 37)).alloc (.cells #[.int .i64 5, .int .i64 n, .int .i64 p] 71)).alloc (.cells zeroM.cells 37)) ⟨w.heap.size + 1, 2, none⟩ = some (.int .i64 p) := by simp [go_sem]
  generalize (((w.alloc (.cells m.cells 37)).alloc (.cells #[.int .i64 5, .int .i64 n, .int .i64 p] 71)).alloc (.cells zeroM.cells 37)) = V at *
  clear hz
  go_wp2_with fail
  refine (place_any 5 n p _ (HT.out.to HB.out)).mono ?_
  rw [hj]
  rintro e w1' ⟨rfl, hb1⟩
  have HB1 : Hid (Below w.heap.size w w1') := HB.out.trans (hb1.mono HB.out.size)
  have HI1 : Hid (MemAt w1' w.heap.size m) := HI.out.to hb1
  have HR1 : Hid (MemAt w1' (w.heap.size + 1 + 1) zeroM) := HR.out.to hb1
  have b0 : w1'.cell? ⟨w.heap.size + 1, 0, none⟩ = some (.int .i64 5) := (hb1.cell (p := ⟨w.heap.size + 1, 0, none⟩) (World.block_lt_of_cell? V _ a0)).trans a0
  have c0 : w1'.cell? ⟨w.heap.size, 4, none⟩ = some (.int .u32 (xx : Int)) := (HI1.out.cell (i := 4) (by omega)).trans (by rw [← hxx]; rfl)
  clear hb1 HB HI HR a0 a1 a2
  go_wp2_with fail
  refine (HQ.out _).mono ?_
  rintro e wq ⟨rfl, hbq⟩
  have HB2 : Hid (Below w.heap.size w wq) := HB1.out.trans (hbq.mono HB1.out.size)
  have HI2 : Hid (MemAt wq w.heap.size m) := HI1.out.to hbq
  have HR2 : Hid (MemAt wq (w.heap.size + 1 + 1) zeroM) := HR1.out.to hbq
  clear hbq HB1 HI1 HR1 c0 b0
  have d0 := HI2.out.cell (i := 4) (by omega)
  have f0 := HI2.out.frozen 4
  have HS : Hid (MemAt (World.setCell wq ⟨w.heap.size, 4, none⟩ (.int .u32 (q : Int))) w.heap.size m') := (HI2.out.set 4 (.int .u32 (q : Int))).ext HC.out
  have HR3 : Hid (MemAt (World.setCell wq ⟨w.heap.size, 4, none⟩ (.int .u32 (q : Int))) (w.heap.size + 1 + 1) zeroM) := HR2.out.other _ (by omega)
  have HB3 : Hid (Below w.heap.size w (World.setCell wq ⟨w.heap.size, 4, none⟩ (.int .u32 (q : Int)))) := HB2.out.setCell (p := ⟨_, _, none⟩) (Nat.le_refl _) _
  clear HB2 HI2 HR2 HC HQ
  go_wp2_with (first
    | refine wpList_rowLoad rfl 37 (.tmp 3) rfl _ 0 136 m'.cell rfl HS.out (by omega) (fun i _ => by rw [Nat.zero_add]) Tryz.underlying37 rfl (by kernel_rfl) ?_
    | (refine wpList_rowStore rfl 37 (.tmp 6) (.tmp 58) rfl _ 0 136 m'.cell m'.cell rfl rfl HR3.out (by omega) (fun i _ => cell_one m' i) (fun i hi => by rw [if_pos ⟨by omega, by omega⟩, Nat.sub_zero]) (by kernel_rfl) ?_; intro w2 HZ2 hz2 hk2 hb2))
  exact bodyPost_ret (v := .agg m'.cells) (resRow Tryz.results96 rfl HZ2 Tryz.underlying37 rfl (by kernel_rfl)) rfl ⟨rfl, hb2 _ _ HB3.out (by omega)⟩

set_option maxHeartbeats 1000000 in
set_option maxRecDepth 10000 in
theorem iTurn_no (m : Mm) (k n p : Int) (b : Bool) (w : World) (hT : DevTab w) (hk : k ≠ 1 ∧ k ≠ 2 ∧ k ≠ 3 ∧ k ≠ 4 ∧ k ≠ 5) :
    Calls Tryz.prog 96 #[m.val, .agg #[.int .i64 k, .int .i64 n, .int .i64 p], .bool b] w fun e w' => e = .returned m.val ∧ Below w.heap.size w w' := by
  have HT : Hid (DevTab w) := hT
  clear hT
  have hz : ∀ w, (zeroValue 37).run Tryz.prog w = .ok (.agg zeroM.cells) w := fun _ => by kernel_rfl
  have k1 : (k == 1) = false := by simp only [beq_eq_false_iff_ne, ne_eq]; omega
  have k2 : (k == 2) = false := by simp only [beq_eq_false_iff_ne, ne_eq]; omega
  have k3 : (k == 3) = false := by simp only [beq_eq_false_iff_ne, ne_eq]; omega
  have k4 : (k == 4) = false := by simp only [beq_eq_false_iff_ne, ne_eq]; omega
  have k5 : (k == 5) = false := by simp only [beq_eq_false_iff_ne, ne_eq]; omega
  clear hk
  unfold Mm.val
  go_enter Tryz.func96, Tryz.ntmps96
  go_upto_region 1 with fail
  have HB : Hid (Below w.heap.size w (((w.alloc (.cells m.cells 37)).alloc (.cells #[.int .i64 k, .int .i64 n, .int .i64 p] 71)).alloc (.cells zeroM.cells 37))) := (((Below.refl _ _).alloc (Nat.le_refl _) _).alloc (by simp) _).alloc (by simp; omega) _
  have HI : Hid (MemAt (((w.alloc (.cells m.cells 37)).alloc (.cells #[.int .i64 k, .int .i64 n, .int .i64 p] 71)).alloc (.cells zeroM.cells 37)) w.heap.size m) := ((RowAt.new w 37 136 m.cell).alloc _).alloc _
  have HR : Hid (MemAt (((w.alloc (.cells m.cells 37)).alloc (.cells #[.int .i64 k, .int .i64 n, .int .i64 p] 71)).alloc (.cells zeroM.cells 37)) (w.heap.size + 1 + 1) zeroM) := by
    have := RowAt.new ((w.alloc (.cells m.cells 37)).alloc (.cells #[.int .i64 k, .int .i64 n, .int .i64 p] 71)) 37 136 zeroM.cell
    rw [show ((w.alloc (.cells m.cells 37)).alloc (.cells #[.int .i64 k, .int .i64 n, .int .i64 p] 71)).heap.size = w.heap.size + 1 + 1 by simp] at this
    exact this
  have a0 : World.cell? (((w.alloc (.cells m.cells 37)).alloc (.cells #[.int .i64 k, .int .i64 n, .int .i64 p] 71)).alloc (.cells zeroM.cells 37)) ⟨w.heap.size + 1, 0, none⟩ = some (.int .i64 k) := by simp [go_sem]
  have a1 : World.cell? (((w.alloc (.cells m.cells 37)).alloc (.cells #[.int .i64 k, .int .i64 n, .int .i64 p] 71)).alloc (.cells zeroM.cells 37)) ⟨w.heap.size + 1, 1, none⟩ = some (.int .i64 n) := by simp [go_sem]
  have a2 : World.cell? (((w.alloc (.cells m.cells 37)).alloc (.cells #[.int .i64 k, .int .i64 n, .int .i64 p] 71)).alloc (.cells zeroM.cells 37)) ⟨w.heap.size + 1, 2, none⟩ = some (.int .i64 p) := by simp [go_sem]
  generalize (((w.alloc (.cells m.cells 37)).alloc (.cells #[.int .i64 k, .int .i64 n, .int .i64 p] 71)).alloc (.cells zeroM.cells 37)) = V at *
  clear hz
  go_wp2_with fail
  refine (place_any k n p _ (HT.out.to HB.out)).mono ?_
  generalize plc k n = j
  rintro e w1' ⟨rfl, hb1⟩
  have HB1 : Hid (Below w.heap.size w w1') := HB.out.trans (hb1.mono HB.out.size)
  have HI1 : Hid (MemAt w1' w.heap.size m) := HI.out.to hb1
  have HR1 : Hid (MemAt w1' (w.heap.size + 1 + 1) zeroM) := HR.out.to hb1
  have b0 : w1'.cell? ⟨w.heap.size + 1, 0, none⟩ = some (.int .i64 k) := (hb1.cell (p := ⟨w.heap.size + 1, 0, none⟩) (World.block_lt_of_cell? V _ a0)).trans a0
  clear hb1 HB HI HR a0 a1 a2
  go_wp2_with (first
    | refine wpList_rowLoad rfl 37 (.tmp 3) rfl _ 0 136 m.cell rfl HI1.out (by omega) (fun i _ => by rw [Nat.zero_add]) Tryz.underlying37 rfl (by kernel_rfl) ?_
    | (refine wpList_rowStore rfl 37 (.tmp 6) (.tmp 58) rfl _ 0 136 m.cell m.cell rfl rfl HR1.out (by omega) (fun i _ => cell_one m i) (fun i hi => by rw [if_pos ⟨by omega, by omega⟩, Nat.sub_zero]) (by kernel_rfl) ?_; intro w2 HZ2 hz2 hk2 hb2))
  exact bodyPost_ret (v := .agg m.cells) (resRow Tryz.results96 rfl HZ2 Tryz.underlying37 rfl (by kernel_rfl)) rfl ⟨rfl, hb2 _ _ HB1.out (by omega)⟩

theorem iTurn_any (m : Mm) (hok : m.Ok) (k n p : Int) (b : Bool) (w : World) (hT : DevTab w) :
    Calls Tryz.prog 96 #[m.val, .agg #[.int .i64 k, .int .i64 n, .int .i64 p], .bool b] w fun e w' => e = .returned (m.turn k n b).val ∧ Below w.heap.size w w' := by
  by_cases h : k ≠ 1 ∧ k ≠ 2 ∧ k ≠ 3 ∧ k ≠ 4 ∧ k ≠ 5
  · rw [turn_no m k n b h]; exact iTurn_no m k n p b w hT h
  · have : k = 1 ∨ k = 2 ∨ k = 3 ∨ k = 4 ∨ k = 5 := by omega
    rcases this with rfl | rfl | rfl | rfl | rfl
    · exact iTurn_1 m hok n p b w hT
    · exact iTurn_2 m hok n p b w hT
    · exact iTurn_3 m hok n p b w hT
    · exact iTurn_4 m hok n p b w hT
    · exact iTurn_5 m hok n p b w hT
end Go.Proofs.YtjacgamgjjpllaaGreatDoor
