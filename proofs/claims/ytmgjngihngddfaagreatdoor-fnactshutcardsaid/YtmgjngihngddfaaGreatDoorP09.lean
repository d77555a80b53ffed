/- A word with one bit put, the document's. Helper text: no statement is claimed here. -/
import Derived.Test.YtmgjngihngddfaaGreatDoorP03
import Derived.Test.YtmgjngihngddfaaGreatDoorJo
import Derived.Test.YtmgjngihngddfaaGreatDoorRows
import Derived.WalkKit
import Derived.ProofKit
import Derived.LaidMore
import Derived.OpenShut
import Derived.Below
import Derived.Deep.QuietTactic
import Derived.BigQuiet
import Derived.Deep.RegionHeld3
import Derived.Test.YtmgjngihngddfaaGreatDoorP06
import Derived.WalkSmall
import Derived.WalkLawsBesides
namespace Go.Proofs.YtmgjngihngddfaaGreatDoor
open Go.ChangeShapes Go.WideShapes Go.ChangeAt Go.RowKit

set_option maxHeartbeats 400000 in
theorem sturn_any (W k : Nat) (b : Bool) (w : World) (hW : W < 18446744073709551616) (hk : k < 64) :
    Calls Tryz.prog 51 #[.int .u64 W, .int .i64 k, .bool b] w fun e w' => e = .returned (.int .u64 (putN W k b : Nat)) ∧ w' = w := by
  have HB : Hid (∀ w, Calls Tryz.prog 32 #[.int .u64 W, .int .i64 k] w fun e w' => e = .returned (.bool (bitN W k)) ∧ w' = w) := fun w => sbit_any W k w hW (by omega)
  have HP : Hid (∀ q, q = putN W k b → (bitN W k = b → q = W) ∧ (bitN W k = !b → b = true → q = W + 2 ^ k) ∧ (bitN W k = !b → b = false → q = W - 2 ^ k ∧ 2 ^ k ≤ W)) := by
    rintro q rfl
    refine ⟨fun h => ?_, fun h hb => ?_, fun h hb => ?_⟩
    · unfold putN; rw [if_pos h]
    · unfold putN; rw [if_neg (by rw [h]; cases b <;> simp), if_pos hb]
    · refine ⟨?_, ?_⟩
      · unfold putN; rw [if_neg (by rw [h]; cases b <;> simp), if_neg (by simp [hb])]
      · subst hb
        rw [bitN_test] at h
        exact two_pow_le_of_test (by simpa using h)
  have HL : Hid (putN W k b < 18446744073709551616) := putN_lt (n := 64) b hk hW
  generalize hq : putN W k b = q at *
  have HPq := HP.out q rfl
  clear HP hq
  generalize hc : bitN W k = c at *
  by_cases hcb : c = b
  · obtain rfl : q = W := HPq.1 hcb
    subst hcb
    clear HPq
    have hcc : (c == c) = true := by cases c <;> rfl
    go_enter Tryz.func51, Tryz.ntmps51
    go_wp2_with fail
    refine (HB.out _).mono ?_
    rintro e w1 ⟨rfl, rfl⟩
    go_wp2
    go_ret
    exact ⟨rfl, rfl⟩
  · have hcn : c = !b := by cases b <;> cases c <;> first | rfl | exact absurd rfl hcb
    have hcc : (c == b) = false := by cases b <;> cases c <;> first | rfl | exact absurd rfl hcb
    have HQ : Hid ((b = true → q = W + 2 ^ k) ∧ (b = false → q = W - 2 ^ k ∧ 2 ^ k ≤ W)) := ⟨HPq.2.1 hcn, HPq.2.2 hcn⟩
    clear HPq hcn hcb hc
    go_enter Tryz.func51, Tryz.ntmps51
    go_wp2_with fail
    refine (HB.out _).mono ?_
    rintro e w1 ⟨rfl, rfl⟩
    clear HB
    go_wp2
    go_loop [7, 8] (fun t i => ∃ u j : Nat, j ≤ k ∧ t = .int .u64 (u : Int) ∧ i = .int .i64 (j : Int) ∧ Hid (u = 2 ^ j)) (fun _ i => k - (intOf i).toNat)
    case atStart => exact ⟨1, 0, by omega, rfl, rfl, (Nat.pow_zero 2).symm⟩
    case round =>
      obtain ⟨u, j, hj, rfl, rfl, HU⟩ := hrel
      by_cases hlt : j < k
      · have hlt' : (j : Int) < (k : Int) := by omega
        obtain ⟨u2, hu2⟩ : ∃ u2 : Nat, u2 = 2 ^ (j + 1) := ⟨_, rfl⟩
        have hu3 : u2 = u * 2 := by rw [hu2, HU.out, Nat.pow_succ]
        have h1 : (u : Int) * 2 = (u2 : Int) := by omega
        have h2 : IntKind.u64.wrap (u2 : Int) = (u2 : Int) := wrap_u64n u2 (by rw [hu2]; exact pow_lt64 (by omega))
        have HU2 : Hid (u2 = 2 ^ (j + 1)) := hu2
        clear hu2 hu3 HU
        go_wp2
        exact ⟨⟨u2, j + 1, by omega, rfl, by go_num, HU2⟩, by simp [intOf]; omega⟩
      · obtain rfl : j = k := by omega
        have HQ2 := HQ.out
        rw [← HU.out] at HQ2
        cases b
        · obtain ⟨e1, e2⟩ := HQ2.2 rfl
          have h1 : (W : Int) - (u : Int) = (q : Int) := by omega
          have h2 : IntKind.u64.wrap (q : Int) = (q : Int) := wrap_u64n q HL.out
          clear e1 e2 HQ2 HQ HU
          go_wp2
          go_ret
          exact ⟨rfl, rfl⟩
        · have e1 := HQ2.1 rfl
          have h1 : (W : Int) + (u : Int) = (q : Int) := by omega
          have h2 : IntKind.u64.wrap (q : Int) = (q : Int) := wrap_u64n q HL.out
          clear e1 HQ2 HQ HU
          go_wp2
          go_ret
          exact ⟨rfl, rfl⟩

end Go.Proofs.YtmgjngihngddfaaGreatDoor

/- The document's MemPut. Helper text: no statement is claimed here. -/
namespace Go.Proofs.YtmgjngihngddfaaGreatDoor
open Go.ChangeShapes Go.WideShapes Go.ChangeAt Go.RowKit

set_option maxHeartbeats 1000000 in
set_option maxRecDepth 10000 in
theorem sPut_2 (m : Mm) (hok : m.Ok) (n p : Int) (b : Bool) (w : World) :
    Calls Tryz.prog 20 #[m.val, .agg #[.int .i64 2, .int .i64 n, .int .i64 p], .bool b] w fun e w' => e = .returned (m.turn 2 n b).val ∧ Below w.heap.size w w' := by
  have hz : ∀ w, (zeroValue 37).run Tryz.prog w = .ok (.agg zeroM.cells) w := fun _ => by kernel_rfl
  obtain ⟨j, hj⟩ := Int.eq_ofNat_of_zero_le (plc_range 2 n).1
  have hlt : j < 32 := by
    have := (plc_range 2 n).2
    rw [hj, show sz4 2 = 32 from rfl] at this
    omega
  have hX : m.y < 4294967296 := hok.hy
  have HC : Hid (∀ i, i < 136 → (if i = 1 then Value.int .u32 ((putN m.y j b : Nat) : Int) else m.cell i) = (m.turn 2 n b).cell i) := fun i _ => by
    rw [turn_y, hj]
    exact set_y m _ i
  have HQl : putN m.y j b < 4294967296 := putN_lt (n := 32) b hlt hX
  have HQ : Hid (∀ W, Calls Tryz.prog 51 #[.int .u64 (m.y : Nat), .int .i64 j, .bool b] W fun e w' => e = .returned (.int .u64 (putN m.y j b : Nat)) ∧ w' = W) := fun W => sturn_any m.y j b W (by omega) (by omega)
  have w1 : IntKind.u64.wrap (m.y : Int) = (m.y : Int) := wrap_u64n _ (by omega)
  have w2 : IntKind.u32.wrap ((putN m.y j b : Nat) : Int) = ((putN m.y j b : Nat) : Int) := wrap_u32n _ HQl
  clear hX HQl hok
  unfold Mm.val
  generalize m.turn 2 n b = m' at *
  generalize hxx : m.y = xx at *
  generalize putN xx j b = q at *
  go_enter Tryz.func20, Tryz.ntmps20
  go_upto_region 1 with fail
  have HB : Hid (Below w.heap.size w (((w.alloc (.cells m.cells 37)).alloc (.cells #[.int .i64 2, .int .i64 n, .int .i64 p] 48)).alloc (.cells zeroM.cells 37))) := (((Below.refl _ _).alloc (Nat.le_refl _) _).alloc (by simp) _).alloc (by simp; omega) _
  have HI : Hid (MemAt (((w.alloc (.cells m.cells 37)).alloc (.cells #[.int .i64 2, .int .i64 n, .int .i64 p] 48)).alloc (.cells zeroM.cells 37)) w.heap.size m) := ((RowAt.new w 37 136 m.cell).alloc _).alloc _
  have HR : Hid (MemAt (((w.alloc (.cells m.cells 37)).alloc (.cells #[.int .i64 2, .int .i64 n, .int .i64 p] 48)).alloc (.cells zeroM.cells 37)) (w.heap.size + 1 + 1) zeroM) := by
    have := RowAt.new ((w.alloc (.cells m.cells 37)).alloc (.cells #[.int .i64 2, .int .i64 n, .int .i64 p] 48)) 37 136 zeroM.cell
    rw [show ((w.alloc (.cells m.cells 37)).alloc (.cells #[.int .i64 2, .int .i64 n, .int .i64 p] 48)).heap.size = w.heap.size + 1 + 1 by simp] at this
    exact this
  have a0 : World.cell? (((w.alloc (.cells m.cells 37)).alloc (.cells #[.int .i64 2, .int .i64 n, .int .i64 p] 48)).alloc (.cells zeroM.cells 37)) ⟨w.heap.size + 1, 0, none⟩ = some (.int .i64 2) := by simp [go_sem]
  have a1 : World.cell? (((w.alloc (.cells m.cells 37)).alloc (.cells #[.int .i64 2, .int .i64 n, .int .i64 p] 48)).alloc (.cells zeroM.cells 37)) ⟨w.heap.size + 1, 1, none⟩ = some (.int .i64 n) := by simp [go_sem]
  have a2 : World.cell? (((w.alloc (.cells m.cells 37)).alloc (.cells #[.int .i64 2, .int .i64 n, .int .i64 p] 48)).alloc (.cells zeroM.cells 37)) ⟨w.heap.size + 1, 2, none⟩ = some (.int .i64 p) := by simp [go_sem]
  generalize (((w.alloc (.cells m.cells 37)).alloc (.cells #[.int .i64 2, .int .i64 n, .int .i64 p] 48)).alloc (.cells zeroM.cells 37)) = V at *
  clear hz
  go_wp2_with fail
  refine (at_any 2 n p _).mono ?_
  rw [hj]
  rintro e w1' ⟨rfl, hb1⟩
  have HB1 : Hid (Below w.heap.size w w1') := HB.out.trans (hb1.mono HB.out.size)
  have HI1 : Hid (MemAt w1' w.heap.size m) := HI.out.to hb1
  have HR1 : Hid (MemAt w1' (w.heap.size + 1 + 1) zeroM) := HR.out.to hb1
  have b0 : w1'.cell? ⟨w.heap.size + 1, 0, none⟩ = some (.int .i64 2) := (hb1.cell (p := ⟨w.heap.size + 1, 0, none⟩) (World.block_lt_of_cell? V _ a0)).trans a0
  have c0 : w1'.cell? ⟨w.heap.size, 1, none⟩ = some (.int .u32 (xx : Int)) := (HI1.out.cell (i := 1) (by omega)).trans (by rw [← hxx]; rfl)
  clear hb1 HB HI HR a0 a1 a2
  go_wp2_with fail
  refine (HQ.out _).mono ?_
  rintro e wq ⟨rfl, rfl⟩
  have HB2 := HB1
  have HI2 := HI1
  have HR2 := HR1
  clear HB1 HI1 HR1 c0 b0
  have d0 := HI2.out.cell (i := 1) (by omega)
  have f0 := HI2.out.frozen 1
  have HS : Hid (MemAt (World.setCell wq ⟨w.heap.size, 1, none⟩ (.int .u32 (q : Int))) w.heap.size m') := (HI2.out.set 1 (.int .u32 (q : Int))).ext HC.out
  have HR3 : Hid (MemAt (World.setCell wq ⟨w.heap.size, 1, none⟩ (.int .u32 (q : Int))) (w.heap.size + 1 + 1) zeroM) := HR2.out.other _ (by omega)
  have HB3 : Hid (Below w.heap.size w (World.setCell wq ⟨w.heap.size, 1, none⟩ (.int .u32 (q : Int)))) := HB2.out.setCell (p := ⟨_, _, none⟩) (Nat.le_refl _) _
  clear HB2 HI2 HR2 HC HQ
  go_wp2_with (first
    | refine wpList_rowLoad rfl 37 (.tmp 3) rfl _ 0 136 m'.cell rfl HS.out (by omega) (fun i _ => by rw [Nat.zero_add]) Tryz.underlying37 rfl (by kernel_rfl) ?_
    | (refine wpList_rowStore rfl 37 (.tmp 6) (.tmp 50) rfl _ 0 136 m'.cell m'.cell rfl rfl HR3.out (by omega) (fun i _ => cell_one m' i) (fun i hi => by rw [if_pos ⟨by omega, by omega⟩, Nat.sub_zero]) (by kernel_rfl) ?_; intro w2 HZ2 hz2 hk2 hb2))
  exact bodyPost_ret (v := .agg m'.cells) (resRow Tryz.results20 rfl HZ2 Tryz.underlying37 rfl (by kernel_rfl)) rfl ⟨rfl, hb2 _ _ HB3.out (by omega)⟩

set_option maxHeartbeats 1000000 in
set_option maxRecDepth 10000 in
theorem sPut_3 (m : Mm) (hok : m.Ok) (n p : Int) (b : Bool) (w : World) :
    Calls Tryz.prog 20 #[m.val, .agg #[.int .i64 3, .int .i64 n, .int .i64 p], .bool b] w fun e w' => e = .returned (m.turn 3 n b).val ∧ Below w.heap.size w w' := by
  have hz : ∀ w, (zeroValue 37).run Tryz.prog w = .ok (.agg zeroM.cells) w := fun _ => by kernel_rfl
  obtain ⟨j, hj⟩ := Int.eq_ofNat_of_zero_le (plc_range 3 n).1
  have hlt : j < 64 := by
    have := (plc_range 3 n).2
    rw [hj, show sz4 3 = 64 from rfl] at this
    omega
  have hX : m.m < 18446744073709551616 := hok.hm
  have HC : Hid (∀ i, i < 136 → (if i = 2 then Value.int .u64 ((putN m.m j b : Nat) : Int) else m.cell i) = (m.turn 3 n b).cell i) := fun i _ => by
    rw [turn_m, hj]
    exact set_m m _ i
  have HQl : putN m.m j b < 18446744073709551616 := putN_lt (n := 64) b hlt hX
  have HQ : Hid (∀ W, Calls Tryz.prog 51 #[.int .u64 (m.m : Nat), .int .i64 j, .bool b] W fun e w' => e = .returned (.int .u64 (putN m.m j b : Nat)) ∧ w' = W) := fun W => sturn_any m.m j b W (by omega) (by omega)
  have w1 : IntKind.u64.wrap (m.m : Int) = (m.m : Int) := wrap_u64n _ (by omega)
  have w2 : IntKind.u64.wrap ((putN m.m j b : Nat) : Int) = ((putN m.m j b : Nat) : Int) := wrap_u64n _ HQl
  clear hX HQl hok
  unfold Mm.val
  generalize m.turn 3 n b = m' at *
  generalize hxx : m.m = xx at *
  generalize putN xx j b = q at *
  go_enter Tryz.func20, Tryz.ntmps20
  go_upto_region 1 with fail
  have HB : Hid (Below w.heap.size w (((w.alloc (.cells m.cells 37)).alloc (.cells #[.int .i64 3, .int .i64 n, .int .i64 p] 48)).alloc (.cells zeroM.cells 37))) := (((Below.refl _ _).alloc (Nat.le_refl _) _).alloc (by simp) _).alloc (by simp; omega) _
  have HI : Hid (MemAt (((w.alloc (.cells m.cells 37)).alloc (.cells #[.int .i64 3, .int .i64 n, .int .i64 p] 48)).alloc (.cells zeroM.cells 37)) w.heap.size m) := ((RowAt.new w 37 136 m.cell).alloc _).alloc _
  have HR : Hid (MemAt (((w.alloc (.cells m.cells 37)).alloc (.cells #[.int .i64 3, .int .i64 n, .int .i64 p] 48)).alloc (.cells zeroM.cells 37)) (w.heap.size + 1 + 1) zeroM) := by
    have := RowAt.new ((w.alloc (.cells m.cells 37)).alloc (.cells #[.int .i64 3, .int .i64 n, .int .i64 p] 48)) 37 136 zeroM.cell
    rw [show ((w.alloc (.cells m.cells 37)).alloc (.cells #[.int .i64 3, .int .i64 n, .int .i64 p] 48)).heap.size = w.heap.size + 1 + 1 by simp] at this
    exact this
  have a0 : World.cell? (((w.alloc (.cells m.cells 37)).alloc (.cells #[.int .i64 3, .int .i64 n, .int .i64 p] 48)).alloc (.cells zeroM.cells 37)) ⟨w.heap.size + 1, 0, none⟩ = some (.int .i64 3) := by simp [go_sem]
  have a1 : World.cell? (((w.alloc (.cells m.cells 37)).alloc (.cells #[.int .i64 3, .int .i64 n, .int .i64 p] 48)).alloc (.cells zeroM.cells 37)) ⟨w.heap.size + 1, 1, none⟩ = some (.int .i64 n) := by simp [go_sem]
  have a2 : World.cell? (((w.alloc (.cells m.cells 37)).alloc (.cells #[.int .i64 3, .int .i64 n, .int .i64 p] 48)).alloc (.cells zeroM.cells 37)) ⟨w.heap.size + 1, 2, none⟩ = some (.int .i64 p) := by simp [go_sem]
  generalize (((w.alloc (.cells m.cells 37)).alloc (.cells #[.int .i64 3, .int .i64 n, .int .i64 p] 48)).alloc (.cells zeroM.cells 37)) = V at *
  clear hz
  go_wp2_with fail
  refine (at_any 3 n p _).mono ?_
  rw [hj]
  rintro e w1' ⟨rfl, hb1⟩
  have HB1 : Hid (Below w.heap.size w w1') := HB.out.trans (hb1.mono HB.out.size)
  have HI1 : Hid (MemAt w1' w.heap.size m) := HI.out.to hb1
  have HR1 : Hid (MemAt w1' (w.heap.size + 1 + 1) zeroM) := HR.out.to hb1
  have b0 : w1'.cell? ⟨w.heap.size + 1, 0, none⟩ = some (.int .i64 3) := (hb1.cell (p := ⟨w.heap.size + 1, 0, none⟩) (World.block_lt_of_cell? V _ a0)).trans a0
  have c0 : w1'.cell? ⟨w.heap.size, 2, none⟩ = some (.int .u64 (xx : Int)) := (HI1.out.cell (i := 2) (by omega)).trans (by rw [← hxx]; rfl)
  clear hb1 HB HI HR a0 a1 a2
  go_wp2_with fail
  refine (HQ.out _).mono ?_
  rintro e wq ⟨rfl, rfl⟩
  have HB2 := HB1
  have HI2 := HI1
  have HR2 := HR1
  clear HB1 HI1 HR1 c0 b0
  have d0 := HI2.out.cell (i := 2) (by omega)
  have f0 := HI2.out.frozen 2
  have HS : Hid (MemAt (World.setCell wq ⟨w.heap.size, 2, none⟩ (.int .u64 (q : Int))) w.heap.size m') := (HI2.out.set 2 (.int .u64 (q : Int))).ext HC.out
  have HR3 : Hid (MemAt (World.setCell wq ⟨w.heap.size, 2, none⟩ (.int .u64 (q : Int))) (w.heap.size + 1 + 1) zeroM) := HR2.out.other _ (by omega)
  have HB3 : Hid (Below w.heap.size w (World.setCell wq ⟨w.heap.size, 2, none⟩ (.int .u64 (q : Int)))) := HB2.out.setCell (p := ⟨_, _, none⟩) (Nat.le_refl _) _
  clear HB2 HI2 HR2 HC HQ
  go_wp2_with (first
    | refine wpList_rowLoad rfl 37 (.tmp 3) rfl _ 0 136 m'.cell rfl HS.out (by omega) (fun i _ => by rw [Nat.zero_add]) Tryz.underlying37 rfl (by kernel_rfl) ?_
    | (refine wpList_rowStore rfl 37 (.tmp 6) (.tmp 50) rfl _ 0 136 m'.cell m'.cell rfl rfl HR3.out (by omega) (fun i _ => cell_one m' i) (fun i hi => by rw [if_pos ⟨by omega, by omega⟩, Nat.sub_zero]) (by kernel_rfl) ?_; intro w2 HZ2 hz2 hk2 hb2))
  exact bodyPost_ret (v := .agg m'.cells) (resRow Tryz.results20 rfl HZ2 Tryz.underlying37 rfl (by kernel_rfl)) rfl ⟨rfl, hb2 _ _ HB3.out (by omega)⟩

set_option maxHeartbeats 1000000 in
set_option maxRecDepth 10000 in
theorem sPut_4 (m : Mm) (hok : m.Ok) (n p : Int) (b : Bool) (w : World) :
    Calls Tryz.prog 20 #[m.val, .agg #[.int .i64 4, .int .i64 n, .int .i64 p], .bool b] w fun e w' => e = .returned (m.turn 4 n b).val ∧ Below w.heap.size w w' := by
  have hz : ∀ w, (zeroValue 37).run Tryz.prog w = .ok (.agg zeroM.cells) w := fun _ => by kernel_rfl
  obtain ⟨j, hj⟩ := Int.eq_ofNat_of_zero_le (plc_range 4 n).1
  have hlt : j < 16 := by
    have := (plc_range 4 n).2
    rw [hj, show sz4 4 = 16 from rfl] at this
    omega
  have hX : m.s < 65536 := hok.hs
  have HC : Hid (∀ i, i < 136 → (if i = 3 then Value.int .u16 ((putN m.s j b : Nat) : Int) else m.cell i) = (m.turn 4 n b).cell i) := fun i _ => by
    rw [turn_s, hj]
    exact set_s m _ i
  have HQl : putN m.s j b < 65536 := putN_lt (n := 16) b hlt hX
  have HQ : Hid (∀ W, Calls Tryz.prog 51 #[.int .u64 (m.s : Nat), .int .i64 j, .bool b] W fun e w' => e = .returned (.int .u64 (putN m.s j b : Nat)) ∧ w' = W) := fun W => sturn_any m.s j b W (by omega) (by omega)
  have w1 : IntKind.u64.wrap (m.s : Int) = (m.s : Int) := wrap_u64n _ (by omega)
  have w2 : IntKind.u16.wrap ((putN m.s j b : Nat) : Int) = ((putN m.s j b : Nat) : Int) := wrap_u16n _ HQl
  clear hX HQl hok
  unfold Mm.val
  generalize m.turn 4 n b = m' at *
  generalize hxx : m.s = xx at *
  generalize putN xx j b = q at *
  go_enter Tryz.func20, Tryz.ntmps20
  go_upto_region 1 with fail
  have HB : Hid (Below w.heap.size w (((w.alloc (.cells m.cells 37)).alloc (.cells #[.int .i64 4, .int .i64 n, .int .i64 p] 48)).alloc (.cells zeroM.cells 37))) := (((Below.refl _ _).alloc (Nat.le_refl _) _).alloc (by simp) _).alloc (by simp; omega) _
  have HI : Hid (MemAt (((w.alloc (.cells m.cells 37)).alloc (.cells #[.int .i64 4, .int .i64 n, .int .i64 p] 48)).alloc (.cells zeroM.cells 37)) w.heap.size m) := ((RowAt.new w 37 136 m.cell).alloc _).alloc _
  have HR : Hid (MemAt (((w.alloc (.cells m.cells 37)).alloc (.cells #[.int .i64 4, .int .i64 n, .int .i64 p] 48)).alloc (.cells zeroM.cells 37)) (w.heap.size + 1 + 1) zeroM) := by
    have := RowAt.new ((w.alloc (.cells m.cells 37)).alloc (.cells #[.int .i64 4, .int .i64 n, .int .i64 p] 48)) 37 136 zeroM.cell
    rw [show ((w.alloc (.cells m.cells 37)).alloc (.cells #[.int .i64 4, .int .i64 n, .int .i64 p] 48)).heap.size = w.heap.size + 1 + 1 by simp] at this
    exact this
  have a0 : World.cell? (((w.alloc (.cells m.cells 37)).alloc (.cells #[.int .i64 4, .int .i64 n, .int .i64 p] 48)).alloc (.cells zeroM.cells 37)) ⟨w.heap.size + 1, 0, none⟩ = some (.int .i64 4) := by simp [go_sem]
  have a1 : World.cell? (((w.alloc (.cells m.cells 37)).alloc (.cells #[.int .i64 4, .int .i64 n, .int .i64 p] 48)).alloc (.cells zeroM.cells 37)) ⟨w.heap.size + 1, 1, none⟩ = some (.int .i64 n) := by simp [go_sem]
  have a2 : World.cell? (((w.alloc (.cells m.cells 37)).alloc (.cells #[.int .i64 4, .int .i64 n, .int .i64 p] 48)).alloc (.cells zeroM.cells 37)) ⟨w.heap.size + 1, 2, none⟩ = some (.int .i64 p) := by simp [go_sem]
  generalize (((w.alloc (.cells m.cells 37)).alloc (.cells #[.int .i64 4, .int .i64 n, .int .i64 p] 48)).alloc (.cells zeroM.cells 37)) = V at *
  clear hz
  go_wp2_with fail
  refine (at_any 4 n p _).mono ?_
  rw [hj]
  rintro e w1' ⟨rfl, hb1⟩
  have HB1 : Hid (Below w.heap.size w w1') := HB.out.trans (hb1.mono HB.out.size)
  have HI1 : Hid (MemAt w1' w.heap.size m) := HI.out.to hb1
  have HR1 : Hid (MemAt w1' (w.heap.size + 1 + 1) zeroM) := HR.out.to hb1
  have b0 : w1'.cell? ⟨w.heap.size + 1, 0, none⟩ = some (.int .i64 4) := (hb1.cell (p := ⟨w.heap.size + 1, 0, none⟩) (World.block_lt_of_cell? V _ a0)).trans a0
  have c0 : w1'.cell? ⟨w.heap.size, 3, none⟩ = some (.int .u16 (xx : Int)) := (HI1.out.cell (i := 3) (by omega)).trans (by rw [← hxx]; rfl)
  clear hb1 HB HI HR a0 a1 a2
  go_wp2_with fail
  refine (HQ.out _).mono ?_
  rintro e wq ⟨rfl, rfl⟩
  have HB2 := HB1
  have HI2 := HI1
  have HR2 := HR1
  clear HB1 HI1 HR1 c0 b0
  have d0 := HI2.out.cell (i := 3) (by omega)
  have f0 := HI2.out.frozen 3
  have HS : Hid (MemAt (World.setCell wq ⟨w.heap.size, 3, none⟩ (.int .u16 (q : Int))) w.heap.size m') := (HI2.out.set 3 (.int .u16 (q : Int))).ext HC.out
  have HR3 : Hid (MemAt (World.setCell wq ⟨w.heap.size, 3, none⟩ (.int .u16 (q : Int))) (w.heap.size + 1 + 1) zeroM) := HR2.out.other _ (by omega)
  have HB3 : Hid (Below w.heap.size w (World.setCell wq ⟨w.heap.size, 3, none⟩ (.int .u16 (q : Int)))) := HB2.out.setCell (p := ⟨_, _, none⟩) (Nat.le_refl _) _
  clear HB2 HI2 HR2 HC HQ
  go_wp2_with (first
    | refine wpList_rowLoad rfl 37 (.tmp 3) rfl _ 0 136 m'.cell rfl HS.out (by omega) (fun i _ => by rw [Nat.zero_add]) Tryz.underlying37 rfl (by kernel_rfl) ?_
    | (refine wpList_rowStore rfl 37 (.tmp 6) (.tmp 50) rfl _ 0 136 m'.cell m'.cell rfl rfl HR3.out (by omega) (fun i _ => cell_one m' i) (fun i hi => by rw [if_pos ⟨by omega, by omega⟩, Nat.sub_zero]) (by kernel_rfl) ?_; intro w2 HZ2 hz2 hk2 hb2))
  exact bodyPost_ret (v := .agg m'.cells) (resRow Tryz.results20 rfl HZ2 Tryz.underlying37 rfl (by kernel_rfl)) rfl ⟨rfl, hb2 _ _ HB3.out (by omega)⟩

set_option maxHeartbeats 1000000 in
set_option maxRecDepth 10000 in
theorem sPut_5 (m : Mm) (hok : m.Ok) (n p : Int) (b : Bool) (w : World) :
    Calls Tryz.prog 20 #[m.val, .agg #[.int .i64 5, .int .i64 n, .int .i64 p], .bool b] w fun e w' => e = .returned (m.turn 5 n b).val ∧ Below w.heap.size w w' := by
  have hz : ∀ w, (zeroValue 37).run Tryz.prog w = .ok (.agg zeroM.cells) w := fun _ => by kernel_rfl
  obtain ⟨j, hj⟩ := Int.eq_ofNat_of_zero_le (plc_range 5 n).1
  have hlt : j < 32 := by
    have := (plc_range 5 n).2
    rw [hj, show sz4 5 = 32 from rfl] at this
    omega
  have hX : m.e < 4294967296 := hok.he
  have HC : Hid (∀ i, i < 136 → (if i = 4 then Value.int .u32 ((putN m.e j b : Nat) : Int) else m.cell i) = (m.turn 5 n b).cell i) := fun i _ => by
    rw [turn_e, hj]
    exact set_e m _ i
  have HQl : putN m.e j b < 4294967296 := putN_lt (n := 32) b hlt hX
  have HQ : Hid (∀ W, Calls Tryz.prog 51 #[.int .u64 (m.e : Nat), .int .i64 j, .bool b] W fun e w' => e = .returned (.int .u64 (putN m.e j b : Nat)) ∧ w' = W) := fun W => sturn_any m.e j b W (by omega) (by omega)
  have w1 : IntKind.u64.wrap (m.e : Int) = (m.e : Int) := wrap_u64n _ (by omega)
  have w2 : IntKind.u32.wrap ((putN m.e j b : Nat) : Int) = ((putN m.e j b : Nat) : Int) := wrap_u32n _ HQl
  clear hX HQl hok
  unfold Mm.val
  generalize m.turn 5 n b = m' at *
  generalize hxx : m.e = xx at *
  generalize putN xx j b = q at *
  go_enter Tryz.func20, Tryz.ntmps20
  go_upto_region 1 with fail
  have HB : Hid (Below w.heap.size w (((w.alloc (.cells m.cells 37)).alloc (.cells #[.int .i64 5, .int .i64 n, .int .i64 p] 48)).alloc (.cells zeroM.cells 37))) := (((Below.refl _ _).alloc (Nat.le_refl _) _).alloc (by simp) _).alloc (by simp; omega) _
  have HI : Hid (MemAt (((w.alloc (.cells m.cells 37)).alloc (.cells #[.int .i64 5, .int .i64 n, .int .i64 p] 48)).alloc (.cells zeroM.cells 37)) w.heap.size m) := ((RowAt.new w 37 136 m.cell).alloc _).alloc _
  have HR : Hid (MemAt (((w.alloc (.cells m.cells 37)).alloc (.cells #[.int .i64 5, .int .i64 n, .int .i64 p] 48)).alloc (.cells zeroM.cells 37)) (w.heap.size + 1 + 1) zeroM) := by
    have := RowAt.new ((w.alloc (.cells m.cells 37)).alloc (.cells #[.int .i64 5, .int .i64 n, .int .i64 p] 48)) 37 136 zeroM.cell
    rw [show ((w.alloc (.cells m.cells 37)).alloc (.cells #[.int .i64 5, .int .i64 n, .int .i64 p] 48)).heap.size = w.heap.size + 1 + 1 by simp] at this
    exact this
  have a0 : World.cell? (((w.alloc (.cells m.cells 37)).alloc (.cells #[.int .i64 5, .int .i64 n, .int .i64 p] 48)).alloc (.cells zeroM.cells 37)) ⟨w.heap.size + 1, 0, none⟩ = some (.int .i64 5) := by simp [go_sem]
  have a1 : World.cell? (((w.alloc (.cells m.cells 37)).alloc (.cells #[.int .i64 5, .int .i64 n, .int .i64 p] 48)).alloc (.cells zeroM.cells 37)) ⟨w.heap.size + 1, 1, none⟩ = some (.int .i64 n) := by simp [go_sem]
  have a2 : World.cell? (((w.alloc (.cells m.cells 37)).alloc (.cells #[.int .i64 5, .int .i64 n, .int .i64 p] 48)).alloc (.cells zeroM.cells 37)) ⟨w.heap.size + 1, 2, none⟩ = some (.int .i64 p) := by simp [go_sem]
  generalize (((w.alloc (.cells m.cells 37)).alloc (.cells #[.int .i64 5, .int .i64 n, .int .i64 p] 48)).alloc (.cells zeroM.cells 37)) = V at *
  clear hz
  go_wp2_with fail
  refine (at_any 5 n p _).mono ?_
  rw [hj]
  rintro e w1' ⟨rfl, hb1⟩
  have HB1 : Hid (Below w.heap.size w w1') := HB.out.trans (hb1.mono HB.out.size)
  have HI1 : Hid (MemAt w1' w.heap.size m) := HI.out.to hb1
  have HR1 : Hid (MemAt w1' (w.heap.size + 1 + 1) zeroM) := HR.out.to hb1
  have b0 : w1'.cell? ⟨w.heap.size + 1, 0, none⟩ = some (.int .i64 5) := (hb1.cell (p := ⟨w.heap.size + 1, 0, none⟩) (World.block_lt_of_cell? V _ a0)).trans a0
  have c0 : w1'.cell? ⟨w.heap.size, 4, none⟩ = some (.int .u32 (xx : Int)) := (HI1.out.cell (i := 4) (by omega)).trans (by rw [← hxx]; rfl)
  clear hb1 HB HI HR a0 a1 a2
  go_wp2_with fail
  refine (HQ.out _).mono ?_
  rintro e wq ⟨rfl, rfl⟩
  have HB2 := HB1
  have HI2 := HI1
  have HR2 := HR1
  clear HB1 HI1 HR1 c0 b0
  have d0 := HI2.out.cell (i := 4) (by omega)
  have f0 := HI2.out.frozen 4
  have HS : Hid (MemAt (World.setCell wq ⟨w.heap.size, 4, none⟩ (.int .u32 (q : Int))) w.heap.size m') := (HI2.out.set 4 (.int .u32 (q : Int))).ext HC.out
  have HR3 : Hid (MemAt (World.setCell wq ⟨w.heap.size, 4, none⟩ (.int .u32 (q : Int))) (w.heap.size + 1 + 1) zeroM) := HR2.out.other _ (by omega)
  have HB3 : Hid (Below w.heap.size w (World.setCell wq ⟨w.heap.size, 4, none⟩ (.int .u32 (q : Int)))) := HB2.out.setCell (p := ⟨_, _, none⟩) (Nat.le_refl _) _
  clear HB2 HI2 HR2 HC HQ
  go_wp2_with (first
    | refine wpList_rowLoad rfl 37 (.tmp 3) rfl _ 0 136 m'.cell rfl HS.out (by omega) (fun i _ => by rw [Nat.zero_add]) Tryz.underlying37 rfl (by kernel_rfl) ?_
    | (refine wpList_rowStore rfl 37 (.tmp 6) (.tmp 50) rfl _ 0 136 m'.cell m'.cell rfl rfl HR3.out (by omega) (fun i _ => cell_one m' i) (fun i hi => by rw [if_pos ⟨by omega, by omega⟩, Nat.sub_zero]) (by kernel_rfl) ?_; intro w2 HZ2 hz2 hk2 hb2))
  exact bodyPost_ret (v := .agg m'.cells) (resRow Tryz.results20 rfl HZ2 Tryz.underlying37 rfl (by kernel_rfl)) rfl ⟨rfl, hb2 _ _ HB3.out (by omega)⟩

set_option maxHeartbeats 1000000 in
set_option maxRecDepth 10000 in
theorem sPut_no (m : Mm) (k n p : Int) (b : Bool) (w : World) (hk : k ≠ 2 ∧ k ≠ 3 ∧ k ≠ 4 ∧ k ≠ 5) :
    Calls Tryz.prog 20 #[m.val, .agg #[.int .i64 k, .int .i64 n, .int .i64 p], .bool b] w fun e w' => e = .returned m.val ∧ Below w.heap.size w w' := by
  have hz : ∀ w, (zeroValue 37).run Tryz.prog w = .ok (.agg zeroM.cells) w := fun _ => by kernel_rfl
  have k2 : (k == 2) = false := by simp only [beq_eq_false_iff_ne, ne_eq]; omega
  have k3 : (k == 3) = false := by simp only [beq_eq_false_iff_ne, ne_eq]; omega
  have k4 : (k == 4) = false := by simp only [beq_eq_false_iff_ne, ne_eq]; omega
  have k5 : (k == 5) = false := by simp only [beq_eq_false_iff_ne, ne_eq]; omega
  clear hk
  unfold Mm.val
  go_enter Tryz.func20, Tryz.ntmps20
  go_upto_region 1 with fail
  have HB : Hid (Below w.heap.size w (((w.alloc (.cells m.cells 37)).alloc (.cells #[.int .i64 k, .int .i64 n, .int .i64 p] 48)).alloc (.cells zeroM.cells 37))) := (((Below.refl _ _).alloc (Nat.le_refl _) _).alloc (by simp) _).alloc (by simp; omega) _
  have HI : Hid (MemAt (((w.alloc (.cells m.cells 37)).alloc (.cells #[.int .i64 k, .int .i64 n, .int .i64 p] 48)).alloc (.cells zeroM.cells 37)) w.heap.size m) := ((RowAt.new w 37 136 m.cell).alloc _).alloc _
  have HR : Hid (MemAt (((w.alloc (.cells m.cells 37)).alloc (.cells #[.int .i64 k, .int .i64 n, .int .i64 p] 48)).alloc (.cells zeroM.cells 37)) (w.heap.size + 1 + 1) zeroM) := by
    have := RowAt.new ((w.alloc (.cells m.cells 37)).alloc (.cells #[.int .i64 k, .int .i64 n, .int .i64 p] 48)) 37 136 zeroM.cell
    rw [show ((w.alloc (.cells m.cells 37)).alloc (.cells #[.int .i64 k, .int .i64 n, .int .i64 p] 48)).heap.size = w.heap.size + 1 + 1 by simp] at this
    exact this
  have a0 : World.cell? (((w.alloc (.cells m.cells 37)).alloc (.cells #[.int .i64 k, .int .i64 n, .int .i64 p] 48)).alloc (.cells zeroM.cells 37)) ⟨w.heap.size + 1, 0, none⟩ = some (.int .i64 k) := by simp [go_sem]
  have a1 : World.cell? (((w.alloc (.cells m.cells 37)).alloc (.cells #[.int .i64 k, .int .i64 n, .int .i64 p] 48)).alloc (.cells zeroM.cells 37)) ⟨w.heap.size + 1, 1, none⟩ = some (.int .i64 n) := by simp [go_sem]
  have a2 : World.cell? (((w.alloc (.cells m.cells 37)).alloc (.cells #[.int .i64 k, .int .i64 n, .int .i64 p] 48)).alloc (.cells zeroM.cells 37)) ⟨w.heap.size + 1, 2, none⟩ = some (.int .i64 p) := by simp [go_sem]
  generalize (((w.alloc (.cells m.cells 37)).alloc (.cells #[.int .i64 k, .int .i64 n, .int .i64 p] 48)).alloc (.cells zeroM.cells 37)) = V at *
  clear hz
  go_wp2_with fail
  refine (at_any k n p _).mono ?_
  generalize plc k n = j
  rintro e w1' ⟨rfl, hb1⟩
  have HB1 : Hid (Below w.heap.size w w1') := HB.out.trans (hb1.mono HB.out.size)
  have HI1 : Hid (MemAt w1' w.heap.size m) := HI.out.to hb1
  have HR1 : Hid (MemAt w1' (w.heap.size + 1 + 1) zeroM) := HR.out.to hb1
  have b0 : w1'.cell? ⟨w.heap.size + 1, 0, none⟩ = some (.int .i64 k) := (hb1.cell (p := ⟨w.heap.size + 1, 0, none⟩) (World.block_lt_of_cell? V _ a0)).trans a0
  clear hb1 HB HI HR a0 a1 a2
  go_wp2_with (first
    | refine wpList_rowLoad rfl 37 (.tmp 3) rfl _ 0 136 m.cell rfl HI1.out (by omega) (fun i _ => by rw [Nat.zero_add]) Tryz.underlying37 rfl (by kernel_rfl) ?_
    | (refine wpList_rowStore rfl 37 (.tmp 6) (.tmp 50) rfl _ 0 136 m.cell m.cell rfl rfl HR1.out (by omega) (fun i _ => cell_one m i) (fun i hi => by rw [if_pos ⟨by omega, by omega⟩, Nat.sub_zero]) (by kernel_rfl) ?_; intro w2 HZ2 hz2 hk2 hb2))
  exact bodyPost_ret (v := .agg m.cells) (resRow Tryz.results20 rfl HZ2 Tryz.underlying37 rfl (by kernel_rfl)) rfl ⟨rfl, hb2 _ _ HB1.out (by omega)⟩

theorem sPut_any (m : Mm) (hok : m.Ok) (k n p : Int) (b : Bool) (w : World) :
    Calls Tryz.prog 20 #[m.val, .agg #[.int .i64 k, .int .i64 n, .int .i64 p], .bool b] w fun e w' => e = .returned (m.putB k n b).val ∧ Below w.heap.size w w' := by
  unfold Mm.putB
  by_cases h1 : k = 1
  · rw [if_pos h1]; exact sPut_no m k n p b w (by omega)
  · rw [if_neg h1]
    by_cases h : k ≠ 2 ∧ k ≠ 3 ∧ k ≠ 4 ∧ k ≠ 5
    · rw [turn_no m k n b ⟨h1, h⟩]; exact sPut_no m k n p b w h
    · have : k = 2 ∨ k = 3 ∨ k = 4 ∨ k = 5 := by omega
      rcases this with rfl | rfl | rfl | rfl
      · exact sPut_2 m hok n p b w
      · exact sPut_3 m hok n p b w
      · exact sPut_4 m hok n p b w
      · exact sPut_5 m hok n p b w
end Go.Proofs.YtmgjngihngddfaaGreatDoor

/- Which numbers are tests: cmpIs. Helper text: no statement is claimed here. -/
namespace Go.Proofs.YtmgjngihngddfaaGreatDoor
open Go.ChangeShapes Go.WideShapes Go.ChangeAt Go.RowKit

theorem cmpIs_any (i : Nat) (w : World) (h1 : 1 ≤ i) (h2 : i ≤ 6) :
    Calls Tryz.prog 96 #[.int .i64 (i : Int)] w fun e w' => e = .returned (.bool true) ∧ w' = w := by
  have a : ¬ (i : Int) < 1 := by omega
  have b : ¬ (6 : Int) < i := by omega
  go_enter Tryz.func96, Tryz.ntmps96
  go_wp2
  go_ret
  exact ⟨by simp, rfl⟩
end Go.Proofs.YtmgjngihngddfaaGreatDoor

/- The six tests of two numbers, whole and real ones. Helper text: no statement is claimed here. -/
namespace Go.Proofs.YtmgjngihngddfaaGreatDoor
open Go.ChangeShapes Go.WideShapes Go.ChangeAt Go.RowKit Fl

theorem store_func (P : Program) (w : World) (a : Addr) (f : Fn) (x y : Array Value) (m : Mode) : (store a (.func f x y) m).run P w = stored P w a (.func f x y) m := run_store P w a _ m rfl
theorem store_nilFunc (P : Program) (w : World) (a : Addr) (m : Mode) : (store a .nilFunc m).run P w = stored P w a .nilFunc m := run_store P w a _ m rfl
attribute [local go_sem] store_func store_nilFunc

/-- What a test says of two whole numbers. -/
def wT : Nat → Int → Int → Bool
  | 1, a, b => decide (a < b) | 2, a, b => decide (a ≤ b) | 3, a, b => a == b | 4, a, b => a != b | 5, a, b => decide (b ≤ a) | _, a, b => decide (b < a)
/-- What a test says of two real numbers. -/
def rT : Nat → Nat → Nat → Bool
  | 1, x, y => ord x y == some .lt | 2, x, y => ord x y == some .lt || ord x y == some .eq | 3, x, y => ord x y == some .eq | 4, x, y => ord x y != some .eq
  | 5, x, y => ord x y == some .gt || ord x y == some .eq | _, x, y => ord x y == some .gt

theorem hold_w1 (a b : Int) (w : World) :
    Calls Tryz.prog 106 #[.int .i16 a, .int .i16 b] w fun e w' => e = .returned (.bool (wT 1 a b)) ∧ w' = w := by
  go_enter Tryz.func106, Tryz.ntmps106
  go_wp2
  go_ret
  exact ⟨rfl, rfl⟩
set_option maxHeartbeats 400000 in
theorem holds_w1 (a b : Int) (w : World) :
    Calls Tryz.prog 94 #[.int .i64 1, .int .i16 a, .int .i16 b] w fun e w' => e = .returned (.bool (wT 1 a b)) ∧ Below w.heap.size w w' := by
  go_enter Tryz.func94, Tryz.ntmps94
  go_wp2_with fail
  refine (cmpIs_any 1 _ (by omega) (by omega)).mono ?_
  rintro e w' ⟨rfl, rfl⟩
  go_wp2_with fail
  refine (hold_w1 a b _).mono ?_
  rintro e w' ⟨rfl, rfl⟩
  go_wp2
  go_ret
  exact ⟨rfl, (Below.refl _ _).alloc (Nat.le_refl _) _⟩

theorem hold_w2 (a b : Int) (w : World) :
    Calls Tryz.prog 107 #[.int .i16 a, .int .i16 b] w fun e w' => e = .returned (.bool (wT 2 a b)) ∧ w' = w := by
  go_enter Tryz.func107, Tryz.ntmps107
  go_wp2
  go_ret
  exact ⟨rfl, rfl⟩
set_option maxHeartbeats 400000 in
theorem holds_w2 (a b : Int) (w : World) :
    Calls Tryz.prog 94 #[.int .i64 2, .int .i16 a, .int .i16 b] w fun e w' => e = .returned (.bool (wT 2 a b)) ∧ Below w.heap.size w w' := by
  go_enter Tryz.func94, Tryz.ntmps94
  go_wp2_with fail
  refine (cmpIs_any 2 _ (by omega) (by omega)).mono ?_
  rintro e w' ⟨rfl, rfl⟩
  go_wp2_with fail
  refine (hold_w2 a b _).mono ?_
  rintro e w' ⟨rfl, rfl⟩
  go_wp2
  go_ret
  exact ⟨rfl, (Below.refl _ _).alloc (Nat.le_refl _) _⟩

theorem hold_w3 (a b : Int) (w : World) :
    Calls Tryz.prog 108 #[.int .i16 a, .int .i16 b] w fun e w' => e = .returned (.bool (wT 3 a b)) ∧ w' = w := by
  go_enter Tryz.func108, Tryz.ntmps108
  go_wp2
  go_ret
  exact ⟨rfl, rfl⟩
set_option maxHeartbeats 400000 in
theorem holds_w3 (a b : Int) (w : World) :
    Calls Tryz.prog 94 #[.int .i64 3, .int .i16 a, .int .i16 b] w fun e w' => e = .returned (.bool (wT 3 a b)) ∧ Below w.heap.size w w' := by
  go_enter Tryz.func94, Tryz.ntmps94
  go_wp2_with fail
  refine (cmpIs_any 3 _ (by omega) (by omega)).mono ?_
  rintro e w' ⟨rfl, rfl⟩
  go_wp2_with fail
  refine (hold_w3 a b _).mono ?_
  rintro e w' ⟨rfl, rfl⟩
  go_wp2
  go_ret
  exact ⟨rfl, (Below.refl _ _).alloc (Nat.le_refl _) _⟩

theorem hold_w4 (a b : Int) (w : World) :
    Calls Tryz.prog 109 #[.int .i16 a, .int .i16 b] w fun e w' => e = .returned (.bool (wT 4 a b)) ∧ w' = w := by
  go_enter Tryz.func109, Tryz.ntmps109
  go_wp2
  go_ret
  exact ⟨rfl, rfl⟩
set_option maxHeartbeats 400000 in
theorem holds_w4 (a b : Int) (w : World) :
    Calls Tryz.prog 94 #[.int .i64 4, .int .i16 a, .int .i16 b] w fun e w' => e = .returned (.bool (wT 4 a b)) ∧ Below w.heap.size w w' := by
  go_enter Tryz.func94, Tryz.ntmps94
  go_wp2_with fail
  refine (cmpIs_any 4 _ (by omega) (by omega)).mono ?_
  rintro e w' ⟨rfl, rfl⟩
  go_wp2_with fail
  refine (hold_w4 a b _).mono ?_
  rintro e w' ⟨rfl, rfl⟩
  go_wp2
  go_ret
  exact ⟨rfl, (Below.refl _ _).alloc (Nat.le_refl _) _⟩

theorem hold_w5 (a b : Int) (w : World) :
    Calls Tryz.prog 110 #[.int .i16 a, .int .i16 b] w fun e w' => e = .returned (.bool (wT 5 a b)) ∧ w' = w := by
  go_enter Tryz.func110, Tryz.ntmps110
  go_wp2
  go_ret
  exact ⟨rfl, rfl⟩
set_option maxHeartbeats 400000 in
theorem holds_w5 (a b : Int) (w : World) :
    Calls Tryz.prog 94 #[.int .i64 5, .int .i16 a, .int .i16 b] w fun e w' => e = .returned (.bool (wT 5 a b)) ∧ Below w.heap.size w w' := by
  go_enter Tryz.func94, Tryz.ntmps94
  go_wp2_with fail
  refine (cmpIs_any 5 _ (by omega) (by omega)).mono ?_
  rintro e w' ⟨rfl, rfl⟩
  go_wp2_with fail
  refine (hold_w5 a b _).mono ?_
  rintro e w' ⟨rfl, rfl⟩
  go_wp2
  go_ret
  exact ⟨rfl, (Below.refl _ _).alloc (Nat.le_refl _) _⟩

theorem hold_w6 (a b : Int) (w : World) :
    Calls Tryz.prog 111 #[.int .i16 a, .int .i16 b] w fun e w' => e = .returned (.bool (wT 6 a b)) ∧ w' = w := by
  go_enter Tryz.func111, Tryz.ntmps111
  go_wp2
  go_ret
  exact ⟨rfl, rfl⟩
set_option maxHeartbeats 400000 in
theorem holds_w6 (a b : Int) (w : World) :
    Calls Tryz.prog 94 #[.int .i64 6, .int .i16 a, .int .i16 b] w fun e w' => e = .returned (.bool (wT 6 a b)) ∧ Below w.heap.size w w' := by
  go_enter Tryz.func94, Tryz.ntmps94
  go_wp2_with fail
  refine (cmpIs_any 6 _ (by omega) (by omega)).mono ?_
  rintro e w' ⟨rfl, rfl⟩
  go_wp2_with fail
  refine (hold_w6 a b _).mono ?_
  rintro e w' ⟨rfl, rfl⟩
  go_wp2
  go_ret
  exact ⟨rfl, (Below.refl _ _).alloc (Nat.le_refl _) _⟩

theorem hold_r1 (a b : Nat) (w : World) :
    Calls Tryz.prog 97 #[.float .f64 a, .float .f64 b] w fun e w' => e = .returned (.bool (rT 1 a b)) ∧ w' = w := by
  go_enter Tryz.func97, Tryz.ntmps97
  go_wp2
  go_ret
  exact ⟨rfl, rfl⟩
set_option maxHeartbeats 400000 in
theorem holds_r1 (a b : Nat) (w : World) :
    Calls Tryz.prog 92 #[.int .i64 1, .float .f64 a, .float .f64 b] w fun e w' => e = .returned (.bool (rT 1 a b)) ∧ Below w.heap.size w w' := by
  go_enter Tryz.func92, Tryz.ntmps92
  go_wp2_with fail
  refine (cmpIs_any 1 _ (by omega) (by omega)).mono ?_
  rintro e w' ⟨rfl, rfl⟩
  go_wp2_with fail
  refine (hold_r1 a b _).mono ?_
  rintro e w' ⟨rfl, rfl⟩
  go_wp2
  go_ret
  exact ⟨rfl, (Below.refl _ _).alloc (Nat.le_refl _) _⟩

theorem hold_r2 (a b : Nat) (w : World) :
    Calls Tryz.prog 98 #[.float .f64 a, .float .f64 b] w fun e w' => e = .returned (.bool (rT 2 a b)) ∧ w' = w := by
  go_enter Tryz.func98, Tryz.ntmps98
  go_wp2
  go_ret
  exact ⟨rfl, rfl⟩
set_option maxHeartbeats 400000 in
theorem holds_r2 (a b : Nat) (w : World) :
    Calls Tryz.prog 92 #[.int .i64 2, .float .f64 a, .float .f64 b] w fun e w' => e = .returned (.bool (rT 2 a b)) ∧ Below w.heap.size w w' := by
  go_enter Tryz.func92, Tryz.ntmps92
  go_wp2_with fail
  refine (cmpIs_any 2 _ (by omega) (by omega)).mono ?_
  rintro e w' ⟨rfl, rfl⟩
  go_wp2_with fail
  refine (hold_r2 a b _).mono ?_
  rintro e w' ⟨rfl, rfl⟩
  go_wp2
  go_ret
  exact ⟨rfl, (Below.refl _ _).alloc (Nat.le_refl _) _⟩

theorem hold_r3 (a b : Nat) (w : World) :
    Calls Tryz.prog 99 #[.float .f64 a, .float .f64 b] w fun e w' => e = .returned (.bool (rT 3 a b)) ∧ w' = w := by
  go_enter Tryz.func99, Tryz.ntmps99
  go_wp2
  go_ret
  exact ⟨rfl, rfl⟩
set_option maxHeartbeats 400000 in
theorem holds_r3 (a b : Nat) (w : World) :
    Calls Tryz.prog 92 #[.int .i64 3, .float .f64 a, .float .f64 b] w fun e w' => e = .returned (.bool (rT 3 a b)) ∧ Below w.heap.size w w' := by
  go_enter Tryz.func92, Tryz.ntmps92
  go_wp2_with fail
  refine (cmpIs_any 3 _ (by omega) (by omega)).mono ?_
  rintro e w' ⟨rfl, rfl⟩
  go_wp2_with fail
  refine (hold_r3 a b _).mono ?_
  rintro e w' ⟨rfl, rfl⟩
  go_wp2
  go_ret
  exact ⟨rfl, (Below.refl _ _).alloc (Nat.le_refl _) _⟩

theorem hold_r4 (a b : Nat) (w : World) :
    Calls Tryz.prog 100 #[.float .f64 a, .float .f64 b] w fun e w' => e = .returned (.bool (rT 4 a b)) ∧ w' = w := by
  go_enter Tryz.func100, Tryz.ntmps100
  go_wp2
  go_ret
  exact ⟨rfl, rfl⟩
set_option maxHeartbeats 400000 in
theorem holds_r4 (a b : Nat) (w : World) :
    Calls Tryz.prog 92 #[.int .i64 4, .float .f64 a, .float .f64 b] w fun e w' => e = .returned (.bool (rT 4 a b)) ∧ Below w.heap.size w w' := by
  go_enter Tryz.func92, Tryz.ntmps92
  go_wp2_with fail
  refine (cmpIs_any 4 _ (by omega) (by omega)).mono ?_
  rintro e w' ⟨rfl, rfl⟩
  go_wp2_with fail
  refine (hold_r4 a b _).mono ?_
  rintro e w' ⟨rfl, rfl⟩
  go_wp2
  go_ret
  exact ⟨rfl, (Below.refl _ _).alloc (Nat.le_refl _) _⟩

theorem hold_r5 (a b : Nat) (w : World) :
    Calls Tryz.prog 101 #[.float .f64 a, .float .f64 b] w fun e w' => e = .returned (.bool (rT 5 a b)) ∧ w' = w := by
  go_enter Tryz.func101, Tryz.ntmps101
  go_wp2
  go_ret
  exact ⟨rfl, rfl⟩
set_option maxHeartbeats 400000 in
theorem holds_r5 (a b : Nat) (w : World) :
    Calls Tryz.prog 92 #[.int .i64 5, .float .f64 a, .float .f64 b] w fun e w' => e = .returned (.bool (rT 5 a b)) ∧ Below w.heap.size w w' := by
  go_enter Tryz.func92, Tryz.ntmps92
  go_wp2_with fail
  refine (cmpIs_any 5 _ (by omega) (by omega)).mono ?_
  rintro e w' ⟨rfl, rfl⟩
  go_wp2_with fail
  refine (hold_r5 a b _).mono ?_
  rintro e w' ⟨rfl, rfl⟩
  go_wp2
  go_ret
  exact ⟨rfl, (Below.refl _ _).alloc (Nat.le_refl _) _⟩

theorem hold_r6 (a b : Nat) (w : World) :
    Calls Tryz.prog 102 #[.float .f64 a, .float .f64 b] w fun e w' => e = .returned (.bool (rT 6 a b)) ∧ w' = w := by
  go_enter Tryz.func102, Tryz.ntmps102
  go_wp2
  go_ret
  exact ⟨rfl, rfl⟩
set_option maxHeartbeats 400000 in
theorem holds_r6 (a b : Nat) (w : World) :
    Calls Tryz.prog 92 #[.int .i64 6, .float .f64 a, .float .f64 b] w fun e w' => e = .returned (.bool (rT 6 a b)) ∧ Below w.heap.size w w' := by
  go_enter Tryz.func92, Tryz.ntmps92
  go_wp2_with fail
  refine (cmpIs_any 6 _ (by omega) (by omega)).mono ?_
  rintro e w' ⟨rfl, rfl⟩
  go_wp2_with fail
  refine (hold_r6 a b _).mono ?_
  rintro e w' ⟨rfl, rfl⟩
  go_wp2
  go_ret
  exact ⟨rfl, (Below.refl _ _).alloc (Nat.le_refl _) _⟩

theorem wcmp_any (i : Nat) (a b : Int) (w : World) (h1 : 1 ≤ i) (h2 : i ≤ 6) :
    Calls Tryz.prog 90 #[.int .i64 (i : Int), .int .i16 a, .int .i16 b] w fun e w' => e = .returned (.bool (wT i a b)) ∧ Below w.heap.size w w' := by
  have hh : ∀ w0 : World, Calls Tryz.prog 94 #[.int .i64 (i : Int), .int .i16 a, .int .i16 b] w0 fun e w' => e = .returned (.bool (wT i a b)) ∧ Below w0.heap.size w0 w' := by
    intro w0
    have : i = 1 ∨ i = 2 ∨ i = 3 ∨ i = 4 ∨ i = 5 ∨ i = 6 := by omega
    rcases this with rfl | rfl | rfl | rfl | rfl | rfl
    · exact holds_w1 a b w0
    · exact holds_w2 a b w0
    · exact holds_w3 a b w0
    · exact holds_w4 a b w0
    · exact holds_w5 a b w0
    · exact holds_w6 a b w0
  go_enter Tryz.func90, Tryz.ntmps90
  go_wp2_with fail
  refine (hh _).mono ?_
  rintro e w' ⟨rfl, hb⟩
  go_wp2
  go_ret
  exact ⟨rfl, hb⟩

theorem rcmp_any (i : Nat) (a b : Nat) (w : World) (h1 : 1 ≤ i) (h2 : i ≤ 6) :
    Calls Tryz.prog 88 #[.int .i64 (i : Int), .float .f64 a, .float .f64 b] w fun e w' => e = .returned (.bool (rT i a b)) ∧ Below w.heap.size w w' := by
  have hh : ∀ w0 : World, Calls Tryz.prog 92 #[.int .i64 (i : Int), .float .f64 a, .float .f64 b] w0 fun e w' => e = .returned (.bool (rT i a b)) ∧ Below w0.heap.size w0 w' := by
    intro w0
    have : i = 1 ∨ i = 2 ∨ i = 3 ∨ i = 4 ∨ i = 5 ∨ i = 6 := by omega
    rcases this with rfl | rfl | rfl | rfl | rfl | rfl
    · exact holds_r1 a b w0
    · exact holds_r2 a b w0
    · exact holds_r3 a b w0
    · exact holds_r4 a b w0
    · exact holds_r5 a b w0
    · exact holds_r6 a b w0
  go_enter Tryz.func88, Tryz.ntmps88
  go_wp2_with fail
  refine (hh _).mono ?_
  rintro e w' ⟨rfl, hb⟩
  go_wp2
  go_ret
  exact ⟨rfl, hb⟩
end Go.Proofs.YtmgjngihngddfaaGreatDoor

/- The document's WholeCmp and RealCmp at the six tests. Helper text: no statement is claimed here. -/
namespace Go.Proofs.YtmgjngihngddfaaGreatDoor
open Go.ChangeShapes Go.WideShapes Go.ChangeAt Go.RowKit Fl

theorem swcmp_any (i : Nat) (a b : Int) (w : World) (h1 : 1 ≤ i) (h2 : i ≤ 6) :
    Calls Tryz.prog 24 #[.int .i64 (i : Int), .int .i16 a, .int .i16 b] w fun e w' => e = .returned (.bool (wT i a b)) ∧ w' = w := by
  have : i = 1 ∨ i = 2 ∨ i = 3 ∨ i = 4 ∨ i = 5 ∨ i = 6 := by omega
  rcases this with rfl | rfl | rfl | rfl | rfl | rfl
  all_goals (
    go_enter Tryz.func24, Tryz.ntmps24
    go_wp2
    go_ret
    exact ⟨rfl, rfl⟩)
theorem srcmp_any (i : Nat) (a b : Nat) (w : World) (h1 : 1 ≤ i) (h2 : i ≤ 6) :
    Calls Tryz.prog 22 #[.int .i64 (i : Int), .float .f64 a, .float .f64 b] w fun e w' => e = .returned (.bool (rT i a b)) ∧ w' = w := by
  have : i = 1 ∨ i = 2 ∨ i = 3 ∨ i = 4 ∨ i = 5 ∨ i = 6 := by omega
  rcases this with rfl | rfl | rfl | rfl | rfl | rfl
  all_goals (
    go_enter Tryz.func22, Tryz.ntmps22
    go_wp2
    go_ret
    exact ⟨rfl, rfl⟩)
end Go.Proofs.YtmgjngihngddfaaGreatDoor
