/- The document's MemBit. Helper text: no statement is claimed here. -/
import Derived.Test.YtjacgamgjjpllaaGreatDoorP24
import Derived.Deep.Cut
import Derived.Test.YtjacgamgjjpllaaGreatDoorP07
import Derived.Test.YtjacgamgjjpllaaGreatDoorP10
import Derived.Test.YtjacgamgjjpllaaGreatDoorP01
import Derived.Test.YtjacgamgjjpllaaGreatDoorP16
namespace Go.Proofs.YtjacgamgjjpllaaGreatDoor
open Go.ChangeShapes Go.WideShapes Go.ChangeAt Go.RowKit

set_option maxHeartbeats 1000000 in
set_option maxRecDepth 10000 in
theorem sbt_6 (m : Mm) (hok : m.Ok) (n p : Int) (w : World) :
    Calls Tryz.prog 99 #[m.val, .agg #[.int .i64 6, .int .i64 n, .int .i64 p]] w fun e w' => e = .returned (.bool (m.bit 6 n)) ∧ Below w.heap.size w w' := by
  obtain ⟨j, hj⟩ := Int.eq_ofNat_of_zero_le (plc_range 6 n).1
  have hlt : j < 8 := by
    have := (plc_range 6 n).2
    rw [hj, show sz4 6 = 8 from rfl] at this
    omega
  have hlt' : (j : Int) < 8 := by omega
  have HG : Hid (∀ W, Calls Tryz.prog 131 #[m.val, .int .i64 j] W fun e w' => e = .returned (.bool (m.given j)) ∧ Below W.heap.size W w') := fun W => sgiven_any m hok j W hlt
  have HE : Hid (m.bit 6 n = m.given j) := by
    show m.given (plc 6 n).toNat = m.given j
    rw [hj]; rfl
  rw [HE.out]
  clear hok
  generalize m.given j = g at *
  unfold Mm.val
  go_enter Tryz.func99, Tryz.ntmps99
  go_upto_region 1 with fail
  have HB : Hid (Below w.heap.size w ((w.alloc (.cells m.cells 37)).alloc (.cells #[.int .i64 6, .int .i64 n, .int .i64 p] 71))) := ((Below.refl _ _).alloc (Nat.le_refl _) _).alloc (by simp) _
  have HI : Hid (MemAt ((w.alloc (.cells m.cells 37)).alloc (.cells #[.int .i64 6, .int .i64 n, .int .i64 p] 71)) w.heap.size m) := (RowAt.new w 37 136 m.cell).alloc _
  have a0 : World.cell? ((w.alloc (.cells m.cells 37)).alloc (.cells #[.int .i64 6, .int .i64 n, .int .i64 p] 71)) ⟨w.heap.size + 1, 0, none⟩ = some (.int .i64 6) := by simp [go_sem]
  have a1 : World.cell? ((w.alloc (.cells m.cells 37)).alloc (.cells #[.int .i64 6, .int .i64 n, .int .i64 p] 71)) ⟨w.heap.size + 1, 1, none⟩ = some (.int .i64 n) := by simp [go_sem]
  have a2 : World.cell? ((w.alloc (.cells m.cells 37)).alloc (.cells #[.int .i64 6, .int .i64 n, .int .i64 p] 71)) ⟨w.heap.size + 1, 2, none⟩ = some (.int .i64 p) := by simp [go_sem]
  generalize ((w.alloc (.cells m.cells 37)).alloc (.cells #[.int .i64 6, .int .i64 n, .int .i64 p] 71)) = V at *
  go_wp2_with fail
  refine (at_any 6 n p _).mono ?_
  rw [hj]
  rintro e w1 ⟨rfl, hb1⟩
  have HB1 : Hid (Below w.heap.size w w1) := HB.out.trans (hb1.mono HB.out.size)
  have HI1 : Hid (MemAt w1 w.heap.size m) := HI.out.to hb1
  have b0 : w1.cell? ⟨w.heap.size + 1, 0, none⟩ = some (.int .i64 6) := (hb1.cell (p := ⟨w.heap.size + 1, 0, none⟩) (World.block_lt_of_cell? V _ a0)).trans a0
  clear hb1 HB HI a0 a1 a2
  go_wp2_with (refine wpList_rowLoad rfl 37 (.tmp 2) rfl _ 0 136 m.cell rfl HI1.out (by omega) (fun i _ => by rw [Nat.zero_add]) Tryz.underlying37 rfl (by kernel_rfl) ?_)
  refine (HG.out _).mono ?_
  rintro e w2 ⟨rfl, hb2⟩
  have HB2 : Hid (Below w.heap.size w w2) := HB1.out.trans (hb2.mono HB1.out.size)
  clear hb2 HG
  go_wp2
  go_ret
  exact ⟨rfl, HB2.out⟩

set_option maxHeartbeats 1000000 in
set_option maxRecDepth 10000 in
theorem sbt_7 (m : Mm) (_hok : m.Ok) (n p : Int) (w : World) :
    Calls Tryz.prog 99 #[m.val, .agg #[.int .i64 7, .int .i64 n, .int .i64 p]] w fun e w' => e = .returned (.bool (m.bit 7 n)) ∧ Below w.heap.size w w' := by
  obtain ⟨j, hj⟩ := Int.eq_ofNat_of_zero_le (plc_range 7 n).1
  have hlt : j < 16 := by
    have := (plc_range 7 n).2
    rw [hj, show sz4 7 = 16 from rfl] at this
    omega
  have hlt' : (j : Int) < 16 := by omega
  have HE : Hid (m.bit 7 n = m.td j) := by
    show m.td (plc 7 n).toNat = m.td j
    rw [hj]; rfl
  rw [HE.out]
  clear _hok
  unfold Mm.val
  go_enter Tryz.func99, Tryz.ntmps99
  go_upto_region 1 with fail
  have HB : Hid (Below w.heap.size w ((w.alloc (.cells m.cells 37)).alloc (.cells #[.int .i64 7, .int .i64 n, .int .i64 p] 71))) := ((Below.refl _ _).alloc (Nat.le_refl _) _).alloc (by simp) _
  have HI : Hid (MemAt ((w.alloc (.cells m.cells 37)).alloc (.cells #[.int .i64 7, .int .i64 n, .int .i64 p] 71)) w.heap.size m) := (RowAt.new w 37 136 m.cell).alloc _
  have a0 : World.cell? ((w.alloc (.cells m.cells 37)).alloc (.cells #[.int .i64 7, .int .i64 n, .int .i64 p] 71)) ⟨w.heap.size + 1, 0, none⟩ = some (.int .i64 7) := by simp [go_sem]
  have a1 : World.cell? ((w.alloc (.cells m.cells 37)).alloc (.cells #[.int .i64 7, .int .i64 n, .int .i64 p] 71)) ⟨w.heap.size + 1, 1, none⟩ = some (.int .i64 n) := by simp [go_sem]
  have a2 : World.cell? ((w.alloc (.cells m.cells 37)).alloc (.cells #[.int .i64 7, .int .i64 n, .int .i64 p] 71)) ⟨w.heap.size + 1, 2, none⟩ = some (.int .i64 p) := by simp [go_sem]
  generalize ((w.alloc (.cells m.cells 37)).alloc (.cells #[.int .i64 7, .int .i64 n, .int .i64 p] 71)) = V at *
  go_wp2_with fail
  refine (at_any 7 n p _).mono ?_
  rw [hj]
  rintro e w1 ⟨rfl, hb1⟩
  have HB1 : Hid (Below w.heap.size w w1) := HB.out.trans (hb1.mono HB.out.size)
  have HI1 : Hid (MemAt w1 w.heap.size m) := HI.out.to hb1
  have b0 : w1.cell? ⟨w.heap.size + 1, 0, none⟩ = some (.int .i64 7) := (hb1.cell (p := ⟨w.heap.size + 1, 0, none⟩) (World.block_lt_of_cell? V _ a0)).trans a0
  clear hb1 HB HI a0 a1 a2
  have c0 : w1.cell? ⟨w.heap.size, 5 + j * 2, none⟩ = some (.bool (m.td j)) := (cell_of_row _ _ _ _ _ _ HI1.out).trans (m.at_td hlt)
  go_wp2
  go_ret
  exact ⟨rfl, HB1.out⟩

set_option maxHeartbeats 1000000 in
set_option maxRecDepth 10000 in
theorem sbt_8 (m : Mm) (_hok : m.Ok) (n p : Int) (w : World) :
    Calls Tryz.prog 99 #[m.val, .agg #[.int .i64 8, .int .i64 n, .int .i64 p]] w fun e w' => e = .returned (.bool (m.bit 8 n)) ∧ Below w.heap.size w w' := by
  obtain ⟨j, hj⟩ := Int.eq_ofNat_of_zero_le (plc_range 8 n).1
  have hlt : j < 16 := by
    have := (plc_range 8 n).2
    rw [hj, show sz4 8 = 16 from rfl] at this
    omega
  have hlt' : (j : Int) < 16 := by omega
  have HE : Hid (m.bit 8 n = m.cd j) := by
    show m.cd (plc 8 n).toNat = m.cd j
    rw [hj]; rfl
  rw [HE.out]
  clear _hok
  unfold Mm.val
  go_enter Tryz.func99, Tryz.ntmps99
  go_upto_region 1 with fail
  have HB : Hid (Below w.heap.size w ((w.alloc (.cells m.cells 37)).alloc (.cells #[.int .i64 8, .int .i64 n, .int .i64 p] 71))) := ((Below.refl _ _).alloc (Nat.le_refl _) _).alloc (by simp) _
  have HI : Hid (MemAt ((w.alloc (.cells m.cells 37)).alloc (.cells #[.int .i64 8, .int .i64 n, .int .i64 p] 71)) w.heap.size m) := (RowAt.new w 37 136 m.cell).alloc _
  have a0 : World.cell? ((w.alloc (.cells m.cells 37)).alloc (.cells #[.int .i64 8, .int .i64 n, .int .i64 p] 71)) ⟨w.heap.size + 1, 0, none⟩ = some (.int .i64 8) := by simp [go_sem]
  have a1 : World.cell? ((w.alloc (.cells m.cells 37)).alloc (.cells #[.int .i64 8, .int .i64 n, .int .i64 p] 71)) ⟨w.heap.size + 1, 1, none⟩ = some (.int .i64 n) := by simp [go_sem]
  have a2 : World.cell? ((w.alloc (.cells m.cells 37)).alloc (.cells #[.int .i64 8, .int .i64 n, .int .i64 p] 71)) ⟨w.heap.size + 1, 2, none⟩ = some (.int .i64 p) := by simp [go_sem]
  generalize ((w.alloc (.cells m.cells 37)).alloc (.cells #[.int .i64 8, .int .i64 n, .int .i64 p] 71)) = V at *
  go_wp2_with fail
  refine (at_any 8 n p _).mono ?_
  rw [hj]
  rintro e w1 ⟨rfl, hb1⟩
  have HB1 : Hid (Below w.heap.size w w1) := HB.out.trans (hb1.mono HB.out.size)
  have HI1 : Hid (MemAt w1 w.heap.size m) := HI.out.to hb1
  have b0 : w1.cell? ⟨w.heap.size + 1, 0, none⟩ = some (.int .i64 8) := (hb1.cell (p := ⟨w.heap.size + 1, 0, none⟩) (World.block_lt_of_cell? V _ a0)).trans a0
  clear hb1 HB HI a0 a1 a2
  have c0 : w1.cell? ⟨w.heap.size, 37 + j * 3, none⟩ = some (.bool (m.cd j)) := (cell_of_row _ _ _ _ _ _ HI1.out).trans (m.at_cd hlt)
  go_wp2
  go_ret
  exact ⟨rfl, HB1.out⟩

set_option maxHeartbeats 1000000 in
set_option maxRecDepth 10000 in
theorem sbt_1 (m : Mm) (hok : m.Ok) (n p : Int) (w : World) :
    Calls Tryz.prog 99 #[m.val, .agg #[.int .i64 1, .int .i64 n, .int .i64 p]] w fun e w' => e = .returned (.bool (m.bit 1 n)) ∧ Below w.heap.size w w' := by
  obtain ⟨j, hj⟩ := Int.eq_ofNat_of_zero_le (plc_range 1 n).1
  have hlt : j < 32 := by
    have := (plc_range 1 n).2
    rw [hj, show sz4 1 = 32 from rfl] at this
    omega
  have hlt' : (j : Int) < 32 := by omega
  have hX : m.x < 4294967296 := hok.hx
  have HG : Hid (∀ W, Calls Tryz.prog 106 #[.int .u64 (m.x : Nat), .int .i64 j] W fun e w' => e = .returned (.bool (bitN m.x j)) ∧ w' = W) := fun W => sbit_any m.x j W (by omega) (by omega)
  have HE : Hid (m.bit 1 n = bitN m.x j) := by
    show bitN m.x (plc 1 n).toNat = bitN m.x j
    rw [hj]; rfl
  have hw : IntKind.u64.wrap (m.x : Int) = (m.x : Int) := wrap_u64n _ (by omega)
  rw [HE.out]
  clear hok hX
  generalize hxx : m.x = xx at *
  unfold Mm.val
  go_enter Tryz.func99, Tryz.ntmps99
  go_upto_region 1 with fail
  have HB : Hid (Below w.heap.size w ((w.alloc (.cells m.cells 37)).alloc (.cells #[.int .i64 1, .int .i64 n, .int .i64 p] 71))) := ((Below.refl _ _).alloc (Nat.le_refl _) _).alloc (by simp) _
  have HI : Hid (MemAt ((w.alloc (.cells m.cells 37)).alloc (.cells #[.int .i64 1, .int .i64 n, .int .i64 p] 71)) w.heap.size m) := (RowAt.new w 37 136 m.cell).alloc _
  have a0 : World.cell? ((w.alloc (.cells m.cells 37)).alloc (.cells #[.int .i64 1, .int .i64 n, .int .i64 p] 71)) ⟨w.heap.size + 1, 0, none⟩ = some (.int .i64 1) := by simp [go_sem]
  have a1 : World.cell? ((w.alloc (.cells m.cells 37)).alloc (.cells #[.int .i64 1, .int .i64 n, .int .i64 p] 71)) ⟨w.heap.size + 1, 1, none⟩ = some (.int .i64 n) := by simp [go_sem]
  have a2 : World.cell? ((w.alloc (.cells m.cells 37)).alloc (.cells #[.int .i64 1, .int .i64 n, .int .i64 p] 71)) ⟨w.heap.size + 1, 2, none⟩ = some (.int .i64 p) := by simp [go_sem]
  generalize ((w.alloc (.cells m.cells 37)).alloc (.cells #[.int .i64 1, .int .i64 n, .int .i64 p] 71)) = V at *
  go_wp2_with fail
  refine (at_any 1 n p _).mono ?_
  rw [hj]
  rintro e w1 ⟨rfl, hb1⟩
  have HB1 : Hid (Below w.heap.size w w1) := HB.out.trans (hb1.mono HB.out.size)
  have HI1 : Hid (MemAt w1 w.heap.size m) := HI.out.to hb1
  have b0 : w1.cell? ⟨w.heap.size + 1, 0, none⟩ = some (.int .i64 1) := (hb1.cell (p := ⟨w.heap.size + 1, 0, none⟩) (World.block_lt_of_cell? V _ a0)).trans a0
  clear hb1 HB HI a0 a1 a2
  have c0 : w1.cell? ⟨w.heap.size, 0, none⟩ = some (.int .u32 (xx : Int)) := (HI1.out.cell (i := 0) (by omega)).trans (by rw [← hxx]; rfl)
  go_wp2_with fail
  refine (HG.out _).mono ?_
  rintro e w2 ⟨rfl, rfl⟩
  go_wp2
  go_ret
  exact ⟨rfl, HB1.out⟩

set_option maxHeartbeats 1000000 in
set_option maxRecDepth 10000 in
theorem sbt_2 (m : Mm) (hok : m.Ok) (n p : Int) (w : World) :
    Calls Tryz.prog 99 #[m.val, .agg #[.int .i64 2, .int .i64 n, .int .i64 p]] w fun e w' => e = .returned (.bool (m.bit 2 n)) ∧ Below w.heap.size w w' := by
  obtain ⟨j, hj⟩ := Int.eq_ofNat_of_zero_le (plc_range 2 n).1
  have hlt : j < 32 := by
    have := (plc_range 2 n).2
    rw [hj, show sz4 2 = 32 from rfl] at this
    omega
  have hlt' : (j : Int) < 32 := by omega
  have hX : m.y < 4294967296 := hok.hy
  have HG : Hid (∀ W, Calls Tryz.prog 106 #[.int .u64 (m.y : Nat), .int .i64 j] W fun e w' => e = .returned (.bool (bitN m.y j)) ∧ w' = W) := fun W => sbit_any m.y j W (by omega) (by omega)
  have HE : Hid (m.bit 2 n = bitN m.y j) := by
    show bitN m.y (plc 2 n).toNat = bitN m.y j
    rw [hj]; rfl
  have hw : IntKind.u64.wrap (m.y : Int) = (m.y : Int) := wrap_u64n _ (by omega)
  rw [HE.out]
  clear hok hX
  generalize hxx : m.y = xx at *
  unfold Mm.val
  go_enter Tryz.func99, Tryz.ntmps99
  go_upto_region 1 with fail
  have HB : Hid (Below w.heap.size w ((w.alloc (.cells m.cells 37)).alloc (.cells #[.int .i64 2, .int .i64 n, .int .i64 p] 71))) := ((Below.refl _ _).alloc (Nat.le_refl _) _).alloc (by simp) _
  have HI : Hid (MemAt ((w.alloc (.cells m.cells 37)).alloc (.cells #[.int .i64 2, .int .i64 n, .int .i64 p] 71)) w.heap.size m) := (RowAt.new w 37 136 m.cell).alloc _
  have a0 : World.cell? ((w.alloc (.cells m.cells 37)).alloc (.cells #[.int .i64 2, .int .i64 n, .int .i64 p] 71)) ⟨w.heap.size + 1, 0, none⟩ = some (.int .i64 2) := by simp [go_sem]
  have a1 : World.cell? ((w.alloc (.cells m.cells 37)).alloc (.cells #[.int .i64 2, .int .i64 n, .int .i64 p] 71)) ⟨w.heap.size + 1, 1, none⟩ = some (.int .i64 n) := by simp [go_sem]
  have a2 : World.cell? ((w.alloc (.cells m.cells 37)).alloc (.cells #[.int .i64 2, .int .i64 n, .int .i64 p] 71)) ⟨w.heap.size + 1, 2, none⟩ = some (.int .i64 p) := by simp [go_sem]
  generalize ((w.alloc (.cells m.cells 37)).alloc (.cells #[.int .i64 2, .int .i64 n, .int .i64 p] 71)) = V at *
  go_wp2_with fail
  refine (at_any 2 n p _).mono ?_
  rw [hj]
  rintro e w1 ⟨rfl, hb1⟩
  have HB1 : Hid (Below w.heap.size w w1) := HB.out.trans (hb1.mono HB.out.size)
  have HI1 : Hid (MemAt w1 w.heap.size m) := HI.out.to hb1
  have b0 : w1.cell? ⟨w.heap.size + 1, 0, none⟩ = some (.int .i64 2) := (hb1.cell (p := ⟨w.heap.size + 1, 0, none⟩) (World.block_lt_of_cell? V _ a0)).trans a0
  clear hb1 HB HI a0 a1 a2
  have c0 : w1.cell? ⟨w.heap.size, 1, none⟩ = some (.int .u32 (xx : Int)) := (HI1.out.cell (i := 1) (by omega)).trans (by rw [← hxx]; rfl)
  go_wp2_with fail
  refine (HG.out _).mono ?_
  rintro e w2 ⟨rfl, rfl⟩
  go_wp2
  go_ret
  exact ⟨rfl, HB1.out⟩

set_option maxHeartbeats 1000000 in
set_option maxRecDepth 10000 in
theorem sbt_3 (m : Mm) (hok : m.Ok) (n p : Int) (w : World) :
    Calls Tryz.prog 99 #[m.val, .agg #[.int .i64 3, .int .i64 n, .int .i64 p]] w fun e w' => e = .returned (.bool (m.bit 3 n)) ∧ Below w.heap.size w w' := by
  obtain ⟨j, hj⟩ := Int.eq_ofNat_of_zero_le (plc_range 3 n).1
  have hlt : j < 64 := by
    have := (plc_range 3 n).2
    rw [hj, show sz4 3 = 64 from rfl] at this
    omega
  have hlt' : (j : Int) < 64 := by omega
  have hX : m.m < 18446744073709551616 := hok.hm
  have HG : Hid (∀ W, Calls Tryz.prog 106 #[.int .u64 (m.m : Nat), .int .i64 j] W fun e w' => e = .returned (.bool (bitN m.m j)) ∧ w' = W) := fun W => sbit_any m.m j W (by omega) (by omega)
  have HE : Hid (m.bit 3 n = bitN m.m j) := by
    show bitN m.m (plc 3 n).toNat = bitN m.m j
    rw [hj]; rfl
  have hw : IntKind.u64.wrap (m.m : Int) = (m.m : Int) := wrap_u64n _ (by omega)
  rw [HE.out]
  clear hok hX
  generalize hxx : m.m = xx at *
  unfold Mm.val
  go_enter Tryz.func99, Tryz.ntmps99
  go_upto_region 1 with fail
  have HB : Hid (Below w.heap.size w ((w.alloc (.cells m.cells 37)).alloc (.cells #[.int .i64 3, .int .i64 n, .int .i64 p] 71))) := ((Below.refl _ _).alloc (Nat.le_refl _) _).alloc (by simp) _
  have HI : Hid (MemAt ((w.alloc (.cells m.cells 37)).alloc (.cells #[.int .i64 3, .int .i64 n, .int .i64 p] 71)) w.heap.size m) := (RowAt.new w 37 136 m.cell).alloc _
  have a0 : World.cell? ((w.alloc (.cells m.cells 37)).alloc (.cells #[.int .i64 3, .int .i64 n, .int .i64 p] 71)) ⟨w.heap.size + 1, 0, none⟩ = some (.int .i64 3) := by simp [go_sem]
  have a1 : World.cell? ((w.alloc (.cells m.cells 37)).alloc (.cells #[.int .i64 3, .int .i64 n, .int .i64 p] 71)) ⟨w.heap.size + 1, 1, none⟩ = some (.int .i64 n) := by simp [go_sem]
  have a2 : World.cell? ((w.alloc (.cells m.cells 37)).alloc (.cells #[.int .i64 3, .int .i64 n, .int .i64 p] 71)) ⟨w.heap.size + 1, 2, none⟩ = some (.int .i64 p) := by simp [go_sem]
  generalize ((w.alloc (.cells m.cells 37)).alloc (.cells #[.int .i64 3, .int .i64 n, .int .i64 p] 71)) = V at *
  go_wp2_with fail
  refine (at_any 3 n p _).mono ?_
  rw [hj]
  rintro e w1 ⟨rfl, hb1⟩
  have HB1 : Hid (Below w.heap.size w w1) := HB.out.trans (hb1.mono HB.out.size)
  have HI1 : Hid (MemAt w1 w.heap.size m) := HI.out.to hb1
  have b0 : w1.cell? ⟨w.heap.size + 1, 0, none⟩ = some (.int .i64 3) := (hb1.cell (p := ⟨w.heap.size + 1, 0, none⟩) (World.block_lt_of_cell? V _ a0)).trans a0
  clear hb1 HB HI a0 a1 a2
  have c0 : w1.cell? ⟨w.heap.size, 2, none⟩ = some (.int .u64 (xx : Int)) := (HI1.out.cell (i := 2) (by omega)).trans (by rw [← hxx]; rfl)
  go_wp2_with fail
  refine (HG.out _).mono ?_
  rintro e w2 ⟨rfl, rfl⟩
  go_wp2
  go_ret
  exact ⟨rfl, HB1.out⟩

set_option maxHeartbeats 1000000 in
set_option maxRecDepth 10000 in
theorem sbt_4 (m : Mm) (hok : m.Ok) (n p : Int) (w : World) :
    Calls Tryz.prog 99 #[m.val, .agg #[.int .i64 4, .int .i64 n, .int .i64 p]] w fun e w' => e = .returned (.bool (m.bit 4 n)) ∧ Below w.heap.size w w' := by
  obtain ⟨j, hj⟩ := Int.eq_ofNat_of_zero_le (plc_range 4 n).1
  have hlt : j < 16 := by
    have := (plc_range 4 n).2
    rw [hj, show sz4 4 = 16 from rfl] at this
    omega
  have hlt' : (j : Int) < 16 := by omega
  have hX : m.s < 65536 := hok.hs
  have HG : Hid (∀ W, Calls Tryz.prog 106 #[.int .u64 (m.s : Nat), .int .i64 j] W fun e w' => e = .returned (.bool (bitN m.s j)) ∧ w' = W) := fun W => sbit_any m.s j W (by omega) (by omega)
  have HE : Hid (m.bit 4 n = bitN m.s j) := by
    show bitN m.s (plc 4 n).toNat = bitN m.s j
    rw [hj]; rfl
  have hw : IntKind.u64.wrap (m.s : Int) = (m.s : Int) := wrap_u64n _ (by omega)
  rw [HE.out]
  clear hok hX
  generalize hxx : m.s = xx at *
  unfold Mm.val
  go_enter Tryz.func99, Tryz.ntmps99
  go_upto_region 1 with fail
  have HB : Hid (Below w.heap.size w ((w.alloc (.cells m.cells 37)).alloc (.cells #[.int .i64 4, .int .i64 n, .int .i64 p] 71))) := ((Below.refl _ _).alloc (Nat.le_refl _) _).alloc (by simp) _
  have HI : Hid (MemAt ((w.alloc (.cells m.cells 37)).alloc (.cells #[.int .i64 4, .int .i64 n, .int .i64 p] 71)) w.heap.size m) := (RowAt.new w 37 136 m.cell).alloc _
  have a0 : World.cell? ((w.alloc (.cells m.cells 37)).alloc (.cells #[.int .i64 4, .int .i64 n, .int .i64 p] 71)) ⟨w.heap.size + 1, 0, none⟩ = some (.int .i64 4) := by simp [go_sem]
  have a1 : World.cell? ((w.alloc (.cells m.cells 37)).alloc (.cells #[.int .i64 4, .int .i64 n, .int .i64 p] 71)) ⟨w.heap.size + 1, 1, none⟩ = some (.int .i64 n) := by simp [go_sem]
  have a2 : World.cell? ((w.alloc (.cells m.cells 37)).alloc (.cells #[.int .i64 4, .int .i64 n, .int .i64 p] 71)) ⟨w.heap.size + 1, 2, none⟩ = some (.int .i64 p) := by simp [go_sem]
  generalize ((w.alloc (.cells m.cells 37)).alloc (.cells #[.int .i64 4, .int .i64 n, .int .i64 p] 71)) = V at *
  go_wp2_with fail
  refine (at_any 4 n p _).mono ?_
  rw [hj]
  rintro e w1 ⟨rfl, hb1⟩
  have HB1 : Hid (Below w.heap.size w w1) := HB.out.trans (hb1.mono HB.out.size)
  have HI1 : Hid (MemAt w1 w.heap.size m) := HI.out.to hb1
  have b0 : w1.cell? ⟨w.heap.size + 1, 0, none⟩ = some (.int .i64 4) := (hb1.cell (p := ⟨w.heap.size + 1, 0, none⟩) (World.block_lt_of_cell? V _ a0)).trans a0
  clear hb1 HB HI a0 a1 a2
  have c0 : w1.cell? ⟨w.heap.size, 3, none⟩ = some (.int .u16 (xx : Int)) := (HI1.out.cell (i := 3) (by omega)).trans (by rw [← hxx]; rfl)
  go_wp2_with fail
  refine (HG.out _).mono ?_
  rintro e w2 ⟨rfl, rfl⟩
  go_wp2
  go_ret
  exact ⟨rfl, HB1.out⟩

set_option maxHeartbeats 1000000 in
set_option maxRecDepth 10000 in
theorem sbt_5 (m : Mm) (hok : m.Ok) (n p : Int) (w : World) :
    Calls Tryz.prog 99 #[m.val, .agg #[.int .i64 5, .int .i64 n, .int .i64 p]] w fun e w' => e = .returned (.bool (m.bit 5 n)) ∧ Below w.heap.size w w' := by
  obtain ⟨j, hj⟩ := Int.eq_ofNat_of_zero_le (plc_range 5 n).1
  have hlt : j < 32 := by
    have := (plc_range 5 n).2
    rw [hj, show sz4 5 = 32 from rfl] at this
    omega
  have hlt' : (j : Int) < 32 := by omega
  have hX : m.e < 4294967296 := hok.he
  have HG : Hid (∀ W, Calls Tryz.prog 106 #[.int .u64 (m.e : Nat), .int .i64 j] W fun e w' => e = .returned (.bool (bitN m.e j)) ∧ w' = W) := fun W => sbit_any m.e j W (by omega) (by omega)
  have HE : Hid (m.bit 5 n = bitN m.e j) := by
    show bitN m.e (plc 5 n).toNat = bitN m.e j
    rw [hj]; rfl
  have hw : IntKind.u64.wrap (m.e : Int) = (m.e : Int) := wrap_u64n _ (by omega)
  rw [HE.out]
  clear hok hX
  generalize hxx : m.e = xx at *
  unfold Mm.val
  go_enter Tryz.func99, Tryz.ntmps99
  go_upto_region 1 with fail
  have HB : Hid (Below w.heap.size w ((w.alloc (.cells m.cells 37)).alloc (.cells #[.int .i64 5, .int .i64 n, .int .i64 p] 71))) := ((Below.refl _ _).alloc (Nat.le_refl _) _).alloc (by simp) _
  have HI : Hid (MemAt ((w.alloc (.cells m.cells 37)).alloc (.cells #[.int .i64 5, .int .i64 n, .int .i64 p] 71)) w.heap.size m) := (RowAt.new w 37 136 m.cell).alloc _
  have a0 : World.cell? ((w.alloc (.cells m.cells 37)).alloc (.cells #[.int .i64 5, .int .i64 n, .int .i64 p] 71)) ⟨w.heap.size + 1, 0, none⟩ = some (.int .i64 5) := by simp [go_sem]
  have a1 : World.cell? ((w.alloc (.cells m.cells 37)).alloc (.cells #[.int .i64 5, .int .i64 n, .int .i64 p] 71)) ⟨w.heap.size + 1, 1, none⟩ = some (.int .i64 n) := by simp [go_sem]
  have a2 : World.cell? ((w.alloc (.cells m.cells 37)).alloc (.cells #[.int .i64 5, .int .i64 n, .int .i64 p] 71)) ⟨w.heap.size + 1, 2, none⟩ = some (.int .i64 p) := by simp [go_sem]
  generalize ((w.alloc (.cells m.cells 37)).alloc (.cells #[.int .i64 5, .int .i64 n, .int .i64 p] 71)) = V at *
  go_wp2_with fail
  refine (at_any 5 n p _).mono ?_
  rw [hj]
  rintro e w1 ⟨rfl, hb1⟩
  have HB1 : Hid (Below w.heap.size w w1) := HB.out.trans (hb1.mono HB.out.size)
  have HI1 : Hid (MemAt w1 w.heap.size m) := HI.out.to hb1
  have b0 : w1.cell? ⟨w.heap.size + 1, 0, none⟩ = some (.int .i64 5) := (hb1.cell (p := ⟨w.heap.size + 1, 0, none⟩) (World.block_lt_of_cell? V _ a0)).trans a0
  clear hb1 HB HI a0 a1 a2
  have c0 : w1.cell? ⟨w.heap.size, 4, none⟩ = some (.int .u32 (xx : Int)) := (HI1.out.cell (i := 4) (by omega)).trans (by rw [← hxx]; rfl)
  go_wp2_with fail
  refine (HG.out _).mono ?_
  rintro e w2 ⟨rfl, rfl⟩
  go_wp2
  go_ret
  exact ⟨rfl, HB1.out⟩

set_option maxHeartbeats 1000000 in
set_option maxRecDepth 10000 in
theorem sbt_no (m : Mm) (_hok : m.Ok) (k : Int) (n p : Int) (w : World) (hk : k ≠ 1 ∧ k ≠ 2 ∧ k ≠ 3 ∧ k ≠ 4 ∧ k ≠ 5 ∧ k ≠ 6 ∧ k ≠ 7 ∧ k ≠ 8) :
    Calls Tryz.prog 99 #[m.val, .agg #[.int .i64 k, .int .i64 n, .int .i64 p]] w fun e w' => e = .returned (.bool (m.bit k n)) ∧ Below w.heap.size w w' := by
  have k1 : (k == 1) = false := by simp only [beq_eq_false_iff_ne, ne_eq]; omega
  have k2 : (k == 2) = false := by simp only [beq_eq_false_iff_ne, ne_eq]; omega
  have k3 : (k == 3) = false := by simp only [beq_eq_false_iff_ne, ne_eq]; omega
  have k4 : (k == 4) = false := by simp only [beq_eq_false_iff_ne, ne_eq]; omega
  have k5 : (k == 5) = false := by simp only [beq_eq_false_iff_ne, ne_eq]; omega
  have k6 : (k == 6) = false := by simp only [beq_eq_false_iff_ne, ne_eq]; omega
  have k7 : (k == 7) = false := by simp only [beq_eq_false_iff_ne, ne_eq]; omega
  have k8 : (k == 8) = false := by simp only [beq_eq_false_iff_ne, ne_eq]; omega
  have HE : Hid (m.bit k n = false) := by
    show m.bit k n = false
    unfold Mm.bit
    rw [if_neg hk.1, if_neg hk.2.1, if_neg hk.2.2.1, if_neg hk.2.2.2.1, if_neg hk.2.2.2.2.1, if_neg hk.2.2.2.2.2.1, if_neg hk.2.2.2.2.2.2.1, if_neg hk.2.2.2.2.2.2.2]
  rw [HE.out]
  clear _hok hk
  obtain ⟨j, hj⟩ : ∃ j : Int, plc k n = j := ⟨_, rfl⟩
  unfold Mm.val
  go_enter Tryz.func99, Tryz.ntmps99
  go_upto_region 1 with fail
  have HB : Hid (Below w.heap.size w ((w.alloc (.cells m.cells 37)).alloc (.cells #[.int .i64 k, .int .i64 n, .int .i64 p] 71))) := ((Below.refl _ _).alloc (Nat.le_refl _) _).alloc (by simp) _
  have HI : Hid (MemAt ((w.alloc (.cells m.cells 37)).alloc (.cells #[.int .i64 k, .int .i64 n, .int .i64 p] 71)) w.heap.size m) := (RowAt.new w 37 136 m.cell).alloc _
  have a0 : World.cell? ((w.alloc (.cells m.cells 37)).alloc (.cells #[.int .i64 k, .int .i64 n, .int .i64 p] 71)) ⟨w.heap.size + 1, 0, none⟩ = some (.int .i64 k) := by simp [go_sem]
  have a1 : World.cell? ((w.alloc (.cells m.cells 37)).alloc (.cells #[.int .i64 k, .int .i64 n, .int .i64 p] 71)) ⟨w.heap.size + 1, 1, none⟩ = some (.int .i64 n) := by simp [go_sem]
  have a2 : World.cell? ((w.alloc (.cells m.cells 37)).alloc (.cells #[.int .i64 k, .int .i64 n, .int .i64 p] 71)) ⟨w.heap.size + 1, 2, none⟩ = some (.int .i64 p) := by simp [go_sem]
  generalize ((w.alloc (.cells m.cells 37)).alloc (.cells #[.int .i64 k, .int .i64 n, .int .i64 p] 71)) = V at *
  go_wp2_with fail
  refine (at_any k n p _).mono ?_
  rw [hj]
  rintro e w1 ⟨rfl, hb1⟩
  have HB1 : Hid (Below w.heap.size w w1) := HB.out.trans (hb1.mono HB.out.size)
  have HI1 : Hid (MemAt w1 w.heap.size m) := HI.out.to hb1
  have b0 : w1.cell? ⟨w.heap.size + 1, 0, none⟩ = some (.int .i64 k) := (hb1.cell (p := ⟨w.heap.size + 1, 0, none⟩) (World.block_lt_of_cell? V _ a0)).trans a0
  clear hb1 HB HI a0 a1 a2
  go_wp2
  go_ret
  exact ⟨rfl, HB1.out⟩
theorem sbt_any (m : Mm) (hok : m.Ok) (k n p : Int) (w : World) :
    Calls Tryz.prog 99 #[m.val, .agg #[.int .i64 k, .int .i64 n, .int .i64 p]] w fun e w' => e = .returned (.bool (m.bit k n)) ∧ Below w.heap.size w w' := by
  by_cases h : k ≠ 1 ∧ k ≠ 2 ∧ k ≠ 3 ∧ k ≠ 4 ∧ k ≠ 5 ∧ k ≠ 6 ∧ k ≠ 7 ∧ k ≠ 8
  · exact sbt_no m hok k n p w h
  · have : k = 1 ∨ k = 2 ∨ k = 3 ∨ k = 4 ∨ k = 5 ∨ k = 6 ∨ k = 7 ∨ k = 8 := by omega
    rcases this with rfl | rfl | rfl | rfl | rfl | rfl | rfl | rfl
    · exact sbt_1 m hok n p w
    · exact sbt_2 m hok n p w
    · exact sbt_3 m hok n p w
    · exact sbt_4 m hok n p w
    · exact sbt_5 m hok n p w
    · exact sbt_6 m hok n p w
    · exact sbt_7 m hok n p w
    · exact sbt_8 m hok n p w
end Go.Proofs.YtjacgamgjjpllaaGreatDoor

/- The document's text of a memory: marks, devices, bits. Helper text: no statement is claimed here. -/
namespace Go.Proofs.YtjacgamgjjpllaaGreatDoor
open Go.ChangeShapes Go.WideShapes Go.ChangeAt Go.RowKit Fl

theorem smark_any (b : Bool) (l : List UInt8) (w : World) :
    Calls Tryz.prog 56 #[.bool b, .string ⟨l.toArray⟩] w fun e w' => e = .returned (.string ⟨(mkT b l).toArray⟩) ∧ w' = w := by
  cases b
  all_goals
    go_enter Tryz.func56, Tryz.ntmps56
    go_wp2
    go_ret
    exact ⟨rfl, rfl⟩
theorem blk_dev (k : Int) (i : Nat) (t : List UInt8) : (⟨(rL (kz k)).toArray⟩ : ByteArray) ++ ⟨(Lib.itoa (i : Int)).toArray⟩ ++ ⟨t.toArray⟩ ++ ⟨#[32]⟩ = ⟨(blk [dvT k i ++ t]).toArray⟩ := by
  rw [cat, cat]
  have := cat (rL (kz k) ++ Lib.itoa (i : Int) ++ t) [32]
  rw [blk_one]
  exact this
set_option maxHeartbeats 400000 in
theorem l4dev_any (k : Int) (i : Nat) (t : List UInt8) (w : World) (hi : i ≤ 64) (ht : t.length ≤ 100) :
    Calls Tryz.prog 54 #[.int .i64 k, .int .i64 (i : Int), .string ⟨t.toArray⟩] w fun e w' => e = .returned (.string ⟨(blk [dvT k i ++ t]).toArray⟩) ∧ Below w.heap.size w w' := by
  have hl1 := rL_one (kz k)
  have hl2 := itoa_len (i : Int) (by omega) (by omega)
  have HX : Hid ((⟨(rL (kz k)).toArray⟩ : ByteArray) ++ ⟨(Lib.itoa (i : Int)).toArray⟩ ++ ⟨t.toArray⟩ ++ ⟨#[32]⟩ = ⟨(blk [dvT k i ++ t]).toArray⟩) := blk_dev k i t
  generalize blk [dvT k i ++ t] = res at *
  go_enter Tryz.func54, Tryz.ntmps54
  go_wp2_with fail
  refine (sletter_any k w).mono ?_
  rintro e w1 ⟨rfl, rfl⟩
  go_wp2_with fail
  refine (dec_any (i : Int) _ (by omega) (by omega)).mono ?_
  rintro e w2 ⟨rfl, hb⟩
  generalize Lib.itoa (i : Int) = il at *
  generalize rL (kz k) = rl at *
  go_wp2
  go_ret
  exact ⟨ret_str HX.out, hb⟩
theorem build_bit (k : Int) (j : Int) (w : World) : (Instr.build 71 #[(0, .int .i64 k), (1, .int .i64 j)]).run Tryz.prog w = .ok (.agg #[.int .i64 k, .int .i64 j, .int .i64 0]) w := by kernel_rfl
set_option maxHeartbeats 1000000 in
set_option maxRecDepth 10000 in
theorem l4bits_any (m : Mm) (hok : m.Ok) (q : Nat) (w : World) :
    Calls Tryz.prog 53 #[m.val, .int .i64 ((q : Int) + 1)] w fun e w' => e = .returned (.string ⟨(blk (kindW m q)).toArray⟩) ∧ Below w.heap.size w w' := by
  have HBit : Hid (∀ (j : Nat) W, Calls Tryz.prog 99 #[m.val, .agg #[.int .i64 ((q : Int) + 1), .int .i64 (j : Int), .int .i64 0]] W fun e w' => e = .returned (.bool (m.bit ((q : Int) + 1) (j : Int))) ∧ Below W.heap.size W w') := fun j W => sbt_any m hok _ _ _ W
  have HDev : Hid (∀ (j : Nat) W, j < bits5 q → Calls Tryz.prog 54 #[.int .i64 ((q : Int) + 1), .int .i64 (j : Int), .string ⟨#[]⟩] W fun e w' => e = .returned (.string ⟨(blk [dvT ((q : Int) + 1) j]).toArray⟩) ∧ Below W.heap.size W w') := fun j W hj => by
    have := bits5_le q
    have h := l4dev_any ((q : Int) + 1) j [] W (by omega) (by simp)
    rwa [List.append_nil] at h
  have HS : Hid (∀ W, Calls Tryz.prog 98 #[.int .i64 ((q : Int) + 1)] W fun e w' => e = .returned (.int .i64 (bits5 q : Int)) ∧ w' = W) := fun W => by
    have h := ssize_any ((q : Int) + 1) W
    have h0 := (rN_bd (kz ((q : Int) + 1))).1
    rwa [show ((bits5 q : Nat) : Int) = rN (kz ((q : Int) + 1)) by unfold bits5; omega]
  have HK : Hid (kindW m q = upto (bitW m ((q : Int) + 1)) (bits5 q)) := rfl
  have HF : Hid (∀ j, j ≤ bits5 q → (blk (upto (bitW m ((q : Int) + 1)) j)).length ≤ 6464) := fun j hj => by
    have := bits5_le q
    have := (fits_bit m ((q : Int) + 1) (j := j) (by omega)).len
    omega
  have HL : Hid (∀ j, j < bits5 q → (blk [dvT ((q : Int) + 1) j]).length ≤ 101) := fun j hj => by
    have := bits5_le q
    have := dvT_len ((q : Int) + 1) (i := j) (by omega)
    rw [blk_one]; simp; omega
  have HST : Hid (∀ j, blk (upto (bitW m ((q : Int) + 1)) (j + 1)) = blk (upto (bitW m ((q : Int) + 1)) j) ++ (if m.bit ((q : Int) + 1) (j : Int) = true then blk [dvT ((q : Int) + 1) j] else [])) := fun j => by
    rw [upto_succ, blk_app]
    congr 1
    unfold bitW
    split <;> rfl
  have hN := bits5_le q
  clear hok
  generalize kindW m q = res at *
  generalize bits5 q = N at *
  generalize (q : Int) + 1 = k at *
  generalize hU : (fun j => blk (upto (bitW m k) j)) = U at *
  have hU0 : U 0 = [] := by rw [← hU]; rfl
  have HU : Hid (∀ j, blk (upto (bitW m k) j) = U j) := fun j => by rw [← hU]
  clear hU
  unfold Mm.val
  go_enter Tryz.func53, Tryz.ntmps53
  go_wp2
  have HB0 : Hid (Below w.heap.size w (w.alloc (.cells m.cells 37))) := (Below.refl _ _).alloc (Nat.le_refl _) _
  have HM0 : Hid (MemAt (w.alloc (.cells m.cells 37)) w.heap.size m) := RowAt.new w _ 136 m.cell
  generalize (w.alloc (.cells m.cells 37)) = V at *
  go_loopw [6, 5] (fun c o w' => ∃ j : Nat, j ≤ N ∧ c = .int .i64 (j : Int) ∧ o = .string ⟨(U j).toArray⟩ ∧ Hid (Below w.heap.size w w') ∧ Hid (MemAt w' w.heap.size m)) (fun c _ _ => N - (intOf c).toNat)
  case atStart => exact ⟨0, by omega, rfl, by rw [hU0], HB0, HM0⟩
  case round =>
    obtain ⟨j, hj, rfl, rfl, HBr, HMr⟩ := hrel
    rename_i wr
    clear HB0 HM0
    go_wp2_with fail
    refine (HS.out wr).mono ?_
    rintro e w0 ⟨rfl, rfl⟩
    by_cases hlt : j < N
    · have hlt' : (j : Int) < (N : Int) := by omega
      go_wp2_with (first | (refine wpList_rowLoad rfl 37 (.tmp 2) rfl _ 0 136 m.cell rfl HMr.out (by omega) (fun i _ => by rw [Nat.zero_add]) Tryz.underlying37 rfl (by kernel_rfl) ?_) | fail)
      refine (HBit.out j _).mono ?_
      rintro e w1 ⟨rfl, hb1⟩
      have HB1 : Hid (Below w.heap.size w w1) := HBr.out.trans (hb1.mono HBr.out.size)
      have HM1 : Hid (MemAt w1 w.heap.size m) := HMr.out.to hb1
      have HST1 : Hid (U (j + 1) = U j ++ (if m.bit k (j : Int) = true then blk [dvT k j] else [])) := by
        show U (j + 1) = _
        rw [← HU.out, ← HU.out]
        exact HST.out j
      have hl1 : (U j).length ≤ 6464 := by rw [← HU.out]; exact HF.out j hj
      have hl2 := HL.out j hlt
      have HD1 := HDev.out j
      clear hb1 HBr HMr HDev HBit HF HL HST
      generalize m.bit k (j : Int) = bb at *
      cases bb
      · have HE : Hid (U (j + 1) = U j) := by show U (j + 1) = _; rw [HST1.out]; simp
        clear HST1 HD1
        go_wp2
        exact ⟨⟨j + 1, by omega, by go_num, by rw [HE.out], HB1, HM1⟩, by simp [intOf]; omega⟩
      · have HE : Hid (U (j + 1) = U j ++ blk [dvT k j]) := by show U (j + 1) = _; rw [HST1.out]; simp
        have HD2 : Hid _ := HD1
        clear HST1 HD1
        go_wp2_with fail
        refine (HD2.out _ hlt).mono ?_
        rintro e w2 ⟨rfl, hb2⟩
        have HB2 : Hid (Below w.heap.size w w2) := HB1.out.trans (hb2.mono HB1.out.size)
        have HM2 : Hid (MemAt w2 w.heap.size m) := HM1.out.to hb2
        clear hb2 HB1 HM1 HD2
        generalize blk [dvT k j] = bl at *
        go_wp2
        exact ⟨⟨j + 1, by omega, by go_num, by rw [HE.out]; exact congrArg Value.string (cat _ _), HB2, HM2⟩, by simp [intOf]; omega⟩
    · obtain rfl : j = N := by omega
      have hlt' : ¬ (j : Int) < (j : Int) := by omega
      go_wp2
      go_ret
      exact ⟨by rw [HK.out, HU.out]; rfl, HBr.out⟩
end Go.Proofs.YtjacgamgjjpllaaGreatDoor
