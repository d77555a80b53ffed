/- The document's MemBit. Helper text: no statement is claimed here. -/
import Derived.Test.YtljhpagpohihcaaDoorUa
import Derived.Deep.Cut
namespace Go.Proofs.YtljhpagpohihcaaDoor
open Go.ChangeShapes Go.WideShapes Go.ChangeAt Go.RowKit

set_option maxHeartbeats 1000000 in
set_option maxRecDepth 10000 in
theorem sbt_6 (m : Mm) (hok : m.Ok) (n p : Int) (w : World) :
    Calls Tryd.prog 23 #[m.val, .agg #[.int .i64 6, .int .i64 n, .int .i64 p]] w fun e w' => e = .returned (.bool (m.bit 6 n)) ∧ Below w.heap.size w w' := by
  obtain ⟨j, hj⟩ := Int.eq_ofNat_of_zero_le (plc_range 6 n).1
  have hlt : j < 8 := by
    have := (plc_range 6 n).2
    rw [hj, show sz4 6 = 8 from rfl] at this
    omega
  have hlt' : (j : Int) < 8 := by omega
  have HG : Hid (∀ W, Calls Tryd.prog 48 #[m.val, .int .i64 j] W fun e w' => e = .returned (.bool (m.given j)) ∧ Below W.heap.size W w') := fun W => sgiven_any m hok j W hlt
  have HE : Hid (m.bit 6 n = m.given j) := by
    show m.given (plc 6 n).toNat = m.given j
    rw [hj]; rfl
  rw [HE.out]
  clear hok
  generalize m.given j = g at *
  unfold Mm.val
  go_enter Tryd.func23, Tryd.ntmps23
  go_upto_region 1 with fail
  have HB : Hid (Below w.heap.size w ((w.alloc (.cells m.cells 37)).alloc (.cells #[.int .i64 6, .int .i64 n, .int .i64 p] 39))) := ((Below.refl _ _).alloc (Nat.le_refl _) _).alloc (by simp) _
  have HI : Hid (MemAt ((w.alloc (.cells m.cells 37)).alloc (.cells #[.int .i64 6, .int .i64 n, .int .i64 p] 39)) w.heap.size m) := (RowAt.new w 37 136 m.cell).alloc _
  have a0 : World.cell? ((w.alloc (.cells m.cells 37)).alloc (.cells #[.int .i64 6, .int .i64 n, .int .i64 p] 39)) ⟨w.heap.size + 1, 0, none⟩ = some (.int .i64 6) := by simp [go_sem]
  have a1 : World.cell? ((w.alloc (.cells m.cells 37)).alloc (.cells #[.int .i64 6, .int .i64 n, .int .i64 p] 39)) ⟨w.heap.size + 1, 1, none⟩ = some (.int .i64 n) := by simp [go_sem]
  have a2 : World.cell? ((w.alloc (.cells m.cells 37)).alloc (.cells #[.int .i64 6, .int .i64 n, .int .i64 p] 39)) ⟨w.heap.size + 1, 2, none⟩ = some (.int .i64 p) := by simp [go_sem]
  generalize ((w.alloc (.cells m.cells 37)).alloc (.cells #[.int .i64 6, .int .i64 n, .int .i64 p] 39)) = V at *
  go_wp2_with fail
  refine (at_any 6 n p _).mono ?_
  rw [hj]
  rintro e w1 ⟨rfl, hb1⟩
  have HB1 : Hid (Below w.heap.size w w1) := HB.out.trans (hb1.mono HB.out.size)
  have HI1 : Hid (MemAt w1 w.heap.size m) := HI.out.to hb1
  have b0 : w1.cell? ⟨w.heap.size + 1, 0, none⟩ = some (.int .i64 6) := (hb1.cell (p := ⟨w.heap.size + 1, 0, none⟩) (World.block_lt_of_cell? V _ a0)).trans a0
  clear hb1 HB HI a0 a1 a2
  go_wp2_with (refine wpList_rowLoad rfl 37 (.tmp 2) rfl _ 0 136 m.cell rfl HI1.out (by omega) (fun i _ => by rw [Nat.zero_add]) Tryd.underlying37 rfl (by kernel_rfl) ?_)
  refine (HG.out _).mono ?_
  rintro e w2 ⟨rfl, hb2⟩
  have HB2 : Hid (Below w.heap.size w w2) := HB1.out.trans (hb2.mono HB1.out.size)
  clear hb2 HG
  go_wp2
  go_ret
  exact ⟨rfl, HB2.out⟩

set_option maxHeartbeats 1000000 in
set_option maxRecDepth 10000 in
theorem sbt_7 (m : Mm) (_hok : m.Ok) (n p : Int) (w : World) :
    Calls Tryd.prog 23 #[m.val, .agg #[.int .i64 7, .int .i64 n, .int .i64 p]] w fun e w' => e = .returned (.bool (m.bit 7 n)) ∧ Below w.heap.size w w' := by
  obtain ⟨j, hj⟩ := Int.eq_ofNat_of_zero_le (plc_range 7 n).1
  have hlt : j < 16 := by
    have := (plc_range 7 n).2
    rw [hj, show sz4 7 = 16 from rfl] at this
    omega
  have hlt' : (j : Int) < 16 := by omega
  have HE : Hid (m.bit 7 n = m.td j) := by
    show m.td (plc 7 n).toNat = m.td j
    rw [hj]; rfl
  rw [HE.out]
  clear _hok
  unfold Mm.val
  go_enter Tryd.func23, Tryd.ntmps23
  go_upto_region 1 with fail
  have HB : Hid (Below w.heap.size w ((w.alloc (.cells m.cells 37)).alloc (.cells #[.int .i64 7, .int .i64 n, .int .i64 p] 39))) := ((Below.refl _ _).alloc (Nat.le_refl _) _).alloc (by simp) _
  have HI : Hid (MemAt ((w.alloc (.cells m.cells 37)).alloc (.cells #[.int .i64 7, .int .i64 n, .int .i64 p] 39)) w.heap.size m) := (RowAt.new w 37 136 m.cell).alloc _
  have a0 : World.cell? ((w.alloc (.cells m.cells 37)).alloc (.cells #[.int .i64 7, .int .i64 n, .int .i64 p] 39)) ⟨w.heap.size + 1, 0, none⟩ = some (.int .i64 7) := by simp [go_sem]
  have a1 : World.cell? ((w.alloc (.cells m.cells 37)).alloc (.cells #[.int .i64 7, .int .i64 n, .int .i64 p] 39)) ⟨w.heap.size + 1, 1, none⟩ = some (.int .i64 n) := by simp [go_sem]
  have a2 : World.cell? ((w.alloc (.cells m.cells 37)).alloc (.cells #[.int .i64 7, .int .i64 n, .int .i64 p] 39)) ⟨w.heap.size + 1, 2, none⟩ = some (.int .i64 p) := by simp [go_sem]
  generalize ((w.alloc (.cells m.cells 37)).alloc (.cells #[.int .i64 7, .int .i64 n, .int .i64 p] 39)) = V at *
  go_wp2_with fail
  refine (at_any 7 n p _).mono ?_
  rw [hj]
  rintro e w1 ⟨rfl, hb1⟩
  have HB1 : Hid (Below w.heap.size w w1) := HB.out.trans (hb1.mono HB.out.size)
  have HI1 : Hid (MemAt w1 w.heap.size m) := HI.out.to hb1
  have b0 : w1.cell? ⟨w.heap.size + 1, 0, none⟩ = some (.int .i64 7) := (hb1.cell (p := ⟨w.heap.size + 1, 0, none⟩) (World.block_lt_of_cell? V _ a0)).trans a0
  clear hb1 HB HI a0 a1 a2
  have c0 : w1.cell? ⟨w.heap.size, 5 + j * 2, none⟩ = some (.bool (m.td j)) := (cell_of_row _ _ _ _ _ _ HI1.out).trans (m.at_td hlt)
  go_wp2
  go_ret
  exact ⟨rfl, HB1.out⟩

set_option maxHeartbeats 1000000 in
set_option maxRecDepth 10000 in
theorem sbt_8 (m : Mm) (_hok : m.Ok) (n p : Int) (w : World) :
    Calls Tryd.prog 23 #[m.val, .agg #[.int .i64 8, .int .i64 n, .int .i64 p]] w fun e w' => e = .returned (.bool (m.bit 8 n)) ∧ Below w.heap.size w w' := by
  obtain ⟨j, hj⟩ := Int.eq_ofNat_of_zero_le (plc_range 8 n).1
  have hlt : j < 16 := by
    have := (plc_range 8 n).2
    rw [hj, show sz4 8 = 16 from rfl] at this
    omega
  have hlt' : (j : Int) < 16 := by omega
  have HE : Hid (m.bit 8 n = m.cd j) := by
    show m.cd (plc 8 n).toNat = m.cd j
    rw [hj]; rfl
  rw [HE.out]
  clear _hok
  unfold Mm.val
  go_enter Tryd.func23, Tryd.ntmps23
  go_upto_region 1 with fail
  have HB : Hid (Below w.heap.size w ((w.alloc (.cells m.cells 37)).alloc (.cells #[.int .i64 8, .int .i64 n, .int .i64 p] 39))) := ((Below.refl _ _).alloc (Nat.le_refl _) _).alloc (by simp) _
  have HI : Hid (MemAt ((w.alloc (.cells m.cells 37)).alloc (.cells #[.int .i64 8, .int .i64 n, .int .i64 p] 39)) w.heap.size m) := (RowAt.new w 37 136 m.cell).alloc _
  have a0 : World.cell? ((w.alloc (.cells m.cells 37)).alloc (.cells #[.int .i64 8, .int .i64 n, .int .i64 p] 39)) ⟨w.heap.size + 1, 0, none⟩ = some (.int .i64 8) := by simp [go_sem]
  have a1 : World.cell? ((w.alloc (.cells m.cells 37)).alloc (.cells #[.int .i64 8, .int .i64 n, .int .i64 p] 39)) ⟨w.heap.size + 1, 1, none⟩ = some (.int .i64 n) := by simp [go_sem]
  have a2 : World.cell? ((w.alloc (.cells m.cells 37)).alloc (.cells #[.int .i64 8, .int .i64 n, .int .i64 p] 39)) ⟨w.heap.size + 1, 2, none⟩ = some (.int .i64 p) := by simp [go_sem]
  generalize ((w.alloc (.cells m.cells 37)).alloc (.cells #[.int .i64 8, .int .i64 n, .int .i64 p] 39)) = V at *
  go_wp2_with fail
  refine (at_any 8 n p _).mono ?_
  rw [hj]
  rintro e w1 ⟨rfl, hb1⟩
  have HB1 : Hid (Below w.heap.size w w1) := HB.out.trans (hb1.mono HB.out.size)
  have HI1 : Hid (MemAt w1 w.heap.size m) := HI.out.to hb1
  have b0 : w1.cell? ⟨w.heap.size + 1, 0, none⟩ = some (.int .i64 8) := (hb1.cell (p := ⟨w.heap.size + 1, 0, none⟩) (World.block_lt_of_cell? V _ a0)).trans a0
  clear hb1 HB HI a0 a1 a2
  have c0 : w1.cell? ⟨w.heap.size, 37 + j * 3, none⟩ = some (.bool (m.cd j)) := (cell_of_row _ _ _ _ _ _ HI1.out).trans (m.at_cd hlt)
  go_wp2
  go_ret
  exact ⟨rfl, HB1.out⟩

set_option maxHeartbeats 1000000 in
set_option maxRecDepth 10000 in
theorem sbt_1 (m : Mm) (hok : m.Ok) (n p : Int) (w : World) :
    Calls Tryd.prog 23 #[m.val, .agg #[.int .i64 1, .int .i64 n, .int .i64 p]] w fun e w' => e = .returned (.bool (m.bit 1 n)) ∧ Below w.heap.size w w' := by
  obtain ⟨j, hj⟩ := Int.eq_ofNat_of_zero_le (plc_range 1 n).1
  have hlt : j < 32 := by
    have := (plc_range 1 n).2
    rw [hj, show sz4 1 = 32 from rfl] at this
    omega
  have hlt' : (j : Int) < 32 := by omega
  have hX : m.x < 4294967296 := hok.hx
  have HG : Hid (∀ W, Calls Tryd.prog 47 #[.int .u64 (m.x : Nat), .int .i64 j] W fun e w' => e = .returned (.bool (bitN m.x j)) ∧ w' = W) := fun W => sbit_any m.x j W (by omega) (by omega)
  have HE : Hid (m.bit 1 n = bitN m.x j) := by
    show bitN m.x (plc 1 n).toNat = bitN m.x j
    rw [hj]; rfl
  have hw : IntKind.u64.wrap (m.x : Int) = (m.x : Int) := wrap_u64n _ (by omega)
  rw [HE.out]
  clear hok hX
  generalize hxx : m.x = xx at *
  unfold Mm.val
  go_enter Tryd.func23, Tryd.ntmps23
  go_upto_region 1 with fail
  have HB : Hid (Below w.heap.size w ((w.alloc (.cells m.cells 37)).alloc (.cells #[.int .i64 1, .int .i64 n, .int .i64 p] 39))) := ((Below.refl _ _).alloc (Nat.le_refl _) _).alloc (by simp) _
  have HI : Hid (MemAt ((w.alloc (.cells m.cells 37)).alloc (.cells #[.int .i64 1, .int .i64 n, .int .i64 p] 39)) w.heap.size m) := (RowAt.new w 37 136 m.cell).alloc _
  have a0 : World.cell? ((w.alloc (.cells m.cells 37)).alloc (.cells #[.int .i64 1, .int .i64 n, .int .i64 p] 39)) ⟨w.heap.size + 1, 0, none⟩ = some (.int .i64 1) := by simp [go_sem]
  have a1 : World.cell? ((w.alloc (.cells m.cells 37)).alloc (.cells #[.int .i64 1, .int .i64 n, .int .i64 p] 39)) ⟨w.heap.size + 1, 1, none⟩ = some (.int .i64 n) := by simp [go_sem]
  have a2 : World.cell? ((w.alloc (.cells m.cells 37)).alloc (.cells #[.int .i64 1, .int .i64 n, .int .i64 p] 39)) ⟨w.heap.size + 1, 2, none⟩ = some (.int .i64 p) := by simp [go_sem]
  generalize ((w.alloc (.cells m.cells 37)).alloc (.cells #[.int .i64 1, .int .i64 n, .int .i64 p] 39)) = V at *
  go_wp2_with fail
  refine (at_any 1 n p _).mono ?_
  rw [hj]
  rintro e w1 ⟨rfl, hb1⟩
  have HB1 : Hid (Below w.heap.size w w1) := HB.out.trans (hb1.mono HB.out.size)
  have HI1 : Hid (MemAt w1 w.heap.size m) := HI.out.to hb1
  have b0 : w1.cell? ⟨w.heap.size + 1, 0, none⟩ = some (.int .i64 1) := (hb1.cell (p := ⟨w.heap.size + 1, 0, none⟩) (World.block_lt_of_cell? V _ a0)).trans a0
  clear hb1 HB HI a0 a1 a2
  have c0 : w1.cell? ⟨w.heap.size, 0, none⟩ = some (.int .u32 (xx : Int)) := (HI1.out.cell (i := 0) (by omega)).trans (by rw [← hxx]; rfl)
  go_wp2_with fail
  refine (HG.out _).mono ?_
  rintro e w2 ⟨rfl, rfl⟩
  go_wp2
  go_ret
  exact ⟨rfl, HB1.out⟩

set_option maxHeartbeats 1000000 in
set_option maxRecDepth 10000 in
theorem sbt_2 (m : Mm) (hok : m.Ok) (n p : Int) (w : World) :
    Calls Tryd.prog 23 #[m.val, .agg #[.int .i64 2, .int .i64 n, .int .i64 p]] w fun e w' => e = .returned (.bool (m.bit 2 n)) ∧ Below w.heap.size w w' := by
  obtain ⟨j, hj⟩ := Int.eq_ofNat_of_zero_le (plc_range 2 n).1
  have hlt : j < 32 := by
    have := (plc_range 2 n).2
    rw [hj, show sz4 2 = 32 from rfl] at this
    omega
  have hlt' : (j : Int) < 32 := by omega
  have hX : m.y < 4294967296 := hok.hy
  have HG : Hid (∀ W, Calls Tryd.prog 47 #[.int .u64 (m.y : Nat), .int .i64 j] W fun e w' => e = .returned (.bool (bitN m.y j)) ∧ w' = W) := fun W => sbit_any m.y j W (by omega) (by omega)
  have HE : Hid (m.bit 2 n = bitN m.y j) := by
    show bitN m.y (plc 2 n).toNat = bitN m.y j
    rw [hj]; rfl
  have hw : IntKind.u64.wrap (m.y : Int) = (m.y : Int) := wrap_u64n _ (by omega)
  rw [HE.out]
  clear hok hX
  generalize hxx : m.y = xx at *
  unfold Mm.val
  go_enter Tryd.func23, Tryd.ntmps23
  go_upto_region 1 with fail
  have HB : Hid (Below w.heap.size w ((w.alloc (.cells m.cells 37)).alloc (.cells #[.int .i64 2, .int .i64 n, .int .i64 p] 39))) := ((Below.refl _ _).alloc (Nat.le_refl _) _).alloc (by simp) _
  have HI : Hid (MemAt ((w.alloc (.cells m.cells 37)).alloc (.cells #[.int .i64 2, .int .i64 n, .int .i64 p] 39)) w.heap.size m) := (RowAt.new w 37 136 m.cell).alloc _
  have a0 : World.cell? ((w.alloc (.cells m.cells 37)).alloc (.cells #[.int .i64 2, .int .i64 n, .int .i64 p] 39)) ⟨w.heap.size + 1, 0, none⟩ = some (.int .i64 2) := by simp [go_sem]
  have a1 : World.cell? ((w.alloc (.cells m.cells 37)).alloc (.cells #[.int .i64 2, .int .i64 n, .int .i64 p] 39)) ⟨w.heap.size + 1, 1, none⟩ = some (.int .i64 n) := by simp [go_sem]
  have a2 : World.cell? ((w.alloc (.cells m.cells 37)).alloc (.cells #[.int .i64 2, .int .i64 n, .int .i64 p] 39)) ⟨w.heap.size + 1, 2, none⟩ = some (.int .i64 p) := by simp [go_sem]
  generalize ((w.alloc (.cells m.cells 37)).alloc (.cells #[.int .i64 2, .int .i64 n, .int .i64 p] 39)) = V at *
  go_wp2_with fail
  refine (at_any 2 n p _).mono ?_
  rw [hj]
  rintro e w1 ⟨rfl, hb1⟩
  have HB1 : Hid (Below w.heap.size w w1) := HB.out.trans (hb1.mono HB.out.size)
  have HI1 : Hid (MemAt w1 w.heap.size m) := HI.out.to hb1
  have b0 : w1.cell? ⟨w.heap.size + 1, 0, none⟩ = some (.int .i64 2) := (hb1.cell (p := ⟨w.heap.size + 1, 0, none⟩) (World.block_lt_of_cell? V _ a0)).trans a0
  clear hb1 HB HI a0 a1 a2
  have c0 : w1.cell? ⟨w.heap.size, 1, none⟩ = some (.int .u32 (xx : Int)) := (HI1.out.cell (i := 1) (by omega)).trans (by rw [← hxx]; rfl)
  go_wp2_with fail
  refine (HG.out _).mono ?_
  rintro e w2 ⟨rfl, rfl⟩
  go_wp2
  go_ret
  exact ⟨rfl, HB1.out⟩

set_option maxHeartbeats 1000000 in
set_option maxRecDepth 10000 in
theorem sbt_3 (m : Mm) (hok : m.Ok) (n p : Int) (w : World) :
    Calls Tryd.prog 23 #[m.val, .agg #[.int .i64 3, .int .i64 n, .int .i64 p]] w fun e w' => e = .returned (.bool (m.bit 3 n)) ∧ Below w.heap.size w w' := by
  obtain ⟨j, hj⟩ := Int.eq_ofNat_of_zero_le (plc_range 3 n).1
  have hlt : j < 64 := by
    have := (plc_range 3 n).2
    rw [hj, show sz4 3 = 64 from rfl] at this
    omega
  have hlt' : (j : Int) < 64 := by omega
  have hX : m.m < 18446744073709551616 := hok.hm
  have HG : Hid (∀ W, Calls Tryd.prog 47 #[.int .u64 (m.m : Nat), .int .i64 j] W fun e w' => e = .returned (.bool (bitN m.m j)) ∧ w' = W) := fun W => sbit_any m.m j W (by omega) (by omega)
  have HE : Hid (m.bit 3 n = bitN m.m j) := by
    show bitN m.m (plc 3 n).toNat = bitN m.m j
    rw [hj]; rfl
  have hw : IntKind.u64.wrap (m.m : Int) = (m.m : Int) := wrap_u64n _ (by omega)
  rw [HE.out]
  clear hok hX
  generalize hxx : m.m = xx at *
  unfold Mm.val
  go_enter Tryd.func23, Tryd.ntmps23
  go_upto_region 1 with fail
  have HB : Hid (Below w.heap.size w ((w.alloc (.cells m.cells 37)).alloc (.cells #[.int .i64 3, .int .i64 n, .int .i64 p] 39))) := ((Below.refl _ _).alloc (Nat.le_refl _) _).alloc (by simp) _
  have HI : Hid (MemAt ((w.alloc (.cells m.cells 37)).alloc (.cells #[.int .i64 3, .int .i64 n, .int .i64 p] 39)) w.heap.size m) := (RowAt.new w 37 136 m.cell).alloc _
  have a0 : World.cell? ((w.alloc (.cells m.cells 37)).alloc (.cells #[.int .i64 3, .int .i64 n, .int .i64 p] 39)) ⟨w.heap.size + 1, 0, none⟩ = some (.int .i64 3) := by simp [go_sem]
  have a1 : World.cell? ((w.alloc (.cells m.cells 37)).alloc (.cells #[.int .i64 3, .int .i64 n, .int .i64 p] 39)) ⟨w.heap.size + 1, 1, none⟩ = some (.int .i64 n) := by simp [go_sem]
  have a2 : World.cell? ((w.alloc (.cells m.cells 37)).alloc (.cells #[.int .i64 3, .int .i64 n, .int .i64 p] 39)) ⟨w.heap.size + 1, 2, none⟩ = some (.int .i64 p) := by simp [go_sem]
  generalize ((w.alloc (.cells m.cells 37)).alloc (.cells #[.int .i64 3, .int .i64 n, .int .i64 p] 39)) = V at *
  go_wp2_with fail
  refine (at_any 3 n p _).mono ?_
  rw [hj]
  rintro e w1 ⟨rfl, hb1⟩
  have HB1 : Hid (Below w.heap.size w w1) := HB.out.trans (hb1.mono HB.out.size)
  have HI1 : Hid (MemAt w1 w.heap.size m) := HI.out.to hb1
  have b0 : w1.cell? ⟨w.heap.size + 1, 0, none⟩ = some (.int .i64 3) := (hb1.cell (p := ⟨w.heap.size + 1, 0, none⟩) (World.block_lt_of_cell? V _ a0)).trans a0
  clear hb1 HB HI a0 a1 a2
  have c0 : w1.cell? ⟨w.heap.size, 2, none⟩ = some (.int .u64 (xx : Int)) := (HI1.out.cell (i := 2) (by omega)).trans (by rw [← hxx]; rfl)
  go_wp2_with fail
  refine (HG.out _).mono ?_
  rintro e w2 ⟨rfl, rfl⟩
  go_wp2
  go_ret
  exact ⟨rfl, HB1.out⟩

set_option maxHeartbeats 1000000 in
set_option maxRecDepth 10000 in
theorem sbt_4 (m : Mm) (hok : m.Ok) (n p : Int) (w : World) :
    Calls Tryd.prog 23 #[m.val, .agg #[.int .i64 4, .int .i64 n, .int .i64 p]] w fun e w' => e = .returned (.bool (m.bit 4 n)) ∧ Below w.heap.size w w' := by
  obtain ⟨j, hj⟩ := Int.eq_ofNat_of_zero_le (plc_range 4 n).1
  have hlt : j < 16 := by
    have := (plc_range 4 n).2
    rw [hj, show sz4 4 = 16 from rfl] at this
    omega
  have hlt' : (j : Int) < 16 := by omega
  have hX : m.s < 65536 := hok.hs
  have HG : Hid (∀ W, Calls Tryd.prog 47 #[.int .u64 (m.s : Nat), .int .i64 j] W fun e w' => e = .returned (.bool (bitN m.s j)) ∧ w' = W) := fun W => sbit_any m.s j W (by omega) (by omega)
  have HE : Hid (m.bit 4 n = bitN m.s j) := by
    show bitN m.s (plc 4 n).toNat = bitN m.s j
    rw [hj]; rfl
  have hw : IntKind.u64.wrap (m.s : Int) = (m.s : Int) := wrap_u64n _ (by omega)
  rw [HE.out]
  clear hok hX
  generalize hxx : m.s = xx at *
  unfold Mm.val
  go_enter Tryd.func23, Tryd.ntmps23
  go_upto_region 1 with fail
  have HB : Hid (Below w.heap.size w ((w.alloc (.cells m.cells 37)).alloc (.cells #[.int .i64 4, .int .i64 n, .int .i64 p] 39))) := ((Below.refl _ _).alloc (Nat.le_refl _) _).alloc (by simp) _
  have HI : Hid (MemAt ((w.alloc (.cells m.cells 37)).alloc (.cells #[.int .i64 4, .int .i64 n, .int .i64 p] 39)) w.heap.size m) := (RowAt.new w 37 136 m.cell).alloc _
  have a0 : World.cell? ((w.alloc (.cells m.cells 37)).alloc (.cells #[.int .i64 4, .int .i64 n, .int .i64 p] 39)) ⟨w.heap.size + 1, 0, none⟩ = some (.int .i64 4) := by simp [go_sem]
  have a1 : World.cell? ((w.alloc (.cells m.cells 37)).alloc (.cells #[.int .i64 4, .int .i64 n, .int .i64 p] 39)) ⟨w.heap.size + 1, 1, none⟩ = some (.int .i64 n) := by simp [go_sem]
  have a2 : World.cell? ((w.alloc (.cells m.cells 37)).alloc (.cells #[.int .i64 4, .int .i64 n, .int .i64 p] 39)) ⟨w.heap.size + 1, 2, none⟩ = some (.int .i64 p) := by simp [go_sem]
  generalize ((w.alloc (.cells m.cells 37)).alloc (.cells #[.int .i64 4, .int .i64 n, .int .i64 p] 39)) = V at *
  go_wp2_with fail
  refine (at_any 4 n p _).mono ?_
  rw [hj]
  rintro e w1 ⟨rfl, hb1⟩
  have HB1 : Hid (Below w.heap.size w w1) := HB.out.trans (hb1.mono HB.out.size)
  have HI1 : Hid (MemAt w1 w.heap.size m) := HI.out.to hb1
  have b0 : w1.cell? ⟨w.heap.size + 1, 0, none⟩ = some (.int .i64 4) := (hb1.cell (p := ⟨w.heap.size + 1, 0, none⟩) (World.block_lt_of_cell? V _ a0)).trans a0
  clear hb1 HB HI a0 a1 a2
  have c0 : w1.cell? ⟨w.heap.size, 3, none⟩ = some (.int .u16 (xx : Int)) := (HI1.out.cell (i := 3) (by omega)).trans (by rw [← hxx]; rfl)
  go_wp2_with fail
  refine (HG.out _).mono ?_
  rintro e w2 ⟨rfl, rfl⟩
  go_wp2
  go_ret
  exact ⟨rfl, HB1.out⟩

set_option maxHeartbeats 1000000 in
set_option maxRecDepth 10000 in
theorem sbt_5 (m : Mm) (hok : m.Ok) (n p : Int) (w : World) :
    Calls Tryd.prog 23 #[m.val, .agg #[.int .i64 5, .int .i64 n, .int .i64 p]] w fun e w' => e = .returned (.bool (m.bit 5 n)) ∧ Below w.heap.size w w' := by
  obtain ⟨j, hj⟩ := Int.eq_ofNat_of_zero_le (plc_range 5 n).1
  have hlt : j < 32 := by
    have := (plc_range 5 n).2
    rw [hj, show sz4 5 = 32 from rfl] at this
    omega
  have hlt' : (j : Int) < 32 := by omega
  have hX : m.e < 4294967296 := hok.he
  have HG : Hid (∀ W, Calls Tryd.prog 47 #[.int .u64 (m.e : Nat), .int .i64 j] W fun e w' => e = .returned (.bool (bitN m.e j)) ∧ w' = W) := fun W => sbit_any m.e j W (by omega) (by omega)
  have HE : Hid (m.bit 5 n = bitN m.e j) := by
    show bitN m.e (plc 5 n).toNat = bitN m.e j
    rw [hj]; rfl
  have hw : IntKind.u64.wrap (m.e : Int) = (m.e : Int) := wrap_u64n _ (by omega)
  rw [HE.out]
  clear hok hX
  generalize hxx : m.e = xx at *
  unfold Mm.val
  go_enter Tryd.func23, Tryd.ntmps23
  go_upto_region 1 with fail
  have HB : Hid (Below w.heap.size w ((w.alloc (.cells m.cells 37)).alloc (.cells #[.int .i64 5, .int .i64 n, .int .i64 p] 39))) := ((Below.refl _ _).alloc (Nat.le_refl _) _).alloc (by simp) _
  have HI : Hid (MemAt ((w.alloc (.cells m.cells 37)).alloc (.cells #[.int .i64 5, .int .i64 n, .int .i64 p] 39)) w.heap.size m) := (RowAt.new w 37 136 m.cell).alloc _
  have a0 : World.cell? ((w.alloc (.cells m.cells 37)).alloc (.cells #[.int .i64 5, .int .i64 n, .int .i64 p] 39)) ⟨w.heap.size + 1, 0, none⟩ = some (.int .i64 5) := by simp [go_sem]
  have a1 : World.cell? ((w.alloc (.cells m.cells 37)).alloc (.cells #[.int .i64 5, .int .i64 n, .int .i64 p] 39)) ⟨w.heap.size + 1, 1, none⟩ = some (.int .i64 n) := by simp [go_sem]
  have a2 : World.cell? ((w.alloc (.cells m.cells 37)).alloc (.cells #[.int .i64 5, .int .i64 n, .int .i64 p] 39)) ⟨w.heap.size + 1, 2, none⟩ = some (.int .i64 p) := by simp [go_sem]
  generalize ((w.alloc (.cells m.cells 37)).alloc (.cells #[.int .i64 5, .int .i64 n, .int .i64 p] 39)) = V at *
  go_wp2_with fail
  refine (at_any 5 n p _).mono ?_
  rw [hj]
  rintro e w1 ⟨rfl, hb1⟩
  have HB1 : Hid (Below w.heap.size w w1) := HB.out.trans (hb1.mono HB.out.size)
  have HI1 : Hid (MemAt w1 w.heap.size m) := HI.out.to hb1
  have b0 : w1.cell? ⟨w.heap.size + 1, 0, none⟩ = some (.int .i64 5) := (hb1.cell (p := ⟨w.heap.size + 1, 0, none⟩) (World.block_lt_of_cell? V _ a0)).trans a0
  clear hb1 HB HI a0 a1 a2
  have c0 : w1.cell? ⟨w.heap.size, 4, none⟩ = some (.int .u32 (xx : Int)) := (HI1.out.cell (i := 4) (by omega)).trans (by rw [← hxx]; rfl)
  go_wp2_with fail
  refine (HG.out _).mono ?_
  rintro e w2 ⟨rfl, rfl⟩
  go_wp2
  go_ret
  exact ⟨rfl, HB1.out⟩

set_option maxHeartbeats 1000000 in
set_option maxRecDepth 10000 in
theorem sbt_no (m : Mm) (_hok : m.Ok) (k : Int) (n p : Int) (w : World) (hk : k ≠ 1 ∧ k ≠ 2 ∧ k ≠ 3 ∧ k ≠ 4 ∧ k ≠ 5 ∧ k ≠ 6 ∧ k ≠ 7 ∧ k ≠ 8) :
    Calls Tryd.prog 23 #[m.val, .agg #[.int .i64 k, .int .i64 n, .int .i64 p]] w fun e w' => e = .returned (.bool (m.bit k n)) ∧ Below w.heap.size w w' := by
  have k1 : (k == 1) = false := by simp only [beq_eq_false_iff_ne, ne_eq]; omega
  have k2 : (k == 2) = false := by simp only [beq_eq_false_iff_ne, ne_eq]; omega
  have k3 : (k == 3) = false := by simp only [beq_eq_false_iff_ne, ne_eq]; omega
  have k4 : (k == 4) = false := by simp only [beq_eq_false_iff_ne, ne_eq]; omega
  have k5 : (k == 5) = false := by simp only [beq_eq_false_iff_ne, ne_eq]; omega
  have k6 : (k == 6) = false := by simp only [beq_eq_false_iff_ne, ne_eq]; omega
  have k7 : (k == 7) = false := by simp only [beq_eq_false_iff_ne, ne_eq]; omega
  have k8 : (k == 8) = false := by simp only [beq_eq_false_iff_ne, ne_eq]; omega
  have HE : Hid (m.bit k n = false) := by
    show m.bit k n = false
    unfold Mm.bit
    rw [if_neg hk.1, if_neg hk.2.1, if_neg hk.2.2.1, if_neg hk.2.2.2.1, if_neg hk.2.2.2.2.1, if_neg hk.2.2.2.2.2.1, if_neg hk.2.2.2.2.2.2.1, if_neg hk.2.2.2.2.2.2.2]
  rw [HE.out]
  clear _hok hk
  obtain ⟨j, hj⟩ : ∃ j : Int, plc k n = j := ⟨_, rfl⟩
  unfold Mm.val
  go_enter Tryd.func23, Tryd.ntmps23
  go_upto_region 1 with fail
  have HB : Hid (Below w.heap.size w ((w.alloc (.cells m.cells 37)).alloc (.cells #[.int .i64 k, .int .i64 n, .int .i64 p] 39))) := ((Below.refl _ _).alloc (Nat.le_refl _) _).alloc (by simp) _
  have HI : Hid (MemAt ((w.alloc (.cells m.cells 37)).alloc (.cells #[.int .i64 k, .int .i64 n, .int .i64 p] 39)) w.heap.size m) := (RowAt.new w 37 136 m.cell).alloc _
  have a0 : World.cell? ((w.alloc (.cells m.cells 37)).alloc (.cells #[.int .i64 k, .int .i64 n, .int .i64 p] 39)) ⟨w.heap.size + 1, 0, none⟩ = some (.int .i64 k) := by simp [go_sem]
  have a1 : World.cell? ((w.alloc (.cells m.cells 37)).alloc (.cells #[.int .i64 k, .int .i64 n, .int .i64 p] 39)) ⟨w.heap.size + 1, 1, none⟩ = some (.int .i64 n) := by simp [go_sem]
  have a2 : World.cell? ((w.alloc (.cells m.cells 37)).alloc (.cells #[.int .i64 k, .int .i64 n, .int .i64 p] 39)) ⟨w.heap.size + 1, 2, none⟩ = some (.int .i64 p) := by simp [go_sem]
  generalize ((w.alloc (.cells m.cells 37)).alloc (.cells #[.int .i64 k, .int .i64 n, .int .i64 p] 39)) = V at *
  go_wp2_with fail
  refine (at_any k n p _).mono ?_
  rw [hj]
  rintro e w1 ⟨rfl, hb1⟩
  have HB1 : Hid (Below w.heap.size w w1) := HB.out.trans (hb1.mono HB.out.size)
  have HI1 : Hid (MemAt w1 w.heap.size m) := HI.out.to hb1
  have b0 : w1.cell? ⟨w.heap.size + 1, 0, none⟩ = some (.int .i64 k) := (hb1.cell (p := ⟨w.heap.size + 1, 0, none⟩) (World.block_lt_of_cell? V _ a0)).trans a0
  clear hb1 HB HI a0 a1 a2
  go_wp2
  go_ret
  exact ⟨rfl, HB1.out⟩
theorem sbt_any (m : Mm) (hok : m.Ok) (k n p : Int) (w : World) :
    Calls Tryd.prog 23 #[m.val, .agg #[.int .i64 k, .int .i64 n, .int .i64 p]] w fun e w' => e = .returned (.bool (m.bit k n)) ∧ Below w.heap.size w w' := by
  by_cases h : k ≠ 1 ∧ k ≠ 2 ∧ k ≠ 3 ∧ k ≠ 4 ∧ k ≠ 5 ∧ k ≠ 6 ∧ k ≠ 7 ∧ k ≠ 8
  · exact sbt_no m hok k n p w h
  · have : k = 1 ∨ k = 2 ∨ k = 3 ∨ k = 4 ∨ k = 5 ∨ k = 6 ∨ k = 7 ∨ k = 8 := by omega
    rcases this with rfl | rfl | rfl | rfl | rfl | rfl | rfl | rfl
    · exact sbt_1 m hok n p w
    · exact sbt_2 m hok n p w
    · exact sbt_3 m hok n p w
    · exact sbt_4 m hok n p w
    · exact sbt_5 m hok n p w
    · exact sbt_6 m hok n p w
    · exact sbt_7 m hok n p w
    · exact sbt_8 m hok n p w
end Go.Proofs.YtljhpagpohihcaaDoor
