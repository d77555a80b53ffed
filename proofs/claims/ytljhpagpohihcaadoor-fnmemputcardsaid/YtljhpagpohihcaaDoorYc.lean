/- MemWhole of the program. Helper text: no statement is claimed here. -/
import Derived.Test.YtljhpagpohihcaaDoorYa
import Derived.Test.YtljhpagpohihcaaDoorWn
import Derived.Deep.Cut
namespace Go.Proofs.YtljhpagpohihcaaDoor
open Go.ChangeShapes Go.WideShapes Go.ChangeAt Go.RowKit

/-- A count as a whole number. -/
def least (c : Nat) : Int := if 32767 < c then 32767 else c
/-- The whole number that an operand asks for. -/
def Mm.whole (m : Mm) (k n : Int) : Int := if k = 7 then least (m.tc (plc 7 n).toNat) else if k = 8 then least (m.cc (plc 8 n).toNat) else if k = 9 then m.d (plc 9 n).toNat else if k = 11 then w16 n else 0
theorem ret_i16w {a b : Int} (h : a = b) : Ending.returned (.int .i16 a) = .returned (.int .i16 b) := by rw [h]
theorem min_run (ts : Array TypeId) (t : TypeId) (x y : Int) (w : World) : (Builtin.min_ ts t #[.int .u16 x, .int .u16 y]).run Tryd.prog w = .ok (.int .u16 (if y < x then y else x)) w := by
  simp [Builtin.min_, Builtin.min2]
theorem wrap_i16s {x : Int} (h0 : -32768 ≤ x) (h1 : x ≤ 32767) : IntKind.i16.wrap x = x := by rw [w16_wrap]; unfold w16; omega
section
attribute [local go_sem] min_run
set_option maxHeartbeats 400000 in
theorem counted_any (c : Nat) (w : World) (hc : c < 65536) :
    Calls Tryd.prog 42 #[.int .u16 c] w fun e w' => e = .returned (.int .i16 (least c)) ∧ w' = w := by
  by_cases h : 32767 < c
  · have h' : (32767 : Int) < (c : Int) := by omega
    have hw : IntKind.i16.wrap 32767 = 32767 := wrap_i16s (by decide) (by decide)
    rw [show least c = 32767 from if_pos h]
    go_enter Tryd.func42, Tryd.ntmps42
    go_wp2
    go_ret
    exact ⟨rfl, rfl⟩
  · have h' : ¬ (32767 : Int) < (c : Int) := by omega
    have hw : IntKind.i16.wrap (c : Int) = (c : Int) := wrap_i16s (by omega) (by omega)
    rw [show least c = (c : Int) from if_neg h]
    go_enter Tryd.func42, Tryd.ntmps42
    go_wp2
    go_ret
    exact ⟨rfl, rfl⟩
end
set_option maxHeartbeats 1000000 in
set_option maxRecDepth 10000 in
theorem iwhole_7 (m : Mm) (hok : m.Ok) (n p : Int) (w : World) (hT : DevTab w) :
    Calls Tryd.prog 15 #[m.val, .agg #[.int .i64 7, .int .i64 n, .int .i64 p]] w fun e w' => e = .returned (.int .i16 (m.whole 7 n)) ∧ Below w.heap.size w w' := by
  have HT : Hid (DevTab w) := hT
  clear hT
  obtain ⟨j, hj⟩ := Int.eq_ofNat_of_zero_le (plc_range 7 n).1
  have hlt : j < 16 := by
    have := (plc_range 7 n).2
    rw [hj, show sz4 7 = 16 from rfl] at this
    omega
  have hlt' : (j : Int) < 16 := by omega
  have HG : Hid (∀ W, Calls Tryd.prog 42 #[.int .u16 (m.tc j : Nat)] W fun e w' => e = .returned (.int .i16 (least (m.tc j))) ∧ w' = W) := fun W => counted_any _ W (hok.htc j)
  have HE : Hid (m.whole 7 n = least (m.tc j)) := by
    show least (m.tc (plc 7 n).toNat) = least (m.tc j)
    rw [hj]; rfl
  rw [HE.out]
  clear hok
  generalize hcnt : m.tc j = cnt at *
  unfold Mm.val
  go_enter Tryd.func15, Tryd.ntmps15
  go_upto_region 1 with fail
  have HB : Hid (Below w.heap.size w ((w.alloc (.cells m.cells 37)).alloc (.cells #[.int .i64 7, .int .i64 n, .int .i64 p] 39))) := ((Below.refl _ _).alloc (Nat.le_refl _) _).alloc (by simp) _
  have HI : Hid (MemAt ((w.alloc (.cells m.cells 37)).alloc (.cells #[.int .i64 7, .int .i64 n, .int .i64 p] 39)) w.heap.size m) := (RowAt.new w 37 136 m.cell).alloc _
  have a0 : World.cell? ((w.alloc (.cells m.cells 37)).alloc (.cells #[.int .i64 7, .int .i64 n, .int .i64 p] 39)) ⟨w.heap.size + 1, 0, none⟩ = some (.int .i64 7) := by simp [go_sem]
  have a1 : World.cell? ((w.alloc (.cells m.cells 37)).alloc (.cells #[.int .i64 7, .int .i64 n, .int .i64 p] 39)) ⟨w.heap.size + 1, 1, none⟩ = some (.int .i64 n) := by simp [go_sem]
  have a2 : World.cell? ((w.alloc (.cells m.cells 37)).alloc (.cells #[.int .i64 7, .int .i64 n, .int .i64 p] 39)) ⟨w.heap.size + 1, 2, none⟩ = some (.int .i64 p) := by simp [go_sem]
  generalize ((w.alloc (.cells m.cells 37)).alloc (.cells #[.int .i64 7, .int .i64 n, .int .i64 p] 39)) = V at *
  go_wp2_with fail
  refine (place_any 7 n p _ (HT.out.to HB.out)).mono ?_
  rw [hj]
  rintro e w1 ⟨rfl, hb1⟩
  have HB1 : Hid (Below w.heap.size w w1) := HB.out.trans (hb1.mono HB.out.size)
  have HI1 : Hid (MemAt w1 w.heap.size m) := HI.out.to hb1
  have b0 : w1.cell? ⟨w.heap.size + 1, 0, none⟩ = some (.int .i64 7) := (hb1.cell (p := ⟨w.heap.size + 1, 0, none⟩) (World.block_lt_of_cell? V _ a0)).trans a0
  clear hb1 HB HI a0 a1 a2
  have c0 : w1.cell? ⟨w.heap.size, 5 + j * 2 + 1, none⟩ = some (.int .u16 (cnt : Nat)) := (cell_of_row _ _ _ _ _ _ HI1.out).trans (by rw [← hcnt]; exact m.at_tc hlt)
  go_wp2_with fail
  refine (HG.out _).mono ?_
  rintro e w2 ⟨rfl, rfl⟩
  go_wp2
  go_ret
  exact ⟨rfl, HB1.out⟩
set_option maxHeartbeats 1000000 in
set_option maxRecDepth 10000 in
theorem iwhole_8 (m : Mm) (hok : m.Ok) (n p : Int) (w : World) (hT : DevTab w) :
    Calls Tryd.prog 15 #[m.val, .agg #[.int .i64 8, .int .i64 n, .int .i64 p]] w fun e w' => e = .returned (.int .i16 (m.whole 8 n)) ∧ Below w.heap.size w w' := by
  have HT : Hid (DevTab w) := hT
  clear hT
  obtain ⟨j, hj⟩ := Int.eq_ofNat_of_zero_le (plc_range 8 n).1
  have hlt : j < 16 := by
    have := (plc_range 8 n).2
    rw [hj, show sz4 8 = 16 from rfl] at this
    omega
  have hlt' : (j : Int) < 16 := by omega
  have HG : Hid (∀ W, Calls Tryd.prog 42 #[.int .u16 (m.cc j : Nat)] W fun e w' => e = .returned (.int .i16 (least (m.cc j))) ∧ w' = W) := fun W => counted_any _ W (hok.hcc j)
  have HE : Hid (m.whole 8 n = least (m.cc j)) := by
    show least (m.cc (plc 8 n).toNat) = least (m.cc j)
    rw [hj]; rfl
  rw [HE.out]
  clear hok
  generalize hcnt : m.cc j = cnt at *
  unfold Mm.val
  go_enter Tryd.func15, Tryd.ntmps15
  go_upto_region 1 with fail
  have HB : Hid (Below w.heap.size w ((w.alloc (.cells m.cells 37)).alloc (.cells #[.int .i64 8, .int .i64 n, .int .i64 p] 39))) := ((Below.refl _ _).alloc (Nat.le_refl _) _).alloc (by simp) _
  have HI : Hid (MemAt ((w.alloc (.cells m.cells 37)).alloc (.cells #[.int .i64 8, .int .i64 n, .int .i64 p] 39)) w.heap.size m) := (RowAt.new w 37 136 m.cell).alloc _
  have a0 : World.cell? ((w.alloc (.cells m.cells 37)).alloc (.cells #[.int .i64 8, .int .i64 n, .int .i64 p] 39)) ⟨w.heap.size + 1, 0, none⟩ = some (.int .i64 8) := by simp [go_sem]
  have a1 : World.cell? ((w.alloc (.cells m.cells 37)).alloc (.cells #[.int .i64 8, .int .i64 n, .int .i64 p] 39)) ⟨w.heap.size + 1, 1, none⟩ = some (.int .i64 n) := by simp [go_sem]
  have a2 : World.cell? ((w.alloc (.cells m.cells 37)).alloc (.cells #[.int .i64 8, .int .i64 n, .int .i64 p] 39)) ⟨w.heap.size + 1, 2, none⟩ = some (.int .i64 p) := by simp [go_sem]
  generalize ((w.alloc (.cells m.cells 37)).alloc (.cells #[.int .i64 8, .int .i64 n, .int .i64 p] 39)) = V at *
  go_wp2_with fail
  refine (place_any 8 n p _ (HT.out.to HB.out)).mono ?_
  rw [hj]
  rintro e w1 ⟨rfl, hb1⟩
  have HB1 : Hid (Below w.heap.size w w1) := HB.out.trans (hb1.mono HB.out.size)
  have HI1 : Hid (MemAt w1 w.heap.size m) := HI.out.to hb1
  have b0 : w1.cell? ⟨w.heap.size + 1, 0, none⟩ = some (.int .i64 8) := (hb1.cell (p := ⟨w.heap.size + 1, 0, none⟩) (World.block_lt_of_cell? V _ a0)).trans a0
  clear hb1 HB HI a0 a1 a2
  have c0 : w1.cell? ⟨w.heap.size, 37 + j * 3 + 2, none⟩ = some (.int .u16 (cnt : Nat)) := (cell_of_row _ _ _ _ _ _ HI1.out).trans (by rw [← hcnt]; exact m.at_cc hlt)
  go_wp2_with fail
  refine (HG.out _).mono ?_
  rintro e w2 ⟨rfl, rfl⟩
  go_wp2
  go_ret
  exact ⟨rfl, HB1.out⟩
set_option maxHeartbeats 1000000 in
set_option maxRecDepth 10000 in
theorem iwhole_9 (m : Mm) (_hok : m.Ok) (n p : Int) (w : World) (hT : DevTab w) :
    Calls Tryd.prog 15 #[m.val, .agg #[.int .i64 9, .int .i64 n, .int .i64 p]] w fun e w' => e = .returned (.int .i16 (m.whole 9 n)) ∧ Below w.heap.size w w' := by
  have HT : Hid (DevTab w) := hT
  clear hT
  obtain ⟨j, hj⟩ := Int.eq_ofNat_of_zero_le (plc_range 9 n).1
  have hlt : j < 32 := by
    have := (plc_range 9 n).2
    rw [hj, show sz4 9 = 32 from rfl] at this
    omega
  have hlt' : (j : Int) < 32 := by omega
  have HE : Hid (m.whole 9 n = m.d j) := by
    show m.d (plc 9 n).toNat = m.d j
    rw [hj]; rfl
  rw [HE.out]
  clear _hok
  unfold Mm.val
  go_enter Tryd.func15, Tryd.ntmps15
  go_upto_region 1 with fail
  have HB : Hid (Below w.heap.size w ((w.alloc (.cells m.cells 37)).alloc (.cells #[.int .i64 9, .int .i64 n, .int .i64 p] 39))) := ((Below.refl _ _).alloc (Nat.le_refl _) _).alloc (by simp) _
  have HI : Hid (MemAt ((w.alloc (.cells m.cells 37)).alloc (.cells #[.int .i64 9, .int .i64 n, .int .i64 p] 39)) w.heap.size m) := (RowAt.new w 37 136 m.cell).alloc _
  have a0 : World.cell? ((w.alloc (.cells m.cells 37)).alloc (.cells #[.int .i64 9, .int .i64 n, .int .i64 p] 39)) ⟨w.heap.size + 1, 0, none⟩ = some (.int .i64 9) := by simp [go_sem]
  have a1 : World.cell? ((w.alloc (.cells m.cells 37)).alloc (.cells #[.int .i64 9, .int .i64 n, .int .i64 p] 39)) ⟨w.heap.size + 1, 1, none⟩ = some (.int .i64 n) := by simp [go_sem]
  have a2 : World.cell? ((w.alloc (.cells m.cells 37)).alloc (.cells #[.int .i64 9, .int .i64 n, .int .i64 p] 39)) ⟨w.heap.size + 1, 2, none⟩ = some (.int .i64 p) := by simp [go_sem]
  generalize ((w.alloc (.cells m.cells 37)).alloc (.cells #[.int .i64 9, .int .i64 n, .int .i64 p] 39)) = V at *
  go_wp2_with fail
  refine (place_any 9 n p _ (HT.out.to HB.out)).mono ?_
  rw [hj]
  rintro e w1 ⟨rfl, hb1⟩
  have HB1 : Hid (Below w.heap.size w w1) := HB.out.trans (hb1.mono HB.out.size)
  have HI1 : Hid (MemAt w1 w.heap.size m) := HI.out.to hb1
  have b0 : w1.cell? ⟨w.heap.size + 1, 0, none⟩ = some (.int .i64 9) := (hb1.cell (p := ⟨w.heap.size + 1, 0, none⟩) (World.block_lt_of_cell? V _ a0)).trans a0
  clear hb1 HB HI a0 a1 a2
  have c0 : w1.cell? ⟨w.heap.size, 85 + j, none⟩ = some (.int .i16 (m.d j)) := (cell_of_row _ _ _ _ _ _ HI1.out).trans (m.at_d hlt)
  go_wp2
  go_ret
  exact ⟨rfl, HB1.out⟩
set_option maxHeartbeats 1000000 in
set_option maxRecDepth 10000 in
theorem iwhole_11 (m : Mm) (_hok : m.Ok) (n p : Int) (w : World) (hT : DevTab w) :
    Calls Tryd.prog 15 #[m.val, .agg #[.int .i64 11, .int .i64 n, .int .i64 p]] w fun e w' => e = .returned (.int .i16 (m.whole 11 n)) ∧ Below w.heap.size w w' := by
  have HT : Hid (DevTab w) := hT
  clear hT
  have HE : Hid (m.whole 11 n = w16 n) := rfl
  rw [HE.out]
  have hw := w16_wrap n
  clear _hok
  obtain ⟨j, hj⟩ : ∃ j : Int, plc 11 n = j := ⟨_, rfl⟩
  unfold Mm.val
  go_enter Tryd.func15, Tryd.ntmps15
  go_upto_region 1 with fail
  have HB : Hid (Below w.heap.size w ((w.alloc (.cells m.cells 37)).alloc (.cells #[.int .i64 11, .int .i64 n, .int .i64 p] 39))) := ((Below.refl _ _).alloc (Nat.le_refl _) _).alloc (by simp) _
  have HI : Hid (MemAt ((w.alloc (.cells m.cells 37)).alloc (.cells #[.int .i64 11, .int .i64 n, .int .i64 p] 39)) w.heap.size m) := (RowAt.new w 37 136 m.cell).alloc _
  have a0 : World.cell? ((w.alloc (.cells m.cells 37)).alloc (.cells #[.int .i64 11, .int .i64 n, .int .i64 p] 39)) ⟨w.heap.size + 1, 0, none⟩ = some (.int .i64 11) := by simp [go_sem]
  have a1 : World.cell? ((w.alloc (.cells m.cells 37)).alloc (.cells #[.int .i64 11, .int .i64 n, .int .i64 p] 39)) ⟨w.heap.size + 1, 1, none⟩ = some (.int .i64 n) := by simp [go_sem]
  have a2 : World.cell? ((w.alloc (.cells m.cells 37)).alloc (.cells #[.int .i64 11, .int .i64 n, .int .i64 p] 39)) ⟨w.heap.size + 1, 2, none⟩ = some (.int .i64 p) := by simp [go_sem]
  generalize ((w.alloc (.cells m.cells 37)).alloc (.cells #[.int .i64 11, .int .i64 n, .int .i64 p] 39)) = V at *
  go_wp2_with fail
  refine (place_any 11 n p _ (HT.out.to HB.out)).mono ?_
  rw [hj]
  rintro e w1 ⟨rfl, hb1⟩
  have HB1 : Hid (Below w.heap.size w w1) := HB.out.trans (hb1.mono HB.out.size)
  have HI1 : Hid (MemAt w1 w.heap.size m) := HI.out.to hb1
  have b0 : w1.cell? ⟨w.heap.size + 1, 0, none⟩ = some (.int .i64 11) := (hb1.cell (p := ⟨w.heap.size + 1, 0, none⟩) (World.block_lt_of_cell? V _ a0)).trans a0
  have b1 : w1.cell? ⟨w.heap.size + 1, 1, none⟩ = some (.int .i64 n) := (hb1.cell (p := ⟨w.heap.size + 1, 1, none⟩) (World.block_lt_of_cell? V _ a1)).trans a1
  clear hb1 HB HI a0 a1 a2
  go_wp2
  go_ret
  exact ⟨rfl, HB1.out⟩
set_option maxHeartbeats 1000000 in
set_option maxRecDepth 10000 in
theorem iwhole_no (m : Mm) (_hok : m.Ok) (k : Int) (n p : Int) (w : World) (hT : DevTab w) (hk : k ≠ 7 ∧ k ≠ 8 ∧ k ≠ 9 ∧ k ≠ 11) :
    Calls Tryd.prog 15 #[m.val, .agg #[.int .i64 k, .int .i64 n, .int .i64 p]] w fun e w' => e = .returned (.int .i16 (m.whole k n)) ∧ Below w.heap.size w w' := by
  have HT : Hid (DevTab w) := hT
  clear hT
  have k7 : (k == 7) = false := by simp only [beq_eq_false_iff_ne, ne_eq]; omega
  have k8 : (k == 8) = false := by simp only [beq_eq_false_iff_ne, ne_eq]; omega
  have k9 : (k == 9) = false := by simp only [beq_eq_false_iff_ne, ne_eq]; omega
  have k11 : (k == 11) = false := by simp only [beq_eq_false_iff_ne, ne_eq]; omega
  have HE : Hid (m.whole k n = 0) := by
    show m.whole k n = 0
    unfold Mm.whole
    rw [if_neg hk.1, if_neg hk.2.1, if_neg hk.2.2.1, if_neg hk.2.2.2]
  rw [HE.out]
  clear _hok hk
  obtain ⟨j, hj⟩ : ∃ j : Int, plc k n = j := ⟨_, rfl⟩
  unfold Mm.val
  go_enter Tryd.func15, Tryd.ntmps15
  go_upto_region 1 with fail
  have HB : Hid (Below w.heap.size w ((w.alloc (.cells m.cells 37)).alloc (.cells #[.int .i64 k, .int .i64 n, .int .i64 p] 39))) := ((Below.refl _ _).alloc (Nat.le_refl _) _).alloc (by simp) _
  have HI : Hid (MemAt ((w.alloc (.cells m.cells 37)).alloc (.cells #[.int .i64 k, .int .i64 n, .int .i64 p] 39)) w.heap.size m) := (RowAt.new w 37 136 m.cell).alloc _
  have a0 : World.cell? ((w.alloc (.cells m.cells 37)).alloc (.cells #[.int .i64 k, .int .i64 n, .int .i64 p] 39)) ⟨w.heap.size + 1, 0, none⟩ = some (.int .i64 k) := by simp [go_sem]
  have a1 : World.cell? ((w.alloc (.cells m.cells 37)).alloc (.cells #[.int .i64 k, .int .i64 n, .int .i64 p] 39)) ⟨w.heap.size + 1, 1, none⟩ = some (.int .i64 n) := by simp [go_sem]
  have a2 : World.cell? ((w.alloc (.cells m.cells 37)).alloc (.cells #[.int .i64 k, .int .i64 n, .int .i64 p] 39)) ⟨w.heap.size + 1, 2, none⟩ = some (.int .i64 p) := by simp [go_sem]
  generalize ((w.alloc (.cells m.cells 37)).alloc (.cells #[.int .i64 k, .int .i64 n, .int .i64 p] 39)) = V at *
  go_wp2_with fail
  refine (place_any k n p _ (HT.out.to HB.out)).mono ?_
  rw [hj]
  rintro e w1 ⟨rfl, hb1⟩
  have HB1 : Hid (Below w.heap.size w w1) := HB.out.trans (hb1.mono HB.out.size)
  have HI1 : Hid (MemAt w1 w.heap.size m) := HI.out.to hb1
  have b0 : w1.cell? ⟨w.heap.size + 1, 0, none⟩ = some (.int .i64 k) := (hb1.cell (p := ⟨w.heap.size + 1, 0, none⟩) (World.block_lt_of_cell? V _ a0)).trans a0
  clear hb1 HB HI a0 a1 a2
  go_wp2
  go_ret
  exact ⟨rfl, HB1.out⟩
theorem iwhole_any (m : Mm) (hok : m.Ok) (k n p : Int) (w : World) (hT : DevTab w) :
    Calls Tryd.prog 15 #[m.val, .agg #[.int .i64 k, .int .i64 n, .int .i64 p]] w fun e w' => e = .returned (.int .i16 (m.whole k n)) ∧ Below w.heap.size w w' := by
  by_cases h : k ≠ 7 ∧ k ≠ 8 ∧ k ≠ 9 ∧ k ≠ 11
  · exact iwhole_no m hok k n p w hT h
  · have : k = 7 ∨ k = 8 ∨ k = 9 ∨ k = 11 := by omega
    rcases this with rfl | rfl | rfl | rfl
    · exact iwhole_7 m hok n p w hT
    · exact iwhole_8 m hok n p w hT
    · exact iwhole_9 m hok n p w hT
    · exact iwhole_11 m hok n p w hT
end Go.Proofs.YtljhpagpohihcaaDoor
