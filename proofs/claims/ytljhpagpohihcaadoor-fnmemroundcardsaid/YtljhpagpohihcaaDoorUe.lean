/- MemWhole of the document. Helper text: no statement is claimed here. -/
import Derived.Test.YtljhpagpohihcaaDoorYc
import Derived.Test.YtljhpagpohihcaaDoorJg
namespace Go.Proofs.YtljhpagpohihcaaDoor
open Go.ChangeShapes Go.WideShapes Go.ChangeAt Go.RowKit

set_option maxHeartbeats 400000 in
theorem least_any (c : Nat) (w : World) (hc : c < 65536) :
    Calls Tryd.prog 49 #[.int .u16 c] w fun e w' => e = .returned (.int .i16 (least c)) ∧ w' = w := by
  by_cases h : 32767 < c
  · have h' : (32767 : Int) < (c : Int) := by omega
    rw [show least c = 32767 from if_pos h]
    go_enter Tryd.func49, Tryd.ntmps49
    go_wp2
    go_ret
    exact ⟨rfl, rfl⟩
  · have h' : ¬ (32767 : Int) < (c : Int) := by omega
    have hw : IntKind.i16.wrap (c : Int) = (c : Int) := wrap_i16s (by omega) (by omega)
    rw [show least c = (c : Int) from if_neg h]
    go_enter Tryd.func49, Tryd.ntmps49
    go_wp2
    go_ret
    exact ⟨rfl, rfl⟩
set_option maxHeartbeats 400000 in
theorem swrap4_any (n : Int) (w : World) :
    Calls Tryd.prog 50 #[.int .i64 n] w fun e w' => e = .returned (.int .i16 (w16 n)) ∧ w' = w := by
  have hm : n.tmod 65536 = if n < 0 then -((-n) % 65536) else n % 65536 := by
    split
    · have : n.tmod 65536 = -((-n).tmod 65536) := by rw [Int.neg_tmod]; omega
      rw [this, Int.tmod_eq_emod_of_nonneg (by omega)]
    · exact Int.tmod_eq_emod_of_nonneg (by omega)
  have hb : -65535 ≤ n.tmod 65536 ∧ n.tmod 65536 ≤ 65535 := by rw [hm]; split <;> omega
  have hw : w16 n = if n.tmod 65536 < -32768 then n.tmod 65536 + 65536 else if 32767 < n.tmod 65536 then n.tmod 65536 - 65536 else n.tmod 65536 := by
    rw [hm]; unfold w16; split <;> split <;> (try split) <;> omega
  have HW : Hid (w16 n = _) := hw
  obtain ⟨b1, b2⟩ := hb
  clear hm hw
  by_cases c1 : n.tmod 65536 < -32768
  · have c2 : ¬ 32767 < n.tmod 65536 + 65536 := by omega
    go_enter Tryd.func50, Tryd.ntmps50
    go_wp2
    go_ret
    exact ⟨ret_i16w (by rw [HW.out]; split <;> (try split) <;> omega), rfl⟩
  · by_cases c2 : 32767 < n.tmod 65536
    · go_enter Tryd.func50, Tryd.ntmps50
      go_wp2
      go_ret
      exact ⟨ret_i16w (by rw [HW.out]; split <;> (try split) <;> omega), rfl⟩
    · go_enter Tryd.func50, Tryd.ntmps50
      go_wp2
      go_ret
      exact ⟨ret_i16w (by rw [HW.out]; split <;> (try split) <;> omega), rfl⟩
set_option maxHeartbeats 1000000 in
set_option maxRecDepth 10000 in
theorem swhole_7 (m : Mm) (hok : m.Ok) (n p : Int) (w : World) :
    Calls Tryd.prog 24 #[m.val, .agg #[.int .i64 7, .int .i64 n, .int .i64 p]] w fun e w' => e = .returned (.int .i16 (m.whole 7 n)) ∧ Below w.heap.size w w' := by
  obtain ⟨j, hj⟩ := Int.eq_ofNat_of_zero_le (plc_range 7 n).1
  have hlt : j < 16 := by
    have := (plc_range 7 n).2
    rw [hj, show sz4 7 = 16 from rfl] at this
    omega
  have hlt' : (j : Int) < 16 := by omega
  have HG : Hid (∀ W, Calls Tryd.prog 49 #[.int .u16 (m.tc j : Nat)] W fun e w' => e = .returned (.int .i16 (least (m.tc j))) ∧ w' = W) := fun W => least_any _ W (hok.htc j)
  have HE : Hid (m.whole 7 n = least (m.tc j)) := by
    show least (m.tc (plc 7 n).toNat) = least (m.tc j)
    rw [hj]; rfl
  rw [HE.out]
  clear hok
  generalize hcnt : m.tc j = cnt at *
  unfold Mm.val
  go_enter Tryd.func24, Tryd.ntmps24
  go_upto_region 1 with fail
  have HB : Hid (Below w.heap.size w ((w.alloc (.cells m.cells 37)).alloc (.cells #[.int .i64 7, .int .i64 n, .int .i64 p] 39))) := ((Below.refl _ _).alloc (Nat.le_refl _) _).alloc (by simp) _
  have HI : Hid (MemAt ((w.alloc (.cells m.cells 37)).alloc (.cells #[.int .i64 7, .int .i64 n, .int .i64 p] 39)) w.heap.size m) := (RowAt.new w 37 136 m.cell).alloc _
  have a0 : World.cell? ((w.alloc (.cells m.cells 37)).alloc (.cells #[.int .i64 7, .int .i64 n, .int .i64 p] 39)) ⟨w.heap.size + 1, 0, none⟩ = some (.int .i64 7) := by simp [go_sem]
  have a1 : World.cell? ((w.alloc (.cells m.cells 37)).alloc (.cells #[.int .i64 7, .int .i64 n, .int .i64 p] 39)) ⟨w.heap.size + 1, 1, none⟩ = some (.int .i64 n) := by simp [go_sem]
  have a2 : World.cell? ((w.alloc (.cells m.cells 37)).alloc (.cells #[.int .i64 7, .int .i64 n, .int .i64 p] 39)) ⟨w.heap.size + 1, 2, none⟩ = some (.int .i64 p) := by simp [go_sem]
  generalize ((w.alloc (.cells m.cells 37)).alloc (.cells #[.int .i64 7, .int .i64 n, .int .i64 p] 39)) = V at *
  go_wp2_with fail
  refine (at_any 7 n p _).mono ?_
  rw [hj]
  rintro e w1 ⟨rfl, hb1⟩
  have HB1 : Hid (Below w.heap.size w w1) := HB.out.trans (hb1.mono HB.out.size)
  have HI1 : Hid (MemAt w1 w.heap.size m) := HI.out.to hb1
  have b0 : w1.cell? ⟨w.heap.size + 1, 0, none⟩ = some (.int .i64 7) := (hb1.cell (p := ⟨w.heap.size + 1, 0, none⟩) (World.block_lt_of_cell? V _ a0)).trans a0
  clear hb1 HB HI a0 a1 a2
  have c0 : w1.cell? ⟨w.heap.size, 5 + j * 2 + 1, none⟩ = some (.int .u16 (cnt : Nat)) := (cell_of_row _ _ _ _ _ _ HI1.out).trans (by rw [← hcnt]; exact m.at_tc hlt)
  go_wp2_with fail
  refine (HG.out _).mono ?_
  rintro e w2 ⟨rfl, rfl⟩
  go_wp2
  go_ret
  exact ⟨rfl, HB1.out⟩
set_option maxHeartbeats 1000000 in
set_option maxRecDepth 10000 in
theorem swhole_8 (m : Mm) (hok : m.Ok) (n p : Int) (w : World) :
    Calls Tryd.prog 24 #[m.val, .agg #[.int .i64 8, .int .i64 n, .int .i64 p]] w fun e w' => e = .returned (.int .i16 (m.whole 8 n)) ∧ Below w.heap.size w w' := by
  obtain ⟨j, hj⟩ := Int.eq_ofNat_of_zero_le (plc_range 8 n).1
  have hlt : j < 16 := by
    have := (plc_range 8 n).2
    rw [hj, show sz4 8 = 16 from rfl] at this
    omega
  have hlt' : (j : Int) < 16 := by omega
  have HG : Hid (∀ W, Calls Tryd.prog 49 #[.int .u16 (m.cc j : Nat)] W fun e w' => e = .returned (.int .i16 (least (m.cc j))) ∧ w' = W) := fun W => least_any _ W (hok.hcc j)
  have HE : Hid (m.whole 8 n = least (m.cc j)) := by
    show least (m.cc (plc 8 n).toNat) = least (m.cc j)
    rw [hj]; rfl
  rw [HE.out]
  clear hok
  generalize hcnt : m.cc j = cnt at *
  unfold Mm.val
  go_enter Tryd.func24, Tryd.ntmps24
  go_upto_region 1 with fail
  have HB : Hid (Below w.heap.size w ((w.alloc (.cells m.cells 37)).alloc (.cells #[.int .i64 8, .int .i64 n, .int .i64 p] 39))) := ((Below.refl _ _).alloc (Nat.le_refl _) _).alloc (by simp) _
  have HI : Hid (MemAt ((w.alloc (.cells m.cells 37)).alloc (.cells #[.int .i64 8, .int .i64 n, .int .i64 p] 39)) w.heap.size m) := (RowAt.new w 37 136 m.cell).alloc _
  have a0 : World.cell? ((w.alloc (.cells m.cells 37)).alloc (.cells #[.int .i64 8, .int .i64 n, .int .i64 p] 39)) ⟨w.heap.size + 1, 0, none⟩ = some (.int .i64 8) := by simp [go_sem]
  have a1 : World.cell? ((w.alloc (.cells m.cells 37)).alloc (.cells #[.int .i64 8, .int .i64 n, .int .i64 p] 39)) ⟨w.heap.size + 1, 1, none⟩ = some (.int .i64 n) := by simp [go_sem]
  have a2 : World.cell? ((w.alloc (.cells m.cells 37)).alloc (.cells #[.int .i64 8, .int .i64 n, .int .i64 p] 39)) ⟨w.heap.size + 1, 2, none⟩ = some (.int .i64 p) := by simp [go_sem]
  generalize ((w.alloc (.cells m.cells 37)).alloc (.cells #[.int .i64 8, .int .i64 n, .int .i64 p] 39)) = V at *
  go_wp2_with fail
  refine (at_any 8 n p _).mono ?_
  rw [hj]
  rintro e w1 ⟨rfl, hb1⟩
  have HB1 : Hid (Below w.heap.size w w1) := HB.out.trans (hb1.mono HB.out.size)
  have HI1 : Hid (MemAt w1 w.heap.size m) := HI.out.to hb1
  have b0 : w1.cell? ⟨w.heap.size + 1, 0, none⟩ = some (.int .i64 8) := (hb1.cell (p := ⟨w.heap.size + 1, 0, none⟩) (World.block_lt_of_cell? V _ a0)).trans a0
  clear hb1 HB HI a0 a1 a2
  have c0 : w1.cell? ⟨w.heap.size, 37 + j * 3 + 2, none⟩ = some (.int .u16 (cnt : Nat)) := (cell_of_row _ _ _ _ _ _ HI1.out).trans (by rw [← hcnt]; exact m.at_cc hlt)
  go_wp2_with fail
  refine (HG.out _).mono ?_
  rintro e w2 ⟨rfl, rfl⟩
  go_wp2
  go_ret
  exact ⟨rfl, HB1.out⟩
set_option maxHeartbeats 1000000 in
set_option maxRecDepth 10000 in
theorem swhole_9 (m : Mm) (_hok : m.Ok) (n p : Int) (w : World) :
    Calls Tryd.prog 24 #[m.val, .agg #[.int .i64 9, .int .i64 n, .int .i64 p]] w fun e w' => e = .returned (.int .i16 (m.whole 9 n)) ∧ Below w.heap.size w w' := by
  obtain ⟨j, hj⟩ := Int.eq_ofNat_of_zero_le (plc_range 9 n).1
  have hlt : j < 32 := by
    have := (plc_range 9 n).2
    rw [hj, show sz4 9 = 32 from rfl] at this
    omega
  have hlt' : (j : Int) < 32 := by omega
  have HE : Hid (m.whole 9 n = m.d j) := by
    show m.d (plc 9 n).toNat = m.d j
    rw [hj]; rfl
  rw [HE.out]
  clear _hok
  unfold Mm.val
  go_enter Tryd.func24, Tryd.ntmps24
  go_upto_region 1 with fail
  have HB : Hid (Below w.heap.size w ((w.alloc (.cells m.cells 37)).alloc (.cells #[.int .i64 9, .int .i64 n, .int .i64 p] 39))) := ((Below.refl _ _).alloc (Nat.le_refl _) _).alloc (by simp) _
  have HI : Hid (MemAt ((w.alloc (.cells m.cells 37)).alloc (.cells #[.int .i64 9, .int .i64 n, .int .i64 p] 39)) w.heap.size m) := (RowAt.new w 37 136 m.cell).alloc _
  have a0 : World.cell? ((w.alloc (.cells m.cells 37)).alloc (.cells #[.int .i64 9, .int .i64 n, .int .i64 p] 39)) ⟨w.heap.size + 1, 0, none⟩ = some (.int .i64 9) := by simp [go_sem]
  have a1 : World.cell? ((w.alloc (.cells m.cells 37)).alloc (.cells #[.int .i64 9, .int .i64 n, .int .i64 p] 39)) ⟨w.heap.size + 1, 1, none⟩ = some (.int .i64 n) := by simp [go_sem]
  have a2 : World.cell? ((w.alloc (.cells m.cells 37)).alloc (.cells #[.int .i64 9, .int .i64 n, .int .i64 p] 39)) ⟨w.heap.size + 1, 2, none⟩ = some (.int .i64 p) := by simp [go_sem]
  generalize ((w.alloc (.cells m.cells 37)).alloc (.cells #[.int .i64 9, .int .i64 n, .int .i64 p] 39)) = V at *
  go_wp2_with fail
  refine (at_any 9 n p _).mono ?_
  rw [hj]
  rintro e w1 ⟨rfl, hb1⟩
  have HB1 : Hid (Below w.heap.size w w1) := HB.out.trans (hb1.mono HB.out.size)
  have HI1 : Hid (MemAt w1 w.heap.size m) := HI.out.to hb1
  have b0 : w1.cell? ⟨w.heap.size + 1, 0, none⟩ = some (.int .i64 9) := (hb1.cell (p := ⟨w.heap.size + 1, 0, none⟩) (World.block_lt_of_cell? V _ a0)).trans a0
  clear hb1 HB HI a0 a1 a2
  have c0 : w1.cell? ⟨w.heap.size, 85 + j, none⟩ = some (.int .i16 (m.d j)) := (cell_of_row _ _ _ _ _ _ HI1.out).trans (m.at_d hlt)
  go_wp2
  go_ret
  exact ⟨rfl, HB1.out⟩
set_option maxHeartbeats 1000000 in
set_option maxRecDepth 10000 in
theorem swhole_11 (m : Mm) (_hok : m.Ok) (n p : Int) (w : World) :
    Calls Tryd.prog 24 #[m.val, .agg #[.int .i64 11, .int .i64 n, .int .i64 p]] w fun e w' => e = .returned (.int .i16 (m.whole 11 n)) ∧ Below w.heap.size w w' := by
  have HE : Hid (m.whole 11 n = w16 n) := rfl
  rw [HE.out]
  have hw := w16_wrap n
  clear _hok
  obtain ⟨j, hj⟩ : ∃ j : Int, plc 11 n = j := ⟨_, rfl⟩
  unfold Mm.val
  go_enter Tryd.func24, Tryd.ntmps24
  go_upto_region 1 with fail
  have HB : Hid (Below w.heap.size w ((w.alloc (.cells m.cells 37)).alloc (.cells #[.int .i64 11, .int .i64 n, .int .i64 p] 39))) := ((Below.refl _ _).alloc (Nat.le_refl _) _).alloc (by simp) _
  have HI : Hid (MemAt ((w.alloc (.cells m.cells 37)).alloc (.cells #[.int .i64 11, .int .i64 n, .int .i64 p] 39)) w.heap.size m) := (RowAt.new w 37 136 m.cell).alloc _
  have a0 : World.cell? ((w.alloc (.cells m.cells 37)).alloc (.cells #[.int .i64 11, .int .i64 n, .int .i64 p] 39)) ⟨w.heap.size + 1, 0, none⟩ = some (.int .i64 11) := by simp [go_sem]
  have a1 : World.cell? ((w.alloc (.cells m.cells 37)).alloc (.cells #[.int .i64 11, .int .i64 n, .int .i64 p] 39)) ⟨w.heap.size + 1, 1, none⟩ = some (.int .i64 n) := by simp [go_sem]
  have a2 : World.cell? ((w.alloc (.cells m.cells 37)).alloc (.cells #[.int .i64 11, .int .i64 n, .int .i64 p] 39)) ⟨w.heap.size + 1, 2, none⟩ = some (.int .i64 p) := by simp [go_sem]
  generalize ((w.alloc (.cells m.cells 37)).alloc (.cells #[.int .i64 11, .int .i64 n, .int .i64 p] 39)) = V at *
  go_wp2_with fail
  refine (at_any 11 n p _).mono ?_
  rw [hj]
  rintro e w1 ⟨rfl, hb1⟩
  have HB1 : Hid (Below w.heap.size w w1) := HB.out.trans (hb1.mono HB.out.size)
  have HI1 : Hid (MemAt w1 w.heap.size m) := HI.out.to hb1
  have b0 : w1.cell? ⟨w.heap.size + 1, 0, none⟩ = some (.int .i64 11) := (hb1.cell (p := ⟨w.heap.size + 1, 0, none⟩) (World.block_lt_of_cell? V _ a0)).trans a0
  have b1 : w1.cell? ⟨w.heap.size + 1, 1, none⟩ = some (.int .i64 n) := (hb1.cell (p := ⟨w.heap.size + 1, 1, none⟩) (World.block_lt_of_cell? V _ a1)).trans a1
  clear hb1 HB HI a0 a1 a2
  go_wp2_with fail
  refine (swrap4_any n _).mono ?_
  rintro e w2 ⟨rfl, rfl⟩
  go_wp2
  go_ret
  exact ⟨rfl, HB1.out⟩
set_option maxHeartbeats 1000000 in
set_option maxRecDepth 10000 in
theorem swhole_no (m : Mm) (_hok : m.Ok) (k : Int) (n p : Int) (w : World) (hk : k ≠ 7 ∧ k ≠ 8 ∧ k ≠ 9 ∧ k ≠ 11) :
    Calls Tryd.prog 24 #[m.val, .agg #[.int .i64 k, .int .i64 n, .int .i64 p]] w fun e w' => e = .returned (.int .i16 (m.whole k n)) ∧ Below w.heap.size w w' := by
  have k7 : (k == 7) = false := by simp only [beq_eq_false_iff_ne, ne_eq]; omega
  have k8 : (k == 8) = false := by simp only [beq_eq_false_iff_ne, ne_eq]; omega
  have k9 : (k == 9) = false := by simp only [beq_eq_false_iff_ne, ne_eq]; omega
  have k11 : (k == 11) = false := by simp only [beq_eq_false_iff_ne, ne_eq]; omega
  have HE : Hid (m.whole k n = 0) := by
    show m.whole k n = 0
    unfold Mm.whole
    rw [if_neg hk.1, if_neg hk.2.1, if_neg hk.2.2.1, if_neg hk.2.2.2]
  rw [HE.out]
  clear _hok hk
  obtain ⟨j, hj⟩ : ∃ j : Int, plc k n = j := ⟨_, rfl⟩
  unfold Mm.val
  go_enter Tryd.func24, Tryd.ntmps24
  go_upto_region 1 with fail
  have HB : Hid (Below w.heap.size w ((w.alloc (.cells m.cells 37)).alloc (.cells #[.int .i64 k, .int .i64 n, .int .i64 p] 39))) := ((Below.refl _ _).alloc (Nat.le_refl _) _).alloc (by simp) _
  have HI : Hid (MemAt ((w.alloc (.cells m.cells 37)).alloc (.cells #[.int .i64 k, .int .i64 n, .int .i64 p] 39)) w.heap.size m) := (RowAt.new w 37 136 m.cell).alloc _
  have a0 : World.cell? ((w.alloc (.cells m.cells 37)).alloc (.cells #[.int .i64 k, .int .i64 n, .int .i64 p] 39)) ⟨w.heap.size + 1, 0, none⟩ = some (.int .i64 k) := by simp [go_sem]
  have a1 : World.cell? ((w.alloc (.cells m.cells 37)).alloc (.cells #[.int .i64 k, .int .i64 n, .int .i64 p] 39)) ⟨w.heap.size + 1, 1, none⟩ = some (.int .i64 n) := by simp [go_sem]
  have a2 : World.cell? ((w.alloc (.cells m.cells 37)).alloc (.cells #[.int .i64 k, .int .i64 n, .int .i64 p] 39)) ⟨w.heap.size + 1, 2, none⟩ = some (.int .i64 p) := by simp [go_sem]
  generalize ((w.alloc (.cells m.cells 37)).alloc (.cells #[.int .i64 k, .int .i64 n, .int .i64 p] 39)) = V at *
  go_wp2_with fail
  refine (at_any k n p _).mono ?_
  rw [hj]
  rintro e w1 ⟨rfl, hb1⟩
  have HB1 : Hid (Below w.heap.size w w1) := HB.out.trans (hb1.mono HB.out.size)
  have HI1 : Hid (MemAt w1 w.heap.size m) := HI.out.to hb1
  have b0 : w1.cell? ⟨w.heap.size + 1, 0, none⟩ = some (.int .i64 k) := (hb1.cell (p := ⟨w.heap.size + 1, 0, none⟩) (World.block_lt_of_cell? V _ a0)).trans a0
  clear hb1 HB HI a0 a1 a2
  go_wp2
  go_ret
  exact ⟨rfl, HB1.out⟩
theorem swhole_any (m : Mm) (hok : m.Ok) (k n p : Int) (w : World) :
    Calls Tryd.prog 24 #[m.val, .agg #[.int .i64 k, .int .i64 n, .int .i64 p]] w fun e w' => e = .returned (.int .i16 (m.whole k n)) ∧ Below w.heap.size w w' := by
  by_cases h : k ≠ 7 ∧ k ≠ 8 ∧ k ≠ 9 ∧ k ≠ 11
  · exact swhole_no m hok k n p w h
  · have : k = 7 ∨ k = 8 ∨ k = 9 ∨ k = 11 := by omega
    rcases this with rfl | rfl | rfl | rfl
    · exact swhole_7 m hok n p w
    · exact swhole_8 m hok n p w
    · exact swhole_9 m hok n p w
    · exact swhole_11 m hok n p w
end Go.Proofs.YtljhpagpohihcaaDoor
