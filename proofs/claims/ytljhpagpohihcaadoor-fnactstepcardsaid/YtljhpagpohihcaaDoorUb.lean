/- The program's MemBit. Helper text: no statement is claimed here. -/
import Derived.Test.YtljhpagpohihcaaDoorYb
import Derived.Deep.Cut
namespace Go.Proofs.YtljhpagpohihcaaDoor
open Go.ChangeShapes Go.WideShapes Go.ChangeAt Go.RowKit
theorem bit_packed (m : Mm) (k n : Int) (h : k ≠ 6 ∧ k ≠ 7 ∧ k ≠ 8) : m.bit k n = bitN (m.packed k) (plc k n).toNat := by
  unfold Mm.bit Mm.packed
  by_cases h1 : k = 1
  · subst h1; rfl
  by_cases h2 : k = 2
  · subst h2; rfl
  by_cases h3 : k = 3
  · subst h3; rfl
  by_cases h4 : k = 4
  · subst h4; rfl
  by_cases h5 : k = 5
  · subst h5; rfl
  rw [if_neg h1, if_neg h2, if_neg h3, if_neg h4, if_neg h5, if_neg h.1, if_neg h.2.1, if_neg h.2.2, if_neg h1, if_neg h2, if_neg h3, if_neg h4, if_neg h5]
  unfold bitN
  rw [Nat.zero_div]
  rfl

set_option maxHeartbeats 1000000 in
set_option maxRecDepth 10000 in
theorem ibit_6 (m : Mm) (hok : m.Ok) (n p : Int) (w : World) (hT : DevTab w) :
    Calls Tryd.prog 10 #[m.val, .agg #[.int .i64 6, .int .i64 n, .int .i64 p]] w fun e w' => e = .returned (.bool (m.bit 6 n)) ∧ Below w.heap.size w w' := by
  have HT : Hid (DevTab w) := hT
  clear hT
  obtain ⟨j, hj⟩ := Int.eq_ofNat_of_zero_le (plc_range 6 n).1
  have hlt : j < 8 := by
    have := (plc_range 6 n).2
    rw [hj, show sz4 6 = 8 from rfl] at this
    omega
  have hlt' : (j : Int) < 8 := by omega
  have HG : Hid (∀ W, Calls Tryd.prog 38 #[m.val, .int .i64 j] W fun e w' => e = .returned (.bool (m.given j)) ∧ Below W.heap.size W w') := fun W => igiven_any m hok j W hlt
  have HE : Hid (m.bit 6 n = m.given j) := by
    show m.given (plc 6 n).toNat = m.given j
    rw [hj]; rfl
  rw [HE.out]
  clear hok
  generalize m.given j = g at *
  unfold Mm.val
  go_enter Tryd.func10, Tryd.ntmps10
  go_upto_region 1 with fail
  have HB : Hid (Below w.heap.size w ((w.alloc (.cells m.cells 37)).alloc (.cells #[.int .i64 6, .int .i64 n, .int .i64 p] 39))) := ((Below.refl _ _).alloc (Nat.le_refl _) _).alloc (by simp) _
  have HI : Hid (MemAt ((w.alloc (.cells m.cells 37)).alloc (.cells #[.int .i64 6, .int .i64 n, .int .i64 p] 39)) w.heap.size m) := (RowAt.new w 37 136 m.cell).alloc _
  have a0 : World.cell? ((w.alloc (.cells m.cells 37)).alloc (.cells #[.int .i64 6, .int .i64 n, .int .i64 p] 39)) ⟨w.heap.size + 1, 0, none⟩ = some (.int .i64 6) := by simp [go_sem]
  have a1 : World.cell? ((w.alloc (.cells m.cells 37)).alloc (.cells #[.int .i64 6, .int .i64 n, .int .i64 p] 39)) ⟨w.heap.size + 1, 1, none⟩ = some (.int .i64 n) := by simp [go_sem]
  have a2 : World.cell? ((w.alloc (.cells m.cells 37)).alloc (.cells #[.int .i64 6, .int .i64 n, .int .i64 p] 39)) ⟨w.heap.size + 1, 2, none⟩ = some (.int .i64 p) := by simp [go_sem]
  generalize ((w.alloc (.cells m.cells 37)).alloc (.cells #[.int .i64 6, .int .i64 n, .int .i64 p] 39)) = V at *
  go_wp2_with fail
  refine (place_any 6 n p _ (HT.out.to HB.out)).mono ?_
  rw [hj]
  rintro e w1 ⟨rfl, hb1⟩
  have HB1 : Hid (Below w.heap.size w w1) := HB.out.trans (hb1.mono HB.out.size)
  have HI1 : Hid (MemAt w1 w.heap.size m) := HI.out.to hb1
  have b0 : w1.cell? ⟨w.heap.size + 1, 0, none⟩ = some (.int .i64 6) := (hb1.cell (p := ⟨w.heap.size + 1, 0, none⟩) (World.block_lt_of_cell? V _ a0)).trans a0
  clear hb1 HB HI a0 a1 a2
  go_wp2_with (refine wpList_rowLoad rfl 37 (.tmp 2) rfl _ 0 136 m.cell rfl HI1.out (by omega) (fun i _ => by rw [Nat.zero_add]) Tryd.underlying37 rfl (by kernel_rfl) ?_)
  refine (HG.out _).mono ?_
  rintro e w2 ⟨rfl, hb2⟩
  have HB2 : Hid (Below w.heap.size w w2) := HB1.out.trans (hb2.mono HB1.out.size)
  clear hb2 HG
  go_wp2
  go_ret
  exact ⟨rfl, HB2.out⟩

set_option maxHeartbeats 1000000 in
set_option maxRecDepth 10000 in
theorem ibit_7 (m : Mm) (_hok : m.Ok) (n p : Int) (w : World) (hT : DevTab w) :
    Calls Tryd.prog 10 #[m.val, .agg #[.int .i64 7, .int .i64 n, .int .i64 p]] w fun e w' => e = .returned (.bool (m.bit 7 n)) ∧ Below w.heap.size w w' := by
  have HT : Hid (DevTab w) := hT
  clear hT
  obtain ⟨j, hj⟩ := Int.eq_ofNat_of_zero_le (plc_range 7 n).1
  have hlt : j < 16 := by
    have := (plc_range 7 n).2
    rw [hj, show sz4 7 = 16 from rfl] at this
    omega
  have hlt' : (j : Int) < 16 := by omega
  have HE : Hid (m.bit 7 n = m.td j) := by
    show m.td (plc 7 n).toNat = m.td j
    rw [hj]; rfl
  rw [HE.out]
  clear _hok
  unfold Mm.val
  go_enter Tryd.func10, Tryd.ntmps10
  go_upto_region 1 with fail
  have HB : Hid (Below w.heap.size w ((w.alloc (.cells m.cells 37)).alloc (.cells #[.int .i64 7, .int .i64 n, .int .i64 p] 39))) := ((Below.refl _ _).alloc (Nat.le_refl _) _).alloc (by simp) _
  have HI : Hid (MemAt ((w.alloc (.cells m.cells 37)).alloc (.cells #[.int .i64 7, .int .i64 n, .int .i64 p] 39)) w.heap.size m) := (RowAt.new w 37 136 m.cell).alloc _
  have a0 : World.cell? ((w.alloc (.cells m.cells 37)).alloc (.cells #[.int .i64 7, .int .i64 n, .int .i64 p] 39)) ⟨w.heap.size + 1, 0, none⟩ = some (.int .i64 7) := by simp [go_sem]
  have a1 : World.cell? ((w.alloc (.cells m.cells 37)).alloc (.cells #[.int .i64 7, .int .i64 n, .int .i64 p] 39)) ⟨w.heap.size + 1, 1, none⟩ = some (.int .i64 n) := by simp [go_sem]
  have a2 : World.cell? ((w.alloc (.cells m.cells 37)).alloc (.cells #[.int .i64 7, .int .i64 n, .int .i64 p] 39)) ⟨w.heap.size + 1, 2, none⟩ = some (.int .i64 p) := by simp [go_sem]
  generalize ((w.alloc (.cells m.cells 37)).alloc (.cells #[.int .i64 7, .int .i64 n, .int .i64 p] 39)) = V at *
  go_wp2_with fail
  refine (place_any 7 n p _ (HT.out.to HB.out)).mono ?_
  rw [hj]
  rintro e w1 ⟨rfl, hb1⟩
  have HB1 : Hid (Below w.heap.size w w1) := HB.out.trans (hb1.mono HB.out.size)
  have HI1 : Hid (MemAt w1 w.heap.size m) := HI.out.to hb1
  have b0 : w1.cell? ⟨w.heap.size + 1, 0, none⟩ = some (.int .i64 7) := (hb1.cell (p := ⟨w.heap.size + 1, 0, none⟩) (World.block_lt_of_cell? V _ a0)).trans a0
  clear hb1 HB HI a0 a1 a2
  have c0 : w1.cell? ⟨w.heap.size, 5 + j * 2, none⟩ = some (.bool (m.td j)) := (cell_of_row _ _ _ _ _ _ HI1.out).trans (m.at_td hlt)
  go_wp2
  go_ret
  exact ⟨rfl, HB1.out⟩

set_option maxHeartbeats 1000000 in
set_option maxRecDepth 10000 in
theorem ibit_8 (m : Mm) (_hok : m.Ok) (n p : Int) (w : World) (hT : DevTab w) :
    Calls Tryd.prog 10 #[m.val, .agg #[.int .i64 8, .int .i64 n, .int .i64 p]] w fun e w' => e = .returned (.bool (m.bit 8 n)) ∧ Below w.heap.size w w' := by
  have HT : Hid (DevTab w) := hT
  clear hT
  obtain ⟨j, hj⟩ := Int.eq_ofNat_of_zero_le (plc_range 8 n).1
  have hlt : j < 16 := by
    have := (plc_range 8 n).2
    rw [hj, show sz4 8 = 16 from rfl] at this
    omega
  have hlt' : (j : Int) < 16 := by omega
  have HE : Hid (m.bit 8 n = m.cd j) := by
    show m.cd (plc 8 n).toNat = m.cd j
    rw [hj]; rfl
  rw [HE.out]
  clear _hok
  unfold Mm.val
  go_enter Tryd.func10, Tryd.ntmps10
  go_upto_region 1 with fail
  have HB : Hid (Below w.heap.size w ((w.alloc (.cells m.cells 37)).alloc (.cells #[.int .i64 8, .int .i64 n, .int .i64 p] 39))) := ((Below.refl _ _).alloc (Nat.le_refl _) _).alloc (by simp) _
  have HI : Hid (MemAt ((w.alloc (.cells m.cells 37)).alloc (.cells #[.int .i64 8, .int .i64 n, .int .i64 p] 39)) w.heap.size m) := (RowAt.new w 37 136 m.cell).alloc _
  have a0 : World.cell? ((w.alloc (.cells m.cells 37)).alloc (.cells #[.int .i64 8, .int .i64 n, .int .i64 p] 39)) ⟨w.heap.size + 1, 0, none⟩ = some (.int .i64 8) := by simp [go_sem]
  have a1 : World.cell? ((w.alloc (.cells m.cells 37)).alloc (.cells #[.int .i64 8, .int .i64 n, .int .i64 p] 39)) ⟨w.heap.size + 1, 1, none⟩ = some (.int .i64 n) := by simp [go_sem]
  have a2 : World.cell? ((w.alloc (.cells m.cells 37)).alloc (.cells #[.int .i64 8, .int .i64 n, .int .i64 p] 39)) ⟨w.heap.size + 1, 2, none⟩ = some (.int .i64 p) := by simp [go_sem]
  generalize ((w.alloc (.cells m.cells 37)).alloc (.cells #[.int .i64 8, .int .i64 n, .int .i64 p] 39)) = V at *
  go_wp2_with fail
  refine (place_any 8 n p _ (HT.out.to HB.out)).mono ?_
  rw [hj]
  rintro e w1 ⟨rfl, hb1⟩
  have HB1 : Hid (Below w.heap.size w w1) := HB.out.trans (hb1.mono HB.out.size)
  have HI1 : Hid (MemAt w1 w.heap.size m) := HI.out.to hb1
  have b0 : w1.cell? ⟨w.heap.size + 1, 0, none⟩ = some (.int .i64 8) := (hb1.cell (p := ⟨w.heap.size + 1, 0, none⟩) (World.block_lt_of_cell? V _ a0)).trans a0
  clear hb1 HB HI a0 a1 a2
  have c0 : w1.cell? ⟨w.heap.size, 37 + j * 3, none⟩ = some (.bool (m.cd j)) := (cell_of_row _ _ _ _ _ _ HI1.out).trans (m.at_cd hlt)
  go_wp2
  go_ret
  exact ⟨rfl, HB1.out⟩

set_option maxHeartbeats 1000000 in
set_option maxRecDepth 10000 in
theorem ibit_no (m : Mm) (hok : m.Ok) (k : Int) (n p : Int) (w : World) (hT : DevTab w) (hk : k ≠ 6 ∧ k ≠ 7 ∧ k ≠ 8) :
    Calls Tryd.prog 10 #[m.val, .agg #[.int .i64 k, .int .i64 n, .int .i64 p]] w fun e w' => e = .returned (.bool (m.bit k n)) ∧ Below w.heap.size w w' := by
  have HT : Hid (DevTab w) := hT
  clear hT
  obtain ⟨j, hj⟩ := Int.eq_ofNat_of_zero_le (plc_range k n).1
  have hlt : j < 64 := by
    have := (plc_range k n).2
    rw [hj] at this
    rcases sz4_cases k with h | h | h | h | h <;> omega
  have k6 : (k == 6) = false := by simp only [beq_eq_false_iff_ne, ne_eq]; omega
  have k7 : (k == 7) = false := by simp only [beq_eq_false_iff_ne, ne_eq]; omega
  have k8 : (k == 8) = false := by simp only [beq_eq_false_iff_ne, ne_eq]; omega
  have HG : Hid (∀ W, Calls Tryd.prog 39 #[m.val, .int .i64 k] W fun e w' => e = .returned (.int .u64 (m.packed k : Nat)) ∧ Below W.heap.size W w') := fun W => packed_any m hok k W
  have hP : m.packed k < 18446744073709551616 := packed_lt hok k
  have HE : Hid (m.bit k n = bitN (m.packed k) j) := by
    show _ = _
    rw [bit_packed m k n hk, hj]; rfl
  rw [HE.out]
  clear hok hk
  generalize m.packed k = pk at *
  obtain ⟨u, hu⟩ : ∃ u : Nat, u = pk / 2 ^ j := ⟨_, rfl⟩
  have hs : (pk : Int) / 2 ^ j = (u : Int) := by rw [hu, Int.natCast_ediv, Int.natCast_pow]; rfl
  have hul : u < 18446744073709551616 := by rw [hu]; exact Nat.lt_of_le_of_lt (Nat.div_le_self _ _) hP
  obtain ⟨r, hr⟩ : ∃ r : Nat, r = u % 2 := ⟨_, rfl⟩
  have ha : bits .and .u64 (u : Int) 1 = (r : Int) := by
    have := u64_and_nat u 1 hul (by decide)
    rw [Nat.and_one_is_mod, ← hr] at this
    exact this
  have HD : Hid (((r : Int) == 1) = bitN pk j) := by
    show _ = _
    unfold bitN
    rw [← hu, ← hr]
    by_cases h : r = 1
    · subst h; rfl
    · have : ¬ (r : Int) = 1 := by omega
      simp [h, this]
  have hj0 : (0 : Int) ≤ (j : Int) := by omega
  have hj1 : (j : Int) ≤ 64 := by omega
  clear hu hr hul hP
  generalize bitN pk j = res at *
  unfold Mm.val
  go_enter Tryd.func10, Tryd.ntmps10
  go_upto_region 1 with fail
  have HB : Hid (Below w.heap.size w ((w.alloc (.cells m.cells 37)).alloc (.cells #[.int .i64 k, .int .i64 n, .int .i64 p] 39))) := ((Below.refl _ _).alloc (Nat.le_refl _) _).alloc (by simp) _
  have HI : Hid (MemAt ((w.alloc (.cells m.cells 37)).alloc (.cells #[.int .i64 k, .int .i64 n, .int .i64 p] 39)) w.heap.size m) := (RowAt.new w 37 136 m.cell).alloc _
  have a0 : World.cell? ((w.alloc (.cells m.cells 37)).alloc (.cells #[.int .i64 k, .int .i64 n, .int .i64 p] 39)) ⟨w.heap.size + 1, 0, none⟩ = some (.int .i64 k) := by simp [go_sem]
  have a1 : World.cell? ((w.alloc (.cells m.cells 37)).alloc (.cells #[.int .i64 k, .int .i64 n, .int .i64 p] 39)) ⟨w.heap.size + 1, 1, none⟩ = some (.int .i64 n) := by simp [go_sem]
  have a2 : World.cell? ((w.alloc (.cells m.cells 37)).alloc (.cells #[.int .i64 k, .int .i64 n, .int .i64 p] 39)) ⟨w.heap.size + 1, 2, none⟩ = some (.int .i64 p) := by simp [go_sem]
  generalize ((w.alloc (.cells m.cells 37)).alloc (.cells #[.int .i64 k, .int .i64 n, .int .i64 p] 39)) = V at *
  go_wp2_with fail
  refine (place_any k n p _ (HT.out.to HB.out)).mono ?_
  rw [hj]
  rintro e w1 ⟨rfl, hb1⟩
  have HB1 : Hid (Below w.heap.size w w1) := HB.out.trans (hb1.mono HB.out.size)
  have HI1 : Hid (MemAt w1 w.heap.size m) := HI.out.to hb1
  have b0 : w1.cell? ⟨w.heap.size + 1, 0, none⟩ = some (.int .i64 k) := (hb1.cell (p := ⟨w.heap.size + 1, 0, none⟩) (World.block_lt_of_cell? V _ a0)).trans a0
  clear hb1 HB HI a0 a1 a2
  go_wp2_with (refine wpList_rowLoad rfl 37 (.tmp 2) rfl _ 0 136 m.cell rfl HI1.out (by omega) (fun i _ => by rw [Nat.zero_add]) Tryd.underlying37 rfl (by kernel_rfl) ?_)
  refine (HG.out _).mono ?_
  rintro e w2 ⟨rfl, hb2⟩
  have HB2 : Hid (Below w.heap.size w w2) := HB1.out.trans (hb2.mono HB1.out.size)
  clear hb2 HG
  go_wp2
  go_ret
  exact ⟨ret_bool4 HD.out, HB2.out⟩
theorem ibit_any (m : Mm) (hok : m.Ok) (k n p : Int) (w : World) (hT : DevTab w) :
    Calls Tryd.prog 10 #[m.val, .agg #[.int .i64 k, .int .i64 n, .int .i64 p]] w fun e w' => e = .returned (.bool (m.bit k n)) ∧ Below w.heap.size w w' := by
  by_cases h : k ≠ 6 ∧ k ≠ 7 ∧ k ≠ 8
  · exact ibit_no m hok k n p w hT h
  · have : k = 6 ∨ k = 7 ∨ k = 8 := by omega
    rcases this with rfl | rfl | rfl
    · exact ibit_6 m hok n p w hT
    · exact ibit_7 m hok n p w hT
    · exact ibit_8 m hok n p w hT
end Go.Proofs.YtljhpagpohihcaaDoor
