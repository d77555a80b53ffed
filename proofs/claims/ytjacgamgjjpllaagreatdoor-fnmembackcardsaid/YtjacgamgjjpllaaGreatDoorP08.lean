/- The program's MemBit. Helper text: no statement is claimed here. -/
import Derived.Test.YtjacgamgjjpllaaGreatDoorP06
import Derived.Deep.Cut
import Derived.Test.YtjacgamgjjpllaaGreatDoorP07
namespace Go.Proofs.YtjacgamgjjpllaaGreatDoor
open Go.ChangeShapes Go.WideShapes Go.ChangeAt Go.RowKit
theorem bit_packed (m : Mm) (k n : Int) (h : k ≠ 6 ∧ k ≠ 7 ∧ k ≠ 8) : m.bit k n = bitN (m.packed k) (plc k n).toNat := by
  unfold Mm.bit Mm.packed
  by_cases h1 : k = 1
  · subst h1; rfl
  by_cases h2 : k = 2
  · subst h2; rfl
  by_cases h3 : k = 3
  · subst h3; rfl
  by_cases h4 : k = 4
  · subst h4; rfl
  by_cases h5 : k = 5
  · subst h5; rfl
  rw [if_neg h1, if_neg h2, if_neg h3, if_neg h4, if_neg h5, if_neg h.1, if_neg h.2.1, if_neg h.2.2, if_neg h1, if_neg h2, if_neg h3, if_neg h4, if_neg h5]
  unfold bitN
  rw [Nat.zero_div]
  rfl

set_option maxHeartbeats 1000000 in
set_option maxRecDepth 10000 in
theorem ibit_6 (m : Mm) (hok : m.Ok) (n p : Int) (w : World) (hT : DevTab w) :
    Calls Tryz.prog 35 #[m.val, .agg #[.int .i64 6, .int .i64 n, .int .i64 p]] w fun e w' => e = .returned (.bool (m.bit 6 n)) ∧ Below w.heap.size w w' := by
  have HT : Hid (DevTab w) := hT
  clear hT
  obtain ⟨j, hj⟩ := Int.eq_ofNat_of_zero_le (plc_range 6 n).1
  have hlt : j < 8 := by
    have := (plc_range 6 n).2
    rw [hj, show sz4 6 = 8 from rfl] at this
    omega
  have hlt' : (j : Int) < 8 := by omega
  have HG : Hid (∀ W, Calls Tryz.prog 71 #[m.val, .int .i64 j] W fun e w' => e = .returned (.bool (m.given j)) ∧ Below W.heap.size W w') := fun W => igiven_any m hok j W hlt
  have HE : Hid (m.bit 6 n = m.given j) := by
    show m.given (plc 6 n).toNat = m.given j
    rw [hj]; rfl
  rw [HE.out]
  clear hok
  generalize m.given j = g at *
  unfold Mm.val
  go_enter Tryz.func35, Tryz.ntmps35
  go_upto_region 1 with fail
  have HB : Hid (Below w.heap.size w ((w.alloc (.cells m.cells 37)).alloc (.cells #[.int .i64 6, .int .i64 n, .int .i64 p] 71))) := ((Below.refl _ _).alloc (Nat.le_refl _) _).alloc (by simp) _
  have HI : Hid (MemAt ((w.alloc (.cells m.cells 37)).alloc (.cells #[.int .i64 6, .int .i64 n, .int .i64 p] 71)) w.heap.size m) := (RowAt.new w 37 136 m.cell).alloc _
  have a0 : World.cell? ((w.alloc (.cells m.cells 37)).alloc (.cells #[.int .i64 6, .int .i64 n, .int .i64 p] 71)) ⟨w.heap.size + 1, 0, none⟩ = some (.int .i64 6) := by simp [go_sem]
  have a1 : World.cell? ((w.alloc (.cells m.cells 37)).alloc (.cells #[.int .i64 6, .int .i64 n, .int .i64 p] 71)) ⟨w.heap.size + 1, 1, none⟩ = some (.int .i64 n) := by simp [go_sem]
  have a2 : World.cell? ((w.alloc (.cells m.cells 37)).alloc (.cells #[.int .i64 6, .int .i64 n, .int .i64 p] 71)) ⟨w.heap.size + 1, 2, none⟩ = some (.int .i64 p) := by simp [go_sem]
  generalize ((w.alloc (.cells m.cells 37)).alloc (.cells #[.int .i64 6, .int .i64 n, .int .i64 p] 71)) = V at *
  go_wp2_with fail
  refine (place_any 6 n p _ (HT.out.to HB.out)).mono ?_
  rw [hj]
  rintro e w1 ⟨rfl, hb1⟩
  have HB1 : Hid (Below w.heap.size w w1) := HB.out.trans (hb1.mono HB.out.size)
  have HI1 : Hid (MemAt w1 w.heap.size m) := HI.out.to hb1
  have b0 : w1.cell? ⟨w.heap.size + 1, 0, none⟩ = some (.int .i64 6) := (hb1.cell (p := ⟨w.heap.size + 1, 0, none⟩) (World.block_lt_of_cell? V _ a0)).trans a0
  clear hb1 HB HI a0 a1 a2
  go_wp2_with (refine wpList_rowLoad rfl 37 (.tmp 2) rfl _ 0 136 m.cell rfl HI1.out (by omega) (fun i _ => by rw [Nat.zero_add]) Tryz.underlying37 rfl (by kernel_rfl) ?_)
  refine (HG.out _).mono ?_
  rintro e w2 ⟨rfl, hb2⟩
  have HB2 : Hid (Below w.heap.size w w2) := HB1.out.trans (hb2.mono HB1.out.size)
  clear hb2 HG
  go_wp2
  go_ret
  exact ⟨rfl, HB2.out⟩

set_option maxHeartbeats 1000000 in
set_option maxRecDepth 10000 in
theorem ibit_7 (m : Mm) (_hok : m.Ok) (n p : Int) (w : World) (hT : DevTab w) :
    Calls Tryz.prog 35 #[m.val, .agg #[.int .i64 7, .int .i64 n, .int .i64 p]] w fun e w' => e = .returned (.bool (m.bit 7 n)) ∧ Below w.heap.size w w' := by
  have HT : Hid (DevTab w) := hT
  clear hT
  obtain ⟨j, hj⟩ := Int.eq_ofNat_of_zero_le (plc_range 7 n).1
  have hlt : j < 16 := by
    have := (plc_range 7 n).2
    rw [hj, show sz4 7 = 16 from rfl] at this
    omega
  have hlt' : (j : Int) < 16 := by omega
  have HE : Hid (m.bit 7 n = m.td j) := by
    show m.td (plc 7 n).toNat = m.td j
    rw [hj]; rfl
  rw [HE.out]
  clear _hok
  unfold Mm.val
  go_enter Tryz.func35, Tryz.ntmps35
  go_upto_region 1 with fail
  have HB : Hid (Below w.heap.size w ((w.alloc (.cells m.cells 37)).alloc (.cells #[.int .i64 7, .int .i64 n, .int .i64 p] 71))) := ((Below.refl _ _).alloc (Nat.le_refl _) _).alloc (by simp) _
  have HI : Hid (MemAt ((w.alloc (.cells m.cells 37)).alloc (.cells #[.int .i64 7, .int .i64 n, .int .i64 p] 71)) w.heap.size m) := (RowAt.new w 37 136 m.cell).alloc _
  have a0 : World.cell? ((w.alloc (.cells m.cells 37)).alloc (.cells #[.int .i64 7, .int .i64 n, .int .i64 p] 71)) ⟨w.heap.size + 1, 0, none⟩ = some (.int .i64 7) := by simp [go_sem]
  have a1 : World.cell? ((w.alloc (.cells m.cells 37)).alloc (.cells #[.int .i64 7, .int .i64 n, .int .i64 p] 71)) ⟨w.heap.size + 1, 1, none⟩ = some (.int .i64 n) := by simp [go_sem]
  have a2 : World.cell? ((w.alloc (.cells m.cells 37)).alloc (.cells #[.int .i64 7, .int .i64 n, .int .i64 p] 71)) ⟨w.heap.size + 1, 2, none⟩ = some (.int .i64 p) := by simp [go_sem]
  generalize ((w.alloc (.cells m.cells 37)).alloc (.cells #[.int .i64 7, .int .i64 n, .int .i64 p] 71)) = V at *
  go_wp2_with fail
  refine (place_any 7 n p _ (HT.out.to HB.out)).mono ?_
  rw [hj]
  rintro e w1 ⟨rfl, hb1⟩
  have HB1 : Hid (Below w.heap.size w w1) := HB.out.trans (hb1.mono HB.out.size)
  have HI1 : Hid (MemAt w1 w.heap.size m) := HI.out.to hb1
  have b0 : w1.cell? ⟨w.heap.size + 1, 0, none⟩ = some (.int .i64 7) := (hb1.cell (p := ⟨w.heap.size + 1, 0, none⟩) (World.block_lt_of_cell? V _ a0)).trans a0
  clear hb1 HB HI a0 a1 a2
  have c0 : w1.cell? ⟨w.heap.size, 5 + j * 2, none⟩ = some (.bool (m.td j)) := (cell_of_row _ _ _ _ _ _ HI1.out).trans (m.at_td hlt)
  go_wp2
  go_ret
  exact ⟨rfl, HB1.out⟩

set_option maxHeartbeats 1000000 in
set_option maxRecDepth 10000 in
theorem ibit_8 (m : Mm) (_hok : m.Ok) (n p : Int) (w : World) (hT : DevTab w) :
    Calls Tryz.prog 35 #[m.val, .agg #[.int .i64 8, .int .i64 n, .int .i64 p]] w fun e w' => e = .returned (.bool (m.bit 8 n)) ∧ Below w.heap.size w w' := by
  have HT : Hid (DevTab w) := hT
  clear hT
  obtain ⟨j, hj⟩ := Int.eq_ofNat_of_zero_le (plc_range 8 n).1
  have hlt : j < 16 := by
    have := (plc_range 8 n).2
    rw [hj, show sz4 8 = 16 from rfl] at this
    omega
  have hlt' : (j : Int) < 16 := by omega
  have HE : Hid (m.bit 8 n = m.cd j) := by
    show m.cd (plc 8 n).toNat = m.cd j
    rw [hj]; rfl
  rw [HE.out]
  clear _hok
  unfold Mm.val
  go_enter Tryz.func35, Tryz.ntmps35
  go_upto_region 1 with fail
  have HB : Hid (Below w.heap.size w ((w.alloc (.cells m.cells 37)).alloc (.cells #[.int .i64 8, .int .i64 n, .int .i64 p] 71))) := ((Below.refl _ _).alloc (Nat.le_refl _) _).alloc (by simp) _
  have HI : Hid (MemAt ((w.alloc (.cells m.cells 37)).alloc (.cells #[.int .i64 8, .int .i64 n, .int .i64 p] 71)) w.heap.size m) := (RowAt.new w 37 136 m.cell).alloc _
  have a0 : World.cell? ((w.alloc (.cells m.cells 37)).alloc (.cells #[.int .i64 8, .int .i64 n, .int .i64 p] 71)) ⟨w.heap.size + 1, 0, none⟩ = some (.int .i64 8) := by simp [go_sem]
  have a1 : World.cell? ((w.alloc (.cells m.cells 37)).alloc (.cells #[.int .i64 8, .int .i64 n, .int .i64 p] 71)) ⟨w.heap.size + 1, 1, none⟩ = some (.int .i64 n) := by simp [go_sem]
  have a2 : World.cell? ((w.alloc (.cells m.cells 37)).alloc (.cells #[.int .i64 8, .int .i64 n, .int .i64 p] 71)) ⟨w.heap.size + 1, 2, none⟩ = some (.int .i64 p) := by simp [go_sem]
  generalize ((w.alloc (.cells m.cells 37)).alloc (.cells #[.int .i64 8, .int .i64 n, .int .i64 p] 71)) = V at *
  go_wp2_with fail
  refine (place_any 8 n p _ (HT.out.to HB.out)).mono ?_
  rw [hj]
  rintro e w1 ⟨rfl, hb1⟩
  have HB1 : Hid (Below w.heap.size w w1) := HB.out.trans (hb1.mono HB.out.size)
  have HI1 : Hid (MemAt w1 w.heap.size m) := HI.out.to hb1
  have b0 : w1.cell? ⟨w.heap.size + 1, 0, none⟩ = some (.int .i64 8) := (hb1.cell (p := ⟨w.heap.size + 1, 0, none⟩) (World.block_lt_of_cell? V _ a0)).trans a0
  clear hb1 HB HI a0 a1 a2
  have c0 : w1.cell? ⟨w.heap.size, 37 + j * 3, none⟩ = some (.bool (m.cd j)) := (cell_of_row _ _ _ _ _ _ HI1.out).trans (m.at_cd hlt)
  go_wp2
  go_ret
  exact ⟨rfl, HB1.out⟩

set_option maxHeartbeats 1000000 in
set_option maxRecDepth 10000 in
theorem ibit_no (m : Mm) (hok : m.Ok) (k : Int) (n p : Int) (w : World) (hT : DevTab w) (hk : k ≠ 6 ∧ k ≠ 7 ∧ k ≠ 8) :
    Calls Tryz.prog 35 #[m.val, .agg #[.int .i64 k, .int .i64 n, .int .i64 p]] w fun e w' => e = .returned (.bool (m.bit k n)) ∧ Below w.heap.size w w' := by
  have HT : Hid (DevTab w) := hT
  clear hT
  obtain ⟨j, hj⟩ := Int.eq_ofNat_of_zero_le (plc_range k n).1
  have hlt : j < 64 := by
    have := (plc_range k n).2
    rw [hj] at this
    rcases sz4_cases k with h | h | h | h | h <;> omega
  have k6 : (k == 6) = false := by simp only [beq_eq_false_iff_ne, ne_eq]; omega
  have k7 : (k == 7) = false := by simp only [beq_eq_false_iff_ne, ne_eq]; omega
  have k8 : (k == 8) = false := by simp only [beq_eq_false_iff_ne, ne_eq]; omega
  have HG : Hid (∀ W, Calls Tryz.prog 72 #[m.val, .int .i64 k] W fun e w' => e = .returned (.int .u64 (m.packed k : Nat)) ∧ Below W.heap.size W w') := fun W => packed_any m hok k W
  have hP : m.packed k < 18446744073709551616 := packed_lt hok k
  have HE : Hid (m.bit k n = bitN (m.packed k) j) := by
    show _ = _
    rw [bit_packed m k n hk, hj]; rfl
  rw [HE.out]
  clear hok hk
  generalize m.packed k = pk at *
  obtain ⟨u, hu⟩ : ∃ u : Nat, u = pk / 2 ^ j := ⟨_, rfl⟩
  have hs : (pk : Int) / 2 ^ j = (u : Int) := by rw [hu, Int.natCast_ediv, Int.natCast_pow]; rfl
  have hul : u < 18446744073709551616 := by rw [hu]; exact Nat.lt_of_le_of_lt (Nat.div_le_self _ _) hP
  obtain ⟨r, hr⟩ : ∃ r : Nat, r = u % 2 := ⟨_, rfl⟩
  have ha : bits .and .u64 (u : Int) 1 = (r : Int) := by
    have := u64_and_nat u 1 hul (by decide)
    rw [Nat.and_one_is_mod, ← hr] at this
    exact this
  have HD : Hid (((r : Int) == 1) = bitN pk j) := by
    show _ = _
    unfold bitN
    rw [← hu, ← hr]
    by_cases h : r = 1
    · subst h; rfl
    · have : ¬ (r : Int) = 1 := by omega
      simp [h, this]
  have hj0 : (0 : Int) ≤ (j : Int) := by omega
  have hj1 : (j : Int) ≤ 64 := by omega
  clear hu hr hul hP
  generalize bitN pk j = res at *
  unfold Mm.val
  go_enter Tryz.func35, Tryz.ntmps35
  go_upto_region 1 with fail
  have HB : Hid (Below w.heap.size w ((w.alloc (.cells m.cells 37)).alloc (.cells #[.int .i64 k, .int .i64 n, .int .i64 p] 71))) := ((Below.refl _ _).alloc (Nat.le_refl _) _).alloc (by simp) _
  have HI : Hid (MemAt ((w.alloc (.cells m.cells 37)).alloc (.cells #[.int .i64 k, .int .i64 n, .int .i64 p] 71)) w.heap.size m) := (RowAt.new w 37 136 m.cell).alloc _
  have a0 : World.cell? ((w.alloc (.cells m.cells 37)).alloc (.cells #[.int .i64 k, .int .i64 n, .int .i64 p] 71)) ⟨w.heap.size + 1, 0, none⟩ = some (.int .i64 k) := by simp [go_sem]
  have a1 : World.cell? ((w.alloc (.cells m.cells 37)).alloc (.cells #[.int .i64 k, .int .i64 n, .int .i64 p] 71)) ⟨w.heap.size + 1, 1, none⟩ = some (.int .i64 n) := by simp [go_sem]
  have a2 : World.cell? ((w.alloc (.cells m.cells 37)).alloc (.cells #[.int .i64 k, .int .i64 n, .int .i64 p] 71)) ⟨w.heap.size + 1, 2, none⟩ = some (.int .i64 p) := by simp [go_sem]
  generalize ((w.alloc (.cells m.cells 37)).alloc (.cells #[.int .i64 k, .int .i64 n, .int .i64 p] 71)) = V at *
  go_wp2_with fail
  refine (place_any k n p _ (HT.out.to HB.out)).mono ?_
  rw [hj]
  rintro e w1 ⟨rfl, hb1⟩
  have HB1 : Hid (Below w.heap.size w w1) := HB.out.trans (hb1.mono HB.out.size)
  have HI1 : Hid (MemAt w1 w.heap.size m) := HI.out.to hb1
  have b0 : w1.cell? ⟨w.heap.size + 1, 0, none⟩ = some (.int .i64 k) := (hb1.cell (p := ⟨w.heap.size + 1, 0, none⟩) (World.block_lt_of_cell? V _ a0)).trans a0
  clear hb1 HB HI a0 a1 a2
  go_wp2_with (refine wpList_rowLoad rfl 37 (.tmp 2) rfl _ 0 136 m.cell rfl HI1.out (by omega) (fun i _ => by rw [Nat.zero_add]) Tryz.underlying37 rfl (by kernel_rfl) ?_)
  refine (HG.out _).mono ?_
  rintro e w2 ⟨rfl, hb2⟩
  have HB2 : Hid (Below w.heap.size w w2) := HB1.out.trans (hb2.mono HB1.out.size)
  clear hb2 HG
  go_wp2
  go_ret
  exact ⟨ret_bool4 HD.out, HB2.out⟩
theorem ibit_any (m : Mm) (hok : m.Ok) (k n p : Int) (w : World) (hT : DevTab w) :
    Calls Tryz.prog 35 #[m.val, .agg #[.int .i64 k, .int .i64 n, .int .i64 p]] w fun e w' => e = .returned (.bool (m.bit k n)) ∧ Below w.heap.size w w' := by
  by_cases h : k ≠ 6 ∧ k ≠ 7 ∧ k ≠ 8
  · exact ibit_no m hok k n p w hT h
  · have : k = 6 ∨ k = 7 ∨ k = 8 := by omega
    rcases this with rfl | rfl | rfl
    · exact ibit_6 m hok n p w hT
    · exact ibit_7 m hok n p w hT
    · exact ibit_8 m hok n p w hT
end Go.Proofs.YtjacgamgjjpllaaGreatDoor

/- One text, one memory: both ways. Helper text: no statement is claimed here. -/
namespace Go.Proofs.YtjacgamgjjpllaaGreatDoor
open Go.ChangeShapes Go.WideShapes Go.ChangeAt Go.RowKit Fl

theorem list_inj {a b : List UInt8} (h : [a] = [b]) : a = b := by simpa using h
theorem tm_inj {m n : Mm} {i : Nat} (h : tmW m i = tmW n i) : m.td i = n.td i ∧ m.tc i = n.tc i := by
  have h33 : ∀ z, (33 : UInt8) ∉ Lib.itoa z := itoa_not (by decide) (by decide)
  unfold tmW at h
  by_cases h1 : m.td i = true ∨ 0 < m.tc i <;> by_cases h2 : n.td i = true ∨ 0 < n.tc i
  · rw [if_pos h1, if_pos h2] at h
    have e := List.append_cancel_left (list_inj h)
    rw [List.append_assoc, List.append_assoc] at e
    obtain ⟨e1, e2⟩ := mark_inj (h33 _) (h33 _) (List.append_cancel_left e)
    exact ⟨e2, by have := itoa_inj e1; omega⟩
  · rw [if_pos h1, if_neg h2] at h; simp at h
  · rw [if_neg h1, if_pos h2] at h; simp at h
  · simp only [not_or, Bool.not_eq_true] at h1 h2
    exact ⟨h1.1.trans h2.1.symm, by omega⟩
theorem cn_inj {m n : Mm} {i : Nat} (h : cnW m i = cnW n i) : m.cd i = n.cd i ∧ m.cl i = n.cl i ∧ m.cc i = n.cc i := by
  have h33 : ∀ z, (33 : UInt8) ∉ Lib.itoa z := itoa_not (by decide) (by decide)
  have h43 : ∀ z b, (43 : UInt8) ∉ Lib.itoa z ++ mkT b [33] := fun z b h => by
    rcases List.mem_append.1 h with h | h
    · exact itoa_not (by decide) (by decide) z h
    · exact mkT_not (by decide) b h
  unfold cnW at h
  by_cases h1 : m.cd i = true ∨ m.cl i = true ∨ 0 < m.cc i <;> by_cases h2 : n.cd i = true ∨ n.cl i = true ∨ 0 < n.cc i
  · rw [if_pos h1, if_pos h2] at h
    have e := List.append_cancel_left (list_inj h)
    rw [List.append_assoc, List.append_assoc, List.append_assoc, List.append_assoc] at e
    have e' := List.append_cancel_left e
    rw [← List.append_assoc, ← List.append_assoc] at e'
    obtain ⟨e1, e2⟩ := mark_inj (h43 _ _) (h43 _ _) e'
    obtain ⟨e3, e4⟩ := mark_inj (h33 _) (h33 _) e1
    exact ⟨e4, e2, by have := itoa_inj e3; omega⟩
  · rw [if_pos h1, if_neg h2] at h; simp at h
  · rw [if_neg h1, if_pos h2] at h; simp at h
  · simp only [not_or, Bool.not_eq_true] at h1 h2
    exact ⟨h1.1.trans h2.1.symm, h1.2.1.trans h2.2.1.symm, by omega⟩
theorem wh_inj {m n : Mm} {i : Nat} (h : whW m i = whW n i) : m.d i = n.d i := by
  unfold whW at h
  by_cases h1 : m.d i = 0 <;> by_cases h2 : n.d i = 0
  · rw [h1, h2]
  · rw [if_pos h1, if_neg h2] at h; simp at h
  · rw [if_neg h1, if_pos h2] at h; simp at h
  · rw [if_neg h1, if_neg h2] at h
    exact itoa_inj (List.append_cancel_left (List.append_cancel_left (list_inj h)))
theorem re_inj {m n : Mm} {i : Nat} (h : reW m i = reW n i) : rlT (m.r i) = rlT (n.r i) := by
  unfold reW at h
  by_cases h1 : rlT (m.r i) = [48] <;> by_cases h2 : rlT (n.r i) = [48]
  · rw [h1, h2]
  · rw [if_pos h1, if_neg h2] at h; simp at h
  · rw [if_neg h1, if_pos h2] at h; simp at h
  · rw [if_neg h1, if_neg h2] at h
    exact List.append_cancel_left (List.append_cancel_left (list_inj h))
theorem bit_inj {m n : Mm} {k : Int} {i : Nat} (h : bitW m k i = bitW n k i) : m.bit k (i : Int) = n.bit k (i : Int) := by
  unfold bitW at h
  cases h1 : m.bit k (i : Int) <;> cases h2 : n.bit k (i : Int) <;> rw [h1, h2] at h <;> simp at h ⊢
theorem sv_rlT {x y : Nat} (hx : x < 2 ^ 64) (hy : y < 2 ^ 64) : sv x y = true ↔ rlT x = rlT y := sv_iff.trans (text_iff (rlT_R hx) (rlT_R hy)).symm
/-- A bit of a packed word. -/
theorem bit_at {m : Mm} {j i : Nat} (hj : j < 5) (hi : i < bits5 j) : m.bit ((j : Int) + 1) (i : Int) = bitN (m.packed ((j : Int) + 1)) i := by
  have hp : plc ((j : Int) + 1) (i : Int) = (i : Int) := by
    have h6 : ¬ (j : Int) + 1 = 6 := by omega
    unfold bits5 at hi
    unfold plc sz4
    rw [if_neg h6, if_neg (by omega), Int.emod_eq_of_lt (by omega) (by omega)]
  rw [bit_packed m _ _ ⟨by omega, by omega, by omega⟩, hp, Int.toNat_natCast]
theorem word_eq {a b k : Nat} (ha : a < 2 ^ k) (hb : b < 2 ^ k) (h : ∀ i, i < k → bitN a i = bitN b i) : a = b := by
  apply Nat.eq_of_testBit_eq
  intro i
  by_cases hi : i < k
  · have := h i hi
    rwa [bitN_test, bitN_test] at this
  · have hp : 2 ^ k ≤ 2 ^ i := Nat.pow_le_pow_right (by decide) (by omega)
    rw [Nat.testBit_lt_two_pow (Nat.lt_of_lt_of_le ha hp), Nat.testBit_lt_two_pow (Nat.lt_of_lt_of_le hb hp)]
theorem kind_inj {m n : Mm} {j : Nat} (hj : j < 5) (h : kindW m j = kindW n j) {k : Nat} (hk : bits5 j = k) (ha : m.packed ((j : Int) + 1) < 2 ^ k) (hb : n.packed ((j : Int) + 1) < 2 ^ k) : m.packed ((j : Int) + 1) = n.packed ((j : Int) + 1) := by
  have key : ∀ (q : Mm) i, i < bits5 j → ∀ t ∈ bitW q ((j : Int) + 1) i, kd t = dvT ((j : Int) + 1) i := fun q i _ t ht => by
    rw [in_bit ht]
    exact kd_all (dvT_not (by omega) (by omega) (by decide) (by decide) (by decide) i)
  have hw := upto_inj kd (dvT ((j : Int) + 1)) (fun a b _ _ e => dvT_inj e) (key m) (key n) h
  refine word_eq ha hb fun i hi => ?_
  have := bit_inj (hw i (by omega))
  rwa [bit_at hj (by omega), bit_at hj (by omega)] at this
theorem kd_dv {k : Int} (h1 : 1 ≤ k) (h2 : k ≤ 10) (i : Nat) (r : List UInt8) : kd (dvT k i ++ ([61] ++ r)) = dvT k i := kd_eq (dvT_not h1 h2 (by decide) (by decide) (by decide) i) r

theorem same_of_text {m n : Mm} (hm : m.Ok) (hn : n.Ok) (h : memT m = memT n) : sameM m n = true := by
  have hp := parts_of_text hm hn h
  simp only [partsM, List.cons.injEq, Prod.mk.injEq, true_and, and_true] at hp
  obtain ⟨b0, b1, b2, b3, b4, ht, hc, hd, hr, htime, hran, hfault⟩ := hp
  have e0 : m.x = n.x := kind_inj (j := 0) (by omega) b0 rfl hm.hx hn.hx
  have e1 : m.y = n.y := kind_inj (j := 1) (by omega) b1 rfl hm.hy hn.hy
  have e2 : m.m = n.m := kind_inj (j := 2) (by omega) b2 rfl hm.hm hn.hm
  have e3 : m.s = n.s := kind_inj (j := 3) (by omega) b3 rfl hm.hs hn.hs
  have e4 : m.e = n.e := kind_inj (j := 4) (by omega) b4 rfl hm.he hn.he
  have hT := upto_inj kd (dvT 7) (fun a b _ _ e => dvT_inj e) (fun i _ t ht => by rw [in_tm ht, tmT, List.append_assoc]; exact kd_dv (by omega) (by omega) i _) (fun i _ t ht => by rw [in_tm ht, tmT, List.append_assoc]; exact kd_dv (by omega) (by omega) i _) ht
  have hC := upto_inj kd (dvT 8) (fun a b _ _ e => dvT_inj e) (fun i _ t ht => by rw [in_cn ht, cnT, List.append_assoc, List.append_assoc]; exact kd_dv (by omega) (by omega) i _) (fun i _ t ht => by rw [in_cn ht, cnT, List.append_assoc, List.append_assoc]; exact kd_dv (by omega) (by omega) i _) hc
  have hD := upto_inj kd (dvT 9) (fun a b _ _ e => dvT_inj e) (fun i _ t ht => by rw [in_wh ht]; exact kd_dv (by omega) (by omega) i _) (fun i _ t ht => by rw [in_wh ht]; exact kd_dv (by omega) (by omega) i _) hd
  have hR := upto_inj kd (dvT 10) (fun a b _ _ e => dvT_inj e) (fun i _ t ht => by rw [in_re ht]; exact kd_dv (by omega) (by omega) i _) (fun i _ t ht => by rw [in_re ht]; exact kd_dv (by omega) (by omega) i _) hr
  have etime : m.time = n.time := by
    by_cases h1 : 0 < m.time <;> by_cases h2 : 0 < n.time
    · rw [if_pos h1, if_pos h2] at htime
      have := itoa_inj (List.append_cancel_left (list_inj htime))
      omega
    · rw [if_pos h1, if_neg h2] at htime; simp at htime
    · rw [if_neg h1, if_pos h2] at htime; simp at htime
    · omega
  have eran : m.ran = n.ran := by
    cases h1 : m.ran <;> cases h2 : n.ran <;> rw [h1, h2] at hran <;> simp at hran ⊢
  have efault : m.fault = n.fault := by
    cases h1 : m.fault <;> cases h2 : n.fault <;> rw [h1, h2] at hfault <;> simp at hfault ⊢
  have sT : sameT m n = true := by
    rw [sameT, List.all_eq_true]
    intro i hi
    obtain ⟨a, b⟩ := tm_inj (hT i (List.mem_range.1 hi))
    rw [a, b]; simp
  have sC : sameC m n = true := by
    rw [sameC, List.all_eq_true]
    intro i hi
    obtain ⟨a, b, c⟩ := cn_inj (hC i (List.mem_range.1 hi))
    rw [a, b, c]; simp
  have sD : sameD m n = true := by
    rw [sameD, List.all_eq_true]
    intro i hi
    rw [wh_inj (hD i (List.mem_range.1 hi))]; simp
  have sR : sameR m n = true := sameR_yes fun i hi => (sv_rlT (hm.hr i) (hn.hr i)).2 (re_inj (hR i hi))
  simp only [sameM, e0, e1, e2, e3, e4, sT, sC, sD, sR, etime, eran, efault, beq_self_eq_true, Bool.and_self]

theorem upto_congr {f g : Nat → List (List UInt8)} : ∀ {j : Nat}, (∀ i, i < j → f i = g i) → upto f j = upto g j
  | 0, _ => rfl
  | j + 1, h => by rw [upto_succ, upto_succ, upto_congr fun i hi => h i (by omega), h j (by omega)]
theorem text_of_same {m n : Mm} (hm : m.Ok) (hn : n.Ok) (h : sameM m n = true) : memT m = memT n := by
  simp only [sameM, Bool.and_eq_true, beq_iff_eq] at h
  obtain ⟨hx, hy, hmm, hs, he, hT, hC, hD, hR, htime, hran, hfault⟩ := h
  have hx' : m.x = n.x := by omega
  have hy' : m.y = n.y := by omega
  have hm' : m.m = n.m := by omega
  have hs' : m.s = n.s := by omega
  have he' : m.e = n.e := by omega
  have ht' : m.time = n.time := by omega
  have hk : ∀ j, j < 5 → kindW m j = kindW n j := fun j hj => upto_congr fun i hi => by
    unfold bitW
    rw [bit_at hj hi, bit_at hj hi]
    have : m.packed ((j : Int) + 1) = n.packed ((j : Int) + 1) := by
      unfold Mm.packed
      rw [hx', hy', hm', hs', he']
    rw [this]
  have hb : bitsW m = bitsW n := upto_congr hk
  have h1 : upto (tmW m) 16 = upto (tmW n) 16 := upto_congr fun i hi => by
    rw [sameT, List.all_eq_true] at hT
    have := hT i (List.mem_range.2 hi)
    simp only [Bool.and_eq_true, beq_iff_eq] at this
    have e2 : m.tc i = n.tc i := by omega
    unfold tmW tmT
    rw [this.1, e2]
  have h2 : upto (cnW m) 16 = upto (cnW n) 16 := upto_congr fun i hi => by
    rw [sameC, List.all_eq_true] at hC
    have := hC i (List.mem_range.2 hi)
    simp only [Bool.and_eq_true, beq_iff_eq] at this
    have e2 : m.cc i = n.cc i := by omega
    unfold cnW cnT
    rw [this.1, this.2.1, e2]
  have h3 : upto (whW m) 32 = upto (whW n) 32 := upto_congr fun i hi => by
    rw [sameD, List.all_eq_true] at hD
    have := hD i (List.mem_range.2 hi)
    simp only [beq_iff_eq] at this
    unfold whW whT
    rw [this]
  have h4 : upto (reW m) 16 = upto (reW n) 16 := upto_congr fun i hi => by
    rw [sameR, List.all_eq_true] at hR
    have := (sv_rlT (hm.hr i) (hn.hr i)).1 (hR i (List.mem_range.2 hi))
    unfold reW reT
    rw [this]
  unfold memT wordsM numW endW timeT
  rw [hb, h1, h2, h3, h4, ht', hran, hfault]
theorem text_same {m n : Mm} (hm : m.Ok) (hn : n.Ok) : (memT m == memT n) = sameM m n := by
  cases h : sameM m n
  · rw [beq_eq_false_iff_ne]
    intro e
    rw [same_of_text hm hn e] at h
    cases h
  · rw [text_of_same hm hn h]; simp
end Go.Proofs.YtjacgamgjjpllaaGreatDoor

/- A bit of a memory put, as plain mathematics. Helper text: no statement is claimed here. -/
namespace Go.Proofs.YtjacgamgjjpllaaGreatDoor
open Go.ChangeShapes Go.WideShapes Go.ChangeAt Go.RowKit

/-- The memory with one bit of a word turned. -/
def Mm.turn (m : Mm) (k n : Int) (b : Bool) : Mm :=
  if k = 1 then { m with x := putN m.x (plc 1 n).toNat b } else
  if k = 2 then { m with y := putN m.y (plc 2 n).toNat b } else
  if k = 3 then { m with m := putN m.m (plc 3 n).toNat b } else
  if k = 4 then { m with s := putN m.s (plc 4 n).toNat b } else
  if k = 5 then { m with e := putN m.e (plc 5 n).toNat b } else
  m
/-- What MemPut answers: inputs stay. -/
def Mm.putB (m : Mm) (k n : Int) (b : Bool) : Mm := if k = 1 then m else m.turn k n b
theorem wrap_u32n (n : Nat) (h : n < 4294967296) : IntKind.u32.wrap (n : Int) = n := by rw [IntKind.wrap_u32]; omega
theorem wrap_u16n (n : Nat) (h : n < 65536) : IntKind.u16.wrap (n : Int) = n := by rw [IntKind.wrap_u16]; omega
theorem set_x (m : Mm) (q i : Nat) : (if i = 0 then Value.int .u32 (q : Int) else m.cell i) = ({ m with x := q } : Mm).cell i := by
  by_cases h : i < 5
  · have : i = 0 ∨ i = 1 ∨ i = 2 ∨ i = 3 ∨ i = 4 := by omega
    rcases this with rfl | rfl | rfl | rfl | rfl <;> rfl
  · rw [if_neg (by omega)]
    unfold Mm.cell
    rw [if_neg h, if_neg h]
    rfl
theorem set_y (m : Mm) (q i : Nat) : (if i = 1 then Value.int .u32 (q : Int) else m.cell i) = ({ m with y := q } : Mm).cell i := by
  by_cases h : i < 5
  · have : i = 0 ∨ i = 1 ∨ i = 2 ∨ i = 3 ∨ i = 4 := by omega
    rcases this with rfl | rfl | rfl | rfl | rfl <;> rfl
  · rw [if_neg (by omega)]
    unfold Mm.cell
    rw [if_neg h, if_neg h]
    rfl
theorem set_m (m : Mm) (q i : Nat) : (if i = 2 then Value.int .u64 (q : Int) else m.cell i) = ({ m with m := q } : Mm).cell i := by
  by_cases h : i < 5
  · have : i = 0 ∨ i = 1 ∨ i = 2 ∨ i = 3 ∨ i = 4 := by omega
    rcases this with rfl | rfl | rfl | rfl | rfl <;> rfl
  · rw [if_neg (by omega)]
    unfold Mm.cell
    rw [if_neg h, if_neg h]
    rfl
theorem set_s (m : Mm) (q i : Nat) : (if i = 3 then Value.int .u16 (q : Int) else m.cell i) = ({ m with s := q } : Mm).cell i := by
  by_cases h : i < 5
  · have : i = 0 ∨ i = 1 ∨ i = 2 ∨ i = 3 ∨ i = 4 := by omega
    rcases this with rfl | rfl | rfl | rfl | rfl <;> rfl
  · rw [if_neg (by omega)]
    unfold Mm.cell
    rw [if_neg h, if_neg h]
    rfl
theorem set_e (m : Mm) (q i : Nat) : (if i = 4 then Value.int .u32 (q : Int) else m.cell i) = ({ m with e := q } : Mm).cell i := by
  by_cases h : i < 5
  · have : i = 0 ∨ i = 1 ∨ i = 2 ∨ i = 3 ∨ i = 4 := by omega
    rcases this with rfl | rfl | rfl | rfl | rfl <;> rfl
  · rw [if_neg (by omega)]
    unfold Mm.cell
    rw [if_neg h, if_neg h]
    rfl
theorem turn_x (m : Mm) (n : Int) (b : Bool) : m.turn 1 n b = { m with x := putN m.x (plc 1 n).toNat b } := by
  unfold Mm.turn
  rfl
theorem turn_y (m : Mm) (n : Int) (b : Bool) : m.turn 2 n b = { m with y := putN m.y (plc 2 n).toNat b } := by
  unfold Mm.turn
  rfl
theorem turn_m (m : Mm) (n : Int) (b : Bool) : m.turn 3 n b = { m with m := putN m.m (plc 3 n).toNat b } := by
  unfold Mm.turn
  rfl
theorem turn_s (m : Mm) (n : Int) (b : Bool) : m.turn 4 n b = { m with s := putN m.s (plc 4 n).toNat b } := by
  unfold Mm.turn
  rfl
theorem turn_e (m : Mm) (n : Int) (b : Bool) : m.turn 5 n b = { m with e := putN m.e (plc 5 n).toNat b } := by
  unfold Mm.turn
  rfl
theorem turn_no (m : Mm) (k n : Int) (b : Bool) (h : k ≠ 1 ∧ k ≠ 2 ∧ k ≠ 3 ∧ k ≠ 4 ∧ k ≠ 5) : m.turn k n b = m := by
  unfold Mm.turn
  rw [if_neg h.1, if_neg h.2.1, if_neg h.2.2.1, if_neg h.2.2.2.1, if_neg h.2.2.2.2]
theorem turn_real (m : Mm) (k n : Int) (b : Bool) (i : Nat) : m.r i = (m.turn k n b).r i := by
  unfold Mm.turn
  repeat' split
  all_goals rfl
theorem putB_real (m : Mm) (k n : Int) (b : Bool) (i : Nat) : m.r i = (m.putB k n b).r i := by
  unfold Mm.putB
  split
  · rfl
  · exact turn_real m k n b i
theorem putB_none (m : Mm) (k n : Int) (b : Bool) (h : k < 2 ∨ 5 < k) : m.putB k n b = m := by
  unfold Mm.putB Mm.turn
  by_cases h1 : k = 1
  · rw [if_pos h1]
  · rw [if_neg h1, if_neg h1, if_neg (by omega), if_neg (by omega), if_neg (by omega), if_neg (by omega)]
theorem putB_ok {m : Mm} {k n : Int} {b : Bool} (h : m.Ok) : (m.putB k n b).Ok := by
  by_cases h2 : k < 2 ∨ 5 < k
  · rw [putB_none m k n b h2]; exact h
  have hb : ∀ i : Int, 0 ≤ plc i n ∧ (plc i n < sz4 i ∨ plc i n = 0) := fun i => plc_range i n
  have : k = 2 ∨ k = 3 ∨ k = 4 ∨ k = 5 := by omega
  rcases this with rfl | rfl | rfl | rfl
  · have q := hb 2
    rw [show sz4 2 = 32 from rfl] at q
    exact { h with hy := putN_lt (n := 32) b (by omega) h.hy }
  · have q := hb 3
    rw [show sz4 3 = 64 from rfl] at q
    exact { h with hm := putN_lt (n := 64) b (by omega) h.hm }
  · have q := hb 4
    rw [show sz4 4 = 16 from rfl] at q
    exact { h with hs := putN_lt (n := 16) b (by omega) h.hs }
  · have q := hb 5
    rw [show sz4 5 = 32 from rfl] at q
    exact { h with he := putN_lt (n := 32) b (by omega) h.he }
end Go.Proofs.YtjacgamgjjpllaaGreatDoor

/- The places of a memory, the words that say them, and what reading the words one behind the other makes. Helper text: no statement is claimed here. -/
namespace Go.Proofs.YtjacgamgjjpllaaGreatDoor
open Go.ChangeShapes Go.WideShapes Go.ChangeAt Go.RowKit Fl

/-- The words of a place: a kind of devices and a number, or one of the last three. -/
def Wq (m : Mm) (q : Nat × Nat) : List (List UInt8) :=
  if q.1 = 7 then tmW m q.2 else if q.1 = 8 then cnW m q.2 else if q.1 = 9 then whW m q.2 else if q.1 = 10 then reW m q.2 else
  if q.1 = 11 then (if 0 < m.time then [timeT m] else []) else if q.1 = 12 then (if m.ran = true then [ranT] else []) else if q.1 = 13 then (if m.fault = true then [faultT] else []) else bitW m (q.1 : Int) q.2
def bitPl (j : Nat) : List (Nat × Nat) := (List.range (bits5 j)).map fun i => (j + 1, i)
def placesM : List (Nat × Nat) := (List.range 5).flatMap bitPl ++ ((List.range 16).map (fun i => (7, i)) ++ (List.range 16).map (fun i => (8, i)) ++ (List.range 32).map (fun i => (9, i)) ++ (List.range 16).map (fun i => (10, i))) ++ [(11, 0), (12, 0), (13, 0)]
theorem flat_map {α β γ : Type} (f : α → β) (g : β → List γ) (l : List α) : (l.map f).flatMap g = l.flatMap fun a => g (f a) := by
  induction l with
  | nil => rfl
  | cons a l ih => rw [List.map_cons, List.flatMap_cons, List.flatMap_cons, ih]
theorem flat_flat {α β γ : Type} (f : α → List β) (g : β → List γ) (l : List α) : (l.flatMap f).flatMap g = l.flatMap fun a => (f a).flatMap g := by
  induction l with
  | nil => rfl
  | cons a l ih => rw [List.flatMap_cons, List.flatMap_append, List.flatMap_cons, ih]
theorem flat_congr {α γ : Type} {f g : α → List γ} : ∀ (l : List α), (∀ a ∈ l, f a = g a) → l.flatMap f = l.flatMap g
  | [], _ => rfl
  | a :: l, h => by rw [List.flatMap_cons, List.flatMap_cons, h a (by simp), flat_congr l (fun b hb => h b (by simp [hb]))]
theorem words_places (m : Mm) : wordsM m = placesM.flatMap (Wq m) := by
  have hb : bitsW m = ((List.range 5).flatMap bitPl).flatMap (Wq m) := by
    rw [flat_flat]
    refine flat_congr _ fun j hj => ?_
    have hj5 : j < 5 := List.mem_range.1 hj
    unfold bitPl
    rw [flat_map]
    refine flat_congr _ fun i _ => ?_
    unfold Wq
    rw [if_neg (by omega), if_neg (by omega), if_neg (by omega), if_neg (by omega), if_neg (by omega), if_neg (by omega), if_neg (by omega)]
    rfl
  unfold wordsM placesM numW endW
  rw [List.flatMap_append, List.flatMap_append, List.flatMap_append, List.flatMap_append, List.flatMap_append, ← hb, flat_map, flat_map, flat_map, flat_map, List.flatMap_cons, List.flatMap_cons, List.flatMap_cons, List.flatMap_nil, List.append_nil]
  have e : ∀ a b c : List (List UInt8), a ++ b ++ c = a ++ (b ++ c) := fun a b c => List.append_assoc a b c
  rw [e (if 0 < m.time then [timeT m] else [])]
  rfl
theorem places_nodup : placesM.Nodup := by decide +kernel
/-- What a word that says a place makes of a memory: that place, and no other. -/
def Says (m1 : Mm) (q : Nat × Nat) (t : List UInt8) (m2 : Mm) : Prop := Wq m2 q = [t] ∧ ∀ q', q' ∈ placesM → q' ≠ q → Wq m2 q' = Wq m1 q'
/-- A step of a reading: a word that some memory writes is put in its place; an empty word does nothing. -/
def StepW (m1 : Mm) (t : List UInt8) (m2 : Mm) : Prop := (∀ (m0 : Mm) (q : Nat × Nat), m0.Ok → q ∈ placesM → Wq m0 q = [t] → Says m1 q t m2) ∧ (t = [] → m2 = m1)
def FoldW : Mm → List (List UInt8) → Mm → Prop
  | m, [], m' => m' = m
  | m, t :: ts, m' => ∃ m1, StepW m t m1 ∧ FoldW m1 ts m'
theorem FoldW.snoc : ∀ {ts : List (List UInt8)} {m m1 m2 : Mm} {t : List UInt8}, FoldW m ts m1 → StepW m1 t m2 → FoldW m (ts ++ [t]) m2
  | [], m, m1, m2, t, h, hs => by
    cases h
    exact ⟨m2, hs, rfl⟩
  | u :: ts, m, m1, m2, t, h, hs => by
    obtain ⟨m3, h1, h2⟩ := h
    exact ⟨m3, h1, FoldW.snoc h2 hs⟩
theorem Wq_short (m : Mm) (q : Nat × Nat) : Wq m q = [] ∨ ∃ t, Wq m q = [t] := by
  unfold Wq tmW cnW whW reW bitW
  split
  · split
    · exact .inr ⟨_, rfl⟩
    · exact .inl rfl
  · split
    · split
      · exact .inr ⟨_, rfl⟩
      · exact .inl rfl
    · split
      · split
        · exact .inl rfl
        · exact .inr ⟨_, rfl⟩
      · split
        · split
          · exact .inl rfl
          · exact .inr ⟨_, rfl⟩
        · split
          · split
            · exact .inr ⟨_, rfl⟩
            · exact .inl rfl
          · split
            · split
              · exact .inr ⟨_, rfl⟩
              · exact .inl rfl
            · split
              · split
                · exact .inr ⟨_, rfl⟩
                · exact .inl rfl
              · split
                · exact .inr ⟨_, rfl⟩
                · exact .inl rfl
theorem fold_places {m : Mm} (hm : m.Ok) : ∀ (L : List (Nat × Nat)) (m0 m' : Mm), L.Nodup → (∀ q ∈ L, q ∈ placesM) → (∀ q ∈ L, Wq m0 q = []) → FoldW m0 (L.flatMap (Wq m)) m' →
    (∀ q ∈ L, Wq m' q = Wq m q) ∧ ∀ q, q ∈ placesM → q ∉ L → Wq m' q = Wq m0 q
  | [], m0, m', _, _, _, h => by
    cases h
    exact ⟨fun q hq => by simp at hq, fun _ _ _ => rfl⟩
  | q :: L, m0, m', hn, hp, hz, h => by
    rw [List.nodup_cons] at hn
    rw [List.flatMap_cons] at h
    rcases Wq_short m q with he | ⟨t, he⟩
    · rw [he, List.nil_append] at h
      obtain ⟨i1, i2⟩ := fold_places hm L m0 m' hn.2 (fun r hr => hp r (by simp [hr])) (fun r hr => hz r (by simp [hr])) h
      refine ⟨fun r hr => ?_, fun r hr hrn => i2 r hr (fun hl => hrn (by simp [hl]))⟩
      rcases List.mem_cons.1 hr with rfl | hr
      · rw [i2 r (hp r (by simp)) hn.1, hz r (by simp), he]
      · exact i1 r hr
    · rw [he] at h
      obtain ⟨m1, hs, h⟩ := h
      obtain ⟨s1, s2⟩ := hs.1 m q hm (hp q (by simp)) he
      obtain ⟨i1, i2⟩ := fold_places hm L m1 m' hn.2 (fun r hr => hp r (by simp [hr])) (fun r hr => by
        rw [s2 r (hp r (by simp [hr])) (fun e => hn.1 (e ▸ hr))]
        exact hz r (by simp [hr])) h
      refine ⟨fun r hr => ?_, fun r hr hrn => ?_⟩
      · rcases List.mem_cons.1 hr with rfl | hr
        · rw [i2 r (hp r (by simp)) hn.1, s1, he]
        · exact i1 r hr
      · rw [i2 r hr (fun hl => hrn (by simp [hl])), s2 r hr (fun e => hrn (by simp [e]))]
theorem zero_words (q : Nat × Nat) (hq : q ∈ placesM) : Wq zeroM q = [] := by
  have h : placesM.all (fun q => (Wq zeroM q).isEmpty) = true := by decide +kernel
  have := List.all_eq_true.1 h q hq
  simpa using this
/-- Whoever reads the words of a memory one behind the other, from nothing, comes to a memory of the same text. -/
theorem fold_text {m m' : Mm} (hm : m.Ok) (h : FoldW zeroM (wordsM m) m') : memT m' = memT m := by
  rw [words_places] at h
  obtain ⟨h1, -⟩ := fold_places hm placesM zeroM m' places_nodup (fun _ h => h) (fun q hq => zero_words q hq) h
  unfold memT
  rw [words_places, words_places, flat_congr placesM h1]
end Go.Proofs.YtjacgamgjjpllaaGreatDoor
