/- RealArg of the document. Helper text: no statement is claimed here. -/
import Derived.Test.YtmgjngihngddfaaGreatDoorP06
import Derived.Test.YtmgjngihngddfaaGreatDoorP03
import Derived.Deep.Cut
namespace Go.Proofs.YtmgjngihngddfaaGreatDoor
open Go.ChangeShapes Go.WideShapes Go.ChangeAt Go.RowKit Fl

/-! The document's own. -/
set_option maxHeartbeats 400000 in
theorem sarg_bad (k n p : Int) (w : World) (hok : okB k n p = false) : Calls Tryz.prog 52 #[.agg #[.int .i64 k, .int .i64 n, .int .i64 p]] w (ArgCame k n p w) := by
  have HO : Hid (okB k n p = false) := hok
  clear hok
  go_enter Tryz.func52, Tryz.ntmps52
  go_wp2_with fail
  refine (sOk_any _ _ _ _).mono ?_
  rintro e w1 ⟨rfl, hb⟩
  rw [HO.out]
  go_wp2
  go_ret
  exact ⟨0, rfl, ⟨by omega, .inr (.inr ⟨by rw [HO.out]; simp, rfl⟩)⟩, of_one hb⟩
set_option maxHeartbeats 400000 in
theorem sarg_13 (n p : Int) (w : World) (hok : okB 13 n p = true) : Calls Tryz.prog 52 #[.agg #[.int .i64 13, .int .i64 n, .int .i64 p]] w (ArgCame 13 n p w) := by
  have HO : Hid (okB 13 n p = true) := hok
  clear hok
  go_enter Tryz.func52, Tryz.ntmps52
  go_wp2_with fail
  refine (sOk_any _ _ _ _).mono ?_
  rintro e w1 ⟨rfl, hb⟩
  rw [HO.out]
  obtain ⟨c0, c1, c2⟩ := arg_at 13 n p w
  have hlt : w.heap.size < (w.alloc (argO 13 n p)).heap.size := by simp
  rw [← hb.cell (p := ⟨w.heap.size, 0, none⟩) hlt] at c0
  rw [← hb.cell (p := ⟨w.heap.size, 1, none⟩) hlt] at c1
  go_wp2_with fail
  refine (sword_any n _).mono ?_
  rintro e w2 ⟨r, rfl, hr, hb2⟩
  have HR : Hid (WordR n r) := hr
  clear hr
  go_wp2
  go_ret
  exact ⟨r, rfl, ⟨HR.out.1, .inr (.inl ⟨HO.out, rfl, HR.out⟩)⟩, of_two hb hb2⟩
set_option maxHeartbeats 400000 in
theorem sarg_no (k n p : Int) (w : World) (hok : okB k n p = true) (h1 : (k == 12) = false) (h2 : (k == 13) = false) (h1' : (k != 12) = true) : Calls Tryz.prog 52 #[.agg #[.int .i64 k, .int .i64 n, .int .i64 p]] w (ArgCame k n p w) := by
  have H : Hid (k ≠ 12 ∧ k ≠ 13) := ⟨by simpa using h1, by simpa using h2⟩
  have HO : Hid (okB k n p = true) := hok
  clear hok
  go_enter Tryz.func52, Tryz.ntmps52
  go_wp2_with fail
  refine (sOk_any _ _ _ _).mono ?_
  rintro e w1 ⟨rfl, hb⟩
  rw [HO.out]
  obtain ⟨c0, c1, c2⟩ := arg_at k n p w
  have hlt : w.heap.size < (w.alloc (argO k n p)).heap.size := by simp
  rw [← hb.cell (p := ⟨w.heap.size, 0, none⟩) hlt] at c0
  go_wp2
  go_ret
  exact ⟨0, rfl, ⟨by omega, .inr (.inr ⟨by have := H.out; omega, rfl⟩)⟩, of_one hb⟩
set_option maxHeartbeats 400000 in
theorem sarg_12 (n : Int) (p : Nat) (w : World) (hok : okB 12 n (p : Int) = true) : Calls Tryz.prog 52 #[.agg #[.int .i64 12, .int .i64 n, .int .i64 (p : Int)]] w (ArgCame 12 n (p : Int) w) := by
  obtain ⟨h0, h9, p1, p6⟩ := decOk_in hok
  have HO : Hid (okB 12 n (p : Int) = true) := hok
  clear hok
  go_enter Tryz.func52, Tryz.ntmps52
  go_wp2_with fail
  refine (sOk_any _ _ _ _).mono ?_
  rintro e w1 ⟨rfl, hb⟩
  rw [HO.out]
  obtain ⟨c0, c1, c2⟩ := arg_at 12 n (p : Int) w
  have hlt : w.heap.size < (w.alloc (argO 12 n (p : Int))).heap.size := by simp
  rw [← hb.cell (p := ⟨w.heap.size, 0, none⟩) hlt] at c0
  rw [← hb.cell (p := ⟨w.heap.size, 1, none⟩) hlt] at c1
  rw [← hb.cell (p := ⟨w.heap.size, 2, none⟩) hlt] at c2
  go_wp2
  go_loop [3, 4] (fun t c => ∃ k : Nat, k ≤ p ∧ t = .int .i64 ((10 ^ k : Nat) : Int) ∧ c = .int .i64 (k : Int)) (fun _ c => 10 - (intOf c).toNat)
  case atStart => exact ⟨0, by omega, rfl, rfl⟩
  case round =>
    obtain ⟨k, hk, rfl, rfl⟩ := hrel
    obtain ⟨t1, t2⟩ := ten_le (k := k) (by omega)
    by_cases hlt : k < p
    · have hlt' : (k : Int) < p := by omega
      have hs := ten_step k
      generalize hT : (10 ^ k : Nat) = T at *
      have HS : Hid ((T : Int) * 10 = _) := hs
      clear hs hT
      go_wp2
      refine ⟨⟨k + 1, by omega, ?_, by go_num⟩, by simp [intOf]; omega⟩
      rw [← HS.out]
    · have hlt' : ¬ (k : Int) < p := by omega
      have hkp : k = p := by omega
      obtain ⟨r, hr, hl, -⟩ := dec_some (p := p) h0 h9 (by omega)
      rw [← hkp] at hr
      have hrun := run_some hr
      have HR : Hid (floatBits .quo .f64 (floatOfInt .f64 n) (floatOfInt .f64 ((10 ^ p : Nat) : Int)) = some r) := by rw [← hkp]; exact hr
      clear hr
      generalize hT : (10 ^ k : Nat) = T at *
      go_wp2
      go_ret
      exact ⟨r, rfl, ⟨hl, .inl ⟨HO.out, rfl, HR.out⟩⟩, of_one hb⟩
theorem sarg_any (k n p : Int) (w : World) : Calls Tryz.prog 52 #[.agg #[.int .i64 k, .int .i64 n, .int .i64 p]] w (ArgCame k n p w) := by
  cases hok : okB k n p
  · exact sarg_bad k n p w hok
  by_cases h1 : k = 12
  · subst h1
    have := decOk_in hok
    obtain ⟨q, rfl⟩ := Int.eq_ofNat_of_zero_le (show 0 ≤ p by omega)
    exact sarg_12 n q w hok
  by_cases h2 : k = 13
  · subst h2; exact sarg_13 n p w hok
  · exact sarg_no k n p w hok (by simpa using h1) (by simpa using h2) (by simpa using h1)
end Go.Proofs.YtmgjngihngddfaaGreatDoor

/- MemReal of the program. Helper text: no statement is claimed here. -/
namespace Go.Proofs.YtmgjngihngddfaaGreatDoor
open Go.ChangeShapes Go.WideShapes Go.ChangeAt Go.RowKit Fl

/-- The real number that an operand asks for. -/
def Mm.RealR (m : Mm) (k n p : Int) (r : Nat) : Prop := r < 2 ^ 64 ∧ (if k = 10 then r = m.r (plc 10 n).toNat else ArgR k n p r)
theorem Mm.RealR.lt {m : Mm} {k n p : Int} {r : Nat} (h : m.RealR k n p r) : r < 2 ^ 64 := h.1
theorem Mm.RealR.one {m : Mm} {k n p : Int} {r r' : Nat} (h : m.RealR k n p r) (h' : m.RealR k n p r') : SameV r r' := by
  have a := h.2
  have b := h'.2
  by_cases hk : k = 10
  · rw [if_pos hk] at a b
    exact .inl (a.trans b.symm)
  · rw [if_neg hk] at a b
    exact a.one b

set_option maxHeartbeats 1000000 in
set_option maxRecDepth 10000 in
theorem ireal_10 (m : Mm) (hok : m.Ok) (n p : Int) (w : World) (hT : DevTab w) :
    Calls Tryz.prog 89 #[m.val, .agg #[.int .i64 10, .int .i64 n, .int .i64 p]] w fun e w' => ∃ u, e = .returned u ∧ (∃ r, u = Value.float .f64 r ∧ m.RealR 10 n p r) ∧ Below w.heap.size w w' := by
  have HT : Hid (DevTab w) := hT
  clear hT
  obtain ⟨j, hj⟩ := Int.eq_ofNat_of_zero_le (plc_range 10 n).1
  have hlt : j < 16 := by
    have := (plc_range 10 n).2
    rw [hj, show sz4 10 = 16 from rfl] at this
    omega
  have hlt' : (j : Int) < 16 := by omega
  have HE : Hid (m.RealR 10 n p (m.r j)) := ⟨hok.hr j, by rw [if_pos rfl, hj]; rfl⟩
  clear hok
  unfold Mm.val
  go_enter Tryz.func89, Tryz.ntmps89
  go_upto_region 1 with fail
  have HB : Hid (Below w.heap.size w ((w.alloc (.cells m.cells 37)).alloc (.cells #[.int .i64 10, .int .i64 n, .int .i64 p] 48))) := ((Below.refl _ _).alloc (Nat.le_refl _) _).alloc (by simp) _
  have HI : Hid (MemAt ((w.alloc (.cells m.cells 37)).alloc (.cells #[.int .i64 10, .int .i64 n, .int .i64 p] 48)) w.heap.size m) := (RowAt.new w 37 136 m.cell).alloc _
  have a0 : World.cell? ((w.alloc (.cells m.cells 37)).alloc (.cells #[.int .i64 10, .int .i64 n, .int .i64 p] 48)) ⟨w.heap.size + 1, 0, none⟩ = some (.int .i64 10) := by simp [go_sem]
  have a1 : World.cell? ((w.alloc (.cells m.cells 37)).alloc (.cells #[.int .i64 10, .int .i64 n, .int .i64 p] 48)) ⟨w.heap.size + 1, 1, none⟩ = some (.int .i64 n) := by simp [go_sem]
  have a2 : World.cell? ((w.alloc (.cells m.cells 37)).alloc (.cells #[.int .i64 10, .int .i64 n, .int .i64 p] 48)) ⟨w.heap.size + 1, 2, none⟩ = some (.int .i64 p) := by simp [go_sem]
  generalize ((w.alloc (.cells m.cells 37)).alloc (.cells #[.int .i64 10, .int .i64 n, .int .i64 p] 48)) = V at *
  go_wp2_with fail
  refine (place_any 10 n p _ (HT.out.to HB.out)).mono ?_
  rw [hj]
  rintro e w1 ⟨rfl, hb1⟩
  have HB1 : Hid (Below w.heap.size w w1) := HB.out.trans (hb1.mono HB.out.size)
  have HI1 : Hid (MemAt w1 w.heap.size m) := HI.out.to hb1
  have b0 : w1.cell? ⟨w.heap.size + 1, 0, none⟩ = some (.int .i64 10) := (hb1.cell (p := ⟨w.heap.size + 1, 0, none⟩) (World.block_lt_of_cell? V _ a0)).trans a0
  clear hb1 HB HI a0 a1 a2
  have c0 : w1.cell? ⟨w.heap.size, 117 + j, none⟩ = some (.float .f64 (m.r j)) := (cell_of_row _ _ _ _ _ _ HI1.out).trans (m.at_r hlt)
  go_wp2
  go_ret
  exact ⟨_, rfl, ⟨_, rfl, HE.out⟩, HB1.out⟩

set_option maxHeartbeats 1000000 in
set_option maxRecDepth 10000 in
theorem ireal_no (m : Mm) (_hok : m.Ok) (k : Int) (n p : Int) (w : World) (hT : DevTab w) (hk : k ≠ 10) :
    Calls Tryz.prog 89 #[m.val, .agg #[.int .i64 k, .int .i64 n, .int .i64 p]] w fun e w' => ∃ u, e = .returned u ∧ (∃ r, u = Value.float .f64 r ∧ m.RealR k n p r) ∧ Below w.heap.size w w' := by
  have HT : Hid (DevTab w) := hT
  clear hT
  have k10 : (k == 10) = false := by simpa using hk
  have HE : Hid (∀ r, ArgR k n p r → m.RealR k n p r) := fun r h => ⟨h.1, by rw [if_neg hk]; exact h⟩
  clear _hok hk
  unfold Mm.val
  go_enter Tryz.func89, Tryz.ntmps89
  go_upto_region 1 with fail
  have HB : Hid (Below w.heap.size w ((w.alloc (.cells m.cells 37)).alloc (.cells #[.int .i64 k, .int .i64 n, .int .i64 p] 48))) := ((Below.refl _ _).alloc (Nat.le_refl _) _).alloc (by simp) _
  have HI : Hid (MemAt ((w.alloc (.cells m.cells 37)).alloc (.cells #[.int .i64 k, .int .i64 n, .int .i64 p] 48)) w.heap.size m) := (RowAt.new w 37 136 m.cell).alloc _
  have a0 : World.cell? ((w.alloc (.cells m.cells 37)).alloc (.cells #[.int .i64 k, .int .i64 n, .int .i64 p] 48)) ⟨w.heap.size + 1, 0, none⟩ = some (.int .i64 k) := by simp [go_sem]
  have a1 : World.cell? ((w.alloc (.cells m.cells 37)).alloc (.cells #[.int .i64 k, .int .i64 n, .int .i64 p] 48)) ⟨w.heap.size + 1, 1, none⟩ = some (.int .i64 n) := by simp [go_sem]
  have a2 : World.cell? ((w.alloc (.cells m.cells 37)).alloc (.cells #[.int .i64 k, .int .i64 n, .int .i64 p] 48)) ⟨w.heap.size + 1, 2, none⟩ = some (.int .i64 p) := by simp [go_sem]
  generalize ((w.alloc (.cells m.cells 37)).alloc (.cells #[.int .i64 k, .int .i64 n, .int .i64 p] 48)) = V at *
  go_wp2_with fail
  refine (iarg_any k n p _ (HT.out.to HB.out)).mono ?_
  rintro e w1 ⟨r, rfl, hr, hb1⟩
  have HB1 : Hid (Below w.heap.size w w1) := HB.out.trans (hb1.mono HB.out.size)
  have HR1 : Hid (m.RealR k n p r) := HE.out r hr
  clear hb1 hr HB HI a0 a1 a2 HE
  go_wp2
  go_ret
  exact ⟨_, rfl, ⟨_, rfl, HR1.out⟩, HB1.out⟩
theorem ireal_any (m : Mm) (hok : m.Ok) (k n p : Int) (w : World) (hT : DevTab w) :
    Calls Tryz.prog 89 #[m.val, .agg #[.int .i64 k, .int .i64 n, .int .i64 p]] w fun e w' => ∃ u, e = .returned u ∧ (∃ r, u = Value.float .f64 r ∧ m.RealR k n p r) ∧ Below w.heap.size w w' := by
  by_cases h : k = 10
  · subst h
    exact ireal_10 m hok n p w hT
  · exact ireal_no m hok k n p w hT h
end Go.Proofs.YtmgjngihngddfaaGreatDoor

/- MemReal of the document. Helper text: no statement is claimed here. -/
namespace Go.Proofs.YtmgjngihngddfaaGreatDoor
open Go.ChangeShapes Go.WideShapes Go.ChangeAt Go.RowKit Fl

set_option maxHeartbeats 1000000 in
set_option maxRecDepth 10000 in
theorem sreal_10 (m : Mm) (hok : m.Ok) (n p : Int) (w : World) :
    Calls Tryz.prog 23 #[m.val, .agg #[.int .i64 10, .int .i64 n, .int .i64 p]] w fun e w' => ∃ u, e = .returned u ∧ (∃ r, u = Value.float .f64 r ∧ m.RealR 10 n p r) ∧ Below w.heap.size w w' := by
  obtain ⟨j, hj⟩ := Int.eq_ofNat_of_zero_le (plc_range 10 n).1
  have hlt : j < 16 := by
    have := (plc_range 10 n).2
    rw [hj, show sz4 10 = 16 from rfl] at this
    omega
  have hlt' : (j : Int) < 16 := by omega
  have HE : Hid (m.RealR 10 n p (m.r j)) := ⟨hok.hr j, by rw [if_pos rfl, hj]; rfl⟩
  clear hok
  unfold Mm.val
  go_enter Tryz.func23, Tryz.ntmps23
  go_upto_region 1 with fail
  have HB : Hid (Below w.heap.size w ((w.alloc (.cells m.cells 37)).alloc (.cells #[.int .i64 10, .int .i64 n, .int .i64 p] 48))) := ((Below.refl _ _).alloc (Nat.le_refl _) _).alloc (by simp) _
  have HI : Hid (MemAt ((w.alloc (.cells m.cells 37)).alloc (.cells #[.int .i64 10, .int .i64 n, .int .i64 p] 48)) w.heap.size m) := (RowAt.new w 37 136 m.cell).alloc _
  have a0 : World.cell? ((w.alloc (.cells m.cells 37)).alloc (.cells #[.int .i64 10, .int .i64 n, .int .i64 p] 48)) ⟨w.heap.size + 1, 0, none⟩ = some (.int .i64 10) := by simp [go_sem]
  have a1 : World.cell? ((w.alloc (.cells m.cells 37)).alloc (.cells #[.int .i64 10, .int .i64 n, .int .i64 p] 48)) ⟨w.heap.size + 1, 1, none⟩ = some (.int .i64 n) := by simp [go_sem]
  have a2 : World.cell? ((w.alloc (.cells m.cells 37)).alloc (.cells #[.int .i64 10, .int .i64 n, .int .i64 p] 48)) ⟨w.heap.size + 1, 2, none⟩ = some (.int .i64 p) := by simp [go_sem]
  generalize ((w.alloc (.cells m.cells 37)).alloc (.cells #[.int .i64 10, .int .i64 n, .int .i64 p] 48)) = V at *
  go_wp2_with fail
  refine (at_any 10 n p _).mono ?_
  rw [hj]
  rintro e w1 ⟨rfl, hb1⟩
  have HB1 : Hid (Below w.heap.size w w1) := HB.out.trans (hb1.mono HB.out.size)
  have HI1 : Hid (MemAt w1 w.heap.size m) := HI.out.to hb1
  have b0 : w1.cell? ⟨w.heap.size + 1, 0, none⟩ = some (.int .i64 10) := (hb1.cell (p := ⟨w.heap.size + 1, 0, none⟩) (World.block_lt_of_cell? V _ a0)).trans a0
  clear hb1 HB HI a0 a1 a2
  have c0 : w1.cell? ⟨w.heap.size, 117 + j, none⟩ = some (.float .f64 (m.r j)) := (cell_of_row _ _ _ _ _ _ HI1.out).trans (m.at_r hlt)
  go_wp2
  go_ret
  exact ⟨_, rfl, ⟨_, rfl, HE.out⟩, HB1.out⟩

set_option maxHeartbeats 1000000 in
set_option maxRecDepth 10000 in
theorem sreal_no (m : Mm) (_hok : m.Ok) (k : Int) (n p : Int) (w : World) (hk : k ≠ 10) :
    Calls Tryz.prog 23 #[m.val, .agg #[.int .i64 k, .int .i64 n, .int .i64 p]] w fun e w' => ∃ u, e = .returned u ∧ (∃ r, u = Value.float .f64 r ∧ m.RealR k n p r) ∧ Below w.heap.size w w' := by
  have k10 : (k == 10) = false := by simpa using hk
  have HE : Hid (∀ r, ArgR k n p r → m.RealR k n p r) := fun r h => ⟨h.1, by rw [if_neg hk]; exact h⟩
  clear _hok hk
  unfold Mm.val
  go_enter Tryz.func23, Tryz.ntmps23
  go_upto_region 1 with fail
  have HB : Hid (Below w.heap.size w ((w.alloc (.cells m.cells 37)).alloc (.cells #[.int .i64 k, .int .i64 n, .int .i64 p] 48))) := ((Below.refl _ _).alloc (Nat.le_refl _) _).alloc (by simp) _
  have HI : Hid (MemAt ((w.alloc (.cells m.cells 37)).alloc (.cells #[.int .i64 k, .int .i64 n, .int .i64 p] 48)) w.heap.size m) := (RowAt.new w 37 136 m.cell).alloc _
  have a0 : World.cell? ((w.alloc (.cells m.cells 37)).alloc (.cells #[.int .i64 k, .int .i64 n, .int .i64 p] 48)) ⟨w.heap.size + 1, 0, none⟩ = some (.int .i64 k) := by simp [go_sem]
  have a1 : World.cell? ((w.alloc (.cells m.cells 37)).alloc (.cells #[.int .i64 k, .int .i64 n, .int .i64 p] 48)) ⟨w.heap.size + 1, 1, none⟩ = some (.int .i64 n) := by simp [go_sem]
  have a2 : World.cell? ((w.alloc (.cells m.cells 37)).alloc (.cells #[.int .i64 k, .int .i64 n, .int .i64 p] 48)) ⟨w.heap.size + 1, 2, none⟩ = some (.int .i64 p) := by simp [go_sem]
  generalize ((w.alloc (.cells m.cells 37)).alloc (.cells #[.int .i64 k, .int .i64 n, .int .i64 p] 48)) = V at *
  go_wp2_with fail
  refine (sarg_any k n p _).mono ?_
  rintro e w1 ⟨r, rfl, hr, hb1⟩
  have HB1 : Hid (Below w.heap.size w w1) := HB.out.trans (hb1.mono HB.out.size)
  have HR1 : Hid (m.RealR k n p r) := HE.out r hr
  clear hb1 hr HB HI a0 a1 a2 HE
  go_wp2
  go_ret
  exact ⟨_, rfl, ⟨_, rfl, HR1.out⟩, HB1.out⟩
theorem sreal_any (m : Mm) (hok : m.Ok) (k n p : Int) (w : World) :
    Calls Tryz.prog 23 #[m.val, .agg #[.int .i64 k, .int .i64 n, .int .i64 p]] w fun e w' => ∃ u, e = .returned u ∧ (∃ r, u = Value.float .f64 r ∧ m.RealR k n p r) ∧ Below w.heap.size w w' := by
  by_cases h : k = 10
  · subst h
    exact sreal_10 m hok n p w
  · exact sreal_no m hok k n p w h
end Go.Proofs.YtmgjngihngddfaaGreatDoor

/- A word with one bit put, the program's. Helper text: no statement is claimed here. -/
namespace Go.Proofs.YtmgjngihngddfaaGreatDoor
open Go.ChangeShapes Go.WideShapes Go.ChangeAt Go.RowKit

set_option maxHeartbeats 400000 in
theorem turn_any (W k : Nat) (b : Bool) (w : World) (hW : W < 18446744073709551616) (hk : k < 64) :
    Calls Tryz.prog 58 #[.agg #[.int .i64 k, .bool b], .int .u64 W] w fun e w' => e = .returned (.int .u64 (putN W k b : Nat)) ∧ Below w.heap.size w w' := by
  obtain ⟨P, hP⟩ : ∃ P : Nat, P = 2 ^ k := ⟨_, rfl⟩
  have hPl : P < 18446744073709551616 := by rw [hP]; exact pow_lt64 hk
  have hs : IntKind.u64.wrap (2 ^ k) = (P : Int) := by rw [show (2 : Int) ^ k = ((P : Nat) : Int) by rw [hP, Int.natCast_pow]; rfl, wrap_u64n P hPl]
  have ho : bits .or .u64 (W : Int) (P : Int) = ((putN W k true : Nat) : Int) := by rw [u64_or_nat W P hW hPl, hP, putN_true]
  have ha : bits .andNot .u64 (W : Int) (P : Int) = ((putN W k false : Nat) : Int) := by rw [u64_andNot_nat W P hW hPl, hP, putN_false W k hk hW]
  clear hP hPl
  cases b
  · generalize putN W k false = q0 at *
    go_enter Tryz.func58, Tryz.ntmps58
    go_wp2
    go_ret
    exact ⟨rfl, (Below.refl _ _).alloc (Nat.le_refl _) _⟩
  · generalize putN W k true = q1 at *
    go_enter Tryz.func58, Tryz.ntmps58
    go_wp2
    go_ret
    exact ⟨rfl, (Below.refl _ _).alloc (Nat.le_refl _) _⟩
end Go.Proofs.YtmgjngihngddfaaGreatDoor
