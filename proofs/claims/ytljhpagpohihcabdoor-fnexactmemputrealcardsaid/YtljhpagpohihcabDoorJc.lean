/- Copying a memory in the exact laws: timers, counters and registers. Helper text: no statement is claimed here. -/
import Derived.Test.YtljhpagpohihcabDoorJb
namespace Go.Proofs.YtljhpagpohihcabDoor
open Go.ChangeShapes Go.WideShapes Go.ChangeAt Go.RowKit

theorem store_float (P : Program) (w : World) (a : Addr) (k : FloatKind) (x : Nat) (m : Mode) : (store a (.float k x) m).run P w = stored P w a (.float k x) m := run_store P w a _ m rfl
attribute [local go_sem] store_float
theorem toTimer_any (d : Bool) (c : Int) (w : World) :
    Calls Tryd.prog 28 #[.agg #[.bool d, .int .u16 c]] w fun e w' => e = .returned (.agg #[.bool d, .int .u16 c]) ∧ Below w.heap.size w w' := by
  go_enter Tryd.func28, Tryd.ntmps28
  go_wp2
  exact bodyPost_ret (v := .agg #[.bool d, .int .u16 c]) (by simp [results, Tryd.results28, go_sem]) rfl ⟨rfl, (((Below.refl _ _).alloc (Nat.le_refl _) _).alloc (by simp) _).alloc (by simp; omega) _⟩
theorem toCounter_any (d l : Bool) (c : Int) (w : World) :
    Calls Tryd.prog 29 #[.agg #[.bool d, .bool l, .int .u16 c]] w fun e w' => e = .returned (.agg #[.bool d, .bool l, .int .u16 c]) ∧ Below w.heap.size w w' := by
  go_enter Tryd.func29, Tryd.ntmps29
  go_wp2
  exact bodyPost_ret (v := .agg #[.bool d, .bool l, .int .u16 c]) (by simp [results, Tryd.results29, go_sem]) rfl ⟨rfl, (((Below.refl _ _).alloc (Nat.le_refl _) _).alloc (by simp) _).alloc (by simp; omega) _⟩

set_option maxHeartbeats 400000 in
theorem toT_any (m : Mm) (w : World) :
    Calls Tryd.prog 15 #[.agg m.tArr] w fun e w' => e = .returned (.agg m.tArr) ∧ Below w.heap.size w w' := by
  have hz : ∀ w, (zeroValue 41).run Tryd.prog w = .ok (.agg zeroM.tArr) w := fun _ => by kernel_rfl
  go_enter Tryd.func15, Tryd.ntmps15
  go_wp2
  have HB0 : Hid (Below w.heap.size w (((w.alloc (.cells m.tArr 27)).alloc (.cells zeroM.tArr 41)).alloc (.cells zeroM.tArr 41))) := (((Below.refl _ _).alloc (Nat.le_refl _) _).alloc (by simp) _).alloc (by simp; omega) _
  have HI0 : Hid (RowAt (((w.alloc (.cells m.tArr 27)).alloc (.cells zeroM.tArr 41)).alloc (.cells zeroM.tArr 41)) w.heap.size 27 32 m.tcell) := ((RowAt.new w _ 32 m.tcell).alloc _).alloc _
  have HR0 : Hid (RowAt (((w.alloc (.cells m.tArr 27)).alloc (.cells zeroM.tArr 41)).alloc (.cells zeroM.tArr 41)) (w.heap.size + 1) 41 32 zeroM.tcell) := by
    have := (RowAt.new (w.alloc (.cells m.tArr 27)) 41 32 zeroM.tcell).alloc (.cells zeroM.tArr 41)
    rw [show (w.alloc (.cells m.tArr 27)).heap.size = w.heap.size + 1 by simp] at this
    exact this
  have HO0 : Hid (RowAt (((w.alloc (.cells m.tArr 27)).alloc (.cells zeroM.tArr 41)).alloc (.cells zeroM.tArr 41)) (w.heap.size + 1 + 1) 41 32 zeroM.tcell) := by
    have := RowAt.new ((w.alloc (.cells m.tArr 27)).alloc (.cells zeroM.tArr 41)) 41 32 zeroM.tcell
    rw [show ((w.alloc (.cells m.tArr 27)).alloc (.cells zeroM.tArr 41)).heap.size = w.heap.size + 1 + 1 by simp] at this
    exact this
  generalize (((w.alloc (.cells m.tArr 27)).alloc (.cells zeroM.tArr 41)).alloc (.cells zeroM.tArr 41)) = V at *
  clear hz
  go_loopw [4] (fun c w' => ∃ j : Nat, j ≤ 16 ∧ c = .int .i64 (j : Int) ∧ Hid (Below w.heap.size w w') ∧ Hid (RowAt w' w.heap.size 27 32 m.tcell) ∧ Hid (∃ f, RowAt w' (w.heap.size + 1) 41 32 f) ∧ Hid (∃ f, RowAt w' (w.heap.size + 1 + 1) 41 32 f ∧ ∀ i, i < j * 2 → f i = m.tcell i)) (fun c _ => 16 - (intOf c).toNat)
  case atStart => exact ⟨0, by omega, rfl, HB0, HI0, ⟨_, HR0.out⟩, ⟨_, HO0.out, fun i hi => by omega⟩⟩
  case round =>
    obtain ⟨j, hj, rfl, HBr, HIr, HRr, HOr⟩ := hrel
    rename_i wr
    clear HB0 HI0 HR0 HO0
    by_cases hlt : j < 16
    · have hlt' : (j : Int) < 16 := by omega
      have c0 := HIr.out.cell (i := j * 2) (by omega)
      rw [Mm.tcell_d] at c0
      have c1 := HIr.out.cell (i := j * 2 + 1) (by omega)
      rw [Mm.tcell_c] at c1
      go_wp2_with fail
      refine (toTimer_any _ _ _).mono ?_
      rintro e w1 ⟨rfl, hb1⟩
      have HB1 : Hid (Below w.heap.size w w1) := HBr.out.trans (hb1.mono HBr.out.size)
      have HI1 : Hid (RowAt w1 w.heap.size 27 32 m.tcell) := HIr.out.to hb1
      have HR1 : Hid (∃ f, RowAt w1 (w.heap.size + 1) 41 32 f) := by obtain ⟨f, h⟩ := HRr.out; exact ⟨f, h.to hb1⟩
      obtain ⟨f, hf0, hfm⟩ := HOr.out
      have HO1 : Hid (RowAt w1 (w.heap.size + 1 + 1) 41 32 f) := hf0.to hb1
      have HM : Hid (∀ i, i < j * 2 → f i = m.tcell i) := hfm
      have d0 := HO1.out.cell (i := j * 2) (by omega)
      have f0 := HO1.out.frozen (j * 2)
      have d1 := HO1.out.cell (i := j * 2 + 1) (by omega)
      have f1 := HO1.out.frozen (j * 2 + 1)
      clear hb1 hf0 hfm c0 c1 HBr HIr HRr HOr
      go_wp2
      refine ⟨⟨j + 1, by omega, by go_num, ?_, ?_, ?_, ?_⟩, by simp [intOf]; omega⟩
      · exact ((HB1.out.setCell (p := ⟨_, _, none⟩) (by show w.heap.size ≤ w.heap.size + 1 + 1; omega) _).setCell (p := ⟨_, _, none⟩) (by show w.heap.size ≤ w.heap.size + 1 + 1; omega) _)
      · exact ((HI1.out.other _ (by omega)).other _ (by omega))
      · obtain ⟨g, h⟩ := HR1.out
        exact ⟨g, ((h.other _ (by omega)).other _ (by omega))⟩
      · refine ⟨_, ((HO1.out.set _ _).set _ _), fun i hi => ?_⟩
        by_cases h1 : i = j * 2 + 1
        · subst h1; rw [if_pos rfl, Mm.tcell_c]
        · rw [if_neg h1]
          by_cases h0 : i = j * 2
          · subst h0; rw [if_pos rfl, Mm.tcell_d]
          · rw [if_neg h0]
            exact HM.out i (by omega)
    · obtain rfl : j = 16 := by omega
      obtain ⟨f, hf, hfm⟩ := HOr.out
      obtain ⟨g, hg⟩ := HRr.out
      have HF : Hid (RowAt wr (w.heap.size + 1 + 1) 41 32 f) := hf
      have HM : Hid (∀ i, i < 32 → f (0 + i) = m.tcell i) := fun i hi => by rw [Nat.zero_add]; exact hfm i (by omega)
      have HG : Hid (RowAt wr (w.heap.size + 1) 41 32 g) := hg
      clear hf hfm hg HIr HRr HOr
      go_wp2_with (first
        | refine wpList_rowLoad rfl 41 (.tmp 3) rfl _ 0 32 m.tcell rfl HF.out (by omega) HM.out Tryd.underlying41 rfl (by kernel_rfl) ?_
        | (refine wpList_rowStore rfl 41 (.tmp 2) (.tmp 15) rfl _ 0 32 m.tcell m.tcell rfl rfl HG.out (by omega) (fun i _ => tcell_one m i) (fun i hi => by rw [if_pos ⟨by omega, by omega⟩, Nat.sub_zero]) (by kernel_rfl) ?_; intro w2 HR2 hz2 hk2 hb2))
      exact bodyPost_ret (v := .agg m.tArr) (resRow Tryd.results15 rfl HR2 Tryd.underlying41 rfl (by kernel_rfl)) rfl ⟨rfl, hb2 _ _ HBr.out (by omega)⟩

set_option maxHeartbeats 400000 in
theorem toC_any (m : Mm) (w : World) :
    Calls Tryd.prog 16 #[.agg m.cArr] w fun e w' => e = .returned (.agg m.cArr) ∧ Below w.heap.size w w' := by
  have hz : ∀ w, (zeroValue 43).run Tryd.prog w = .ok (.agg zeroM.cArr) w := fun _ => by kernel_rfl
  go_enter Tryd.func16, Tryd.ntmps16
  go_wp2
  have HB0 : Hid (Below w.heap.size w (((w.alloc (.cells m.cArr 30)).alloc (.cells zeroM.cArr 43)).alloc (.cells zeroM.cArr 43))) := (((Below.refl _ _).alloc (Nat.le_refl _) _).alloc (by simp) _).alloc (by simp; omega) _
  have HI0 : Hid (RowAt (((w.alloc (.cells m.cArr 30)).alloc (.cells zeroM.cArr 43)).alloc (.cells zeroM.cArr 43)) w.heap.size 30 48 m.ccell) := ((RowAt.new w _ 48 m.ccell).alloc _).alloc _
  have HR0 : Hid (RowAt (((w.alloc (.cells m.cArr 30)).alloc (.cells zeroM.cArr 43)).alloc (.cells zeroM.cArr 43)) (w.heap.size + 1) 43 48 zeroM.ccell) := by
    have := (RowAt.new (w.alloc (.cells m.cArr 30)) 43 48 zeroM.ccell).alloc (.cells zeroM.cArr 43)
    rw [show (w.alloc (.cells m.cArr 30)).heap.size = w.heap.size + 1 by simp] at this
    exact this
  have HO0 : Hid (RowAt (((w.alloc (.cells m.cArr 30)).alloc (.cells zeroM.cArr 43)).alloc (.cells zeroM.cArr 43)) (w.heap.size + 1 + 1) 43 48 zeroM.ccell) := by
    have := RowAt.new ((w.alloc (.cells m.cArr 30)).alloc (.cells zeroM.cArr 43)) 43 48 zeroM.ccell
    rw [show ((w.alloc (.cells m.cArr 30)).alloc (.cells zeroM.cArr 43)).heap.size = w.heap.size + 1 + 1 by simp] at this
    exact this
  generalize (((w.alloc (.cells m.cArr 30)).alloc (.cells zeroM.cArr 43)).alloc (.cells zeroM.cArr 43)) = V at *
  clear hz
  go_loopw [4] (fun c w' => ∃ j : Nat, j ≤ 16 ∧ c = .int .i64 (j : Int) ∧ Hid (Below w.heap.size w w') ∧ Hid (RowAt w' w.heap.size 30 48 m.ccell) ∧ Hid (∃ f, RowAt w' (w.heap.size + 1) 43 48 f) ∧ Hid (∃ f, RowAt w' (w.heap.size + 1 + 1) 43 48 f ∧ ∀ i, i < j * 3 → f i = m.ccell i)) (fun c _ => 16 - (intOf c).toNat)
  case atStart => exact ⟨0, by omega, rfl, HB0, HI0, ⟨_, HR0.out⟩, ⟨_, HO0.out, fun i hi => by omega⟩⟩
  case round =>
    obtain ⟨j, hj, rfl, HBr, HIr, HRr, HOr⟩ := hrel
    rename_i wr
    clear HB0 HI0 HR0 HO0
    by_cases hlt : j < 16
    · have hlt' : (j : Int) < 16 := by omega
      have c0 := HIr.out.cell (i := j * 3) (by omega)
      rw [Mm.ccell_d] at c0
      have c1 := HIr.out.cell (i := j * 3 + 1) (by omega)
      rw [Mm.ccell_l] at c1
      have c2 := HIr.out.cell (i := j * 3 + 2) (by omega)
      rw [Mm.ccell_c] at c2
      go_wp2_with fail
      refine (toCounter_any _ _ _ _).mono ?_
      rintro e w1 ⟨rfl, hb1⟩
      have HB1 : Hid (Below w.heap.size w w1) := HBr.out.trans (hb1.mono HBr.out.size)
      have HI1 : Hid (RowAt w1 w.heap.size 30 48 m.ccell) := HIr.out.to hb1
      have HR1 : Hid (∃ f, RowAt w1 (w.heap.size + 1) 43 48 f) := by obtain ⟨f, h⟩ := HRr.out; exact ⟨f, h.to hb1⟩
      obtain ⟨f, hf0, hfm⟩ := HOr.out
      have HO1 : Hid (RowAt w1 (w.heap.size + 1 + 1) 43 48 f) := hf0.to hb1
      have HM : Hid (∀ i, i < j * 3 → f i = m.ccell i) := hfm
      have d0 := HO1.out.cell (i := j * 3) (by omega)
      have f0 := HO1.out.frozen (j * 3)
      have d1 := HO1.out.cell (i := j * 3 + 1) (by omega)
      have f1 := HO1.out.frozen (j * 3 + 1)
      have d2 := HO1.out.cell (i := j * 3 + 2) (by omega)
      have f2 := HO1.out.frozen (j * 3 + 2)
      clear hb1 hf0 hfm c0 c1 c2 HBr HIr HRr HOr
      go_wp2
      refine ⟨⟨j + 1, by omega, by go_num, ?_, ?_, ?_, ?_⟩, by simp [intOf]; omega⟩
      · exact (((HB1.out.setCell (p := ⟨_, _, none⟩) (by show w.heap.size ≤ w.heap.size + 1 + 1; omega) _).setCell (p := ⟨_, _, none⟩) (by show w.heap.size ≤ w.heap.size + 1 + 1; omega) _).setCell (p := ⟨_, _, none⟩) (by show w.heap.size ≤ w.heap.size + 1 + 1; omega) _)
      · exact (((HI1.out.other _ (by omega)).other _ (by omega)).other _ (by omega))
      · obtain ⟨g, h⟩ := HR1.out
        exact ⟨g, (((h.other _ (by omega)).other _ (by omega)).other _ (by omega))⟩
      · refine ⟨_, (((HO1.out.set _ _).set _ _).set _ _), fun i hi => ?_⟩
        by_cases h2 : i = j * 3 + 2
        · subst h2; rw [if_pos rfl, Mm.ccell_c]
        · rw [if_neg h2]
          by_cases h1 : i = j * 3 + 1
          · subst h1; rw [if_pos rfl, Mm.ccell_l]
          · rw [if_neg h1]
            by_cases h0 : i = j * 3
            · subst h0; rw [if_pos rfl, Mm.ccell_d]
            · rw [if_neg h0]
              exact HM.out i (by omega)
    · obtain rfl : j = 16 := by omega
      obtain ⟨f, hf, hfm⟩ := HOr.out
      obtain ⟨g, hg⟩ := HRr.out
      have HF : Hid (RowAt wr (w.heap.size + 1 + 1) 43 48 f) := hf
      have HM : Hid (∀ i, i < 48 → f (0 + i) = m.ccell i) := fun i hi => by rw [Nat.zero_add]; exact hfm i (by omega)
      have HG : Hid (RowAt wr (w.heap.size + 1) 43 48 g) := hg
      clear hf hfm hg HIr HRr HOr
      go_wp2_with (first
        | refine wpList_rowLoad rfl 43 (.tmp 3) rfl _ 0 48 m.ccell rfl HF.out (by omega) HM.out Tryd.underlying43 rfl (by kernel_rfl) ?_
        | (refine wpList_rowStore rfl 43 (.tmp 2) (.tmp 15) rfl _ 0 48 m.ccell m.ccell rfl rfl HG.out (by omega) (fun i _ => ccell_one m i) (fun i hi => by rw [if_pos ⟨by omega, by omega⟩, Nat.sub_zero]) (by kernel_rfl) ?_; intro w2 HR2 hz2 hk2 hb2))
      exact bodyPost_ret (v := .agg m.cArr) (resRow Tryd.results16 rfl HR2 Tryd.underlying43 rfl (by kernel_rfl)) rfl ⟨rfl, hb2 _ _ HBr.out (by omega)⟩

set_option maxHeartbeats 400000 in
theorem toD_any (m : Mm) (w : World) :
    Calls Tryd.prog 17 #[.agg m.dArr] w fun e w' => e = .returned (.agg m.dArr) ∧ Below w.heap.size w w' := by
  have hz : ∀ w, (zeroValue 32).run Tryd.prog w = .ok (.agg zeroM.dArr) w := fun _ => by kernel_rfl
  go_enter Tryd.func17, Tryd.ntmps17
  go_wp2
  have HB0 : Hid (Below w.heap.size w (((w.alloc (.cells m.dArr 32)).alloc (.cells zeroM.dArr 32)).alloc (.cells zeroM.dArr 32))) := (((Below.refl _ _).alloc (Nat.le_refl _) _).alloc (by simp) _).alloc (by simp; omega) _
  have HI0 : Hid (RowAt (((w.alloc (.cells m.dArr 32)).alloc (.cells zeroM.dArr 32)).alloc (.cells zeroM.dArr 32)) w.heap.size 32 32 m.dcell) := ((RowAt.new w _ 32 m.dcell).alloc _).alloc _
  have HR0 : Hid (RowAt (((w.alloc (.cells m.dArr 32)).alloc (.cells zeroM.dArr 32)).alloc (.cells zeroM.dArr 32)) (w.heap.size + 1) 32 32 zeroM.dcell) := by
    have := (RowAt.new (w.alloc (.cells m.dArr 32)) 32 32 zeroM.dcell).alloc (.cells zeroM.dArr 32)
    rw [show (w.alloc (.cells m.dArr 32)).heap.size = w.heap.size + 1 by simp] at this
    exact this
  have HO0 : Hid (RowAt (((w.alloc (.cells m.dArr 32)).alloc (.cells zeroM.dArr 32)).alloc (.cells zeroM.dArr 32)) (w.heap.size + 1 + 1) 32 32 zeroM.dcell) := by
    have := RowAt.new ((w.alloc (.cells m.dArr 32)).alloc (.cells zeroM.dArr 32)) 32 32 zeroM.dcell
    rw [show ((w.alloc (.cells m.dArr 32)).alloc (.cells zeroM.dArr 32)).heap.size = w.heap.size + 1 + 1 by simp] at this
    exact this
  generalize (((w.alloc (.cells m.dArr 32)).alloc (.cells zeroM.dArr 32)).alloc (.cells zeroM.dArr 32)) = V at *
  clear hz
  go_loopw [4] (fun c w' => ∃ j : Nat, j ≤ 32 ∧ c = .int .i64 (j : Int) ∧ Hid (Below w.heap.size w w') ∧ Hid (RowAt w' w.heap.size 32 32 m.dcell) ∧ Hid (∃ f, RowAt w' (w.heap.size + 1) 32 32 f) ∧ Hid (∃ f, RowAt w' (w.heap.size + 1 + 1) 32 32 f ∧ ∀ i, i < j → f i = m.dcell i)) (fun c _ => 32 - (intOf c).toNat)
  case atStart => exact ⟨0, by omega, rfl, HB0, HI0, ⟨_, HR0.out⟩, ⟨_, HO0.out, fun i hi => by omega⟩⟩
  case round =>
    obtain ⟨j, hj, rfl, HBr, HIr, HRr, HOr⟩ := hrel
    rename_i wr
    clear HB0 HI0 HR0 HO0
    by_cases hlt : j < 32
    · have hlt' : (j : Int) < 32 := by omega
      have c0 := HIr.out.cell (i := j) (by omega)
      rw [Mm.dcell] at c0
      have HB1 := HBr
      have HI1 := HIr
      have HR1 := HRr
      obtain ⟨f, hf0, hfm⟩ := HOr.out
      have HO1 : Hid (RowAt wr (w.heap.size + 1 + 1) 32 32 f) := hf0
      have HM : Hid (∀ i, i < j → f i = m.dcell i) := hfm
      have d0 := HO1.out.cell (i := j) (by omega)
      have f0 := HO1.out.frozen (j)
      clear hf0 hfm HBr HIr HRr HOr
      go_wp2
      refine ⟨⟨j + 1, by omega, by go_num, ?_, ?_, ?_, ?_⟩, by simp [intOf]; omega⟩
      · exact (HB1.out.setCell (p := ⟨_, _, none⟩) (by show w.heap.size ≤ w.heap.size + 1 + 1; omega) _)
      · exact (HI1.out.other _ (by omega))
      · obtain ⟨g, h⟩ := HR1.out
        exact ⟨g, (h.other _ (by omega))⟩
      · refine ⟨_, (HO1.out.set _ _), fun i hi => ?_⟩
        by_cases h0 : i = j
        · subst h0; rw [if_pos rfl, Mm.dcell]
        · rw [if_neg h0]
          exact HM.out i (by omega)
    · obtain rfl : j = 32 := by omega
      obtain ⟨f, hf, hfm⟩ := HOr.out
      obtain ⟨g, hg⟩ := HRr.out
      have HF : Hid (RowAt wr (w.heap.size + 1 + 1) 32 32 f) := hf
      have HM : Hid (∀ i, i < 32 → f (0 + i) = m.dcell i) := fun i hi => by rw [Nat.zero_add]; exact hfm i (by omega)
      have HG : Hid (RowAt wr (w.heap.size + 1) 32 32 g) := hg
      clear hf hfm hg HIr HRr HOr
      go_wp2_with (first
        | refine wpList_rowLoad rfl 32 (.tmp 3) rfl _ 0 32 m.dcell rfl HF.out (by omega) HM.out Tryd.underlying32 rfl (by kernel_rfl) ?_
        | (refine wpList_rowStore rfl 32 (.tmp 2) (.tmp 14) rfl _ 0 32 m.dcell m.dcell rfl rfl HG.out (by omega) (fun i _ => dcell_one m i) (fun i hi => by rw [if_pos ⟨by omega, by omega⟩, Nat.sub_zero]) (by kernel_rfl) ?_; intro w2 HR2 hz2 hk2 hb2))
      exact bodyPost_ret (v := .agg m.dArr) (resRow Tryd.results17 rfl HR2 Tryd.underlying32 rfl (by kernel_rfl)) rfl ⟨rfl, hb2 _ _ HBr.out (by omega)⟩

set_option maxHeartbeats 400000 in
theorem toR_any (m : Mm) (w : World) :
    Calls Tryd.prog 18 #[.agg m.rArr] w fun e w' => e = .returned (.agg m.rArr) ∧ Below w.heap.size w w' := by
  have hz : ∀ w, (zeroValue 34).run Tryd.prog w = .ok (.agg zeroM.rArr) w := fun _ => by kernel_rfl
  go_enter Tryd.func18, Tryd.ntmps18
  go_wp2
  have HB0 : Hid (Below w.heap.size w (((w.alloc (.cells m.rArr 34)).alloc (.cells zeroM.rArr 34)).alloc (.cells zeroM.rArr 34))) := (((Below.refl _ _).alloc (Nat.le_refl _) _).alloc (by simp) _).alloc (by simp; omega) _
  have HI0 : Hid (RowAt (((w.alloc (.cells m.rArr 34)).alloc (.cells zeroM.rArr 34)).alloc (.cells zeroM.rArr 34)) w.heap.size 34 16 m.rcell) := ((RowAt.new w _ 16 m.rcell).alloc _).alloc _
  have HR0 : Hid (RowAt (((w.alloc (.cells m.rArr 34)).alloc (.cells zeroM.rArr 34)).alloc (.cells zeroM.rArr 34)) (w.heap.size + 1) 34 16 zeroM.rcell) := by
    have := (RowAt.new (w.alloc (.cells m.rArr 34)) 34 16 zeroM.rcell).alloc (.cells zeroM.rArr 34)
    rw [show (w.alloc (.cells m.rArr 34)).heap.size = w.heap.size + 1 by simp] at this
    exact this
  have HO0 : Hid (RowAt (((w.alloc (.cells m.rArr 34)).alloc (.cells zeroM.rArr 34)).alloc (.cells zeroM.rArr 34)) (w.heap.size + 1 + 1) 34 16 zeroM.rcell) := by
    have := RowAt.new ((w.alloc (.cells m.rArr 34)).alloc (.cells zeroM.rArr 34)) 34 16 zeroM.rcell
    rw [show ((w.alloc (.cells m.rArr 34)).alloc (.cells zeroM.rArr 34)).heap.size = w.heap.size + 1 + 1 by simp] at this
    exact this
  generalize (((w.alloc (.cells m.rArr 34)).alloc (.cells zeroM.rArr 34)).alloc (.cells zeroM.rArr 34)) = V at *
  clear hz
  go_loopw [4] (fun c w' => ∃ j : Nat, j ≤ 16 ∧ c = .int .i64 (j : Int) ∧ Hid (Below w.heap.size w w') ∧ Hid (RowAt w' w.heap.size 34 16 m.rcell) ∧ Hid (∃ f, RowAt w' (w.heap.size + 1) 34 16 f) ∧ Hid (∃ f, RowAt w' (w.heap.size + 1 + 1) 34 16 f ∧ ∀ i, i < j → f i = m.rcell i)) (fun c _ => 16 - (intOf c).toNat)
  case atStart => exact ⟨0, by omega, rfl, HB0, HI0, ⟨_, HR0.out⟩, ⟨_, HO0.out, fun i hi => by omega⟩⟩
  case round =>
    obtain ⟨j, hj, rfl, HBr, HIr, HRr, HOr⟩ := hrel
    rename_i wr
    clear HB0 HI0 HR0 HO0
    by_cases hlt : j < 16
    · have hlt' : (j : Int) < 16 := by omega
      have c0 := HIr.out.cell (i := j) (by omega)
      rw [Mm.rcell] at c0
      have HB1 := HBr
      have HI1 := HIr
      have HR1 := HRr
      obtain ⟨f, hf0, hfm⟩ := HOr.out
      have HO1 : Hid (RowAt wr (w.heap.size + 1 + 1) 34 16 f) := hf0
      have HM : Hid (∀ i, i < j → f i = m.rcell i) := hfm
      have d0 := HO1.out.cell (i := j) (by omega)
      have f0 := HO1.out.frozen (j)
      clear hf0 hfm HBr HIr HRr HOr
      go_wp2
      refine ⟨⟨j + 1, by omega, by go_num, ?_, ?_, ?_, ?_⟩, by simp [intOf]; omega⟩
      · exact (HB1.out.setCell (p := ⟨_, _, none⟩) (by show w.heap.size ≤ w.heap.size + 1 + 1; omega) _)
      · exact (HI1.out.other _ (by omega))
      · obtain ⟨g, h⟩ := HR1.out
        exact ⟨g, (h.other _ (by omega))⟩
      · refine ⟨_, (HO1.out.set _ _), fun i hi => ?_⟩
        by_cases h0 : i = j
        · subst h0; rw [if_pos rfl, Mm.rcell]
        · rw [if_neg h0]
          exact HM.out i (by omega)
    · obtain rfl : j = 16 := by omega
      obtain ⟨f, hf, hfm⟩ := HOr.out
      obtain ⟨g, hg⟩ := HRr.out
      have HF : Hid (RowAt wr (w.heap.size + 1 + 1) 34 16 f) := hf
      have HM : Hid (∀ i, i < 16 → f (0 + i) = m.rcell i) := fun i hi => by rw [Nat.zero_add]; exact hfm i (by omega)
      have HG : Hid (RowAt wr (w.heap.size + 1) 34 16 g) := hg
      clear hf hfm hg HIr HRr HOr
      go_wp2_with (first
        | refine wpList_rowLoad rfl 34 (.tmp 3) rfl _ 0 16 m.rcell rfl HF.out (by omega) HM.out Tryd.underlying34 rfl (by kernel_rfl) ?_
        | (refine wpList_rowStore rfl 34 (.tmp 2) (.tmp 14) rfl _ 0 16 m.rcell m.rcell rfl rfl HG.out (by omega) (fun i _ => rcell_one m i) (fun i hi => by rw [if_pos ⟨by omega, by omega⟩, Nat.sub_zero]) (by kernel_rfl) ?_; intro w2 HR2 hz2 hk2 hb2))
      exact bodyPost_ret (v := .agg m.rArr) (resRow Tryd.results18 rfl HR2 Tryd.underlying34 rfl (by kernel_rfl)) rfl ⟨rfl, hb2 _ _ HBr.out (by omega)⟩
end Go.Proofs.YtljhpagpohihcabDoor
