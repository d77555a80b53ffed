/- The coil 'step': what it does. Helper text: no statement is claimed here. -/
import Derived.Test.YtljhpagpohihcaaDoorVa
import Derived.Test.YtljhpagpohihcaaDoorJo
import Derived.Test.YtljhpagpohihcaaDoorId
import Derived.Test.YtljhpagpohihcaaDoorYq
namespace Go.Proofs.YtljhpagpohihcaaDoor
open Go.ChangeShapes Go.WideShapes Go.ChangeAt Go.RowKit

/-- Some bits of a group put off, one behind the other. -/
def Mm.offs (m : Mm) (f : Int) : Nat → Mm
  | 0 => m
  | j + 1 => (m.offs f j).putB 4 (f + j) false
theorem offs_ok {m : Mm} (h : m.Ok) (f : Int) : ∀ j, (m.offs f j).Ok
  | 0 => h
  | j + 1 => putB_ok (offs_ok h f j)
/-- What the coil 'step' leaves. -/
def Mm.step (m : Mm) (n : Int) : Mm := (m.offs (plc 4 n - plc 4 n % 8) 8).putB 4 n true

set_option maxHeartbeats 1000000 in
set_option maxRecDepth 100000 in
theorem put_any (x : Nat → Value) (k n p : Int) (h0 : x 0 = .int .i64 k) (h1 : x 1 = .int .i64 n) (h2 : x 2 = .int .i64 p) (m : Mm) (hm : m.Ok) (b : Bool) (hk : k ≠ 5) (w : World) (hT : DevTab w) :
    Calls Tryd.prog 112 #[.agg (cellsOf 9 x), m.val, .bool b] w fun e w' => e = .returned (m.putB k n b).val ∧ Below w.heap.size w w' := by
  have HT : Hid (DevTab w) := hT
  have hz : ∀ w, (zeroValue 37).run Tryd.prog w = .ok (.agg zeroM.cells) w := fun _ => by kernel_rfl
  have hk5 : (k == 5) = false := by simpa using hk
  have HP : Hid (∀ W, DevTab W → Calls Tryd.prog 11 #[m.val, .agg #[.int .i64 k, .int .i64 n, .int .i64 p], .bool b] W fun e w' => e = .returned (m.putB k n b).val ∧ Below W.heap.size W w') := fun W h => iPut_any m hm k n p b W h
  have H0 : Hid (x 0 = .int .i64 k ∧ x 1 = .int .i64 n ∧ x 2 = .int .i64 p) := ⟨h0, h1, h2⟩
  generalize m.putB k n b = m' at *
  clear hT hm hk h0 h1 h2
  unfold Mm.val
  go_enter Tryd.func112, Tryd.ntmps112
  go_upto_region 1 with fail
  have HB : Hid (Below w.heap.size w (((w.alloc (.cells (cellsOf 9 x) 116)).alloc (.cells m.cells 37)).alloc (.cells zeroM.cells 37))) := (((Below.refl _ _).alloc (Nat.le_refl _) _).alloc (by simp) _).alloc (by simp; omega) _
  have HX : Hid (RowAt (((w.alloc (.cells (cellsOf 9 x) 116)).alloc (.cells m.cells 37)).alloc (.cells zeroM.cells 37)) w.heap.size 116 9 x) := ((RowAt.new w 116 9 x).alloc _).alloc _
  have HI : Hid (MemAt (((w.alloc (.cells (cellsOf 9 x) 116)).alloc (.cells m.cells 37)).alloc (.cells zeroM.cells 37)) (w.heap.size + 1) m) := by
    have := (RowAt.new (w.alloc (.cells (cellsOf 9 x) 116)) 37 136 m.cell).alloc (.cells zeroM.cells 37)
    rw [show (w.alloc (.cells (cellsOf 9 x) 116)).heap.size = w.heap.size + 1 by simp] at this
    exact this
  have HR : Hid (MemAt (((w.alloc (.cells (cellsOf 9 x) 116)).alloc (.cells m.cells 37)).alloc (.cells zeroM.cells 37)) (w.heap.size + 1 + 1) zeroM) := by
    have := RowAt.new ((w.alloc (.cells (cellsOf 9 x) 116)).alloc (.cells m.cells 37)) 37 136 zeroM.cell
    rw [show ((w.alloc (.cells (cellsOf 9 x) 116)).alloc (.cells m.cells 37)).heap.size = w.heap.size + 1 + 1 by simp] at this
    exact this
  generalize (((w.alloc (.cells (cellsOf 9 x) 116)).alloc (.cells m.cells 37)).alloc (.cells zeroM.cells 37)) = V at *
  have a0 := HX.out.cell (show 0 < 9 by omega)
  have a1 := HX.out.cell (show 1 < 9 by omega)
  have a2 := HX.out.cell (show 2 < 9 by omega)
  rw [H0.out.1] at a0
  rw [H0.out.2.1] at a1
  rw [H0.out.2.2] at a2
  clear hz
  go_wp2_with (first
    | refine wpList_rowLoad rfl 37 (.tmp 4) rfl _ 0 136 m.cell rfl HI.out (by omega) (fun i _ => by rw [Nat.zero_add]) Tryd.underlying37 rfl (by kernel_rfl) ?_
    | fail)
  refine Calls.mono (HP.out _ (HT.out.to HB.out)) ?_
  rintro e w1 ⟨rfl, hb1⟩
  have HB1 : Hid (Below w.heap.size w w1) := HB.out.trans (hb1.mono HB.out.size)
  have HR1 : Hid (MemAt w1 (w.heap.size + 1 + 1) zeroM) := HR.out.to hb1
  clear hb1 HB HI HR a0 a1 a2 HP HX
  go_wp2_with (refine wpList_rowStore rfl 37 (.tmp 6) (.tmp 16) rfl _ 0 136 m'.cell m'.cell rfl rfl HR1.out (by omega) (fun i _ => cell_one m' i) (fun i hi => by rw [if_pos ⟨by omega, by omega⟩, Nat.sub_zero]) (by kernel_rfl) ?_; intro w2 HZ2 hz2 hk2 hb2)
  exact bodyPost_ret (v := .agg m'.cells) (resRow Tryd.results112 rfl HZ2 Tryd.underlying37 rfl (by kernel_rfl)) rfl ⟨rfl, hb2 _ _ HB1.out (by omega)⟩

/-- What holds ahead of a round: j bits are put off. -/
def StepR (x : Nat → Value) (m : Mm) (f : Int) (w : World) (j : Nat) (w' : World) : Prop := Below w.heap.size w w' ∧ RowAt w' w.heap.size 146 9 x ∧ MemAt w' (w.heap.size + 1) (m.offs f j) ∧ MemAt w' (w.heap.size + 1 + 1) zeroM

set_option maxHeartbeats 1000000 in
set_option maxRecDepth 100000 in
theorem stepDoes_any (x : Nat → Value) (n p : Int) (h0 : x 0 = .int .i64 4) (h1 : x 1 = .int .i64 n) (h2 : x 2 = .int .i64 p) (m : Mm) (hm : m.Ok) (dt : Int) (w : World) (hT : DevTab w) :
    Calls Tryd.prog 126 #[.agg (cellsOf 9 x), m.val, .bool true, .int .u16 dt] w fun e w' => e = .returned (m.step n).val ∧ Below w.heap.size w w' := by
  have HT : Hid (DevTab w) := hT
  have HM : Hid m.Ok := hm
  have hz : ∀ w, (zeroValue 37).run Tryd.prog w = .ok (.agg zeroM.cells) w := fun _ => by kernel_rfl
  have H0 : Hid (x 0 = .int .i64 4 ∧ x 1 = .int .i64 n ∧ x 2 = .int .i64 p) := ⟨h0, h1, h2⟩
  obtain ⟨q, hq⟩ : ∃ q, q = plc 4 n := ⟨_, rfl⟩
  have HE : Hid (plc 4 n = q) := hq.symm
  have q0 : 0 ≤ q := by rw [hq]; exact (plc_range 4 n).1
  have q16 : q < 16 := by
    have h := plc_range 4 n
    rw [show sz4 4 = 16 from rfl, ← hq] at h
    omega
  have HS : Hid (m.step n = (m.offs (q - q % 8) 8).putB 4 n true) := by show _ = _; unfold Mm.step; rw [← hq]
  rw [HS.out]
  clear hT hm h0 h1 h2 hq HS
  have hu : m.val = .agg m.cells := rfl
  rw [hu]
  clear hu
  go_enter Tryd.func126, Tryd.ntmps126
  go_upto_region 1 with fail
  have HB : Hid (Below w.heap.size w (((w.alloc (.cells (cellsOf 9 x) 146)).alloc (.cells m.cells 37)).alloc (.cells zeroM.cells 37))) := (((Below.refl _ _).alloc (Nat.le_refl _) _).alloc (by simp) _).alloc (by simp; omega) _
  have HX : Hid (RowAt (((w.alloc (.cells (cellsOf 9 x) 146)).alloc (.cells m.cells 37)).alloc (.cells zeroM.cells 37)) w.heap.size 146 9 x) := ((RowAt.new w 146 9 x).alloc _).alloc _
  have HI : Hid (MemAt (((w.alloc (.cells (cellsOf 9 x) 146)).alloc (.cells m.cells 37)).alloc (.cells zeroM.cells 37)) (w.heap.size + 1) m) := by
    have := (RowAt.new (w.alloc (.cells (cellsOf 9 x) 146)) 37 136 m.cell).alloc (.cells zeroM.cells 37)
    rw [show (w.alloc (.cells (cellsOf 9 x) 146)).heap.size = w.heap.size + 1 by simp] at this
    exact this
  have HR : Hid (MemAt (((w.alloc (.cells (cellsOf 9 x) 146)).alloc (.cells m.cells 37)).alloc (.cells zeroM.cells 37)) (w.heap.size + 1 + 1) zeroM) := by
    have := RowAt.new ((w.alloc (.cells (cellsOf 9 x) 146)).alloc (.cells m.cells 37)) 37 136 zeroM.cell
    rw [show ((w.alloc (.cells (cellsOf 9 x) 146)).alloc (.cells m.cells 37)).heap.size = w.heap.size + 1 + 1 by simp] at this
    exact this
  generalize (((w.alloc (.cells (cellsOf 9 x) 146)).alloc (.cells m.cells 37)).alloc (.cells zeroM.cells 37)) = V at *
  clear hz
  have a0 := HX.out.cell (show 0 < 9 by omega)
  have a1 := HX.out.cell (show 1 < 9 by omega)
  have a2 := HX.out.cell (show 2 < 9 by omega)
  rw [H0.out.1] at a0
  rw [H0.out.2.1] at a1
  rw [H0.out.2.2] at a2
  go_wp2_with fail
  refine Calls.mono (place_any 4 n p V (HT.out.to HB.out)) ?_
  rintro e w1 ⟨rfl, hb1⟩
  rw [HE.out]
  have htm : q.tmod 8 = q % 8 := Int.tmod_eq_emod_of_nonneg q0
  have hw1 : IntKind.i64.wrap (q % 8) = q % 8 := by rw [IntKind.wrap_i64]; omega
  have hw2 : IntKind.i64.wrap (q - q % 8) = q - q % 8 := by rw [IntKind.wrap_i64]; omega
  have HB1 : Hid (Below w.heap.size w w1) := HB.out.trans (hb1.mono HB.out.size)
  have HX1 : Hid (RowAt w1 w.heap.size 146 9 x) := HX.out.to hb1
  have HI1 : Hid (MemAt w1 (w.heap.size + 1) m) := HI.out.to hb1
  have HR1 : Hid (MemAt w1 (w.heap.size + 1 + 1) zeroM) := HR.out.to hb1
  clear hb1 HB HI HR HX a0 a1 a2
  go_wp2_with fail
  go_loopw [26] (fun c w' => ∃ j : Nat, j ≤ 8 ∧ c = .int .i64 (j : Int) ∧ StepR x m (q - q % 8) w j w') (fun c _ => 8 - (intOf c).toNat)
  case atStart => exact ⟨0, by omega, rfl, HB1.out, HX1.out, HI1.out, HR1.out⟩
  case round =>
    obtain ⟨j, hj, rfl, hB2, hX2, hM2, hR2⟩ := hrel
    clear HB1 HX1 HI1 HR1
    have HB2 : Hid (Below w.heap.size w wr) := hB2
    have HX2 : Hid (RowAt wr w.heap.size 146 9 x) := hX2
    have HM2 : Hid (MemAt wr (w.heap.size + 1) (m.offs (q - q % 8) j)) := hM2
    have HR2 : Hid (MemAt wr (w.heap.size + 1 + 1) zeroM) := hR2
    clear hB2 hX2 hM2 hR2
    have hT2 : Hid (DevTab wr) := HT.out.to HB2.out
    have hok : (m.offs (q - q % 8) j).Ok := offs_ok HM.out _ j
    obtain ⟨mj, hmj⟩ : ∃ mj, mj = m.offs (q - q % 8) j := ⟨_, rfl⟩
    rw [← hmj] at hok HM2
    have HMJ : Hid (mj = m.offs (q - q % 8) j) := hmj
    clear hmj
    have hlw : w.heap.size + 1 + 1 < wr.heap.size := HR2.out.lt
    by_cases hlt : j < 8
    · have hlt' : (j : Int) < 8 := by omega
      have hw3 : IntKind.i64.wrap (q - q % 8 + (j : Int)) = q - q % 8 + (j : Int) := by rw [IntKind.wrap_i64]; omega
      go_wp2_with (refine wpList_rowLoad rfl 37 (.tmp 5) rfl _ 0 136 mj.cell rfl HM2.out (by omega) (fun i _ => by rw [Nat.zero_add]) Tryd.underlying37 rfl (by kernel_rfl) ?_)
      refine Calls.mono (iPut_any mj hok 4 (q - q % 8 + (j : Int)) 0 false wr hT2.out) ?_
      rintro e w3 ⟨rfl, hb3⟩
      obtain ⟨mk, hmk⟩ : ∃ mk, mk = mj.putB 4 (q - q % 8 + (j : Int)) false := ⟨_, rfl⟩
      rw [← hmk]
      have HMK : Hid (mk = m.offs (q - q % 8) (j + 1)) := by rw [hmk, HMJ.out]; rfl
      have HB3 : Hid (Below w.heap.size w w3) := HB2.out.trans (hb3.mono HB2.out.size)
      have HX3 : Hid (RowAt w3 w.heap.size 146 9 x) := HX2.out.to hb3
      have HM3 : Hid (MemAt w3 (w.heap.size + 1) mj) := HM2.out.to hb3
      have HR3 : Hid (MemAt w3 (w.heap.size + 1 + 1) zeroM) := HR2.out.to hb3
      clear hb3 HB2 HX2 HM2 HR2 hmk hT2
      go_wp2_with (refine wpList_rowStore rfl 37 (.tmp 5) (.tmp 34) rfl _ 0 136 mk.cell mk.cell rfl rfl HM3.out (by omega) (fun i _ => cell_one mk i) (fun i hi => by rw [if_pos ⟨by omega, by omega⟩, Nat.sub_zero]) (by kernel_rfl) ?_; intro w4 HZ4 hz4 hk4 hb4)
      exact ⟨⟨j + 1, by omega, by go_num, hb4 _ _ HB3.out (by omega), RowAt.by HX3.out (hk4 _ (by omega)), HMK.out ▸ HZ4, RowAt.by HR3.out (hk4 _ (by omega))⟩, by simp [intOf]; omega⟩
    · have hlt' : ¬ (j : Int) < 8 := by omega
      obtain rfl : j = 8 := by omega
      have HP : Hid (∀ W, DevTab W → Calls Tryd.prog 112 #[.agg (cellsOf 9 x), mj.val, .bool true] W fun e w' => e = .returned (mj.putB 4 n true).val ∧ Below W.heap.size W w') := fun W hW => put_any x 4 n p H0.out.1 H0.out.2.1 H0.out.2.2 mj hok true (by omega) W hW
      obtain ⟨mk, hmk⟩ : ∃ mk, mk = mj.putB 4 n true := ⟨_, rfl⟩
      rw [← hmk] at HP
      have HF : Hid (Ending.returned (.agg mk.cells) = Ending.returned ((m.offs (q - q % 8) 8).putB 4 n true).val) := by show _ = _; rw [hmk, HMJ.out]; rfl
      clear hmk
      go_wp2_with (first
        | refine wpList_rowLoad rfl 37 (.tmp 5) rfl _ 0 136 mj.cell rfl HM2.out (by omega) (fun i _ => by rw [Nat.zero_add]) Tryd.underlying37 rfl (by kernel_rfl) ?_
        | refine wpList_rowLoad rfl 116 (.tmp 36) rfl _ 0 9 x rfl HX2.out (by omega) (fun i _ => by rw [Nat.zero_add]) Tryd.underlying116 rfl (by kernel_rfl) ?_)
      refine Calls.mono (HP.out wr hT2.out) ?_
      rintro e w3 ⟨rfl, hb3⟩
      have HB3 : Hid (Below w.heap.size w w3) := HB2.out.trans (hb3.mono HB2.out.size)
      have HR3 : Hid (MemAt w3 (w.heap.size + 1 + 1) zeroM) := HR2.out.to hb3
      clear hb3 HB2 HX2 HM2 HR2 hT2 HP
      go_wp2_with (refine wpList_rowStore rfl 37 (.tmp 8) (.tmp 39) rfl _ 0 136 mk.cell mk.cell rfl rfl HR3.out (by omega) (fun i _ => cell_one mk i) (fun i hi => by rw [if_pos ⟨by omega, by omega⟩, Nat.sub_zero]) (by kernel_rfl) ?_; intro w4 HZ4 hz4 hk4 hb4)
      exact bodyPost_ret (v := .agg mk.cells) (resRow Tryd.results126 rfl HZ4 Tryd.underlying37 rfl (by kernel_rfl)) rfl ⟨HF.out, hb4 _ _ HB3.out (by omega)⟩
end Go.Proofs.YtljhpagpohihcaaDoor
