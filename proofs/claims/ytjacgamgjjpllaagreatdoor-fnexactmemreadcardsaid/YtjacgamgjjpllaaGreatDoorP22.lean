/- The program's memWithDevice. Helper text: no statement is claimed here. -/
import Derived.Test.YtjacgamgjjpllaaGreatDoorP20
import Derived.Test.YtjacgamgjjpllaaGreatDoorYk
import Derived.Test.YtjacgamgjjpllaaGreatDoorP12
namespace Go.Proofs.YtjacgamgjjpllaaGreatDoor
open Go.ChangeShapes Go.WideShapes Go.ChangeAt Go.RowKit Fl

theorem parse16_any (t : List UInt8) (w : World) (ht : t.length ≤ 6000) (hL : LTab w) :
    Calls Tryz.prog 94 #[.string ⟨t.toArray⟩, .int .i64 10, .int .i64 16] w fun e w' => ∃ (v : Int) (err : Value), e = .returned (.tuple #[.int .i64 v, err]) ∧ (∀ z : Int, -32768 ≤ z → z ≤ 32767 → t = Lib.itoa z → v = z) ∧ Below w.heap.size w w' := by
  obtain ⟨⟨a, b, h1⟩, ⟨c, d, h2⟩, -⟩ := hL
  have hsz : (⟨t.toArray⟩ : ByteArray).size = t.length := by simp [ByteArray.size]
  have hl : (⟨t.toArray⟩ : ByteArray).data.toList = t := by simp
  rcases h : Lib.parseIntB 16 t with v | _ | _
  · refine (Any.strconv_ParseInt_10_at16_ok Tryz.laysC174 ⟨t.toArray⟩ (by omega) v (by rw [hl]; exact h) w).mono fun _ _ ⟨he, hw⟩ => ⟨v, _, he, fun z z1 z2 e => ?_, same_below hw⟩
    rw [e, int16_itoa z1 z2] at h
    cases h; rfl
  · refine (Any.strconv_ParseInt_10_at16_syntax Tryz.laysC174 ⟨t.toArray⟩ (by omega) (by rw [hl]; exact h) (.iface a b) w h1 (.inr ⟨a, b, rfl⟩)).mono fun _ _ ⟨N, he, _, _, hb⟩ => ⟨0, _, he, fun z z1 z2 e => ?_, hb⟩
    rw [e, int16_itoa z1 z2] at h
    cases h
  · refine (Any.strconv_ParseInt_10_at16_range Tryz.laysC174 ⟨t.toArray⟩ (by omega) (by rw [hl]; exact h) (.iface c d) w h2 (.inr ⟨c, d, rfl⟩)).mono fun _ _ ⟨N, he, _, _, hb⟩ => ⟨_, _, he, fun z z1 z2 e => ?_, hb⟩
    rw [e, int16_itoa z1 z2] at h
    cases h
/-- What a value makes of a device. -/
def ValP (m : Mm) (k : Int) (i : Nat) (t : List UInt8) (w : World) (e : Ending) (w' : World) : Prop := ∃ m' : Mm, e = .returned m'.val ∧ m'.Ok ∧ VRes m k i t m' ∧ Below w.heap.size w w'
set_option maxHeartbeats 1000000 in
set_option maxRecDepth 20000 in
theorem dev_7 (m : Mm) (hm : m.Ok) (i : Nat) (hi : i < 16) (p : Int) (t : List UInt8) (w : World) (ht : t.length ≤ 6000) (hL : LTab w) :
    Calls Tryz.prog 51 #[m.val, .agg #[.int .i64 7, .int .i64 (i : Int), .int .i64 p], .string ⟨t.toArray⟩] w (ValP m 7 i t w) := by
  have hz : ∀ w, (zeroValue 37).run Tryz.prog w = .ok (.agg zeroM.cells) w := fun _ => by kernel_rfl
  have hi' : (i : Int) < 16 := by omega
  have HL : Hid (LTab w) := hL
  clear hL
  have HC : Hid (∀ W, LTab W → Calls Tryz.prog 92 #[.string ⟨t.toArray⟩] W fun e w' => ∃ v, e = .returned v ∧ (∃ g m', v = .agg (cellsOf 2 g) ∧ (∀ j, j < 2 → (g j).oneCell' = true) ∧ (∀ j, j < 136 → m' j = if 5 + i * 2 ≤ j ∧ j < 5 + i * 2 + 2 then g (j - (5 + i * 2)) else m.cell j) ∧ (∃ mm : Mm, mm.Ok ∧ VRes m 7 i t mm ∧ m' = mm.cell)) ∧ Below W.heap.size W w') := fun W hW => (timer_any t W ht hW).mono fun _ _ ⟨v, he, c, hv, hc, hn, hb⟩ => ⟨v, he, ⟨tmC (tailL 33 t).2 (c : Int), (m.setT i (tailL 33 t).2 c).cell, hv, fun j _ => tmC_one _ _ j, setT_cell m hi (tailL 33 t).2 c, m.setT i (tailL 33 t).2 c, setT_ok hm i _ hc, vres_timer hn, rfl⟩, hb⟩
  unfold Mm.val
  generalize (⟨t.toArray⟩ : ByteArray) = s at *
  go_enter Tryz.func51, Tryz.ntmps51
  go_upto_region 1 with fail
  have HB : Hid (Below w.heap.size w (((w.alloc (.cells m.cells 37)).alloc (.cells #[.int .i64 7, .int .i64 (i : Int), .int .i64 p] 71)).alloc (.cells zeroM.cells 37))) := (((Below.refl _ _).alloc (Nat.le_refl _) _).alloc (by simp) _).alloc (by simp; omega) _
  have HI : Hid (MemAt (((w.alloc (.cells m.cells 37)).alloc (.cells #[.int .i64 7, .int .i64 (i : Int), .int .i64 p] 71)).alloc (.cells zeroM.cells 37)) w.heap.size m) := ((RowAt.new w 37 136 m.cell).alloc _).alloc _
  have HR : Hid (MemAt (((w.alloc (.cells m.cells 37)).alloc (.cells #[.int .i64 7, .int .i64 (i : Int), .int .i64 p] 71)).alloc (.cells zeroM.cells 37)) (w.heap.size + 1 + 1) zeroM) := by
    have := RowAt.new ((w.alloc (.cells m.cells 37)).alloc (.cells #[.int .i64 7, .int .i64 (i : Int), .int .i64 p] 71)) 37 136 zeroM.cell
    rw [show ((w.alloc (.cells m.cells 37)).alloc (.cells #[.int .i64 7, .int .i64 (i : Int), .int .i64 p] 71)).heap.size = w.heap.size + 1 + 1 by simp] at this
    exact this
  have a0 : World.cell? (((w.alloc (.cells m.cells 37)).alloc (.cells #[.int .i64 7, .int .i64 (i : Int), .int .i64 p] 71)).alloc (.cells zeroM.cells 37)) ⟨w.heap.size + 1, 0, none⟩ = some (.int .i64 7) := by simp [go_sem]
  have a1 : World.cell? (((w.alloc (.cells m.cells 37)).alloc (.cells #[.int .i64 7, .int .i64 (i : Int), .int .i64 p] 71)).alloc (.cells zeroM.cells 37)) ⟨w.heap.size + 1, 1, none⟩ = some (.int .i64 (i : Int)) := by simp [go_sem]
  have a2 : World.cell? (((w.alloc (.cells m.cells 37)).alloc (.cells #[.int .i64 7, .int .i64 (i : Int), .int .i64 p] 71)).alloc (.cells zeroM.cells 37)) ⟨w.heap.size + 1, 2, none⟩ = some (.int .i64 p) := by simp [go_sem]
  generalize (((w.alloc (.cells m.cells 37)).alloc (.cells #[.int .i64 7, .int .i64 (i : Int), .int .i64 p] 71)).alloc (.cells zeroM.cells 37)) = V at *
  clear hz
  go_upto_region 4 with fail
  refine timer_region (m := m) (i := i) (bM := w.heap.size) (bE := w.heap.size + 1) (R := fun _ m' => ∃ mm : Mm, mm.Ok ∧ VRes m 7 i t mm ∧ m' = mm.cell) HI.out a1 (by omega) hi (fun W hW => HC.out W ((HL.out.to (HB.out)).to hW)) ?_
  rintro u0 u1 u2 u3 u4 u5 g m' w3 ⟨mm, hok, hv, rfl⟩ hM3 hB3 hk3
  have HS : Hid (MemAt w3 w.heap.size mm) := hM3
  have HR3 : Hid (MemAt w3 (w.heap.size + 1 + 1) zeroM) := HR.out.by (hk3 _ HR.out.lt (by omega))
  have HB3 : Hid (Below w.heap.size w w3) := hB3 _ _ HB.out (Nat.le_refl _)
  have HV : Hid (VRes m 7 i t mm) := hv
  clear HI HR HB a0 a1 a2 hM3 hB3 hk3 hv HC HL
  go_wp2_with (first
    | refine wpList_rowLoad rfl 37 (.tmp 3) rfl _ 0 136 mm.cell rfl HS.out (by omega) (fun i _ => by rw [Nat.zero_add]) Tryz.underlying37 rfl (by kernel_rfl) ?_
    | (refine wpList_rowStore rfl 37 (.tmp 6) (.tmp 54) rfl _ 0 136 mm.cell mm.cell rfl rfl HR3.out (by omega) (fun i _ => cell_one mm i) (fun i hi => by rw [if_pos ⟨by omega, by omega⟩, Nat.sub_zero]) (by kernel_rfl) ?_; intro w9 HZ2 hz2 hk2 hb2))
  exact bodyPost_ret (v := .agg mm.cells) (resRow Tryz.results51 rfl HZ2 Tryz.underlying37 rfl (by kernel_rfl)) rfl ⟨mm, rfl, hok, HV.out, hb2 _ _ HB3.out (by omega)⟩
set_option maxHeartbeats 1000000 in
set_option maxRecDepth 20000 in
theorem dev_8 (m : Mm) (hm : m.Ok) (i : Nat) (hi : i < 16) (p : Int) (t : List UInt8) (w : World) (ht : t.length ≤ 6000) (hL : LTab w) :
    Calls Tryz.prog 51 #[m.val, .agg #[.int .i64 8, .int .i64 (i : Int), .int .i64 p], .string ⟨t.toArray⟩] w (ValP m 8 i t w) := by
  have hz : ∀ w, (zeroValue 37).run Tryz.prog w = .ok (.agg zeroM.cells) w := fun _ => by kernel_rfl
  have hi' : (i : Int) < 16 := by omega
  have HL : Hid (LTab w) := hL
  clear hL
  have HC : Hid (∀ W, LTab W → Calls Tryz.prog 93 #[.string ⟨t.toArray⟩] W fun e w' => ∃ v, e = .returned v ∧ (∃ g m', v = .agg (cellsOf 3 g) ∧ (∀ j, j < 3 → (g j).oneCell' = true) ∧ (∀ j, j < 136 → m' j = if 37 + i * 3 ≤ j ∧ j < 37 + i * 3 + 3 then g (j - (37 + i * 3)) else m.cell j) ∧ (∃ mm : Mm, mm.Ok ∧ VRes m 8 i t mm ∧ m' = mm.cell)) ∧ Below W.heap.size W w') := fun W hW => (count_any t W ht hW).mono fun _ _ ⟨v, he, c, hv, hc, hn, hb⟩ => ⟨v, he, ⟨cnC (tailL 33 (tailL 43 t).1).2 (tailL 43 t).2 (c : Int), (m.setC i (tailL 33 (tailL 43 t).1).2 (tailL 43 t).2 c).cell, hv, fun j _ => cnC_one _ _ _ j, setC_cell m hi (tailL 33 (tailL 43 t).1).2 (tailL 43 t).2 c, m.setC i (tailL 33 (tailL 43 t).1).2 (tailL 43 t).2 c, setC_ok hm i _ _ hc, vres_count hn, rfl⟩, hb⟩
  unfold Mm.val
  generalize (⟨t.toArray⟩ : ByteArray) = s at *
  go_enter Tryz.func51, Tryz.ntmps51
  go_upto_region 1 with fail
  have HB : Hid (Below w.heap.size w (((w.alloc (.cells m.cells 37)).alloc (.cells #[.int .i64 8, .int .i64 (i : Int), .int .i64 p] 71)).alloc (.cells zeroM.cells 37))) := (((Below.refl _ _).alloc (Nat.le_refl _) _).alloc (by simp) _).alloc (by simp; omega) _
  have HI : Hid (MemAt (((w.alloc (.cells m.cells 37)).alloc (.cells #[.int .i64 8, .int .i64 (i : Int), .int .i64 p] 71)).alloc (.cells zeroM.cells 37)) w.heap.size m) := ((RowAt.new w 37 136 m.cell).alloc _).alloc _
  have HR : Hid (MemAt (((w.alloc (.cells m.cells 37)).alloc (.cells #[.int .i64 8, .int .i64 (i : Int), .int .i64 p] 71)).alloc (.cells zeroM.cells 37)) (w.heap.size + 1 + 1) zeroM) := by
    have := RowAt.new ((w.alloc (.cells m.cells 37)).alloc (.cells #[.int .i64 8, .int .i64 (i : Int), .int .i64 p] 71)) 37 136 zeroM.cell
    rw [show ((w.alloc (.cells m.cells 37)).alloc (.cells #[.int .i64 8, .int .i64 (i : Int), .int .i64 p] 71)).heap.size = w.heap.size + 1 + 1 by simp] at this
    exact this
  have a0 : World.cell? (((w.alloc (.cells m.cells 37)).alloc (.cells #[.int .i64 8, .int .i64 (i : Int), .int .i64 p] 71)).alloc (.cells zeroM.cells 37)) ⟨w.heap.size + 1, 0, none⟩ = some (.int .i64 8) := by simp [go_sem]
  have a1 : World.cell? (((w.alloc (.cells m.cells 37)).alloc (.cells #[.int .i64 8, .int .i64 (i : Int), .int .i64 p] 71)).alloc (.cells zeroM.cells 37)) ⟨w.heap.size + 1, 1, none⟩ = some (.int .i64 (i : Int)) := by simp [go_sem]
  have a2 : World.cell? (((w.alloc (.cells m.cells 37)).alloc (.cells #[.int .i64 8, .int .i64 (i : Int), .int .i64 p] 71)).alloc (.cells zeroM.cells 37)) ⟨w.heap.size + 1, 2, none⟩ = some (.int .i64 p) := by simp [go_sem]
  generalize (((w.alloc (.cells m.cells 37)).alloc (.cells #[.int .i64 8, .int .i64 (i : Int), .int .i64 p] 71)).alloc (.cells zeroM.cells 37)) = V at *
  clear hz
  go_upto_region 6 with fail
  refine count_region (m := m) (i := i) (bM := w.heap.size) (bE := w.heap.size + 1) (R := fun _ m' => ∃ mm : Mm, mm.Ok ∧ VRes m 8 i t mm ∧ m' = mm.cell) HI.out a1 (by omega) hi (fun W hW => HC.out W ((HL.out.to (HB.out)).to hW)) ?_
  rintro u0 u1 u2 u3 u4 u5 g m' w3 ⟨mm, hok, hv, rfl⟩ hM3 hB3 hk3
  have HS : Hid (MemAt w3 w.heap.size mm) := hM3
  have HR3 : Hid (MemAt w3 (w.heap.size + 1 + 1) zeroM) := HR.out.by (hk3 _ HR.out.lt (by omega))
  have HB3 : Hid (Below w.heap.size w w3) := hB3 _ _ HB.out (Nat.le_refl _)
  have HV : Hid (VRes m 8 i t mm) := hv
  clear HI HR HB a0 a1 a2 hM3 hB3 hk3 hv HC HL
  go_wp2_with (first
    | refine wpList_rowLoad rfl 37 (.tmp 3) rfl _ 0 136 mm.cell rfl HS.out (by omega) (fun i _ => by rw [Nat.zero_add]) Tryz.underlying37 rfl (by kernel_rfl) ?_
    | (refine wpList_rowStore rfl 37 (.tmp 6) (.tmp 54) rfl _ 0 136 mm.cell mm.cell rfl rfl HR3.out (by omega) (fun i _ => cell_one mm i) (fun i hi => by rw [if_pos ⟨by omega, by omega⟩, Nat.sub_zero]) (by kernel_rfl) ?_; intro w9 HZ2 hz2 hk2 hb2))
  exact bodyPost_ret (v := .agg mm.cells) (resRow Tryz.results51 rfl HZ2 Tryz.underlying37 rfl (by kernel_rfl)) rfl ⟨mm, rfl, hok, HV.out, hb2 _ _ HB3.out (by omega)⟩
set_option maxHeartbeats 1000000 in
set_option maxRecDepth 20000 in
theorem dev_9 (m : Mm) (hm : m.Ok) (i : Nat) (hi : i < 32) (p : Int) (t : List UInt8) (w : World) (ht : t.length ≤ 6000) (hL : LTab w) :
    Calls Tryz.prog 51 #[m.val, .agg #[.int .i64 9, .int .i64 (i : Int), .int .i64 p], .string ⟨t.toArray⟩] w (ValP m 9 i t w) := by
  have hz : ∀ w, (zeroValue 37).run Tryz.prog w = .ok (.agg zeroM.cells) w := fun _ => by kernel_rfl
  have hi' : (i : Int) < 32 := by omega
  have HC : Hid (∀ W, LTab W → Calls Tryz.prog 94 #[.string ⟨t.toArray⟩, .int .i64 10, .int .i64 16] W fun e w' => ∃ (v : Int) (err : Value), e = .returned (.tuple #[.int .i64 v, err]) ∧ (∀ z : Int, -32768 ≤ z → z ≤ 32767 → t = Lib.itoa z → v = z) ∧ Below W.heap.size W w') := fun W hW => parse16_any t W ht hW
  have HL : Hid (LTab w) := hL
  clear hL
  unfold Mm.val
  generalize (⟨t.toArray⟩ : ByteArray) = s at *
  go_enter Tryz.func51, Tryz.ntmps51
  go_upto_region 1 with fail
  have HB : Hid (Below w.heap.size w (((w.alloc (.cells m.cells 37)).alloc (.cells #[.int .i64 9, .int .i64 (i : Int), .int .i64 p] 71)).alloc (.cells zeroM.cells 37))) := (((Below.refl _ _).alloc (Nat.le_refl _) _).alloc (by simp) _).alloc (by simp; omega) _
  have HI : Hid (MemAt (((w.alloc (.cells m.cells 37)).alloc (.cells #[.int .i64 9, .int .i64 (i : Int), .int .i64 p] 71)).alloc (.cells zeroM.cells 37)) w.heap.size m) := ((RowAt.new w 37 136 m.cell).alloc _).alloc _
  have HR : Hid (MemAt (((w.alloc (.cells m.cells 37)).alloc (.cells #[.int .i64 9, .int .i64 (i : Int), .int .i64 p] 71)).alloc (.cells zeroM.cells 37)) (w.heap.size + 1 + 1) zeroM) := by
    have := RowAt.new ((w.alloc (.cells m.cells 37)).alloc (.cells #[.int .i64 9, .int .i64 (i : Int), .int .i64 p] 71)) 37 136 zeroM.cell
    rw [show ((w.alloc (.cells m.cells 37)).alloc (.cells #[.int .i64 9, .int .i64 (i : Int), .int .i64 p] 71)).heap.size = w.heap.size + 1 + 1 by simp] at this
    exact this
  have a0 : World.cell? (((w.alloc (.cells m.cells 37)).alloc (.cells #[.int .i64 9, .int .i64 (i : Int), .int .i64 p] 71)).alloc (.cells zeroM.cells 37)) ⟨w.heap.size + 1, 0, none⟩ = some (.int .i64 9) := by simp [go_sem]
  have a1 : World.cell? (((w.alloc (.cells m.cells 37)).alloc (.cells #[.int .i64 9, .int .i64 (i : Int), .int .i64 p] 71)).alloc (.cells zeroM.cells 37)) ⟨w.heap.size + 1, 1, none⟩ = some (.int .i64 (i : Int)) := by simp [go_sem]
  have a2 : World.cell? (((w.alloc (.cells m.cells 37)).alloc (.cells #[.int .i64 9, .int .i64 (i : Int), .int .i64 p] 71)).alloc (.cells zeroM.cells 37)) ⟨w.heap.size + 1, 2, none⟩ = some (.int .i64 p) := by simp [go_sem]
  generalize (((w.alloc (.cells m.cells 37)).alloc (.cells #[.int .i64 9, .int .i64 (i : Int), .int .i64 p] 71)).alloc (.cells zeroM.cells 37)) = V at *
  clear hz
  go_wp2_with fail
  refine (HC.out _ (HL.out.to HB.out)).mono ?_
  rintro e w1 ⟨v, err, rfl, hv, hb1⟩
  have HI1 : Hid (MemAt w1 w.heap.size m) := HI.out.to hb1
  have HR1 : Hid (MemAt w1 (w.heap.size + 1 + 1) zeroM) := HR.out.to hb1
  have HB1 : Hid (Below w.heap.size w w1) := HB.out.trans (hb1.mono HB.out.size)
  have b1 : w1.cell? ⟨w.heap.size + 1, 1, none⟩ = some (.int .i64 (i : Int)) := (hb1.cell (p := ⟨w.heap.size + 1, 1, none⟩) (World.block_lt_of_cell? V _ a1)).trans a1
  have w16 : IntKind.i16.wrap v = d16 v := d16_wrap v
  have HV : Hid (VRes m 9 i t (m.setD i (d16 v))) := vres_whole fun z z1 z2 e => by rw [hv z z1 z2 e]; exact d16_self z1 z2
  have HO : Hid (m.setD i (d16 v)).Ok := setD_ok hm i (d16_in v).1 (d16_in v).2
  have HM : Hid (∀ j, j < 136 → (if j = 85 + i then Value.int .i16 (d16 v) else m.cell j) = (m.setD i (d16 v)).cell j) := setD_cell m hi (d16 v)
  clear HI HR HB a0 a1 a2 hb1 hv HC HL
  generalize m.setD i (d16 v) = m' at *
  generalize d16 v = dd at *
  have c0 := HI1.out.cell (i := 85 + i) (by omega)
  have f0 := HI1.out.frozen (85 + i)
  have HS : Hid (MemAt (w1.setCell ⟨w.heap.size, 85 + i, none⟩ (.int .i16 dd)) w.heap.size m') := (HI1.out.set (85 + i) (.int .i16 dd)).ext HM.out
  have HR2 : Hid (MemAt (w1.setCell ⟨w.heap.size, 85 + i, none⟩ (.int .i16 dd)) (w.heap.size + 1 + 1) zeroM) := HR1.out.other _ (by omega)
  have HB2 : Hid (Below w.heap.size w (w1.setCell ⟨w.heap.size, 85 + i, none⟩ (.int .i16 dd))) := HB1.out.setCell (p := ⟨_, _, none⟩) (Nat.le_refl _) _
  clear HI1 HR1 HB1 HM
  go_wp2_with (first
    | refine wpList_rowLoad rfl 37 (.tmp 3) rfl _ 0 136 m'.cell rfl HS.out (by omega) (fun i _ => by rw [Nat.zero_add]) Tryz.underlying37 rfl (by kernel_rfl) ?_
    | (refine wpList_rowStore rfl 37 (.tmp 6) (.tmp 54) rfl _ 0 136 m'.cell m'.cell rfl rfl HR2.out (by omega) (fun i _ => cell_one m' i) (fun i hi => by rw [if_pos ⟨by omega, by omega⟩, Nat.sub_zero]) (by kernel_rfl) ?_; intro w9 HZ2 hz2 hk2 hb2))
  exact bodyPost_ret (v := .agg m'.cells) (resRow Tryz.results51 rfl HZ2 Tryz.underlying37 rfl (by kernel_rfl)) rfl ⟨m', rfl, HO.out, HV.out, hb2 _ _ HB2.out (by omega)⟩
set_option maxHeartbeats 1000000 in
set_option maxRecDepth 20000 in
theorem dev_10 (m : Mm) (hm : m.Ok) (i : Nat) (hi : i < 16) (p : Int) (t : List UInt8) (w : World) (ht : t.length ≤ 6000) (hL : LTab w) (hP : PowTab w) :
    Calls Tryz.prog 51 #[m.val, .agg #[.int .i64 10, .int .i64 (i : Int), .int .i64 p], .string ⟨t.toArray⟩] w (ValP m 10 i t w) := by
  have hz : ∀ w, (zeroValue 37).run Tryz.prog w = .ok (.agg zeroM.cells) w := fun _ => by kernel_rfl
  have hi' : (i : Int) < 16 := by omega
  have HC : Hid (∀ W, LTab W → PowTab W → Calls Tryz.prog 95 #[.string ⟨t.toArray⟩] W fun e w' => ∃ v, e = .returned v ∧ (∃ (x : Nat) (b : Bool), v = .tuple #[.float .f64 x, .bool b] ∧ ∃ b', RdR t x b') ∧ Below W.heap.size W w') := fun W hW hW' => (irl_any t W (by omega) hW hW').mono fun _ _ ⟨x, b, he, hr, hb⟩ => ⟨_, he, ⟨x, b, rfl, b, hr⟩, hb⟩
  have HL : Hid (LTab w) := hL
  have HPw : Hid (PowTab w) := hP
  clear hL hP
  unfold Mm.val
  generalize (⟨t.toArray⟩ : ByteArray) = s at *
  go_enter Tryz.func51, Tryz.ntmps51
  go_upto_region 1 with fail
  have HB : Hid (Below w.heap.size w (((w.alloc (.cells m.cells 37)).alloc (.cells #[.int .i64 10, .int .i64 (i : Int), .int .i64 p] 71)).alloc (.cells zeroM.cells 37))) := (((Below.refl _ _).alloc (Nat.le_refl _) _).alloc (by simp) _).alloc (by simp; omega) _
  have HI : Hid (MemAt (((w.alloc (.cells m.cells 37)).alloc (.cells #[.int .i64 10, .int .i64 (i : Int), .int .i64 p] 71)).alloc (.cells zeroM.cells 37)) w.heap.size m) := ((RowAt.new w 37 136 m.cell).alloc _).alloc _
  have HR : Hid (MemAt (((w.alloc (.cells m.cells 37)).alloc (.cells #[.int .i64 10, .int .i64 (i : Int), .int .i64 p] 71)).alloc (.cells zeroM.cells 37)) (w.heap.size + 1 + 1) zeroM) := by
    have := RowAt.new ((w.alloc (.cells m.cells 37)).alloc (.cells #[.int .i64 10, .int .i64 (i : Int), .int .i64 p] 71)) 37 136 zeroM.cell
    rw [show ((w.alloc (.cells m.cells 37)).alloc (.cells #[.int .i64 10, .int .i64 (i : Int), .int .i64 p] 71)).heap.size = w.heap.size + 1 + 1 by simp] at this
    exact this
  have a0 : World.cell? (((w.alloc (.cells m.cells 37)).alloc (.cells #[.int .i64 10, .int .i64 (i : Int), .int .i64 p] 71)).alloc (.cells zeroM.cells 37)) ⟨w.heap.size + 1, 0, none⟩ = some (.int .i64 10) := by simp [go_sem]
  have a1 : World.cell? (((w.alloc (.cells m.cells 37)).alloc (.cells #[.int .i64 10, .int .i64 (i : Int), .int .i64 p] 71)).alloc (.cells zeroM.cells 37)) ⟨w.heap.size + 1, 1, none⟩ = some (.int .i64 (i : Int)) := by simp [go_sem]
  have a2 : World.cell? (((w.alloc (.cells m.cells 37)).alloc (.cells #[.int .i64 10, .int .i64 (i : Int), .int .i64 p] 71)).alloc (.cells zeroM.cells 37)) ⟨w.heap.size + 1, 2, none⟩ = some (.int .i64 p) := by simp [go_sem]
  generalize (((w.alloc (.cells m.cells 37)).alloc (.cells #[.int .i64 10, .int .i64 (i : Int), .int .i64 p] 71)).alloc (.cells zeroM.cells 37)) = V at *
  clear hz
  go_upto_region 11 with fail
  refine real_region (m := m) (i := i) (bM := w.heap.size) (bE := w.heap.size + 1) (R := fun x => ∃ b', RdR t x b') HI.out a1 (by omega) hi (fun W hW => HC.out W ((HL.out.to HB.out).to hW) ((HPw.out.to HB.out).to hW)) ?_
  rintro u0 u1 u2 u3 u4 u5 u6 u7 u8 x w3 ⟨b', hr⟩ hM3 hB3 hk3
  have HV : Hid (VRes m 10 i t (m.setR i x)) := vres_real hr
  have HO : Hid (m.setR i x).Ok := setR_ok hm i hr.1
  generalize m.setR i x = mm at *
  have HS : Hid (MemAt w3 w.heap.size mm) := hM3
  have HR3 : Hid (MemAt w3 (w.heap.size + 1 + 1) zeroM) := HR.out.by (hk3 _ HR.out.lt (by omega))
  have HB3 : Hid (Below w.heap.size w w3) := hB3 _ _ HB.out (Nat.le_refl _)
  clear HI HR HB a0 a1 a2 hM3 hB3 hk3 hr HC HL HPw
  go_wp2_with (first
    | refine wpList_rowLoad rfl 37 (.tmp 3) rfl _ 0 136 mm.cell rfl HS.out (by omega) (fun i _ => by rw [Nat.zero_add]) Tryz.underlying37 rfl (by kernel_rfl) ?_
    | (refine wpList_rowStore rfl 37 (.tmp 6) (.tmp 54) rfl _ 0 136 mm.cell mm.cell rfl rfl HR3.out (by omega) (fun i _ => cell_one mm i) (fun i hi => by rw [if_pos ⟨by omega, by omega⟩, Nat.sub_zero]) (by kernel_rfl) ?_; intro w9 HZ2 hz2 hk2 hb2))
  exact bodyPost_ret (v := .agg mm.cells) (resRow Tryz.results51 rfl HZ2 Tryz.underlying37 rfl (by kernel_rfl)) rfl ⟨mm, rfl, HO.out, HV.out, hb2 _ _ HB3.out (by omega)⟩
set_option maxHeartbeats 1000000 in
set_option maxRecDepth 20000 in
theorem dev_other (m : Mm) (hm : m.Ok) (k n p : Int) (hk : k ≠ 7 ∧ k ≠ 8 ∧ k ≠ 9 ∧ k ≠ 10) (s : ByteArray) (w : World) (hT : DevTab w) :
    Calls Tryz.prog 51 #[m.val, .agg #[.int .i64 k, .int .i64 n, .int .i64 p], .string s] w fun e w' => e = .returned (m.turn k n true).val ∧ Below w.heap.size w w' := by
  have hz : ∀ w, (zeroValue 37).run Tryz.prog w = .ok (.agg zeroM.cells) w := fun _ => by kernel_rfl
  have k7 : (k == 7) = false := by simpa using hk.1
  have k8 : (k == 8) = false := by simpa using hk.2.1
  have k9 : (k == 9) = false := by simpa using hk.2.2.1
  have k10 : (k == 10) = false := by simpa using hk.2.2.2
  have HP : Hid (∀ W, DevTab W → Calls Tryz.prog 96 #[.agg m.cells, .agg #[.int .i64 k, .int .i64 n, .int .i64 p], .bool true] W fun e w' => e = .returned (.agg (m.turn k n true).cells) ∧ Below W.heap.size W w') := fun W hW => iTurn_any m hm k n p true W hW
  have HT : Hid (DevTab w) := hT
  clear hk hT
  unfold Mm.val
  generalize m.turn k n true = m' at *
  go_enter Tryz.func51, Tryz.ntmps51
  go_upto_region 1 with fail
  have HB : Hid (Below w.heap.size w (((w.alloc (.cells m.cells 37)).alloc (.cells #[.int .i64 k, .int .i64 n, .int .i64 p] 71)).alloc (.cells zeroM.cells 37))) := (((Below.refl _ _).alloc (Nat.le_refl _) _).alloc (by simp) _).alloc (by simp; omega) _
  have HI : Hid (MemAt (((w.alloc (.cells m.cells 37)).alloc (.cells #[.int .i64 k, .int .i64 n, .int .i64 p] 71)).alloc (.cells zeroM.cells 37)) w.heap.size m) := ((RowAt.new w 37 136 m.cell).alloc _).alloc _
  have HR : Hid (MemAt (((w.alloc (.cells m.cells 37)).alloc (.cells #[.int .i64 k, .int .i64 n, .int .i64 p] 71)).alloc (.cells zeroM.cells 37)) (w.heap.size + 1 + 1) zeroM) := by
    have := RowAt.new ((w.alloc (.cells m.cells 37)).alloc (.cells #[.int .i64 k, .int .i64 n, .int .i64 p] 71)) 37 136 zeroM.cell
    rw [show ((w.alloc (.cells m.cells 37)).alloc (.cells #[.int .i64 k, .int .i64 n, .int .i64 p] 71)).heap.size = w.heap.size + 1 + 1 by simp] at this
    exact this
  have a0 : World.cell? (((w.alloc (.cells m.cells 37)).alloc (.cells #[.int .i64 k, .int .i64 n, .int .i64 p] 71)).alloc (.cells zeroM.cells 37)) ⟨w.heap.size + 1, 0, none⟩ = some (.int .i64 k) := by simp [go_sem]
  have a1 : World.cell? (((w.alloc (.cells m.cells 37)).alloc (.cells #[.int .i64 k, .int .i64 n, .int .i64 p] 71)).alloc (.cells zeroM.cells 37)) ⟨w.heap.size + 1, 1, none⟩ = some (.int .i64 n) := by simp [go_sem]
  have a2 : World.cell? (((w.alloc (.cells m.cells 37)).alloc (.cells #[.int .i64 k, .int .i64 n, .int .i64 p] 71)).alloc (.cells zeroM.cells 37)) ⟨w.heap.size + 1, 2, none⟩ = some (.int .i64 p) := by simp [go_sem]
  generalize (((w.alloc (.cells m.cells 37)).alloc (.cells #[.int .i64 k, .int .i64 n, .int .i64 p] 71)).alloc (.cells zeroM.cells 37)) = V at *
  clear hz
  go_wp2_with (refine wpList_rowLoad rfl 37 (.tmp 3) rfl _ 0 136 m.cell rfl HI.out (by omega) (fun i _ => by rw [Nat.zero_add]) Tryz.underlying37 rfl (by kernel_rfl) ?_)
  refine (HP.out _ (HT.out.to HB.out)).mono ?_
  rintro e w1 ⟨rfl, hb1⟩
  have HI1 : Hid (MemAt w1 w.heap.size m) := HI.out.to hb1
  have HR1 : Hid (MemAt w1 (w.heap.size + 1 + 1) zeroM) := HR.out.to hb1
  have HB1 : Hid (Below w.heap.size w w1) := HB.out.trans (hb1.mono HB.out.size)
  clear HI HR HB a0 a1 a2 hb1 HP HT
  go_wp2_with (first
    | (refine wpList_rowStore rfl 37 (.tmp 3) (.tmp 13) rfl _ 0 136 m'.cell m'.cell rfl rfl HI1.out (by omega) (fun i _ => cell_one m' i) (fun i hi => by rw [if_pos ⟨by omega, by omega⟩, Nat.sub_zero]) (by kernel_rfl) ?_
       intro w4 HZ4 hz4 hk4 hb4
       have HS : Hid (MemAt w4 w.heap.size m') := HZ4
       have HR4 : Hid (MemAt w4 (w.heap.size + 1 + 1) zeroM) := HR1.out.by (hk4 _ (by omega))
       have HB4 : Hid (Below w.heap.size w w4) := hb4 _ _ HB1.out (Nat.le_refl _)
       clear HI1 HR1 HB1 HZ4 hk4 hb4)
    | refine wpList_rowLoad rfl 37 (.tmp 3) rfl _ 0 136 m'.cell rfl HS.out (by omega) (fun i _ => by rw [Nat.zero_add]) Tryz.underlying37 rfl (by kernel_rfl) ?_
    | (refine wpList_rowStore rfl 37 (.tmp 6) (.tmp 54) rfl _ 0 136 m'.cell m'.cell rfl rfl HR4.out (by omega) (fun i _ => cell_one m' i) (fun i hi => by rw [if_pos ⟨by omega, by omega⟩, Nat.sub_zero]) (by kernel_rfl) ?_; intro w9 HZ2 hz2 hk2 hb2))
  exact bodyPost_ret (v := .agg m'.cells) (resRow Tryz.results51 rfl HZ2 Tryz.underlying37 rfl (by kernel_rfl)) rfl ⟨rfl, hb2 _ _ HB4.out (by omega)⟩
/-- memWithDevice at any operand that was read. -/
theorem withDev_any (m : Mm) (hm : m.Ok) (k n p : Int) (hn : 7 ≤ k → k ≤ 10 → 0 ≤ n ∧ n < rN (kz k)) (t : List UInt8) (w : World) (ht : t.length ≤ 6000) (hL : LTab w) (hT : Tabs w) :
    Calls Tryz.prog 51 #[m.val, .agg #[.int .i64 k, .int .i64 n, .int .i64 p], .string ⟨t.toArray⟩] w fun e w' => ∃ m' : Mm, e = .returned m'.val ∧ m'.Ok ∧ (7 ≤ k → k ≤ 10 → VRes m k n.toNat t m') ∧ (¬ (7 ≤ k ∧ k ≤ 10) → m' = m.turn k n true) ∧ Below w.heap.size w w' := by
  have g : 7 ≤ k → k ≤ 10 → ∃ i : Nat, n = (i : Int) ∧ (i : Int) < rN (kz k) := fun h1 h2 => by
    obtain ⟨a, b⟩ := hn h1 h2
    obtain ⟨i, rfl⟩ := Int.eq_ofNat_of_zero_le a
    exact ⟨i, rfl, b⟩
  have fin : ∀ (i : Nat), n = (i : Int) → 7 ≤ k → k ≤ 10 → ∀ e w', ValP m k i t w e w' → ∃ m' : Mm, e = .returned m'.val ∧ m'.Ok ∧ (7 ≤ k → k ≤ 10 → VRes m k n.toNat t m') ∧ (¬ (7 ≤ k ∧ k ≤ 10) → m' = m.turn k n true) ∧ Below w.heap.size w w' := by
    rintro i rfl h1 h2 e w' ⟨m', a, b, c, d⟩
    exact ⟨m', a, b, fun _ _ => c, fun h => absurd ⟨h1, h2⟩ h, d⟩
  by_cases h7 : k = 7
  · obtain ⟨i, e, hi⟩ := g (by omega) (by omega)
    subst h7
    rw [show rN (kz 7) = 16 from rfl] at hi
    have := fin i e (by omega) (by omega)
    subst e
    exact (dev_7 m hm i (by omega) p t w ht hL).mono this
  by_cases h8 : k = 8
  · obtain ⟨i, e, hi⟩ := g (by omega) (by omega)
    subst h8
    rw [show rN (kz 8) = 16 from rfl] at hi
    have := fin i e (by omega) (by omega)
    subst e
    exact (dev_8 m hm i (by omega) p t w ht hL).mono this
  by_cases h9 : k = 9
  · obtain ⟨i, e, hi⟩ := g (by omega) (by omega)
    subst h9
    rw [show rN (kz 9) = 32 from rfl] at hi
    have := fin i e (by omega) (by omega)
    subst e
    exact (dev_9 m hm i (by omega) p t w ht hL).mono this
  by_cases h10 : k = 10
  · obtain ⟨i, e, hi⟩ := g (by omega) (by omega)
    subst h10
    rw [show rN (kz 10) = 16 from rfl] at hi
    have := fin i e (by omega) (by omega)
    subst e
    exact (dev_10 m hm i (by omega) p t w ht hL hT.pow).mono this
  exact (dev_other m hm k n p ⟨h7, h8, h9, h10⟩ _ w hT.dev).mono fun _ _ ⟨a, b⟩ => ⟨_, a, turn_ok hm k n true, fun _ _ => by omega, fun _ => rfl, b⟩
end Go.Proofs.YtjacgamgjjpllaaGreatDoor

/- The program's devWord. Helper text: no statement is claimed here. -/
namespace Go.Proofs.YtjacgamgjjpllaaGreatDoor
open Go.ChangeShapes Go.WideShapes Go.ChangeAt Go.RowKit

def WordOk (t : List UInt8) (k n p : Int) (b : Bool) : Prop := (b = true ∧ Gs t k n p ∧ t ≠ []) ∨ (b = false ∧ ∀ j, j < 4 → t ≠ wordL j)

def Worded (t : List UInt8) (w : World) (e : Ending) (w' : World) : Prop := ∃ (k n p : Int) (b : Bool), e = .returned (.tuple #[.agg #[.int .i64 k, .int .i64 n, .int .i64 p], .bool b]) ∧ WordOk t k n p b ∧ Below w.heap.size w w'

set_option maxHeartbeats 1000000 in
theorem iword_any (s : ByteArray) (w : World) (hT : Tabs w) :
    Calls Tryz.prog 90 #[.string s] w (Worded s.data.toList w) := by
  go_enter Tryz.func90, Tryz.ntmps90
  go_wp2
  go_loop [4, 5] (fun _ i => ∃ m : Nat, m ≤ 4 ∧ i = .int .i64 m ∧ ∀ j, j < m → s.data.toList ≠ wordL j) (fun _ i => 4 - (intOf i).toNat)
  case atStart => exact ⟨0, by omega, rfl, by intro j hj; omega⟩
  case round =>
    obtain ⟨m, hm, rfl, hn⟩ := hrel
    have HN : Hid (∀ j, j < m → s.data.toList ≠ wordL j) := hn
    clear hn
    by_cases hlt : m < 4
    · have hw := hT.word m hlt
      have hl0 : 0 < w.heap.size := hT.word.lt
      by_cases hE : wordL m = s.toList
      · have HE : Hid (s.data.toList = wordL m) := by rw [← ByteArray.toList_eq]; exact hE.symm
        have hE' : (wordL m == s.toList) = true := by simp [hE]
        clear hE
        go_wp2
        exact bodyPost_ret (v := .tuple #[.agg #[.int .i64 13, .int .i64 m, .int .i64 0], .bool true]) (resArg2 Tryz.results90 rfl rfl (Own.new w _ _ _).1) rfl ⟨13, m, 0, true, rfl, .inl ⟨rfl, gs_word hlt HE.out, by
          rw [HE.out]
          have a : m = 0 ∨ m = 1 ∨ m = 2 ∨ m = 3 := by omega
          rcases a with rfl | rfl | rfl | rfl <;> simp [wordL]⟩, one _ _⟩
      · have hE' : (wordL m == s.toList) = false := by simp [hE]
        have HE : Hid (s.data.toList ≠ wordL m) := by rw [← ByteArray.toList_eq]; exact fun e => hE e.symm
        clear hE
        go_wp2
        go_round
        case rel =>
          refine ⟨m + 1, by omega, by go_num, ?_⟩
          intro j hj
          by_cases e : j = m
          · subst e; exact HE.out
          · exact HN.out j (by omega)
        case measure => simp [intOf]; omega
    · obtain rfl : m = 4 := by omega
      go_wp2
      exact bodyPost_ret (v := .tuple #[.agg #[.int .i64 0, .int .i64 0, .int .i64 0], .bool false]) (resArg2 Tryz.results90 rfl rfl (Own.new w _ _ _).1) rfl ⟨0, 0, 0, false, rfl, .inr ⟨rfl, HN.out⟩, one _ _⟩
end Go.Proofs.YtjacgamgjjpllaaGreatDoor

/- How the program's guess reads a text, byte by byte: plain mathematics. Helper text: no statement is claimed here. -/
namespace Go.Proofs.YtjacgamgjjpllaaGreatDoor
open Go.RowKit

def kindOf (c : UInt8) : Int :=
  if c = 88 then 1 else if c = 89 then 2 else if c = 77 then 3 else if c = 83 then 4 else if c = 69 then 5 else if c = 71 then 6 else if c = 84 then 7 else if c = 67 then 8 else if c = 68 then 9 else if c = 82 then 10 else 0
theorem kindOf_rL {k : Nat} {c : UInt8} (h1 : 1 ≤ k) (h2 : k ≤ 10) (h : rL k = [c]) : kindOf c = k := by
  have : k = 1 ∨ k = 2 ∨ k = 3 ∨ k = 4 ∨ k = 5 ∨ k = 6 ∨ k = 7 ∨ k = 8 ∨ k = 9 ∨ k = 10 := by omega
  rcases this with rfl | rfl | rfl | rfl | rfl | rfl | rfl | rfl | rfl | rfl <;> (simp only [rL, List.cons.injEq, and_true] at h; subst h; rfl)
/-- One byte more. -/
def fstep (x : Int × Int × Int × Int) (c : UInt8) : Int × Int × Int × Int :=
  if isD c = true then (x.1, x.2.1 * 10 + ((c.toNat : Int) - 48), (if x.1 = 12 then x.2.2.1 + 1 else x.2.2.1), x.2.2.2)
  else if c = 46 then (12, x.2.1, x.2.2.1, x.2.2.2) else if c = 45 then (x.1, x.2.1, x.2.2.1, -1) else (kindOf c, x.2.1, x.2.2.1, x.2.2.2)
def fall (t : List UInt8) : Int × Int × Int × Int := t.foldl fstep (11, 0, 0, 1)
/-- A text as a device or number has. -/
def Fine (t : List UInt8) : Prop := t.length ≤ 12 ∧ ∀ (i : Nat) (c : UInt8), t[i]? = some c → (isD c = true ∨ c = 46 ∨ (i = 0 ∧ (c = 45 ∨ ∃ k : Nat, 1 ≤ k ∧ k ≤ 10 ∧ rL k = [c])))

theorem fold_dig : ∀ (l : List UInt8) (k n p q : Int), (∀ c ∈ l, isD c = true) → k ≠ 12 →
    l.foldl fstep (k, n, p, q) = (k, l.foldl (fun (a : Int) c => a * 10 + ((c.toNat : Int) - 48)) n, p, q)
  | [], _, _, _, _, _, _ => rfl
  | c :: l, k, n, p, q, h, hk => by
    have hc := h c (by simp)
    simp only [List.foldl_cons]
    rw [show fstep (k, n, p, q) c = (k, n * 10 + ((c.toNat : Int) - 48), p, q) by simp [fstep, hc, hk]]
    exact fold_dig l k _ p q (fun x hx => h x (by simp [hx])) hk
theorem fold_frac : ∀ (l : List UInt8) (n p q : Int), (∀ c ∈ l, isD c = true) →
    l.foldl fstep (12, n, p, q) = (12, l.foldl (fun (a : Int) c => a * 10 + ((c.toNat : Int) - 48)) n, p + l.length, q)
  | [], _, _, _, _ => by simp
  | c :: l, n, p, q, h => by
    have hc := h c (by simp)
    simp only [List.foldl_cons]
    rw [show fstep (12, n, p, q) c = (12, n * 10 + ((c.toNat : Int) - 48), p + 1, q) by simp [fstep, hc]]
    rw [fold_frac l _ (p + 1) q (fun x hx => h x (by simp [hx]))]
    simp only [List.length_cons, Prod.mk.injEq, true_and, and_true]
    omega
theorem fold_num {l1 l2 : List UInt8} (h : ∀ c ∈ l1 ++ l2, isD c = true) (q : Int) : (l1 ++ 46 :: l2).foldl fstep (11, 0, 0, q) = ((12 : Int), valN (l1 ++ l2), (l2.length : Int), q) := by
  rw [List.foldl_append, fold_dig l1 11 0 0 q (fun c hc => h c (by simp [hc])) (by omega), List.foldl_cons,
    show fstep (11, l1.foldl (fun (a : Int) c => a * 10 + ((c.toNat : Int) - 48)) 0, 0, q) 46 = (12, l1.foldl (fun (a : Int) c => a * 10 + ((c.toNat : Int) - 48)) 0, 0, q) from rfl,
    fold_frac l2 _ 0 q (fun c hc => h c (by simp [hc]))]
  simp [valN, List.foldl_append]
theorem fine_dig {l : List UInt8} (h : ∀ c ∈ l, isD c = true ∨ c = 46) (hl : l.length ≤ 11) : Fine l ∧ Fine (45 :: l) ∧ ∀ k c, 1 ≤ k → k ≤ 10 → rL k = [c] → Fine (c :: l) := by
  have hm : ∀ (i : Nat) (c : UInt8), l[i]? = some c → (isD c = true ∨ c = 46) := fun i c e => h c (List.mem_of_getElem? e)
  refine ⟨⟨by omega, fun i c e => ?_⟩, ⟨by simp; omega, fun i c e => ?_⟩, fun k d k1 k2 hk => ⟨by simp; omega, fun i c e => ?_⟩⟩
  · rcases hm i c e with h | h
    · exact .inl h
    · exact .inr (.inl h)
  · cases i with
    | zero => simp at e; exact .inr (.inr ⟨rfl, .inl e.symm⟩)
    | succ i =>
      simp at e
      rcases hm i c e with h | h
      · exact .inl h
      · exact .inr (.inl h)
  · cases i with
    | zero => simp at e; subst e; exact .inr (.inr ⟨rfl, .inr ⟨k, k1, k2, hk⟩⟩)
    | succ i =>
      simp at e
      rcases hm i c e with h | h
      · exact .inl h
      · exact .inr (.inl h)

theorem fall_sh {t : List UInt8} {K N P : Int} (hw : ∀ j, j < 4 → t ≠ wordL j) (hS : Sh t K N P) : Fine t ∧ ∃ u q : Int, fall t = (K, u, P, q) ∧ N = u * q ∧ 0 ≤ u ∧ u ≤ 1000000000 ∧ (q = 1 ∨ q = -1) := by
  rcases hS with ⟨-, -, i, hi, -, e⟩ | ⟨rfl, k, u, k1, k2, rfl, rfl, hu, rfl⟩ | ⟨rfl, rfl, sg, u, hu, hs, rfl⟩ | ⟨rfl, sg, l1, l2, u, rfl, p1, p2, hs, rfl, hl, ha, hval, hlen⟩
  · exact absurd e (hw i hi)
  · obtain ⟨c, e, c1, c2⟩ := rL_oneT k1 k2
    have hd := digits_all u
    have hlen := digits_small 2 u (by omega) (by omega)
    have hk := kindOf_rL k1 k2 e
    have hk11 : (k : Int) ≠ 12 := by omega
    rw [e]
    refine ⟨(fine_dig (fun c hc => .inl (hd c hc)) (by omega)).2.2 k c k1 k2 e, u, 1, ?_, by omega, by omega, by omega, .inl rfl⟩
    have h45 : ¬ isD c = true := by intro h; have := isD_lt h; omega
    have n46 : c ≠ 46 := by intro h; subst h; exact absurd c1 (by decide)
    have n45 : c ≠ 45 := by intro h; subst h; exact absurd c1 (by decide)
    unfold fall
    rw [List.singleton_append, List.foldl_cons, show fstep (11, 0, 0, 1) c = ((k : Int), 0, 0, 1) by simp [fstep, h45, n46, n45, hk], fold_dig _ _ _ _ _ hd hk11]
    have hv := digits_val u
    unfold valN at hv
    rw [hv]
  · have hd := digits_all u
    have hlen := digits_small 5 u (by omega) (by omega)
    have hv := digits_val u
    unfold valN at hv
    rcases hs with ⟨rfl, rfl⟩ | ⟨rfl, hu1, rfl⟩
    · refine ⟨(fine_dig (fun c hc => .inl (hd c hc)) (by omega)).1, u, 1, ?_, by omega, by omega, by omega, .inl rfl⟩
      unfold fall
      rw [List.nil_append, fold_dig _ _ _ _ _ hd (by omega), hv]
    · refine ⟨(fine_dig (fun c hc => .inl (hd c hc)) (by omega)).2.1, u, -1, ?_, by omega, by omega, by omega, .inr rfl⟩
      unfold fall
      rw [List.singleton_append, List.foldl_cons, show fstep (11, 0, 0, 1) 45 = (11, 0, 0, -1) from rfl, fold_dig _ _ _ _ _ hd (by omega), hv]
  · have hb := val_bd _ ha
    have hb2 : valN (l1 ++ l2) ≤ 1000000000 := by
      have e := Nat.pow_le_pow_right (show 0 < 10 by omega) hlen
      have e4 : (10 : Int) ^ (l1 ++ l2).length = (((10 : Nat) ^ (l1 ++ l2).length : Nat) : Int) := by rw [Int.natCast_pow]; rfl
      rw [e4] at hb
      have e2 : (10 : Nat) ^ 9 = 1000000000 := by decide
      omega
    have hc : ∀ c ∈ l1 ++ 46 :: l2, isD c = true ∨ c = 46 := by
      intro c hc
      simp only [List.mem_append, List.mem_cons] at hc
      rcases hc with hc | hc | hc
      · exact .inl (ha c (by simp [hc]))
      · exact .inr hc
      · exact .inl (ha c (by simp [hc]))
    have hcl : (l1 ++ 46 :: l2).length ≤ 11 := by simp at hlen ⊢; omega
    rcases hs with ⟨rfl, rfl⟩ | ⟨rfl, hu1, rfl⟩
    · refine ⟨(fine_dig hc hcl).1, u, 1, ?_, by omega, by omega, by omega, .inl rfl⟩
      unfold fall
      rw [List.nil_append, fold_num ha, hval]
    · refine ⟨(fine_dig hc hcl).2.1, u, -1, ?_, by omega, by omega, by omega, .inr rfl⟩
      unfold fall
      rw [List.singleton_append, List.foldl_cons, show fstep (11, 0, 0, 1) 45 = (11, 0, 0, -1) from rfl, fold_num ha, hval]
end Go.Proofs.YtjacgamgjjpllaaGreatDoor
