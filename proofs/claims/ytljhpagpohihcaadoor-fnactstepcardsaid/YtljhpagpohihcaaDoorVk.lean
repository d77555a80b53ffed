/- The walk of the law FnActStep. Helper text: no statement is claimed here. -/
import Derived.Test.YtljhpagpohihcaaDoorVj
import Derived.Test.YtljhpagpohihcaaDoorUb
import Derived.Test.YtljhpagpohihcaaDoorUc
import Derived.Test.YtljhpagpohihcaaDoorYq
namespace Go.Proofs.YtljhpagpohihcaaDoor
open Go.ChangeShapes Go.WideShapes Go.ChangeAt Go.RowKit

/-- What holds ahead of a round. -/
def LoopS (w : World) (B P : Nat) (m m' : Mm) (w' : World) : Prop := Below w.heap.size w w' ∧ MemAt w' B m ∧ MemAt w' P m'

set_option maxHeartbeats 4000000 in
set_option maxRecDepth 100000 in
theorem actStep_walk (a : Option Addr) (len cap : Nat) (w : World) (h : IsRow w a len) (hlc : len ≤ cap) (hT : DevTab w) :
    Calls Tryd.prog 6 #[.slice a len cap] w fun e w' => e = .returned (.bool true) ∧ Below w.heap.size w w' := by
  have HT : Hid (DevTab w) := hT
  have HH : Hid (IsRow w a len) := h
  have hz : ∀ w, (zeroValue 37).run Tryd.prog w = .ok (.agg zeroM.cells) w := fun _ => by kernel_rfl
  clear hT h
  by_cases hl : (1048576 : Int) < (len : Int)
  · go_enter Tryd.func6, Tryd.ntmps6
    go_wp2
    go_ret
    exact ⟨rfl, Below.refl _ _⟩
  by_cases hl1 : (len : Int) < 1
  · go_enter Tryd.func6, Tryd.ntmps6
    go_wp2
    go_ret
    exact ⟨rfl, Below.refl _ _⟩
  go_enter Tryd.func6, Tryd.ntmps6
  go_wp2_with fail
  refine (drawEnd_any a len cap _ HH.out hlc).mono ?_
  rintro e w1 ⟨m, rfl, hm, hb1⟩
  have HB1 : Hid (Below w.heap.size w w1) := hb1
  have hle : w.heap.size ≤ w1.heap.size := hb1.size
  clear hb1
  go_upto_region 4 with (refine wpList_rowStore rfl 37 (.tmp 3) (.tmp 18) rfl w1.heap.size 0 136 m.cell m.cell rfl rfl (RowAt.new w1 37 136 zeroM.cell) (by omega) (fun i _ => cell_one m i) (fun i hi => by rw [if_pos ⟨by omega, by omega⟩, Nat.sub_zero]) (by kernel_rfl) ?_; intro w2 HZ2 hz2 hk2 hb2)
  have HM2 : Hid (MemAt w2 w1.heap.size m) := HZ2
  have HB2 : Hid (Below w.heap.size w w2) := hb2 _ _ (HB1.out.alloc hle _) hle
  clear HZ2 hz2 hk2 hb2 HB1
  obtain ⟨B, hB⟩ : ∃ B, B = w1.heap.size := ⟨_, rfl⟩
  rw [← hB] at HM2 hle ⊢
  clear hB
  obtain ⟨bb, off, z, hz0, hz1, hc⟩ : ∃ (bb off : Nat) (z : Int), a = some ⟨bb, off, none⟩ ∧ (0 ≤ z ∧ z ≤ 255) ∧ w2.cell? ⟨bb, off, none⟩ = some (.int .u8 z) := by
    rcases HH.out with h0 | ⟨b, off, f, rfl, hc⟩
    · omega
    · have := hc 0 (by omega)
      rw [Nat.add_zero] at this
      refine ⟨b, off, f 0, rfl, ⟨this.2.1, this.2.2⟩, ?_⟩
      rw [HB2.out.cell (p := ⟨b, off, none⟩) (World.block_lt_of_cell? w ⟨b, off, none⟩ this.1)]
      exact this.1
  subst hz0
  have hlen : (0 : Int) ≤ 0 ∧ (0 : Int) < (len : Int) := by omega
  have htm : z.tmod 16 = z % 16 := Int.tmod_eq_emod_of_nonneg hz1.1
  have hwz : IntKind.i64.wrap z = z := by rw [IntKind.wrap_i64]; omega
  have hwm : IntKind.i64.wrap (z % 16) = z % 16 := by rw [IntKind.wrap_i64]; omega
  have hk0 : 0 ≤ z % 16 := by omega
  have hk1 : z % 16 < 16 := by omega
  go_upto_region 5 with fail
  generalize z % 16 = k at *
  clear htm hwz hwm hc hlen
  have HD : Hid (∀ W q, W.cell? ⟨q, 0, none⟩ = some (.int .i64 4) → W.cell? ⟨q, 1, none⟩ = some (.int .i64 k) → W.cell? ⟨q, 2, none⟩ = some (.int .i64 0) → q < W.heap.size → DevTab W → Calls Tryd.prog 26 #[m.val, .agg #[.int .i64 25, .slice (some ⟨q, 0, none⟩) 1 1], .bool true, .int .u16 0] W fun e w' => e = .returned (m.step k).val ∧ Below W.heap.size W w') := fun W q c0 c1 c2 hq hTW =>
    actDo_25 (some ⟨q, 0, none⟩) 1 1 (fun i => if i = 0 then 4 else if i = 1 then k else 0) rfl m hm 0 W (.inr ⟨⟨q, 0, none⟩, rfl, hq, fun i hi => by
      rw [Addr.add_mid, Nat.zero_add]
      match i, hi with
      | 0, _ => exact c0
      | 1, _ => exact c1
      | 2, _ => exact c2⟩) hTW
  have hokp : (m.step k).Ok := step_ok hm k
  have HBT : Hid (∀ i : Int, 0 ≤ i → i < 16 → (m.step k).bit 4 i = if i / 8 = k / 8 then decide (i = k) else m.bit 4 i) := fun i h0 h1 => step_bit m k i hk0 hk1 h0 h1
  generalize m.step k = m' at *
  have hlB : B < w2.heap.size := HM2.out.lt
  go_wp2_with (refine wpList_rowLoad rfl 37 (.tmp 3) rfl _ 0 136 m.cell rfl HM2.out (by omega) (fun i _ => by rw [Nat.zero_add]) Tryd.underlying37 rfl (by kernel_rfl) ?_)
  have HBa : Hid (Below w.heap.size w (w2.alloc (.cells #[.int .i64 4, .int .i64 k, .int .i64 0] 39))) := HB2.out.alloc HB2.out.size _
  refine Calls.mono (HD.out _ w2.heap.size (by simp [go_sem]) (by simp [go_sem]) (by simp [go_sem]) (by simp) (HT.out.to HBa.out)) ?_
  rintro e w3 ⟨rfl, hb3⟩
  have HB3 : Hid (Below w.heap.size w w3) := HBa.out.trans (hb3.mono HBa.out.size)
  have HM3 : Hid (MemAt w3 B m) := RowAt.to (RowAt.alloc HM2.out _) hb3
  have hl3 : B < w3.heap.size := HM3.out.lt
  clear hb3 HBa HB2 HM2 HD hlB
  go_upto_region 6 with (refine wpList_rowStore rfl 37 (.tmp 5) (.tmp 29) rfl w3.heap.size 0 136 m'.cell m'.cell rfl rfl (RowAt.new w3 37 136 zeroM.cell) (by omega) (fun i _ => cell_one m' i) (fun i hi => by rw [if_pos ⟨by omega, by omega⟩, Nat.sub_zero]) (by kernel_rfl) ?_; intro w4 HZ4 hz4 hk4 hb4)
  have HP4 : Hid (MemAt w4 w3.heap.size m') := HZ4
  have HM4 : Hid (MemAt w4 B m) := RowAt.by (RowAt.alloc HM3.out _) (hk4 B (by omega))
  have HB4 : Hid (Below w.heap.size w w4) := hb4 _ _ (HB3.out.alloc HB3.out.size _) HB3.out.size
  clear HZ4 hz4 hk4 hb4 HB3 HM3
  obtain ⟨P, hP⟩ : ∃ P, P = w3.heap.size := ⟨_, rfl⟩
  rw [← hP] at HP4 hl3 ⊢
  clear hP
  go_wp2_with fail
  go_loopw [6] (fun c w' => ∃ j : Nat, j ≤ 16 ∧ c = .int .i64 (j : Int) ∧ LoopS w B P m m' w') (fun c _ => 16 - (intOf c).toNat)
  case atStart => exact ⟨0, by omega, rfl, HB4.out, HM4.out, HP4.out⟩
  case round =>
    obtain ⟨j, hj, rfl, hB2, hM2, hP2⟩ := hrel
    clear HB4 HM4 HP4
    have HB2 : Hid (Below w.heap.size w wr) := hB2
    have HM2 : Hid (MemAt wr B m) := hM2
    have HP2 : Hid (MemAt wr P m') := hP2
    clear hB2 hM2 hP2
    by_cases hlt : j < 16
    · have hlt' : (j : Int) < 16 := by omega
      have hq1 : (j : Int).tdiv 8 = (j : Int) / 8 := Int.tdiv_eq_ediv_of_nonneg (by omega)
      have hq2 : k.tdiv 8 = k / 8 := Int.tdiv_eq_ediv_of_nonneg hk0
      have hw1 : IntKind.i64.wrap ((j : Int) / 8) = (j : Int) / 8 := by rw [IntKind.wrap_i64]; omega
      have hw2 : IntKind.i64.wrap (k / 8) = k / 8 := by rw [IntKind.wrap_i64]; omega
      have hw3 : IntKind.i64.wrap ((j : Int) + 1) = (j : Int) + 1 := by rw [IntKind.wrap_i64]; omega
      obtain ⟨ve, hve⟩ : ∃ ve, ((j : Int) == k) = ve := ⟨_, rfl⟩
      have HVE : Hid (((j : Int) == k) = ve) := hve
      have hbt := HBT.out (j : Int) (by omega) hlt'
      have hlB : B < wr.heap.size := HM2.out.lt
      have hlP : P < wr.heap.size := HP2.out.lt
      go_upto_region 11 with fail
      have HBV : Hid (Below w.heap.size w (wr.alloc (.cells #[.int .i64 4, .int .i64 (j : Int), .int .i64 0] 39))) := HB2.out.alloc HB2.out.size _
      have HMV : Hid (MemAt (wr.alloc (.cells #[.int .i64 4, .int .i64 (j : Int), .int .i64 0] 39)) B m) := RowAt.alloc HM2.out _
      have HPV : Hid (MemAt (wr.alloc (.cells #[.int .i64 4, .int .i64 (j : Int), .int .i64 0] 39)) P m') := RowAt.alloc HP2.out _
      have HOV : Hid (Own (wr.alloc (.cells #[.int .i64 4, .int .i64 (j : Int), .int .i64 0] 39)) wr.heap.size (.int .i64 4) (.int .i64 (j : Int)) (.int .i64 0)) := Own.new wr _ _ _
      generalize (wr.alloc (.cells #[.int .i64 4, .int .i64 (j : Int), .int .i64 0] 39)) = V at *
      clear HB2 HM2 HP2
      obtain ⟨O, hO⟩ : ∃ O, O = wr.heap.size := ⟨_, rfl⟩
      rw [← hO] at HOV hlB hlP ⊢
      clear hO
      by_cases hg : (j : Int) / 8 = k / 8
      · have hg' : ((j : Int) / 8 != k / 8) = false := by simpa using hg
        have HV : Hid (m'.bit 4 (j : Int) = ve) := by rw [hbt, if_pos hg, ← HVE.out]; rfl
        have hvv : (ve != ve) = false := by cases ve <;> rfl
        clear hbt
        have HBZ : Hid (Below w.heap.size w V) := HBV.out
        have HMZ : Hid (MemAt V B m) := HMV.out
        have HPZ : Hid (MemAt V P m') := HPV.out
        have HOZ : Hid (Own V O (.int .i64 4) (.int .i64 (j : Int)) (.int .i64 0)) := HOV.out
        have hTZ : Hid (DevTab V) := HT.out.to HBZ.out
        clear HBV HMV HPV HOV
        obtain ⟨⟨c0, c1, c2⟩, f0, f1, f2⟩ := HOZ.out
        go_wp2_with (refine wpList_rowLoad rfl 37 (.tmp 5) rfl _ 0 136 m'.cell rfl HPZ.out (by omega) (fun i _ => by rw [Nat.zero_add]) Tryd.underlying37 rfl (by kernel_rfl) ?_)
        refine Calls.mono (ibit_any m' hokp 4 (j : Int) 0 V hTZ.out) ?_
        rintro e w6 ⟨rfl, hb6⟩
        rw [HV.out]
        have HB6 : Hid (Below w.heap.size w w6) := HBZ.out.trans (hb6.mono HBZ.out.size)
        have HM6 : Hid (MemAt w6 B m) := HMZ.out.to hb6
        have HP6 : Hid (MemAt w6 P m') := HPZ.out.to hb6
        clear hb6 HBZ HMZ HPZ HOZ c0 c1 c2 f0 f1 f2 hTZ
        go_wp2_with fail
        exact ⟨⟨j + 1, by omega, by go_num, HB6.out, HM6.out, HP6.out⟩, by simp [intOf]; omega⟩
      · have hg' : ((j : Int) / 8 != k / 8) = true := by simpa using hg
        obtain ⟨vm, hvm⟩ : ∃ vm, m.bit 4 (j : Int) = vm := ⟨_, rfl⟩
        have HV : Hid (m'.bit 4 (j : Int) = vm) := by show _ = _; rw [hbt, if_neg hg, hvm]
        have HVM : Hid (m.bit 4 (j : Int) = vm) := hvm
        have hvv : (vm != vm) = false := by cases vm <;> rfl
        clear hbt hvm
        obtain ⟨⟨c0, c1, c2⟩, f0, f1, f2⟩ := HOV.out
        go_wp2_with (refine wpList_rowLoad rfl 37 (.tmp 3) rfl _ 0 136 m.cell rfl HMV.out (by omega) (fun i _ => by rw [Nat.zero_add]) Tryd.underlying37 rfl (by kernel_rfl) ?_)
        refine Calls.mono (sbt_any m hm 4 (j : Int) 0 V) ?_
        rintro e w5 ⟨rfl, hb5⟩
        rw [HVM.out]
        have HBZ : Hid (Below w.heap.size w w5) := HBV.out.trans (hb5.mono HBV.out.size)
        have HMZ : Hid (MemAt w5 B m) := HMV.out.to hb5
        have HPZ : Hid (MemAt w5 P m') := HPV.out.to hb5
        have HOZ : Hid (Own w5 O (.int .i64 4) (.int .i64 (j : Int)) (.int .i64 0)) := HOV.out.below hb5
        have hTZ : Hid (DevTab w5) := HT.out.to HBZ.out
        clear HBV HMV HPV HOV hb5 c0 c1 c2 f0 f1 f2
        obtain ⟨⟨c0, c1, c2⟩, f0, f1, f2⟩ := HOZ.out
        go_wp2_with (refine wpList_rowLoad rfl 37 (.tmp 5) rfl _ 0 136 m'.cell rfl HPZ.out (by omega) (fun i _ => by rw [Nat.zero_add]) Tryd.underlying37 rfl (by kernel_rfl) ?_)
        refine Calls.mono (ibit_any m' hokp 4 (j : Int) 0 w5 hTZ.out) ?_
        rintro e w6 ⟨rfl, hb6⟩
        rw [HV.out]
        have HB6 : Hid (Below w.heap.size w w6) := HBZ.out.trans (hb6.mono HBZ.out.size)
        have HM6 : Hid (MemAt w6 B m) := HMZ.out.to hb6
        have HP6 : Hid (MemAt w6 P m') := HPZ.out.to hb6
        clear hb6 HBZ HMZ HPZ HOZ c0 c1 c2 f0 f1 f2 hTZ
        go_wp2_with fail
        exact ⟨⟨j + 1, by omega, by go_num, HB6.out, HM6.out, HP6.out⟩, by simp [intOf]; omega⟩
    · have hlt' : ¬ (j : Int) < 16 := by omega
      go_wp2_with fail
      go_ret
      exact ⟨rfl, HB2.out⟩
end Go.Proofs.YtljhpagpohihcaaDoor
