/- The walk of the law FnMemPut. Helper text: no statement is claimed here. -/
import Derived.Test.YtljhpagpohihcaaDoorId
import Derived.Test.YtljhpagpohihcaaDoorIc
import Derived.Test.YtljhpagpohihcaaDoorZf
import Derived.Test.YtljhpagpohihcaaDoorUb
import Derived.Test.YtljhpagpohihcaaDoorDs
import Derived.Test.YtljhpagpohihcaaDoorYq
import Derived.Test.YtljhpagpohihcaaDoorIg
namespace Go.Proofs.YtljhpagpohihcaaDoor
open Go.ChangeShapes Go.WideShapes Go.ChangeAt Go.RowKit Fl

theorem IsRow.belowY {w w' : World} {a : Option Addr} {len : Nat} (h : IsRow w a len) (hb : Below w.heap.size w w') : IsRow w' a len := by
  rcases h with h | ⟨b, off, f, rfl, hc⟩
  · exact .inl h
  · refine .inr ⟨b, off, f, rfl, fun i hi => ?_⟩
    have := hc i hi
    rw [hb.cell (p := ⟨b, off + i, none⟩) (World.block_lt_of_cell? w ⟨b, off + i, none⟩ this.1)]
    exact this

set_option maxHeartbeats 4000000 in
set_option maxRecDepth 100000 in
theorem memPut_walk (a a2 : Option Addr) (len cap len2 cap2 : Nat) (w : World) (h : IsRow w a len) (hlc : len ≤ cap) (h2 : IsRow w a2 len2) (hlc2 : len2 ≤ cap2) (hT : DevTab w) :
    Calls Tryd.prog 3 #[.slice a len cap, .slice a2 len2 cap2] w fun e w' => e = .returned (.bool true) ∧ Below w.heap.size w w' := by
  have HT : Hid (DevTab w) := hT
  have HH : Hid (IsRow w a len) := h
  have HH2 : Hid (IsRow w a2 len2) := h2
  have hz : ∀ w, (zeroValue 37).run Tryd.prog w = .ok (.agg zeroM.cells) w := fun _ => by kernel_rfl
  clear hT h h2
  by_cases hl : (1048576 : Int) < (len : Int)
  · go_enter Tryd.func3, Tryd.ntmps3
    go_wp2
    go_ret
    exact ⟨rfl, Below.refl _ _⟩
  by_cases hl2 : (1048576 : Int) < (len2 : Int)
  · go_enter Tryd.func3, Tryd.ntmps3
    go_wp2
    go_ret
    exact ⟨rfl, Below.refl _ _⟩
  go_enter Tryd.func3, Tryd.ntmps3
  go_wp2_with fail
  refine (drawPut_any a len cap _ HH.out hlc).mono ?_
  rintro e w1 ⟨m, k, n, p, v, rfl, hm, hk, hn, hp, ⟨b, rfl⟩, hb1⟩
  have HB1 : Hid (Below w.heap.size w w1) := hb1
  have hle : w.heap.size ≤ w1.heap.size := hb1.size
  clear hb1 HH
  have HOA : Hid (∀ W : World, W.heap[w1.heap.size + 1]? = (((w1.alloc (.cells zeroM.cells 37)).alloc (.cells #[.int .i64 0, .int .i64 0, .int .i64 0] 39)).heap)[w1.heap.size + 1]? → Own W (w1.heap.size + 1) (.int .i64 0) (.int .i64 0) (.int .i64 0)) := fun W e => by
    have := Own.new (w1.alloc (.cells zeroM.cells 37)) (.int .i64 0) (.int .i64 0) (.int .i64 0)
    rw [show (w1.alloc (.cells zeroM.cells 37)).heap.size = w1.heap.size + 1 by simp] at this
    exact this.byBlock e
  go_upto_region 4 with (refine wpList_rowStore rfl 37 (.tmp 5) (.tmp 24) rfl w1.heap.size 0 136 m.cell m.cell rfl rfl ((RowAt.new w1 37 136 zeroM.cell).alloc _) (by omega) (fun i _ => cell_one m i) (fun i hi => by rw [if_pos ⟨by omega, by omega⟩, Nat.sub_zero]) (by kernel_rfl) ?_; intro w2 HZ2 hz2 hk2 hb2; have oA := HOA.out w2 (hk2 _ (by omega)); obtain ⟨⟨g0, g1, g2⟩, f0, f1, f2⟩ := oA)
  have HB3 : Hid (Below w.heap.size w (((w2.setCell ⟨w1.heap.size + 1, 0, none⟩ (.int .i64 k)).setCell ⟨w1.heap.size + 1, 1, none⟩ (.int .i64 n)).setCell ⟨w1.heap.size + 1, 2, none⟩ (.int .i64 p))) := ((((hb2 _ _ ((HB1.out.alloc hle _).alloc (by simp; omega) _) hle).setCell (p := ⟨_, _, none⟩) (by show w.heap.size ≤ w1.heap.size + 1; omega) _).setCell (p := ⟨_, _, none⟩) (by show w.heap.size ≤ w1.heap.size + 1; omega) _).setCell (p := ⟨_, _, none⟩) (by show w.heap.size ≤ w1.heap.size + 1; omega) _)
  have HM3 : Hid (MemAt (((w2.setCell ⟨w1.heap.size + 1, 0, none⟩ (.int .i64 k)).setCell ⟨w1.heap.size + 1, 1, none⟩ (.int .i64 n)).setCell ⟨w1.heap.size + 1, 2, none⟩ (.int .i64 p)) w1.heap.size m) := ((RowAt.other HZ2 (.int .i64 k) (by omega)).other (.int .i64 n) (by omega)).other (.int .i64 p) (by omega)
  have HA3 : Hid (Own (((w2.setCell ⟨w1.heap.size + 1, 0, none⟩ (.int .i64 k)).setCell ⟨w1.heap.size + 1, 1, none⟩ (.int .i64 n)).setCell ⟨w1.heap.size + 1, 2, none⟩ (.int .i64 p)) (w1.heap.size + 1) (.int .i64 k) (.int .i64 n) (.int .i64 p)) := Own.put ⟨⟨g0, g1, g2⟩, f0, f1, f2⟩ _ _ _
  generalize (((w2.setCell ⟨w1.heap.size + 1, 0, none⟩ (.int .i64 k)).setCell ⟨w1.heap.size + 1, 1, none⟩ (.int .i64 n)).setCell ⟨w1.heap.size + 1, 2, none⟩ (.int .i64 p)) = W at *
  clear HZ2 hz2 hk2 hb2 g0 g1 g2 f0 f1 f2 HOA HB1
  obtain ⟨B, hB⟩ : ∃ B, B = w1.heap.size := ⟨_, rfl⟩
  rw [← hB] at HM3 HA3 ⊢
  rw [← hB] at hle
  clear hB
  have hBW : B + 1 < W.heap.size := HA3.out.lt
  obtain ⟨⟨g0, g1, g2⟩, f0, f1, f2⟩ := HA3.out
  have hTW : Hid (DevTab W) := HT.out.to HB3.out
  go_wp2_with (first
    | refine wpList_rowLoad rfl 37 (.tmp 5) rfl _ 0 136 m.cell rfl HM3.out (by omega) (fun i _ => by rw [Nat.zero_add]) Tryd.underlying37 rfl (by kernel_rfl) ?_
    | fail)
  refine Calls.mono (ibit_any m hm k n p W hTW.out) ?_
  rintro e w4 ⟨rfl, hb4⟩
  have HB4 : Hid (Below w.heap.size w w4) := HB3.out.trans (hb4.mono HB3.out.size)
  have HM4 : Hid (MemAt w4 B m) := HM3.out.to hb4
  have HA4 : Hid (Own w4 (B + 1) (.int .i64 k) (.int .i64 n) (.int .i64 p)) := HA3.out.below hb4
  have hB4 : B + 1 < w4.heap.size := HA4.out.lt
  have hT4 : Hid (DevTab w4) := HT.out.to HB4.out
  clear g0 g1 g2 f0 f1 f2 HB3 HM3 HA3 hb4 hTW hBW
  obtain ⟨⟨g0, g1, g2⟩, f0, f1, f2⟩ := HA4.out
  go_wp2_with (first
    | refine wpList_rowLoad rfl 37 (.tmp 5) rfl _ 0 136 m.cell rfl HM4.out (by omega) (fun i _ => by rw [Nat.zero_add]) Tryd.underlying37 rfl (by kernel_rfl) ?_
    | fail)
  refine Calls.mono (iPut_any m hm k n p b w4 hT4.out) ?_
  rintro e w5 ⟨rfl, hb5⟩
  generalize hm' : m.putB k n b = m'
  have hok' : m'.Ok := by rw [← hm']; exact putB_ok hm
  have HE : Hid (m.putB k n b = m') := hm'
  have HB5 : Hid (Below w.heap.size w w5) := HB4.out.trans (hb5.mono HB4.out.size)
  have HM5 : Hid (MemAt w5 B m) := HM4.out.to hb5
  have HA5 : Hid (Own w5 (B + 1) (.int .i64 k) (.int .i64 n) (.int .i64 p)) := HA4.out.below hb5
  have hB5 : B + 1 < w5.heap.size := HA5.out.lt
  clear g0 g1 g2 f0 f1 f2 HB4 HM4 HA4 hb5 hT4 hB4 hm'
  go_upto_region 6 with (refine wpList_rowStore rfl 37 (.tmp 9) (.tmp 33) rfl w5.heap.size 0 136 m'.cell m'.cell rfl rfl (RowAt.new w5 37 136 zeroM.cell) (by omega) (fun i _ => cell_one m' i) (fun i hi => by rw [if_pos ⟨by omega, by omega⟩, Nat.sub_zero]) (by kernel_rfl) ?_; intro w6 HZ6 hz6 hk6 hb6)
  have HM6 : Hid (MemAt w6 B m) := RowAt.by (RowAt.alloc HM5.out _) (hk6 B (by omega))
  have HA6 : Hid (Own w6 (B + 1) (.int .i64 k) (.int .i64 n) (.int .i64 p)) := (HA5.out.alloc _).byBlock (hk6 (B + 1) (by omega))
  have HP6 : Hid (MemAt w6 w5.heap.size m') := HZ6
  have HB6 : Hid (Below w.heap.size w w6) := hb6 _ _ (HB5.out.alloc HB5.out.size _) HB5.out.size
  have hl6 : w5.heap.size < w6.heap.size := HZ6.lt
  clear HZ6 hz6 hk6 hb6 HB5 HM5 HA5
  obtain ⟨P, hP⟩ : ∃ P, P = w5.heap.size := ⟨_, rfl⟩
  rw [← hP] at HP6 hl6 hB5 ⊢
  clear hP
  obtain ⟨⟨g0, g1, g2⟩, f0, f1, f2⟩ := HA6.out
  by_cases hk2 : k < 2
  · have hmm : m' = m := by rw [← HE.out]; exact putB_none m k n b (.inl hk2)
    subst hmm
    go_wp2_with (first
      | refine wpList_rowLoad rfl 37 (.tmp 9) rfl _ 0 136 m'.cell rfl HP6.out (by omega) (fun i _ => by rw [Nat.zero_add]) Tryd.underlying37 rfl (by kernel_rfl) ?_
      | refine wpList_rowLoad rfl 37 (.tmp 5) rfl _ 0 136 m'.cell rfl HM6.out (by omega) (fun i _ => by rw [Nat.zero_add]) Tryd.underlying37 rfl (by kernel_rfl) ?_
      | fail)
    refine Calls.mono (memSame_self m' hm w6) ?_
    rintro e w7 ⟨rfl, hb7⟩
    have HB7 : Hid (Below w.heap.size w w7) := HB6.out.trans (hb7.mono HB6.out.size)
    clear g0 g1 g2 f0 f1 f2 HB6 HM6 HA6 hb7 HP6
    go_wp2
    go_ret
    exact ⟨rfl, HB7.out⟩
  by_cases hk5 : 5 < k
  · have hmm : m' = m := by rw [← HE.out]; exact putB_none m k n b (.inr hk5)
    subst hmm
    go_wp2_with (first
      | refine wpList_rowLoad rfl 37 (.tmp 9) rfl _ 0 136 m'.cell rfl HP6.out (by omega) (fun i _ => by rw [Nat.zero_add]) Tryd.underlying37 rfl (by kernel_rfl) ?_
      | refine wpList_rowLoad rfl 37 (.tmp 5) rfl _ 0 136 m'.cell rfl HM6.out (by omega) (fun i _ => by rw [Nat.zero_add]) Tryd.underlying37 rfl (by kernel_rfl) ?_
      | fail)
    refine Calls.mono (memSame_self m' hm w6) ?_
    rintro e w7 ⟨rfl, hb7⟩
    have HB7 : Hid (Below w.heap.size w w7) := HB6.out.trans (hb7.mono HB6.out.size)
    clear g0 g1 g2 f0 f1 f2 HB6 HM6 HA6 hb7 HP6
    go_wp2
    go_ret
    exact ⟨rfl, HB7.out⟩
  have HH6 : Hid (IsRow w6 a2 len2) := HH2.out.belowY HB6.out
  go_wp2_with fail
  refine (drawBit_any a2 len2 cap2 _ HH6.out hlc2).mono ?_
  rintro e w7 ⟨m2, k2, n2, p2, rfl, hm2, hk2', hn2, hp2, hb7⟩
  have HB7 : Hid (Below w.heap.size w w7) := HB6.out.trans (hb7.mono HB6.out.size)
  have HM7 : Hid (MemAt w7 B m) := HM6.out.to hb7
  have HP7 : Hid (MemAt w7 P m') := HP6.out.to hb7
  have HA7 : Hid (Own w7 (B + 1) (.int .i64 k) (.int .i64 n) (.int .i64 p)) := HA6.out.below hb7
  have hl7 : P < w7.heap.size := HP7.out.lt
  clear g0 g1 g2 f0 f1 f2 HB6 HM6 HA6 hb7 HP6 HH6 HH2
  have HOA : Hid (∀ W : World, W.heap[w7.heap.size + 1]? = (((w7.alloc (.cells zeroM.cells 37)).alloc (.cells #[.int .i64 0, .int .i64 0, .int .i64 0] 39)).heap)[w7.heap.size + 1]? → Own W (w7.heap.size + 1) (.int .i64 0) (.int .i64 0) (.int .i64 0)) := fun W e => by
    have := Own.new (w7.alloc (.cells zeroM.cells 37)) (.int .i64 0) (.int .i64 0) (.int .i64 0)
    rw [show (w7.alloc (.cells zeroM.cells 37)).heap.size = w7.heap.size + 1 by simp] at this
    exact this.byBlock e
  go_upto_region 9 with (refine wpList_rowStore rfl 37 (.tmp 10) (.tmp 48) rfl w7.heap.size 0 136 m2.cell m2.cell rfl rfl ((RowAt.new w7 37 136 zeroM.cell).alloc _) (by omega) (fun i _ => cell_one m2 i) (fun i hi => by rw [if_pos ⟨by omega, by omega⟩, Nat.sub_zero]) (by kernel_rfl) ?_; intro w8 HZ8 hz8 hk8 hb8; have oA := HOA.out w8 (hk8 _ (by omega)); obtain ⟨⟨g0, g1, g2⟩, f0, f1, f2⟩ := oA)
  have HB8 : Hid (Below w.heap.size w (((w8.setCell ⟨w7.heap.size + 1, 0, none⟩ (.int .i64 k2)).setCell ⟨w7.heap.size + 1, 1, none⟩ (.int .i64 n2)).setCell ⟨w7.heap.size + 1, 2, none⟩ (.int .i64 p2))) := put3_below (hb8 _ _ ((HB7.out.alloc HB7.out.size _).alloc (by have := HB7.out.size; simp; omega) _) HB7.out.size) (by have := HB7.out.size; omega)
  have HM8 : Hid (MemAt (((w8.setCell ⟨w7.heap.size + 1, 0, none⟩ (.int .i64 k2)).setCell ⟨w7.heap.size + 1, 1, none⟩ (.int .i64 n2)).setCell ⟨w7.heap.size + 1, 2, none⟩ (.int .i64 p2)) B m) := (((RowAt.by ((RowAt.alloc HM7.out _).alloc _) (hk8 B (by omega))).other (.int .i64 k2) (by omega)).other (.int .i64 n2) (by omega)).other (.int .i64 p2) (by omega)
  have HP8 : Hid (MemAt (((w8.setCell ⟨w7.heap.size + 1, 0, none⟩ (.int .i64 k2)).setCell ⟨w7.heap.size + 1, 1, none⟩ (.int .i64 n2)).setCell ⟨w7.heap.size + 1, 2, none⟩ (.int .i64 p2)) P m') := (((RowAt.by ((RowAt.alloc HP7.out _).alloc _) (hk8 P (by omega))).other (.int .i64 k2) (by omega)).other (.int .i64 n2) (by omega)).other (.int .i64 p2) (by omega)
  have HA8 : Hid (Own (((w8.setCell ⟨w7.heap.size + 1, 0, none⟩ (.int .i64 k2)).setCell ⟨w7.heap.size + 1, 1, none⟩ (.int .i64 n2)).setCell ⟨w7.heap.size + 1, 2, none⟩ (.int .i64 p2)) (B + 1) (.int .i64 k) (.int .i64 n) (.int .i64 p)) := (((((HA7.out.alloc _).alloc _).byBlock (hk8 (B + 1) (by omega))).set (by omega)).set (by omega)).set (by omega)
  have HO8 : Hid (Own (((w8.setCell ⟨w7.heap.size + 1, 0, none⟩ (.int .i64 k2)).setCell ⟨w7.heap.size + 1, 1, none⟩ (.int .i64 n2)).setCell ⟨w7.heap.size + 1, 2, none⟩ (.int .i64 p2)) (w7.heap.size + 1) (.int .i64 k2) (.int .i64 n2) (.int .i64 p2)) := Own.put ⟨⟨g0, g1, g2⟩, f0, f1, f2⟩ _ _ _
  generalize (((w8.setCell ⟨w7.heap.size + 1, 0, none⟩ (.int .i64 k2)).setCell ⟨w7.heap.size + 1, 1, none⟩ (.int .i64 n2)).setCell ⟨w7.heap.size + 1, 2, none⟩ (.int .i64 p2)) = V at *
  clear HZ8 hz8 hk8 hb8 g0 g1 g2 f0 f1 f2 HOA HB7 HM7 HP7 HA7
  obtain ⟨O, hO⟩ : ∃ O, O = w7.heap.size := ⟨_, rfl⟩
  rw [← hO] at HO8 hl7 ⊢
  clear hO
  have hTV : Hid (DevTab V) := HT.out.to HB8.out
  obtain ⟨⟨g0, g1, g2⟩, f0, f1, f2⟩ := HO8.out
  go_wp2_with (first
    | refine wpList_rowLoad rfl 37 (.tmp 5) rfl _ 0 136 m.cell rfl HM8.out (by omega) (fun i _ => by rw [Nat.zero_add]) Tryd.underlying37 rfl (by kernel_rfl) ?_
    | fail)
  refine Calls.mono (ibit_any m hm k2 n2 p2 V hTV.out) ?_
  rintro e w9 ⟨rfl, hb9⟩
  have HB9 : Hid (Below w.heap.size w w9) := HB8.out.trans (hb9.mono HB8.out.size)
  have HM9 : Hid (MemAt w9 B m) := HM8.out.to hb9
  have HP9 : Hid (MemAt w9 P m') := HP8.out.to hb9
  have HA9 : Hid (Own w9 (B + 1) (.int .i64 k) (.int .i64 n) (.int .i64 p)) := HA8.out.below hb9
  have HO9 : Hid (Own w9 (O + 1) (.int .i64 k2) (.int .i64 n2) (.int .i64 p2)) := HO8.out.below hb9
  clear g0 g1 g2 f0 f1 f2 HB8 HM8 HA8 HO8 HP8 hb9 hTV
  obtain ⟨⟨ac0, ac1, ac2⟩, -, -, -⟩ := HA9.out
  have qa0 := cell_regrown ac0
  have qa1 := cell_regrown ac1
  have qa2 := cell_regrown ac2
  obtain ⟨⟨oc0, oc1, oc2⟩, -, -, -⟩ := HO9.out
  have qo0 := cell_regrown oc0
  have qo1 := cell_regrown oc1
  have qo2 := cell_regrown oc2
  obtain ⟨cA, hcA⟩ : ∃ c, c = okB k n p := ⟨_, rfl⟩
  obtain ⟨cO, hcO⟩ : ∃ c, c = okB k2 n2 p2 := ⟨_, rfl⟩
  obtain ⟨cE, hcE⟩ : ∃ c, c = !(k2 == k && (n2 == n && p2 == p)) := ⟨_, rfl⟩
  obtain ⟨bo, hbo⟩ : ∃ c, c = m.bit k2 n2 := ⟨_, rfl⟩
  obtain ⟨bp, hbp⟩ : ∃ c, c = m'.bit k2 n2 := ⟨_, rfl⟩
  obtain ⟨ww, hww⟩ : ∃ c, c = m.whole k2 n2 := ⟨_, rfl⟩
  obtain ⟨bw, hbw⟩ : ∃ c, c = m.bit k n := ⟨_, rfl⟩
  have hww' : m'.whole k2 n2 = ww := by rw [hww, ← HE.out]; exact putB_whole m k n b k2 n2
  have HBb : Hid (m'.bit k n = b) := by rw [← HE.out]; exact putB_bit m k n b (by omega) (by omega)
  have HBk : Hid (m'.putB k n bw = m) := by rw [hbw, ← HE.out]; exact putB_back m k n b (by omega) (by omega)
  have HF : Hid (cA = true → cO = true → cE = true → bp = bo) := fun h1 h2 h3 => by
    rw [hbp, hbo, ← HE.out]
    refine putB_far m k n b k2 n2 fun hkk hpl => ?_
    obtain ⟨e1, e2⟩ := ok_plc (show 2 ≤ k by omega) (show k ≤ 5 by omega) (hcA.symm.trans h1)
    rw [hkk] at hcO hcE
    obtain ⟨e3, e4⟩ := ok_plc (show 2 ≤ k by omega) (show k ≤ 5 by omega) (hcO.symm.trans h2)
    rw [h3, e2, e4, show n2 = n by omega] at hcE
    simp at hcE
  have hne : ∀ w, (binOp .neq 39 (.agg #[.int .i64 k2, .int .i64 n2, .int .i64 p2]) (.agg #[.int .i64 k, .int .i64 n, .int .i64 p])).run Tryd.prog w = .ok (.bool cE) w := fun w => by rw [hcE]; exact neq_dev _ _ _ _ _ _ w
  have HT9 : Hid (∀ W, Below w9.heap.size w9 W → DevTab W) := fun W hW => HT.out.to (HB9.out.trans (hW.mono HB9.out.size))
  have C1 : Hid (∀ (d : Nat) (os : Array Obj), Calls Tryd.prog 14 #[.agg #[.int .i64 k, .int .i64 n, .int .i64 p]] (Sort.grow (redrawn w9 d) os) fun e w'' => e = .returned (.bool cA) ∧ ∃ p' : Regrown, w'' = Sort.grow (redrawn w9 p'.d) p'.os) := fun d os => callY (fun W _ => hcA ▸ sOk_any k n p W) d os
  have C2 : Hid (∀ (d : Nat) (os : Array Obj), Calls Tryd.prog 14 #[.agg #[.int .i64 k2, .int .i64 n2, .int .i64 p2]] (Sort.grow (redrawn w9 d) os) fun e w'' => e = .returned (.bool cO) ∧ ∃ p' : Regrown, w'' = Sort.grow (redrawn w9 p'.d) p'.os) := fun d os => callY (fun W _ => hcO ▸ sOk_any k2 n2 p2 W) d os
  have C3 : Hid (∀ (d : Nat) (os : Array Obj), Calls Tryd.prog 10 #[m'.val, .agg #[.int .i64 k2, .int .i64 n2, .int .i64 p2]] (Sort.grow (redrawn w9 d) os) fun e w'' => e = .returned (.bool bp) ∧ ∃ p' : Regrown, w'' = Sort.grow (redrawn w9 p'.d) p'.os) := fun d os => callY (fun W hW => hbp ▸ ibit_any m' hok' k2 n2 p2 W (HT9.out W hW)) d os
  have C4 : Hid (∀ (d : Nat) (os : Array Obj), Calls Tryd.prog 15 #[m'.val, .agg #[.int .i64 k2, .int .i64 n2, .int .i64 p2]] (Sort.grow (redrawn w9 d) os) fun e w'' => e = .returned (.int .i16 ww) ∧ ∃ p' : Regrown, w'' = Sort.grow (redrawn w9 p'.d) p'.os) := fun d os => callY (fun W hW => hww' ▸ iwhole_any m' hok' k2 n2 p2 W (HT9.out W hW)) d os
  have C5 : Hid (∀ (d : Nat) (os : Array Obj), Calls Tryd.prog 15 #[m.val, .agg #[.int .i64 k2, .int .i64 n2, .int .i64 p2]] (Sort.grow (redrawn w9 d) os) fun e w'' => e = .returned (.int .i16 ww) ∧ ∃ p' : Regrown, w'' = Sort.grow (redrawn w9 p'.d) p'.os) := fun d os => callY (fun W hW => hww ▸ iwhole_any m hm k2 n2 p2 W (HT9.out W hW)) d os
  have HCM : Hid (∀ w', (∃ p : Regrown, w' = Sort.grow (redrawn w9 p.d) p.os) → MemAt w' B m) := memY HM9.out
  have HCP : Hid (∀ w', (∃ p : Regrown, w' = Sort.grow (redrawn w9 p.d) p.os) → MemAt w' P m') := memY HP9.out
  rw [← hbo, ← hbw]
  have hee : (bo == bo) = true := by cases bo <;> rfl
  have hww2 : (ww == ww) = true := by simp
  clear hcA hcO hcE hbo hbp hww hww' hbw
  cases cA
  rotate_left 1
  cases cO
  rotate_left 1
  cases cE
  all_goals (try (obtain rfl := HF.out rfl rfl rfl))
  all_goals go_upto_region 10 with fail
  all_goals refine wp_region_quiet_below (by kernel_rfl) (by kernel_rfl) ?_
  all_goals (repeat (first | (refine wpQuiet_memLoad (by rfl) (.tmp 5) (by rfl) (by rfl) HCM.out ?_; simp only [Act.put, List.setIfInBounds_toArray, List.set_cons_zero, List.set_cons_succ]) | (refine wpQuiet_memLoad (by rfl) (.tmp 9) (by rfl) (by rfl) HCP.out ?_; simp only [Act.put, List.setIfInBounds_toArray, List.set_cons_zero, List.set_cons_succ]) | go_big_quiet_step (first | with_reducible exact C1.out _ _ | with_reducible exact C2.out _ _ | with_reducible exact C3.out _ _ | with_reducible exact C4.out _ _ | with_reducible exact C5.out _ _) | quiet_step (first | with_reducible exact C1.out _ _ | with_reducible exact C2.out _ _ | with_reducible exact C3.out _ _ | with_reducible exact C4.out _ _ | with_reducible exact C5.out _ _)))
  all_goals refine wpQuiet_nil ?_
  all_goals (
    intro _ hw'
    obtain ⟨⟨dq, osq⟩, hw''⟩ := hw'
    subst hw''
    have HBq : Hid (Below w.heap.size w (Sort.grow (redrawn w9 dq) osq)) := HB9.out.trans ((below_regrown _ dq osq).mono HB9.out.size)
    have HMq : Hid (MemAt (Sort.grow (redrawn w9 dq) osq) B m) := HCM.out _ ⟨⟨dq, osq⟩, rfl⟩
    have HPq : Hid (MemAt (Sort.grow (redrawn w9 dq) osq) P m') := HCP.out _ ⟨⟨dq, osq⟩, rfl⟩
    have HAq : Hid (Own (Sort.grow (redrawn w9 dq) osq) (B + 1) (.int .i64 k) (.int .i64 n) (.int .i64 p)) := HA9.out.below (below_regrown _ dq osq)
    clear qa0 qa1 qa2 qo0 qo1 qo2 C1 C2 C3 C4 C5 HCM HCP HT9 HB9 HM9 HP9 HA9 HO9 HF ac0 ac1 ac2 oc0 oc1 oc2 hne
    generalize Sort.grow (redrawn w9 dq) osq = wq at *
    obtain ⟨⟨ac0, ac1, ac2⟩, -, -, -⟩ := HAq.out
    have qa0 := cell_regrown ac0
    have qa1 := cell_regrown ac1
    have qa2 := cell_regrown ac2
    have HTq : Hid (∀ W, Below wq.heap.size wq W → DevTab W) := fun W hW => HT.out.to (HBq.out.trans (hW.mono HBq.out.size))
    have C1 : Hid (∀ (d : Nat) (os : Array Obj), Calls Tryd.prog 10 #[m'.val, .agg #[.int .i64 k, .int .i64 n, .int .i64 p]] (Sort.grow (redrawn wq d) os) fun e w'' => e = .returned (.bool b) ∧ ∃ p' : Regrown, w'' = Sort.grow (redrawn wq p'.d) p'.os) := fun d os => callY (fun W hW => by have := ibit_any m' hok' k n p W (HTq.out W hW); rwa [HBb.out] at this) d os
    have C2 : Hid (∀ (d : Nat) (os : Array Obj), Calls Tryd.prog 11 #[m'.val, .agg #[.int .i64 k, .int .i64 n, .int .i64 p], .bool bw] (Sort.grow (redrawn wq d) os) fun e w'' => e = .returned m.val ∧ ∃ p' : Regrown, w'' = Sort.grow (redrawn wq p'.d) p'.os) := fun d os => callY (fun W hW => by have := iPut_any m' hok' k n p bw W (HTq.out W hW); rwa [HBk.out] at this) d os
    have C3 : Hid (∀ (d : Nat) (os : Array Obj), Calls Tryd.prog 12 #[m.val, m.val] (Sort.grow (redrawn wq d) os) fun e w'' => e = .returned (.bool true) ∧ ∃ p' : Regrown, w'' = Sort.grow (redrawn wq p'.d) p'.os) := fun d os => callY (fun W _ => memSame_self m hm W) d os
    have HCM : Hid (∀ w', (∃ p : Regrown, w' = Sort.grow (redrawn wq p.d) p.os) → MemAt w' B m) := memY HMq.out
    have HCP : Hid (∀ w', (∃ p : Regrown, w' = Sort.grow (redrawn wq p.d) p.os) → MemAt w' P m') := memY HPq.out
    have hbb : (b == b) = true := by cases b <;> rfl
    go_upto_region 12 with fail
    refine wp_region_quiet_below (by kernel_rfl) (by kernel_rfl) ?_
    repeat (first | (refine wpQuiet_memLoad (by rfl) (.tmp 5) (by rfl) (by rfl) HCM.out ?_; simp only [Act.put, List.setIfInBounds_toArray, List.set_cons_zero, List.set_cons_succ]) | (refine wpQuiet_memLoad (by rfl) (.tmp 9) (by rfl) (by rfl) HCP.out ?_; simp only [Act.put, List.setIfInBounds_toArray, List.set_cons_zero, List.set_cons_succ]) | go_big_quiet_step (first | with_reducible exact C1.out _ _ | with_reducible exact C2.out _ _ | with_reducible exact C3.out _ _) | quiet_step (first | with_reducible exact C1.out _ _ | with_reducible exact C2.out _ _ | with_reducible exact C3.out _ _))
    refine wpQuiet_nil ?_
    intro _ hw'
    obtain ⟨⟨dr, osr⟩, hw''⟩ := hw'
    subst hw''
    have HBr : Hid (Below w.heap.size w (Sort.grow (redrawn wq dr) osr)) := HBq.out.trans ((below_regrown _ dr osr).mono HBq.out.size)
    clear qa0 qa1 qa2
    generalize Sort.grow (redrawn wq dr) osr = wr at *
    go_wp2
    go_ret
    exact ⟨rfl, HBr.out⟩)
end Go.Proofs.YtljhpagpohihcaaDoor
