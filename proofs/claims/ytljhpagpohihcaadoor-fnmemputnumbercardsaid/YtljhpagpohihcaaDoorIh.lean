/- The walk of the law FnMemPutNumber. Helper text: no statement is claimed here. -/
import Derived.Test.YtljhpagpohihcaaDoorIc
import Derived.Test.YtljhpagpohihcaaDoorZh
import Derived.Test.YtljhpagpohihcaaDoorYc
import Derived.Test.YtljhpagpohihcaaDoorYe
import Derived.Test.YtljhpagpohihcaaDoorYf
import Derived.Test.YtljhpagpohihcaaDoorYg
import Derived.Test.YtljhpagpohihcaaDoorCt
import Derived.Test.YtljhpagpohihcaaDoorIj
import Derived.Test.YtljhpagpohihcaaDoorYq
import Derived.Deep.CutRange
namespace Go.Proofs.YtljhpagpohihcaaDoor
open Go.ChangeShapes Go.WideShapes Go.ChangeAt Go.RowKit Fl

theorem IsRow.belowN {w w' : World} {a : Option Addr} {len : Nat} (h : IsRow w a len) (hb : Below w.heap.size w w') : IsRow w' a len := by
  rcases h with h | ⟨b, off, f, rfl, hc⟩
  · exact .inl h
  · refine .inr ⟨b, off, f, rfl, fun i hi => ?_⟩
    have := hc i hi
    rw [hb.cell (p := ⟨b, off + i, none⟩) (World.block_lt_of_cell? w ⟨b, off + i, none⟩ this.1)]
    exact this

/-- A quiet walk that is not to be looked into: a row of operations that are passed by is reckoned again and again else. -/
structure WQ (ops : Array Oper) (C : World → Prop) (Q : Act → Prop) (l : List Oper) (a : Act) : Prop where
  out : wpQuiet Tryd.prog ops C Q l a
theorem WQ.moveTo {ops : Array Oper} {C : World → Prop} {Q : Act → Prop} {rest : List Oper} {o : Oper} {a : Act} (hw : Region.wanted o (yielded ops a.tmps) = true) (x : Operand) (ho : o.op = .move x) (v : Value) (hv : a.eval x = v) (h : WQ ops C Q rest (a.put o.dst v)) : wpQuiet Tryd.prog ops C Q (o :: rest) a :=
  BigFrame.wpQuiet_want hw fun K hK => BigFrame.quiet_move x ho (by rw [hv]; exact hK _ h.out)
theorem WQ.skip {ops : Array Oper} {C : World → Prop} {Q : Act → Prop} {rest : List Oper} {o : Oper} {a : Act} (hw : Region.wanted o (yielded ops a.tmps) = false) (h : WQ ops C Q rest (a.put o.dst undef)) : WQ ops C Q (o :: rest) a :=
  ⟨BigFrame.wpQuiet_skip hw h.out⟩

/-- What is kept behind the law's first half. -/
def CutN (w : World) (C : Nat) (m2 : Mm) (k2 n2 p2 : Int) (wx : World) : Prop := Below w.heap.size w wx ∧ MemAt wx C m2 ∧ Own wx (C + 1) (.int .i64 k2) (.int .i64 n2) (.int .i64 p2)

set_option maxHeartbeats 4000000 in
set_option maxRecDepth 100000 in
theorem memPutN_walk (a a2 : Option Addr) (len cap len2 cap2 : Nat) (w : World) (h : IsRow w a len) (hlc : len ≤ cap) (h2 : IsRow w a2 len2) (hlc2 : len2 ≤ cap2) (hT : DevTab w) :
    Calls Tryd.prog 4 #[.slice a len cap, .slice a2 len2 cap2] w fun e w' => e = .returned (.bool true) ∧ Below w.heap.size w w' := by
  have HT : Hid (DevTab w) := hT
  have HH : Hid (IsRow w a len) := h
  have HH2 : Hid (IsRow w a2 len2) := h2
  have hz : ∀ w, (zeroValue 37).run Tryd.prog w = .ok (.agg zeroM.cells) w := fun _ => by kernel_rfl
  clear hT h h2
  by_cases hl : (1048576 : Int) < (len : Int)
  · go_enter Tryd.func4, Tryd.ntmps4
    go_wp2
    go_ret
    exact ⟨rfl, Below.refl _ _⟩
  by_cases hl2 : (1048576 : Int) < (len2 : Int)
  · go_enter Tryd.func4, Tryd.ntmps4
    go_wp2
    go_ret
    exact ⟨rfl, Below.refl _ _⟩
  go_enter Tryd.func4, Tryd.ntmps4
  go_wp2_with fail
  refine (drawPutW_any a len cap _ HH.out hlc).mono ?_
  rintro e w1 ⟨m, k, n, p, v, rfl, hm, hk, hn, hp, ⟨b, rfl, b0, b1⟩, hb1⟩
  have HB1 : Hid (Below w.heap.size w w1) := hb1
  have hle : w.heap.size ≤ w1.heap.size := hb1.size
  clear hb1 HH
  have HOA : Hid (∀ W : World, W.heap[w1.heap.size + 1]? = (((w1.alloc (.cells zeroM.cells 37)).alloc (.cells #[.int .i64 0, .int .i64 0, .int .i64 0] 39)).heap)[w1.heap.size + 1]? → Own W (w1.heap.size + 1) (.int .i64 0) (.int .i64 0) (.int .i64 0)) := fun W e => by
    have := Own.new (w1.alloc (.cells zeroM.cells 37)) (.int .i64 0) (.int .i64 0) (.int .i64 0)
    rw [show (w1.alloc (.cells zeroM.cells 37)).heap.size = w1.heap.size + 1 by simp] at this
    exact this.byBlock e
  go_upto_region 4 with (refine wpList_rowStore rfl 37 (.tmp 5) (.tmp 26) rfl w1.heap.size 0 136 m.cell m.cell rfl rfl ((RowAt.new w1 37 136 zeroM.cell).alloc _) (by omega) (fun i _ => cell_one m i) (fun i hi => by rw [if_pos ⟨by omega, by omega⟩, Nat.sub_zero]) (by kernel_rfl) ?_; intro w2 HZ2 hz2 hk2 hb2; have oA := HOA.out w2 (hk2 _ (by omega)); obtain ⟨⟨g0, g1, g2⟩, f0, f1, f2⟩ := oA)
  have HB3 : Hid (Below w.heap.size w (((w2.setCell ⟨w1.heap.size + 1, 0, none⟩ (.int .i64 k)).setCell ⟨w1.heap.size + 1, 1, none⟩ (.int .i64 n)).setCell ⟨w1.heap.size + 1, 2, none⟩ (.int .i64 p))) := ((((hb2 _ _ ((HB1.out.alloc hle _).alloc (by simp; omega) _) hle).setCell (p := ⟨_, _, none⟩) (by show w.heap.size ≤ w1.heap.size + 1; omega) _).setCell (p := ⟨_, _, none⟩) (by show w.heap.size ≤ w1.heap.size + 1; omega) _).setCell (p := ⟨_, _, none⟩) (by show w.heap.size ≤ w1.heap.size + 1; omega) _)
  have HM3 : Hid (MemAt (((w2.setCell ⟨w1.heap.size + 1, 0, none⟩ (.int .i64 k)).setCell ⟨w1.heap.size + 1, 1, none⟩ (.int .i64 n)).setCell ⟨w1.heap.size + 1, 2, none⟩ (.int .i64 p)) w1.heap.size m) := ((RowAt.other HZ2 (.int .i64 k) (by omega)).other (.int .i64 n) (by omega)).other (.int .i64 p) (by omega)
  have HA3 : Hid (Own (((w2.setCell ⟨w1.heap.size + 1, 0, none⟩ (.int .i64 k)).setCell ⟨w1.heap.size + 1, 1, none⟩ (.int .i64 n)).setCell ⟨w1.heap.size + 1, 2, none⟩ (.int .i64 p)) (w1.heap.size + 1) (.int .i64 k) (.int .i64 n) (.int .i64 p)) := Own.put ⟨⟨g0, g1, g2⟩, f0, f1, f2⟩ _ _ _
  generalize (((w2.setCell ⟨w1.heap.size + 1, 0, none⟩ (.int .i64 k)).setCell ⟨w1.heap.size + 1, 1, none⟩ (.int .i64 n)).setCell ⟨w1.heap.size + 1, 2, none⟩ (.int .i64 p)) = W at *
  clear HZ2 hz2 hk2 hb2 g0 g1 g2 f0 f1 f2 HOA HB1
  obtain ⟨B, hB⟩ : ∃ B, B = w1.heap.size := ⟨_, rfl⟩
  rw [← hB] at HM3 HA3 ⊢
  rw [← hB] at hle
  clear hB
  have hBW : B + 1 < W.heap.size := HA3.out.lt
  have HH3 : Hid (IsRow W a2 len2) := HH2.out.belowN HB3.out
  go_wp2_with fail
  refine (drawPutR_any a2 len2 cap2 _ HH3.out hlc2).mono ?_
  rintro e w7 ⟨m2, k2, n2, p2, v2, rfl, hm2, hk2', hn2, hp2, ⟨x, rfl, hx⟩, hb7⟩
  have HB7 : Hid (Below w.heap.size w w7) := HB3.out.trans (hb7.mono HB3.out.size)
  have HM7 : Hid (MemAt w7 B m) := HM3.out.to hb7
  have HA7 : Hid (Own w7 (B + 1) (.int .i64 k) (.int .i64 n) (.int .i64 p)) := HA3.out.below hb7
  have hl7 : B + 1 < w7.heap.size := HA7.out.lt
  clear HB3 HM3 HA3 hb7 HH3 HH2 hBW
  have HOA : Hid (∀ W : World, W.heap[w7.heap.size + 1]? = (((w7.alloc (.cells zeroM.cells 37)).alloc (.cells #[.int .i64 0, .int .i64 0, .int .i64 0] 39)).heap)[w7.heap.size + 1]? → Own W (w7.heap.size + 1) (.int .i64 0) (.int .i64 0) (.int .i64 0)) := fun W e => by
    have := Own.new (w7.alloc (.cells zeroM.cells 37)) (.int .i64 0) (.int .i64 0) (.int .i64 0)
    rw [show (w7.alloc (.cells zeroM.cells 37)).heap.size = w7.heap.size + 1 by simp] at this
    exact this.byBlock e
  go_upto_region 5 with (refine wpList_rowStore rfl 37 (.tmp 8) (.tmp 32) rfl w7.heap.size 0 136 m2.cell m2.cell rfl rfl ((RowAt.new w7 37 136 zeroM.cell).alloc _) (by omega) (fun i _ => cell_one m2 i) (fun i hi => by rw [if_pos ⟨by omega, by omega⟩, Nat.sub_zero]) (by kernel_rfl) ?_; intro w8 HZ8 hz8 hk8 hb8; have oA := HOA.out w8 (hk8 _ (by omega)); obtain ⟨⟨g0, g1, g2⟩, f0, f1, f2⟩ := oA)
  have HB8 : Hid (Below w.heap.size w (((w8.setCell ⟨w7.heap.size + 1, 0, none⟩ (.int .i64 k2)).setCell ⟨w7.heap.size + 1, 1, none⟩ (.int .i64 n2)).setCell ⟨w7.heap.size + 1, 2, none⟩ (.int .i64 p2))) := put3_below (hb8 _ _ ((HB7.out.alloc HB7.out.size _).alloc (by have := HB7.out.size; simp; omega) _) HB7.out.size) (by have := HB7.out.size; omega)
  have HM8 : Hid (MemAt (((w8.setCell ⟨w7.heap.size + 1, 0, none⟩ (.int .i64 k2)).setCell ⟨w7.heap.size + 1, 1, none⟩ (.int .i64 n2)).setCell ⟨w7.heap.size + 1, 2, none⟩ (.int .i64 p2)) B m) := (((RowAt.by ((RowAt.alloc HM7.out _).alloc _) (hk8 B (by omega))).other (.int .i64 k2) (by omega)).other (.int .i64 n2) (by omega)).other (.int .i64 p2) (by omega)
  have HA8 : Hid (Own (((w8.setCell ⟨w7.heap.size + 1, 0, none⟩ (.int .i64 k2)).setCell ⟨w7.heap.size + 1, 1, none⟩ (.int .i64 n2)).setCell ⟨w7.heap.size + 1, 2, none⟩ (.int .i64 p2)) (B + 1) (.int .i64 k) (.int .i64 n) (.int .i64 p)) := (((((HA7.out.alloc _).alloc _).byBlock (hk8 (B + 1) (by omega))).set (by omega)).set (by omega)).set (by omega)
  have HN8 : Hid (MemAt (((w8.setCell ⟨w7.heap.size + 1, 0, none⟩ (.int .i64 k2)).setCell ⟨w7.heap.size + 1, 1, none⟩ (.int .i64 n2)).setCell ⟨w7.heap.size + 1, 2, none⟩ (.int .i64 p2)) w7.heap.size m2) := ((RowAt.other HZ8 (.int .i64 k2) (by omega)).other (.int .i64 n2) (by omega)).other (.int .i64 p2) (by omega)
  have HO8 : Hid (Own (((w8.setCell ⟨w7.heap.size + 1, 0, none⟩ (.int .i64 k2)).setCell ⟨w7.heap.size + 1, 1, none⟩ (.int .i64 n2)).setCell ⟨w7.heap.size + 1, 2, none⟩ (.int .i64 p2)) (w7.heap.size + 1) (.int .i64 k2) (.int .i64 n2) (.int .i64 p2)) := Own.put ⟨⟨g0, g1, g2⟩, f0, f1, f2⟩ _ _ _
  generalize (((w8.setCell ⟨w7.heap.size + 1, 0, none⟩ (.int .i64 k2)).setCell ⟨w7.heap.size + 1, 1, none⟩ (.int .i64 n2)).setCell ⟨w7.heap.size + 1, 2, none⟩ (.int .i64 p2)) = V at *
  clear HZ8 hz8 hk8 hb8 g0 g1 g2 f0 f1 f2 HOA HB7 HM7 HA7
  obtain ⟨C, hC⟩ : ∃ C, C = w7.heap.size := ⟨_, rfl⟩
  rw [← hC] at HO8 HN8 hl7 ⊢
  clear hC
  have hTV : Hid (DevTab V) := HT.out.to HB8.out
  obtain ⟨⟨g0, g1, g2⟩, f0, f1, f2⟩ := HA8.out
  go_wp2_with (first
    | refine wpList_rowLoad rfl 37 (.tmp 5) rfl _ 0 136 m.cell rfl HM8.out (by omega) (fun i _ => by rw [Nat.zero_add]) Tryd.underlying37 rfl (by kernel_rfl) ?_
    | fail)
  refine Calls.mono (iwhole_any m hm k n p V hTV.out) ?_
  rintro e w9 ⟨rfl, hb9⟩
  obtain ⟨ww, hww⟩ : ∃ c, c = m.whole k n := ⟨_, rfl⟩
  rw [← hww]
  have HWW : Hid (ww = m.whole k n) := hww
  have HB9 : Hid (Below w.heap.size w w9) := HB8.out.trans (hb9.mono HB8.out.size)
  have HM9 : Hid (MemAt w9 B m) := HM8.out.to hb9
  have HN9 : Hid (MemAt w9 C m2) := HN8.out.to hb9
  have HA9 : Hid (Own w9 (B + 1) (.int .i64 k) (.int .i64 n) (.int .i64 p)) := HA8.out.below hb9
  have HO9 : Hid (Own w9 (C + 1) (.int .i64 k2) (.int .i64 n2) (.int .i64 p2)) := HO8.out.below hb9
  have hT9 : Hid (DevTab w9) := HT.out.to HB9.out
  clear g0 g1 g2 f0 f1 f2 HB8 HM8 HA8 HO8 HN8 hb9 hTV hww
  obtain ⟨⟨g0, g1, g2⟩, f0, f1, f2⟩ := HA9.out
  go_wp2_with (first
    | refine wpList_rowLoad rfl 37 (.tmp 5) rfl _ 0 136 m.cell rfl HM9.out (by omega) (fun i _ => by rw [Nat.zero_add]) Tryd.underlying37 rfl (by kernel_rfl) ?_
    | fail)
  refine Calls.mono (iPutW_any m k n p b w9 hT9.out) ?_
  rintro e w5 ⟨rfl, hb5⟩
  generalize hm' : m.putD k n b = m'
  have hok' : m'.Ok := by rw [← hm']; exact putD_ok hm b0 b1
  have HE : Hid (m.putD k n b = m') := hm'
  have HB5 : Hid (Below w.heap.size w w5) := HB9.out.trans (hb5.mono HB9.out.size)
  have HM5 : Hid (MemAt w5 B m) := HM9.out.to hb5
  have HN5 : Hid (MemAt w5 C m2) := HN9.out.to hb5
  have HA5 : Hid (Own w5 (B + 1) (.int .i64 k) (.int .i64 n) (.int .i64 p)) := HA9.out.below hb5
  have HO5 : Hid (Own w5 (C + 1) (.int .i64 k2) (.int .i64 n2) (.int .i64 p2)) := HO9.out.below hb5
  have hC5 : C + 1 < w5.heap.size := HO5.out.lt
  clear g0 g1 g2 f0 f1 f2 HB9 HM9 HN9 HA9 HO9 hb5 hT9 hm'
  go_upto_region 7 with (refine wpList_rowStore rfl 37 (.tmp 12) (.tmp 41) rfl w5.heap.size 0 136 m'.cell m'.cell rfl rfl (RowAt.new w5 37 136 zeroM.cell) (by omega) (fun i _ => cell_one m' i) (fun i hi => by rw [if_pos ⟨by omega, by omega⟩, Nat.sub_zero]) (by kernel_rfl) ?_; intro w6 HZ6 hz6 hk6 hb6)
  have HM6 : Hid (MemAt w6 B m) := RowAt.by (RowAt.alloc HM5.out _) (hk6 B (by omega))
  have HN6 : Hid (MemAt w6 C m2) := RowAt.by (RowAt.alloc HN5.out _) (hk6 C (by omega))
  have HA6 : Hid (Own w6 (B + 1) (.int .i64 k) (.int .i64 n) (.int .i64 p)) := (HA5.out.alloc _).byBlock (hk6 (B + 1) (by omega))
  have HO6 : Hid (Own w6 (C + 1) (.int .i64 k2) (.int .i64 n2) (.int .i64 p2)) := (HO5.out.alloc _).byBlock (hk6 (C + 1) (by omega))
  have HP6 : Hid (MemAt w6 w5.heap.size m') := HZ6
  have HB6 : Hid (Below w.heap.size w w6) := hb6 _ _ (HB5.out.alloc HB5.out.size _) HB5.out.size
  clear HZ6 hz6 hk6 hb6 HB5 HM5 HN5 HA5 HO5
  obtain ⟨P, hP⟩ : ∃ P, P = w5.heap.size := ⟨_, rfl⟩
  rw [← hP] at HP6 hC5 ⊢
  clear hP
  obtain ⟨⟨ac0, ac1, ac2⟩, -, -, -⟩ := HA6.out
  have qa0 := cell_regrown ac0
  have qa1 := cell_regrown ac1
  have qa2 := cell_regrown ac2
  have HT6 : Hid (∀ W, Below w6.heap.size w6 W → DevTab W) := fun W hW => HT.out.to (HB6.out.trans (hW.mono HB6.out.size))
  have HCM : Hid (∀ w', (∃ p : Regrown, w' = Sort.grow (redrawn w6 p.d) p.os) → MemAt w' B m) := memY HM6.out
  have HCP : Hid (∀ w', (∃ p : Regrown, w' = Sort.grow (redrawn w6 p.d) p.os) → MemAt w' P m') := memY HP6.out
  have C1 : Hid (∀ (d : Nat) (os : Array Obj), Calls Tryd.prog 12 #[m.val, m.val] (Sort.grow (redrawn w6 d) os) fun e w'' => e = .returned (.bool true) ∧ ∃ p' : Regrown, w'' = Sort.grow (redrawn w6 p'.d) p'.os) := fun d os => callY (fun W _ => memSame_self m hm W) d os
  simp only [Act.put]
  go_cut [71] from 42 to 71 (fun s wx => s = .bool false ∧ CutN w C m2 k2 n2 p2 wx)
  case first =>
    by_cases hk9 : k = 9
    · subst hk9
      have hbb : (b != b) = false := by simp
      have C2 : Hid (∀ (d : Nat) (os : Array Obj), Calls Tryd.prog 15 #[m'.val, .agg #[.int .i64 9, .int .i64 n, .int .i64 p]] (Sort.grow (redrawn w6 d) os) fun e w'' => e = .returned (.int .i16 b) ∧ ∃ p' : Regrown, w'' = Sort.grow (redrawn w6 p'.d) p'.os) := fun d os => callY (fun W hW => by have := iwhole_any m' hok' 9 n p W (HT6.out W hW); rwa [← HE.out, putD_whole, HE.out] at this) d os
      have C3 : Hid (∀ (d : Nat) (os : Array Obj), Calls Tryd.prog 18 #[m'.val, .agg #[.int .i64 9, .int .i64 n, .int .i64 p], .int .i16 ww] (Sort.grow (redrawn w6 d) os) fun e w'' => e = .returned m.val ∧ ∃ p' : Regrown, w'' = Sort.grow (redrawn w6 p'.d) p'.os) := fun d os => callY (fun W hW => by have := iPutW_any m' 9 n p ww W (HT6.out W hW); rwa [← HE.out, HWW.out, putD_back, HE.out, ← HWW.out] at this) d os
      refine wp_region_quiet_below (by kernel_rfl) (by kernel_rfl) ?_
      repeat (first | (refine wpQuiet_memLoad (by rfl) (.tmp 5) (by rfl) (by rfl) HCM.out ?_; simp only [Act.put, List.setIfInBounds_toArray, List.set_cons_zero, List.set_cons_succ]) | (refine wpQuiet_memLoad (by rfl) (.tmp 12) (by rfl) (by rfl) HCP.out ?_; simp only [Act.put, List.setIfInBounds_toArray, List.set_cons_zero, List.set_cons_succ]) | go_big_quiet_step (first | with_reducible exact C1.out _ _ | with_reducible exact C2.out _ _ | with_reducible exact C3.out _ _) | quiet_step (first | with_reducible exact C1.out _ _ | with_reducible exact C2.out _ _ | with_reducible exact C3.out _ _))
      refine wpQuiet_nil ?_
      intro _ hw'
      obtain ⟨⟨dq, osq⟩, hw''⟩ := hw'
      subst hw''
      go_wp2_with fail
      go_meet
      exact ⟨rfl, HB6.out.trans ((below_regrown _ dq osq).mono HB6.out.size), HN6.out.to (below_regrown _ dq osq), HO6.out.below (below_regrown _ dq osq)⟩
    · have hmm : m' = m := by rw [← HE.out]; exact putD_no m k n b hk9
      subst hmm
      have hk9' : (k != 9) = true := by simpa using hk9
      have hk9'' : (k == 9) = false := by simpa using hk9
      clear hk9
      refine wp_region_quiet_below (by kernel_rfl) (by kernel_rfl) ?_
      (first | (refine wpQuiet_memLoad (by rfl) (.tmp 5) (by rfl) (by rfl) HCM.out ?_; simp only [Act.put, List.setIfInBounds_toArray, List.set_cons_zero, List.set_cons_succ]) | (refine wpQuiet_memLoad (by rfl) (.tmp 12) (by rfl) (by rfl) HCP.out ?_; simp only [Act.put, List.setIfInBounds_toArray, List.set_cons_zero, List.set_cons_succ]) | go_big_quiet_step (first | with_reducible exact C1.out _ _) | quiet_step (first | with_reducible exact C1.out _ _))
      (first | (refine wpQuiet_memLoad (by rfl) (.tmp 5) (by rfl) (by rfl) HCM.out ?_; simp only [Act.put, List.setIfInBounds_toArray, List.set_cons_zero, List.set_cons_succ]) | (refine wpQuiet_memLoad (by rfl) (.tmp 12) (by rfl) (by rfl) HCP.out ?_; simp only [Act.put, List.setIfInBounds_toArray, List.set_cons_zero, List.set_cons_succ]) | go_big_quiet_step (first | with_reducible exact C1.out _ _) | quiet_step (first | with_reducible exact C1.out _ _))
      (first | (refine wpQuiet_memLoad (by rfl) (.tmp 5) (by rfl) (by rfl) HCM.out ?_; simp only [Act.put, List.setIfInBounds_toArray, List.set_cons_zero, List.set_cons_succ]) | (refine wpQuiet_memLoad (by rfl) (.tmp 12) (by rfl) (by rfl) HCP.out ?_; simp only [Act.put, List.setIfInBounds_toArray, List.set_cons_zero, List.set_cons_succ]) | go_big_quiet_step (first | with_reducible exact C1.out _ _) | quiet_step (first | with_reducible exact C1.out _ _))
      (first | (refine wpQuiet_memLoad (by rfl) (.tmp 5) (by rfl) (by rfl) HCM.out ?_; simp only [Act.put, List.setIfInBounds_toArray, List.set_cons_zero, List.set_cons_succ]) | (refine wpQuiet_memLoad (by rfl) (.tmp 12) (by rfl) (by rfl) HCP.out ?_; simp only [Act.put, List.setIfInBounds_toArray, List.set_cons_zero, List.set_cons_succ]) | go_big_quiet_step (first | with_reducible exact C1.out _ _) | quiet_step (first | with_reducible exact C1.out _ _))
      (first | (refine wpQuiet_memLoad (by rfl) (.tmp 5) (by rfl) (by rfl) HCM.out ?_; simp only [Act.put, List.setIfInBounds_toArray, List.set_cons_zero, List.set_cons_succ]) | (refine wpQuiet_memLoad (by rfl) (.tmp 12) (by rfl) (by rfl) HCP.out ?_; simp only [Act.put, List.setIfInBounds_toArray, List.set_cons_zero, List.set_cons_succ]) | go_big_quiet_step (first | with_reducible exact C1.out _ _) | quiet_step (first | with_reducible exact C1.out _ _))
      (first | (refine wpQuiet_memLoad (by rfl) (.tmp 5) (by rfl) (by rfl) HCM.out ?_; simp only [Act.put, List.setIfInBounds_toArray, List.set_cons_zero, List.set_cons_succ]) | (refine wpQuiet_memLoad (by rfl) (.tmp 12) (by rfl) (by rfl) HCP.out ?_; simp only [Act.put, List.setIfInBounds_toArray, List.set_cons_zero, List.set_cons_succ]) | go_big_quiet_step (first | with_reducible exact C1.out _ _) | quiet_step (first | with_reducible exact C1.out _ _))
      (first | (refine wpQuiet_memLoad (by rfl) (.tmp 5) (by rfl) (by rfl) HCM.out ?_; simp only [Act.put, List.setIfInBounds_toArray, List.set_cons_zero, List.set_cons_succ]) | (refine wpQuiet_memLoad (by rfl) (.tmp 12) (by rfl) (by rfl) HCP.out ?_; simp only [Act.put, List.setIfInBounds_toArray, List.set_cons_zero, List.set_cons_succ]) | go_big_quiet_step (first | with_reducible exact C1.out _ _) | quiet_step (first | with_reducible exact C1.out _ _))
      (first | (refine wpQuiet_memLoad (by rfl) (.tmp 5) (by rfl) (by rfl) HCM.out ?_; simp only [Act.put, List.setIfInBounds_toArray, List.set_cons_zero, List.set_cons_succ]) | (refine wpQuiet_memLoad (by rfl) (.tmp 12) (by rfl) (by rfl) HCP.out ?_; simp only [Act.put, List.setIfInBounds_toArray, List.set_cons_zero, List.set_cons_succ]) | go_big_quiet_step (first | with_reducible exact C1.out _ _) | quiet_step (first | with_reducible exact C1.out _ _))
      (first | (refine wpQuiet_memLoad (by rfl) (.tmp 5) (by rfl) (by rfl) HCM.out ?_; simp only [Act.put, List.setIfInBounds_toArray, List.set_cons_zero, List.set_cons_succ]) | (refine wpQuiet_memLoad (by rfl) (.tmp 12) (by rfl) (by rfl) HCP.out ?_; simp only [Act.put, List.setIfInBounds_toArray, List.set_cons_zero, List.set_cons_succ]) | go_big_quiet_step (first | with_reducible exact C1.out _ _) | quiet_step (first | with_reducible exact C1.out _ _))
      (first | (refine wpQuiet_memLoad (by rfl) (.tmp 5) (by rfl) (by rfl) HCM.out ?_; simp only [Act.put, List.setIfInBounds_toArray, List.set_cons_zero, List.set_cons_succ]) | (refine wpQuiet_memLoad (by rfl) (.tmp 12) (by rfl) (by rfl) HCP.out ?_; simp only [Act.put, List.setIfInBounds_toArray, List.set_cons_zero, List.set_cons_succ]) | go_big_quiet_step (first | with_reducible exact C1.out _ _) | quiet_step (first | with_reducible exact C1.out _ _))
      (first | (refine wpQuiet_memLoad (by rfl) (.tmp 5) (by rfl) (by rfl) HCM.out ?_; simp only [Act.put, List.setIfInBounds_toArray, List.set_cons_zero, List.set_cons_succ]) | (refine wpQuiet_memLoad (by rfl) (.tmp 12) (by rfl) (by rfl) HCP.out ?_; simp only [Act.put, List.setIfInBounds_toArray, List.set_cons_zero, List.set_cons_succ]) | go_big_quiet_step (first | with_reducible exact C1.out _ _) | quiet_step (first | with_reducible exact C1.out _ _))
      (first | (refine wpQuiet_memLoad (by rfl) (.tmp 5) (by rfl) (by rfl) HCM.out ?_; simp only [Act.put, List.setIfInBounds_toArray, List.set_cons_zero, List.set_cons_succ]) | (refine wpQuiet_memLoad (by rfl) (.tmp 12) (by rfl) (by rfl) HCP.out ?_; simp only [Act.put, List.setIfInBounds_toArray, List.set_cons_zero, List.set_cons_succ]) | go_big_quiet_step (first | with_reducible exact C1.out _ _) | quiet_step (first | with_reducible exact C1.out _ _))
      (first | (refine wpQuiet_memLoad (by rfl) (.tmp 5) (by rfl) (by rfl) HCM.out ?_; simp only [Act.put, List.setIfInBounds_toArray, List.set_cons_zero, List.set_cons_succ]) | (refine wpQuiet_memLoad (by rfl) (.tmp 12) (by rfl) (by rfl) HCP.out ?_; simp only [Act.put, List.setIfInBounds_toArray, List.set_cons_zero, List.set_cons_succ]) | go_big_quiet_step (first | with_reducible exact C1.out _ _) | quiet_step (first | with_reducible exact C1.out _ _))
      refine WQ.moveTo (by rfl) (.tmp 54) rfl (.bool false) (by rfl) ?_
      simp only [Act.put, List.setIfInBounds_toArray, List.set_cons_zero, List.set_cons_succ]
      (refine WQ.skip (by rfl) ?_; simp only [Act.put, List.setIfInBounds_toArray, List.set_cons_zero, List.set_cons_succ])
      (refine WQ.skip (by rfl) ?_; simp only [Act.put, List.setIfInBounds_toArray, List.set_cons_zero, List.set_cons_succ])
      (refine WQ.skip (by rfl) ?_; simp only [Act.put, List.setIfInBounds_toArray, List.set_cons_zero, List.set_cons_succ])
      (refine WQ.skip (by rfl) ?_; simp only [Act.put, List.setIfInBounds_toArray, List.set_cons_zero, List.set_cons_succ])
      (refine WQ.skip (by rfl) ?_; simp only [Act.put, List.setIfInBounds_toArray, List.set_cons_zero, List.set_cons_succ])
      (refine WQ.skip (by rfl) ?_; simp only [Act.put, List.setIfInBounds_toArray, List.set_cons_zero, List.set_cons_succ])
      (refine WQ.skip (by rfl) ?_; simp only [Act.put, List.setIfInBounds_toArray, List.set_cons_zero, List.set_cons_succ])
      (refine WQ.skip (by rfl) ?_; simp only [Act.put, List.setIfInBounds_toArray, List.set_cons_zero, List.set_cons_succ])
      (refine WQ.skip (by rfl) ?_; simp only [Act.put, List.setIfInBounds_toArray, List.set_cons_zero, List.set_cons_succ])
      (refine WQ.skip (by rfl) ?_; simp only [Act.put, List.setIfInBounds_toArray, List.set_cons_zero, List.set_cons_succ])
      (refine WQ.skip (by rfl) ?_; simp only [Act.put, List.setIfInBounds_toArray, List.set_cons_zero, List.set_cons_succ])
      (refine WQ.skip (by rfl) ?_; simp only [Act.put, List.setIfInBounds_toArray, List.set_cons_zero, List.set_cons_succ])
      (refine WQ.skip (by rfl) ?_; simp only [Act.put, List.setIfInBounds_toArray, List.set_cons_zero, List.set_cons_succ])
      (refine WQ.skip (by rfl) ?_; simp only [Act.put, List.setIfInBounds_toArray, List.set_cons_zero, List.set_cons_succ])
      constructor
      repeat (first | (refine wpQuiet_memLoad (by rfl) (.tmp 5) (by rfl) (by rfl) HCM.out ?_; simp only [Act.put, List.setIfInBounds_toArray, List.set_cons_zero, List.set_cons_succ]) | (refine wpQuiet_memLoad (by rfl) (.tmp 12) (by rfl) (by rfl) HCP.out ?_; simp only [Act.put, List.setIfInBounds_toArray, List.set_cons_zero, List.set_cons_succ]) | go_big_quiet_step (first | with_reducible exact C1.out _ _) | quiet_step (first | with_reducible exact C1.out _ _))
      refine wpQuiet_nil ?_
      intro _ hw'
      obtain ⟨⟨dq, osq⟩, hw''⟩ := hw'
      subst hw''
      go_wp2_with fail
      go_meet
      exact ⟨rfl, HB6.out.trans ((below_regrown _ dq osq).mono HB6.out.size), HN6.out.to (below_regrown _ dq osq), HO6.out.below (below_regrown _ dq osq)⟩
  case rest =>
    obtain ⟨rfl, hcB, hcN, hcO⟩ := hcut
    have HBq : Hid (Below w.heap.size w wc) := hcB
    have HNq : Hid (MemAt wc C m2) := hcN
    have HOq : Hid (Own wc (C + 1) (.int .i64 k2) (.int .i64 n2) (.int .i64 p2)) := hcO
    clear qa0 qa1 qa2 C1 HCM HCP HT6 HB6 HM6 HP6 HA6 HO6 HN6 ac0 ac1 ac2 hC5 hcB hcN hcO
    have hTq : Hid (DevTab wc) := HT.out.to HBq.out
    obtain ⟨⟨g0, g1, g2⟩, f0, f1, f2⟩ := HOq.out
    go_wp2_with (first
      | refine wpList_rowLoad rfl 37 (.tmp 8) rfl _ 0 136 m2.cell rfl HNq.out (by omega) (fun i _ => by rw [Nat.zero_add]) Tryd.underlying37 rfl (by kernel_rfl) ?_
      | fail)
    refine Calls.mono (ireal_any m2 hm2 k2 n2 p2 wc hTq.out) ?_
    rintro e wr ⟨u, rfl, ⟨r, rfl, hR⟩, hbr⟩
    have HR : Hid (m2.RealR k2 n2 p2 r) := hR
    have HBr : Hid (Below w.heap.size w wr) := HBq.out.trans (hbr.mono HBq.out.size)
    have HNr : Hid (MemAt wr C m2) := HNq.out.to hbr
    have HOr : Hid (Own wr (C + 1) (.int .i64 k2) (.int .i64 n2) (.int .i64 p2)) := HOq.out.below hbr
    have hTr : Hid (DevTab wr) := HT.out.to HBr.out
    clear g0 g1 g2 f0 f1 f2 HBq HNq HOq hbr hTq hR
    obtain ⟨⟨g0, g1, g2⟩, f0, f1, f2⟩ := HOr.out
    go_wp2_with (first
      | refine wpList_rowLoad rfl 37 (.tmp 8) rfl _ 0 136 m2.cell rfl HNr.out (by omega) (fun i _ => by rw [Nat.zero_add]) Tryd.underlying37 rfl (by kernel_rfl) ?_
      | fail)
    refine Calls.mono (iPutR_any m2 k2 n2 p2 x wr hTr.out) ?_
    rintro e ws ⟨rfl, hbs⟩
    generalize hq : m2.putR k2 n2 x = q
    have hokq : q.Ok := by rw [← hq]; exact putR_ok hm2 hx
    have HQ : Hid (m2.putR k2 n2 x = q) := hq
    have HBs : Hid (Below w.heap.size w ws) := HBr.out.trans (hbs.mono HBr.out.size)
    have HNs : Hid (MemAt ws C m2) := HNr.out.to hbs
    have HOs : Hid (Own ws (C + 1) (.int .i64 k2) (.int .i64 n2) (.int .i64 p2)) := HOr.out.below hbs
    have hCs : C + 1 < ws.heap.size := HOs.out.lt
    clear g0 g1 g2 f0 f1 f2 HBr HNr HOr hbs hTr hq
    go_upto_region 11 with (refine wpList_rowStore rfl 37 (.tmp 14) (.tmp 78) rfl ws.heap.size 0 136 q.cell q.cell rfl rfl (RowAt.new ws 37 136 zeroM.cell) (by omega) (fun i _ => cell_one q i) (fun i hi => by rw [if_pos ⟨by omega, by omega⟩, Nat.sub_zero]) (by kernel_rfl) ?_; intro wt HZt hzt hkt hbt)
    have HNt : Hid (MemAt wt C m2) := RowAt.by (RowAt.alloc HNs.out _) (hkt C (by omega))
    have HOt : Hid (Own wt (C + 1) (.int .i64 k2) (.int .i64 n2) (.int .i64 p2)) := (HOs.out.alloc _).byBlock (hkt (C + 1) (by omega))
    have HQt : Hid (MemAt wt ws.heap.size q) := HZt
    have HBt : Hid (Below w.heap.size w wt) := hbt _ _ (HBs.out.alloc HBs.out.size _) HBs.out.size
    clear HZt hzt hkt hbt HBs HNs HOs hCs
    obtain ⟨D, hD⟩ : ∃ D, D = ws.heap.size := ⟨_, rfl⟩
    rw [← hD] at HQt ⊢
    clear hD
    obtain ⟨⟨g0, g1, g2⟩, f0, f1, f2⟩ := HOt.out
    by_cases hk10 : k2 = 10
    · subst hk10
      have HRx : Hid (r = m2.r (plc 10 n2).toNat) := by have := HR.out.2; rwa [if_pos rfl] at this
      have qa0 := cell_regrown g0
      have qa1 := cell_regrown g1
      have qa2 := cell_regrown g2
      have HTt : Hid (∀ W, Below wt.heap.size wt W → DevTab W) := fun W hW => HT.out.to (HBt.out.trans (hW.mono HBt.out.size))
      have HCN : Hid (∀ w', (∃ p : Regrown, w' = Sort.grow (redrawn wt p.d) p.os) → MemAt w' C m2) := memY HNt.out
      have HCQ : Hid (∀ w', (∃ p : Regrown, w' = Sort.grow (redrawn wt p.d) p.os) → MemAt w' D q) := memY HQt.out
      have C1 : Hid (∀ (d : Nat) (os : Array Obj), Calls Tryd.prog 19 #[q.val, .agg #[.int .i64 10, .int .i64 n2, .int .i64 p2]] (Sort.grow (redrawn wt d) os) fun e w'' => e = .returned (.float .f64 x) ∧ ∃ p' : Regrown, w'' = Sort.grow (redrawn wt p'.d) p'.os) := fun d os => callY (fun W hW => (ireal_any q hokq 10 n2 p2 W (HTt.out W hW)).mono fun e w' ⟨u, hu, ⟨r', hr', hR'⟩, hb⟩ => ⟨by rw [hu, hr', show r' = x by have := hR'.2; rw [if_pos rfl, ← HQ.out] at this; rw [this]; simp [Mm.putR]], hb⟩) d os
      have C2 : Hid (∀ (d : Nat) (os : Array Obj), Calls Tryd.prog 21 #[.float .f64 x, .float .f64 x] (Sort.grow (redrawn wt d) os) fun e w'' => e = .returned (.bool true) ∧ ∃ p' : Regrown, w'' = Sort.grow (redrawn wt p'.d) p'.os) := fun d os => callY (fun W _ => (wrSame_self x W hx).mono fun _ _ ⟨x, y⟩ => ⟨x, y ▸ Below.refl _ _⟩) d os
      have C3 : Hid (∀ (d : Nat) (os : Array Obj), Calls Tryd.prog 20 #[q.val, .agg #[.int .i64 10, .int .i64 n2, .int .i64 p2], .float .f64 r] (Sort.grow (redrawn wt d) os) fun e w'' => e = .returned m2.val ∧ ∃ p' : Regrown, w'' = Sort.grow (redrawn wt p'.d) p'.os) := fun d os => callY (fun W hW => by have := iPutR_any q 10 n2 p2 r W (HTt.out W hW); rwa [← HQ.out, HRx.out, putR_back, HQ.out, ← HRx.out] at this) d os
      have C4 : Hid (∀ (d : Nat) (os : Array Obj), Calls Tryd.prog 12 #[m2.val, m2.val] (Sort.grow (redrawn wt d) os) fun e w'' => e = .returned (.bool true) ∧ ∃ p' : Regrown, w'' = Sort.grow (redrawn wt p'.d) p'.os) := fun d os => callY (fun W _ => memSame_self m2 hm2 W) d os
      clear f0 f1 f2
      go_upto_region 13 with fail
      refine wp_region_quiet_below (by kernel_rfl) (by kernel_rfl) ?_
      repeat (first | (refine wpQuiet_memLoad (by rfl) (.tmp 8) (by rfl) (by rfl) HCN.out ?_; simp only [Act.put, List.setIfInBounds_toArray, List.set_cons_zero, List.set_cons_succ]) | (refine wpQuiet_memLoad (by rfl) (.tmp 14) (by rfl) (by rfl) HCQ.out ?_; simp only [Act.put, List.setIfInBounds_toArray, List.set_cons_zero, List.set_cons_succ]) | go_big_quiet_step (first | with_reducible exact C1.out _ _ | with_reducible exact C2.out _ _ | with_reducible exact C3.out _ _ | with_reducible exact C4.out _ _) | quiet_step (first | with_reducible exact C1.out _ _ | with_reducible exact C2.out _ _ | with_reducible exact C3.out _ _ | with_reducible exact C4.out _ _))
      refine wpQuiet_nil ?_
      intro _ hw'
      obtain ⟨⟨dr, osr⟩, hw''⟩ := hw'
      subst hw''
      have HBr : Hid (Below w.heap.size w (Sort.grow (redrawn wt dr) osr)) := HBt.out.trans ((below_regrown _ dr osr).mono HBt.out.size)
      clear qa0 qa1 qa2
      generalize Sort.grow (redrawn wt dr) osr = wu at *
      go_wp2
      go_ret
      exact ⟨rfl, HBr.out⟩
    · have hmm : q = m2 := by rw [← HQ.out]; exact putR_no m2 k2 n2 x hk10
      subst hmm
      have hk10' : (k2 != 10) = true := by simpa using hk10
      go_wp2_with (first
        | refine wpList_rowLoad rfl 37 (.tmp 14) rfl _ 0 136 q.cell rfl HQt.out (by omega) (fun i _ => by rw [Nat.zero_add]) Tryd.underlying37 rfl (by kernel_rfl) ?_
        | refine wpList_rowLoad rfl 37 (.tmp 8) rfl _ 0 136 q.cell rfl HNt.out (by omega) (fun i _ => by rw [Nat.zero_add]) Tryd.underlying37 rfl (by kernel_rfl) ?_
        | fail)
      refine Calls.mono (memSame_self q hm2 wt) ?_
      rintro e wu ⟨rfl, hbu⟩
      have HBu : Hid (Below w.heap.size w wu) := HBt.out.trans (hbu.mono HBt.out.size)
      clear g0 g1 g2 f0 f1 f2 HBt HNt HOt HQt hbu
      go_wp2
      go_ret
      exact ⟨rfl, HBu.out⟩
end Go.Proofs.YtljhpagpohihcaaDoor
