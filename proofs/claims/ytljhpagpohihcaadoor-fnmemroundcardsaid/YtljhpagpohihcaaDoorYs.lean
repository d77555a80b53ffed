/- The walk of the law FnMemRound. Helper text: no statement is claimed here. -/
import Derived.Test.YtljhpagpohihcaaDoorYr
namespace Go.Proofs.YtljhpagpohihcaaDoor
open Go.ChangeShapes Go.WideShapes Go.ChangeAt Go.RowKit Fl

/-- The size that the law itself reckons with. -/
theorem sz_is (k : Int) : sz4 k = if k = 6 then 8 else rN (kz k) := rfl

set_option maxHeartbeats 4000000 in
set_option maxRecDepth 100000 in
theorem round_walk (a : Option Addr) (len cap : Nat) (w : World) (h : IsRow w a len) (hlc : len ≤ cap) (hT : DevTab w) :
    Calls Tryd.prog 5 #[.slice a len cap] w fun e w' => e = .returned (.bool true) ∧ Below w.heap.size w w' := by
  have HT : Hid (DevTab w) := hT
  have HH : Hid (IsRow w a len) := h
  have hz : ∀ w, (zeroValue 37).run Tryd.prog w = .ok (.agg zeroM.cells) w := fun _ => by kernel_rfl
  clear hT h
  by_cases hl : (1048576 : Int) < (len : Int)
  · go_enter Tryd.func5, Tryd.ntmps5
    go_wp2
    go_ret
    exact ⟨rfl, Below.refl _ _⟩
  go_enter Tryd.func5, Tryd.ntmps5
  go_wp2_with fail
  refine (drawBit_any a len cap _ HH.out hlc).mono ?_
  rintro e w1 ⟨m, k, n, p, rfl, hm, hk, hn, hp, hb1⟩
  have HB1 : Hid (Below w.heap.size w w1) := hb1
  have hle : w.heap.size ≤ w1.heap.size := hb1.size
  clear hb1 HH
  have HOA : Hid (∀ W : World, W.heap[w1.heap.size + 1]? = (((w1.alloc (.cells zeroM.cells 37)).alloc (.cells #[.int .i64 0, .int .i64 0, .int .i64 0] 39)).heap)[w1.heap.size + 1]? → Own W (w1.heap.size + 1) (.int .i64 0) (.int .i64 0) (.int .i64 0)) := fun W e => by
    have := Own.new (w1.alloc (.cells zeroM.cells 37)) (.int .i64 0) (.int .i64 0) (.int .i64 0)
    rw [show (w1.alloc (.cells zeroM.cells 37)).heap.size = w1.heap.size + 1 by simp] at this
    exact this.byBlock e
  go_upto_region 4 with (refine wpList_rowStore rfl 37 (.tmp 3) (.tmp 14) rfl w1.heap.size 0 136 m.cell m.cell rfl rfl ((RowAt.new w1 37 136 zeroM.cell).alloc _) (by omega) (fun i _ => cell_one m i) (fun i hi => by rw [if_pos ⟨by omega, by omega⟩, Nat.sub_zero]) (by kernel_rfl) ?_; intro w2 HZ2 hz2 hk2 hb2; have oA := HOA.out w2 (hk2 _ (by omega)); obtain ⟨⟨g0, g1, g2⟩, f0, f1, f2⟩ := oA)
  have HB3 : Hid (Below w.heap.size w (((w2.setCell ⟨w1.heap.size + 1, 0, none⟩ (.int .i64 k)).setCell ⟨w1.heap.size + 1, 1, none⟩ (.int .i64 n)).setCell ⟨w1.heap.size + 1, 2, none⟩ (.int .i64 p))) := ((((hb2 _ _ ((HB1.out.alloc hle _).alloc (by simp; omega) _) hle).setCell (p := ⟨_, _, none⟩) (by show w.heap.size ≤ w1.heap.size + 1; omega) _).setCell (p := ⟨_, _, none⟩) (by show w.heap.size ≤ w1.heap.size + 1; omega) _).setCell (p := ⟨_, _, none⟩) (by show w.heap.size ≤ w1.heap.size + 1; omega) _)
  have HM3 : Hid (MemAt (((w2.setCell ⟨w1.heap.size + 1, 0, none⟩ (.int .i64 k)).setCell ⟨w1.heap.size + 1, 1, none⟩ (.int .i64 n)).setCell ⟨w1.heap.size + 1, 2, none⟩ (.int .i64 p)) w1.heap.size m) := ((RowAt.other HZ2 (.int .i64 k) (by omega)).other (.int .i64 n) (by omega)).other (.int .i64 p) (by omega)
  have HA3 : Hid (Own (((w2.setCell ⟨w1.heap.size + 1, 0, none⟩ (.int .i64 k)).setCell ⟨w1.heap.size + 1, 1, none⟩ (.int .i64 n)).setCell ⟨w1.heap.size + 1, 2, none⟩ (.int .i64 p)) (w1.heap.size + 1) (.int .i64 k) (.int .i64 n) (.int .i64 p)) := Own.put ⟨⟨g0, g1, g2⟩, f0, f1, f2⟩ _ _ _
  generalize (((w2.setCell ⟨w1.heap.size + 1, 0, none⟩ (.int .i64 k)).setCell ⟨w1.heap.size + 1, 1, none⟩ (.int .i64 n)).setCell ⟨w1.heap.size + 1, 2, none⟩ (.int .i64 p)) = W at *
  clear HZ2 hz2 hk2 hb2 g0 g1 g2 f0 f1 f2 HOA HB1 hz
  obtain ⟨B, hB⟩ : ∃ B, B = w1.heap.size := ⟨_, rfl⟩
  rw [← hB] at HM3 HA3 ⊢
  rw [← hB] at hle
  clear hB
  obtain ⟨⟨g0, g1, g2⟩, f0, f1, f2⟩ := HA3.out
  go_wp2_with fail
  refine (ssize_any k _).mono ?_
  rintro e w4 ⟨rfl, rfl⟩
  by_cases h6 : k = 6
  · subst h6
    have hs0 : sz4 6 ≠ 0 := by decide
    have HSz : Hid (sz4 6 = 8) := rfl
    by_cases c1 : 1000 < n
    · obtain ⟨bb, hbb⟩ : ∃ bb, bb = m.bit 6 n := ⟨_, rfl⟩
      have HI1 : Hid (∀ (d : Nat) (os : Array Obj), Calls Tryd.prog 10 #[m.val, .agg #[.int .i64 6, .int .i64 n, .int .i64 p]] (Sort.grow (redrawn w4 d) os) fun e w'' => e = .returned (.bool bb) ∧ ∃ p' : Regrown, w'' = Sort.grow (redrawn w4 p'.d) p'.os) := fun d os => callY (fun W hW => hbb ▸ ibit_any m hm 6 n p W (HT.out.to (HB3.out.trans (hW.mono HB3.out.size)))) d os
      have HS1 : Hid (∀ (d : Nat) (os : Array Obj), Calls Tryd.prog 23 #[m.val, .agg #[.int .i64 6, .int .i64 n, .int .i64 p]] (Sort.grow (redrawn w4 d) os) fun e w'' => e = .returned (.bool bb) ∧ ∃ p' : Regrown, w'' = Sort.grow (redrawn w4 p'.d) p'.os) := fun d os => callY (fun W _ => hbb ▸ sbt_any m hm 6 n p W) d os
      have HCM : Hid (∀ w', (∃ p : Regrown, w' = Sort.grow (redrawn w4 p.d) p.os) → MemAt w' B m) := memY HM3.out
      have q0 := cell_regrown g0
      have q1 := cell_regrown g1
      have q2 := cell_regrown g2
      have hee : (bb == bb) = true := by cases bb <;> rfl
      clear hbb
      go_wp2
      refine wp_region_quiet_below (by kernel_rfl) (by kernel_rfl) ?_
      repeat (first | (refine wpQuiet_memLoad (by rfl) (.tmp 3) (by rfl) (by rfl) HCM.out ?_; simp only [Act.put, List.setIfInBounds_toArray, List.set_cons_zero, List.set_cons_succ]) | go_big_quiet_step (first | with_reducible exact HI1.out _ _ | with_reducible exact HS1.out _ _) | quiet_step (first | with_reducible exact HI1.out _ _ | with_reducible exact HS1.out _ _))
      refine wpQuiet_nil ?_
      intro _ hw'
      obtain ⟨⟨dq, osq⟩, hw''⟩ := hw'
      subst hw''
      have HBq : Hid (Below w.heap.size w (Sort.grow (redrawn w4 dq) osq)) := HB3.out.trans ((below_regrown _ dq osq).mono HB3.out.size)
      clear q0 q1 q2
      generalize Sort.grow (redrawn w4 dq) osq = wq at *
      go_wp2
      go_ret
      exact ⟨rfl, HBq.out⟩
    · by_cases c2 : n < -1000
      · obtain ⟨bb, hbb⟩ : ∃ bb, bb = m.bit 6 n := ⟨_, rfl⟩
        have HI1 : Hid (∀ (d : Nat) (os : Array Obj), Calls Tryd.prog 10 #[m.val, .agg #[.int .i64 6, .int .i64 n, .int .i64 p]] (Sort.grow (redrawn w4 d) os) fun e w'' => e = .returned (.bool bb) ∧ ∃ p' : Regrown, w'' = Sort.grow (redrawn w4 p'.d) p'.os) := fun d os => callY (fun W hW => hbb ▸ ibit_any m hm 6 n p W (HT.out.to (HB3.out.trans (hW.mono HB3.out.size)))) d os
        have HS1 : Hid (∀ (d : Nat) (os : Array Obj), Calls Tryd.prog 23 #[m.val, .agg #[.int .i64 6, .int .i64 n, .int .i64 p]] (Sort.grow (redrawn w4 d) os) fun e w'' => e = .returned (.bool bb) ∧ ∃ p' : Regrown, w'' = Sort.grow (redrawn w4 p'.d) p'.os) := fun d os => callY (fun W _ => hbb ▸ sbt_any m hm 6 n p W) d os
        have HCM : Hid (∀ w', (∃ p : Regrown, w' = Sort.grow (redrawn w4 p.d) p.os) → MemAt w' B m) := memY HM3.out
        have q0 := cell_regrown g0
        have q1 := cell_regrown g1
        have q2 := cell_regrown g2
        have hee : (bb == bb) = true := by cases bb <;> rfl
        clear hbb
        go_wp2
        refine wp_region_quiet_below (by kernel_rfl) (by kernel_rfl) ?_
        repeat (first | (refine wpQuiet_memLoad (by rfl) (.tmp 3) (by rfl) (by rfl) HCM.out ?_; simp only [Act.put, List.setIfInBounds_toArray, List.set_cons_zero, List.set_cons_succ]) | go_big_quiet_step (first | with_reducible exact HI1.out _ _ | with_reducible exact HS1.out _ _) | quiet_step (first | with_reducible exact HI1.out _ _ | with_reducible exact HS1.out _ _))
        refine wpQuiet_nil ?_
        intro _ hw'
        obtain ⟨⟨dq, osq⟩, hw''⟩ := hw'
        subst hw''
        have HBq : Hid (Below w.heap.size w (Sort.grow (redrawn w4 dq) osq)) := HB3.out.trans ((below_regrown _ dq osq).mono HB3.out.size)
        clear q0 q1 q2
        generalize Sort.grow (redrawn w4 dq) osq = wq at *
        go_wp2
        go_ret
        exact ⟨rfl, HBq.out⟩
      · obtain ⟨bb, hbb⟩ : ∃ bb, bb = m.bit 6 n := ⟨_, rfl⟩
        obtain ⟨ww, hww⟩ : ∃ ww, ww = m.whole 6 n := ⟨_, rfl⟩
        obtain ⟨rr, hrr⟩ : ∃ rr, rr = m.rdev 6 n := ⟨_, rfl⟩
        have hrl : rr < 2 ^ 64 := by rw [hrr]; exact rdev_lt hm _ _
        have hbB : m.bit 6 (n + 8) = bb := by have := bit_add m 6 n 1 hs0; rw [HSz.out, Int.one_mul] at this; rw [this, hbb]
        have hbC : m.bit 6 (n - 3 * 8) = bb := by have := bit_add m 6 n (-3) hs0; rw [HSz.out] at this; rw [show n - 3 * 8 = n + -3 * 8 by omega, this, hbb]
        have hwB : m.whole 6 (n + 8) = ww := by have := whole_add m 6 n 1 hs0; rw [HSz.out, Int.one_mul] at this; rw [this, hww]
        have hwC : m.whole 6 (n - 3 * 8) = ww := by have := whole_add m 6 n (-3) hs0; rw [HSz.out] at this; rw [show n - 3 * 8 = n + -3 * 8 by omega, this, hww]
        have hrB : m.rdev 6 (n + 8) = rr := by have := rdev_add m 6 n 1 hs0; rw [HSz.out, Int.one_mul] at this; rw [this, hrr]
        have hrC : m.rdev 6 (n - 3 * 8) = rr := by have := rdev_add m 6 n (-3) hs0; rw [HSz.out] at this; rw [show n - 3 * 8 = n + -3 * 8 by omega, this, hrr]
        have hw1 : IntKind.i64.wrap (n + 8) = n + 8 := wrap_smallZ (by omega) (by omega)
        have hw3 : IntKind.i64.wrap (n - 24) = n - 24 := wrap_smallZ (by omega) (by omega)
        have hdv := sz4_dev hs0
        have hBl : B + 1 < w4.heap.size := HA3.out.lt
        go_upto_region 11 with fail
        have HB5 : Hid (Below w.heap.size w ((w4.alloc (.cells #[.int .i64 6, .int .i64 (n + 8), .int .i64 0] 39)).alloc (.cells #[.int .i64 6, .int .i64 (n - 24), .int .i64 0] 39))) := (HB3.out.alloc HB3.out.size _).alloc (by have := HB3.out.size; simp; omega) _
        have HM5 : Hid (MemAt ((w4.alloc (.cells #[.int .i64 6, .int .i64 (n + 8), .int .i64 0] 39)).alloc (.cells #[.int .i64 6, .int .i64 (n - 24), .int .i64 0] 39)) B m) := (HM3.out.alloc _).alloc _
        have HA5 : Hid (Own ((w4.alloc (.cells #[.int .i64 6, .int .i64 (n + 8), .int .i64 0] 39)).alloc (.cells #[.int .i64 6, .int .i64 (n - 24), .int .i64 0] 39)) (B + 1) (.int .i64 6) (.int .i64 n) (.int .i64 p)) := (HA3.out.alloc _).alloc _
        have HX5 : Hid (Own ((w4.alloc (.cells #[.int .i64 6, .int .i64 (n + 8), .int .i64 0] 39)).alloc (.cells #[.int .i64 6, .int .i64 (n - 24), .int .i64 0] 39)) w4.heap.size (.int .i64 6) (.int .i64 (n + 8)) (.int .i64 0)) := (Own.new w4 _ _ _).alloc _
        have HY5 : Hid (Own ((w4.alloc (.cells #[.int .i64 6, .int .i64 (n + 8), .int .i64 0] 39)).alloc (.cells #[.int .i64 6, .int .i64 (n - 24), .int .i64 0] 39)) (w4.heap.size + 1) (.int .i64 6) (.int .i64 (n - 24)) (.int .i64 0)) := by
          have := Own.new (w4.alloc (.cells #[.int .i64 6, .int .i64 (n + 8), .int .i64 0] 39)) (.int .i64 6) (.int .i64 (n - 24)) (.int .i64 0)
          rw [show (w4.alloc (.cells #[.int .i64 6, .int .i64 (n + 8), .int .i64 0] 39)).heap.size = w4.heap.size + 1 by simp] at this
          exact this
        generalize ((w4.alloc (.cells #[.int .i64 6, .int .i64 (n + 8), .int .i64 0] 39)).alloc (.cells #[.int .i64 6, .int .i64 (n - 24), .int .i64 0] 39)) = W5 at *
        clear g0 g1 g2 f0 f1 f2
        obtain ⟨⟨ac0, ac1, ac2⟩, -, -, -⟩ := HA5.out
        have qa0 := cell_regrown ac0
        have qa1 := cell_regrown ac1
        have qa2 := cell_regrown ac2
        obtain ⟨⟨xc0, xc1, xc2⟩, -, -, -⟩ := HX5.out
        have qx0 := cell_regrown xc0
        have qx1 := cell_regrown xc1
        have qx2 := cell_regrown xc2
        obtain ⟨⟨yc0, yc1, yc2⟩, -, -, -⟩ := HY5.out
        have qy0 := cell_regrown yc0
        have qy1 := cell_regrown yc1
        have qy2 := cell_regrown yc2
        have C1 : Hid (∀ (d : Nat) (os : Array Obj), Calls Tryd.prog 10 #[m.val, .agg #[.int .i64 6, .int .i64 (n + 8), .int .i64 0]] (Sort.grow (redrawn W5 d) os) fun e w'' => e = .returned (.bool bb) ∧ ∃ p' : Regrown, w'' = Sort.grow (redrawn W5 p'.d) p'.os) := fun d os => callY (fun W hW => hbB ▸ ibit_any m hm 6 (n + 8) 0 W (HT.out.to (HB5.out.trans (hW.mono HB5.out.size)))) d os
        have C2 : Hid (∀ (d : Nat) (os : Array Obj), Calls Tryd.prog 10 #[m.val, .agg #[.int .i64 6, .int .i64 (n), .int .i64 p]] (Sort.grow (redrawn W5 d) os) fun e w'' => e = .returned (.bool bb) ∧ ∃ p' : Regrown, w'' = Sort.grow (redrawn W5 p'.d) p'.os) := fun d os => callY (fun W hW => hbb.symm ▸ ibit_any m hm 6 (n) p W (HT.out.to (HB5.out.trans (hW.mono HB5.out.size)))) d os
        have C3 : Hid (∀ (d : Nat) (os : Array Obj), Calls Tryd.prog 10 #[m.val, .agg #[.int .i64 6, .int .i64 (n - 24), .int .i64 0]] (Sort.grow (redrawn W5 d) os) fun e w'' => e = .returned (.bool bb) ∧ ∃ p' : Regrown, w'' = Sort.grow (redrawn W5 p'.d) p'.os) := fun d os => callY (fun W hW => hbC ▸ ibit_any m hm 6 (n - 24) 0 W (HT.out.to (HB5.out.trans (hW.mono HB5.out.size)))) d os
        have C4 : Hid (∀ (d : Nat) (os : Array Obj), Calls Tryd.prog 23 #[m.val, .agg #[.int .i64 6, .int .i64 (n), .int .i64 p]] (Sort.grow (redrawn W5 d) os) fun e w'' => e = .returned (.bool bb) ∧ ∃ p' : Regrown, w'' = Sort.grow (redrawn W5 p'.d) p'.os) := fun d os => callY (fun W hW => hbb.symm ▸ sbt_any m hm 6 (n) p W) d os
        have C5 : Hid (∀ (d : Nat) (os : Array Obj), Calls Tryd.prog 15 #[m.val, .agg #[.int .i64 6, .int .i64 (n + 8), .int .i64 0]] (Sort.grow (redrawn W5 d) os) fun e w'' => e = .returned (.int .i16 ww) ∧ ∃ p' : Regrown, w'' = Sort.grow (redrawn W5 p'.d) p'.os) := fun d os => callY (fun W hW => hwB ▸ iwhole_any m hm 6 (n + 8) 0 W (HT.out.to (HB5.out.trans (hW.mono HB5.out.size)))) d os
        have C6 : Hid (∀ (d : Nat) (os : Array Obj), Calls Tryd.prog 15 #[m.val, .agg #[.int .i64 6, .int .i64 (n), .int .i64 p]] (Sort.grow (redrawn W5 d) os) fun e w'' => e = .returned (.int .i16 ww) ∧ ∃ p' : Regrown, w'' = Sort.grow (redrawn W5 p'.d) p'.os) := fun d os => callY (fun W hW => hww.symm ▸ iwhole_any m hm 6 (n) p W (HT.out.to (HB5.out.trans (hW.mono HB5.out.size)))) d os
        have C7 : Hid (∀ (d : Nat) (os : Array Obj), Calls Tryd.prog 15 #[m.val, .agg #[.int .i64 6, .int .i64 (n - 24), .int .i64 0]] (Sort.grow (redrawn W5 d) os) fun e w'' => e = .returned (.int .i16 ww) ∧ ∃ p' : Regrown, w'' = Sort.grow (redrawn W5 p'.d) p'.os) := fun d os => callY (fun W hW => hwC ▸ iwhole_any m hm 6 (n - 24) 0 W (HT.out.to (HB5.out.trans (hW.mono HB5.out.size)))) d os
        have C8 : Hid (∀ (d : Nat) (os : Array Obj), Calls Tryd.prog 24 #[m.val, .agg #[.int .i64 6, .int .i64 (n), .int .i64 p]] (Sort.grow (redrawn W5 d) os) fun e w'' => e = .returned (.int .i16 ww) ∧ ∃ p' : Regrown, w'' = Sort.grow (redrawn W5 p'.d) p'.os) := fun d os => callY (fun W hW => hww.symm ▸ swhole_any m hm 6 (n) p W) d os
        have C9 : Hid (∀ (d : Nat) (os : Array Obj), Calls Tryd.prog 19 #[m.val, .agg #[.int .i64 6, .int .i64 (n + 8), .int .i64 0]] (Sort.grow (redrawn W5 d) os) fun e w'' => e = .returned (.float .f64 rr) ∧ ∃ p' : Regrown, w'' = Sort.grow (redrawn W5 p'.d) p'.os) := fun d os => callY (fun W hW => hrB ▸ rdev_any m hm 6 (n + 8) 0 W (HT.out.to (HB5.out.trans (hW.mono HB5.out.size))) hdv) d os
        have C10 : Hid (∀ (d : Nat) (os : Array Obj), Calls Tryd.prog 19 #[m.val, .agg #[.int .i64 6, .int .i64 (n - 24), .int .i64 0]] (Sort.grow (redrawn W5 d) os) fun e w'' => e = .returned (.float .f64 rr) ∧ ∃ p' : Regrown, w'' = Sort.grow (redrawn W5 p'.d) p'.os) := fun d os => callY (fun W hW => hrC ▸ rdev_any m hm 6 (n - 24) 0 W (HT.out.to (HB5.out.trans (hW.mono HB5.out.size))) hdv) d os
        have C11 : Hid (∀ (d : Nat) (os : Array Obj), Calls Tryd.prog 21 #[.float .f64 rr, .float .f64 rr] (Sort.grow (redrawn W5 d) os) fun e w'' => e = .returned (.bool true) ∧ ∃ p' : Regrown, w'' = Sort.grow (redrawn W5 p'.d) p'.os) := fun d os => callY (fun W _ => (wrSame_self rr W hrl).mono fun _ _ ⟨x, y⟩ => ⟨x, y ▸ Below.refl _ _⟩) d os
        have HCM : Hid (∀ w', (∃ p : Regrown, w' = Sort.grow (redrawn W5 p.d) p.os) → MemAt w' B m) := memY HM5.out
        have hee : (bb == bb) = true := by cases bb <;> rfl
        clear hbb hww hrr hbB hbC hwB hwC hrB hrC hrl hw1 hw3 hdv
        go_wp2
        refine wp_region_quiet_below (by kernel_rfl) (by kernel_rfl) ?_
        repeat (first | (refine wpQuiet_memLoad (by rfl) (.tmp 3) (by rfl) (by rfl) HCM.out ?_; simp only [Act.put, List.setIfInBounds_toArray, List.set_cons_zero, List.set_cons_succ]) | go_big_quiet_step (first | with_reducible exact C1.out _ _ | with_reducible exact C2.out _ _ | with_reducible exact C3.out _ _ | with_reducible exact C4.out _ _ | with_reducible exact C5.out _ _ | with_reducible exact C6.out _ _ | with_reducible exact C7.out _ _ | with_reducible exact C8.out _ _ | with_reducible exact C9.out _ _ | with_reducible exact C10.out _ _ | with_reducible exact C11.out _ _) | quiet_step (first | with_reducible exact C1.out _ _ | with_reducible exact C2.out _ _ | with_reducible exact C3.out _ _ | with_reducible exact C4.out _ _ | with_reducible exact C5.out _ _ | with_reducible exact C6.out _ _ | with_reducible exact C7.out _ _ | with_reducible exact C8.out _ _ | with_reducible exact C9.out _ _ | with_reducible exact C10.out _ _ | with_reducible exact C11.out _ _))
        refine wpQuiet_nil ?_
        intro _ hw'
        obtain ⟨⟨dq, osq⟩, hw''⟩ := hw'
        subst hw''
        have HBq : Hid (Below w.heap.size w (Sort.grow (redrawn W5 dq) osq)) := HB5.out.trans ((below_regrown _ dq osq).mono HB5.out.size)
        clear qa0 qa1 qa2 qx0 qx1 qx2 qy0 qy1 qy2
        generalize Sort.grow (redrawn W5 dq) osq = wq at *
        go_wp2
        go_ret
        exact ⟨rfl, HBq.out⟩
  · have hk6 : (k == 6) = false := by simpa using h6
    have hr : rN (kz k) = sz4 k := (if_neg h6).symm
    rw [hr]
    have hsb : 0 ≤ sz4 k ∧ sz4 k ≤ 64 := by rcases sz4_cases k with h | h | h | h | h <;> rw [h] <;> decide
    by_cases hs0 : sz4 k = 0
    · rw [hs0]
      clear hr hsb hs0
      obtain ⟨bb, hbb⟩ : ∃ bb, bb = m.bit k n := ⟨_, rfl⟩
      have HI1 : Hid (∀ (d : Nat) (os : Array Obj), Calls Tryd.prog 10 #[m.val, .agg #[.int .i64 k, .int .i64 n, .int .i64 p]] (Sort.grow (redrawn w4 d) os) fun e w'' => e = .returned (.bool bb) ∧ ∃ p' : Regrown, w'' = Sort.grow (redrawn w4 p'.d) p'.os) := fun d os => callY (fun W hW => hbb ▸ ibit_any m hm k n p W (HT.out.to (HB3.out.trans (hW.mono HB3.out.size)))) d os
      have HS1 : Hid (∀ (d : Nat) (os : Array Obj), Calls Tryd.prog 23 #[m.val, .agg #[.int .i64 k, .int .i64 n, .int .i64 p]] (Sort.grow (redrawn w4 d) os) fun e w'' => e = .returned (.bool bb) ∧ ∃ p' : Regrown, w'' = Sort.grow (redrawn w4 p'.d) p'.os) := fun d os => callY (fun W _ => hbb ▸ sbt_any m hm k n p W) d os
      have HCM : Hid (∀ w', (∃ p : Regrown, w' = Sort.grow (redrawn w4 p.d) p.os) → MemAt w' B m) := memY HM3.out
      have q0 := cell_regrown g0
      have q1 := cell_regrown g1
      have q2 := cell_regrown g2
      have hee : (bb == bb) = true := by cases bb <;> rfl
      clear hbb
      go_wp2
      refine wp_region_quiet_below (by kernel_rfl) (by kernel_rfl) ?_
      repeat (first | (refine wpQuiet_memLoad (by rfl) (.tmp 3) (by rfl) (by rfl) HCM.out ?_; simp only [Act.put, List.setIfInBounds_toArray, List.set_cons_zero, List.set_cons_succ]) | go_big_quiet_step (first | with_reducible exact HI1.out _ _ | with_reducible exact HS1.out _ _) | quiet_step (first | with_reducible exact HI1.out _ _ | with_reducible exact HS1.out _ _))
      refine wpQuiet_nil ?_
      intro _ hw'
      obtain ⟨⟨dq, osq⟩, hw''⟩ := hw'
      subst hw''
      have HBq : Hid (Below w.heap.size w (Sort.grow (redrawn w4 dq) osq)) := HB3.out.trans ((below_regrown _ dq osq).mono HB3.out.size)
      clear q0 q1 q2
      generalize Sort.grow (redrawn w4 dq) osq = wq at *
      go_wp2
      go_ret
      exact ⟨rfl, HBq.out⟩
    · have hs0 : sz4 k ≠ 0 := hs0
      obtain ⟨s, hs⟩ : ∃ s, s = sz4 k := ⟨_, rfl⟩
      rw [← hs] at hsb ⊢
      have HSz : Hid (sz4 k = s) := hs.symm
      have hsn : s ≠ 0 := by rw [hs]; exact hs0
      have hsz : (s == 0) = false := by simpa using hsn
      clear hr hs
      by_cases c1 : 1000 < n
      · obtain ⟨bb, hbb⟩ : ∃ bb, bb = m.bit k n := ⟨_, rfl⟩
        have HI1 : Hid (∀ (d : Nat) (os : Array Obj), Calls Tryd.prog 10 #[m.val, .agg #[.int .i64 k, .int .i64 n, .int .i64 p]] (Sort.grow (redrawn w4 d) os) fun e w'' => e = .returned (.bool bb) ∧ ∃ p' : Regrown, w'' = Sort.grow (redrawn w4 p'.d) p'.os) := fun d os => callY (fun W hW => hbb ▸ ibit_any m hm k n p W (HT.out.to (HB3.out.trans (hW.mono HB3.out.size)))) d os
        have HS1 : Hid (∀ (d : Nat) (os : Array Obj), Calls Tryd.prog 23 #[m.val, .agg #[.int .i64 k, .int .i64 n, .int .i64 p]] (Sort.grow (redrawn w4 d) os) fun e w'' => e = .returned (.bool bb) ∧ ∃ p' : Regrown, w'' = Sort.grow (redrawn w4 p'.d) p'.os) := fun d os => callY (fun W _ => hbb ▸ sbt_any m hm k n p W) d os
        have HCM : Hid (∀ w', (∃ p : Regrown, w' = Sort.grow (redrawn w4 p.d) p.os) → MemAt w' B m) := memY HM3.out
        have q0 := cell_regrown g0
        have q1 := cell_regrown g1
        have q2 := cell_regrown g2
        have hee : (bb == bb) = true := by cases bb <;> rfl
        clear hbb
        go_wp2
        refine wp_region_quiet_below (by kernel_rfl) (by kernel_rfl) ?_
        repeat (first | (refine wpQuiet_memLoad (by rfl) (.tmp 3) (by rfl) (by rfl) HCM.out ?_; simp only [Act.put, List.setIfInBounds_toArray, List.set_cons_zero, List.set_cons_succ]) | go_big_quiet_step (first | with_reducible exact HI1.out _ _ | with_reducible exact HS1.out _ _) | quiet_step (first | with_reducible exact HI1.out _ _ | with_reducible exact HS1.out _ _))
        refine wpQuiet_nil ?_
        intro _ hw'
        obtain ⟨⟨dq, osq⟩, hw''⟩ := hw'
        subst hw''
        have HBq : Hid (Below w.heap.size w (Sort.grow (redrawn w4 dq) osq)) := HB3.out.trans ((below_regrown _ dq osq).mono HB3.out.size)
        clear q0 q1 q2
        generalize Sort.grow (redrawn w4 dq) osq = wq at *
        go_wp2
        go_ret
        exact ⟨rfl, HBq.out⟩
      · by_cases c2 : n < -1000
        · obtain ⟨bb, hbb⟩ : ∃ bb, bb = m.bit k n := ⟨_, rfl⟩
          have HI1 : Hid (∀ (d : Nat) (os : Array Obj), Calls Tryd.prog 10 #[m.val, .agg #[.int .i64 k, .int .i64 n, .int .i64 p]] (Sort.grow (redrawn w4 d) os) fun e w'' => e = .returned (.bool bb) ∧ ∃ p' : Regrown, w'' = Sort.grow (redrawn w4 p'.d) p'.os) := fun d os => callY (fun W hW => hbb ▸ ibit_any m hm k n p W (HT.out.to (HB3.out.trans (hW.mono HB3.out.size)))) d os
          have HS1 : Hid (∀ (d : Nat) (os : Array Obj), Calls Tryd.prog 23 #[m.val, .agg #[.int .i64 k, .int .i64 n, .int .i64 p]] (Sort.grow (redrawn w4 d) os) fun e w'' => e = .returned (.bool bb) ∧ ∃ p' : Regrown, w'' = Sort.grow (redrawn w4 p'.d) p'.os) := fun d os => callY (fun W _ => hbb ▸ sbt_any m hm k n p W) d os
          have HCM : Hid (∀ w', (∃ p : Regrown, w' = Sort.grow (redrawn w4 p.d) p.os) → MemAt w' B m) := memY HM3.out
          have q0 := cell_regrown g0
          have q1 := cell_regrown g1
          have q2 := cell_regrown g2
          have hee : (bb == bb) = true := by cases bb <;> rfl
          clear hbb
          go_wp2
          refine wp_region_quiet_below (by kernel_rfl) (by kernel_rfl) ?_
          repeat (first | (refine wpQuiet_memLoad (by rfl) (.tmp 3) (by rfl) (by rfl) HCM.out ?_; simp only [Act.put, List.setIfInBounds_toArray, List.set_cons_zero, List.set_cons_succ]) | go_big_quiet_step (first | with_reducible exact HI1.out _ _ | with_reducible exact HS1.out _ _) | quiet_step (first | with_reducible exact HI1.out _ _ | with_reducible exact HS1.out _ _))
          refine wpQuiet_nil ?_
          intro _ hw'
          obtain ⟨⟨dq, osq⟩, hw''⟩ := hw'
          subst hw''
          have HBq : Hid (Below w.heap.size w (Sort.grow (redrawn w4 dq) osq)) := HB3.out.trans ((below_regrown _ dq osq).mono HB3.out.size)
          clear q0 q1 q2
          generalize Sort.grow (redrawn w4 dq) osq = wq at *
          go_wp2
          go_ret
          exact ⟨rfl, HBq.out⟩
        · obtain ⟨bb, hbb⟩ : ∃ bb, bb = m.bit k n := ⟨_, rfl⟩
          obtain ⟨ww, hww⟩ : ∃ ww, ww = m.whole k n := ⟨_, rfl⟩
          obtain ⟨rr, hrr⟩ : ∃ rr, rr = m.rdev k n := ⟨_, rfl⟩
          have hrl : rr < 2 ^ 64 := by rw [hrr]; exact rdev_lt hm _ _
          have hbB : m.bit k (n + s) = bb := by have := bit_add m k n 1 hs0; rw [HSz.out, Int.one_mul] at this; rw [this, hbb]
          have hbC : m.bit k (n - 3 * s) = bb := by have := bit_add m k n (-3) hs0; rw [HSz.out] at this; rw [show n - 3 * s = n + -3 * s by omega, this, hbb]
          have hwB : m.whole k (n + s) = ww := by have := whole_add m k n 1 hs0; rw [HSz.out, Int.one_mul] at this; rw [this, hww]
          have hwC : m.whole k (n - 3 * s) = ww := by have := whole_add m k n (-3) hs0; rw [HSz.out] at this; rw [show n - 3 * s = n + -3 * s by omega, this, hww]
          have hrB : m.rdev k (n + s) = rr := by have := rdev_add m k n 1 hs0; rw [HSz.out, Int.one_mul] at this; rw [this, hrr]
          have hrC : m.rdev k (n - 3 * s) = rr := by have := rdev_add m k n (-3) hs0; rw [HSz.out] at this; rw [show n - 3 * s = n + -3 * s by omega, this, hrr]
          have hw1 : IntKind.i64.wrap (n + s) = n + s := wrap_smallZ (by omega) (by omega)
          have hw2 : IntKind.i64.wrap (3 * s) = 3 * s := wrap_smallZ (by omega) (by omega)
          have hw3 : IntKind.i64.wrap (n - 3 * s) = n - 3 * s := wrap_smallZ (by omega) (by omega)
          have hdv := sz4_dev hs0
          have hBl : B + 1 < w4.heap.size := HA3.out.lt
          go_upto_region 11 with fail
          have HB5 : Hid (Below w.heap.size w ((w4.alloc (.cells #[.int .i64 k, .int .i64 (n + s), .int .i64 0] 39)).alloc (.cells #[.int .i64 k, .int .i64 (n - 3 * s), .int .i64 0] 39))) := (HB3.out.alloc HB3.out.size _).alloc (by have := HB3.out.size; simp; omega) _
          have HM5 : Hid (MemAt ((w4.alloc (.cells #[.int .i64 k, .int .i64 (n + s), .int .i64 0] 39)).alloc (.cells #[.int .i64 k, .int .i64 (n - 3 * s), .int .i64 0] 39)) B m) := (HM3.out.alloc _).alloc _
          have HA5 : Hid (Own ((w4.alloc (.cells #[.int .i64 k, .int .i64 (n + s), .int .i64 0] 39)).alloc (.cells #[.int .i64 k, .int .i64 (n - 3 * s), .int .i64 0] 39)) (B + 1) (.int .i64 k) (.int .i64 n) (.int .i64 p)) := (HA3.out.alloc _).alloc _
          have HX5 : Hid (Own ((w4.alloc (.cells #[.int .i64 k, .int .i64 (n + s), .int .i64 0] 39)).alloc (.cells #[.int .i64 k, .int .i64 (n - 3 * s), .int .i64 0] 39)) w4.heap.size (.int .i64 k) (.int .i64 (n + s)) (.int .i64 0)) := (Own.new w4 _ _ _).alloc _
          have HY5 : Hid (Own ((w4.alloc (.cells #[.int .i64 k, .int .i64 (n + s), .int .i64 0] 39)).alloc (.cells #[.int .i64 k, .int .i64 (n - 3 * s), .int .i64 0] 39)) (w4.heap.size + 1) (.int .i64 k) (.int .i64 (n - 3 * s)) (.int .i64 0)) := by
            have := Own.new (w4.alloc (.cells #[.int .i64 k, .int .i64 (n + s), .int .i64 0] 39)) (.int .i64 k) (.int .i64 (n - 3 * s)) (.int .i64 0)
            rw [show (w4.alloc (.cells #[.int .i64 k, .int .i64 (n + s), .int .i64 0] 39)).heap.size = w4.heap.size + 1 by simp] at this
            exact this
          generalize ((w4.alloc (.cells #[.int .i64 k, .int .i64 (n + s), .int .i64 0] 39)).alloc (.cells #[.int .i64 k, .int .i64 (n - 3 * s), .int .i64 0] 39)) = W5 at *
          clear g0 g1 g2 f0 f1 f2
          obtain ⟨⟨ac0, ac1, ac2⟩, -, -, -⟩ := HA5.out
          have qa0 := cell_regrown ac0
          have qa1 := cell_regrown ac1
          have qa2 := cell_regrown ac2
          obtain ⟨⟨xc0, xc1, xc2⟩, -, -, -⟩ := HX5.out
          have qx0 := cell_regrown xc0
          have qx1 := cell_regrown xc1
          have qx2 := cell_regrown xc2
          obtain ⟨⟨yc0, yc1, yc2⟩, -, -, -⟩ := HY5.out
          have qy0 := cell_regrown yc0
          have qy1 := cell_regrown yc1
          have qy2 := cell_regrown yc2
          have C1 : Hid (∀ (d : Nat) (os : Array Obj), Calls Tryd.prog 10 #[m.val, .agg #[.int .i64 k, .int .i64 (n + s), .int .i64 0]] (Sort.grow (redrawn W5 d) os) fun e w'' => e = .returned (.bool bb) ∧ ∃ p' : Regrown, w'' = Sort.grow (redrawn W5 p'.d) p'.os) := fun d os => callY (fun W hW => hbB ▸ ibit_any m hm k (n + s) 0 W (HT.out.to (HB5.out.trans (hW.mono HB5.out.size)))) d os
          have C2 : Hid (∀ (d : Nat) (os : Array Obj), Calls Tryd.prog 10 #[m.val, .agg #[.int .i64 k, .int .i64 (n), .int .i64 p]] (Sort.grow (redrawn W5 d) os) fun e w'' => e = .returned (.bool bb) ∧ ∃ p' : Regrown, w'' = Sort.grow (redrawn W5 p'.d) p'.os) := fun d os => callY (fun W hW => hbb.symm ▸ ibit_any m hm k (n) p W (HT.out.to (HB5.out.trans (hW.mono HB5.out.size)))) d os
          have C3 : Hid (∀ (d : Nat) (os : Array Obj), Calls Tryd.prog 10 #[m.val, .agg #[.int .i64 k, .int .i64 (n - 3 * s), .int .i64 0]] (Sort.grow (redrawn W5 d) os) fun e w'' => e = .returned (.bool bb) ∧ ∃ p' : Regrown, w'' = Sort.grow (redrawn W5 p'.d) p'.os) := fun d os => callY (fun W hW => hbC ▸ ibit_any m hm k (n - 3 * s) 0 W (HT.out.to (HB5.out.trans (hW.mono HB5.out.size)))) d os
          have C4 : Hid (∀ (d : Nat) (os : Array Obj), Calls Tryd.prog 23 #[m.val, .agg #[.int .i64 k, .int .i64 (n), .int .i64 p]] (Sort.grow (redrawn W5 d) os) fun e w'' => e = .returned (.bool bb) ∧ ∃ p' : Regrown, w'' = Sort.grow (redrawn W5 p'.d) p'.os) := fun d os => callY (fun W hW => hbb.symm ▸ sbt_any m hm k (n) p W) d os
          have C5 : Hid (∀ (d : Nat) (os : Array Obj), Calls Tryd.prog 15 #[m.val, .agg #[.int .i64 k, .int .i64 (n + s), .int .i64 0]] (Sort.grow (redrawn W5 d) os) fun e w'' => e = .returned (.int .i16 ww) ∧ ∃ p' : Regrown, w'' = Sort.grow (redrawn W5 p'.d) p'.os) := fun d os => callY (fun W hW => hwB ▸ iwhole_any m hm k (n + s) 0 W (HT.out.to (HB5.out.trans (hW.mono HB5.out.size)))) d os
          have C6 : Hid (∀ (d : Nat) (os : Array Obj), Calls Tryd.prog 15 #[m.val, .agg #[.int .i64 k, .int .i64 (n), .int .i64 p]] (Sort.grow (redrawn W5 d) os) fun e w'' => e = .returned (.int .i16 ww) ∧ ∃ p' : Regrown, w'' = Sort.grow (redrawn W5 p'.d) p'.os) := fun d os => callY (fun W hW => hww.symm ▸ iwhole_any m hm k (n) p W (HT.out.to (HB5.out.trans (hW.mono HB5.out.size)))) d os
          have C7 : Hid (∀ (d : Nat) (os : Array Obj), Calls Tryd.prog 15 #[m.val, .agg #[.int .i64 k, .int .i64 (n - 3 * s), .int .i64 0]] (Sort.grow (redrawn W5 d) os) fun e w'' => e = .returned (.int .i16 ww) ∧ ∃ p' : Regrown, w'' = Sort.grow (redrawn W5 p'.d) p'.os) := fun d os => callY (fun W hW => hwC ▸ iwhole_any m hm k (n - 3 * s) 0 W (HT.out.to (HB5.out.trans (hW.mono HB5.out.size)))) d os
          have C8 : Hid (∀ (d : Nat) (os : Array Obj), Calls Tryd.prog 24 #[m.val, .agg #[.int .i64 k, .int .i64 (n), .int .i64 p]] (Sort.grow (redrawn W5 d) os) fun e w'' => e = .returned (.int .i16 ww) ∧ ∃ p' : Regrown, w'' = Sort.grow (redrawn W5 p'.d) p'.os) := fun d os => callY (fun W hW => hww.symm ▸ swhole_any m hm k (n) p W) d os
          have C9 : Hid (∀ (d : Nat) (os : Array Obj), Calls Tryd.prog 19 #[m.val, .agg #[.int .i64 k, .int .i64 (n + s), .int .i64 0]] (Sort.grow (redrawn W5 d) os) fun e w'' => e = .returned (.float .f64 rr) ∧ ∃ p' : Regrown, w'' = Sort.grow (redrawn W5 p'.d) p'.os) := fun d os => callY (fun W hW => hrB ▸ rdev_any m hm k (n + s) 0 W (HT.out.to (HB5.out.trans (hW.mono HB5.out.size))) hdv) d os
          have C10 : Hid (∀ (d : Nat) (os : Array Obj), Calls Tryd.prog 19 #[m.val, .agg #[.int .i64 k, .int .i64 (n - 3 * s), .int .i64 0]] (Sort.grow (redrawn W5 d) os) fun e w'' => e = .returned (.float .f64 rr) ∧ ∃ p' : Regrown, w'' = Sort.grow (redrawn W5 p'.d) p'.os) := fun d os => callY (fun W hW => hrC ▸ rdev_any m hm k (n - 3 * s) 0 W (HT.out.to (HB5.out.trans (hW.mono HB5.out.size))) hdv) d os
          have C11 : Hid (∀ (d : Nat) (os : Array Obj), Calls Tryd.prog 21 #[.float .f64 rr, .float .f64 rr] (Sort.grow (redrawn W5 d) os) fun e w'' => e = .returned (.bool true) ∧ ∃ p' : Regrown, w'' = Sort.grow (redrawn W5 p'.d) p'.os) := fun d os => callY (fun W _ => (wrSame_self rr W hrl).mono fun _ _ ⟨x, y⟩ => ⟨x, y ▸ Below.refl _ _⟩) d os
          have HCM : Hid (∀ w', (∃ p : Regrown, w' = Sort.grow (redrawn W5 p.d) p.os) → MemAt w' B m) := memY HM5.out
          have hee : (bb == bb) = true := by cases bb <;> rfl
          clear hbb hww hrr hbB hbC hwB hwC hrB hrC hrl hw1 hw3 hdv hw2
          go_wp2
          refine wp_region_quiet_below (by kernel_rfl) (by kernel_rfl) ?_
          repeat (first | (refine wpQuiet_memLoad (by rfl) (.tmp 3) (by rfl) (by rfl) HCM.out ?_; simp only [Act.put, List.setIfInBounds_toArray, List.set_cons_zero, List.set_cons_succ]) | go_big_quiet_step (first | with_reducible exact C1.out _ _ | with_reducible exact C2.out _ _ | with_reducible exact C3.out _ _ | with_reducible exact C4.out _ _ | with_reducible exact C5.out _ _ | with_reducible exact C6.out _ _ | with_reducible exact C7.out _ _ | with_reducible exact C8.out _ _ | with_reducible exact C9.out _ _ | with_reducible exact C10.out _ _ | with_reducible exact C11.out _ _) | quiet_step (first | with_reducible exact C1.out _ _ | with_reducible exact C2.out _ _ | with_reducible exact C3.out _ _ | with_reducible exact C4.out _ _ | with_reducible exact C5.out _ _ | with_reducible exact C6.out _ _ | with_reducible exact C7.out _ _ | with_reducible exact C8.out _ _ | with_reducible exact C9.out _ _ | with_reducible exact C10.out _ _ | with_reducible exact C11.out _ _))
          refine wpQuiet_nil ?_
          intro _ hw'
          obtain ⟨⟨dq, osq⟩, hw''⟩ := hw'
          subst hw''
          have HBq : Hid (Below w.heap.size w (Sort.grow (redrawn W5 dq) osq)) := HB5.out.trans ((below_regrown _ dq osq).mono HB5.out.size)
          clear qa0 qa1 qa2 qx0 qx1 qx2 qy0 qy1 qy2
          generalize Sort.grow (redrawn W5 dq) osq = wq at *
          go_wp2
          go_ret
          exact ⟨rfl, HBq.out⟩
end Go.Proofs.YtljhpagpohihcaaDoor
