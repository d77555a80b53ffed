/- The drawing of operands, on: l1Spoilt, l1Any, l1Half. Helper text: no statement is claimed here. -/
import Derived.Test.YtceepaboaoffkaaDoorRb
namespace Go.Proofs.YtceepaboaoffkaaDoor
open Go.ChangeShapes Go.WideShapes Go.ChangeAt Go.RowKit

theorem nums_16 (w : World) : Nums (w.alloc (.cells #[.int .i64 (-1), .int .i64 4, .int .i64 5, .int .i64 15, .int .i64 16, .int .i64 31, .int .i64 32, .int .i64 63, .int .i64 64, .int .i64 255, .int .i64 32768, .int .i64 (-32769), .int .i64 1000000000, .int .i64 (-1000000000), .int .i64 20, .int .i64 10] 3)) w.heap.size 16 := by
  have := nums_mk w [-1, 4, 5, 15, 16, 31, 32, 63, 64, 255, 32768, -32769, 1000000000, -1000000000, 20, 10] 3 (by simp)
  simpa using this
theorem nums_5 (w : World) : Nums (w.alloc (.cells #[.int .i64 (-1), .int .i64 0, .int .i64 1, .int .i64 6, .int .i64 7] 3)) w.heap.size 5 := by
  have := nums_mk w [-1, 0, 1, 6, 7] 3 (by simp)
  simpa using this

set_option maxHeartbeats 2000000 in
theorem spoilt_any (rb m : Nat) (k n p : Int) (w : World) (hr : Rd w rb m) (hm : m ≤ 10000) (hk : Sm k) (hn : Sm n) (hp : Sm p) :
    Calls Tryd.prog 75 #[.pointer (some ⟨rb, 0, none⟩), .agg #[.int .i64 k, .int .i64 n, .int .i64 p]] w (Drawn rb (m + 2) w) := by
  have hlt := hr.lt
  have hne : w.heap.size ≠ rb := by omega
  have hne2 : w.heap.size + 1 ≠ rb := by omega
  have hbd := rN_bd (kz k)
  obtain ⟨n0, n1⟩ := hn
  go_enter Tryd.func75, Tryd.ntmps75
  go_wp2_with fail
  refine (pick_any rb m 6 _ (by omega) ((hr.alloc _).alloc _) (by omega)).mono ?_
  rintro e w1 ⟨t, rfl, t0, t1, -, hr1, st⟩
  have t1 : t < 6 := t1 (by omega)
  have hz : w.heap.size + 1 < w1.heap.size := by have := st.size; simp at this; omega
  have oa := ((Own.new w (.int .i64 k) (.int .i64 n) (.int .i64 p)).alloc (.cells #[.int .i64 0, .int .i64 0, .int .i64 0] 41)).step st hne
  have ob : Own w1 (w.heap.size + 1) (.int .i64 0) (.int .i64 0) (.int .i64 0) := by
    have := (Own.new (w.alloc (.cells #[.int .i64 k, .int .i64 n, .int .i64 p] 41)) (.int .i64 0) (.int .i64 0) (.int .i64 0)).step st (by simpa using hne2)
    simpa using this
  have sw : Step rb w w1 := ((Step.alloc rb w _).trans (Step.alloc rb _ _)).trans st
  clear st
  have ht : t = 0 ∨ t = 1 ∨ t = 2 ∨ t = 3 ∨ t = 4 ∨ t = 5 := by omega
  rcases ht with rfl | rfl | rfl | rfl | rfl | rfl
  · go_wp2_with fail
    refine (pick_any rb (m + 1) 16 _ (by omega) hr1 (by omega)).mono ?_
    rintro e w2 ⟨u, rfl, u0, u1, -, hr2, st2⟩
    have u1 : u < 16 := u1 (by omega)
    have ow := ob.step st2 hne2
    obtain ⟨⟨o0, o1, o2⟩, z0, z1, z2⟩ := oa.step st2 hne
    obtain ⟨⟨r0, r1, r2⟩, y0, y1, y2⟩ := ow
    go_wp2
    exact bodyPost_ret (v := .agg #[.int .i64 (u - 1), .int .i64 n, .int .i64 p]) (resArg Tryd.results75 rfl (put3 (Own.set (show Own w2 _ _ _ _ from ⟨⟨r0, r1, r2⟩, y0, y1, y2⟩) (by omega)).1)) rfl ⟨u - 1, n, p, rfl, by unfold Sm; omega, ⟨n0, n1⟩, hp, (hr2.set _ _ _ hlt).set3 (by omega) (by omega), ((sw.trans st2).setNew _ _ _ (by omega)).set3 (by omega)⟩
  · go_wp2_with fail
    refine (num_any rb (m + 1) w1.heap.size 16 _ (by omega) (by omega) (hr1.alloc _) (by omega) (nums_16 w1) (by have := hr1.lt; omega)).mono ?_
    rintro e w2 ⟨u, rfl, u0, u1, hr2, st2⟩
    have st2 : Step rb w1 w2 := (Step.alloc rb w1 _).trans st2
    have ow := ob.step st2 hne2
    obtain ⟨⟨o0, o1, o2⟩, z0, z1, z2⟩ := oa.step st2 hne
    obtain ⟨⟨r0, r1, r2⟩, y0, y1, y2⟩ := ow
    go_wp2
    exact bodyPost_ret (v := .agg #[.int .i64 k, .int .i64 u, .int .i64 p]) (resArg Tryd.results75 rfl (put3 (Own.set (show Own w2 _ _ _ _ from ⟨⟨r0, r1, r2⟩, y0, y1, y2⟩) (by omega)).1)) rfl ⟨k, u, p, rfl, hk, ⟨u0, u1⟩, hp, (hr2.set _ _ _ hlt).set3 (by omega) (by omega), ((sw.trans st2).setNew _ _ _ (by omega)).set3 (by omega)⟩
  · go_wp2_with fail
    refine (num_any rb (m + 1) w1.heap.size 5 _ (by omega) (by omega) (hr1.alloc _) (by omega) (nums_5 w1) (by have := hr1.lt; omega)).mono ?_
    rintro e w2 ⟨u, rfl, u0, u1, hr2, st2⟩
    have st2 : Step rb w1 w2 := (Step.alloc rb w1 _).trans st2
    have ow := ob.step st2 hne2
    obtain ⟨⟨o0, o1, o2⟩, z0, z1, z2⟩ := oa.step st2 hne
    obtain ⟨⟨r0, r1, r2⟩, y0, y1, y2⟩ := ow
    go_wp2
    exact bodyPost_ret (v := .agg #[.int .i64 k, .int .i64 n, .int .i64 u]) (resArg Tryd.results75 rfl (put3 (Own.set (show Own w2 _ _ _ _ from ⟨⟨r0, r1, r2⟩, y0, y1, y2⟩) (by omega)).1)) rfl ⟨k, n, u, rfl, hk, ⟨n0, n1⟩, ⟨u0, u1⟩, (hr2.set _ _ _ hlt).set3 (by omega) (by omega), ((sw.trans st2).setNew _ _ _ (by omega)).set3 (by omega)⟩
  · have ow := ob
    obtain ⟨⟨o0, o1, o2⟩, z0, z1, z2⟩ := oa
    obtain ⟨⟨r0, r1, r2⟩, y0, y1, y2⟩ := ow
    go_wp2_with fail
    refine (ssize_any _ _).mono ?_
    rintro e w2 ⟨rfl, rfl⟩
    go_wp2
    exact bodyPost_ret (v := .agg #[.int .i64 k, .int .i64 (rN (kz k)), .int .i64 p]) (resArg Tryd.results75 rfl (put3 (Own.set ob (by omega)).1)) rfl ⟨k, rN (kz k), p, rfl, hk, by unfold Sm; omega, hp, (hr1.set _ _ _ hlt).set3 (by omega) (by omega), (sw.setNew _ _ _ (by omega)).set3 (by omega)⟩
  · have ow := ob
    obtain ⟨⟨o0, o1, o2⟩, z0, z1, z2⟩ := oa
    obtain ⟨⟨r0, r1, r2⟩, y0, y1, y2⟩ := ow
    go_wp2_with fail
    refine (ssize_any _ _).mono ?_
    rintro e w2 ⟨rfl, rfl⟩
    go_wp2
    exact bodyPost_ret (v := .agg #[.int .i64 k, .int .i64 (rN (kz k) - 1), .int .i64 p]) (resArg Tryd.results75 rfl (put3 (Own.set ob (by omega)).1)) rfl ⟨k, rN (kz k) - 1, p, rfl, hk, by unfold Sm; omega, hp, (hr1.set _ _ _ hlt).set3 (by omega) (by omega), (sw.setNew _ _ _ (by omega)).set3 (by omega)⟩
  · have ow := ob
    obtain ⟨⟨o0, o1, o2⟩, z0, z1, z2⟩ := oa
    obtain ⟨⟨r0, r1, r2⟩, y0, y1, y2⟩ := ow
    go_wp2
    exact bodyPost_ret (v := .agg #[.int .i64 k, .int .i64 (-n), .int .i64 p]) (resArg Tryd.results75 rfl (put3 (Own.set ob (by omega)).1)) rfl ⟨k, -n, p, rfl, hk, by unfold Sm; omega, hp, (hr1.set _ _ _ hlt).set3 (by omega) (by omega), (sw.setNew _ _ _ (by omega)).set3 (by omega)⟩

set_option maxHeartbeats 1000000 in
theorem argAny_any (rb m : Nat) (w : World) (hr : Rd w rb m) (hm : m ≤ 9000) :
    Calls Tryd.prog 42 #[.pointer (some ⟨rb, 0, none⟩)] w (Drawn rb (m + 8) w) := by
  have hlt := hr.lt
  have hne : w.heap.size ≠ rb := by omega
  go_enter Tryd.func42, Tryd.ntmps42
  go_wp2_with fail
  refine (pick_any rb m 13 _ (by omega) (hr.alloc _) (by omega)).mono ?_
  rintro e w1 ⟨t, rfl, t0, t1, -, hr1, st⟩
  have t1 : t < 13 := t1 (by omega)
  have oa := (Own.new w (.int .i64 0) (.int .i64 0) (.int .i64 0)).step st hne
  have sw : Step rb w w1 := (Step.alloc rb w _).trans st
  clear st
  go_wp2_with fail
  refine (arg_any rb (m + 1) (1 + t) _ hr1 (by omega) (by unfold Sm; omega)).mono ?_
  rintro e w2 ⟨k, n, p, rfl, hk, hn, hp, hr2, st2⟩
  have oa2 := oa.step st2 hne
  have sw2 := sw.trans st2
  have hz2 := oa2.lt
  clear oa sw st2
  have hlt2 := hr2.lt
  go_wp2_with fail
  refine (pick_any rb (m + 5) 20 _ (by omega) (hr2.alloc _) (by omega)).mono ?_
  rintro e w3 ⟨u, rfl, u0, u1, -, hr3, st3⟩
  have on3 := (Own.new w2 (.int .i64 k) (.int .i64 n) (.int .i64 p)).step st3 (by omega)
  have oa3 := (oa2.alloc _).step st3 hne
  have sw3 : Step rb w w3 := (sw2.trans (Step.alloc rb w2 _)).trans st3
  clear oa2 sw2 st3 u1
  by_cases hu : u = 0
  · subst hu
    obtain ⟨⟨o0, o1, o2⟩, z0, z1, z2⟩ := on3
    go_wp2_with fail
    refine (spoilt_any rb (m + 6) k n p _ hr3 (by omega) hk hn hp).mono ?_
    rintro e w4 ⟨k', n', p', rfl, hk', hn', hp', hr4, st4⟩
    have oa4 := oa3.step st4 hne
    obtain ⟨⟨r0, r1, r2⟩, y0, y1, y2⟩ := oa4
    go_wp2
    exact bodyPost_ret (v := .agg #[.int .i64 k', .int .i64 n', .int .i64 p']) (resArg Tryd.results42 rfl (put3 ⟨r0, r1, r2⟩)) rfl ⟨k', n', p', rfl, hk', hn', hp', hr4.set3 hlt (by omega), (sw3.trans st4).set3 (Nat.le_refl _)⟩
  · have hu' : (u == 0) = false := by simpa using hu
    clear hu
    obtain ⟨⟨o0, o1, o2⟩, z0, z1, z2⟩ := on3
    obtain ⟨⟨r0, r1, r2⟩, y0, y1, y2⟩ := oa3
    go_wp2
    exact bodyPost_ret (v := .agg #[.int .i64 k, .int .i64 n, .int .i64 p]) (resArg Tryd.results42 rfl (put3 ⟨r0, r1, r2⟩)) rfl ⟨k, n, p, rfl, hk, hn, hp, hr3.set3 hlt (by omega), sw3.set3 (Nat.le_refl _)⟩

/-- What the drawing of an operand out of bytes ends in. -/
def DrawnNew (w : World) (e : Ending) (w' : World) : Prop := ∃ k n p : Int, e = .returned (.agg #[.int .i64 k, .int .i64 n, .int .i64 p]) ∧ Sm k ∧ Sm n ∧ Sm p ∧ Below w.heap.size w w'

theorem put3_below {W w1 : World} {b : Nat} {x y z : Value} (h : Below W.heap.size W w1) (hb : W.heap.size ≤ b) : Below W.heap.size W (((w1.setCell ⟨b, 0, none⟩ x).setCell ⟨b, 1, none⟩ y).setCell ⟨b, 2, none⟩ z) :=
  ((h.setCell hb _).setCell hb _).setCell hb _

theorem IsRow.alloc {w : World} {a : Option Addr} {len : Nat} (h : IsRow w a len) (o : Obj) : IsRow (w.alloc o) a len := by
  rcases h with h | ⟨b, off, f, rfl, hc⟩
  · exact .inl h
  · refine .inr ⟨b, off, f, rfl, fun i hi => ?_⟩
    have := hc i hi
    rw [World.cell?_alloc_lt _ _ _ (World.block_lt_of_cell? w ⟨b, off + i, none⟩ this.1)]
    exact this

end Go.Proofs.YtceepaboaoffkaaDoor
