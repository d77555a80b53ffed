/- The drawing of operands, on: l1Spoilt, l1Any, l1Half. Helper text: no statement is claimed here. -/
import Derived.Test.YtlflihegadjpdaaDoorP38
import Derived.Test.YtlflihegadjpdaaDoorZb
import Derived.Deep.RegionHeld3
import Derived.Deep.RegionWith
import Derived.Laws.BitsLemmas
import Derived.Test.YtlflihegadjpdaaDoorJb
import Derived.Laws.BitsAllLaws
import Derived.Laws.Bits64
import Derived.Test.YtlflihegadjpdaaDoorNd
import Derived.Lib.Join
namespace Go.Proofs.YtlflihegadjpdaaDoor
open Go.ChangeShapes Go.WideShapes Go.ChangeAt Go.RowKit

theorem nums_16 (w : World) : Nums (w.alloc (.cells #[.int .i64 (-1), .int .i64 4, .int .i64 5, .int .i64 15, .int .i64 16, .int .i64 31, .int .i64 32, .int .i64 63, .int .i64 64, .int .i64 255, .int .i64 32768, .int .i64 (-32769), .int .i64 1000000000, .int .i64 (-1000000000), .int .i64 20, .int .i64 10] 3)) w.heap.size 16 := by
  have := nums_mk w [-1, 4, 5, 15, 16, 31, 32, 63, 64, 255, 32768, -32769, 1000000000, -1000000000, 20, 10] 3 (by simp)
  simpa using this
theorem nums_5 (w : World) : Nums (w.alloc (.cells #[.int .i64 (-1), .int .i64 0, .int .i64 1, .int .i64 6, .int .i64 7] 3)) w.heap.size 5 := by
  have := nums_mk w [-1, 0, 1, 6, 7] 3 (by simp)
  simpa using this

set_option maxHeartbeats 2000000 in
theorem spoilt_any (rb m : Nat) (k n p : Int) (w : World) (hr : Rd w rb m) (hm : m ≤ 10000) (hk : Sm k) (hn : Sm n) (hp : Sm p) :
    Calls Tryd.prog 61 #[.pointer (some ⟨rb, 0, none⟩), .agg #[.int .i64 k, .int .i64 n, .int .i64 p]] w (Drawn rb (m + 2) w) := by
  have hlt := hr.lt
  have hne : w.heap.size ≠ rb := by omega
  have hne2 : w.heap.size + 1 ≠ rb := by omega
  have hbd := rN_bd (kz k)
  obtain ⟨n0, n1⟩ := hn
  go_enter Tryd.func61, Tryd.ntmps61
  go_wp2_with fail
  refine (pick_any rb m 6 _ (by omega) ((hr.alloc _).alloc _) (by omega)).mono ?_
  rintro e w1 ⟨t, rfl, t0, t1, -, hr1, st⟩
  have t1 : t < 6 := t1 (by omega)
  have hz : w.heap.size + 1 < w1.heap.size := by have := st.size; simp at this; omega
  have oa := ((Own.new w (.int .i64 k) (.int .i64 n) (.int .i64 p)).alloc (.cells #[.int .i64 0, .int .i64 0, .int .i64 0] 58)).step st hne
  have ob : Own w1 (w.heap.size + 1) (.int .i64 0) (.int .i64 0) (.int .i64 0) := by
    have := (Own.new (w.alloc (.cells #[.int .i64 k, .int .i64 n, .int .i64 p] 58)) (.int .i64 0) (.int .i64 0) (.int .i64 0)).step st (by simpa using hne2)
    simpa using this
  have sw : Step rb w w1 := ((Step.alloc rb w _).trans (Step.alloc rb _ _)).trans st
  clear st
  have ht : t = 0 ∨ t = 1 ∨ t = 2 ∨ t = 3 ∨ t = 4 ∨ t = 5 := by omega
  rcases ht with rfl | rfl | rfl | rfl | rfl | rfl
  · go_wp2_with fail
    refine (pick_any rb (m + 1) 16 _ (by omega) hr1 (by omega)).mono ?_
    rintro e w2 ⟨u, rfl, u0, u1, -, hr2, st2⟩
    have u1 : u < 16 := u1 (by omega)
    have ow := ob.step st2 hne2
    obtain ⟨⟨o0, o1, o2⟩, z0, z1, z2⟩ := oa.step st2 hne
    obtain ⟨⟨r0, r1, r2⟩, y0, y1, y2⟩ := ow
    go_wp2
    exact bodyPost_ret (v := .agg #[.int .i64 (u - 1), .int .i64 n, .int .i64 p]) (resArg Tryd.results61 rfl (put3 (Own.set (show Own w2 _ _ _ _ from ⟨⟨r0, r1, r2⟩, y0, y1, y2⟩) (by omega)).1)) rfl ⟨u - 1, n, p, rfl, by unfold Sm; omega, ⟨n0, n1⟩, hp, (hr2.set _ _ _ hlt).set3 (by omega) (by omega), ((sw.trans st2).setNew _ _ _ (by omega)).set3 (by omega)⟩
  · go_wp2_with fail
    refine (num_any rb (m + 1) w1.heap.size 16 _ (by omega) (by omega) (hr1.alloc _) (by omega) (nums_16 w1) (by have := hr1.lt; omega)).mono ?_
    rintro e w2 ⟨u, rfl, u0, u1, hr2, st2⟩
    have st2 : Step rb w1 w2 := (Step.alloc rb w1 _).trans st2
    have ow := ob.step st2 hne2
    obtain ⟨⟨o0, o1, o2⟩, z0, z1, z2⟩ := oa.step st2 hne
    obtain ⟨⟨r0, r1, r2⟩, y0, y1, y2⟩ := ow
    go_wp2
    exact bodyPost_ret (v := .agg #[.int .i64 k, .int .i64 u, .int .i64 p]) (resArg Tryd.results61 rfl (put3 (Own.set (show Own w2 _ _ _ _ from ⟨⟨r0, r1, r2⟩, y0, y1, y2⟩) (by omega)).1)) rfl ⟨k, u, p, rfl, hk, ⟨u0, u1⟩, hp, (hr2.set _ _ _ hlt).set3 (by omega) (by omega), ((sw.trans st2).setNew _ _ _ (by omega)).set3 (by omega)⟩
  · go_wp2_with fail
    refine (num_any rb (m + 1) w1.heap.size 5 _ (by omega) (by omega) (hr1.alloc _) (by omega) (nums_5 w1) (by have := hr1.lt; omega)).mono ?_
    rintro e w2 ⟨u, rfl, u0, u1, hr2, st2⟩
    have st2 : Step rb w1 w2 := (Step.alloc rb w1 _).trans st2
    have ow := ob.step st2 hne2
    obtain ⟨⟨o0, o1, o2⟩, z0, z1, z2⟩ := oa.step st2 hne
    obtain ⟨⟨r0, r1, r2⟩, y0, y1, y2⟩ := ow
    go_wp2
    exact bodyPost_ret (v := .agg #[.int .i64 k, .int .i64 n, .int .i64 u]) (resArg Tryd.results61 rfl (put3 (Own.set (show Own w2 _ _ _ _ from ⟨⟨r0, r1, r2⟩, y0, y1, y2⟩) (by omega)).1)) rfl ⟨k, n, u, rfl, hk, ⟨n0, n1⟩, ⟨u0, u1⟩, (hr2.set _ _ _ hlt).set3 (by omega) (by omega), ((sw.trans st2).setNew _ _ _ (by omega)).set3 (by omega)⟩
  · have ow := ob
    obtain ⟨⟨o0, o1, o2⟩, z0, z1, z2⟩ := oa
    obtain ⟨⟨r0, r1, r2⟩, y0, y1, y2⟩ := ow
    go_wp2_with fail
    refine (ssize_any _ _).mono ?_
    rintro e w2 ⟨rfl, rfl⟩
    go_wp2
    exact bodyPost_ret (v := .agg #[.int .i64 k, .int .i64 (rN (kz k)), .int .i64 p]) (resArg Tryd.results61 rfl (put3 (Own.set ob (by omega)).1)) rfl ⟨k, rN (kz k), p, rfl, hk, by unfold Sm; omega, hp, (hr1.set _ _ _ hlt).set3 (by omega) (by omega), (sw.setNew _ _ _ (by omega)).set3 (by omega)⟩
  · have ow := ob
    obtain ⟨⟨o0, o1, o2⟩, z0, z1, z2⟩ := oa
    obtain ⟨⟨r0, r1, r2⟩, y0, y1, y2⟩ := ow
    go_wp2_with fail
    refine (ssize_any _ _).mono ?_
    rintro e w2 ⟨rfl, rfl⟩
    go_wp2
    exact bodyPost_ret (v := .agg #[.int .i64 k, .int .i64 (rN (kz k) - 1), .int .i64 p]) (resArg Tryd.results61 rfl (put3 (Own.set ob (by omega)).1)) rfl ⟨k, rN (kz k) - 1, p, rfl, hk, by unfold Sm; omega, hp, (hr1.set _ _ _ hlt).set3 (by omega) (by omega), (sw.setNew _ _ _ (by omega)).set3 (by omega)⟩
  · have ow := ob
    obtain ⟨⟨o0, o1, o2⟩, z0, z1, z2⟩ := oa
    obtain ⟨⟨r0, r1, r2⟩, y0, y1, y2⟩ := ow
    go_wp2
    exact bodyPost_ret (v := .agg #[.int .i64 k, .int .i64 (-n), .int .i64 p]) (resArg Tryd.results61 rfl (put3 (Own.set ob (by omega)).1)) rfl ⟨k, -n, p, rfl, hk, by unfold Sm; omega, hp, (hr1.set _ _ _ hlt).set3 (by omega) (by omega), (sw.setNew _ _ _ (by omega)).set3 (by omega)⟩

set_option maxHeartbeats 1000000 in
theorem argAny_any (rb m : Nat) (w : World) (hr : Rd w rb m) (hm : m ≤ 9000) :
    Calls Tryd.prog 39 #[.pointer (some ⟨rb, 0, none⟩)] w (Drawn rb (m + 8) w) := by
  have hlt := hr.lt
  have hne : w.heap.size ≠ rb := by omega
  go_enter Tryd.func39, Tryd.ntmps39
  go_wp2_with fail
  refine (pick_any rb m 13 _ (by omega) (hr.alloc _) (by omega)).mono ?_
  rintro e w1 ⟨t, rfl, t0, t1, -, hr1, st⟩
  have t1 : t < 13 := t1 (by omega)
  have oa := (Own.new w (.int .i64 0) (.int .i64 0) (.int .i64 0)).step st hne
  have sw : Step rb w w1 := (Step.alloc rb w _).trans st
  clear st
  go_wp2_with fail
  refine (arg_any rb (m + 1) (1 + t) _ hr1 (by omega) (by unfold Sm; omega)).mono ?_
  rintro e w2 ⟨k, n, p, rfl, hk, hn, hp, hr2, st2⟩
  have oa2 := oa.step st2 hne
  have sw2 := sw.trans st2
  have hz2 := oa2.lt
  clear oa sw st2
  have hlt2 := hr2.lt
  go_wp2_with fail
  refine (pick_any rb (m + 5) 20 _ (by omega) (hr2.alloc _) (by omega)).mono ?_
  rintro e w3 ⟨u, rfl, u0, u1, -, hr3, st3⟩
  have on3 := (Own.new w2 (.int .i64 k) (.int .i64 n) (.int .i64 p)).step st3 (by omega)
  have oa3 := (oa2.alloc _).step st3 hne
  have sw3 : Step rb w w3 := (sw2.trans (Step.alloc rb w2 _)).trans st3
  clear oa2 sw2 st3 u1
  by_cases hu : u = 0
  · subst hu
    obtain ⟨⟨o0, o1, o2⟩, z0, z1, z2⟩ := on3
    go_wp2_with fail
    refine (spoilt_any rb (m + 6) k n p _ hr3 (by omega) hk hn hp).mono ?_
    rintro e w4 ⟨k', n', p', rfl, hk', hn', hp', hr4, st4⟩
    have oa4 := oa3.step st4 hne
    obtain ⟨⟨r0, r1, r2⟩, y0, y1, y2⟩ := oa4
    go_wp2
    exact bodyPost_ret (v := .agg #[.int .i64 k', .int .i64 n', .int .i64 p']) (resArg Tryd.results39 rfl (put3 ⟨r0, r1, r2⟩)) rfl ⟨k', n', p', rfl, hk', hn', hp', hr4.set3 hlt (by omega), (sw3.trans st4).set3 (Nat.le_refl _)⟩
  · have hu' : (u == 0) = false := by simpa using hu
    clear hu
    obtain ⟨⟨o0, o1, o2⟩, z0, z1, z2⟩ := on3
    obtain ⟨⟨r0, r1, r2⟩, y0, y1, y2⟩ := oa3
    go_wp2
    exact bodyPost_ret (v := .agg #[.int .i64 k, .int .i64 n, .int .i64 p]) (resArg Tryd.results39 rfl (put3 ⟨r0, r1, r2⟩)) rfl ⟨k, n, p, rfl, hk, hn, hp, hr3.set3 hlt (by omega), sw3.set3 (Nat.le_refl _)⟩

/-- What the drawing of an operand out of bytes ends in. -/
def DrawnNew (w : World) (e : Ending) (w' : World) : Prop := ∃ k n p : Int, e = .returned (.agg #[.int .i64 k, .int .i64 n, .int .i64 p]) ∧ Sm k ∧ Sm n ∧ Sm p ∧ Below w.heap.size w w'

theorem put3_below {W w1 : World} {b : Nat} {x y z : Value} (h : Below W.heap.size W w1) (hb : W.heap.size ≤ b) : Below W.heap.size W (((w1.setCell ⟨b, 0, none⟩ x).setCell ⟨b, 1, none⟩ y).setCell ⟨b, 2, none⟩ z) :=
  ((h.setCell hb _).setCell hb _).setCell hb _

theorem IsRow.alloc {w : World} {a : Option Addr} {len : Nat} (h : IsRow w a len) (o : Obj) : IsRow (w.alloc o) a len := by
  rcases h with h | ⟨b, off, f, rfl, hc⟩
  · exact .inl h
  · refine .inr ⟨b, off, f, rfl, fun i hi => ?_⟩
    have := hc i hi
    rw [World.cell?_alloc_lt _ _ _ (World.block_lt_of_cell? w ⟨b, off + i, none⟩ this.1)]
    exact this

end Go.Proofs.YtlflihegadjpdaaDoor

/- The drawing of an operand to ask for, and of a memory with it: l4Asks, DrawMemBit. Helper text: no statement is claimed here. -/
namespace Go.Proofs.YtlflihegadjpdaaDoor
open Go.ChangeShapes Go.WideShapes Go.ChangeAt Go.RowKit

/-- What the drawing of an operand to ask for ends in. -/
def DrawnA (rb m : Nat) (w : World) (e : Ending) (w' : World) : Prop := ∃ k n p : Int, e = .returned (.agg #[.int .i64 k, .int .i64 n, .int .i64 p]) ∧ Sm k ∧ (-4000000000 ≤ n ∧ n ≤ 4000000000) ∧ Sm p ∧ Rd w' rb m ∧ Step rb w w'
theorem nums_asks (w : World) : Nums (w.alloc (.cells #[.int .i64 (-64), .int .i64 16, .int .i64 32, .int .i64 64, .int .i64 128] 3)) w.heap.size 5 := by
  have := nums_mk w [-64, 16, 32, 64, 128] 3 (by simp)
  simpa using this
theorem wrap_smallZ {x : Int} (h0 : -9223372036854775808 ≤ x) (h1 : x ≤ 9223372036854775807) : IntKind.i64.wrap x = x := by
  rw [IntKind.wrap_i64]; omega

set_option maxHeartbeats 2000000 in
set_option maxRecDepth 100000 in
theorem asks_any (rb m : Nat) (w : World) (hr : Rd w rb m) (hm : m ≤ 8000) :
    Calls Tryd.prog 16 #[.pointer (some ⟨rb, 0, none⟩)] w (DrawnA rb (m + 10) w) := by
  have hlt := hr.lt
  have hne : w.heap.size ≠ rb := by omega
  go_enter Tryd.func16, Tryd.ntmps16
  go_wp2_with fail
  refine (argAny_any rb m _ (hr.alloc _) (by omega)).mono ?_
  rintro e w1 ⟨k, n, p, rfl, hk, hn, hp, hr1, st1⟩
  have o1 : Own w1 w.heap.size (.int .i64 0) (.int .i64 0) (.int .i64 0) := (Own.new w (.int .i64 0) (.int .i64 0) (.int .i64 0)).step st1 hne
  have sw1 : Step rb w w1 := (Step.alloc rb w _).trans st1
  have hz1 : w.heap.size < w1.heap.size := o1.lt
  have hne1 : w1.heap.size ≠ rb := by have := hr1.lt; omega
  clear st1
  go_wp2_with fail
  refine (pick_any rb (m + 8) 8 _ (by omega) (hr1.alloc _) (by omega)).mono ?_
  rintro e w2 ⟨t, rfl, t0, t1, -, hr2, st2⟩
  have oa : Own w2 w1.heap.size (.int .i64 k) (.int .i64 n) (.int .i64 p) := (Own.new w1 (.int .i64 k) (.int .i64 n) (.int .i64 p)).step st2 hne1
  have o2 : Own w2 w.heap.size (.int .i64 0) (.int .i64 0) (.int .i64 0) := (o1.alloc _).step st2 hne
  have sw2 : Step rb w w2 := (sw1.trans (Step.alloc rb w1 _)).trans st2
  have hz2 : w1.heap.size < w2.heap.size := oa.lt
  clear st2 o1 sw1
  by_cases ht : t = 0
  · subst ht
    have x1 := oa.1.2.1
    have hnb : w2.heap.size ≠ w1.heap.size := by omega
    go_wp2
    go_region_with (first
        | (go_at_call 33; refine (num_any rb (m + 9) w2.heap.size 5 _ (by omega) (by omega) ?_ (by omega) ?_ (by have := hr2.lt; omega)).mono ?_; exact hr2.drewZ.alloc _; exact nums_asks w2.drew; rintro e w3 ⟨v, rfl, v0, v1, hr3, st3⟩; have st3' : Step rb w2 w3 := ((Step.drewZ rb w2).trans (Step.alloc rb _ _)).trans st3; have oa3 := oa.step st3' (by omega); have o3 := o2.step st3' hne; have oa3c := oa3; obtain ⟨⟨x30, x3, x32⟩, y30, y3, y32⟩ := oa3c; have o3c := o3; obtain ⟨⟨r30, r31, r32⟩, z30, z31, z32⟩ := o3c; have hwr : IntKind.i64.wrap (n + v) = n + v := wrap_smallZ (by unfold Sm at hn; omega) (by unfold Sm at hn; omega)))
    all_goals (try go_wp2)

    all_goals exact bodyPost_ret (v := .agg #[.int .i64 k, .int .i64 (n + v), .int .i64 p]) (resArg Tryd.results16 rfl (put3 (o3.set (by omega)).1)) rfl ⟨k, n + v, p, rfl, hk, by unfold Sm at hn; omega, hp, (hr3.set _ _ _ (by omega)).set3 hlt (by omega), ((sw2.trans st3').setNew _ _ _ (by omega)).set3 (Nat.le_refl _)⟩
  · have ht' : (t == 0) = false := by simpa using ht
    obtain ⟨⟨a0, a1, a2⟩, b0, b1, b2⟩ := oa
    have o2c := o2
    obtain ⟨⟨r0, r1, r2⟩, y0, y1, y2⟩ := o2c
    go_wp2
    exact bodyPost_ret (v := .agg #[.int .i64 k, .int .i64 n, .int .i64 p]) (resArg Tryd.results16 rfl (put3 o2.1)) rfl ⟨k, n, p, rfl, hk, by unfold Sm at hn; omega, hp, hr2.set3 hlt (by omega), sw2.set3 (Nat.le_refl _)⟩
end Go.Proofs.YtlflihegadjpdaaDoor

/- The place of a device, counted round, on both sides. Helper text: no statement is claimed here. -/
namespace Go.Proofs.YtlflihegadjpdaaDoor
open Go.ChangeShapes Go.WideShapes Go.ChangeAt Go.RowKit

/-- How many there are to count round by. -/
def sz4 (k : Int) : Int := if k = 6 then 8 else rN (kz k)
/-- The place. -/
def plc (k n : Int) : Int := if sz4 k = 0 then 0 else n % sz4 k
theorem sz4_cases (k : Int) : sz4 k = 0 ∨ sz4 k = 8 ∨ sz4 k = 16 ∨ sz4 k = 32 ∨ sz4 k = 64 := by
  unfold sz4
  split
  · exact .inr (.inl rfl)
  · rename_i h6
    unfold kz
    split
    · rename_i h
      have : k = 1 ∨ k = 2 ∨ k = 3 ∨ k = 4 ∨ k = 5 ∨ k = 7 ∨ k = 8 ∨ k = 9 ∨ k = 10 ∨ k = 11 ∨ k = 12 ∨ k = 13 := by omega
      rcases this with rfl | rfl | rfl | rfl | rfl | rfl | rfl | rfl | rfl | rfl | rfl | rfl <;> decide
    · exact .inl rfl
theorem plc_range (k n : Int) : 0 ≤ plc k n ∧ (plc k n < sz4 k ∨ plc k n = 0) := by
  unfold plc
  rcases sz4_cases k with h | h | h | h | h <;> rw [h]
  · simp
  all_goals
    rw [if_neg (by decide)]
    omega
theorem wrap_small {x : Int} (h0 : -9223372036854775808 ≤ x) (h1 : x ≤ 9223372036854775807) : IntKind.i64.wrap x = x := by
  rw [IntKind.wrap_i64]; omega
theorem tmod_neg {n s : Int} (hs : 0 < s) (h : n.tmod s < 0) : n.tmod s + s = n % s := by
  have h1 := Int.tmod_eq_emod (a := n) (b := s)
  have h2 := Int.emod_nonneg n (show s ≠ 0 by omega)
  have h3 := Int.emod_lt_of_pos n hs
  split at h1
  · omega
  · have : (s.natAbs : Int) = s := by omega
    omega
theorem tmod_pos {n s : Int} (hs : 0 < s) (h : ¬ n.tmod s < 0) : n.tmod s = n % s := by
  have h1 := Int.tmod_eq_emod (a := n) (b := s)
  have h2 := Int.emod_nonneg n (show s ≠ 0 by omega)
  have h3 := Int.emod_lt_of_pos n hs
  split at h1
  · omega
  · have : (s.natAbs : Int) = s := by omega
    omega
theorem tmod_small {n s : Int} (hs : 0 < s) : -s ≤ n.tmod s ∧ n.tmod s < s := by
  have h2 := Int.emod_nonneg n (show s ≠ 0 by omega)
  have h3 := Int.emod_lt_of_pos n hs
  by_cases h : n.tmod s < 0
  · have := tmod_neg hs h
    omega
  · have := tmod_pos hs h
    omega

theorem plc_s (k : Int) (h6 : ¬ k = 6) : rN (kz k) = 0 ∨ rN (kz k) = 16 ∨ rN (kz k) = 32 ∨ rN (kz k) = 64 := by
  unfold kz
  split
  · rename_i h
    have : k = 1 ∨ k = 2 ∨ k = 3 ∨ k = 4 ∨ k = 5 ∨ k = 7 ∨ k = 8 ∨ k = 9 ∨ k = 10 ∨ k = 11 ∨ k = 12 ∨ k = 13 := by omega
    rcases this with rfl | rfl | rfl | rfl | rfl | rfl | rfl | rfl | rfl | rfl | rfl | rfl <;> decide
  · exact .inl rfl
set_option maxHeartbeats 1000000 in
theorem place_any (k n p : Int) (w : World) (hT : DevTab w) :
    Calls Tryd.prog 63 #[.agg #[.int .i64 k, .int .i64 n, .int .i64 p]] w fun e w' => e = .returned (.int .i64 (plc k n)) ∧ Below w.heap.size w w' := by
  have HT : Hid (DevTab w) := hT
  clear hT
  go_enter Tryd.func63, Tryd.ntmps63
  go_wp2_with fail
  refine (size_any k _ (HT.out.alloc _)).mono ?_
  rintro e w1 ⟨rfl, hb1⟩
  have HB1 : Hid (Below w.heap.size w w1) := of_one hb1
  have c0 : w1.cell? ⟨w.heap.size, 0, none⟩ = some (.int .i64 k) := (hb1.cell (p := ⟨w.heap.size, 0, none⟩) (by simp)).trans (by rw [World.cell?_alloc_mark]; rfl)
  have c1 : w1.cell? ⟨w.heap.size, 1, none⟩ = some (.int .i64 n) := (hb1.cell (p := ⟨w.heap.size, 1, none⟩) (by simp)).trans (by rw [World.cell?_alloc_mark]; rfl)
  clear hb1
  by_cases h6 : k = 6
  · subst h6
    have hs : (0 : Int) < 8 := by decide
    have hsm := tmod_small (n := n) hs
    have hwr : IntKind.i64.wrap (n.tmod 8) = n.tmod 8 := wrap_small (by omega) (by omega)
    by_cases hn : n.tmod 8 < 0
    · have hw2 : IntKind.i64.wrap (n.tmod 8 + 8) = n.tmod 8 + 8 := wrap_small (by omega) (by omega)
      have HE : Hid (n.tmod 8 + 8 = n % 8) := tmod_neg hs hn
      go_wp2
      go_ret
      refine ⟨?_, HB1.out⟩
      rw [show plc 6 n = n % 8 from rfl, ← HE.out]
      rfl
    · have HE : Hid (n.tmod 8 = n % 8) := tmod_pos hs hn
      go_wp2
      go_ret
      refine ⟨?_, HB1.out⟩
      rw [show plc 6 n = n % 8 from rfl, ← HE.out]
      rfl
  · have hk : (k == 6) = false := by simpa using h6
    have hr : sz4 k = rN (kz k) := if_neg h6
    have HP : Hid (plc k n = if sz4 k = 0 then 0 else n % sz4 k) := rfl
    rw [hr] at HP
    rcases plc_s k h6 with h | h | h | h
    · rw [h] at HP ⊢
      clear hr h
      go_wp2
      go_ret
      exact ⟨by rw [show plc k n = 0 from HP.out]; rfl, HB1.out⟩
    · rw [h] at HP ⊢
      clear hr h
      have hs : (0 : Int) < 16 := by decide
      have hsm := tmod_small (n := n) hs
      have hwr : IntKind.i64.wrap (n.tmod 16) = n.tmod 16 := wrap_small (by omega) (by omega)
      by_cases hn : n.tmod 16 < 0
      · have hw2 : IntKind.i64.wrap (n.tmod 16 + 16) = n.tmod 16 + 16 := wrap_small (by omega) (by omega)
        have HE : Hid (n.tmod 16 + 16 = n % 16) := tmod_neg hs hn
        go_wp2
        go_ret
        refine ⟨?_, HB1.out⟩
        rw [show plc k n = n % 16 from HP.out, ← HE.out]
        rfl
      · have HE : Hid (n.tmod 16 = n % 16) := tmod_pos hs hn
        go_wp2
        go_ret
        refine ⟨?_, HB1.out⟩
        rw [show plc k n = n % 16 from HP.out, ← HE.out]
        rfl
    · rw [h] at HP ⊢
      clear hr h
      have hs : (0 : Int) < 32 := by decide
      have hsm := tmod_small (n := n) hs
      have hwr : IntKind.i64.wrap (n.tmod 32) = n.tmod 32 := wrap_small (by omega) (by omega)
      by_cases hn : n.tmod 32 < 0
      · have hw2 : IntKind.i64.wrap (n.tmod 32 + 32) = n.tmod 32 + 32 := wrap_small (by omega) (by omega)
        have HE : Hid (n.tmod 32 + 32 = n % 32) := tmod_neg hs hn
        go_wp2
        go_ret
        refine ⟨?_, HB1.out⟩
        rw [show plc k n = n % 32 from HP.out, ← HE.out]
        rfl
      · have HE : Hid (n.tmod 32 = n % 32) := tmod_pos hs hn
        go_wp2
        go_ret
        refine ⟨?_, HB1.out⟩
        rw [show plc k n = n % 32 from HP.out, ← HE.out]
        rfl
    · rw [h] at HP ⊢
      clear hr h
      have hs : (0 : Int) < 64 := by decide
      have hsm := tmod_small (n := n) hs
      have hwr : IntKind.i64.wrap (n.tmod 64) = n.tmod 64 := wrap_small (by omega) (by omega)
      by_cases hn : n.tmod 64 < 0
      · have hw2 : IntKind.i64.wrap (n.tmod 64 + 64) = n.tmod 64 + 64 := wrap_small (by omega) (by omega)
        have HE : Hid (n.tmod 64 + 64 = n % 64) := tmod_neg hs hn
        go_wp2
        go_ret
        refine ⟨?_, HB1.out⟩
        rw [show plc k n = n % 64 from HP.out, ← HE.out]
        rfl
      · have HE : Hid (n.tmod 64 = n % 64) := tmod_pos hs hn
        go_wp2
        go_ret
        refine ⟨?_, HB1.out⟩
        rw [show plc k n = n % 64 from HP.out, ← HE.out]
        rfl
end Go.Proofs.YtlflihegadjpdaaDoor

/- Bits of words, as plain mathematics. Helper text: no statement is claimed here. -/
namespace Go.Proofs.YtlflihegadjpdaaDoor

/-- Bit k of a word. -/
def bitN (w k : Nat) : Bool := decide (w / 2 ^ k % 2 = 1)
/-- A word with bit k put. -/
def putN (w k : Nat) (b : Bool) : Nat := if bitN w k = b then w else if b then w + 2 ^ k else w - 2 ^ k
theorem bitN_test (w k : Nat) : bitN w k = w.testBit k := by
  rw [Nat.testBit_eq_decide_div_mod_eq, bitN]
theorem or_pow : ∀ (k w : Nat), w.testBit k = false → w ||| 2 ^ k = w + 2 ^ k
  | 0, w, h => by
    have h0 : w % 2 = 0 := by
      rw [Nat.testBit_zero] at h
      have := of_decide_eq_false h
      omega
    have d : (w ||| 2 ^ 0) / 2 = w / 2 := by rw [Nat.or_div_two]; simp
    have m : (w ||| 2 ^ 0) % 2 = 1 := by rw [Nat.or_mod_two_eq_one]; right; rfl
    have : (2 : Nat) ^ 0 = 1 := rfl
    omega
  | k + 1, w, h => by
    rw [Nat.testBit_add_one] at h
    have ih := or_pow k (w / 2) h
    have e : (2 : Nat) ^ (k + 1) / 2 = 2 ^ k := by rw [Nat.pow_succ]; omega
    have d : (w ||| 2 ^ (k + 1)) / 2 = w / 2 + 2 ^ k := by rw [Nat.or_div_two, e, ih]
    have p : (2 : Nat) ^ (k + 1) = 2 * 2 ^ k := by rw [Nat.pow_succ]; omega
    have m : (w ||| 2 ^ (k + 1)) % 2 = w % 2 := by
      have a := Nat.or_mod_two_eq_one (a := w) (b := 2 ^ (k + 1))
      have b : ¬ 2 ^ (k + 1) % 2 = 1 := by omega
      by_cases hw : w % 2 = 1
      · rw [hw]; exact a.2 (.inl hw)
      · have : ¬ (w ||| 2 ^ (k + 1)) % 2 = 1 := fun hh => by rcases a.1 hh with h | h <;> contradiction
        omega
    omega
theorem putN_true (w k : Nat) : w ||| 2 ^ k = putN w k true := by
  unfold putN
  rw [bitN_test]
  by_cases h : w.testBit k = true
  · rw [if_pos h]
    apply Nat.eq_of_testBit_eq
    intro i
    rw [Nat.testBit_or, Nat.testBit_two_pow]
    by_cases hi : k = i
    · subst hi; simp [h]
    · simp [hi]
  · rw [if_neg h, if_pos rfl]
    have h0 : w.testBit k = false := by simpa using h
    exact or_pow k w h0
theorem two_pow_le_of_test {w k : Nat} (h : w.testBit k = true) : 2 ^ k ≤ w := Nat.ge_two_pow_of_testBit h
theorem putN_false (w k : Nat) (hk : k < 64) (hw : w < 18446744073709551616) : w &&& (18446744073709551615 - 2 ^ k) = putN w k false := by
  have hm : ∀ i, (18446744073709551615 - 2 ^ k).testBit i = (decide (i < 64) && !decide (k = i)) := by
    intro i
    have := Nat.testBit_two_pow_sub_succ (x := 2 ^ k) (n := 64) (Nat.pow_lt_pow_right (by decide) hk) i
    rw [Nat.testBit_two_pow] at this
    rw [← this]
    congr 1
    omega
  have hw' : ∀ i, w.testBit i = true → i < 64 := by
    intro i hi
    have h1 := Nat.ge_two_pow_of_testBit hi
    rcases Nat.lt_or_ge i 64 with h | h
    · exact h
    · have : 2 ^ 64 ≤ 2 ^ i := Nat.pow_le_pow_right (by decide) h
      omega
  have hand : ∀ i, (w &&& (18446744073709551615 - 2 ^ k)).testBit i = (w.testBit i && !decide (k = i)) := by
    intro i
    rw [Nat.testBit_and, hm]
    cases hi : w.testBit i
    · rfl
    · simp [hw' i hi]
  unfold putN
  rw [bitN_test]
  by_cases h : w.testBit k = false
  · rw [if_pos h]
    apply Nat.eq_of_testBit_eq
    intro i
    rw [hand]
    by_cases hi : k = i
    · subst hi; simp [h]
    · simp [hi]
  · have h1 : w.testBit k = true := by simpa using h
    rw [if_neg h, if_neg (by decide)]
    have e : (w &&& (18446744073709551615 - 2 ^ k)) ||| 2 ^ k = w := by
      apply Nat.eq_of_testBit_eq
      intro i
      rw [Nat.testBit_or, hand, Nat.testBit_two_pow]
      by_cases hi : k = i
      · subst hi; simp [h1]
      · simp [hi]
    have := or_pow k (w &&& (18446744073709551615 - 2 ^ k)) (by rw [hand]; simp)
    omega
theorem putN_test (w k : Nat) (b : Bool) (i : Nat) : (putN w k b).testBit i = if i = k then b else w.testBit i := by
  cases b
  · unfold putN
    rw [bitN_test]
    by_cases h : w.testBit k = false
    · rw [if_pos h]
      by_cases hi : i = k
      · subst hi; simp [h]
      · simp [hi]
    · have h1 : w.testBit k = true := by simpa using h
      rw [if_neg h, if_neg (by decide)]
      have e : w - 2 ^ k = w ^^^ 2 ^ k := by
        have hx : (w ^^^ 2 ^ k) ||| 2 ^ k = w := by
          apply Nat.eq_of_testBit_eq
          intro j
          rw [Nat.testBit_or, Nat.testBit_xor, Nat.testBit_two_pow]
          by_cases hj : k = j
          · subst hj; simp [h1]
          · simp [hj]
        have := or_pow k (w ^^^ 2 ^ k) (by rw [Nat.testBit_xor, Nat.testBit_two_pow, h1]; simp)
        omega
      rw [e, Nat.testBit_xor, Nat.testBit_two_pow]
      by_cases hi : i = k
      · subst hi; simp [h1]
      · have : ¬ k = i := fun e => hi e.symm
        simp [hi, this]
  · rw [← putN_true, Nat.testBit_or, Nat.testBit_two_pow]
    by_cases hi : i = k
    · subst hi; simp
    · have : ¬ k = i := fun e => hi e.symm
      simp [hi, this]
theorem putN_lt {w k n : Nat} (b : Bool) (hk : k < n) (hw : w < 2 ^ n) : putN w k b < 2 ^ n := by
  apply Nat.lt_pow_two_of_testBit
  intro i hi
  rw [putN_test, if_neg (by omega)]
  exact Nat.testBit_lt_two_pow (Nat.lt_of_lt_of_le hw (Nat.pow_le_pow_right (by decide) hi))
theorem putN_same (w k : Nat) (b : Bool) : bitN (putN w k b) k = b := by rw [bitN_test, putN_test, if_pos rfl]
theorem putN_other (w k j : Nat) (b : Bool) (h : j ≠ k) : bitN (putN w k b) j = bitN w j := by rw [bitN_test, putN_test, if_neg h, bitN_test]
theorem putN_back (w k : Nat) (b : Bool) : putN (putN w k b) k (bitN w k) = w := by
  apply Nat.eq_of_testBit_eq
  intro i
  rw [putN_test, putN_test, bitN_test]
  by_cases hi : i = k
  · rw [if_pos hi, hi]
  · rw [if_neg hi, if_neg hi]
end Go.Proofs.YtlflihegadjpdaaDoor

/- Small facts on words. Helper text: no statement is claimed here. -/
namespace Go.Proofs.YtlflihegadjpdaaDoor
open Go.ChangeShapes Go.WideShapes Go.ChangeAt Go.RowKit

theorem ret_bool4 {a b : Bool} (h : a = b) : Ending.returned (.bool a) = .returned (.bool b) := by rw [h]
theorem wrap_u64n (n : Nat) (h : n < 18446744073709551616) : IntKind.u64.wrap (n : Int) = n := by rw [IntKind.wrap_u64]; omega
theorem pow_lt64 {k : Nat} (h : k < 64) : 2 ^ k < 18446744073709551616 := Nat.pow_lt_pow_right (a := 2) (n := 64) (by decide) h
end Go.Proofs.YtlflihegadjpdaaDoor

/- The bits that are given, of the program. Helper text: no statement is claimed here. -/
namespace Go.Proofs.YtlflihegadjpdaaDoor
open Go.ChangeShapes Go.WideShapes Go.ChangeAt Go.RowKit

/-- A given bit. -/
def Mm.given (m : Mm) (q : Nat) : Bool := if q = 0 then true else if q = 2 then !m.ran else if q = 3 then m.fault else if q = 4 then decide (500 ≤ m.time % 1000) else false
/-- The bit that an operand asks for. -/
def Mm.bit (m : Mm) (k n : Int) : Bool :=
  if k = 1 then bitN m.x (plc 1 n).toNat else
  if k = 2 then bitN m.y (plc 2 n).toNat else
  if k = 3 then bitN m.m (plc 3 n).toNat else
  if k = 4 then bitN m.s (plc 4 n).toNat else
  if k = 5 then bitN m.e (plc 5 n).toNat else
  if k = 6 then m.given (plc 6 n).toNat else if k = 7 then m.td (plc 7 n).toNat else if k = 8 then m.cd (plc 8 n).toNat else false
theorem wrap_u32m (n : Nat) (h : n < 4294967296) : IntKind.u32.wrap (n : Int) = n := by rw [IntKind.wrap_u32]; omega
set_option maxHeartbeats 1000000 in
theorem igiven_any (m : Mm) (_hok : m.Ok) (q : Nat) (w : World) (hq : q < 8) :
    Calls Tryd.prog 64 #[m.val, .int .i64 q] w fun e w' => e = .returned (.bool (m.given q)) ∧ Below w.heap.size w w' := by
  have c1 := m.at_time
  have c2 := m.at_ran
  have c3 := m.at_fault
  have hb : Below w.heap.size w (w.alloc (.cells m.cells 37)) := (Below.refl _ _).alloc (Nat.le_refl _) _
  obtain ⟨r, hr⟩ : ∃ r : Nat, r = m.time % 1000 := ⟨_, rfl⟩
  have h1 : (m.time : Int).tmod 1000 = (r : Int) := by rw [Int.tmod_eq_emod_of_nonneg (by omega)]; omega
  have h2 : IntKind.u32.wrap (r : Int) = (r : Int) := wrap_u32m r (by omega)
  have HD : Hid (decide (500 ≤ (r : Int)) = decide (500 ≤ m.time % 1000)) := by
    show _ = _
    rw [← hr]
    by_cases h : 500 ≤ r
    · have : (500 : Int) ≤ (r : Int) := by omega
      simp [h, this]
    · have : ¬ (500 : Int) ≤ (r : Int) := by omega
      simp [h, this]
  have HG4 : Hid (m.given 4 = decide (500 ≤ m.time % 1000)) := rfl
  clear hr _hok
  have : q = 0 ∨ q = 2 ∨ q = 3 ∨ q = 4 ∨ (q ≠ 0 ∧ q ≠ 2 ∧ q ≠ 3 ∧ q ≠ 4) := by omega
  unfold Mm.val
  generalize m.time = tm at *
  rcases this with rfl | rfl | rfl | rfl | ⟨n0, n2, n3, n4⟩
  · go_enter Tryd.func64, Tryd.ntmps64
    go_wp2
    go_ret
    exact ⟨rfl, hb⟩
  · go_enter Tryd.func64, Tryd.ntmps64
    go_wp2
    go_ret
    exact ⟨rfl, hb⟩
  · go_enter Tryd.func64, Tryd.ntmps64
    go_wp2
    go_ret
    exact ⟨rfl, hb⟩
  · go_enter Tryd.func64, Tryd.ntmps64
    go_wp2
    go_ret
    exact ⟨ret_bool4 (HD.out.trans HG4.out.symm), hb⟩
  · have HG : Hid (m.given q = false) := by
      show m.given q = false
      unfold Mm.given
      rw [if_neg n0, if_neg n2, if_neg n3, if_neg n4]
    have k0 : ((q : Int) == 0) = false := by simp only [beq_eq_false_iff_ne, ne_eq]; omega
    have k2 : ((q : Int) == 2) = false := by simp only [beq_eq_false_iff_ne, ne_eq]; omega
    have k3 : ((q : Int) == 3) = false := by simp only [beq_eq_false_iff_ne, ne_eq]; omega
    have k4 : ((q : Int) == 4) = false := by simp only [beq_eq_false_iff_ne, ne_eq]; omega
    clear n0 n2 n3 n4
    go_enter Tryd.func64, Tryd.ntmps64
    go_wp2
    go_ret
    exact ⟨ret_bool4 HG.out.symm, hb⟩
/-- The word in which the bits of a kind are packed. -/
def Mm.packed (m : Mm) (k : Int) : Nat := if k = 1 then m.x else if k = 2 then m.y else if k = 3 then m.m else if k = 4 then m.s else if k = 5 then m.e else 0
theorem packed_lt {m : Mm} (h : m.Ok) (k : Int) : m.packed k < 18446744073709551616 := by
  have h1 : m.x < 4294967296 := h.hx
  have h2 : m.y < 4294967296 := h.hy
  have h3 : m.m < 18446744073709551616 := h.hm
  have h4 : m.s < 65536 := h.hs
  have h5 : m.e < 4294967296 := h.he
  unfold Mm.packed
  repeat' split
  all_goals omega
set_option maxHeartbeats 1000000 in
theorem packed_any (m : Mm) (hok : m.Ok) (k : Int) (w : World) :
    Calls Tryd.prog 65 #[m.val, .int .i64 k] w fun e w' => e = .returned (.int .u64 (m.packed k : Nat)) ∧ Below w.heap.size w w' := by
  have hb : Below w.heap.size w (w.alloc (.cells m.cells 37)) := (Below.refl _ _).alloc (Nat.le_refl _) _
  have c0 := m.at_x
  have c1 := m.at_y
  have c2 := m.at_m
  have c3 := m.at_s
  have c4 := m.at_e
  have h1 : m.x < 4294967296 := hok.hx
  have h2 : m.y < 4294967296 := hok.hy
  have h4 : m.s < 65536 := hok.hs
  have h5 : m.e < 4294967296 := hok.he
  have w1 : IntKind.u64.wrap (m.x : Int) = (m.x : Int) := wrap_u64n _ (by omega)
  have w2 : IntKind.u64.wrap (m.y : Int) = (m.y : Int) := wrap_u64n _ (by omega)
  have w4 : IntKind.u64.wrap (m.s : Int) = (m.s : Int) := wrap_u64n _ (by omega)
  have w5 : IntKind.u64.wrap (m.e : Int) = (m.e : Int) := wrap_u64n _ (by omega)
  clear h1 h2 h4 h5 hok
  unfold Mm.val
  have : k = 1 ∨ k = 2 ∨ k = 3 ∨ k = 4 ∨ k = 5 ∨ (k ≠ 1 ∧ k ≠ 2 ∧ k ≠ 3 ∧ k ≠ 4 ∧ k ≠ 5) := by omega
  rcases this with rfl | rfl | rfl | rfl | rfl | ⟨n1, n2, n3, n4, n5⟩
  case inr.inr.inr.inr.inr =>
    have HG : Hid (m.packed k = 0) := by
      show m.packed k = 0
      unfold Mm.packed
      rw [if_neg n1, if_neg n2, if_neg n3, if_neg n4, if_neg n5]
    have k1 : (k == 1) = false := by simpa using n1
    have k2 : (k == 2) = false := by simpa using n2
    have k3 : (k == 3) = false := by simpa using n3
    have k4 : (k == 4) = false := by simpa using n4
    have k5 : (k == 5) = false := by simpa using n5
    clear n1 n2 n3 n4 n5
    rw [HG.out]
    go_enter Tryd.func65, Tryd.ntmps65
    go_wp2
    go_ret
    exact ⟨rfl, hb⟩
  all_goals
    go_enter Tryd.func65, Tryd.ntmps65
    go_wp2
    go_ret
    exact ⟨rfl, hb⟩
end Go.Proofs.YtlflihegadjpdaaDoor

/- The words of a memory's text, as plain lists. Helper text: no statement is claimed here. -/
namespace Go.Proofs.YtlflihegadjpdaaDoor
open Go.ChangeShapes Go.WideShapes Go.ChangeAt Go.RowKit Fl

/-- The text of a device. -/
def dvT (k : Int) (i : Nat) : List UInt8 := rL (kz k) ++ Lib.itoa (i : Int)
/-- A mark that is there or not. -/
def mkT (b : Bool) (l : List UInt8) : List UInt8 := if b then l else []
/-- Words of places, as far as j. -/
def upto (f : Nat → List (List UInt8)) (j : Nat) : List (List UInt8) := (List.range j).flatMap f
theorem upto_zero (f : Nat → List (List UInt8)) : upto f 0 = [] := rfl
theorem upto_succ (f : Nat → List (List UInt8)) (j : Nat) : upto f (j + 1) = upto f j ++ f j := by simp [upto, List.range_succ]
/-- Words, each with a blank behind it. -/
def blk (ws : List (List UInt8)) : List UInt8 := ws.flatMap (· ++ [32])
theorem blk_nil : blk [] = [] := rfl
theorem blk_app (a b : List (List UInt8)) : blk (a ++ b) = blk a ++ blk b := by simp [blk]
theorem blk_one (a : List UInt8) : blk [a] = a ++ [32] := by simp [blk]
theorem join_blk : ∀ ws : List (List UInt8), ws ≠ [] → Lib.join ws [32] ++ [32] = blk ws
  | [], h => absurd rfl h
  | [a], _ => by simp [Lib.join_one, blk]
  | a :: b :: l, _ => by
    have ih := join_blk (b :: l) (by simp)
    have e : Lib.join (a :: b :: l) [32] = a ++ [32] ++ Lib.join (b :: l) [32] := by simp [Lib.join, List.intercalate]
    rw [e, List.append_assoc, ih]
    simp [blk]
/-- At most k words, each of at most 100 bytes. -/
def Fits (k : Nat) (ws : List (List UInt8)) : Prop := ws.length ≤ k ∧ ∀ t ∈ ws, t.length ≤ 100
theorem Fits.nil : Fits 0 [] := ⟨by simp, by simp⟩
theorem Fits.le {k k' : Nat} {ws : List (List UInt8)} (h : Fits k ws) (hk : k ≤ k') : Fits k' ws := ⟨Nat.le_trans h.1 hk, h.2⟩
theorem Fits.app {k k' : Nat} {a b : List (List UInt8)} (h : Fits k a) (h' : Fits k' b) : Fits (k + k') (a ++ b) := by
  refine ⟨by have := h.1; have := h'.1; simp; omega, fun t ht => ?_⟩
  rcases List.mem_append.1 ht with ht | ht
  · exact h.2 t ht
  · exact h'.2 t ht
theorem Fits.one {a : List UInt8} (h : a.length ≤ 100) : Fits 1 [a] := ⟨by simp, by simpa using h⟩
theorem Fits.maybe {a : List UInt8} {p : Prop} [Decidable p] (h : a.length ≤ 100) : Fits 1 (if p then [a] else []) := by
  split
  · exact .one h
  · exact Fits.nil.le (by omega)
theorem Fits.none {a : List UInt8} {p : Prop} [Decidable p] (h : a.length ≤ 100) : Fits 1 (if p then [] else [a]) := by
  split
  · exact Fits.nil.le (by omega)
  · exact .one h
theorem Fits.upto {f : Nat → List (List UInt8)} {c : Nat} : ∀ j : Nat, (∀ i, i < j → Fits c (f i)) → Fits (j * c) (upto f j)
  | 0, _ => by rw [Nat.zero_mul]; exact Fits.nil
  | j + 1, h => by
    rw [upto_succ, Nat.succ_mul]
    exact (Fits.upto j fun i hi => h i (by omega)).app (h j (by omega))
theorem Fits.len {k : Nat} {ws : List (List UInt8)} (h : Fits k ws) : (blk ws).length ≤ k * 101 := by
  have key : ∀ ws : List (List UInt8), (∀ t ∈ ws, t.length ≤ 100) → (blk ws).length ≤ ws.length * 101 := by
    intro ws
    induction ws with
    | nil => intro _; simp [blk]
    | cons a l ih =>
      intro hl
      have h1 := ih fun t ht => hl t (List.mem_cons_of_mem _ ht)
      have h2 := hl a (List.mem_cons_self ..)
      have e : blk (a :: l) = a ++ [32] ++ blk l := by simp [blk]
      rw [e]
      simp only [List.length_append, List.length_cons, List.length_nil]
      omega
  have h1 := key ws h.2
  have h2 := Nat.mul_le_mul_right 101 h.1
  omega
theorem Fits.join {k : Nat} {ws : List (List UInt8)} (h : Fits k ws) : (Lib.join ws [32]).length ≤ k * 101 := by
  by_cases he : ws = []
  · rw [he]; simp [Lib.join_nil]
  · have := congrArg List.length (join_blk ws he)
    have := h.len
    simp at *
    omega

/-- The text of a real number, as a function. -/
def rlT (x : Nat) : List UInt8 := txtD (Ieee.double.read x)
/-- The words of one place. -/
def bitW (m : Mm) (k : Int) (i : Nat) : List (List UInt8) := if m.bit k (i : Int) = true then [dvT k i] else []
def tmT (m : Mm) (i : Nat) : List UInt8 := dvT 7 i ++ ([61] ++ Lib.itoa (m.tc i : Int) ++ mkT (m.td i) [33])
def tmW (m : Mm) (i : Nat) : List (List UInt8) := if m.td i = true ∨ 0 < m.tc i then [tmT m i] else []
def cnT (m : Mm) (i : Nat) : List UInt8 := dvT 8 i ++ ([61] ++ Lib.itoa (m.cc i : Int) ++ mkT (m.cd i) [33] ++ mkT (m.cl i) [43])
def cnW (m : Mm) (i : Nat) : List (List UInt8) := if m.cd i = true ∨ m.cl i = true ∨ 0 < m.cc i then [cnT m i] else []
def whT (m : Mm) (i : Nat) : List UInt8 := dvT 9 i ++ ([61] ++ Lib.itoa (m.d i))
def whW (m : Mm) (i : Nat) : List (List UInt8) := if m.d i = 0 then [] else [whT m i]
def reT (m : Mm) (i : Nat) : List UInt8 := dvT 10 i ++ ([61] ++ rlT (m.r i))
def reW (m : Mm) (i : Nat) : List (List UInt8) := if rlT (m.r i) = [48] then [] else [reT m i]
/-- How many bits of the kinds 1 to 5 there are. -/
def bits5 (j : Nat) : Nat := (rN (kz ((j : Int) + 1))).toNat
def kindW (m : Mm) (j : Nat) : List (List UInt8) := upto (bitW m ((j : Int) + 1)) (bits5 j)
def bitsW (m : Mm) : List (List UInt8) := upto (kindW m) 5
def timeT (m : Mm) : List UInt8 := [116, 105, 109, 101, 61] ++ Lib.itoa (m.time : Int)
def ranT : List UInt8 := [114, 97, 110]
def faultT : List UInt8 := [102, 97, 117, 108, 116]
def numW (m : Mm) : List (List UInt8) := upto (tmW m) 16 ++ upto (cnW m) 16 ++ upto (whW m) 32 ++ upto (reW m) 16
def endW (m : Mm) : List (List UInt8) := (if 0 < m.time then [timeT m] else []) ++ (if m.ran = true then [ranT] else []) ++ (if m.fault = true then [faultT] else [])
/-- All words. -/
def wordsM (m : Mm) : List (List UInt8) := bitsW m ++ numW m ++ endW m
/-- The text of a memory. -/
def memT (m : Mm) : List UInt8 := Lib.join (wordsM m) [32]

theorem itoa_len (n : Int) (h0 : -9223372036854775808 ≤ n) (h1 : n ≤ 9223372036854775807) : (Lib.itoa n).length ≤ 21 := by
  have := Lib.itoa_length_le n h0 h1
  omega
theorem rL_one (i : Nat) : (rL i).length ≤ 1 := by unfold rL; split <;> simp
theorem dvT_len (k : Int) {i : Nat} (h : i ≤ 64) : (dvT k i).length ≤ 22 := by
  have := rL_one (kz k)
  have := itoa_len (i : Int) (by omega) (by omega)
  simp only [dvT, List.length_append]
  omega
theorem mkT_len (b : Bool) (x : UInt8) : (mkT b [x]).length ≤ 1 := by cases b <;> simp [mkT]
theorem rlT_is {x : Nat} {t : List UInt8} (h : TextR x t) : t = rlT x := h.fn
theorem textR_any {x : Nat} (hx : x < 2 ^ 64) : ∃ t, TextR x t := by
  rcases cases_wd hx with ⟨s, m, k, hs, hk, rfl⟩ | ⟨s, rfl⟩ | hn
  · by_cases h0 : m = 0
    · rw [wd_zeroN hs h0]
      cases s
      · exact ⟨_, .zero⟩
      · exact ⟨_, .nzero⟩
    · cases s
      · exact ⟨_, .pos hs hk (by omega)⟩
      · exact ⟨_, .neg hs hk (by omega)⟩
  · cases s
    · exact ⟨_, .inf⟩
    · exact ⟨_, .ninf⟩
  · exact ⟨_, .isnan hn⟩
theorem rlT_R {x : Nat} (hx : x < 2 ^ 64) : TextR x (rlT x) := by
  obtain ⟨t, ht⟩ := textR_any hx
  rw [← rlT_is ht]; exact ht
theorem rlT_len {x : Nat} (hx : x < 2 ^ 64) : (rlT x).length ≤ 60 := (rlT_R hx).len
theorem tmT_len {m : Mm} (h : m.Ok) {i : Nat} (hi : i < 16) : (tmT m i).length ≤ 100 := by
  have := dvT_len 7 (i := i) (by omega)
  have := h.htc i
  have := itoa_len (m.tc i : Int) (by omega) (by omega)
  have := mkT_len (m.td i) 33
  simp only [tmT, List.length_append, List.length_cons, List.length_nil]
  omega
theorem cnT_len {m : Mm} (h : m.Ok) {i : Nat} (hi : i < 16) : (cnT m i).length ≤ 100 := by
  have := dvT_len 8 (i := i) (by omega)
  have := h.hcc i
  have := itoa_len (m.cc i : Int) (by omega) (by omega)
  have := mkT_len (m.cd i) 33
  have := mkT_len (m.cl i) 43
  simp only [cnT, List.length_append, List.length_cons, List.length_nil]
  omega
theorem whT_len {m : Mm} (h : m.Ok) {i : Nat} (hi : i < 32) : (whT m i).length ≤ 100 := by
  have := dvT_len 9 (i := i) (by omega)
  have := h.hd i
  have := itoa_len (m.d i) (by omega) (by omega)
  simp only [whT, List.length_append, List.length_cons, List.length_nil]
  omega
theorem reT_len {m : Mm} (h : m.Ok) {i : Nat} (hi : i < 16) : (reT m i).length ≤ 100 := by
  have := dvT_len 10 (i := i) (by omega)
  have := rlT_len (h.hr i)
  simp only [reT, List.length_append, List.length_cons, List.length_nil]
  omega
theorem timeT_len {m : Mm} (h : m.Ok) : (timeT m).length ≤ 100 := by
  have := h.htime
  have := itoa_len (m.time : Int) (by omega) (by omega)
  simp only [timeT, List.length_append, List.length_cons, List.length_nil]
  omega
theorem bits5_le (j : Nat) : bits5 j ≤ 64 := by
  have : ∀ i, rN i ≤ 64 := fun i => by unfold rN; split <;> omega
  have := this (kz ((j : Int) + 1))
  unfold bits5
  omega
theorem fits_bit (m : Mm) (k : Int) {j : Nat} (hj : j ≤ 64) : Fits j (upto (bitW m k) j) := by
  have := Fits.upto (f := bitW m k) (c := 1) j fun i hi => .maybe (by have := dvT_len k (i := i) (by omega); omega)
  rwa [Nat.mul_one] at this
theorem fits_kind (m : Mm) {j : Nat} : Fits (j * 64) (upto (kindW m) j) :=
  Fits.upto j fun i _ => (fits_bit m _ (bits5_le i)).le (bits5_le i)
theorem fits_tm {m : Mm} (h : m.Ok) {j : Nat} (hj : j ≤ 16) : Fits j (upto (tmW m) j) := by
  have := Fits.upto (f := tmW m) (c := 1) j fun i hi => .maybe (tmT_len h (by omega))
  rwa [Nat.mul_one] at this
theorem fits_cn {m : Mm} (h : m.Ok) {j : Nat} (hj : j ≤ 16) : Fits j (upto (cnW m) j) := by
  have := Fits.upto (f := cnW m) (c := 1) j fun i hi => .maybe (cnT_len h (by omega))
  rwa [Nat.mul_one] at this
theorem fits_wh {m : Mm} (h : m.Ok) {j : Nat} (hj : j ≤ 32) : Fits j (upto (whW m) j) := by
  have := Fits.upto (f := whW m) (c := 1) j fun i hi => .none (whT_len h (by omega))
  rwa [Nat.mul_one] at this
theorem fits_re {m : Mm} (h : m.Ok) {j : Nat} (hj : j ≤ 16) : Fits j (upto (reW m) j) := by
  have := Fits.upto (f := reW m) (c := 1) j fun i hi => .none (reT_len h (by omega))
  rwa [Nat.mul_one] at this
theorem fits_num {m : Mm} (h : m.Ok) : Fits 80 (numW m) := (((fits_tm h (Nat.le_refl 16)).app (fits_cn h (Nat.le_refl 16))).app (fits_wh h (Nat.le_refl 32))).app (fits_re h (Nat.le_refl 16))
theorem fits_bits (m : Mm) : Fits 320 (bitsW m) := fits_kind m (j := 5)
theorem fits_end {m : Mm} (h : m.Ok) : Fits 3 (endW m) := ((Fits.maybe (timeT_len h)).app (.maybe (by decide))).app (.maybe (by decide))
theorem fits_words {m : Mm} (h : m.Ok) : Fits 403 (wordsM m) := ((fits_bits m).app (fits_num h)).app (fits_end h)
end Go.Proofs.YtlflihegadjpdaaDoor
