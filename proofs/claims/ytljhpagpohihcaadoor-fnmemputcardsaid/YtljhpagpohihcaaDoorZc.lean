/- The drawing of an operand to ask for, and of a memory with it: l4Asks, DrawMemBit. Helper text: no statement is claimed here. -/
import Derived.Test.YtljhpagpohihcaaDoorZb
import Derived.Test.YtljhpagpohihcaaDoorZi
import Derived.Test.YtljhpagpohihcaaDoorRc
import Derived.Deep.RegionHeld3
import Derived.Deep.RegionWith
import Derived.Laws.BitsLemmas
namespace Go.Proofs.YtljhpagpohihcaaDoor
open Go.ChangeShapes Go.WideShapes Go.ChangeAt Go.RowKit

/-- What the drawing of an operand to ask for ends in. -/
def DrawnA (rb m : Nat) (w : World) (e : Ending) (w' : World) : Prop := ∃ k n p : Int, e = .returned (.agg #[.int .i64 k, .int .i64 n, .int .i64 p]) ∧ Sm k ∧ (-4000000000 ≤ n ∧ n ≤ 4000000000) ∧ Sm p ∧ Rd w' rb m ∧ Step rb w w'
theorem nums_asks (w : World) : Nums (w.alloc (.cells #[.int .i64 (-64), .int .i64 16, .int .i64 32, .int .i64 64, .int .i64 128] 3)) w.heap.size 5 := by
  have := nums_mk w [-64, 16, 32, 64, 128] 3 (by simp)
  simpa using this
theorem wrap_smallZ {x : Int} (h0 : -9223372036854775808 ≤ x) (h1 : x ≤ 9223372036854775807) : IntKind.i64.wrap x = x := by
  rw [IntKind.wrap_i64]; omega

set_option maxHeartbeats 2000000 in
set_option maxRecDepth 100000 in
theorem asks_any (rb m : Nat) (w : World) (hr : Rd w rb m) (hm : m ≤ 8000) :
    Calls Tryd.prog 34 #[.pointer (some ⟨rb, 0, none⟩)] w (DrawnA rb (m + 10) w) := by
  have hlt := hr.lt
  have hne : w.heap.size ≠ rb := by omega
  go_enter Tryd.func34, Tryd.ntmps34
  go_wp2_with fail
  refine (argAny_any rb m _ (hr.alloc _) (by omega)).mono ?_
  rintro e w1 ⟨k, n, p, rfl, hk, hn, hp, hr1, st1⟩
  have o1 : Own w1 w.heap.size (.int .i64 0) (.int .i64 0) (.int .i64 0) := (Own.new w (.int .i64 0) (.int .i64 0) (.int .i64 0)).step st1 hne
  have sw1 : Step rb w w1 := (Step.alloc rb w _).trans st1
  have hz1 : w.heap.size < w1.heap.size := o1.lt
  have hne1 : w1.heap.size ≠ rb := by have := hr1.lt; omega
  clear st1
  go_wp2_with fail
  refine (pick_any rb (m + 8) 8 _ (by omega) (hr1.alloc _) (by omega)).mono ?_
  rintro e w2 ⟨t, rfl, t0, t1, -, hr2, st2⟩
  have oa : Own w2 w1.heap.size (.int .i64 k) (.int .i64 n) (.int .i64 p) := (Own.new w1 (.int .i64 k) (.int .i64 n) (.int .i64 p)).step st2 hne1
  have o2 : Own w2 w.heap.size (.int .i64 0) (.int .i64 0) (.int .i64 0) := (o1.alloc _).step st2 hne
  have sw2 : Step rb w w2 := (sw1.trans (Step.alloc rb w1 _)).trans st2
  have hz2 : w1.heap.size < w2.heap.size := oa.lt
  clear st2 o1 sw1
  by_cases ht : t = 0
  · subst ht
    have x1 := oa.1.2.1
    have hnb : w2.heap.size ≠ w1.heap.size := by omega
    go_wp2
    go_region_with (first
        | (go_at_call 63; refine (num_any rb (m + 9) w2.heap.size 5 _ (by omega) (by omega) ?_ (by omega) ?_ (by have := hr2.lt; omega)).mono ?_; exact hr2.drewZ.alloc _; exact nums_asks w2.drew; rintro e w3 ⟨v, rfl, v0, v1, hr3, st3⟩; have st3' : Step rb w2 w3 := ((Step.drewZ rb w2).trans (Step.alloc rb _ _)).trans st3; have oa3 := oa.step st3' (by omega); have o3 := o2.step st3' hne; have oa3c := oa3; obtain ⟨⟨x30, x3, x32⟩, y30, y3, y32⟩ := oa3c; have o3c := o3; obtain ⟨⟨r30, r31, r32⟩, z30, z31, z32⟩ := o3c; have hwr : IntKind.i64.wrap (n + v) = n + v := wrap_smallZ (by unfold Sm at hn; omega) (by unfold Sm at hn; omega)))
    all_goals (try go_wp2)

    all_goals exact bodyPost_ret (v := .agg #[.int .i64 k, .int .i64 (n + v), .int .i64 p]) (resArg Tryd.results34 rfl (put3 (o3.set (by omega)).1)) rfl ⟨k, n + v, p, rfl, hk, by unfold Sm at hn; omega, hp, (hr3.set _ _ _ (by omega)).set3 hlt (by omega), ((sw2.trans st3').setNew _ _ _ (by omega)).set3 (Nat.le_refl _)⟩
  · have ht' : (t == 0) = false := by simpa using ht
    obtain ⟨⟨a0, a1, a2⟩, b0, b1, b2⟩ := oa
    have o2c := o2
    obtain ⟨⟨r0, r1, r2⟩, y0, y1, y2⟩ := o2c
    go_wp2
    exact bodyPost_ret (v := .agg #[.int .i64 k, .int .i64 n, .int .i64 p]) (resArg Tryd.results34 rfl (put3 o2.1)) rfl ⟨k, n, p, rfl, hk, by unfold Sm at hn; omega, hp, hr2.set3 hlt (by omega), sw2.set3 (Nat.le_refl _)⟩
end Go.Proofs.YtljhpagpohihcaaDoor
