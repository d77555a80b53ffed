/- The walk of the law FnExactTreeSize. Helper text: no statement is claimed here. -/
import Derived.Test.YtkkkjhlbkmcjiaaQx
import Derived.Test.YtkkkjhlbkmcjiaaQl
import Derived.Test.YtkkkjhlbkmcjiaaUo
namespace Go.Proofs.Ytkkkjhlbkmcjiaa.Tr
open Go.ChangeShapes Go.WideShapes Go.ChangeAt Go.RowKit

set_option maxHeartbeats 2000000 in
theorem size_walk (K n : Nat) (ts : List (AT K n)) (p : Option Addr) (cap : Nat) (w : World) (hV : SlOf (Old w) (AmE (Old w) w K n) 6 p cap ts) :
    Calls Try.prog 3 #[.slice p ts.length cap] w fun e w' => e = .returned (.bool true) ∧ Below w.heap.size w w' := by
  have HV : Hid (SlOf (Old w) (AmE (Old w) w K n) 6 p cap ts) := hV
  have HS : Hid (∀ W, Below w.heap.size w W → Calls Try.prog 6 #[.slice p ts.length cap, .int .i64 1048576] W fun r w' => r = .returned (.int .i64 (szR 1048576 (zAs K n ts))) ∧ Below W.heap.size W w') :=
    fun W hW => sz_top K n ts p cap W (old_to hV hW) 1048576 (by omega) (by omega)
  clear hV
  by_cases hz : zAs K n ts ≤ 1048576
  · have hz' : ((zAs K n ts : Nat) : Int) ≤ 1048576 := by omega
    rw [szR_pos hz'] at HS
    have hneg : ¬ ((1048576 : Int) - ((zAs K n ts : Nat) : Int)) < 0 := by omega
    have HC : Hid (∀ W, Below w.heap.size w W → Calls Try.prog 8 #[.slice p ts.length cap] W fun r w' => ∃ p', r = .returned (.slice p' ts.length ts.length) ∧ Below W.heap.size W w' ∧ SlOf (Old w') (AmE (Old w') w' K n) 6 p' ts.length ts) :=
      fun W hW => copy_any K n ts p cap w W HV.out hz hW
    have HZ : Hid (zAs K n ts ≤ 1048576) := hz
    clear hz hz'
    generalize (1048576 : Int) - ((zAs K n ts : Nat) : Int) = left at *
    go_enter Try.func3, Try.ntmps3
    go_wp2_with fail
    refine (HS.out _ (Below.refl _ _)).mono ?_
    rintro e w1 ⟨rfl, hb1⟩
    have HB1 : Hid (Below w.heap.size w w1) := hb1
    clear hb1
    go_wp2_with fail
    refine (HC.out _ HB1.out).mono ?_
    rintro e w2 ⟨p2, rfl, hb2, hV2⟩
    have HB2 : Hid (Below w.heap.size w w2) := HB1.out.trans (hb2.mono HB1.out.size)
    have HV2 : Hid (SlOf (Old w2) (AmE (Old w2) w2 K n) 6 p2 ts.length ts) := hV2
    clear hb2 hV2
    go_wp2_with fail
    refine (sTreeSize_any K n (Old w2) w2 (fun _ h => h) p2 ts.length ts HV2.out HZ.out).mono ?_
    rintro e w3 ⟨rfl, hb3⟩
    have HB3 : Hid (Below w.heap.size w w3) := HB2.out.trans (hb3.mono HB2.out.size)
    clear hb3
    go_wp2_with fail
    refine (HC.out _ HB3.out).mono ?_
    rintro e w4 ⟨p4, rfl, hb4, hV4⟩
    have HB4 : Hid (Below w.heap.size w w4) := HB3.out.trans (hb4.mono HB3.out.size)
    have HV4 : Hid (SlOf (Old w4) (AmE (Old w4) w4 K n) 6 p4 ts.length ts) := hV4
    clear hb4 hV4
    go_wp2_with fail
    refine (iTreeSize_any K n (Old w4) w4 (fun _ h => h) p4 ts.length ts HV4.out HZ.out).mono ?_
    rintro e w5 ⟨rfl, hb5⟩
    have HB5 : Hid (Below w.heap.size w w5) := HB4.out.trans (hb5.mono HB4.out.size)
    have HV5 : Hid (SlOf (Old w5) (AmE (Old w5) w5 K n) 6 p4 ts.length ts) := old_to HV4.out hb5
    clear hb5
    generalize tot (pA K n) ts = R at *
    go_wp2_with fail
    refine (HC.out _ HB5.out).mono ?_
    rintro e w6 ⟨p6, rfl, hb6, hV6⟩
    have HB6 : Hid (Below w.heap.size w w6) := HB5.out.trans (hb6.mono HB5.out.size)
    have HV6 : Hid (SlOf (Old w6) (AmE (Old w6) w6 K n) 6 p6 ts.length ts) := hV6
    have HV7 : Hid (SlOf (Old w6) (AmE (Old w6) w6 K n) 6 p4 ts.length ts) := old_to HV5.out hb6
    clear hb6 hV6
    go_wp2_with fail
    refine (eqArms_any (S := Old w6) (fun _ h => h) K n (eqArm_any K n) p4 p6 ts.length ts.length ts HV7.out HV6.out).mono ?_
    rintro e w7 ⟨rfl, hb7⟩
    have HB7 : Hid (Below w.heap.size w w7) := HB6.out.trans (hb7.mono HB6.out.size)
    clear hb7
    go_wp2
    go_ret
    exact ⟨rfl, HB7.out⟩
  · have hz' : ¬ ((zAs K n ts : Nat) : Int) ≤ 1048576 := by omega
    rw [szR_neg hz'] at HS
    clear hz hz'
    go_enter Try.func3, Try.ntmps3
    go_wp2_with fail
    refine (HS.out _ (Below.refl _ _)).mono ?_
    rintro e w1 ⟨rfl, hb1⟩
    have HB1 : Hid (Below w.heap.size w w1) := hb1
    clear hb1
    go_wp2
    go_ret
    exact ⟨rfl, HB1.out⟩
end Go.Proofs.Ytkkkjhlbkmcjiaa.Tr
