/- The walk of the law FnExactTreeSame. Helper text: no statement is claimed here. -/
import Derived.Test.YtkkkjhlbkmcjiaaUi
import Derived.Test.YtkkkjhlbkmcjiaaUk
import Derived.Test.YtkkkjhlbkmcjiaaQg
import Derived.Test.YtkkkjhlbkmcjiaaQk
import Derived.Test.YtkkkjhlbkmcjiaaQl
import Derived.Test.YtkkkjhlbkmcjiaaUo
namespace Go.Proofs.Ytkkkjhlbkmcjiaa.Tr
open Go.ChangeShapes Go.WideShapes Go.ChangeAt Go.RowKit

theorem bne_same (b : Bool) : (b != b) = false := by cases b <;> rfl
set_option maxHeartbeats 2000000 in
theorem same_walk (K n : Nat) (ts us : List (AT K n)) (p q : Option Addr) (cap dap : Nat) (w : World) (hV : SlOf (Old w) (AmE (Old w) w K n) 6 p cap ts) (hU : SlOf (Old w) (AmE (Old w) w K n) 6 q dap us) :
    Calls Try.prog 4 #[.slice p ts.length cap, .slice q us.length dap] w fun e w' => e = .returned (.bool true) ∧ Below w.heap.size w w' := by
  have HV : Hid (SlOf (Old w) (AmE (Old w) w K n) 6 p cap ts) := hV
  have HU : Hid (SlOf (Old w) (AmE (Old w) w K n) 6 q dap us) := hU
  have HS : Hid (∀ W, Below w.heap.size w W → Calls Try.prog 6 #[.slice p ts.length cap, .int .i64 1048576] W fun r w' => r = .returned (.int .i64 (szR 1048576 (zAs K n ts))) ∧ Below W.heap.size W w') :=
    fun W hW => sz_top K n ts p cap W (old_to hV hW) 1048576 (by omega) (by omega)
  clear hV hU
  by_cases hz : zAs K n ts ≤ 1048576
  · have hz' : ((zAs K n ts : Nat) : Int) ≤ 1048576 := by omega
    rw [szR_pos hz'] at HS
    obtain ⟨left, hleft⟩ : ∃ left : Int, left = (1048576 : Int) - ((zAs K n ts : Nat) : Int) := ⟨_, rfl⟩
    rw [← hleft] at HS
    have hneg : ¬ left < 0 := by omega
    have hl0 : 0 ≤ left := by omega
    have hl1 : left ≤ 1048576 := by omega
    have HS2 : Hid (∀ W, Below w.heap.size w W → Calls Try.prog 6 #[.slice q us.length dap, .int .i64 left] W fun r w' => r = .returned (.int .i64 (szR left (zAs K n us))) ∧ Below W.heap.size W w') :=
      fun W hW => sz_top K n us q dap W (old_to HU.out hW) left hl0 hl1
    clear hleft
    by_cases hy : ((zAs K n us : Nat) : Int) ≤ left
    · rw [szR_pos hy] at HS2
      have hy' : zAs K n us ≤ 1048576 := by omega
      have hneg2 : ¬ (left - ((zAs K n us : Nat) : Int)) < 0 := by omega
      generalize left - ((zAs K n us : Nat) : Int) = left2 at *
      have HC : Hid (∀ W, Below w.heap.size w W → Calls Try.prog 8 #[.slice p ts.length cap] W fun r w' => ∃ p', r = .returned (.slice p' ts.length ts.length) ∧ Below W.heap.size W w' ∧ SlOf (Old w') (AmE (Old w') w' K n) 6 p' ts.length ts) :=
        fun W hW => copy_any K n ts p cap w W HV.out hz hW
      have HD : Hid (∀ W, Below w.heap.size w W → Calls Try.prog 8 #[.slice q us.length dap] W fun r w' => ∃ p', r = .returned (.slice p' us.length us.length) ∧ Below W.heap.size W w' ∧ SlOf (Old w') (AmE (Old w') w' K n) 6 p' us.length us) :=
        fun W hW => copy_any K n us q dap w W HU.out hy' hW
      clear hz hz' hy hy'
      go_enter Try.func4, Try.ntmps4
      go_wp2_with fail
      refine (HS.out _ (Below.refl _ _)).mono ?_
      rintro e w1 ⟨rfl, hb1⟩
      have HB1 : Hid (Below w.heap.size w w1) := hb1
      clear hb1
      go_wp2_with fail
      refine (HS2.out _ HB1.out).mono ?_
      rintro e w2 ⟨rfl, hb2⟩
      have HB2 : Hid (Below w.heap.size w w2) := HB1.out.trans (hb2.mono HB1.out.size)
      clear hb2
      go_wp2_with fail
      refine (HC.out _ HB2.out).mono ?_
      rintro e w3 ⟨p3, rfl, hb3, hV3⟩
      have HB3 : Hid (Below w.heap.size w w3) := HB2.out.trans (hb3.mono HB2.out.size)
      have HV3 : Hid (SlOf (Old w3) (AmE (Old w3) w3 K n) 6 p3 ts.length ts) := hV3
      clear hb3 hV3
      go_wp2_with fail
      refine (HD.out _ HB3.out).mono ?_
      rintro e w4 ⟨p4, rfl, hb4, hV4⟩
      have HB4 : Hid (Below w.heap.size w w4) := HB3.out.trans (hb4.mono HB3.out.size)
      have HV4 : Hid (SlOf (Old w4) (AmE (Old w4) w4 K n) 6 p4 us.length us) := hV4
      have HV3' : Hid (SlOf (Old w4) (AmE (Old w4) w4 K n) 6 p3 ts.length ts) := old_to HV3.out hb4
      clear hb4 hV4
      go_wp2_with fail
      refine (sTreeSame_any K n (Old w4) (Old w4) w4 (fun _ h => h) (fun _ h => h) p3 p4 ts.length us.length ts us HV3'.out HV4.out).mono ?_
      rintro e w5 ⟨rfl, hb5⟩
      have HB5 : Hid (Below w.heap.size w w5) := HB4.out.trans (hb5.mono HB4.out.size)
      clear hb5 HV3 HV4 HV3'
      go_wp2_with fail
      refine (HC.out _ HB5.out).mono ?_
      rintro e w6 ⟨p6, rfl, hb6, hV6⟩
      have HB6 : Hid (Below w.heap.size w w6) := HB5.out.trans (hb6.mono HB5.out.size)
      have HV6 : Hid (SlOf (Old w6) (AmE (Old w6) w6 K n) 6 p6 ts.length ts) := hV6
      clear hb6 hV6
      go_wp2_with fail
      refine (HD.out _ HB6.out).mono ?_
      rintro e w7 ⟨p7, rfl, hb7, hV7⟩
      have HB7 : Hid (Below w.heap.size w w7) := HB6.out.trans (hb7.mono HB6.out.size)
      have HV7 : Hid (SlOf (Old w7) (AmE (Old w7) w7 K n) 6 p7 us.length us) := hV7
      have HV6' : Hid (SlOf (Old w7) (AmE (Old w7) w7 K n) 6 p6 ts.length ts) := old_to HV6.out hb7
      clear hb7 hV7
      go_wp2_with fail
      refine (iTreeSame_any K n (Old w7) (Old w7) w7 (fun _ h => h) (fun _ h => h) p6 p7 ts.length us.length ts us HV6'.out HV7.out).mono ?_
      rintro e w8 ⟨rfl, hb8⟩
      have HB8 : Hid (Below w.heap.size w w8) := HB7.out.trans (hb8.mono HB7.out.size)
      have HX : Hid (SlOf (Old w8) (AmE (Old w8) w8 K n) 6 p6 ts.length ts) := old_to HV6'.out hb8
      have HY : Hid (SlOf (Old w8) (AmE (Old w8) w8 K n) 6 p7 us.length us) := old_to HV7.out hb8
      clear hb8
      have hne := bne_same (eqL (eqA K n) ts us)
      generalize eqL (eqA K n) ts us = R at *
      go_wp2_with fail
      refine (HC.out _ HB8.out).mono ?_
      rintro e w9 ⟨p9, rfl, hb9, hV9⟩
      have HB9 : Hid (Below w.heap.size w w9) := HB8.out.trans (hb9.mono HB8.out.size)
      have HV9 : Hid (SlOf (Old w9) (AmE (Old w9) w9 K n) 6 p9 ts.length ts) := hV9
      have HX9 : Hid (SlOf (Old w9) (AmE (Old w9) w9 K n) 6 p6 ts.length ts) := old_to HX.out hb9
      have HY9 : Hid (SlOf (Old w9) (AmE (Old w9) w9 K n) 6 p7 us.length us) := old_to HY.out hb9
      clear hb9 hV9
      go_wp2_with fail
      refine (eqArms_any (S := Old w9) (fun _ h => h) K n (eqArm_any K n) p6 p9 ts.length ts.length ts HX9.out HV9.out).mono ?_
      rintro e w10 ⟨rfl, hb10⟩
      have HB10 : Hid (Below w.heap.size w w10) := HB9.out.trans (hb10.mono HB9.out.size)
      have HY10 : Hid (SlOf (Old w10) (AmE (Old w10) w10 K n) 6 p7 us.length us) := old_to HY9.out hb10
      clear hb10
      go_wp2_with fail
      refine (HD.out _ HB10.out).mono ?_
      rintro e w11 ⟨p11, rfl, hb11, hV11⟩
      have HB11 : Hid (Below w.heap.size w w11) := HB10.out.trans (hb11.mono HB10.out.size)
      have HV11 : Hid (SlOf (Old w11) (AmE (Old w11) w11 K n) 6 p11 us.length us) := hV11
      have HY11 : Hid (SlOf (Old w11) (AmE (Old w11) w11 K n) 6 p7 us.length us) := old_to HY10.out hb11
      clear hb11 hV11
      go_wp2_with fail
      refine (eqArms_any (S := Old w11) (fun _ h => h) K n (eqArm_any K n) p7 p11 us.length us.length us HY11.out HV11.out).mono ?_
      rintro e w12 ⟨rfl, hb12⟩
      have HB12 : Hid (Below w.heap.size w w12) := HB11.out.trans (hb12.mono HB11.out.size)
      clear hb12
      go_wp2
      go_ret
      exact ⟨rfl, HB12.out⟩
    · rw [szR_neg hy] at HS2
      clear hz hz' hy
      go_enter Try.func4, Try.ntmps4
      go_wp2_with fail
      refine (HS.out _ (Below.refl _ _)).mono ?_
      rintro e w1 ⟨rfl, hb1⟩
      have HB1 : Hid (Below w.heap.size w w1) := hb1
      clear hb1
      go_wp2_with fail
      refine (HS2.out _ HB1.out).mono ?_
      rintro e w2 ⟨rfl, hb2⟩
      have HB2 : Hid (Below w.heap.size w w2) := HB1.out.trans (hb2.mono HB1.out.size)
      clear hb2
      go_wp2
      go_ret
      exact ⟨rfl, HB2.out⟩
  · have hz' : ¬ ((zAs K n ts : Nat) : Int) ≤ 1048576 := by omega
    rw [szR_neg hz'] at HS
    clear hz hz'
    go_enter Try.func4, Try.ntmps4
    go_wp2_with fail
    refine (HS.out _ (Below.refl _ _)).mono ?_
    rintro e w1 ⟨rfl, hb1⟩
    have HB1 : Hid (Below w.heap.size w w1) := hb1
    clear hb1
    go_wp2
    go_ret
    exact ⟨rfl, HB1.out⟩
end Go.Proofs.Ytkkkjhlbkmcjiaa.Tr
