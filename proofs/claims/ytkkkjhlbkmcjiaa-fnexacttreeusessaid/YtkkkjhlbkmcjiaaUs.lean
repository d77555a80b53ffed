/- The walk of the law FnExactTreeUses. Helper text: no statement is claimed here. -/
import Derived.Test.YtkkkjhlbkmcjiaaUr
namespace Go.Proofs.Ytkkkjhlbkmcjiaa.Tr
open Go.ChangeShapes Go.WideShapes Go.ChangeAt Go.RowKit

set_option maxHeartbeats 2000000 in
set_option maxRecDepth 100000 in
theorem uses_walk (k0 n0 m0 : Int) (K n : Nat) (ts : List (AT K n)) (p : Option Addr) (cap : Nat) (w : World) (hV : SlOf (Old w) (AmE (Old w) w K n) 6 p cap ts) :
    Calls Try.prog 5 #[.slice p ts.length cap, .agg #[.int .i64 k0, .int .i64 n0, .int .i64 m0]] w fun e w' => e = .returned (.bool true) ∧ Below w.heap.size w w' := by
  have HV : Hid (SlOf (Old w) (AmE (Old w) w K n) 6 p cap ts) := hV
  have HS : Hid (∀ W, Below w.heap.size w W → Calls Try.prog 6 #[.slice p ts.length cap, .int .i64 1048576] W fun r w' => r = .returned (.int .i64 (szR 1048576 (zAs K n ts))) ∧ Below W.heap.size W w') :=
    fun W hW => sz_top K n ts p cap W (old_to hV hW) 1048576 (by omega) (by omega)
  clear hV
  by_cases hz : zAs K n ts ≤ 1048576
  · have hz' : ((zAs K n ts : Nat) : Int) ≤ 1048576 := by omega
    rw [szR_pos hz'] at HS
    have hneg : ¬ ((1048576 : Int) - ((zAs K n ts : Nat) : Int)) < 0 := by omega
    have HC : Hid (∀ W, Below w.heap.size w W → Calls Try.prog 8 #[.slice p ts.length cap] W fun r w' => ∃ p', r = .returned (.slice p' ts.length ts.length) ∧ Below W.heap.size W w' ∧ SlOf (Old w') (AmE (Old w') w' K n) 6 p' ts.length ts) :=
      fun W hW => copy_any K n ts p cap w W HV.out hz hW
    have HZ : Hid (zAs K n ts ≤ 1048576) := hz
    clear hz hz'
    generalize (1048576 : Int) - ((zAs K n ts : Nat) : Int) = left at *
    go_enter Try.func5, Try.ntmps5
    go_wp2_with fail
    refine (HS.out _ (one _ _)).mono ?_
    rintro e w1 ⟨rfl, hb1⟩
    have HB1 : Hid (Below w.heap.size w w1) := of_one hb1
    have HO1 : Hid (w1.heap[w.heap.size]? = some (.cells #[.int .i64 k0, .int .i64 n0, .int .i64 m0] 31 (0, 0))) := (hb1.block _ (by simp)).trans (last _ _)
    have q0 : w1.cell? ⟨w.heap.size, 0, none⟩ = some (.int .i64 k0) := cell_of_row _ _ 0 _ _ _ HO1.out
    have q1 : w1.cell? ⟨w.heap.size, 1, none⟩ = some (.int .i64 n0) := cell_of_row _ _ 1 _ _ _ HO1.out
    have q2 : w1.cell? ⟨w.heap.size, 2, none⟩ = some (.int .i64 m0) := cell_of_row _ _ 2 _ _ _ HO1.out
    clear hb1 HO1
    go_wp2
    go_region_held3 (fun W => W.cell? ⟨w.heap.size, 0, none⟩ = some (.int .i64 k0) ∧ W.cell? ⟨w.heap.size, 1, none⟩ = some (.int .i64 n0) ∧ W.cell? ⟨w.heap.size, 2, none⟩ = some (.int .i64 m0)) (first | go_keep | assumption)
      (first
        | (go_at_call 8; refine (HC.out _ (HB1.out.trans ((Below.refl _ _).drew.mono HB1.out.size))).mono ?_; rintro e w2 ⟨p2, rfl, hb2, hV2⟩; have HB2 : Hid (Below w1.heap.size w1 w2) := (Below.refl _ _).drew.trans hb2; have HV2 : Hid (SlOf (Old w2) (AmE (Old w2) w2 K n) 6 p2 ts.length ts) := hV2; have r0 := keep2 HB2.out q0; have r1 := keep2 HB2.out q1; have r2 := keep2 HB2.out q2; clear hb2 hV2)
        | (go_at_call 14; refine (toDevArg_any k0 n0 m0 _).mono ?_; rintro e w3 ⟨v3, rfl, hb3, rfl⟩; have HB3 : Hid (Below w2.heap.size w2 w3) := hb3; have HV3 : Hid (SlOf (Old w3) (AmE (Old w3) w3 K n) 6 p2 ts.length ts) := old_to HV2.out hb3; have s0 := keep2 HB3.out r0; have s1 := keep2 HB3.out r1; have s2 := keep2 HB3.out r2; clear hb3)
        | (go_at_call 13; refine (sTreeUses_any k0 n0 m0 K n (Old w3) w3 (fun _ h => h) p2 ts.length ts HV3.out HZ.out).mono ?_; rintro e w4 ⟨rfl, hb4⟩; have HB4 : Hid (Below w1.heap.size w1 w4) := (HB2.out.trans (HB3.out.mono HB2.out.size)).trans (hb4.mono (HB2.out.trans (HB3.out.mono HB2.out.size)).size); have x0 := keep2 HB4.out q0; have x1 := keep2 HB4.out q1; have x2 := keep2 HB4.out q2; clear hb4))
    have HB5 : Hid (Below w.heap.size w w4) := HB1.out.trans (HB4.out.mono HB1.out.size)
    clear HV2 HV3 r0 r1 r2 s0 s1 s2 q0 q1 q2
    go_wp2_with fail
    refine (HC.out _ HB5.out).mono ?_
    rintro e w6 ⟨p6, rfl, hb6, hV6⟩
    have HB6 : Hid (Below w.heap.size w w6) := HB5.out.trans (hb6.mono HB5.out.size)
    have HV6 : Hid (SlOf (Old w6) (AmE (Old w6) w6 K n) 6 p6 ts.length ts) := hV6
    replace x0 := keep2 hb6 x0
    replace x1 := keep2 hb6 x1
    replace x2 := keep2 hb6 x2
    clear hb6 hV6
    go_wp2_with fail
    refine (toDevArg_any k0 n0 m0 _).mono ?_
    rintro e w7 ⟨v7, rfl, hb7, rfl⟩
    have HB7 : Hid (Below w.heap.size w w7) := HB6.out.trans (hb7.mono HB6.out.size)
    have HV7 : Hid (SlOf (Old w7) (AmE (Old w7) w7 K n) 6 p6 ts.length ts) := old_to HV6.out hb7
    clear hb7
    go_wp2_with fail
    refine (iTreeUses_any k0 n0 m0 K n (Old w7) w7 (fun _ h => h) p6 ts.length ts HV7.out HZ.out).mono ?_
    rintro e w8 ⟨rfl, hb8⟩
    have HB8 : Hid (Below w.heap.size w w8) := HB7.out.trans (hb8.mono HB7.out.size)
    have HV8 : Hid (SlOf (Old w8) (AmE (Old w8) w8 K n) 6 p6 ts.length ts) := old_to HV7.out hb8
    clear hb8
    generalize tot (uA (k0, n0, m0) K n) ts = R at *
    go_wp2_with fail
    refine (HC.out _ HB8.out).mono ?_
    rintro e w9 ⟨p9, rfl, hb9, hV9⟩
    have HB9 : Hid (Below w.heap.size w w9) := HB8.out.trans (hb9.mono HB8.out.size)
    have HV9 : Hid (SlOf (Old w9) (AmE (Old w9) w9 K n) 6 p9 ts.length ts) := hV9
    have HX9 : Hid (SlOf (Old w9) (AmE (Old w9) w9 K n) 6 p6 ts.length ts) := old_to HV8.out hb9
    clear hb9 hV9
    go_wp2_with fail
    refine (eqArms_any (S := Old w9) (fun _ h => h) K n (eqArm_any K n) p6 p9 ts.length ts.length ts HX9.out HV9.out).mono ?_
    rintro e w10 ⟨rfl, hb10⟩
    have HB10 : Hid (Below w.heap.size w w10) := HB9.out.trans (hb10.mono HB9.out.size)
    clear hb10
    go_wp2
    go_ret
    exact ⟨rfl, HB10.out⟩
  · have hz' : ¬ ((zAs K n ts : Nat) : Int) ≤ 1048576 := by omega
    rw [szR_neg hz'] at HS
    clear hz hz'
    go_enter Try.func5, Try.ntmps5
    go_wp2_with fail
    refine (HS.out _ (one _ _)).mono ?_
    rintro e w1 ⟨rfl, hb1⟩
    have HB1 : Hid (Below w.heap.size w w1) := of_one hb1
    clear hb1
    go_wp2
    go_ret
    exact ⟨rfl, HB1.out⟩
end Go.Proofs.Ytkkkjhlbkmcjiaa.Tr
