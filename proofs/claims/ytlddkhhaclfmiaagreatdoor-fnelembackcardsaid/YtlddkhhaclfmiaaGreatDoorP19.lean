/- The drawing of coils: l3Coil. Helper text: no statement is claimed here. -/
import Derived.Test.YtlddkhhaclfmiaaGreatDoorP18
import Derived.Test.YtlddkhhaclfmiaaGreatDoorP07
import Derived.Deep.RegionWith
import Derived.Deep.CutRange
import Derived.Test.YtlddkhhaclfmiaaGreatDoorP05
import Derived.Deep.RegionHeld3
import Derived.Deep.WholeRow
namespace Go.Proofs.YtlddkhhaclfmiaaGreatDoor
open Go.ChangeShapes Go.WideShapes Go.ChangeAt Go.RowKit

theorem nums_22 (w : World) : Nums (w.alloc (.cells #[.int .i64 21, .int .i64 21, .int .i64 21, .int .i64 22, .int .i64 23, .int .i64 24, .int .i64 25, .int .i64 26, .int .i64 26, .int .i64 27, .int .i64 28, .int .i64 29, .int .i64 29, .int .i64 30, .int .i64 31, .int .i64 31, .int .i64 32, .int .i64 33, .int .i64 34, .int .i64 35, .int .i64 36, .int .i64 37] 3)) w.heap.size 22 := by
  have := nums_mk w [21, 21, 21, 22, 23, 24, 25, 26, 26, 27, 28, 29, 29, 30, 31, 31, 32, 33, 34, 35, 36, 37] 3 (by simp)
  simpa using this
theorem nums_r (w : World) : Nums (w.alloc (.cells #[.int .i64 2, .int .i64 3, .int .i64 4, .int .i64 7, .int .i64 8] 3)) w.heap.size 5 := by
  have := nums_mk w [2, 3, 4, 7, 8] 3 (by simp)
  simpa using this
/-- An operand of the call's own, and the result, in memory. -/
def Two1 (w : World) (rb m O A : Nat) (b0 b1 b2 : Value) (B : Nat) (W : World) : Prop := ∃ k n p : Int, Sm k ∧ Sm n ∧ Sm p ∧ Own W B (.int .i64 k) (.int .i64 n) (.int .i64 p) ∧ Own W A b0 b1 b2 ∧ Own2 W O (.int .i64 0) (.slice none 0 0) ∧ Rd W rb m ∧ Step rb w W
theorem Sm.lit {z : Int} (h1 : -2000000000 ≤ z) (h2 : z ≤ 2000000000) : Sm z := ⟨h1, h2⟩
/-- A coil whose operands are the first ones of a new row. -/
theorem edrawn_cut {rb m m' : Nat} {w w2 : World} {op : Int} {ys : List Ar} {n : Nat} {t : TypeId} (hlt : rb < w.heap.size) (hr : Rd w2 rb m') (hm : m' ≤ m) (sw : Step rb w w2) (hz : w.heap.size < w2.heap.size) (hop : Sm op)
    (hys : ∀ a ∈ ys, Sm a.1 ∧ Sm a.2.1 ∧ Sm a.2.2) (hl : ys.length = 3) (hn : n ≤ 3) :
    EDrawn 3 rb m w (.returned (.agg #[.int .i64 op, .slice (some ⟨w2.heap.size, 0, none⟩) n 3]))
      (((w2.setCell ⟨w.heap.size, 0, none⟩ (.int .i64 op)).setCell ⟨w.heap.size, 1, none⟩ (.slice (some ⟨w2.heap.size, 0, none⟩) n 3)).alloc (.cells (arCells ys).toArray t)) := by
  have hn2 : (ys.take n).length = n := by simp; omega
  refine ⟨op, ys.take n, some ⟨w2.heap.size, 0, none⟩, 3, by rw [hn2], hop, fun a ha => hys a (List.mem_of_mem_take ha), by omega, by omega, .inr ⟨w2.heap.size, rfl, by omega, by simp, ?_⟩, (((hr.mono hm).set _ _ _ hlt).set _ _ _ hlt).alloc _, ((sw.setNew _ _ _ (Nat.le_refl _)).setNew _ _ _ (Nat.le_refl _)).trans (Step.alloc rb _ _)⟩
  intro i hi
  have := argsAt_new ((w2.setCell ⟨w.heap.size, 0, none⟩ (.int .i64 op)).setCell ⟨w.heap.size, 1, none⟩ (.slice (some ⟨w2.heap.size, 0, none⟩) n 3)) ys t i (by omega)
  rw [show at3 (ys.take n) i = at3 ys i by simp [at3, List.getD, show i < n by omega]]
  simpa using this

set_option maxHeartbeats 4000000 in
theorem l3Coil_any (rb m : Nat) (w : World) (hr : Rd w rb m) (hm : m ≤ 650000) :
    Calls Tryz.prog 38 #[.pointer (some ⟨rb, 0, none⟩)] w (EDrawn 3 rb (m + 40) w) := by
  have hlt := hr.lt
  have hne : w.heap.size ≠ rb := by omega
  go_enter Tryz.func38, Tryz.ntmps38
  go_wp2_with fail
  refine (num_any rb m (w.heap.size + 1) 22 _ (by omega) (by omega) ((hr.alloc _).alloc _) (by omega) (by have := nums_22 (w.alloc (.cells #[.int .i64 0, .slice none 0 0] 25)); simpa using this) (by omega)).mono ?_
  rintro e w1 ⟨op, rfl, op0, op1, hr1, st⟩
  have o1 := ((Own2.new w (.int .i64 0) (.slice none 0 0)).alloc _).step st hne
  have sw1 : Step rb w w1 := ((Step.alloc rb w _).trans (Step.alloc rb _ _)).trans st
  have hop : Hid (Sm op) := ⟨op0, op1⟩
  clear st op0 op1
  go_wp2_with fail
  refine (pick_any rb (m + 1) 2 _ (by omega) hr1 (by omega)).mono ?_
  rintro e w2 ⟨u, rfl, u0, u1, -, hr2, st2⟩
  have u1 : u < 2 := u1 (by omega)
  go_wp2_with fail
  refine (arg_any rb (m + 2) (2 + u) _ hr2 (by omega) (by unfold Sm; omega)).mono ?_
  rintro e w3 ⟨ka, na, pa, rfl, hka, hna, hpa, hr3, st3⟩
  have o3 := (o1.step st2 hne).step st3 hne
  have sw3 := (sw1.trans st2).trans st3
  have hz3 := o3.lt
  have hlt3 := hr3.lt
  clear st2 st3 o1 sw1 u0 u1
  go_wp2_with fail
  refine (arg_any rb (m + 6) 11 _ (hr3.alloc _) (by omega) (by unfold Sm; omega)).mono ?_
  rintro e w4 ⟨k', n', p', rfl, hk', hn', hp', hr4, st4⟩
  have a4 := (Own.new w3 (.int .i64 ka) (.int .i64 na) (.int .i64 pa)).step st4 (by omega)
  have o4 := (o3.alloc _).step st4 hne
  have sw4 := (sw3.trans (Step.alloc rb w3 _)).trans st4
  have hz4 := a4.lt
  have hlt4 := hr4.lt
  clear st4 o3 sw3
  have b5 := Own.new w4 (.int .i64 k') (.int .i64 n') (.int .i64 p')
  have a5 := a4.alloc (.cells #[.int .i64 k', .int .i64 n', .int .i64 p'] 51)
  have o5 := o4.alloc (.cells #[.int .i64 k', .int .i64 n', .int .i64 p'] 51)
  have sw5 := sw4.trans (Step.alloc rb w4 (.cells #[.int .i64 k', .int .i64 n', .int .i64 p'] 51))
  have hr5 := hr4.alloc (.cells #[.int .i64 k', .int .i64 n', .int .i64 p'] 51)
  clear a4 o4 sw4
  go_upto_if 20 with fail
  go_cut [] from 19 to 23 (fun wx => Two1 w rb (m + 11) w.heap.size w3.heap.size (.int .i64 ka) (.int .i64 na) (.int .i64 pa) w4.heap.size wx)
  case first =>
    by_cases hn0 : n' < 0
    · go_wp2_with fail
      refine (pick_any rb (m + 10) 9 _ (by omega) hr5 (by omega)).mono ?_
      rintro e w6 ⟨v, rfl, v0, v1, -, hr6, st6⟩
      have v1 : v < 9 := v1 (by omega)
      have b6 := b5.step st6 (by omega)
      have HT : Hid (Two1 w rb (m + 11) w.heap.size w3.heap.size (.int .i64 ka) (.int .i64 na) (.int .i64 pa) w4.heap.size (w6.setCell ⟨w4.heap.size, 1, none⟩ (.int .i64 v))) :=
        ⟨k', v, p', hk', by unfold Sm; omega, hp', b6.set1 _, (a5.step st6 (by omega)).set (by omega), (o5.step st6 hne).set (by omega), hr6.set _ _ _ (by omega), (sw5.trans st6).setNew _ _ _ (by omega)⟩
      obtain ⟨⟨b0, b1, b2⟩, y0, y1, y2⟩ := b6
      go_wp2_with fail
      go_meet
      exact HT.out
    · have HT : Hid (Two1 w rb (m + 11) w.heap.size w3.heap.size (.int .i64 ka) (.int .i64 na) (.int .i64 pa) w4.heap.size (w4.alloc (.cells #[.int .i64 k', .int .i64 n', .int .i64 p'] 51))) :=
        ⟨k', n', p', hk', hn', hp', b5, a5, o5, hr5.mono (by omega), sw5⟩
      go_wp2_with fail
      go_meet
      exact HT.out
  case rest =>
  obtain ⟨kb, nb, pb, hkb, hnb, hpb, b7, a7, o7, hr7, sw7⟩ := hcut
  clear a5 b5 o5 sw5 hr5 hr4 hr3 hr2 hr1
  have hzb := b7.lt
  have hz7 : w.heap.size < wc.heap.size := o7.lt
  have o7c := o7
  obtain ⟨⟨o0, o1⟩, z0, z1⟩ := o7c
  have a7c := a7
  obtain ⟨⟨a0, a1, a2⟩, -⟩ := a7c
  have b7c := b7
  obtain ⟨⟨b0, b1, b2⟩, -⟩ := b7c
  by_cases q21 : op = 21
  · subst q21
    go_wp2
    exact bodyPost_ret (v := .agg #[.int .i64 21, .slice (some ⟨wc.heap.size, 0, none⟩) 1 1]) (resElem (b := w.heap.size) Tryz.results38 rfl ((o7.put _ _).alloc _).1) rfl (edrawn_lit (ys := [(ka, na, pa)]) hlt hr7 (by omega) (sw7) hz7 (by first | exact hop.out | (unfold Sm; omega)) (smC ⟨hka, hna, hpa⟩ (smN)) (by simp))
  have e21 : (op == 21) = false := by simpa using q21
  clear q21
  by_cases q22 : op = 22
  · subst q22
    go_wp2_with fail
    refine (pick_any rb (m + 11) 3 _ (by omega) hr7 (by omega)).mono ?_
    rintro e w8 ⟨v, rfl, v0, v1, -, hr8, st8⟩
    have v1 : v < 3 := v1 (by omega)
    go_wp2_with fail
    refine (arg_any rb (m + 12) (2 + v) _ hr8 (by omega) (by unfold Sm; omega)).mono ?_
    rintro e w9 ⟨k, n, p, rfl, hk, hn, hp, hr9, st9⟩
    have o8 := o7.step st8 hne
    have o9 := o8.step st9 hne
    have hz9 := o9.lt
    have o9c := o9
    obtain ⟨⟨o90, o91⟩, z90, z91⟩ := o9c
    go_wp2
    exact bodyPost_ret (v := .agg #[.int .i64 22, .slice (some ⟨w9.heap.size, 0, none⟩) 1 1]) (resElem (b := w.heap.size) Tryz.results38 rfl ((o9.put _ _).alloc _).1) rfl (edrawn_lit (ys := [(k, n, p)]) hlt hr9 (by omega) ((sw7.trans st8).trans st9) hz9 (by first | exact hop.out | (unfold Sm; omega)) (smC ⟨hk, hn, hp⟩ (smN)) (by simp))
  have e22 : (op == 22) = false := by simpa using q22
  clear q22
  by_cases q23 : op = 23
  · subst q23
    go_wp2_with fail
    refine (num_any rb (m + 11) wc.heap.size 5 _ (by omega) (by omega) (hr7.alloc _) (by omega) (nums_r wc) (by omega)).mono ?_
    rintro e w8 ⟨v, rfl, v0, v1, hr8, st8⟩
    have st8 : Step rb wc w8 := (Step.alloc rb wc _).trans st8
    go_wp2_with fail
    refine (arg_any rb (m + 12) v _ hr8 (by omega) ⟨v0, v1⟩).mono ?_
    rintro e w9 ⟨k, n, p, rfl, hk, hn, hp, hr9, st9⟩
    have o8 := o7.step st8 hne
    have o9 := o8.step st9 hne
    have hz9 := o9.lt
    have o9c := o9
    obtain ⟨⟨o90, o91⟩, z90, z91⟩ := o9c
    go_wp2
    exact bodyPost_ret (v := .agg #[.int .i64 23, .slice (some ⟨w9.heap.size, 0, none⟩) 1 1]) (resElem (b := w.heap.size) Tryz.results38 rfl ((o9.put _ _).alloc _).1) rfl (edrawn_lit (ys := [(k, n, p)]) hlt hr9 (by omega) ((sw7.trans st8).trans st9) hz9 (by first | exact hop.out | (unfold Sm; omega)) (smC ⟨hk, hn, hp⟩ (smN)) (by simp))
  have e23 : (op == 23) = false := by simpa using q23
  clear q23
  by_cases q24 : op = 24
  · subst q24
    go_wp2
    go_region_with (go_at_call 84; refine (arg_any rb (m + 11) 5 _ ?_ (by omega) (by unfold Sm; omega)).mono ?_; exact hr7.drew; rintro e w9 ⟨k, n, p, rfl, hk, hn, hp, hr9, st9⟩; have st9' : Step rb wc w9 := (Step.drew rb wc).trans st9; have c0 := (st9'.cell w3.heap.size 0 (by omega) (by omega)).trans a0; have c1 := (st9'.cell w3.heap.size 1 (by omega) (by omega)).trans a1; have c2 := (st9'.cell w3.heap.size 2 (by omega) (by omega)).trans a2; have o9 := o7.step st9' hne; have hz9 := o9.lt; have o9c := o9; obtain ⟨⟨o90, o91⟩, z90, z91⟩ := o9c)
    all_goals (try go_wp2)
    all_goals exact bodyPost_ret (v := .agg #[.int .i64 24, .slice (some ⟨w9.heap.size, 0, none⟩) 2 2]) (resElem (b := w.heap.size) Tryz.results38 rfl ((o9.put _ _).alloc _).1) rfl (edrawn_lit (ys := [(ka, na, pa), (k, n, p)]) hlt hr9 (by omega) (sw7.trans st9') hz9 (by first | exact hop.out | (unfold Sm; omega)) (smC ⟨hka, hna, hpa⟩ (smC ⟨hk, hn, hp⟩ (smN))) (by simp))
  have e24 : (op == 24) = false := by simpa using q24
  clear q24
  by_cases q25 : op = 25
  · subst q25
    go_wp2_with fail
    refine (arg_any rb (m + 11) 4 _ hr7 (by omega) (by unfold Sm; omega)).mono ?_
    rintro e w9 ⟨k, n, p, rfl, hk, hn, hp, hr9, st9⟩
    have o9 := o7.step st9 hne
    have hz9 := o9.lt
    have o9c := o9
    obtain ⟨⟨o90, o91⟩, z90, z91⟩ := o9c
    go_wp2
    exact bodyPost_ret (v := .agg #[.int .i64 25, .slice (some ⟨w9.heap.size, 0, none⟩) 1 1]) (resElem (b := w.heap.size) Tryz.results38 rfl ((o9.put _ _).alloc _).1) rfl (edrawn_lit (ys := [(k, n, p)]) hlt hr9 (by omega) (sw7.trans st9) hz9 (by first | exact hop.out | (unfold Sm; omega)) (smC ⟨hk, hn, hp⟩ (smN)) (by simp))
  have e25 : (op == 25) = false := by simpa using q25
  clear q25
  by_cases q26 : op = 26
  · subst q26
    go_wp2
    go_region_with (go_at_call 84; refine (arg_any rb (m + 11) 7 _ ?_ (by omega) (by unfold Sm; omega)).mono ?_; exact hr7.drew; rintro e w9 ⟨k, n, p, rfl, hk, hn, hp, hr9, st9⟩; have st9' : Step rb wc w9 := (Step.drew rb wc).trans st9; have c0 := (st9'.cell w4.heap.size 0 (by omega) (by omega)).trans b0; have c1 := (st9'.cell w4.heap.size 1 (by omega) (by omega)).trans b1; have c2 := (st9'.cell w4.heap.size 2 (by omega) (by omega)).trans b2; have o9 := o7.step st9' hne; have hz9 := o9.lt; have o9c := o9; obtain ⟨⟨o90, o91⟩, z90, z91⟩ := o9c)
    all_goals (try go_wp2)
    all_goals exact bodyPost_ret (v := .agg #[.int .i64 26, .slice (some ⟨w9.heap.size, 0, none⟩) 2 2]) (resElem (b := w.heap.size) Tryz.results38 rfl ((o9.put _ _).alloc _).1) rfl (edrawn_lit (ys := [(k, n, p), (kb, nb, pb)]) hlt hr9 (by omega) (sw7.trans st9') hz9 (by first | exact hop.out | (unfold Sm; omega)) (smC ⟨hk, hn, hp⟩ (smC ⟨hkb, hnb, hpb⟩ (smN))) (by simp))
  have e26 : (op == 26) = false := by simpa using q26
  clear q26
  by_cases q27 : op = 27
  · subst q27
    go_wp2
    go_region_with (go_at_call 84; refine (arg_any rb (m + 11) 7 _ ?_ (by omega) (by unfold Sm; omega)).mono ?_; exact hr7.drew; rintro e w9 ⟨k, n, p, rfl, hk, hn, hp, hr9, st9⟩; have st9' : Step rb wc w9 := (Step.drew rb wc).trans st9; have c0 := (st9'.cell w4.heap.size 0 (by omega) (by omega)).trans b0; have c1 := (st9'.cell w4.heap.size 1 (by omega) (by omega)).trans b1; have c2 := (st9'.cell w4.heap.size 2 (by omega) (by omega)).trans b2; have o9 := o7.step st9' hne; have hz9 := o9.lt; have o9c := o9; obtain ⟨⟨o90, o91⟩, z90, z91⟩ := o9c)
    all_goals (try go_wp2)
    all_goals exact bodyPost_ret (v := .agg #[.int .i64 27, .slice (some ⟨w9.heap.size, 0, none⟩) 2 2]) (resElem (b := w.heap.size) Tryz.results38 rfl ((o9.put _ _).alloc _).1) rfl (edrawn_lit (ys := [(k, n, p), (kb, nb, pb)]) hlt hr9 (by omega) (sw7.trans st9') hz9 (by first | exact hop.out | (unfold Sm; omega)) (smC ⟨hk, hn, hp⟩ (smC ⟨hkb, hnb, hpb⟩ (smN))) (by simp))
  have e27 : (op == 27) = false := by simpa using q27
  clear q27
  by_cases q28 : op = 28
  · subst q28
    go_wp2
    go_region_with (go_at_call 84; refine (arg_any rb (m + 11) 7 _ ?_ (by omega) (by unfold Sm; omega)).mono ?_; exact hr7.drew; rintro e w9 ⟨k, n, p, rfl, hk, hn, hp, hr9, st9⟩; have st9' : Step rb wc w9 := (Step.drew rb wc).trans st9; have c0 := (st9'.cell w4.heap.size 0 (by omega) (by omega)).trans b0; have c1 := (st9'.cell w4.heap.size 1 (by omega) (by omega)).trans b1; have c2 := (st9'.cell w4.heap.size 2 (by omega) (by omega)).trans b2; have o9 := o7.step st9' hne; have hz9 := o9.lt; have o9c := o9; obtain ⟨⟨o90, o91⟩, z90, z91⟩ := o9c)
    all_goals (try go_wp2)
    all_goals exact bodyPost_ret (v := .agg #[.int .i64 28, .slice (some ⟨w9.heap.size, 0, none⟩) 2 2]) (resElem (b := w.heap.size) Tryz.results38 rfl ((o9.put _ _).alloc _).1) rfl (edrawn_lit (ys := [(k, n, p), (kb, nb, pb)]) hlt hr9 (by omega) (sw7.trans st9') hz9 (by first | exact hop.out | (unfold Sm; omega)) (smC ⟨hk, hn, hp⟩ (smC ⟨hkb, hnb, hpb⟩ (smN))) (by simp))
  have e28 : (op == 28) = false := by simpa using q28
  clear q28
  by_cases q29 : op = 29
  · subst q29
    go_wp2
    go_region_with (go_at_call 84; refine (arg_any rb (m + 11) 8 _ ?_ (by omega) (by unfold Sm; omega)).mono ?_; exact hr7.drew; rintro e w9 ⟨k, n, p, rfl, hk, hn, hp, hr9, st9⟩; have st9' : Step rb wc w9 := (Step.drew rb wc).trans st9; have c0 := (st9'.cell w4.heap.size 0 (by omega) (by omega)).trans b0; have c1 := (st9'.cell w4.heap.size 1 (by omega) (by omega)).trans b1; have c2 := (st9'.cell w4.heap.size 2 (by omega) (by omega)).trans b2; have o9 := o7.step st9' hne; have hz9 := o9.lt; have o9c := o9; obtain ⟨⟨o90, o91⟩, z90, z91⟩ := o9c)
    all_goals (try go_wp2)
    all_goals exact bodyPost_ret (v := .agg #[.int .i64 29, .slice (some ⟨w9.heap.size, 0, none⟩) 2 2]) (resElem (b := w.heap.size) Tryz.results38 rfl ((o9.put _ _).alloc _).1) rfl (edrawn_lit (ys := [(k, n, p), (kb, nb, pb)]) hlt hr9 (by omega) (sw7.trans st9') hz9 (by first | exact hop.out | (unfold Sm; omega)) (smC ⟨hk, hn, hp⟩ (smC ⟨hkb, hnb, hpb⟩ (smN))) (by simp))
  have e29 : (op == 29) = false := by simpa using q29
  clear q29
  by_cases q36 : op = 36
  · subst q36
    go_wp2_with fail
    refine (arg_any rb (m + 11) 10 _ hr7 (by omega) (by unfold Sm; omega)).mono ?_
    rintro e w8 ⟨k, n, p, rfl, hk, hn, hp, hr8, st8⟩
    go_wp2_with fail
    refine (l3Whole_any rb (m + 15) _ hr8 (by omega)).mono ?_
    rintro e w9 ⟨k2, n2, p2, rfl, hk2, hn2, hp2, hr9, st9⟩
    have o8 := o7.step st8 hne
    have o9 := o8.step st9 hne
    have hz9 := o9.lt
    have o9c := o9
    obtain ⟨⟨o90, o91⟩, z90, z91⟩ := o9c
    go_wp2
    exact bodyPost_ret (v := .agg #[.int .i64 36, .slice (some ⟨w9.heap.size, 0, none⟩) 2 2]) (resElem (b := w.heap.size) Tryz.results38 rfl ((o9.put _ _).alloc _).1) rfl (edrawn_lit (ys := [(k, n, p), (k2, n2, p2)]) hlt hr9 (by omega) ((sw7.trans st8).trans st9) hz9 (by first | exact hop.out | (unfold Sm; omega)) (smC ⟨hk, hn, hp⟩ (smC ⟨hk2, hn2, hp2⟩ (smN))) (by simp))
  have e36 : (op == 36) = false := by simpa using q36
  clear q36
  by_cases q37 : op = 37
  · subst q37
    go_wp2_with fail
    refine (arg_any rb (m + 11) 9 _ hr7 (by omega) (by unfold Sm; omega)).mono ?_
    rintro e w8 ⟨k, n, p, rfl, hk, hn, hp, hr8, st8⟩
    go_wp2_with fail
    refine (l3Real_any rb (m + 15) _ hr8 (by omega)).mono ?_
    rintro e w9 ⟨k2, n2, p2, rfl, hk2, hn2, hp2, hr9, st9⟩
    have o8 := o7.step st8 hne
    have o9 := o8.step st9 hne
    have hz9 := o9.lt
    have o9c := o9
    obtain ⟨⟨o90, o91⟩, z90, z91⟩ := o9c
    go_wp2
    exact bodyPost_ret (v := .agg #[.int .i64 37, .slice (some ⟨w9.heap.size, 0, none⟩) 2 2]) (resElem (b := w.heap.size) Tryz.results38 rfl ((o9.put _ _).alloc _).1) rfl (edrawn_lit (ys := [(k, n, p), (k2, n2, p2)]) hlt hr9 (by omega) ((sw7.trans st8).trans st9) hz9 (by first | exact hop.out | (unfold Sm; omega)) (smC ⟨hk, hn, hp⟩ (smC ⟨hk2, hn2, hp2⟩ (smN))) (by simp))
  have e37 : (op == 37) = false := by simpa using q37
  clear q37
  by_cases q35 : op = 35
  · subst q35
    go_wp2_with fail
    refine (arg_any rb (m + 11) 9 _ hr7 (by omega) (by unfold Sm; omega)).mono ?_
    rintro e wa ⟨k, n, p, rfl, hk, hn, hp, hra, sta⟩
    go_wp2_with fail
    refine (l3Whole_any rb (m + 15) _ hra (by omega)).mono ?_
    rintro e wb ⟨k2, n2, p2, rfl, hk2, hn2, hp2, hrb, stb⟩
    go_wp2_with fail
    refine (l3Whole_any rb (m + 20) _ hrb (by omega)).mono ?_
    rintro e w9 ⟨k3, n3, p3, rfl, hk3, hn3, hp3, hr9, st9⟩
    have oa := o7.step sta hne
    have ob := oa.step stb hne
    have o9 := ob.step st9 hne
    have hz9 := o9.lt
    have o9c := o9
    obtain ⟨⟨o90, o91⟩, z90, z91⟩ := o9c
    have hfl := (fm0_ok (ez 35)).1
    have hfl' : ((fm0 (ez 35)).length : Int) ≤ 3 := by omega
    have HA := sArity_any 35
    generalize (fm0 (ez 35)).length = ar at *
    go_wp2_with fail
    refine (HA _).mono ?_
    rintro e w9' ⟨rfl, rfl⟩
    go_wp2
    exact bodyPost_ret (v := .agg #[.int .i64 35, .slice (some ⟨w9.heap.size, 0, none⟩) ar 3]) (resElem (b := w.heap.size) Tryz.results38 rfl ((o9.put _ _).alloc _).1) rfl (edrawn_cut (ys := [(k, n, p), (k2, n2, p2), (k3, n3, p3)]) hlt hr9 (by omega) (((sw7.trans sta).trans stb).trans st9) hz9 hop.out (smC ⟨hk, hn, hp⟩ (smC ⟨hk2, hn2, hp2⟩ (smC ⟨hk3, hn3, hp3⟩ (smN)))) rfl hfl)
  have e35 : (op == 35) = false := by simpa using q35
  clear q35
  go_wp2_with fail
  refine (pick_any rb (m + 11) 2 _ (by omega) hr7 (by omega)).mono ?_
  rintro e w8 ⟨v, rfl, v0, v1, -, hr8, st8⟩
  have o8 := o7.step st8 hne
  by_cases hv : v = 0
  · subst hv
    go_wp2_with fail
    refine (arg_any rb (m + 12) 9 _ hr8 (by omega) (by unfold Sm; omega)).mono ?_
    rintro e wa ⟨k, n, p, rfl, hk, hn, hp, hra, sta⟩
    go_wp2_with fail
    refine (l3Whole_any rb (m + 16) _ hra (by omega)).mono ?_
    rintro e wb ⟨k2, n2, p2, rfl, hk2, hn2, hp2, hrb, stb⟩
    go_wp2_with fail
    refine (l3Whole_any rb (m + 21) _ hrb (by omega)).mono ?_
    rintro e w9 ⟨k3, n3, p3, rfl, hk3, hn3, hp3, hr9, st9⟩
    have oa := o8.step sta hne
    have ob := oa.step stb hne
    have o9 := ob.step st9 hne
    have hz9 := o9.lt
    have o9c := o9
    obtain ⟨⟨o90, o91⟩, z90, z91⟩ := o9c
    have hfl := (fm0_ok (ez op)).1
    have hfl' : ((fm0 (ez op)).length : Int) ≤ 3 := by omega
    have HA := sArity_any op
    generalize (fm0 (ez op)).length = ar at *
    go_wp2_with fail
    refine (HA _).mono ?_
    rintro e w9' ⟨rfl, rfl⟩
    go_wp2
    exact bodyPost_ret (v := .agg #[.int .i64 op, .slice (some ⟨w9.heap.size, 0, none⟩) ar 3]) (resElem (b := w.heap.size) Tryz.results38 rfl ((o9.put _ _).alloc _).1) rfl (edrawn_cut (ys := [(k, n, p), (k2, n2, p2), (k3, n3, p3)]) hlt hr9 (by omega) ((((sw7.trans st8).trans sta).trans stb).trans st9) hz9 hop.out (smC ⟨hk, hn, hp⟩ (smC ⟨hk2, hn2, hp2⟩ (smC ⟨hk3, hn3, hp3⟩ (smN)))) rfl hfl)
  · have hv' : (v == 0) = false := by simpa using hv
    clear hv
    go_wp2_with fail
    refine (arg_any rb (m + 12) 10 _ hr8 (by omega) (by unfold Sm; omega)).mono ?_
    rintro e wa ⟨k, n, p, rfl, hk, hn, hp, hra, sta⟩
    go_wp2_with fail
    refine (l3Real_any rb (m + 16) _ hra (by omega)).mono ?_
    rintro e wb ⟨k2, n2, p2, rfl, hk2, hn2, hp2, hrb, stb⟩
    go_wp2_with fail
    refine (l3Real_any rb (m + 21) _ hrb (by omega)).mono ?_
    rintro e w9 ⟨k3, n3, p3, rfl, hk3, hn3, hp3, hr9, st9⟩
    have oa := o8.step sta hne
    have ob := oa.step stb hne
    have o9 := ob.step st9 hne
    have hz9 := o9.lt
    have o9c := o9
    obtain ⟨⟨o90, o91⟩, z90, z91⟩ := o9c
    have hfl := (fm0_ok (ez op)).1
    have hfl' : ((fm0 (ez op)).length : Int) ≤ 3 := by omega
    have HA := sArity_any op
    generalize (fm0 (ez op)).length = ar at *
    go_wp2_with fail
    refine (HA _).mono ?_
    rintro e w9' ⟨rfl, rfl⟩
    go_wp2
    exact bodyPost_ret (v := .agg #[.int .i64 op, .slice (some ⟨w9.heap.size, 0, none⟩) ar 3]) (resElem (b := w.heap.size) Tryz.results38 rfl ((o9.put _ _).alloc _).1) rfl (edrawn_cut (ys := [(k, n, p), (k2, n2, p2), (k3, n3, p3)]) hlt hr9 (by omega) ((((sw7.trans st8).trans sta).trans stb).trans st9) hz9 hop.out (smC ⟨hk, hn, hp⟩ (smC ⟨hk2, hn2, hp2⟩ (smC ⟨hk3, hn3, hp3⟩ (smN)))) rfl hfl)
end Go.Proofs.YtlddkhhaclfmiaaGreatDoor

/- The spoiling of contacts and coils: l3Spoil. Helper text: no statement is claimed here. -/
namespace Go.Proofs.YtlddkhhaclfmiaaGreatDoor
open Go.ChangeShapes Go.WideShapes Go.ChangeAt Go.RowKit

/-- The operands of a contact or coil, in memory that is not the reader's. -/
def ElsB (rb : Nat) (w : World) (p : Option Addr) (ys : List Ar) (cap : Nat) : Prop :=
  (p = none ∧ ys = [] ∧ cap = 0) ∨ ∃ B, p = some ⟨B, 0, none⟩ ∧ B ≠ rb ∧ B < w.heap.size ∧ ArgsAt w B ys
/-- The operands of a contact or coil, wherever they lie. -/
def ElsG (w : World) (p : Option Addr) (ys : List Ar) : Prop :=
  (p = none ∧ ys = []) ∨ ∃ ad, p = some ad ∧ ∀ W, Below w.heap.size w W → ∀ j u, (arCells ys)[j]? = some u → W.cell? (ad.add j) = some u
theorem ElsB.g {rb : Nat} {w : World} {p : Option Addr} {ys : List Ar} {cap : Nat} (h : ElsB rb w p ys cap) : ElsG w p ys := by
  rcases h with ⟨rfl, rfl, rfl⟩ | ⟨B, rfl, hB1, hB2, hA⟩
  · exact .inl ⟨rfl, rfl⟩
  · exact .inr ⟨⟨B, 0, none⟩, rfl, fun W hW => (hA.to hB2 hW).news⟩
theorem run_append_no {P : Program} {w : World} (base : Nat) (t ty e : TypeId) (i : TypeInfo) (size c : Nat) (ht : P.underlying t = some (.slice e)) (hi : P.info? e = some i) (v : Value) (n : Nat) (xs : List Value) (hown : w.ownsRow base e size v n xs) : (Builtin.append_ #[t, t] ty #[v, .slice none 0 c]).run P w = .ok v w := by
  rcases hown.2 with ⟨rfl, rfl⟩ | ⟨g, cap, cur, rfl, _, _, hnc, _⟩
  · simp [Builtin.append_, run_underlying ht, sizeOf, typeInfo, hi, Builtin.lenOf, Builtin.firstCells]
  · simp [Builtin.append_, run_underlying ht, sizeOf, typeInfo, hi, Builtin.lenOf, Builtin.firstCells, hnc, storeCells]
theorem wpList_appNo {ops : Array Oper} {rest : List Oper} {o : Oper} {a : Act} {Q : Exit → Act → World → Prop} {w : World} (hgd : o.guard = none) (s x : Operand)
    (ho : o.op = .call { callee := .builtin .append, args := #[s, x], argTypes := #[23, 23] }) (base : Nat)
    (v : Value) (n : Nat) (xs : List Value) (hs : a.eval s = v) (hown : w.ownsRow base 51 3 v n xs) (c : Nat) (hx : a.eval x = .slice none 0 c)
    (h : wpList Tryz.prog ops Q rest (a.put o.dst v) w) : wpList Tryz.prog ops Q (o :: rest) a w := by
  obtain ⟨i0, hi, hz0, hz1, hz2⟩ := info_parts iDev
  refine wpList_plain hgd fun K hK => ?_
  have hrun := run_append_no (P := Tryz.prog) base 23 o.type _ i0 3 c Tryz.underlying23 hi v n xs hown
  unfold Oper.wp
  simp [execOp, ho, resolve, invoke, builtin, hs, hx, hrun, Result.andThen]
  exact hK _ _ h
theorem sm_snoc {ys : List Ar} (h : ∀ a ∈ ys, Sm a.1 ∧ Sm a.2.1 ∧ Sm a.2.2) {b : Ar} (hb : Sm b.1 ∧ Sm b.2.1 ∧ Sm b.2.2) : ∀ a ∈ ys ++ [b], Sm a.1 ∧ Sm a.2.1 ∧ Sm a.2.2 := fun a ha => by
  rcases List.mem_append.1 ha with h' | h'
  · exact h a h'
  · rw [List.mem_singleton.1 h']; exact hb
theorem Rd.in {w w' : World} {rb m B : Nat} (h : Rd w rb m) (hb : Below B w w') (hB : rb < B) : Rd w' rb m := by
  obtain ⟨a, len, cap, p, h0, h1, hf, hp, hl, hr⟩ := h.rd
  refine ⟨a, len, cap, p, ?_, ?_, ?_, hp, hl, ?_⟩
  · rw [hb.cell (p := ⟨rb, 0, none⟩) hB]; exact h0
  · rw [hb.cell (p := ⟨rb, 1, none⟩) hB]; exact h1
  · rw [hb.frozen (p := ⟨rb, 1, none⟩) hB]; exact hf
  · rcases hr with hr | ⟨b, off, f, ha, hbr, hc⟩
    · exact .inl hr
    · refine .inr ⟨b, off, f, ha, hbr, fun i hi => ?_⟩
      rw [hb.cell (p := ⟨b, off + i, none⟩) (show b < B by omega)]
      exact hc i hi
theorem Step.in {rb B : Nat} {w W W' : World} (h : Step rb w W) (hb : Below B W W') (hB : w.heap.size ≤ B) : Step rb w W' :=
  ⟨hb.os.trans h.os, hb.tape.trans h.tape, hb.output.trans h.output, Nat.le_trans h.size hb.size, fun k hk hr => (hb.block k (by omega)).trans (h.block k hk hr)⟩
theorem ARow.step {rb : Nat} {W W' : World} {g cp : Nat} {ys : List Ar} (h : ARow W g cp ys) (st : Step rb W W') (hr : g ≠ rb) : ARow W' g cp ys := by
  have hl := h.lt
  obtain ⟨cur, h1, h2⟩ := h
  exact ⟨cur, (st.block g hl hr).trans h1, h2⟩
theorem sm_at {ys : List Ar} (h : ∀ a ∈ ys, Sm a.1 ∧ Sm a.2.1 ∧ Sm a.2.2) {k : Nat} (hk : k < ys.length) : Sm (at3 ys k).1 ∧ Sm (at3 ys k).2.1 ∧ Sm (at3 ys k).2.2 := h _ (by simp [at3, List.getD, hk])
theorem sm_set {ys : List Ar} (h : ∀ a ∈ ys, Sm a.1 ∧ Sm a.2.1 ∧ Sm a.2.2) (k : Nat) {b : Ar} (hb : Sm b.1 ∧ Sm b.2.1 ∧ Sm b.2.2) : ∀ a ∈ ys.set k b, Sm a.1 ∧ Sm a.2.1 ∧ Sm a.2.2 := fun a ha => by
  rcases List.mem_or_eq_of_mem_set ha with h' | h'
  · exact h a h'
  · rw [h']; exact hb
theorem edrawn_row {L rb m m' : Nat} {w W : World} {op : Int} {ys : List Ar} {g cp : Nat} (hlt : rb < w.heap.size) (hr : Rd W rb m') (hm : m' ≤ m) (sw : Step rb w W) (row : ARow W g cp ys) (hg : w.heap.size + 1 + 1 ≤ g) (hop : Sm op)
    (hys : ∀ a ∈ ys, Sm a.1 ∧ Sm a.2.1 ∧ Sm a.2.2) (hl : ys.length ≤ L) :
    EDrawn L rb m w (.returned (.agg #[.int .i64 op, .slice (some ⟨g, 0, none⟩) ys.length cp]))
      ((W.setCell ⟨w.heap.size + 1, 0, none⟩ (.int .i64 op)).setCell ⟨w.heap.size + 1, 1, none⟩ (.slice (some ⟨g, 0, none⟩) ys.length cp)) := by
  have h2 := row.lt
  refine ⟨op, ys, _, cp, rfl, hop, hys, hl, row.room, .inr ⟨g, rfl, by omega, by simpa using h2, ((row.set (by omega)).set (by omega)).args⟩, ((hr.mono hm).set _ _ _ (by omega)).set _ _ _ (by omega), (sw.setNew _ _ _ (by omega)).setNew _ _ _ (by omega)⟩

theorem nums_10 (w : World) : Nums (w.alloc (.cells #[.int .i64 (-1), .int .i64 0, .int .i64 1, .int .i64 5, .int .i64 11, .int .i64 20, .int .i64 21, .int .i64 26, .int .i64 37, .int .i64 38] 3)) w.heap.size 10 := by
  have := nums_mk w [-1, 0, 1, 5, 11, 20, 21, 26, 37, 38] 3 (by simp)
  simpa using this
/-- What stands behind the copying of the operands. -/
def Copied (w : World) (op : Int) (p : Option Addr) (ys : List Ar) (cap : Nat) (s : Value) (W : World) : Prop := ∃ g cp, s = .slice (some ⟨g, 0, none⟩) ys.length cp ∧ w.heap.size + 1 + 1 ≤ g ∧ ARow W g cp ys ∧
  Own2 W w.heap.size (.int .i64 op) (.slice p ys.length cap) ∧ Own2 W (w.heap.size + 1) (.int .i64 0) (.slice none 0 0) ∧ Below w.heap.size w W
set_option maxRecDepth 100000 in
set_option maxHeartbeats 4000000 in
theorem spoilG_any (L rb m : Nat) (op : Int) (ys : List Ar) (p : Option Addr) (cap : Nat) (w : World) (hr : Rd w rb m) (hm : m ≤ 690000) (hE : ElsG w p ys) (hop : Sm op) (hys : ∀ a ∈ ys, Sm a.1 ∧ Sm a.2.1 ∧ Sm a.2.2) (hl : ys.length ≤ L) (hL : L ≤ 10) :
    Calls Tryz.prog 40 #[.pointer (some ⟨rb, 0, none⟩), elemV op p ys.length cap] w (EDrawn (L + 1) rb (m + 20) w) := by
  have hlt := hr.lt
  have hne : w.heap.size ≠ rb := by omega
  have HE : Hid (ElsG w p ys) := hE
  clear hE
  have HO : Hid ((((w.alloc (.cells #[.int .i64 op, .slice p ys.length cap] 25)).alloc (.cells #[.int .i64 0, .slice none 0 0] 25)).alloc (.cells #[] 51)).ownsRow (w.heap.size + 1 + 1) 51 3 (.slice (some ⟨w.heap.size + 1 + 1, 0, none⟩) 0 0) 0 []) :=
    ⟨rfl, .inr ⟨w.heap.size + 1 + 1, 0, #[], rfl, Nat.le_refl _, by have := heap_alloc_last ((w.alloc (.cells #[.int .i64 op, .slice p ys.length cap] 25)).alloc (.cells #[.int .i64 0, .slice none 0 0] 25)) (.cells #[] 51); simpa using this, Nat.le_refl _, by unfold maxLen; omega, rfl, rfl⟩⟩
  have HB0 : Hid (Below w.heap.size w (((w.alloc (.cells #[.int .i64 op, .slice p ys.length cap] 25)).alloc (.cells #[.int .i64 0, .slice none 0 0] 25)).alloc (.cells #[] 51))) := ((one _ _).alloc (by simp) _).alloc (by simp; omega) _
  have HX : Hid (Own2 _ _ _ _) := ((Own2.new w (.int .i64 op) (.slice p ys.length cap)).alloc (.cells #[.int .i64 0, .slice none 0 0] 25)).alloc (.cells #[] 51)
  have hR0 := (Own2.new (w.alloc (.cells #[.int .i64 op, .slice p ys.length cap] 25)) (.int .i64 0) (.slice none 0 0)).alloc (.cells #[] 51)
  rw [World.size_alloc] at hR0
  have HR : Hid (Own2 _ _ _ _) := hR0
  clear hR0
  have HS : Hid ((((w.alloc (.cells #[.int .i64 op, .slice p ys.length cap] 25)).alloc (.cells #[.int .i64 0, .slice none 0 0] 25)).alloc (.cells #[] 51)).heap.size = w.heap.size + 3) := by
    show _ = _
    simp
  have HA1 : Hid (∀ u ∈ arCells ys, u.oneCell' = true) := arCells_one ys
  have HA2 : Hid ((arCells ys).length = ys.length * 3) := arCells_len ys
  go_enter Tryz.func40, Tryz.ntmps40
  go_upto_region 1 with fail
  go_cut [5] from 7 to 10 (fun s5 wx => Copied w op p ys cap s5 wx)
  case first =>
    rcases HE.out with ⟨rfl, rfl⟩ | ⟨ad, rfl, hA⟩
    · go_wp2_with (at_builtin; refine wpList_appNo rfl (.tmp 7) (.tmp 9) rfl (w.heap.size + 1 + 1) _ 0 [] rfl HO.out cap rfl ?_)
      go_meet
      obtain ⟨g, cp, hv, hg, row⟩ := arow_of (ys := []) HO.out rfl (by simp)
      exact ⟨g, cp, hv, hg, row, HX.out, HR.out, HB0.out⟩
    · have HN : Hid _ := hA _ HB0.out
      clear hA
      go_wp2_with (at_builtin; refine wpList_copy _ rfl (.tmp 7) (.tmp 9) rfl (w.heap.size + 1 + 1) (w.heap.size + 1 + 1) rfl HO.out ad ys.length cap (arCells ys) rfl HA2.out HN.out HA1.out (by omega) (by simp) ?_; intro v' w1 HW HG HI)
      go_meet
      obtain ⟨g, cp, hv, hg, row⟩ := arow_of HW.out rfl HI.out
      have bel : Below (w.heap.size + 1 + 1) _ w1 := (Below.refl _ _).grown HG.out (by have := HS.out; omega) (fun k e => by cases e; exact Nat.le_refl _)
      exact ⟨g, cp, hv, hg, row, HX.out.in bel (by omega), HR.out.in bel (by omega), HB0.out.trans (bel.mono (by omega))⟩
  case rest =>
  clear HE HO HB0 HX HR HS HA1 HA2
  obtain ⟨g, cp, rfl, hg, row, ox, o1, hb⟩ := hcut
  have hr1 := hr.to hb
  have sw1 : Step rb w wc := Step.of hb
  clear hb
  go_wp2_with fail
  refine (pick_any rb m 6 _ (by omega) hr1 (by omega)).mono ?_
  rintro e w2 ⟨t, rfl, t0, t1, -, hr2, st2⟩
  have t1 : t < 6 := t1 (by omega)
  have row2 := row.step st2 (by omega)
  have ox2 := ox.step st2 hne
  have o2 := o1.step st2 (by omega)
  have sw2 := sw1.trans st2
  have hz2 := o2.lt
  have hzx := ox2.lt
  have hzg := row2.lt
  clear row ox o1 sw1 st2 hr1
  have ht : t = 0 ∨ t = 1 ∨ t = 2 ∨ 3 ≤ t := by omega
  rcases ht with rfl | rfl | rfl | ht
  · go_wp2_with fail
    refine (num_any rb (m + 1) w2.heap.size 10 _ (by omega) (by omega) (hr2.alloc _) (by omega) (nums_10 w2) (by omega)).mono ?_
    rintro e w3 ⟨v, rfl, v0, v1, hr3, st3⟩
    have st3 : Step rb w2 w3 := (Step.alloc rb w2 _).trans st3
    have o3 := o2.step st3 (by omega)
    have o3c := o3
    obtain ⟨⟨o30, o31⟩, z30, z31⟩ := o3c
    go_wp2
    exact bodyPost_ret (v := .agg #[.int .i64 v, .slice (some ⟨g, 0, none⟩) ys.length cp]) (resElem (b := w.heap.size + 1) Tryz.results40 rfl (o3.put _ _).1) rfl (edrawn_row hlt hr3 (by omega) (sw2.trans st3) (row2.step st3 (by omega)) hg ⟨v0, v1⟩ hys (by omega))
  · have x0 := ox2.1.1
    have hown := row2.owns (base := w.heap.size + 1 + 1) hg
    have HOW : Hid (w2.ownsRow (w.heap.size + 1 + 1) 51 3 (.slice (some ⟨g, 0, none⟩) ys.length cp) ys.length (arCells ys)) := hown
    clear hown
    go_wp2
    go_region_held3 (fun w' => w'.cell? ⟨w.heap.size, 0, none⟩ = some (.int .i64 op)) (first | go_keep | assumption)
      (first
        | (go_at_call 88; refine (argAny_any rb (m + 1) _ ?_ (by omega)).mono ?_; exact hr2.drew; rintro e w3 ⟨k, n, q, rfl, hk, hn, hq, hr3, st3⟩; have st3' : Step rb w2 w3 := (Step.drew rb w2).trans st3; have x3 := (st3'.cell w.heap.size 0 (by omega) hne).trans x0; have row3 := row2.step st3' (by omega); have hz3 := row3.lt; have o3 := o2.step st3' (by omega); have HO3 : Hid (World.ownsRow (w3.alloc (.cells #[.int .i64 k, .int .i64 n, .int .i64 q] 51)) (w.heap.size + 1 + 1) 51 3 (.slice (some ⟨g, 0, none⟩) ys.length cp) ys.length (arCells ys)) := (row3.owns hg).alloc _)
        | (refine step_app _ (by rfl) (.tmp 24) (.tmp 27) (by rfl) (w.heap.size + 1 + 1) _ ys.length (arCells ys) (by rfl) HO3.out ⟨w3.heap.size, 0, none⟩ 1 1 [.int .i64 k, .int .i64 n, .int .i64 q] (by rfl) (by rfl) (World.news_of_block (cs := #[.int .i64 k, .int .i64 n, .int .i64 q]) (t := 51) (fr := (0, 0)) (heap_alloc_new w3 _)) (by simp [Value.oneCell']) (by omega) (by omega) (by simp; omega) ?_; intro g4 cp4 w4 HW4 HG4 hl4; have x4 := (HG4.out.cell_far ⟨w.heap.size, 0, none⟩ (by simp; omega) (by simp [Value.ownBlock]; omega)).trans ((World.cell?_alloc_lt _ _ ⟨w.heap.size, 0, none⟩ (show w.heap.size < w3.heap.size by omega)).trans x3); have HBL : Hid (Below (w.heap.size + 1 + 1) (w3.alloc (.cells #[.int .i64 k, .int .i64 n, .int .i64 q] 51)) w4) := (Below.refl _ _).grown HG4.out (by simp; omega) (fun k e => by cases e; exact hg); have o4 := (o3.alloc (.cells #[.int .i64 k, .int .i64 n, .int .i64 q] 51)).in HBL.out (by omega); have o4c := o4; obtain ⟨⟨o40, o41⟩, z40, z41⟩ := o4c))
    all_goals (try go_wp2)
    obtain ⟨g5, cp5, e5, hg5, row5⟩ := arow_of (ys := ys ++ [(k, n, q)]) (n := ys.length + 1) (by rw [← arCells_snoc]; exact HW4.out) (by simp) (by simp)
    simp only [Value.slice.injEq, Option.some.injEq, Addr.mk.injEq] at e5
    obtain ⟨⟨rfl, -, -⟩, -, rfl⟩ := e5
    have hF := edrawn_row (L := L + 1) (m := m + 20) (op := op) hlt ((hr3.alloc _).in HBL.out (by omega)) (by omega) (((sw2.trans st3').trans (Step.alloc rb w3 _)).in HBL.out (by omega)) row5 hg5 hop (sm_snoc hys (b := (k, n, q)) ⟨hk, hn, hq⟩) (by simp; omega)
    rw [show (ys ++ [(k, n, q)]).length = ys.length + 1 by simp] at hF
    exact bodyPost_ret (v := .agg #[.int .i64 op, .slice (some ⟨g4, 0, none⟩) (ys.length + 1) cp4]) (resElem (b := w.heap.size + 1) Tryz.results40 rfl (o4.put _ _).1) rfl hF
  · have oxc := ox2
    obtain ⟨⟨x0, x1⟩, y0, y1⟩ := oxc
    have o2c := o2
    obtain ⟨⟨o20, o21⟩, z20, z21⟩ := o2c
    go_wp2
    exact bodyPost_ret (v := .agg #[.int .i64 op, .slice none 0 0]) (resElem (b := w.heap.size + 1) Tryz.results40 rfl (o2.put _ _).1) rfl ⟨op, [], none, 0, rfl, hop, smN, by simp, by simp, .inl ⟨rfl, rfl, rfl⟩, ((hr2.mono (by omega)).set _ _ _ (by omega)).set _ _ _ (by omega), (sw2.setNew _ _ _ (by omega)).setNew _ _ _ (by omega)⟩
  · have e0 : (t == 0) = false := by simp; omega
    have e1 : (t == 1) = false := by simp; omega
    have e2 : (t == 2) = false := by simp; omega
    clear ht t0 t1
    by_cases hn0 : ys.length = 0
    · have HL : Hid (ys.length = 0) := hn0
      have hn0' : ¬ (0 : Int) < (ys.length : Int) := by omega
      clear hn0
      have oxc := ox2
      obtain ⟨⟨x0, x1⟩, y0, y1⟩ := oxc
      have o2c := o2
      obtain ⟨⟨o20, o21⟩, z20, z21⟩ := o2c
      go_wp2
      exact bodyPost_ret (v := .agg #[.int .i64 op, .slice (some ⟨g, 0, none⟩) ys.length cp]) (resElem (b := w.heap.size + 1) Tryz.results40 rfl (o2.put _ _).1) rfl (edrawn_row hlt hr2 (by omega) sw2 row2 hg hop hys (by omega))
    · have hn1 : (0 : Int) < (ys.length : Int) := by omega
      go_wp2_with fail
      refine (pick_any rb (m + 1) ys.length _ (by omega) hr2 (by omega)).mono ?_
      rintro e w3 ⟨k', rfl, k0, k1, -, hr3, st3⟩
      obtain ⟨k, rfl⟩ := Int.eq_ofNat_of_zero_le k0
      have hk1 : (k : Int) < (ys.length : Int) := k1 (by omega)
      have hk : k < ys.length := by omega
      have row3 := row2.step st3 (by omega)
      have ox3 := ox2.step st3 hne
      have o3 := o2.step st3 (by omega)
      have sw3 := sw2.trans st3
      clear row2 ox2 o2 sw2 st3 k1 hn0
      obtain ⟨a0, a1, a2⟩ := row3.args k hk
      have hsm := sm_at hys hk
      generalize hqx : (at3 ys k).1 = qx at *
      generalize hqy : (at3 ys k).2.1 = qy at *
      generalize hqz : (at3 ys k).2.2 = qz at *
      clear hqx hqy hqz
      go_wp2_with fail
      refine (spoilt_any rb (m + 2) qx qy qz _ hr3 (by omega) hsm.1 hsm.2.1 hsm.2.2).mono ?_
      rintro e w4 ⟨kk, nn, pp, rfl, hkk, hnn, hpp, hr4, st4⟩
      have row4 := row3.step st4 (by omega)
      have ox4 := ox3.step st4 hne
      have o4 := o3.step st4 (by omega)
      have sw4 := sw3.trans st4
      clear row3 ox3 o3 sw3 st4 a0 a1 a2
      obtain ⟨a0, a1, a2⟩ := row4.args k hk
      have f0 := row4.free (k * 3)
      have f1 := row4.free (k * 3 + 1)
      have f2 := row4.free (k * 3 + 2)
      go_wp2_with fail
      refine (pick_any rb (m + 4) 2 _ (by omega) (((hr4.set _ _ _ (by omega)).set _ _ _ (by omega)).set _ _ _ (by omega)) (by omega)).mono ?_
      rintro e w5 ⟨v, rfl, v0, v1, -, hr5, st5⟩
      have row5 := (row4.put hk kk nn pp).step st5 (by omega)
      have ox5 := (((ox4.set (c := g) (i := k * 3) (v := .int .i64 kk) (by omega)).set (c := g) (i := k * 3 + 1) (v := .int .i64 nn) (by omega)).set (c := g) (i := k * 3 + 2) (v := .int .i64 pp) (by omega)).step st5 hne
      have o5 := (((o4.set (c := g) (i := k * 3) (v := .int .i64 kk) (by omega)).set (c := g) (i := k * 3 + 1) (v := .int .i64 nn) (by omega)).set (c := g) (i := k * 3 + 2) (v := .int .i64 pp) (by omega)).step st5 (by omega)
      have sw5 := (((sw4.setNew g (k * 3) (.int .i64 kk) (by omega)).setNew g (k * 3 + 1) (.int .i64 nn) (by omega)).setNew g (k * 3 + 2) (.int .i64 pp) (by omega)).trans st5
      have hys5 := sm_set hys k (b := (kk, nn, pp)) ⟨hkk, hnn, hpp⟩
      clear row4 ox4 o4 sw4 st5 a0 a1 a2 f0 f1 f2 v1
      have hln : (ys.set k (kk, nn, pp)).length = ys.length := by simp
      by_cases hv : v = 0
      · subst hv
        go_wp2_with fail
        refine (argAny_any rb (m + 5) _ hr5 (by omega)).mono ?_
        rintro e w6 ⟨k6, n6, p6, rfl, hk6, hn6, hp6, hr6, st6⟩
        have row6 := row5.step st6 (by omega)
        have ox6 := ox5.step st6 hne
        have o6 := o5.step st6 (by omega)
        have sw6 := sw5.trans st6
        obtain ⟨a0, a1, a2⟩ := row6.args k (by omega)
        have f0 := row6.free (k * 3)
        have f1 := row6.free (k * 3 + 1)
        have f2 := row6.free (k * 3 + 2)
        have oxc := ox6
        obtain ⟨⟨x0, x1⟩, y0, y1⟩ := oxc
        have o6c := o6
        obtain ⟨⟨o20, o21⟩, z20, z21⟩ := o6c
        have HL : Hid (((ys.set k (kk, nn, pp)).set k (k6, n6, p6)).length = ys.length) := by show _ = _; simp
        have hF := edrawn_row (L := L + 1) (m := m + 20) (op := op) hlt (((hr6.set g (k * 3) (.int .i64 k6) (by omega)).set g (k * 3 + 1) (.int .i64 n6) (by omega)).set g (k * 3 + 2) (.int .i64 p6) (by omega)) (by omega) (((sw6.setNew g (k * 3) (.int .i64 k6) (by omega)).setNew g (k * 3 + 1) (.int .i64 n6) (by omega)).setNew g (k * 3 + 2) (.int .i64 p6) (by omega)) (row6.put (by omega) k6 n6 p6) hg hop (sm_set hys5 k (b := (k6, n6, p6)) ⟨hk6, hn6, hp6⟩) (by rw [HL.out]; omega)
        rw [HL.out] at hF
        have HF : Hid (EDrawn _ _ _ _ _ _) := hF
        clear hF
        have HO6 : Hid _ := ((((o6.set (c := g) (i := k * 3) (v := .int .i64 k6) (by omega)).set (c := g) (i := k * 3 + 1) (v := .int .i64 n6) (by omega)).set (c := g) (i := k * 3 + 2) (v := .int .i64 p6) (by omega)).put (.int .i64 op) (.slice (some ⟨g, 0, none⟩) ys.length cp)).1
        clear hln
        go_wp2
        exact bodyPost_ret (v := .agg #[.int .i64 op, .slice (some ⟨g, 0, none⟩) ys.length cp]) (resElem (b := w.heap.size + 1) Tryz.results40 rfl HO6.out) rfl HF.out
      · have hv' : (v == 0) = false := by simpa using hv
        clear hv
        have oxc := ox5
        obtain ⟨⟨x0, x1⟩, y0, y1⟩ := oxc
        have o5c := o5
        obtain ⟨⟨o20, o21⟩, z20, z21⟩ := o5c
        have hF := edrawn_row (L := L + 1) (m := m + 20) (op := op) hlt hr5 (by omega) sw5 row5 hg hop hys5 (by omega)
        rw [hln] at hF
        have HF : Hid (EDrawn _ _ _ _ _ _) := hF
        clear hF
        clear hln
        go_wp2
        exact bodyPost_ret (v := .agg #[.int .i64 op, .slice (some ⟨g, 0, none⟩) ys.length cp]) (resElem (b := w.heap.size + 1) Tryz.results40 rfl (o5.put _ _).1) rfl HF.out
theorem spoilE_any (L rb m : Nat) (op : Int) (ys : List Ar) (p : Option Addr) (cap : Nat) (w : World) (hr : Rd w rb m) (hm : m ≤ 690000) (hE : ElsB rb w p ys cap) (hop : Sm op) (hys : ∀ a ∈ ys, Sm a.1 ∧ Sm a.2.1 ∧ Sm a.2.2) (hl : ys.length ≤ L) (hL : L ≤ 10) :
    Calls Tryz.prog 40 #[.pointer (some ⟨rb, 0, none⟩), elemV op p ys.length cap] w (EDrawn (L + 1) rb (m + 20) w) := spoilG_any L rb m op ys p cap w hr hm hE.g hop hys hl hL
end Go.Proofs.YtlddkhhaclfmiaaGreatDoor
