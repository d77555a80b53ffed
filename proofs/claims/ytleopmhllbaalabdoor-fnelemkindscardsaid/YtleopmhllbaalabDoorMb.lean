/- The drawing of contacts: l3Contact. Helper text: no statement is claimed here. -/
import Derived.Test.YtleopmhllbaalabDoorMa
import Derived.Deep.RegionWith
import Derived.Deep.CutRange
namespace Go.Proofs.YtleopmhllbaalabDoor
open Go.ChangeShapes Go.WideShapes Go.ChangeAt Go.RowKit

/-- Two operands of the call's own, and its result, in memory. -/
def Two (w : World) (rb m O A B : Nat) (W : World) : Prop := ∃ k n p kb nb pb : Int, Sm k ∧ Sm n ∧ Sm p ∧ Sm kb ∧ Sm nb ∧ Sm pb ∧ Own W A (.int .i64 k) (.int .i64 n) (.int .i64 p) ∧ Own W B (.int .i64 kb) (.int .i64 nb) (.int .i64 pb) ∧
  Own2 W O (.int .i64 0) (.slice none 0 0) ∧ Rd W rb m ∧ Step rb w W

set_option maxHeartbeats 2000000 in
theorem l3Contact_any (rb m : Nat) (w : World) (hr : Rd w rb m) (hm : m ≤ 800) :
    Calls Tryd.prog 78 #[.pointer (some ⟨rb, 0, none⟩)] w (EDrawn 3 rb (m + 30) w) := by
  have hlt := hr.lt
  have hne : w.heap.size ≠ rb := by omega
  go_enter Tryd.func78, Tryd.ntmps78
  go_wp2_with fail
  refine (pick_any rb m 8 _ (by omega) (hr.alloc _) (by omega)).mono ?_
  rintro e w1 ⟨t, rfl, t0, t1, -, hr1, st⟩
  have t1 : t < 8 := t1 (by omega)
  have oa := (Own2.new w (.int .i64 0) (.slice none 0 0)).step st hne
  have sw : Step rb w w1 := (Step.alloc rb w _).trans st
  clear st
  by_cases h6 : 6 ≤ t
  · have q0 : (t == 0) = false := by simp; omega
    have q1 : (t == 1) = false := by simp; omega
    have q2 : (t == 2) = false := by simp; omega
    have q3 : (t == 3) = false := by simp; omega
    have q4 : (t == 4) = false := by simp; omega
    have q5 : (t == 5) = false := by simp; omega
    clear h6 t0 t1
    go_wp2_with fail
    refine (l3Whole_any rb (m + 1) _ hr1 (by omega)).mono ?_
    rintro e w2 ⟨k, n, p, rfl, hk, hn, hp, hr2, st2⟩
    have o2 := oa.step st2 hne
    have sw2 := sw.trans st2
    have hz2 := o2.lt
    have hlt2 := hr2.lt
    clear st2 oa sw
    go_wp2_with fail
    refine (l3Whole_any rb (m + 6) _ (hr2.alloc _) (by omega)).mono ?_
    rintro e w3 ⟨k', n', p', rfl, hk', hn', hp', hr3, st3⟩
    have a3 := (Own.new w2 (.int .i64 k) (.int .i64 n) (.int .i64 p)).step st3 (by omega)
    have o3 := (o2.alloc _).step st3 hne
    have sw3 := (sw2.trans (Step.alloc rb w2 _)).trans st3
    have hz3 := a3.lt
    have hlt3 := hr3.lt
    clear st3 o2 sw2
    go_wp2_with fail
    refine (pick_any rb (m + 11) 2 _ (by omega) (hr3.alloc _) (by omega)).mono ?_
    rintro e w4 ⟨u, rfl, u0, u1, -, hr4, st4⟩
    have b4 := (Own.new w3 (.int .i64 k') (.int .i64 n') (.int .i64 p')).step st4 (by omega)
    have a4 := (a3.alloc _).step st4 (by omega)
    have o4 := (o3.alloc _).step st4 hne
    have sw4 := (sw3.trans (Step.alloc rb w3 _)).trans st4
    have hz4 := b4.lt
    clear st4 a3 o3 sw3 u1
    go_upto_if 39 with fail
    go_cut [] from 38 to 43 (fun wx => Two w rb (m + 22) w.heap.size w2.heap.size w3.heap.size wx)
    case first =>
      by_cases hu : u = 0
      · subst hu
        go_wp2_with fail
        refine (l3Real_any rb (m + 12) _ hr4 (by omega)).mono ?_
        rintro e w5 ⟨ka, na, pa, rfl, hka, hna, hpa, hr5, st5⟩
        have a5 := a4.step st5 (by omega)
        have b5 := b4.step st5 (by omega)
        have o5 := o4.step st5 hne
        have sw5 := sw4.trans st5
        have hz5 := b5.lt
        clear st5 a4 b4 o4 sw4
        have a5' := a5
        obtain ⟨⟨a0, a1, a2⟩, y0, y1, y2⟩ := a5'
        go_wp2_with fail
        refine (l3Real_any rb (m + 17) _ (hr5.set3 hlt2 (Nat.le_refl _)) (by omega)).mono ?_
        rintro e w6 ⟨kb, nb, pb, rfl, hkb, hnb, hpb, hr6, st6⟩
        have a6 := (a5.put (.int .i64 ka) (.int .i64 na) (.int .i64 pa)).step st6 (by omega)
        have b6 := (((b5.set (c := w2.heap.size) (i := 0) (v := .int .i64 ka) (by omega)).set (c := w2.heap.size) (i := 1) (v := .int .i64 na) (by omega)).set (c := w2.heap.size) (i := 2) (v := .int .i64 pa) (by omega)).step st6 (by omega)
        have o6 := (((o5.set (c := w2.heap.size) (i := 0) (v := .int .i64 ka) (by omega)).set (c := w2.heap.size) (i := 1) (v := .int .i64 na) (by omega)).set (c := w2.heap.size) (i := 2) (v := .int .i64 pa) (by omega)).step st6 hne
        have sw6 := (sw5.set3 (c := w2.heap.size) (x := .int .i64 ka) (y := .int .i64 na) (z := .int .i64 pa) (by omega)).trans st6
        have hz6 := b6.lt
        clear st6 a5 b5 o5 sw5 a0 a1 a2 y0 y1 y2
        have b6' := b6
        obtain ⟨⟨a0, a1, a2⟩, y0, y1, y2⟩ := b6'
        have HT : Hid (Two w rb (m + 22) w.heap.size w2.heap.size w3.heap.size (((w6.setCell ⟨w3.heap.size, 0, none⟩ (.int .i64 kb)).setCell ⟨w3.heap.size, 1, none⟩ (.int .i64 nb)).setCell ⟨w3.heap.size, 2, none⟩ (.int .i64 pb))) :=
          ⟨ka, na, pa, kb, nb, pb, hka, hna, hpa, hkb, hnb, hpb, (((a6.set (c := w3.heap.size) (i := 0) (v := .int .i64 kb) (by omega)).set (c := w3.heap.size) (i := 1) (v := .int .i64 nb) (by omega)).set (c := w3.heap.size) (i := 2) (v := .int .i64 pb) (by omega)), b6.put _ _ _, (((o6.set (c := w3.heap.size) (i := 0) (v := .int .i64 kb) (by omega)).set (c := w3.heap.size) (i := 1) (v := .int .i64 nb) (by omega)).set (c := w3.heap.size) (i := 2) (v := .int .i64 pb) (by omega)), hr6.set3 hlt3 (Nat.le_refl _), sw6.set3 (by omega)⟩
        go_wp2_with fail
        go_meet
        exact HT.out
      · have hu' : (u == 0) = false := by simpa using hu
        clear hu
        have HT : Hid (Two w rb (m + 22) w.heap.size w2.heap.size w3.heap.size w4) := ⟨k, n, p, k', n', p', hk, hn, hp, hk', hn', hp', a4, b4, o4, hr4.mono (by omega), sw4⟩
        go_wp2_with fail
        go_meet
        exact HT.out
    case rest =>
    obtain ⟨ka, na, pa, kb, nb, pb, hka, hna, hpa, hkb, hnb, hpb, a5, b5, o5, hr5, sw5⟩ := hcut
    clear a4 b4 o4 sw4
    go_wp2_with fail
    refine (pick_any rb (m + 22) 4 _ (by omega) hr5 (by omega)).mono ?_
    rintro e w7 ⟨v, rfl, v0, v1, -, hr7, st7⟩
    have a7 := a5.step st7 (by omega)
    have b7 := b5.step st7 (by omega)
    have o7 := o5.step st7 hne
    have sw7 := sw5.trans st7
    clear st7 a5 b5 o5 sw5
    go_upto_if 46 with fail
    go_cut [] from 45 to 47 (fun wx => Two w rb (m + 23) w.heap.size w2.heap.size w3.heap.size wx)
    case first =>
      by_cases hv : v = 0
      · subst hv
        have b7' := b7
        obtain ⟨⟨b0, b1, b2⟩, x0, x1, x2⟩ := b7'
        have a7' := a7
        obtain ⟨⟨a0, a1, a2⟩, -⟩ := a7'
        have HT : Hid (Two w rb (m + 23) w.heap.size w2.heap.size w3.heap.size (((w7.setCell ⟨w3.heap.size, 0, none⟩ (.int .i64 ka)).setCell ⟨w3.heap.size, 1, none⟩ (.int .i64 na)).setCell ⟨w3.heap.size, 2, none⟩ (.int .i64 pa))) :=
          ⟨ka, na, pa, ka, na, pa, hka, hna, hpa, hka, hna, hpa, (((a7.set (c := w3.heap.size) (i := 0) (v := .int .i64 ka) (by omega)).set (c := w3.heap.size) (i := 1) (v := .int .i64 na) (by omega)).set (c := w3.heap.size) (i := 2) (v := .int .i64 pa) (by omega)), b7.put _ _ _, (((o7.set (c := w3.heap.size) (i := 0) (v := .int .i64 ka) (by omega)).set (c := w3.heap.size) (i := 1) (v := .int .i64 na) (by omega)).set (c := w3.heap.size) (i := 2) (v := .int .i64 pa) (by omega)), hr7.set3 hlt3 (Nat.le_refl _), sw7.set3 (by omega)⟩
        go_wp2_with fail
        go_meet
        exact HT.out
      · have hv' : (v == 0) = false := by simpa using hv
        clear hv
        have HT : Hid (Two w rb (m + 23) w.heap.size w2.heap.size w3.heap.size w7) := ⟨ka, na, pa, kb, nb, pb, hka, hna, hpa, hkb, hnb, hpb, a7, b7, o7, hr7, sw7⟩
        go_wp2_with fail
        go_meet
        exact HT.out
    case rest =>
    obtain ⟨k8, n8, p8, kc, nc, pc, hk8, hn8, hp8, hkc, hnc, hpc, a8, b8, o8, hr8, sw8⟩ := hcut
    have hzb := b8.lt
    clear a7 b7 o7 sw7
    obtain ⟨⟨a0, a1, a2⟩, -⟩ := a8
    obtain ⟨⟨b0, b1, b2⟩, -⟩ := b8
    have hz8 : w.heap.size < wc.heap.size := o8.lt
    go_wp2
    go_region_with (go_at_call 21; refine (pick_any rb (m + 23) 6 _ (by omega) ?_ (by omega)).mono ?_; (first | exact hr8.drew | exact (hr8.alloc _).drew); rintro e w9 ⟨v9, rfl, v90, v91, -, hr9, st9⟩; have v91 : v9 < 6 := v91 (by omega); have hwr : IntKind.i64.wrap (5 + v9) = 5 + v9 := (by rw [IntKind.wrap_i64]; omega); first | (have st9' : Step rb wc w9 := (Step.drew rb wc).trans st9; have form1 : True := trivial; have c0 := (st9'.cell w2.heap.size 0 (by omega) (by omega)).trans a0; have c1 := (st9'.cell w2.heap.size 1 (by omega) (by omega)).trans a1; have c2 := (st9'.cell w2.heap.size 2 (by omega) (by omega)).trans a2; have d0 := (st9'.cell w3.heap.size 0 (by omega) (by omega)).trans b0; have d1 := (st9'.cell w3.heap.size 1 (by omega) (by omega)).trans b1; have d2 := (st9'.cell w3.heap.size 2 (by omega) (by omega)).trans b2; have o9 := o8.step st9' hne; have hz9 := o9.lt; have o9c := o9; obtain ⟨⟨o90, o91⟩, z90, z91⟩ := o9c) | (have st9' := (Step.alloc rb wc _).trans ((Step.drew rb _).trans st9); have form2 : True := trivial; have o9 := o8.step st9' hne; have hz9 := o9.lt; have o9c := o9; obtain ⟨⟨o90, o91⟩, z90, z91⟩ := o9c))
    all_goals (try go_wp2)
    all_goals first
      | (have := form1; exact bodyPost_ret (v := .agg #[.int .i64 (5 + v9), .slice (some ⟨w9.heap.size, 0, none⟩) 2 2]) (resElem (b := w.heap.size) Tryd.results78 rfl ((o9.put _ _).alloc _).1) rfl (edrawn_lit (ys := [(k8, n8, p8), (kc, nc, pc)]) hlt hr9 (by omega) (sw8.trans st9') hz9 (by unfold Sm; omega) (smC ⟨hk8, hn8, hp8⟩ (sm1 hkc hnc hpc)) (by simp)))
      | (have := form2; exact bodyPost_ret (v := .agg #[.int .i64 (5 + v9), .slice (some ⟨wc.heap.size, 0, none⟩) 2 2]) (resElem (b := w.heap.size) Tryd.results78 rfl (o9.put _ _).1) rfl (edrawn_mid (ys := [(k8, n8, p8), (kc, nc, pc)]) hlt hr9 (by omega) sw8 hz8 ((Step.drew rb _).trans st9) (by unfold Sm; omega) (smC ⟨hk8, hn8, hp8⟩ (sm1 hkc hnc hpc)) (by simp)))
  · have ht : t = 0 ∨ t = 1 ∨ t = 2 ∨ t = 3 ∨ t = 4 ∨ t = 5 := by omega
    clear h6 t1
    rcases ht with rfl | rfl | rfl | rfl | rfl | rfl
    · go_wp2_with fail
      refine (l3Bit_any rb (m + 1) _ hr1 (by omega)).mono ?_
      rintro e w2 ⟨k, n, p, rfl, hk, hn, hp, hr2, st2⟩
      have o2 := oa.step st2 hne
      have hz := o2.lt
      have o2c := o2
      obtain ⟨⟨o0, o1⟩, z0, z1⟩ := o2c
      go_wp2
      exact bodyPost_ret (v := .agg #[.int .i64 1, .slice (some ⟨w2.heap.size, 0, none⟩) 1 1]) (resElem (b := w.heap.size) Tryd.results78 rfl ((o2.put _ _).alloc _).1) rfl (edrawn_lit (ys := [(k, n, p)]) hlt hr2 (by omega) (sw.trans st2) hz (by unfold Sm; omega) (sm1 hk hn hp) (by simp))
    · go_wp2_with fail
      refine (l3Bit_any rb (m + 1) _ hr1 (by omega)).mono ?_
      rintro e w2 ⟨k, n, p, rfl, hk, hn, hp, hr2, st2⟩
      have o2 := oa.step st2 hne
      have hz := o2.lt
      have o2c := o2
      obtain ⟨⟨o0, o1⟩, z0, z1⟩ := o2c
      go_wp2
      exact bodyPost_ret (v := .agg #[.int .i64 1, .slice (some ⟨w2.heap.size, 0, none⟩) 1 1]) (resElem (b := w.heap.size) Tryd.results78 rfl ((o2.put _ _).alloc _).1) rfl (edrawn_lit (ys := [(k, n, p)]) hlt hr2 (by omega) (sw.trans st2) hz (by unfold Sm; omega) (sm1 hk hn hp) (by simp))
    · go_wp2_with fail
      refine (l3Bit_any rb (m + 1) _ hr1 (by omega)).mono ?_
      rintro e w2 ⟨k, n, p, rfl, hk, hn, hp, hr2, st2⟩
      have o2 := oa.step st2 hne
      have hz := o2.lt
      have o2c := o2
      obtain ⟨⟨o0, o1⟩, z0, z1⟩ := o2c
      go_wp2
      exact bodyPost_ret (v := .agg #[.int .i64 1, .slice (some ⟨w2.heap.size, 0, none⟩) 1 1]) (resElem (b := w.heap.size) Tryd.results78 rfl ((o2.put _ _).alloc _).1) rfl (edrawn_lit (ys := [(k, n, p)]) hlt hr2 (by omega) (sw.trans st2) hz (by unfold Sm; omega) (sm1 hk hn hp) (by simp))
    · go_wp2_with fail
      refine (l3Bit_any rb (m + 1) _ hr1 (by omega)).mono ?_
      rintro e w2 ⟨k, n, p, rfl, hk, hn, hp, hr2, st2⟩
      have o2 := oa.step st2 hne
      have hz := o2.lt
      have o2c := o2
      obtain ⟨⟨o0, o1⟩, z0, z1⟩ := o2c
      go_wp2
      exact bodyPost_ret (v := .agg #[.int .i64 2, .slice (some ⟨w2.heap.size, 0, none⟩) 1 1]) (resElem (b := w.heap.size) Tryd.results78 rfl ((o2.put _ _).alloc _).1) rfl (edrawn_lit (ys := [(k, n, p)]) hlt hr2 (by omega) (sw.trans st2) hz (by unfold Sm; omega) (sm1 hk hn hp) (by simp))
    · go_wp2_with fail
      refine (l3Bit_any rb (m + 1) _ hr1 (by omega)).mono ?_
      rintro e w2 ⟨k, n, p, rfl, hk, hn, hp, hr2, st2⟩
      have o2 := oa.step st2 hne
      have hz := o2.lt
      have o2c := o2
      obtain ⟨⟨o0, o1⟩, z0, z1⟩ := o2c
      go_wp2
      exact bodyPost_ret (v := .agg #[.int .i64 2, .slice (some ⟨w2.heap.size, 0, none⟩) 1 1]) (resElem (b := w.heap.size) Tryd.results78 rfl ((o2.put _ _).alloc _).1) rfl (edrawn_lit (ys := [(k, n, p)]) hlt hr2 (by omega) (sw.trans st2) hz (by unfold Sm; omega) (sm1 hk hn hp) (by simp))
    · go_wp2_with fail
      refine (pick_any rb (m + 1) 2 _ (by omega) hr1 (by omega)).mono ?_
      rintro e w2 ⟨u, rfl, u0, u1, -, hr2, st2⟩
      have u1 : u < 2 := u1 (by omega)
      go_wp2_with fail
      refine (l3Bit_any rb (m + 2) _ hr2 (by omega)).mono ?_
      rintro e w3 ⟨k, n, p, rfl, hk, hn, hp, hr3, st3⟩
      go_wp2_with fail
      refine (arg_any rb (m + 7) 5 _ hr3 (by omega) (by unfold Sm; omega)).mono ?_
      rintro e w4 ⟨kb, nb, pb, rfl, hkb, hnb, hpb, hr4, st4⟩
      have o4 := ((oa.step st2 hne).step st3 hne).step st4 hne
      have hz := o4.lt
      have o4c := o4
      obtain ⟨⟨o0, o1⟩, z0, z1⟩ := o4c
      go_wp2
      exact bodyPost_ret (v := .agg #[.int .i64 (3 + u), .slice (some ⟨w4.heap.size, 0, none⟩) 2 2]) (resElem (b := w.heap.size) Tryd.results78 rfl ((o4.put _ _).alloc _).1) rfl (edrawn_lit (ys := [(k, n, p), (kb, nb, pb)]) hlt hr4 (by omega) (((sw.trans st2).trans st3).trans st4) hz (by unfold Sm; omega) (smC ⟨hk, hn, hp⟩ (sm1 hkb hnb hpb)) (by simp))
end Go.Proofs.YtleopmhllbaalabDoor
