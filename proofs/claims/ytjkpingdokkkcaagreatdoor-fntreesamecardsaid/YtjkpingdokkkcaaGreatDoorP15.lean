/- The drawing of contacts: l3Contact. Helper text: no statement is claimed here. -/
import Derived.Test.YtjkpingdokkkcaaGreatDoorP14
import Derived.Deep.RegionWith
import Derived.Deep.CutRange
import Derived.Test.YtjkpingdokkkcaaGreatDoorP13
namespace Go.Proofs.YtjkpingdokkkcaaGreatDoor
open Go.ChangeShapes Go.WideShapes Go.ChangeAt Go.RowKit

/-- Two operands of the call's own, and its result, in memory. -/
def Two (w : World) (rb m O A B : Nat) (W : World) : Prop := ∃ k n p kb nb pb : Int, Sm k ∧ Sm n ∧ Sm p ∧ Sm kb ∧ Sm nb ∧ Sm pb ∧ Own W A (.int .i64 k) (.int .i64 n) (.int .i64 p) ∧ Own W B (.int .i64 kb) (.int .i64 nb) (.int .i64 pb) ∧
  Own2 W O (.int .i64 0) (.slice none 0 0) ∧ Rd W rb m ∧ Step rb w W

set_option maxHeartbeats 2000000 in
theorem l3Contact_any (rb m : Nat) (w : World) (hr : Rd w rb m) (hm : m ≤ 650000) :
    Calls Tryz.prog 26 #[.pointer (some ⟨rb, 0, none⟩)] w (EDrawn 3 rb (m + 30) w) := by
  have hlt := hr.lt
  have hne : w.heap.size ≠ rb := by omega
  go_enter Tryz.func26, Tryz.ntmps26
  go_wp2_with fail
  refine (pick_any rb m 8 _ (by omega) (hr.alloc _) (by omega)).mono ?_
  rintro e w1 ⟨t, rfl, t0, t1, -, hr1, st⟩
  have t1 : t < 8 := t1 (by omega)
  have oa := (Own2.new w (.int .i64 0) (.slice none 0 0)).step st hne
  have sw : Step rb w w1 := (Step.alloc rb w _).trans st
  clear st
  by_cases h6 : 6 ≤ t
  · have q0 : (t == 0) = false := by simp; omega
    have q1 : (t == 1) = false := by simp; omega
    have q2 : (t == 2) = false := by simp; omega
    have q3 : (t == 3) = false := by simp; omega
    have q4 : (t == 4) = false := by simp; omega
    have q5 : (t == 5) = false := by simp; omega
    clear h6 t0 t1
    go_wp2_with fail
    refine (l3Whole_any rb (m + 1) _ hr1 (by omega)).mono ?_
    rintro e w2 ⟨k, n, p, rfl, hk, hn, hp, hr2, st2⟩
    have o2 := oa.step st2 hne
    have sw2 := sw.trans st2
    have hz2 := o2.lt
    have hlt2 := hr2.lt
    clear st2 oa sw
    go_wp2_with fail
    refine (l3Whole_any rb (m + 6) _ (hr2.alloc _) (by omega)).mono ?_
    rintro e w3 ⟨k', n', p', rfl, hk', hn', hp', hr3, st3⟩
    have a3 := (Own.new w2 (.int .i64 k) (.int .i64 n) (.int .i64 p)).step st3 (by omega)
    have o3 := (o2.alloc _).step st3 hne
    have sw3 := (sw2.trans (Step.alloc rb w2 _)).trans st3
    have hz3 := a3.lt
    have hlt3 := hr3.lt
    clear st3 o2 sw2
    go_wp2_with fail
    refine (pick_any rb (m + 11) 2 _ (by omega) (hr3.alloc _) (by omega)).mono ?_
    rintro e w4 ⟨u, rfl, u0, u1, -, hr4, st4⟩
    have b4 := (Own.new w3 (.int .i64 k') (.int .i64 n') (.int .i64 p')).step st4 (by omega)
    have a4 := (a3.alloc _).step st4 (by omega)
    have o4 := (o3.alloc _).step st4 hne
    have sw4 := (sw3.trans (Step.alloc rb w3 _)).trans st4
    have hz4 := b4.lt
    clear st4 a3 o3 sw3 u1
    go_upto_if 39 with fail
    go_cut [] from 38 to 43 (fun wx => Two w rb (m + 22) w.heap.size w2.heap.size w3.heap.size wx)
    case first =>
      by_cases hu : u = 0
      · subst hu
        go_wp2_with fail
        refine (l3Real_any rb (m + 12) _ hr4 (by omega)).mono ?_
        rintro e w5 ⟨ka, na, pa, rfl, hka, hna, hpa, hr5, st5⟩
        have a5 := a4.step st5 (by omega)
        have b5 := b4.step st5 (by omega)
        have o5 := o4.step st5 hne
        have sw5 := sw4.trans st5
        have hz5 := b5.lt
        clear st5 a4 b4 o4 sw4
        have a5' := a5
        obtain ⟨⟨a0, a1, a2⟩, y0, y1, y2⟩ := a5'
        go_wp2_with fail
        refine (l3Real_any rb (m + 17) _ (hr5.set3 hlt2 (Nat.le_refl _)) (by omega)).mono ?_
        rintro e w6 ⟨kb, nb, pb, rfl, hkb, hnb, hpb, hr6, st6⟩
        have a6 := (a5.put (.int .i64 ka) (.int .i64 na) (.int .i64 pa)).step st6 (by omega)
        have b6 := (((b5.set (c := w2.heap.size) (i := 0) (v := .int .i64 ka) (by omega)).set (c := w2.heap.size) (i := 1) (v := .int .i64 na) (by omega)).set (c := w2.heap.size) (i := 2) (v := .int .i64 pa) (by omega)).step st6 (by omega)
        have o6 := (((o5.set (c := w2.heap.size) (i := 0) (v := .int .i64 ka) (by omega)).set (c := w2.heap.size) (i := 1) (v := .int .i64 na) (by omega)).set (c := w2.heap.size) (i := 2) (v := .int .i64 pa) (by omega)).step st6 hne
        have sw6 := (sw5.set3 (c := w2.heap.size) (x := .int .i64 ka) (y := .int .i64 na) (z := .int .i64 pa) (by omega)).trans st6
        have hz6 := b6.lt
        clear st6 a5 b5 o5 sw5 a0 a1 a2 y0 y1 y2
        have b6' := b6
        obtain ⟨⟨a0, a1, a2⟩, y0, y1, y2⟩ := b6'
        have HT : Hid (Two w rb (m + 22) w.heap.size w2.heap.size w3.heap.size (((w6.setCell ⟨w3.heap.size, 0, none⟩ (.int .i64 kb)).setCell ⟨w3.heap.size, 1, none⟩ (.int .i64 nb)).setCell ⟨w3.heap.size, 2, none⟩ (.int .i64 pb))) :=
          ⟨ka, na, pa, kb, nb, pb, hka, hna, hpa, hkb, hnb, hpb, (((a6.set (c := w3.heap.size) (i := 0) (v := .int .i64 kb) (by omega)).set (c := w3.heap.size) (i := 1) (v := .int .i64 nb) (by omega)).set (c := w3.heap.size) (i := 2) (v := .int .i64 pb) (by omega)), b6.put _ _ _, (((o6.set (c := w3.heap.size) (i := 0) (v := .int .i64 kb) (by omega)).set (c := w3.heap.size) (i := 1) (v := .int .i64 nb) (by omega)).set (c := w3.heap.size) (i := 2) (v := .int .i64 pb) (by omega)), hr6.set3 hlt3 (Nat.le_refl _), sw6.set3 (by omega)⟩
        go_wp2_with fail
        go_meet
        exact HT.out
      · have hu' : (u == 0) = false := by simpa using hu
        clear hu
        have HT : Hid (Two w rb (m + 22) w.heap.size w2.heap.size w3.heap.size w4) := ⟨k, n, p, k', n', p', hk, hn, hp, hk', hn', hp', a4, b4, o4, hr4.mono (by omega), sw4⟩
        go_wp2_with fail
        go_meet
        exact HT.out
    case rest =>
    obtain ⟨ka, na, pa, kb, nb, pb, hka, hna, hpa, hkb, hnb, hpb, a5, b5, o5, hr5, sw5⟩ := hcut
    clear a4 b4 o4 sw4
    go_wp2_with fail
    refine (pick_any rb (m + 22) 4 _ (by omega) hr5 (by omega)).mono ?_
    rintro e w7 ⟨v, rfl, v0, v1, -, hr7, st7⟩
    have a7 := a5.step st7 (by omega)
    have b7 := b5.step st7 (by omega)
    have o7 := o5.step st7 hne
    have sw7 := sw5.trans st7
    clear st7 a5 b5 o5 sw5
    go_upto_if 46 with fail
    go_cut [] from 45 to 47 (fun wx => Two w rb (m + 23) w.heap.size w2.heap.size w3.heap.size wx)
    case first =>
      by_cases hv : v = 0
      · subst hv
        have b7' := b7
        obtain ⟨⟨b0, b1, b2⟩, x0, x1, x2⟩ := b7'
        have a7' := a7
        obtain ⟨⟨a0, a1, a2⟩, -⟩ := a7'
        have HT : Hid (Two w rb (m + 23) w.heap.size w2.heap.size w3.heap.size (((w7.setCell ⟨w3.heap.size, 0, none⟩ (.int .i64 ka)).setCell ⟨w3.heap.size, 1, none⟩ (.int .i64 na)).setCell ⟨w3.heap.size, 2, none⟩ (.int .i64 pa))) :=
          ⟨ka, na, pa, ka, na, pa, hka, hna, hpa, hka, hna, hpa, (((a7.set (c := w3.heap.size) (i := 0) (v := .int .i64 ka) (by omega)).set (c := w3.heap.size) (i := 1) (v := .int .i64 na) (by omega)).set (c := w3.heap.size) (i := 2) (v := .int .i64 pa) (by omega)), b7.put _ _ _, (((o7.set (c := w3.heap.size) (i := 0) (v := .int .i64 ka) (by omega)).set (c := w3.heap.size) (i := 1) (v := .int .i64 na) (by omega)).set (c := w3.heap.size) (i := 2) (v := .int .i64 pa) (by omega)), hr7.set3 hlt3 (Nat.le_refl _), sw7.set3 (by omega)⟩
        go_wp2_with fail
        go_meet
        exact HT.out
      · have hv' : (v == 0) = false := by simpa using hv
        clear hv
        have HT : Hid (Two w rb (m + 23) w.heap.size w2.heap.size w3.heap.size w7) := ⟨ka, na, pa, kb, nb, pb, hka, hna, hpa, hkb, hnb, hpb, a7, b7, o7, hr7, sw7⟩
        go_wp2_with fail
        go_meet
        exact HT.out
    case rest =>
    obtain ⟨k8, n8, p8, kc, nc, pc, hk8, hn8, hp8, hkc, hnc, hpc, a8, b8, o8, hr8, sw8⟩ := hcut
    have hzb := b8.lt
    clear a7 b7 o7 sw7
    obtain ⟨⟨a0, a1, a2⟩, -⟩ := a8
    obtain ⟨⟨b0, b1, b2⟩, -⟩ := b8
    have hz8 : w.heap.size < wc.heap.size := o8.lt
    go_wp2
    go_region_with (go_at_call 13; refine (pick_any rb (m + 23) 6 _ (by omega) ?_ (by omega)).mono ?_; (first | exact hr8.drew | exact (hr8.alloc _).drew); rintro e w9 ⟨v9, rfl, v90, v91, -, hr9, st9⟩; have v91 : v9 < 6 := v91 (by omega); have hwr : IntKind.i64.wrap (5 + v9) = 5 + v9 := (by rw [IntKind.wrap_i64]; omega); first | (have st9' : Step rb wc w9 := (Step.drew rb wc).trans st9; have form1 : True := trivial; have c0 := (st9'.cell w2.heap.size 0 (by omega) (by omega)).trans a0; have c1 := (st9'.cell w2.heap.size 1 (by omega) (by omega)).trans a1; have c2 := (st9'.cell w2.heap.size 2 (by omega) (by omega)).trans a2; have d0 := (st9'.cell w3.heap.size 0 (by omega) (by omega)).trans b0; have d1 := (st9'.cell w3.heap.size 1 (by omega) (by omega)).trans b1; have d2 := (st9'.cell w3.heap.size 2 (by omega) (by omega)).trans b2; have o9 := o8.step st9' hne; have hz9 := o9.lt; have o9c := o9; obtain ⟨⟨o90, o91⟩, z90, z91⟩ := o9c) | (have st9' := (Step.alloc rb wc _).trans ((Step.drew rb _).trans st9); have form2 : True := trivial; have o9 := o8.step st9' hne; have hz9 := o9.lt; have o9c := o9; obtain ⟨⟨o90, o91⟩, z90, z91⟩ := o9c))
    all_goals (try go_wp2)
    all_goals first
      | (have := form1; exact bodyPost_ret (v := .agg #[.int .i64 (5 + v9), .slice (some ⟨w9.heap.size, 0, none⟩) 2 2]) (resElem (b := w.heap.size) Tryz.results26 rfl ((o9.put _ _).alloc _).1) rfl (edrawn_lit (ys := [(k8, n8, p8), (kc, nc, pc)]) hlt hr9 (by omega) (sw8.trans st9') hz9 (by unfold Sm; omega) (smC ⟨hk8, hn8, hp8⟩ (sm1 hkc hnc hpc)) (by simp)))
      | (have := form2; exact bodyPost_ret (v := .agg #[.int .i64 (5 + v9), .slice (some ⟨wc.heap.size, 0, none⟩) 2 2]) (resElem (b := w.heap.size) Tryz.results26 rfl (o9.put _ _).1) rfl (edrawn_mid (ys := [(k8, n8, p8), (kc, nc, pc)]) hlt hr9 (by omega) sw8 hz8 ((Step.drew rb _).trans st9) (by unfold Sm; omega) (smC ⟨hk8, hn8, hp8⟩ (sm1 hkc hnc hpc)) (by simp)))
  · have ht : t = 0 ∨ t = 1 ∨ t = 2 ∨ t = 3 ∨ t = 4 ∨ t = 5 := by omega
    clear h6 t1
    rcases ht with rfl | rfl | rfl | rfl | rfl | rfl
    · go_wp2_with fail
      refine (l3Bit_any rb (m + 1) _ hr1 (by omega)).mono ?_
      rintro e w2 ⟨k, n, p, rfl, hk, hn, hp, hr2, st2⟩
      have o2 := oa.step st2 hne
      have hz := o2.lt
      have o2c := o2
      obtain ⟨⟨o0, o1⟩, z0, z1⟩ := o2c
      go_wp2
      exact bodyPost_ret (v := .agg #[.int .i64 1, .slice (some ⟨w2.heap.size, 0, none⟩) 1 1]) (resElem (b := w.heap.size) Tryz.results26 rfl ((o2.put _ _).alloc _).1) rfl (edrawn_lit (ys := [(k, n, p)]) hlt hr2 (by omega) (sw.trans st2) hz (by unfold Sm; omega) (sm1 hk hn hp) (by simp))
    · go_wp2_with fail
      refine (l3Bit_any rb (m + 1) _ hr1 (by omega)).mono ?_
      rintro e w2 ⟨k, n, p, rfl, hk, hn, hp, hr2, st2⟩
      have o2 := oa.step st2 hne
      have hz := o2.lt
      have o2c := o2
      obtain ⟨⟨o0, o1⟩, z0, z1⟩ := o2c
      go_wp2
      exact bodyPost_ret (v := .agg #[.int .i64 1, .slice (some ⟨w2.heap.size, 0, none⟩) 1 1]) (resElem (b := w.heap.size) Tryz.results26 rfl ((o2.put _ _).alloc _).1) rfl (edrawn_lit (ys := [(k, n, p)]) hlt hr2 (by omega) (sw.trans st2) hz (by unfold Sm; omega) (sm1 hk hn hp) (by simp))
    · go_wp2_with fail
      refine (l3Bit_any rb (m + 1) _ hr1 (by omega)).mono ?_
      rintro e w2 ⟨k, n, p, rfl, hk, hn, hp, hr2, st2⟩
      have o2 := oa.step st2 hne
      have hz := o2.lt
      have o2c := o2
      obtain ⟨⟨o0, o1⟩, z0, z1⟩ := o2c
      go_wp2
      exact bodyPost_ret (v := .agg #[.int .i64 1, .slice (some ⟨w2.heap.size, 0, none⟩) 1 1]) (resElem (b := w.heap.size) Tryz.results26 rfl ((o2.put _ _).alloc _).1) rfl (edrawn_lit (ys := [(k, n, p)]) hlt hr2 (by omega) (sw.trans st2) hz (by unfold Sm; omega) (sm1 hk hn hp) (by simp))
    · go_wp2_with fail
      refine (l3Bit_any rb (m + 1) _ hr1 (by omega)).mono ?_
      rintro e w2 ⟨k, n, p, rfl, hk, hn, hp, hr2, st2⟩
      have o2 := oa.step st2 hne
      have hz := o2.lt
      have o2c := o2
      obtain ⟨⟨o0, o1⟩, z0, z1⟩ := o2c
      go_wp2
      exact bodyPost_ret (v := .agg #[.int .i64 2, .slice (some ⟨w2.heap.size, 0, none⟩) 1 1]) (resElem (b := w.heap.size) Tryz.results26 rfl ((o2.put _ _).alloc _).1) rfl (edrawn_lit (ys := [(k, n, p)]) hlt hr2 (by omega) (sw.trans st2) hz (by unfold Sm; omega) (sm1 hk hn hp) (by simp))
    · go_wp2_with fail
      refine (l3Bit_any rb (m + 1) _ hr1 (by omega)).mono ?_
      rintro e w2 ⟨k, n, p, rfl, hk, hn, hp, hr2, st2⟩
      have o2 := oa.step st2 hne
      have hz := o2.lt
      have o2c := o2
      obtain ⟨⟨o0, o1⟩, z0, z1⟩ := o2c
      go_wp2
      exact bodyPost_ret (v := .agg #[.int .i64 2, .slice (some ⟨w2.heap.size, 0, none⟩) 1 1]) (resElem (b := w.heap.size) Tryz.results26 rfl ((o2.put _ _).alloc _).1) rfl (edrawn_lit (ys := [(k, n, p)]) hlt hr2 (by omega) (sw.trans st2) hz (by unfold Sm; omega) (sm1 hk hn hp) (by simp))
    · go_wp2_with fail
      refine (pick_any rb (m + 1) 2 _ (by omega) hr1 (by omega)).mono ?_
      rintro e w2 ⟨u, rfl, u0, u1, -, hr2, st2⟩
      have u1 : u < 2 := u1 (by omega)
      go_wp2_with fail
      refine (l3Bit_any rb (m + 2) _ hr2 (by omega)).mono ?_
      rintro e w3 ⟨k, n, p, rfl, hk, hn, hp, hr3, st3⟩
      go_wp2_with fail
      refine (arg_any rb (m + 7) 5 _ hr3 (by omega) (by unfold Sm; omega)).mono ?_
      rintro e w4 ⟨kb, nb, pb, rfl, hkb, hnb, hpb, hr4, st4⟩
      have o4 := ((oa.step st2 hne).step st3 hne).step st4 hne
      have hz := o4.lt
      have o4c := o4
      obtain ⟨⟨o0, o1⟩, z0, z1⟩ := o4c
      go_wp2
      exact bodyPost_ret (v := .agg #[.int .i64 (3 + u), .slice (some ⟨w4.heap.size, 0, none⟩) 2 2]) (resElem (b := w.heap.size) Tryz.results26 rfl ((o4.put _ _).alloc _).1) rfl (edrawn_lit (ys := [(k, n, p), (kb, nb, pb)]) hlt hr4 (by omega) (((sw.trans st2).trans st3).trans st4) hz (by unfold Sm; omega) (smC ⟨hk, hn, hp⟩ (sm1 hkb hnb hpb)) (by simp))
end Go.Proofs.YtjkpingdokkkcaaGreatDoor

/- ElemArity of the document. Helper text: no statement is claimed here. -/
namespace Go.Proofs.YtjkpingdokkkcaaGreatDoor
open Go.ChangeShapes Go.WideShapes Go.ChangeAt Go.RowKit

set_option maxHeartbeats 4000000 in
theorem sArity_any (op : Int) (w : World) :
    Calls Tryz.prog 54 #[.int .i64 op] w fun e w' => e = .returned (.int .i64 ((fm0 (ez op)).length : Nat)) ∧ w' = w := by
  by_cases h : 0 ≤ op ∧ op < 38
  · have : op = 0 ∨ op = 1 ∨ op = 2 ∨ op = 3 ∨ op = 4 ∨ op = 5 ∨ op = 6 ∨ op = 7 ∨ op = 8 ∨ op = 9 ∨ op = 10 ∨ op = 11 ∨ op = 12 ∨ op = 13 ∨ op = 14 ∨ op = 15 ∨ op = 16 ∨ op = 17 ∨ op = 18 ∨ op = 19 ∨ op = 20 ∨ op = 21 ∨ op = 22 ∨ op = 23 ∨ op = 24 ∨ op = 25 ∨ op = 26 ∨ op = 27 ∨ op = 28 ∨ op = 29 ∨ op = 30 ∨ op = 31 ∨ op = 32 ∨ op = 33 ∨ op = 34 ∨ op = 35 ∨ op = 36 ∨ op = 37 := by omega
    rcases this with rfl | rfl | rfl | rfl | rfl | rfl | rfl | rfl | rfl | rfl | rfl | rfl | rfl | rfl | rfl | rfl | rfl | rfl | rfl | rfl | rfl | rfl | rfl | rfl | rfl | rfl | rfl | rfl | rfl | rfl | rfl | rfl | rfl | rfl | rfl | rfl | rfl | rfl
    all_goals
      go_enter Tryz.func54, Tryz.ntmps54
      go_wp2
      go_ret
      exact ⟨rfl, rfl⟩
  · rw [ez_no op (by omega)]
    have n1 : (op == 1) = false := by simp; omega
    have n2 : (op == 2) = false := by simp; omega
    have n21 : (op == 21) = false := by simp; omega
    have n22 : (op == 22) = false := by simp; omega
    have n23 : (op == 23) = false := by simp; omega
    have n25 : (op == 25) = false := by simp; omega
    have n31 : (op == 31) = false := by simp; omega
    have n32 : (op == 32) = false := by simp; omega
    have n33 : (op == 33) = false := by simp; omega
    have n34 : (op == 34) = false := by simp; omega
    have n35 : (op == 35) = false := by simp; omega
    by_cases h1 : op < 0
    · have h2 : ¬ 1 ≤ op := by omega
      have h3 : ¬ 21 ≤ op := by omega
      go_enter Tryz.func54, Tryz.ntmps54
      go_wp2
      go_ret
      exact ⟨rfl, rfl⟩
    · have h2 : 1 ≤ op := by omega
      have h3 : 21 ≤ op := by omega
      have h4 : ¬ op ≤ 10 := by omega
      have h5 : ¬ op ≤ 37 := by omega
      go_enter Tryz.func54, Tryz.ntmps54
      go_wp2
      go_ret
      exact ⟨rfl, rfl⟩

end Go.Proofs.YtjkpingdokkkcaaGreatDoor

/- The drawing of coils: l3Coil. Helper text: no statement is claimed here. -/
namespace Go.Proofs.YtjkpingdokkkcaaGreatDoor
open Go.ChangeShapes Go.WideShapes Go.ChangeAt Go.RowKit

theorem nums_22 (w : World) : Nums (w.alloc (.cells #[.int .i64 21, .int .i64 21, .int .i64 21, .int .i64 22, .int .i64 23, .int .i64 24, .int .i64 25, .int .i64 26, .int .i64 26, .int .i64 27, .int .i64 28, .int .i64 29, .int .i64 29, .int .i64 30, .int .i64 31, .int .i64 31, .int .i64 32, .int .i64 33, .int .i64 34, .int .i64 35, .int .i64 36, .int .i64 37] 3)) w.heap.size 22 := by
  have := nums_mk w [21, 21, 21, 22, 23, 24, 25, 26, 26, 27, 28, 29, 29, 30, 31, 31, 32, 33, 34, 35, 36, 37] 3 (by simp)
  simpa using this
theorem nums_r (w : World) : Nums (w.alloc (.cells #[.int .i64 2, .int .i64 3, .int .i64 4, .int .i64 7, .int .i64 8] 3)) w.heap.size 5 := by
  have := nums_mk w [2, 3, 4, 7, 8] 3 (by simp)
  simpa using this
/-- An operand of the call's own, and the result, in memory. -/
def Two1 (w : World) (rb m O A : Nat) (b0 b1 b2 : Value) (B : Nat) (W : World) : Prop := ∃ k n p : Int, Sm k ∧ Sm n ∧ Sm p ∧ Own W B (.int .i64 k) (.int .i64 n) (.int .i64 p) ∧ Own W A b0 b1 b2 ∧ Own2 W O (.int .i64 0) (.slice none 0 0) ∧ Rd W rb m ∧ Step rb w W
theorem Sm.lit {z : Int} (h1 : -2000000000 ≤ z) (h2 : z ≤ 2000000000) : Sm z := ⟨h1, h2⟩
/-- A coil whose operands are the first ones of a new row. -/
theorem edrawn_cut {rb m m' : Nat} {w w2 : World} {op : Int} {ys : List Ar} {n : Nat} {t : TypeId} (hlt : rb < w.heap.size) (hr : Rd w2 rb m') (hm : m' ≤ m) (sw : Step rb w w2) (hz : w.heap.size < w2.heap.size) (hop : Sm op)
    (hys : ∀ a ∈ ys, Sm a.1 ∧ Sm a.2.1 ∧ Sm a.2.2) (hl : ys.length = 3) (hn : n ≤ 3) :
    EDrawn 3 rb m w (.returned (.agg #[.int .i64 op, .slice (some ⟨w2.heap.size, 0, none⟩) n 3]))
      (((w2.setCell ⟨w.heap.size, 0, none⟩ (.int .i64 op)).setCell ⟨w.heap.size, 1, none⟩ (.slice (some ⟨w2.heap.size, 0, none⟩) n 3)).alloc (.cells (arCells ys).toArray t)) := by
  have hn2 : (ys.take n).length = n := by simp; omega
  refine ⟨op, ys.take n, some ⟨w2.heap.size, 0, none⟩, 3, by rw [hn2], hop, fun a ha => hys a (List.mem_of_mem_take ha), by omega, by omega, .inr ⟨w2.heap.size, rfl, by omega, by simp, ?_⟩, (((hr.mono hm).set _ _ _ hlt).set _ _ _ hlt).alloc _, ((sw.setNew _ _ _ (Nat.le_refl _)).setNew _ _ _ (Nat.le_refl _)).trans (Step.alloc rb _ _)⟩
  intro i hi
  have := argsAt_new ((w2.setCell ⟨w.heap.size, 0, none⟩ (.int .i64 op)).setCell ⟨w.heap.size, 1, none⟩ (.slice (some ⟨w2.heap.size, 0, none⟩) n 3)) ys t i (by omega)
  rw [show at3 (ys.take n) i = at3 ys i by simp [at3, List.getD, show i < n by omega]]
  simpa using this

set_option maxHeartbeats 4000000 in
theorem l3Coil_any (rb m : Nat) (w : World) (hr : Rd w rb m) (hm : m ≤ 650000) :
    Calls Tryz.prog 27 #[.pointer (some ⟨rb, 0, none⟩)] w (EDrawn 3 rb (m + 40) w) := by
  have hlt := hr.lt
  have hne : w.heap.size ≠ rb := by omega
  go_enter Tryz.func27, Tryz.ntmps27
  go_wp2_with fail
  refine (num_any rb m (w.heap.size + 1) 22 _ (by omega) (by omega) ((hr.alloc _).alloc _) (by omega) (by have := nums_22 (w.alloc (.cells #[.int .i64 0, .slice none 0 0] 46)); simpa using this) (by omega)).mono ?_
  rintro e w1 ⟨op, rfl, op0, op1, hr1, st⟩
  have o1 := ((Own2.new w (.int .i64 0) (.slice none 0 0)).alloc _).step st hne
  have sw1 : Step rb w w1 := ((Step.alloc rb w _).trans (Step.alloc rb _ _)).trans st
  have hop : Hid (Sm op) := ⟨op0, op1⟩
  clear st op0 op1
  go_wp2_with fail
  refine (pick_any rb (m + 1) 2 _ (by omega) hr1 (by omega)).mono ?_
  rintro e w2 ⟨u, rfl, u0, u1, -, hr2, st2⟩
  have u1 : u < 2 := u1 (by omega)
  go_wp2_with fail
  refine (arg_any rb (m + 2) (2 + u) _ hr2 (by omega) (by unfold Sm; omega)).mono ?_
  rintro e w3 ⟨ka, na, pa, rfl, hka, hna, hpa, hr3, st3⟩
  have o3 := (o1.step st2 hne).step st3 hne
  have sw3 := (sw1.trans st2).trans st3
  have hz3 := o3.lt
  have hlt3 := hr3.lt
  clear st2 st3 o1 sw1 u0 u1
  go_wp2_with fail
  refine (arg_any rb (m + 6) 11 _ (hr3.alloc _) (by omega) (by unfold Sm; omega)).mono ?_
  rintro e w4 ⟨k', n', p', rfl, hk', hn', hp', hr4, st4⟩
  have a4 := (Own.new w3 (.int .i64 ka) (.int .i64 na) (.int .i64 pa)).step st4 (by omega)
  have o4 := (o3.alloc _).step st4 hne
  have sw4 := (sw3.trans (Step.alloc rb w3 _)).trans st4
  have hz4 := a4.lt
  have hlt4 := hr4.lt
  clear st4 o3 sw3
  have b5 := Own.new w4 (.int .i64 k') (.int .i64 n') (.int .i64 p')
  have a5 := a4.alloc (.cells #[.int .i64 k', .int .i64 n', .int .i64 p'] 27)
  have o5 := o4.alloc (.cells #[.int .i64 k', .int .i64 n', .int .i64 p'] 27)
  have sw5 := sw4.trans (Step.alloc rb w4 (.cells #[.int .i64 k', .int .i64 n', .int .i64 p'] 27))
  have hr5 := hr4.alloc (.cells #[.int .i64 k', .int .i64 n', .int .i64 p'] 27)
  clear a4 o4 sw4
  go_upto_if 20 with fail
  go_cut [] from 19 to 23 (fun wx => Two1 w rb (m + 11) w.heap.size w3.heap.size (.int .i64 ka) (.int .i64 na) (.int .i64 pa) w4.heap.size wx)
  case first =>
    by_cases hn0 : n' < 0
    · go_wp2_with fail
      refine (pick_any rb (m + 10) 9 _ (by omega) hr5 (by omega)).mono ?_
      rintro e w6 ⟨v, rfl, v0, v1, -, hr6, st6⟩
      have v1 : v < 9 := v1 (by omega)
      have b6 := b5.step st6 (by omega)
      have HT : Hid (Two1 w rb (m + 11) w.heap.size w3.heap.size (.int .i64 ka) (.int .i64 na) (.int .i64 pa) w4.heap.size (w6.setCell ⟨w4.heap.size, 1, none⟩ (.int .i64 v))) :=
        ⟨k', v, p', hk', by unfold Sm; omega, hp', b6.set1 _, (a5.step st6 (by omega)).set (by omega), (o5.step st6 hne).set (by omega), hr6.set _ _ _ (by omega), (sw5.trans st6).setNew _ _ _ (by omega)⟩
      obtain ⟨⟨b0, b1, b2⟩, y0, y1, y2⟩ := b6
      go_wp2_with fail
      go_meet
      exact HT.out
    · have HT : Hid (Two1 w rb (m + 11) w.heap.size w3.heap.size (.int .i64 ka) (.int .i64 na) (.int .i64 pa) w4.heap.size (w4.alloc (.cells #[.int .i64 k', .int .i64 n', .int .i64 p'] 27))) :=
        ⟨k', n', p', hk', hn', hp', b5, a5, o5, hr5.mono (by omega), sw5⟩
      go_wp2_with fail
      go_meet
      exact HT.out
  case rest =>
  obtain ⟨kb, nb, pb, hkb, hnb, hpb, b7, a7, o7, hr7, sw7⟩ := hcut
  clear a5 b5 o5 sw5 hr5 hr4 hr3 hr2 hr1
  have hzb := b7.lt
  have hz7 : w.heap.size < wc.heap.size := o7.lt
  have o7c := o7
  obtain ⟨⟨o0, o1⟩, z0, z1⟩ := o7c
  have a7c := a7
  obtain ⟨⟨a0, a1, a2⟩, -⟩ := a7c
  have b7c := b7
  obtain ⟨⟨b0, b1, b2⟩, -⟩ := b7c
  by_cases q21 : op = 21
  · subst q21
    go_wp2
    exact bodyPost_ret (v := .agg #[.int .i64 21, .slice (some ⟨wc.heap.size, 0, none⟩) 1 1]) (resElem (b := w.heap.size) Tryz.results27 rfl ((o7.put _ _).alloc _).1) rfl (edrawn_lit (ys := [(ka, na, pa)]) hlt hr7 (by omega) (sw7) hz7 (by first | exact hop.out | (unfold Sm; omega)) (smC ⟨hka, hna, hpa⟩ (smN)) (by simp))
  have e21 : (op == 21) = false := by simpa using q21
  clear q21
  by_cases q22 : op = 22
  · subst q22
    go_wp2_with fail
    refine (pick_any rb (m + 11) 3 _ (by omega) hr7 (by omega)).mono ?_
    rintro e w8 ⟨v, rfl, v0, v1, -, hr8, st8⟩
    have v1 : v < 3 := v1 (by omega)
    go_wp2_with fail
    refine (arg_any rb (m + 12) (2 + v) _ hr8 (by omega) (by unfold Sm; omega)).mono ?_
    rintro e w9 ⟨k, n, p, rfl, hk, hn, hp, hr9, st9⟩
    have o8 := o7.step st8 hne
    have o9 := o8.step st9 hne
    have hz9 := o9.lt
    have o9c := o9
    obtain ⟨⟨o90, o91⟩, z90, z91⟩ := o9c
    go_wp2
    exact bodyPost_ret (v := .agg #[.int .i64 22, .slice (some ⟨w9.heap.size, 0, none⟩) 1 1]) (resElem (b := w.heap.size) Tryz.results27 rfl ((o9.put _ _).alloc _).1) rfl (edrawn_lit (ys := [(k, n, p)]) hlt hr9 (by omega) ((sw7.trans st8).trans st9) hz9 (by first | exact hop.out | (unfold Sm; omega)) (smC ⟨hk, hn, hp⟩ (smN)) (by simp))
  have e22 : (op == 22) = false := by simpa using q22
  clear q22
  by_cases q23 : op = 23
  · subst q23
    go_wp2_with fail
    refine (num_any rb (m + 11) wc.heap.size 5 _ (by omega) (by omega) (hr7.alloc _) (by omega) (nums_r wc) (by omega)).mono ?_
    rintro e w8 ⟨v, rfl, v0, v1, hr8, st8⟩
    have st8 : Step rb wc w8 := (Step.alloc rb wc _).trans st8
    go_wp2_with fail
    refine (arg_any rb (m + 12) v _ hr8 (by omega) ⟨v0, v1⟩).mono ?_
    rintro e w9 ⟨k, n, p, rfl, hk, hn, hp, hr9, st9⟩
    have o8 := o7.step st8 hne
    have o9 := o8.step st9 hne
    have hz9 := o9.lt
    have o9c := o9
    obtain ⟨⟨o90, o91⟩, z90, z91⟩ := o9c
    go_wp2
    exact bodyPost_ret (v := .agg #[.int .i64 23, .slice (some ⟨w9.heap.size, 0, none⟩) 1 1]) (resElem (b := w.heap.size) Tryz.results27 rfl ((o9.put _ _).alloc _).1) rfl (edrawn_lit (ys := [(k, n, p)]) hlt hr9 (by omega) ((sw7.trans st8).trans st9) hz9 (by first | exact hop.out | (unfold Sm; omega)) (smC ⟨hk, hn, hp⟩ (smN)) (by simp))
  have e23 : (op == 23) = false := by simpa using q23
  clear q23
  by_cases q24 : op = 24
  · subst q24
    go_wp2
    go_region_with (go_at_call 30; refine (arg_any rb (m + 11) 5 _ ?_ (by omega) (by unfold Sm; omega)).mono ?_; exact hr7.drew; rintro e w9 ⟨k, n, p, rfl, hk, hn, hp, hr9, st9⟩; have st9' : Step rb wc w9 := (Step.drew rb wc).trans st9; have c0 := (st9'.cell w3.heap.size 0 (by omega) (by omega)).trans a0; have c1 := (st9'.cell w3.heap.size 1 (by omega) (by omega)).trans a1; have c2 := (st9'.cell w3.heap.size 2 (by omega) (by omega)).trans a2; have o9 := o7.step st9' hne; have hz9 := o9.lt; have o9c := o9; obtain ⟨⟨o90, o91⟩, z90, z91⟩ := o9c)
    all_goals (try go_wp2)
    all_goals exact bodyPost_ret (v := .agg #[.int .i64 24, .slice (some ⟨w9.heap.size, 0, none⟩) 2 2]) (resElem (b := w.heap.size) Tryz.results27 rfl ((o9.put _ _).alloc _).1) rfl (edrawn_lit (ys := [(ka, na, pa), (k, n, p)]) hlt hr9 (by omega) (sw7.trans st9') hz9 (by first | exact hop.out | (unfold Sm; omega)) (smC ⟨hka, hna, hpa⟩ (smC ⟨hk, hn, hp⟩ (smN))) (by simp))
  have e24 : (op == 24) = false := by simpa using q24
  clear q24
  by_cases q25 : op = 25
  · subst q25
    go_wp2_with fail
    refine (arg_any rb (m + 11) 4 _ hr7 (by omega) (by unfold Sm; omega)).mono ?_
    rintro e w9 ⟨k, n, p, rfl, hk, hn, hp, hr9, st9⟩
    have o9 := o7.step st9 hne
    have hz9 := o9.lt
    have o9c := o9
    obtain ⟨⟨o90, o91⟩, z90, z91⟩ := o9c
    go_wp2
    exact bodyPost_ret (v := .agg #[.int .i64 25, .slice (some ⟨w9.heap.size, 0, none⟩) 1 1]) (resElem (b := w.heap.size) Tryz.results27 rfl ((o9.put _ _).alloc _).1) rfl (edrawn_lit (ys := [(k, n, p)]) hlt hr9 (by omega) (sw7.trans st9) hz9 (by first | exact hop.out | (unfold Sm; omega)) (smC ⟨hk, hn, hp⟩ (smN)) (by simp))
  have e25 : (op == 25) = false := by simpa using q25
  clear q25
  by_cases q26 : op = 26
  · subst q26
    go_wp2
    go_region_with (go_at_call 30; refine (arg_any rb (m + 11) 7 _ ?_ (by omega) (by unfold Sm; omega)).mono ?_; exact hr7.drew; rintro e w9 ⟨k, n, p, rfl, hk, hn, hp, hr9, st9⟩; have st9' : Step rb wc w9 := (Step.drew rb wc).trans st9; have c0 := (st9'.cell w4.heap.size 0 (by omega) (by omega)).trans b0; have c1 := (st9'.cell w4.heap.size 1 (by omega) (by omega)).trans b1; have c2 := (st9'.cell w4.heap.size 2 (by omega) (by omega)).trans b2; have o9 := o7.step st9' hne; have hz9 := o9.lt; have o9c := o9; obtain ⟨⟨o90, o91⟩, z90, z91⟩ := o9c)
    all_goals (try go_wp2)
    all_goals exact bodyPost_ret (v := .agg #[.int .i64 26, .slice (some ⟨w9.heap.size, 0, none⟩) 2 2]) (resElem (b := w.heap.size) Tryz.results27 rfl ((o9.put _ _).alloc _).1) rfl (edrawn_lit (ys := [(k, n, p), (kb, nb, pb)]) hlt hr9 (by omega) (sw7.trans st9') hz9 (by first | exact hop.out | (unfold Sm; omega)) (smC ⟨hk, hn, hp⟩ (smC ⟨hkb, hnb, hpb⟩ (smN))) (by simp))
  have e26 : (op == 26) = false := by simpa using q26
  clear q26
  by_cases q27 : op = 27
  · subst q27
    go_wp2
    go_region_with (go_at_call 30; refine (arg_any rb (m + 11) 7 _ ?_ (by omega) (by unfold Sm; omega)).mono ?_; exact hr7.drew; rintro e w9 ⟨k, n, p, rfl, hk, hn, hp, hr9, st9⟩; have st9' : Step rb wc w9 := (Step.drew rb wc).trans st9; have c0 := (st9'.cell w4.heap.size 0 (by omega) (by omega)).trans b0; have c1 := (st9'.cell w4.heap.size 1 (by omega) (by omega)).trans b1; have c2 := (st9'.cell w4.heap.size 2 (by omega) (by omega)).trans b2; have o9 := o7.step st9' hne; have hz9 := o9.lt; have o9c := o9; obtain ⟨⟨o90, o91⟩, z90, z91⟩ := o9c)
    all_goals (try go_wp2)
    all_goals exact bodyPost_ret (v := .agg #[.int .i64 27, .slice (some ⟨w9.heap.size, 0, none⟩) 2 2]) (resElem (b := w.heap.size) Tryz.results27 rfl ((o9.put _ _).alloc _).1) rfl (edrawn_lit (ys := [(k, n, p), (kb, nb, pb)]) hlt hr9 (by omega) (sw7.trans st9') hz9 (by first | exact hop.out | (unfold Sm; omega)) (smC ⟨hk, hn, hp⟩ (smC ⟨hkb, hnb, hpb⟩ (smN))) (by simp))
  have e27 : (op == 27) = false := by simpa using q27
  clear q27
  by_cases q28 : op = 28
  · subst q28
    go_wp2
    go_region_with (go_at_call 30; refine (arg_any rb (m + 11) 7 _ ?_ (by omega) (by unfold Sm; omega)).mono ?_; exact hr7.drew; rintro e w9 ⟨k, n, p, rfl, hk, hn, hp, hr9, st9⟩; have st9' : Step rb wc w9 := (Step.drew rb wc).trans st9; have c0 := (st9'.cell w4.heap.size 0 (by omega) (by omega)).trans b0; have c1 := (st9'.cell w4.heap.size 1 (by omega) (by omega)).trans b1; have c2 := (st9'.cell w4.heap.size 2 (by omega) (by omega)).trans b2; have o9 := o7.step st9' hne; have hz9 := o9.lt; have o9c := o9; obtain ⟨⟨o90, o91⟩, z90, z91⟩ := o9c)
    all_goals (try go_wp2)
    all_goals exact bodyPost_ret (v := .agg #[.int .i64 28, .slice (some ⟨w9.heap.size, 0, none⟩) 2 2]) (resElem (b := w.heap.size) Tryz.results27 rfl ((o9.put _ _).alloc _).1) rfl (edrawn_lit (ys := [(k, n, p), (kb, nb, pb)]) hlt hr9 (by omega) (sw7.trans st9') hz9 (by first | exact hop.out | (unfold Sm; omega)) (smC ⟨hk, hn, hp⟩ (smC ⟨hkb, hnb, hpb⟩ (smN))) (by simp))
  have e28 : (op == 28) = false := by simpa using q28
  clear q28
  by_cases q29 : op = 29
  · subst q29
    go_wp2
    go_region_with (go_at_call 30; refine (arg_any rb (m + 11) 8 _ ?_ (by omega) (by unfold Sm; omega)).mono ?_; exact hr7.drew; rintro e w9 ⟨k, n, p, rfl, hk, hn, hp, hr9, st9⟩; have st9' : Step rb wc w9 := (Step.drew rb wc).trans st9; have c0 := (st9'.cell w4.heap.size 0 (by omega) (by omega)).trans b0; have c1 := (st9'.cell w4.heap.size 1 (by omega) (by omega)).trans b1; have c2 := (st9'.cell w4.heap.size 2 (by omega) (by omega)).trans b2; have o9 := o7.step st9' hne; have hz9 := o9.lt; have o9c := o9; obtain ⟨⟨o90, o91⟩, z90, z91⟩ := o9c)
    all_goals (try go_wp2)
    all_goals exact bodyPost_ret (v := .agg #[.int .i64 29, .slice (some ⟨w9.heap.size, 0, none⟩) 2 2]) (resElem (b := w.heap.size) Tryz.results27 rfl ((o9.put _ _).alloc _).1) rfl (edrawn_lit (ys := [(k, n, p), (kb, nb, pb)]) hlt hr9 (by omega) (sw7.trans st9') hz9 (by first | exact hop.out | (unfold Sm; omega)) (smC ⟨hk, hn, hp⟩ (smC ⟨hkb, hnb, hpb⟩ (smN))) (by simp))
  have e29 : (op == 29) = false := by simpa using q29
  clear q29
  by_cases q36 : op = 36
  · subst q36
    go_wp2_with fail
    refine (arg_any rb (m + 11) 10 _ hr7 (by omega) (by unfold Sm; omega)).mono ?_
    rintro e w8 ⟨k, n, p, rfl, hk, hn, hp, hr8, st8⟩
    go_wp2_with fail
    refine (l3Whole_any rb (m + 15) _ hr8 (by omega)).mono ?_
    rintro e w9 ⟨k2, n2, p2, rfl, hk2, hn2, hp2, hr9, st9⟩
    have o8 := o7.step st8 hne
    have o9 := o8.step st9 hne
    have hz9 := o9.lt
    have o9c := o9
    obtain ⟨⟨o90, o91⟩, z90, z91⟩ := o9c
    go_wp2
    exact bodyPost_ret (v := .agg #[.int .i64 36, .slice (some ⟨w9.heap.size, 0, none⟩) 2 2]) (resElem (b := w.heap.size) Tryz.results27 rfl ((o9.put _ _).alloc _).1) rfl (edrawn_lit (ys := [(k, n, p), (k2, n2, p2)]) hlt hr9 (by omega) ((sw7.trans st8).trans st9) hz9 (by first | exact hop.out | (unfold Sm; omega)) (smC ⟨hk, hn, hp⟩ (smC ⟨hk2, hn2, hp2⟩ (smN))) (by simp))
  have e36 : (op == 36) = false := by simpa using q36
  clear q36
  by_cases q37 : op = 37
  · subst q37
    go_wp2_with fail
    refine (arg_any rb (m + 11) 9 _ hr7 (by omega) (by unfold Sm; omega)).mono ?_
    rintro e w8 ⟨k, n, p, rfl, hk, hn, hp, hr8, st8⟩
    go_wp2_with fail
    refine (l3Real_any rb (m + 15) _ hr8 (by omega)).mono ?_
    rintro e w9 ⟨k2, n2, p2, rfl, hk2, hn2, hp2, hr9, st9⟩
    have o8 := o7.step st8 hne
    have o9 := o8.step st9 hne
    have hz9 := o9.lt
    have o9c := o9
    obtain ⟨⟨o90, o91⟩, z90, z91⟩ := o9c
    go_wp2
    exact bodyPost_ret (v := .agg #[.int .i64 37, .slice (some ⟨w9.heap.size, 0, none⟩) 2 2]) (resElem (b := w.heap.size) Tryz.results27 rfl ((o9.put _ _).alloc _).1) rfl (edrawn_lit (ys := [(k, n, p), (k2, n2, p2)]) hlt hr9 (by omega) ((sw7.trans st8).trans st9) hz9 (by first | exact hop.out | (unfold Sm; omega)) (smC ⟨hk, hn, hp⟩ (smC ⟨hk2, hn2, hp2⟩ (smN))) (by simp))
  have e37 : (op == 37) = false := by simpa using q37
  clear q37
  by_cases q35 : op = 35
  · subst q35
    go_wp2_with fail
    refine (arg_any rb (m + 11) 9 _ hr7 (by omega) (by unfold Sm; omega)).mono ?_
    rintro e wa ⟨k, n, p, rfl, hk, hn, hp, hra, sta⟩
    go_wp2_with fail
    refine (l3Whole_any rb (m + 15) _ hra (by omega)).mono ?_
    rintro e wb ⟨k2, n2, p2, rfl, hk2, hn2, hp2, hrb, stb⟩
    go_wp2_with fail
    refine (l3Whole_any rb (m + 20) _ hrb (by omega)).mono ?_
    rintro e w9 ⟨k3, n3, p3, rfl, hk3, hn3, hp3, hr9, st9⟩
    have oa := o7.step sta hne
    have ob := oa.step stb hne
    have o9 := ob.step st9 hne
    have hz9 := o9.lt
    have o9c := o9
    obtain ⟨⟨o90, o91⟩, z90, z91⟩ := o9c
    have hfl := (fm0_ok (ez 35)).1
    have hfl' : ((fm0 (ez 35)).length : Int) ≤ 3 := by omega
    have HA := sArity_any 35
    generalize (fm0 (ez 35)).length = ar at *
    go_wp2_with fail
    refine (HA _).mono ?_
    rintro e w9' ⟨rfl, rfl⟩
    go_wp2
    exact bodyPost_ret (v := .agg #[.int .i64 35, .slice (some ⟨w9.heap.size, 0, none⟩) ar 3]) (resElem (b := w.heap.size) Tryz.results27 rfl ((o9.put _ _).alloc _).1) rfl (edrawn_cut (ys := [(k, n, p), (k2, n2, p2), (k3, n3, p3)]) hlt hr9 (by omega) (((sw7.trans sta).trans stb).trans st9) hz9 hop.out (smC ⟨hk, hn, hp⟩ (smC ⟨hk2, hn2, hp2⟩ (smC ⟨hk3, hn3, hp3⟩ (smN)))) rfl hfl)
  have e35 : (op == 35) = false := by simpa using q35
  clear q35
  go_wp2_with fail
  refine (pick_any rb (m + 11) 2 _ (by omega) hr7 (by omega)).mono ?_
  rintro e w8 ⟨v, rfl, v0, v1, -, hr8, st8⟩
  have o8 := o7.step st8 hne
  by_cases hv : v = 0
  · subst hv
    go_wp2_with fail
    refine (arg_any rb (m + 12) 9 _ hr8 (by omega) (by unfold Sm; omega)).mono ?_
    rintro e wa ⟨k, n, p, rfl, hk, hn, hp, hra, sta⟩
    go_wp2_with fail
    refine (l3Whole_any rb (m + 16) _ hra (by omega)).mono ?_
    rintro e wb ⟨k2, n2, p2, rfl, hk2, hn2, hp2, hrb, stb⟩
    go_wp2_with fail
    refine (l3Whole_any rb (m + 21) _ hrb (by omega)).mono ?_
    rintro e w9 ⟨k3, n3, p3, rfl, hk3, hn3, hp3, hr9, st9⟩
    have oa := o8.step sta hne
    have ob := oa.step stb hne
    have o9 := ob.step st9 hne
    have hz9 := o9.lt
    have o9c := o9
    obtain ⟨⟨o90, o91⟩, z90, z91⟩ := o9c
    have hfl := (fm0_ok (ez op)).1
    have hfl' : ((fm0 (ez op)).length : Int) ≤ 3 := by omega
    have HA := sArity_any op
    generalize (fm0 (ez op)).length = ar at *
    go_wp2_with fail
    refine (HA _).mono ?_
    rintro e w9' ⟨rfl, rfl⟩
    go_wp2
    exact bodyPost_ret (v := .agg #[.int .i64 op, .slice (some ⟨w9.heap.size, 0, none⟩) ar 3]) (resElem (b := w.heap.size) Tryz.results27 rfl ((o9.put _ _).alloc _).1) rfl (edrawn_cut (ys := [(k, n, p), (k2, n2, p2), (k3, n3, p3)]) hlt hr9 (by omega) ((((sw7.trans st8).trans sta).trans stb).trans st9) hz9 hop.out (smC ⟨hk, hn, hp⟩ (smC ⟨hk2, hn2, hp2⟩ (smC ⟨hk3, hn3, hp3⟩ (smN)))) rfl hfl)
  · have hv' : (v == 0) = false := by simpa using hv
    clear hv
    go_wp2_with fail
    refine (arg_any rb (m + 12) 10 _ hr8 (by omega) (by unfold Sm; omega)).mono ?_
    rintro e wa ⟨k, n, p, rfl, hk, hn, hp, hra, sta⟩
    go_wp2_with fail
    refine (l3Real_any rb (m + 16) _ hra (by omega)).mono ?_
    rintro e wb ⟨k2, n2, p2, rfl, hk2, hn2, hp2, hrb, stb⟩
    go_wp2_with fail
    refine (l3Real_any rb (m + 21) _ hrb (by omega)).mono ?_
    rintro e w9 ⟨k3, n3, p3, rfl, hk3, hn3, hp3, hr9, st9⟩
    have oa := o8.step sta hne
    have ob := oa.step stb hne
    have o9 := ob.step st9 hne
    have hz9 := o9.lt
    have o9c := o9
    obtain ⟨⟨o90, o91⟩, z90, z91⟩ := o9c
    have hfl := (fm0_ok (ez op)).1
    have hfl' : ((fm0 (ez op)).length : Int) ≤ 3 := by omega
    have HA := sArity_any op
    generalize (fm0 (ez op)).length = ar at *
    go_wp2_with fail
    refine (HA _).mono ?_
    rintro e w9' ⟨rfl, rfl⟩
    go_wp2
    exact bodyPost_ret (v := .agg #[.int .i64 op, .slice (some ⟨w9.heap.size, 0, none⟩) ar 3]) (resElem (b := w.heap.size) Tryz.results27 rfl ((o9.put _ _).alloc _).1) rfl (edrawn_cut (ys := [(k, n, p), (k2, n2, p2), (k3, n3, p3)]) hlt hr9 (by omega) ((((sw7.trans st8).trans sta).trans stb).trans st9) hz9 hop.out (smC ⟨hk, hn, hp⟩ (smC ⟨hk2, hn2, hp2⟩ (smC ⟨hk3, hn3, hp3⟩ (smN)))) rfl hfl)
end Go.Proofs.YtjkpingdokkkcaaGreatDoor
