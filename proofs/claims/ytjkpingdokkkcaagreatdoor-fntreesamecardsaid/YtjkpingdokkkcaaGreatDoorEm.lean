/- The spoiling of ladders: l6Spoil. Helper text: no statement is claimed here. -/
import Derived.Test.YtjkpingdokkkcaaGreatDoorEp
namespace Go.Proofs.YtjkpingdokkkcaaGreatDoor.Tr
open Go.ChangeShapes Go.WideShapes Go.ChangeAt Go.RowKit

theorem spoilA_all (k : Nat) : ∀ n, SpoilA k n
  | 0 => fun _ _ _ _ _ _ _ _ _ _ _ hV _ _ _ _ _ => hV.elim
  | n + 1 => spoilA_next k n (spoilA_all k n)
/-- A row of arms, as a ladder of one more depth. -/
theorem row_up {O : Nat → Prop} {L k n nl z rb m m' : Nat} {w w' : World} {p : Option Addr} {cap : Nat} {us : List (AT k (n + 1))} (h : RowA O k (n + 1) w.heap.size w' (.slice p us.length cap) us) (hok : ∀ u ∈ us, okAm L k (n + 1) u) (hl : us.length ≤ nl) (hz : tot (zA k (n + 1)) us ≤ z) (hr : Rd w' rb m') (hm : m' ≤ m) (st : Step rb w w') : LDr O L (k + 1) (n + 1) nl z rb m w (.returned (.slice p us.length cap)) w' :=
  ⟨p, cap, us.map (fA k (n + 1)), by rw [List.length_map], kidsA_up (row_sl h) (fun _ _ => rfl) (fun _ h => h), kidsA_ok hok, by rw [List.length_map]; exact hl, by rw [kidsA_z]; exact hz, hr.mono hm, st⟩
theorem LDr.okMono {O : Nat → Prop} {L L' K Nn nl z rb m : Nat} {w : World} {e : Ending} {w' : World} (h : LDr O L K Nn nl z rb m w e w') (hL : L ≤ L') : LDr O L' K Nn nl z rb m w e w' := by
  obtain ⟨p, cap, us, h1, h2, h3, h4⟩ := h
  exact ⟨p, cap, us, h1, h2, fun u hu => okAm_mono hL _ (h3 u hu), h4⟩

set_option maxHeartbeats 4000000 in
set_option maxRecDepth 100000 in
theorem spoil_any (O : Nat → Prop) (L k n z rb m : Nat) (w : World) (p : Option Addr) (cap : Nat) (us : List (AT k (n + 1))) (hr : Rd w rb m) (hm : m + 400 + 2 * k + 2 * n ≤ 600000) (hO : ∀ b, O b → b < w.heap.size ∧ b ≠ rb) (hS : SlOf O (AmE O w k (n + 1)) 6 p cap us) (hok : ∀ u ∈ us, okAm L k (n + 1) u) (hl : us.length ≤ 60) (hz : tot (zA k (n + 1)) us ≤ z) (hz9 : z ≤ 80000) (hL3 : 3 ≤ L) (hL9 : L ≤ 9) :
    Calls Tryz.prog 14 #[.pointer (some ⟨rb, 0, none⟩), .slice p us.length cap] w (LDr O (L + 1) (k + 1) (n + 1) 60 (z + 2000) rb (m + 400 + 2 * k + 2 * n) w) := by
  have hlt := hr.lt
  have HO : Hid (∀ b, O b → b < w.heap.size ∧ b ≠ rb) := hO
  have HOK : Hid (∀ u ∈ us, okAm L k (n + 1) u) := hok
  have HOB : Hid (∀ b, O b → b < w.heap.size) := fun b h => (hO b h).1
  have HSW : Hid (SlOf O (AmE O (w.alloc (.cells #[] 52)) k (n + 1)) 6 p cap us) := arms_to (Keep.of (one w _) HOB.out) (fun _ h => h) hS
  clear hO hok hS
  go_enter Tryz.func14, Tryz.ntmps14
  go_upto_region 2 with (refine wl_copy tyA (keptA k (n + 1)) (readA k (n + 1)) (O := O) (base := w.heap.size) _ (by rfl) (.tmp 13) (.tmp 14) (by rfl) w.heap.size (by rfl) (last _ _) (Nat.le_refl _) HOB.out (by rfl) HSW.out (by omega) ?_; intro g cap5 w3 HR3 HG3 hg3 hl3)
  have HB3 : Hid (Below w.heap.size w w3) := (one w (.cells #[] 52)).trans ⟨HG3.out.os, HG3.out.tape, HG3.out.output, HG3.out.size, fun b hb => HG3.out.block b (by simp; omega) (by simp; omega)⟩
  have hr3 : Rd w3 rb m := hr.to HB3.out
  have HST3 : Hid (Step rb w w3) := .of HB3.out
  have hs3 := HB3.out.size
  clear HG3 hr HSW
  by_cases h0 : us = []
  · have HU0 : Hid (us = []) := h0
    obtain ⟨tt, htt⟩ : ∃ tt : AT k (n + 1), tt = (((0, (0, []), []), [], []) : NT (k + 1) × List El × List (AT k n)) := ⟨_, rfl⟩
    have HOKT : Hid (okAm (L + 1) k (n + 1) tt) := by rw [htt]; exact ⟨none_ok, fun e he => (by cases he), fun u hu => (by cases hu)⟩
    have HZT : Hid (zA k (n + 1) tt ≤ 3) := by rw [htt]; show 0 + (0 + 0) + (0 + 0) + (0 + 0) ≤ 3; omega
    have HVT : Hid (∀ (S : Nat → Prop) (W : World), AmV S W k (n + 1) (.agg #[.int .i64 0, .int .i64 0, .slice none 0 0, .slice none 0 0, .slice none 0 0, .slice none 0 0]) tt) := by rw [htt]; exact fun S W => ⟨0, 0, none, 0, 0, none, 0, 0, none, 0, none, 0, rfl, ⟨none, 0, none, 0, rfl, sl_nil, sl_nil⟩, sl_nil, sl_nil⟩
    have HRA : Hid (∀ o, ∃ xs, GRow O 52 6 (fun S W v (t : AT k (n + 1)) => AmV S W k (n + 1) v t) w.heap.size (w3.alloc o) (.slice (some ⟨g, 0, none⟩) us.length cap5) xs us) := fun o => row_al (keptA _ _) HR3.out HOB.out hs3 o
    clear htt
    subst h0
    go_wp2_with (refine wl_one tyA (keptA k (n + 1)) (O := O) (base := w.heap.size) _ (by rfl) (.tmp 19) (.tmp 21) (by rfl) (.slice (some ⟨g, 0, none⟩) ([] : List (AT k (n + 1))).length cap5) [] (by rfl) (HRA.out _) [.int .i64 0, .int .i64 0, .slice none 0 0, .slice none 0 0, .slice none 0 0, .slice none 0 0] rfl (by simp [Value.oneCell']) w3.heap.size (by rfl) (last _ _) tt (HVT.out _ _) (by simp) (by simp; omega) HOB.out ?_; intro g7 cap7 w7 HR7 HG7 hg7 hl7)
    go_ret
    have hbw := gbelow (HRA.out (.cells #[.int .i64 0, .int .i64 0, .slice none 0 0, .slice none 0 0, .slice none 0 0, .slice none 0 0] 52)) HG7.out (by simp; omega)
    exact row_up (us := [tt]) HR7.out (fun u hu => by rw [List.mem_singleton.1 hu]; exact HOKT.out) (by simp) (by have := HZT.out; simp [tot]; omega) ((hr3.alloc _).in hbw hlt) (by omega) ((HST3.out.trans (Step.alloc rb w3 _)).in hbw (Nat.le_refl _))
  · have hl0 : 0 < us.length := List.length_pos_iff.2 h0
    have h0' : ((us.length : Int) == 0) = false := by
      have : ¬ (us.length : Int) = 0 := by omega
      simpa using this
    go_wp2_with fail
    refine (pick_any rb m 10 _ (by omega) hr3 (by omega)).mono ?_
    rintro e w4 ⟨c, rfl, c0, c1, -, hr4, st4⟩
    have HST4 : Hid (Step rb w w4) := HST3.out.trans st4
    have hs4 := st4.size
    obtain ⟨xs, HR4⟩ : ∃ xs, Hid (GRow O 52 6 (fun S W v (t : AT k (n + 1)) => AmV S W k (n + 1) v t) w.heap.size w4 (.slice (some ⟨g, 0, none⟩) us.length cap5) xs us) := by
      obtain ⟨xs, hx⟩ := HR3.out
      exact ⟨xs, hx.to (keptA k (n + 1)) (out_step st4 hlt (fun b h => ⟨by have := HOB.out b h; omega, (HO.out b h).2⟩))⟩
    clear HR3 st4 hr3 HST3 HB3 c0 c1
    by_cases hc0 : c = 0
    · subst hc0
      go_wp2_with fail
      refine (contact_dr rb (m + 1) _ hr4 (by omega)).mono ?_
      rintro e w5 ⟨opA, ysA, pA, capA, rfl, hA5, hok5, hr5, st5⟩
      go_wp2_with fail
      refine (coil_dr rb (m + 1 + 30) _ hr5 (by omega)).mono ?_
      rintro e w6 ⟨opB, ysB, pB, capB, rfl, hA6, hok6, hr6, st6⟩
      have hs5 := st5.size
      have hs6 := st6.size
      have hsW : ((w6.alloc (.cells #[.int .i64 opB, .slice pB ysB.length capB] 46)).alloc (.cells #[.int .i64 1, .int .i64 opA, .slice pA ysA.length capA, .slice none 0 0, .slice (some ⟨w6.heap.size, 0, none⟩) 1 1, .slice none 0 0] 52)).heap.size = w6.heap.size + 2 := by simp
      obtain ⟨tt, htt⟩ : ∃ tt : AT k (n + 1), tt = (((1, (opA, ysA), []), [(opB, ysB)], []) : NT (k + 1) × List El × List (AT k n)) := ⟨_, rfl⟩
      have HOKT : Hid (okAm L k (n + 1) tt) := by rw [htt]; exact okAm_mono hL3 _ (leaf_ok hok5 hok6)
      have HZT : Hid (zA k (n + 1) tt ≤ 7) := by rw [htt]; exact leaf_z hok5 hok6
      have hb6 : Below w6.heap.size w6 ((w6.alloc (.cells #[.int .i64 opB, .slice pB ysB.length capB] 46)).alloc (.cells #[.int .i64 1, .int .i64 opA, .slice pA ysA.length capA, .slice none 0 0, .slice (some ⟨w6.heap.size, 0, none⟩) 1 1, .slice none 0 0] 52)) := (one w6 _).trans ((one _ _).mono (by simp))
      have hgl : g < w4.heap.size := by
        rcases HR4.out.1.2 with ⟨h', -⟩ | ⟨g', cap', cur, hv, hb, hg, -⟩
        · simp at h'
        · simp only [Value.slice.injEq, Option.some.injEq, Addr.mk.injEq] at hv
          obtain ⟨⟨rfl, -⟩, -, -⟩ := hv
          exact (Array.getElem?_eq_some_iff.1 hg).1
      have hin : ∀ b, w4.heap.size ≤ b → b < w6.heap.size + 2 → Inn O w.heap.size ((w6.alloc (.cells #[.int .i64 opB, .slice pB ysB.length capB] 46)).alloc (.cells #[.int .i64 1, .int .i64 opA, .slice pA ysA.length capA, .slice none 0 0, .slice (some ⟨w6.heap.size, 0, none⟩) 1 1, .slice none 0 0] 52)) (.slice (some ⟨g, 0, none⟩) us.length cap5) b := fun b h1 h2 => .inr ⟨by omega, by omega, by simp [Value.ownBlock]; omega⟩
      have HOL : Hid (OL O 52 6 (fun S W v (t : AT k (n + 1)) => AmV S W k (n + 1) v t) w.heap.size ((w6.alloc (.cells #[.int .i64 opB, .slice pB ysB.length capB] 46)).alloc (.cells #[.int .i64 1, .int .i64 opA, .slice pA ysA.length capA, .slice none 0 0, .slice (some ⟨w6.heap.size, 0, none⟩) 1 1, .slice none 0 0] 52)) (w6.heap.size + 1) [.int .i64 1, .int .i64 opA, .slice pA ysA.length capA, .slice none 0 0, .slice (some ⟨w6.heap.size, 0, none⟩) 1 1, .slice none 0 0] tt (.slice (some ⟨g, 0, none⟩) us.length cap5) us) := by
        refine ⟨?_, ?_, hin _ (by omega) (by omega), ?_, by omega⟩
        · refine row_al (keptA _ _) (row_al (keptA _ _) ⟨xs, (HR4.out.to (keptA _ _) (out_step st5 hlt (fun b h => ⟨by have := HOB.out b h; omega, (HO.out b h).2⟩))).to (keptA _ _) (out_step st6 hlt (fun b h => ⟨by have := HOB.out b h; omega, (HO.out b h).2⟩))⟩ HOB.out (by omega) _) HOB.out (by simp; omega) _
        · have := last (w6.alloc (.cells #[.int .i64 opB, .slice pB ysB.length capB] 46)) (.cells #[.int .i64 1, .int .i64 opA, .slice pA ysA.length capA, .slice none 0 0, .slice (some ⟨w6.heap.size, 0, none⟩) 1 1, .slice none 0 0] 52)
          rw [show (w6.alloc (.cells #[.int .i64 opB, .slice pB ysB.length capB] 46)).heap.size = w6.heap.size + 1 by simp] at this
          exact this
        · rw [htt]
          refine leafV (args_to (Keep.trans0 (Keep.ofStep st6 ?_) (Keep.of hb6 ?_)) ?_ hA5) (((one (w6.alloc (.cells #[.int .i64 opB, .slice pB ysB.length capB] 46)) (.cells #[.int .i64 1, .int .i64 opA, .slice pA ysA.length capA, .slice none 0 0, .slice (some ⟨w6.heap.size, 0, none⟩) 1 1, .slice none 0 0] 52)).block w6.heap.size (by simp)).trans (last w6 (.cells #[.int .i64 opB, .slice pB ysB.length capB] 46))) (args_to (Keep.of hb6 ?_) ?_ hA6) (hin _ (by omega) (by omega))
          · exact fun b hb => hb.elim (fun h => h.elim) fun h => ⟨h.2, by omega⟩
          · exact fun b hb => hb.elim (fun h => h.elim) fun h => by omega
          · exact fun b hb => hb.elim (fun h => h.elim) fun h => hin b (by omega) (by omega)
          · exact fun b hb => hb.elim (fun h => h.elim) fun h => h.2
          · exact fun b hb => hb.elim (fun h => h.elim) fun h => hin b (by omega) (by omega)
      have HRW : Hid (Rd ((w6.alloc (.cells #[.int .i64 opB, .slice pB ysB.length capB] 46)).alloc (.cells #[.int .i64 1, .int .i64 opA, .slice pA ysA.length capA, .slice none 0 0, .slice (some ⟨w6.heap.size, 0, none⟩) 1 1, .slice none 0 0] 52)) rb (m + 80 + us.length)) := ((hr6.alloc _).alloc _).mono (by omega)
      have HSTW : Hid (Step rb w ((w6.alloc (.cells #[.int .i64 opB, .slice pB ysB.length capB] 46)).alloc (.cells #[.int .i64 1, .int .i64 opA, .slice pA ysA.length capA, .slice none 0 0, .slice (some ⟨w6.heap.size, 0, none⟩) 1 1, .slice none 0 0] 52))) := (((HST4.out.trans st5).trans st6).trans (Step.alloc rb _ _)).trans (Step.alloc rb _ _)
      clear hA5 hok5 hr5 st5 hA6 hok6 hr6 st6 htt hb6 hin HR4 hr4 HST4 hsW
      go_wp2
      go_loopw [5] (fun s w' => ∃ W, W = w' ∧ ∃ (g1 cap1 : Nat) (ts : List (AT k (n + 1))), s = .slice (some ⟨g1, 0, none⟩) ts.length cap1 ∧ ts.length ≤ 60 ∧ Hid (OL O 52 6 (fun S W v (t : AT k (n + 1)) => AmV S W k (n + 1) v t) w.heap.size W (w6.heap.size + 1) [.int .i64 1, .int .i64 opA, .slice pA ysA.length capA, .slice none 0 0, .slice (some ⟨w6.heap.size, 0, none⟩) 1 1, .slice none 0 0] tt s ts) ∧ Hid (∀ u ∈ ts, okAm L k (n + 1) u) ∧ Hid (tot (zA k (n + 1)) ts ≤ z + 7 * ts.length) ∧ Hid (Rd W rb (m + 80 + ts.length)) ∧ Hid (Step rb w W)) (fun s _ => 100 - vlen s)
      case atStart => exact ⟨_, rfl, g, cap5, us, rfl, hl, HOL, HOK, show _ by show tot (zA k (n + 1)) us ≤ z + 7 * us.length; omega, HRW, HSTW⟩
      case round =>
        clear HOL HRW HSTW
        obtain ⟨wr, rfl, g1, cap1, ts, rfl, htl, HOL, HOKR, HZR, HRR, HSR⟩ := hrel
        go_wp2_with fail
        refine (pick_any rb (m + 80 + ts.length) 2 _ (by omega) HRR.out (by omega)).mono ?_
        rintro e wq ⟨kx, rfl, k0, k1, -, hrq, stq⟩
        have k1 : kx < 2 := k1 (by omega)
        have HOLq : Hid (OL O 52 6 (fun S W v (t : AT k (n + 1)) => AmV S W k (n + 1) v t) w.heap.size wq (w6.heap.size + 1) [.int .i64 1, .int .i64 opA, .slice pA ysA.length capA, .slice none 0 0, .slice (some ⟨w6.heap.size, 0, none⟩) 1 1, .slice none 0 0] tt (.slice (some ⟨g1, 0, none⟩) ts.length cap1) ts) := HOL.out.step (keptA _ _) stq hlt HO.out
        have HSq : Hid (Step rb w wq) := HSR.out.trans stq
        have hszq := HOLq.out.size
        obtain ⟨b0, b1, b2, b3, b4, b5⟩ := (Own6.mk HOLq.out.box).cells
        have HOLa : Hid (∀ o, OL O 52 6 (fun S W v (t : AT k (n + 1)) => AmV S W k (n + 1) v t) w.heap.size (wq.alloc o) (w6.heap.size + 1) [.int .i64 1, .int .i64 opA, .slice pA ysA.length capA, .slice none 0 0, .slice (some ⟨w6.heap.size, 0, none⟩) 1 1, .slice none 0 0] tt (.slice (some ⟨g1, 0, none⟩) ts.length cap1) ts) := fun o => HOLq.out.al (keptA _ _) HOB.out o
        clear HOL HSR HRR stq
        by_cases hq : (ts.length : Int) < 40 + kx
        · go_wp2_with (refine wl_again tyA (keptA k (n + 1)) (O := O) (base := w.heap.size) _ (by rfl) (.tmp 40) (.tmp 42) (by rfl) (.slice (some ⟨g1, 0, none⟩) ts.length cap1) ts (by rfl) (HOLa.out _).row [.int .i64 1, .int .i64 opA, .slice pA ysA.length capA, .slice none 0 0, .slice (some ⟨w6.heap.size, 0, none⟩) 1 1, .slice none 0 0] rfl (by simp [Value.oneCell']) wq.heap.size (by rfl) (last _ _) tt (HOLa.out _).val (by omega) (by simp; omega) HOB.out ?_; intro g7 cap7 w7 HR7 HG7 HK7 HI7)
          have hbw := gbelow (HOLa.out (.cells #[.int .i64 1, .int .i64 opA, .slice pA ysA.length capA, .slice none 0 0, .slice (some ⟨w6.heap.size, 0, none⟩) 1 1, .slice none 0 0] 52)).row HG7.out (by simp; omega)
          have hln : (ts ++ [tt]).length = ts.length + 1 := by simp
          have HOLn : Hid (OL O 52 6 (fun S W v (t : AT k (n + 1)) => AmV S W k (n + 1) v t) w.heap.size w7 (w6.heap.size + 1) [.int .i64 1, .int .i64 opA, .slice pA ysA.length capA, .slice none 0 0, .slice (some ⟨w6.heap.size, 0, none⟩) 1 1, .slice none 0 0] tt (.slice (some ⟨g7, 0, none⟩) (ts.length + 1) cap7) (ts ++ [tt])) := (HOLa.out (.cells #[.int .i64 1, .int .i64 opA, .slice pA ysA.length capA, .slice none 0 0, .slice (some ⟨w6.heap.size, 0, none⟩) 1 1, .slice none 0 0] 52)).next (keptA _ _) HR7.out HG7.out HK7.out HI7.out
          refine ⟨⟨_, rfl, g7, cap7, ts ++ [tt], by rw [hln], by rw [hln]; omega, HOLn, fun u hu => ?_, show _ by show tot (zA k (n + 1)) (ts ++ [tt]) ≤ z + 7 * (ts ++ [tt]).length; rw [hln, tot_app]; have h1 := HZR.out; have h2 : tot (zA k (n + 1)) [tt] ≤ 7 := (by simpa [tot] using HZT.out); omega, show _ by show Rd w7 rb (m + 80 + (ts ++ [tt]).length); rw [hln]; exact ((hrq.alloc _).in hbw hlt).mono (by omega), (HSq.out.trans (Step.alloc rb wq _)).in hbw (Nat.le_refl _)⟩, by show 100 - (ts.length + 1) < 100 - ts.length; omega⟩
          rcases List.mem_append.1 hu with h | h
          · exact HOKR.out u h
          · rw [List.mem_singleton.1 h]; exact HOKT.out
        · go_wp2
          go_ret
          exact (row_up (us := ts) HOLq.out.row HOKR.out htl (Nat.le_trans HZR.out (by omega)) hrq (by omega) HSq.out).okMono (by omega)
    · have hc0' : (c == 0) = false := by simp [hc0]
      by_cases hc1 : c = 1
      · subst hc1
        go_wp2_with fail
        refine (pick_any rb (m + 1) (us.length : Int) _ (by omega) hr4 (by omega)).mono ?_
        rintro e w5 ⟨kx, rfl, k0, k1, -, hr5, st5⟩
        obtain ⟨kk, rfl⟩ := Int.eq_ofNat_of_zero_le k0
        have hkk : kk < us.length := by have := k1 (by omega); omega
        have hkk' : (kk : Int) < (us.length : Int) := by omega
        have HR5 : Hid (GRow O 52 6 (fun S W v (t : AT k (n + 1)) => AmV S W k (n + 1) v t) w.heap.size w5 (.slice (some ⟨g, 0, none⟩) us.length cap5) xs us) := HR4.out.to (keptA k (n + 1)) (out_step st5 hlt (fun b h => ⟨by have := HOB.out b h; omega, (HO.out b h).2⟩))
        have HST5 : Hid (Step rb w w5) := HST4.out.trans st5
        have hs5 := st5.size
        have HC : Hid (Calls Tryz.prog 28 #[(.slice (some ⟨g, 0, none⟩) us.length cap5)] w5 fun r w' => r = .returned (.int .i64 (tot (pA k (n + 1)) us)) ∧ Below w5.heap.size w5 w') := sTreeSize_any k (n + 1) (Frs O w.heap.size w5) w5 (fun b hb => hb.elim (fun h => by have := HOB.out b h; omega) fun h => h.2) _ _ us (row_sl ⟨xs, HR5.out⟩) (by unfold zAs; omega)
        have hR1 : ((tot (pA k (n + 1)) us : Nat) : Int) ≤ 300000 := by
          have h1 := totA_le k (n + 1) us
          have h2 : zAs k (n + 1) us = us.length + tot (zA k (n + 1)) us := rfl
          omega
        have hR0 : (0 : Int) ≤ ((tot (pA k (n + 1)) us : Nat) : Int) := by omega
        generalize ((tot (pA k (n + 1)) us : Nat) : Int) = R at HC hR1 hR0
        clear k0 k1 st5 HR4 HST4 hr4
        go_wp2_with fail
        refine HC.out.mono ?_
        rintro e w6 ⟨rfl, hb6⟩
        have hr6 := hr5.to hb6
        have st56 : Step rb w5 w6 := .of hb6
        clear HC
        go_wp2_with fail
        refine (pick_any rb (m + 1 + 1) 2 _ (by omega) hr6 (by omega)).mono ?_
        rintro e w7 ⟨ky, rfl, y0, y1, -, hr7, st7⟩
        have y1 : ky < 2 := y1 (by omega)
        have st57 := st56.trans st7
        have HR7 : Hid (GRow O 52 6 (fun S W v (t : AT k (n + 1)) => AmV S W k (n + 1) v t) w.heap.size w7 (.slice (some ⟨g, 0, none⟩) us.length cap5) xs us) := HR5.out.to (keptA k (n + 1)) (out_step st57 hlt (fun b h => ⟨by have := HOB.out b h; omega, (HO.out b h).2⟩))
        have HST7 : Hid (Step rb w w7) := HST5.out.trans st57
        have hs7 := st57.size
        clear st7 st56 st57 hb6 hr6 hr5 HR5 HST5
        obtain ⟨tk, htk⟩ := get_lt hkk
        obtain ⟨cs, hcl, hcs, hcv⟩ := HR7.out.at htk
        have hokk := HOK.out tk (List.mem_of_getElem? htk)
        have hzk := tot_get (zA k (n + 1)) htk
        obtain ⟨tn, es, ksk⟩ := tk
        obtain ⟨kd1, op1, pa1, la1, ca1, pk1, lk1, ck1, pc1, cc1, pq1, cq1, he, hN1, hE1, hK1⟩ := hcv
        have hce : cs = [.int .i64 kd1, .int .i64 op1, .slice pa1 la1 ca1, .slice pk1 lk1 ck1, .slice pc1 es.length cc1, .slice pq1 ksk.length cq1] := by
          simp only [Value.agg.injEq] at he
          simpa [AT.coils, AT.kids] using congrArg Array.toList he
        subst hce
        obtain ⟨cur, hcur, hg7⟩ : ∃ cur, w7.heap[g]? = some (.cells cur 52 (0, 0)) ∧ g < w7.heap.size := by
          rcases HR7.out.1.2 with ⟨h', -⟩ | ⟨g', cap', cur, hv, hb, hg, hn, hc, hsz, -⟩
          · simp at h'
          · simp only [Value.slice.injEq, Option.some.injEq, Addr.mk.injEq] at hv
            obtain ⟨⟨rfl, -⟩, -, rfl⟩ := hv
            exact ⟨cur, hg, (Array.getElem?_eq_some_iff.1 hg).1⟩
        have HCS : Hid (∀ j u, [.int .i64 kd1, .int .i64 op1, .slice pa1 la1 ca1, .slice pk1 lk1 ck1, .slice pc1 es.length cc1, .slice pq1 ksk.length cq1][j]? = some u → w7.cell? ⟨g, kk * 6 + j, none⟩ = some u) := hcs
        have x4 := hcs 4 _ rfl
        have HN1 : Hid (NtV (Inn O w.heap.size w7 (.slice (some ⟨g, 0, none⟩) us.length cap5)) w7 (k + 1) (.agg #[.int .i64 kd1, .int .i64 op1, .slice pa1 la1 ca1, .slice pk1 lk1 ck1]) tn) := hN1
        have HE1 : Hid (SlOf (Inn O w.heap.size w7 (.slice (some ⟨g, 0, none⟩) us.length cap5)) (ElE (Inn O w.heap.size w7 (.slice (some ⟨g, 0, none⟩) us.length cap5)) w7) 2 pc1 cc1 es) := hE1
        have HK1 : Hid (SlOf (Inn O w.heap.size w7 (.slice (some ⟨g, 0, none⟩) us.length cap5)) (AmE (Inn O w.heap.size w7 (.slice (some ⟨g, 0, none⟩) us.length cap5)) w7 k n) 6 pq1 cq1 ksk) := hK1
        have HOK2 : Hid (okAm L k (n + 1) ((tn, es, ksk) : NT (k + 1) × List El × List (AT k n))) := hokk
        have HZK : Hid (zN (k + 1) tn + zEls es + (ksk.length + tot (zA k n) ksk) ≤ tot (zA k (n + 1)) us) := hzk
        have HTK : Hid (us[kk]? = some ((tn, es, ksk) : NT (k + 1) × List El × List (AT k n))) := htk
        have HCUR : Hid (w7.heap[g]? = some (.cells cur 52 (0, 0))) := hcur
        have HOB2 : Hid (∀ b, (Inn O w.heap.size w7 (.slice (some ⟨g, 0, none⟩) us.length cap5)) b → b < w7.heap.size ∧ b ≠ rb ∧ b ≠ g) := fun b hb => by
          rcases hb with hb | hb
          · exact ⟨by have := HOB.out b hb; omega, (HO.out b hb).2, by have := HOB.out b hb; omega⟩
          · exact ⟨hb.2.1, by omega, fun e => hb.2.2 (by rw [e]; rfl)⟩
        have hel : es.length ≤ 90000 := by
          have h1 := HZK.out
          have h2 : es.length ≤ zEls es := Nat.le_add_right _ _
          omega
        have HEW : Hid (SlOf (Inn O w.heap.size w7 (.slice (some ⟨g, 0, none⟩) us.length cap5)) (ElE (Inn O w.heap.size w7 (.slice (some ⟨g, 0, none⟩) us.length cap5)) (w7.alloc (.cells #[] 46))) 2 pc1 cc1 es) := els_to (Keep.of (one w7 _) (fun b h => (HOB2.out b h).1)) (fun _ h => h) HE1.out
        clear hcs hN1 hE1 hK1 hokk hzk htk hcur hcl he
        go_wp2_with (refine wl_copy tyE keptE readE (O := (Inn O w.heap.size w7 (.slice (some ⟨g, 0, none⟩) us.length cap5))) (base := w7.heap.size) _ (by rfl) (.tmp 57) (.tmp 62) (by rfl) w7.heap.size (by rfl) (last _ _) (Nat.le_refl _) (fun b h => (HOB2.out b h).1) (by rfl) HEW.out (by omega) ?_; intro g8 cap8 w8 HR8 HG8 hg8 hl8)
        have HB78 : Hid (Below w7.heap.size w7 w8) := (one w7 (.cells #[] 46)).trans ⟨HG8.out.os, HG8.out.tape, HG8.out.output, HG8.out.size, fun b hb => HG8.out.block b (by simp; omega) (by simp; omega)⟩
        have hs8 := HB78.out.size
        refine (coil_dr rb (m + 3) _ (hr7.to HB78.out) (by omega)).mono ?_
        rintro e w9 ⟨opB, ysB, pB, capB, rfl, hA9, hok9, hr9, st9⟩
        have hs9 := st9.size
        have hsW : (w9.alloc (.cells #[.int .i64 opB, .slice pB ysB.length capB] 46)).heap.size = w9.heap.size + 1 := by simp
        have HOL : Hid (OL (Inn O w.heap.size w7 (.slice (some ⟨g, 0, none⟩) us.length cap5)) 46 2 ElV w7.heap.size (w9.alloc (.cells #[.int .i64 opB, .slice pB ysB.length capB] 46)) w9.heap.size [.int .i64 opB, .slice pB ysB.length capB] (opB, ysB) (.slice (some ⟨g8, 0, none⟩) es.length cap8) es) := by
          refine ⟨row_al keptE ?_ (fun b h => (HOB2.out b h).1) (by omega) _, last _ _, .inr ⟨by omega, by omega, by simp [Value.ownBlock]; omega⟩, ⟨pB, capB, rfl, args_to (Keep.of (one w9 _) ?_) ?_ hA9⟩, by omega⟩
          · obtain ⟨ys, hx⟩ := HR8.out
            exact ⟨ys, hx.to keptE (out_step st9 (by omega) (fun b h => ⟨by have := (HOB2.out b h).1; omega, (HOB2.out b h).2.1⟩))⟩
          · exact fun b hb => hb.elim (fun h => h.elim) fun h => h.2
          · exact fun b hb => hb.elim (fun h => h.elim) fun h => .inr ⟨by omega, by omega, by simp [Value.ownBlock]; omega⟩
        have HLOW : Hid (∀ b, b < w7.heap.size → b ≠ rb → (w9.alloc (.cells #[.int .i64 opB, .slice pB ysB.length capB] 46)).heap[b]? = w7.heap[b]?) := fun b h1 h2 => ((one w9 _).block b (by omega)).trans ((st9.block b (by omega) h2).trans (HB78.out.block b h1))
        have HRW : Hid (Rd (w9.alloc (.cells #[.int .i64 opB, .slice pB ysB.length capB] 46)) rb (m + 43)) := hr9.alloc _
        have HSW : Hid (Step rb w (w9.alloc (.cells #[.int .i64 opB, .slice pB ysB.length capB] 46))) := ((HST7.out.trans (.of HB78.out)).trans st9).trans (Step.alloc rb _ _)
        have HOKB : Hid (okEl L (opB, ysB)) := okEl_mono hL3 hok9
        have HYB : Hid (ysB.length ≤ 3) := hok9.1
        clear hA9 hok9 hr9 st9 HR8 HG8 HB78 HEW hr7 HST7 hsW x4
        go_wp2
        go_loopw [9, 11] (fun s d w' => ∃ W, W = w' ∧ ∃ (j g1 cap1 : Nat) (ts : List El), d = .int .i64 (j : Int) ∧ s = .slice (some ⟨g1, 0, none⟩) ts.length cap1 ∧ j ≤ 401 ∧ ts.length = es.length + j ∧ Hid (OL (Inn O w.heap.size w7 (.slice (some ⟨g, 0, none⟩) us.length cap5)) 46 2 ElV w7.heap.size W w9.heap.size [.int .i64 opB, .slice pB ysB.length capB] (opB, ysB) s ts) ∧ Hid (∀ e ∈ ts, okEl L e) ∧ Hid (zEls ts ≤ zEls es + 4 * j) ∧ Hid (Below w7.heap.size (w9.alloc (.cells #[.int .i64 opB, .slice pB ysB.length capB] 46)) W)) (fun _ d _ => (400 - R + ky - intOf d).toNat)
        case atStart => exact ⟨_, rfl, 0, g8, cap8, es, rfl, rfl, by omega, rfl, HOL, HOK2.out.2.1, show _ by show zEls es ≤ zEls es + 4 * 0; omega, Below.refl _ _⟩
        case round =>
          clear HOL
          obtain ⟨wr, rfl, j, g1, cap1, ts, rfl, rfl, hj, htl, HOL, HOKR, HZR, HBL⟩ := hrel
          have hszr := HOL.out.size
          have HTL : Hid (ts.length = es.length + j) := htl
          clear htl
          by_cases hlt8 : (j : Int) < 400 - R + ky
          · have hq0 := cell_of_row wr w9.heap.size 0 _ _ _ HOL.out.box
            have hq1 := cell_of_row wr w9.heap.size 1 _ _ _ HOL.out.box
            have q0 : wr.cell? ⟨w9.heap.size, 0, none⟩ = some (.int .i64 opB) := hq0
            have q1 : wr.cell? ⟨w9.heap.size, 1, none⟩ = some (.slice pB ysB.length capB) := hq1
            have HOLa : Hid (∀ o, OL (Inn O w.heap.size w7 (.slice (some ⟨g, 0, none⟩) us.length cap5)) 46 2 ElV w7.heap.size (wr.alloc o) w9.heap.size [.int .i64 opB, .slice pB ysB.length capB] (opB, ysB) (.slice (some ⟨g1, 0, none⟩) ts.length cap1) ts) := fun o => HOL.out.al keptE (fun b h => (HOB2.out b h).1) o
            clear hq0 hq1
            go_wp2_with (refine wl_again tyE keptE (O := (Inn O w.heap.size w7 (.slice (some ⟨g, 0, none⟩) us.length cap5))) (base := w7.heap.size) _ (by rfl) (.tmp 71) (.tmp 73) (by rfl) (.slice (some ⟨g1, 0, none⟩) ts.length cap1) ts (by rfl) (HOLa.out _).row [.int .i64 opB, .slice pB ysB.length capB] rfl (by simp [Value.oneCell']) wr.heap.size (by rfl) (last _ _) (opB, ysB) (HOLa.out _).val (by have := HTL.out; omega) (by simp; omega) (fun b h => (HOB2.out b h).1) ?_; intro g7 cap7 wn HR7n HG7 HK7 HI7)
            have hbw := gbelow (HOLa.out (.cells #[.int .i64 opB, .slice pB ysB.length capB] 46)).row HG7.out (by simp; omega)
            have hln : (ts ++ [(opB, ysB)]).length = ts.length + 1 := by simp
            have HOLn : Hid (OL (Inn O w.heap.size w7 (.slice (some ⟨g, 0, none⟩) us.length cap5)) 46 2 ElV w7.heap.size wn w9.heap.size [.int .i64 opB, .slice pB ysB.length capB] (opB, ysB) (.slice (some ⟨g7, 0, none⟩) (ts.length + 1) cap7) (ts ++ [(opB, ysB)])) := (HOLa.out (.cells #[.int .i64 opB, .slice pB ysB.length capB] 46)).next keptE HR7n.out HG7.out HK7.out HI7.out
            refine ⟨⟨_, rfl, j + 1, g7, cap7, ts ++ [(opB, ysB)], by go_num, by rw [hln], by omega, by rw [hln]; have := HTL.out; omega, HOLn, fun e he => ?_, show _ by show zEls (ts ++ [(opB, ysB)]) ≤ zEls es + 4 * (j + 1); rw [zEls_app]; have h1 := HZR.out; have h2 := HYB.out; show zEls ts + 1 + ysB.length ≤ zEls es + 4 * (j + 1); omega, HBL.out.trans (((one wr _).mono (by omega)).trans hbw)⟩, by simp [intOf]; omega⟩
            rcases List.mem_append.1 he with h | h
            · exact HOKR.out e h
            · rw [List.mem_singleton.1 h]; exact HOKB.out
          · have HLOWr : Hid (∀ b, b < w7.heap.size → b ≠ rb → wr.heap[b]? = w7.heap[b]?) := fun b h1 h2 => (HBL.out.block b h1).trans (HLOW.out b h1 h2)
            have HCURr : Hid (wr.heap[g]? = some (.cells cur 52 (0, 0))) := (HLOWr.out g hg7 (by omega)).trans HCUR.out
            have HCSr : Hid (∀ j u, [.int .i64 kd1, .int .i64 op1, .slice pa1 la1 ca1, .slice pk1 lk1 ck1, .slice pc1 es.length cc1, .slice pq1 ksk.length cq1][j]? = some u → wr.cell? ⟨g, kk * 6 + j, none⟩ = some u) := fun j u hj => (World.cell?_of_block (w := w7) (HLOWr.out g hg7 (by omega))).trans (HCS.out j u hj)
            have u4 := HCSr.out 4 _ rfl
            have z4 := frozen_of_row wr g (kk * 6 + 4) _ _ HCURr.out
            go_wp2
            go_ret
            have hRdr : Rd wr rb (m + 43) := HRW.out.in HBL.out (by omega)
            have hStr : Step rb w wr := HSW.out.in HBL.out (by omega)
            have hGr : GRow O 52 6 (fun S W v (t : AT k (n + 1)) => AmV S W k (n + 1) v t) w.heap.size wr (.slice (some ⟨g, 0, none⟩) us.length cap5) xs us := HR7.out.to (keptA k (n + 1)) ⟨by omega, fun b h => HLOWr.out b (by have := HOB.out b h; omega) (HO.out b h).2, fun b h1 h2 => HLOWr.out b h2 (by omega)⟩
            have hfar : ∀ b, b ≠ g → (wr.setCell ⟨g, kk * 6 + 4, none⟩ (.slice (some ⟨g1, 0, none⟩) ts.length cap1)).heap[b]? = wr.heap[b]? := fun b hb => Below.heap_setCell _ _ _ _ hb
            have hsz : (wr.setCell ⟨g, kk * 6 + 4, none⟩ (.slice (some ⟨g1, 0, none⟩) ts.length cap1)).heap.size = wr.heap.size := by simp
            have hsh : ∀ b, (Inn O w.heap.size w7 (.slice (some ⟨g, 0, none⟩) us.length cap5)) b → Frs O w.heap.size (wr.setCell ⟨g, kk * 6 + 4, none⟩ (.slice (some ⟨g1, 0, none⟩) ts.length cap1)) b := fun b hb => hb.elim .inl fun h => .inr ⟨h.1, by rw [hsz]; have := h.2.1; omega⟩
            have hkp : Keep (Inn O w.heap.size w7 (.slice (some ⟨g, 0, none⟩) us.length cap5)) w7 (wr.setCell ⟨g, kk * 6 + 4, none⟩ (.slice (some ⟨g1, 0, none⟩) ts.length cap1)) := fun b hb => (hfar b (HOB2.out b hb).2.2).trans (HLOWr.out b (HOB2.out b hb).1 (HOB2.out b hb).2.1)
            have hV : AmV (Frs O w.heap.size (wr.setCell ⟨g, kk * 6 + 4, none⟩ (.slice (some ⟨g1, 0, none⟩) ts.length cap1))) (wr.setCell ⟨g, kk * 6 + 4, none⟩ (.slice (some ⟨g1, 0, none⟩) ts.length cap1)) k (n + 1) (.agg #[.int .i64 kd1, .int .i64 op1, .slice pa1 la1 ca1, .slice pk1 lk1 ck1, .slice (some ⟨g1, 0, none⟩) ts.length cap1, .slice pq1 ksk.length cq1]) ((tn, ts, ksk) : NT (k + 1) × List El × List (AT k n)) := by
              refine ⟨kd1, op1, pa1, la1, ca1, pk1, lk1, ck1, some ⟨g1, 0, none⟩, cap1, pq1, cq1, rfl, HN1.out.to hkp hsh, els_to (fun b hb => hfar b ?_) (fun b hb => ?_) (rowE_sl HOL.out.row), arms_to hkp hsh HK1.out⟩
              · rcases hb with hb | hb
                · exact (HOB2.out b hb).2.2
                · omega
              · rcases hb with hb | hb
                · exact hsh b hb
                · exact .inr ⟨by omega, by rw [hsz]; exact hb.2⟩
            have hset := row_set (keptA (k + 1) (n + 2)) (madeA (k + 1) (n + 2)) (fA k (n + 1)) (fun S W v t h => fA_V h) (k := kk) hGr hg3 (fun b hb hb' => by have := HOB.out b hb; omega) hfar hsz (fun o ho => World.cell?_setCell_other _ ⟨g, kk * 6 + 4, none⟩ ⟨g, o, none⟩ _ (fun e => by have h9 : kk * 6 + 4 = o := congrArg Addr.off e; omega)) [.int .i64 kd1, .int .i64 op1, .slice pa1 la1 ca1, .slice pk1 lk1 ck1, .slice (some ⟨g1, 0, none⟩) ts.length cap1, .slice pq1 ksk.length cq1] (fun j u hj => ?_) (fA k (n + 1) ((tn, ts, ksk) : NT (k + 1) × List El × List (AT k n))) (fA_V hV)
            · have hln : ((us.map (fA k (n + 1))).set kk (fA k (n + 1) ((tn, ts, ksk) : NT (k + 1) × List El × List (AT k n)))).length = us.length := by simp
              refine ⟨some ⟨g, 0, none⟩, cap5, _, by rw [hln]; rfl, hset, fun u hu => ?_, by rw [hln]; exact hl, ?_, (hRdr.set _ _ _ (by omega)).mono (by omega), hStr.setNew _ _ _ (by omega)⟩
              · rcases List.mem_or_eq_of_mem_set hu with h | h
                · exact okAm_mono (by omega) _ (kidsA_ok HOK.out u h)
                · rw [h]
                  have h1 : okAm L k (n + 1) ((tn, ts, ksk) : NT (k + 1) × List El × List (AT k n)) := ⟨HOK2.out.1, HOKR.out, HOK2.out.2.2⟩
                  exact okAm_mono (by omega) _ (upA_ok _ (upK_ok _ h1))
              · have h1 := tot_set (zA (k + 1) (n + 2)) (us.map (fA k (n + 1))) kk (fA k (n + 1) ((tn, es, ksk) : NT (k + 1) × List El × List (AT k n))) (fA k (n + 1) ((tn, ts, ksk) : NT (k + 1) × List El × List (AT k n))) (by rw [List.getElem?_map, HTK.out]; rfl)
                rw [kidsA_z] at h1
                have e1 : zA (k + 1) (n + 2) (fA k (n + 1) ((tn, es, ksk) : NT (k + 1) × List El × List (AT k n))) = zA k (n + 1) ((tn, es, ksk) : NT (k + 1) × List El × List (AT k n)) := fA_z (k := k) (n := n + 1) _
                have e2 : zA (k + 1) (n + 2) (fA k (n + 1) ((tn, ts, ksk) : NT (k + 1) × List El × List (AT k n))) = zA k (n + 1) ((tn, ts, ksk) : NT (k + 1) × List El × List (AT k n)) := fA_z (k := k) (n := n + 1) _
                rw [e1, e2] at h1
                have h2 : zA k (n + 1) ((tn, es, ksk) : NT (k + 1) × List El × List (AT k n)) = zN (k + 1) tn + zEls es + (ksk.length + tot (zA k n) ksk) := rfl
                have h3 : zA k (n + 1) ((tn, ts, ksk) : NT (k + 1) × List El × List (AT k n)) = zN (k + 1) tn + zEls ts + (ksk.length + tot (zA k n) ksk) := rfl
                have h4 := HZR.out
                show tot (zA (k + 1) (n + 2)) _ ≤ z + 2000
                omega
            · match j, hj with
              | 0, hj => exact (World.cell?_setCell_other _ _ _ _ (by simp)).trans (HCSr.out 0 u hj)
              | 1, hj => exact (World.cell?_setCell_other _ _ _ _ (by simp)).trans (HCSr.out 1 u hj)
              | 2, hj => exact (World.cell?_setCell_other _ _ _ _ (by simp)).trans (HCSr.out 2 u hj)
              | 3, hj => exact (World.cell?_setCell_other _ _ _ _ (by simp)).trans (HCSr.out 3 u hj)
              | 4, hj => obtain rfl := Option.some.inj hj; exact World.cell?_setCell_same _ _ _ u4
              | 5, hj => exact (World.cell?_setCell_other _ _ _ _ (by simp)).trans (HCSr.out 5 u hj)
              | j + 6, hj => simp at hj
      · have hc1' : (c == 1) = false := by simp [hc1]
        go_wp2_with fail
        refine (pick_any rb (m + 1) (us.length : Int) _ (by omega) hr4 (by omega)).mono ?_
        rintro e w5 ⟨kx, rfl, k0, k1, -, hr5, st5⟩
        obtain ⟨kk, rfl⟩ := Int.eq_ofNat_of_zero_le k0
        have hkk : kk < us.length := by have := k1 (by omega); omega
        have hkk' : (kk : Int) < (us.length : Int) := by omega
        have HR5 : Hid (GRow O 52 6 (fun S W v (t : AT k (n + 1)) => AmV S W k (n + 1) v t) w.heap.size w5 (.slice (some ⟨g, 0, none⟩) us.length cap5) xs us) := HR4.out.to (keptA k (n + 1)) (out_step st5 hlt (fun b h => ⟨by have := HOB.out b h; omega, (HO.out b h).2⟩))
        have HST5 : Hid (Step rb w w5) := HST4.out.trans st5
        have hs5 := st5.size
        obtain ⟨tk, htk⟩ := get_lt hkk
        obtain ⟨cs, hcl, hcs, hcv⟩ := HR5.out.at htk
        obtain ⟨kd1, op1, pa1, la1, ca1, pk1, lk1, ck1, pc1, lc1, cc1, pq1, lq1, cq1, he⟩ := AmV.partsA hcv
        have hce : cs = [.int .i64 kd1, .int .i64 op1, .slice pa1 la1 ca1, .slice pk1 lk1 ck1, .slice pc1 lc1 cc1, .slice pq1 lq1 cq1] := by
          simp only [Value.agg.injEq] at he
          simpa using congrArg Array.toList he
        subst hce
        have x0 := hcs 0 _ rfl
        rw [Nat.add_zero] at x0
        have x1 := hcs 1 _ rfl
        have x2 := hcs 2 _ rfl
        have x3 := hcs 3 _ rfl
        have x4 := hcs 4 _ rfl
        have x5 := hcs 5 _ rfl
        have HCV : Hid (AmV (Inn O w.heap.size w5 (.slice (some ⟨g, 0, none⟩) us.length cap5)) w5 k (n + 1) (.agg #[.int .i64 kd1, .int .i64 op1, .slice pa1 la1 ca1, .slice pk1 lk1 ck1, .slice pc1 lc1 cc1, .slice pq1 lq1 cq1]) tk) := hcv
        clear hcs hcv he hcl k0 k1 st5 HR4 HST4 hr4
        go_wp2_with fail
        refine (spoilA_all k (n + 1) (Inn O w.heap.size w5 (.slice (some ⟨g, 0, none⟩) us.length cap5)) L (zA k (n + 1) tk) rb (m + 2) w5 _ tk hr5 (by omega) (fun b hb => ?_) HCV.out (HOK.out tk (List.mem_of_getElem? htk)) (Nat.le_refl _) (by have h2 := tot_get (zA k (n + 1)) htk; omega) hL3 hL9).mono ?_
        · rcases hb with hb | hb
          · exact ⟨by have := HOB.out b hb; omega, (HO.out b hb).2⟩
          · exact ⟨hb.2.1, by omega⟩
        rintro e w6 ⟨v6, t6, rfl, hV6, hok6, hz6, hr6, st6⟩
        obtain ⟨kd6, op6, pa6, la6, ca6, pk6, lk6, ck6, pc6, lc6, cc6, pq6, lq6, cq6, rfl⟩ := hV6.partsA
        have hs6 := st6.size
        have HR6 : Hid (GRow O 52 6 (fun S W v (t : AT k (n + 1)) => AmV S W k (n + 1) v t) w.heap.size w6 (.slice (some ⟨g, 0, none⟩) us.length cap5) xs us) := HR5.out.to (keptA k (n + 1)) (out_step st6 hlt (fun b h => ⟨by have := HOB.out b h; omega, (HO.out b h).2⟩))
        obtain ⟨cur, hcur, hg4⟩ : ∃ cur, w6.heap[g]? = some (.cells cur 52 (0, 0)) ∧ g < w5.heap.size := by
          rcases HR5.out.1.2 with ⟨h', -⟩ | ⟨g', cap', cur, hv, hb, hg, hn, hc, hsz, -⟩
          · simp at h'
          · simp only [Value.slice.injEq, Option.some.injEq, Addr.mk.injEq] at hv
            obtain ⟨⟨rfl, -⟩, -, rfl⟩ := hv
            have hgl := (Array.getElem?_eq_some_iff.1 hg).1
            exact ⟨cur, (st6.block g hgl (by omega)).trans hg, hgl⟩
        have y0 := (st6.cell g (kk * 6) hg4 (by omega)).trans x0
        have y1 := (st6.cell g (kk * 6 + 1) hg4 (by omega)).trans x1
        have y2 := (st6.cell g (kk * 6 + 2) hg4 (by omega)).trans x2
        have y3 := (st6.cell g (kk * 6 + 3) hg4 (by omega)).trans x3
        have y4 := (st6.cell g (kk * 6 + 4) hg4 (by omega)).trans x4
        have y5 := (st6.cell g (kk * 6 + 5) hg4 (by omega)).trans x5
        have z0 := frozen_of_row w6 g (kk * 6) _ _ hcur
        have z1 := frozen_of_row w6 g (kk * 6 + 1) _ _ hcur
        have z2 := frozen_of_row w6 g (kk * 6 + 2) _ _ hcur
        have z3 := frozen_of_row w6 g (kk * 6 + 3) _ _ hcur
        have z4 := frozen_of_row w6 g (kk * 6 + 4) _ _ hcur
        have z5 := frozen_of_row w6 g (kk * 6 + 5) _ _ hcur
        have HV6 : Hid (AmV (Frs (Inn O w.heap.size w5 (.slice (some ⟨g, 0, none⟩) us.length cap5)) w5.heap.size w6) w6 (k + 1) (n + 2) (.agg #[.int .i64 kd6, .int .i64 op6, .slice pa6 la6 ca6, .slice pk6 lk6 ck6, .slice pc6 lc6 cc6, .slice pq6 lq6 cq6]) t6) := hV6
        have HOK6 : Hid (okAm (L + 1) (k + 1) (n + 2) t6) := hok6
        have HZ6 : Hid (zA (k + 1) (n + 2) t6 ≤ zA k (n + 1) tk + 12) := hz6
        have HR6d : Hid (Rd w6 rb (m + 2 + 200 + 2 * k + 2 * (n + 1))) := hr6
        have HST6 : Hid (Step rb w w6) := HST5.out.trans st6
        clear x0 x1 x2 x3 x4 x5 HCV hV6 hok6 hz6 hr6 st6 HR5 hr5 HST5
        go_wp2
        go_ret
        have hput := kid_put (keptA (k + 1) (n + 2)) (madeA (k + 1) (n + 2)) (fA k (n + 1)) (fun S W v t h => fA_V h) HR6.out hg3 HOB.out hg4 hs6 [.int .i64 kd6, .int .i64 op6, .slice pa6 la6 ca6, .slice pk6 lk6 ck6, .slice pc6 lc6 cc6, .slice pq6 lq6 cq6] rfl (kk := kk) (fun j hj => by
          match j, hj with
          | 0, _ => simp [y0]
          | 1, _ => simp [y1]
          | 2, _ => simp [y2]
          | 3, _ => simp [y3]
          | 4, _ => simp [y4]
          | 5, _ => simp [y5]) t6 HV6.out
        have hrW := Rd.setCells (show rb < g by omega) [.int .i64 kd6, .int .i64 op6, .slice pa6 la6 ca6, .slice pk6 lk6 ck6, .slice pc6 lc6 cc6, .slice pq6 lq6 cq6] (kk * 6) w6 HR6d.out
        have hsW := Step.setCells (show w.heap.size ≤ g by omega) [.int .i64 kd6, .int .i64 op6, .slice pa6 la6 ca6, .slice pk6 lk6 ck6, .slice pc6 lc6 cc6, .slice pq6 lq6 cq6] (kk * 6) w6 HST6.out
        have hln : ((us.map (fA k (n + 1))).set kk t6).length = us.length := by simp
        refine ⟨some ⟨g, 0, none⟩, cap5, (us.map (fA k (n + 1))).set kk t6, by rw [hln]; rfl, hput, fun u hu => ?_, by rw [hln]; exact hl, ?_, hrW.mono (by omega), hsW⟩
        · rcases List.mem_or_eq_of_mem_set hu with h | h
          · exact okAm_mono (by omega) _ (kidsA_ok HOK.out u h)
          · rw [h]; exact HOK6.out
        · have h1 := tot_set (zA (k + 1) (n + 2)) (us.map (fA k (n + 1))) kk (fA k (n + 1) tk) t6 (by rw [List.getElem?_map, htk]; rfl)
          rw [kidsA_z, fA_z] at h1
          have h3 := HZ6.out
          show tot (zA (k + 1) (n + 2)) ((us.map (fA k (n + 1))).set kk t6) ≤ z + 2000
          omega
end Go.Proofs.YtjkpingdokkkcaaGreatDoor.Tr
