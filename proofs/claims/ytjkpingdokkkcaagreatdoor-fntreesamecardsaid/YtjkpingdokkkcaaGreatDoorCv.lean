/- The drawing of arms: l6Arm. Helper text: no statement is claimed here. -/
import Derived.Test.YtjkpingdokkkcaaGreatDoorP18
namespace Go.Proofs.YtjkpingdokkkcaaGreatDoor.Tr
open Go.ChangeShapes Go.WideShapes Go.ChangeAt Go.RowKit

set_option maxHeartbeats 2000000 in
set_option maxRecDepth 100000 in
theorem l6Arm_of (D : Nat) (IH : ∀ d, D = d + 1 → ArmDr d) (zk mk : Nat) (hzk : ∀ d, D = d + 1 → zk = 3 * Za d) (hmk : ∀ d, D = d + 1 → mk = 3 * Mar d) (rb m : Nat) (root : Bool) (w : World) (hr : Rd w rb m) (hm : m + 600 + mk ≤ 500000) (hD : D ≤ 500000) :
    Calls Tryz.prog 50 #[.pointer (some ⟨rb, 0, none⟩), .int .i64 (D : Int), .bool root] w (ADr 2 D (62 + zk) rb (m + 600 + mk) w) := by
  have hlt := hr.lt
  have hM2 : Mn 2 = 411 := rfl
  have hZ2 : Zn 2 = 51 := rfl
  have HI : Hid (∀ d, D = d + 1 → ArmDr d) := IH
  have HZK : Hid (∀ d, D = d + 1 → zk = 3 * Za d) := hzk
  have HMK : Hid (∀ d, D = d + 1 → mk = 3 * Mar d) := hmk
  clear IH hzk hmk
  go_enter Tryz.func50, Tryz.ntmps50
  go_upto_region 2 with fail
  have HR0 : Hid (Zero6 ((w.alloc (.cells #[.int .i64 0, .int .i64 0, .slice none 0 0, .slice none 0 0, .slice none 0 0, .slice none 0 0] 52)).alloc (.cells #[.int .i64 0, .int .i64 0, .slice none 0 0, .slice none 0 0, .slice none 0 0, .slice none 0 0] 52)) w.heap.size) := (Own6.new w _ _ _ _ _ _).alloc _
  have HB0 : Hid (Zero6 ((w.alloc (.cells #[.int .i64 0, .int .i64 0, .slice none 0 0, .slice none 0 0, .slice none 0 0, .slice none 0 0] 52)).alloc (.cells #[.int .i64 0, .int .i64 0, .slice none 0 0, .slice none 0 0, .slice none 0 0, .slice none 0 0] 52)) (w.heap.size + 1)) := by
    have := Own6.new (w.alloc (.cells #[.int .i64 0, .int .i64 0, .slice none 0 0, .slice none 0 0, .slice none 0 0, .slice none 0 0] 52)) (.int .i64 0) (.int .i64 0) (.slice none 0 0) (.slice none 0 0) (.slice none 0 0) (.slice none 0 0)
    have e : Own6 ((w.alloc (.cells #[.int .i64 0, .int .i64 0, .slice none 0 0, .slice none 0 0, .slice none 0 0, .slice none 0 0] 52)).alloc (.cells #[.int .i64 0, .int .i64 0, .slice none 0 0, .slice none 0 0, .slice none 0 0, .slice none 0 0] 52)) (w.heap.size + 1) (.int .i64 0) (.int .i64 0) (.slice none 0 0) (.slice none 0 0) (.slice none 0 0) (.slice none 0 0) := by simpa using this
    exact e
  have HS0 : Hid (Step rb w ((w.alloc (.cells #[.int .i64 0, .int .i64 0, .slice none 0 0, .slice none 0 0, .slice none 0 0, .slice none 0 0] 52)).alloc (.cells #[.int .i64 0, .int .i64 0, .slice none 0 0, .slice none 0 0, .slice none 0 0, .slice none 0 0] 52))) := (Step.alloc rb w _).trans (Step.alloc rb _ _)
  have hr0 := (hr.alloc (.cells #[.int .i64 0, .int .i64 0, .slice none 0 0, .slice none 0 0, .slice none 0 0, .slice none 0 0] 52)).alloc (.cells #[.int .i64 0, .int .i64 0, .slice none 0 0, .slice none 0 0, .slice none 0 0, .slice none 0 0] 52)
  go_cut [16] from 10 (fun s wx => ∃ b : Bool, s = .bool b ∧ Rd wx rb (m + 1) ∧ Hid (Step rb w wx) ∧ Hid (Zero6 wx w.heap.size) ∧ Hid (Zero6 wx (w.heap.size + 1)))
  case first =>
    cases root with
    | false =>
      go_wp2_with fail
      refine (pick_any rb m 3 _ (by omega) hr0 (by omega)).mono ?_
      rintro e wx ⟨k, rfl, k0, k1, -, hrx, stx⟩
      go_wp2
      go_meet
      exact ⟨_, rfl, hrx, HS0.out.trans stx, HR0.out.step stx (by omega), HB0.out.step stx (by omega)⟩
    | true =>
      go_wp2
      go_meet
      exact ⟨_, rfl, hr0.mono (by omega), HS0.out, HR0.out, HB0.out⟩
  case rest =>
    obtain ⟨b, rfl, hrx, HSX, HRX, HBX⟩ := hcut
    clear HR0 HB0 HS0 hr0 hr
    have hbX := HBX.out.lt
    go_upto_if 16 with fail
    go_cut [] from 10 (fun wx => Hid (ANet rb (m + 412) w wx))
    case first =>
      cases b with
      | false =>
        go_wp2
        go_meet
        exact ⟨0, 0, none, 0, 0, none, 0, 0, ((0, (0, []), []) : NT 3), HBX.out, HRX.out, ⟨⟨none, 0, none, 0, rfl, sl_nil, sl_nil⟩, ⟨⟨Nat.zero_le _, show Sm 0 from ⟨by omega, by omega⟩, fun a ha => (by cases ha)⟩, fun u hu => (by cases hu)⟩, show 0 + (0 + 0) ≤ 51 by omega⟩, hrx.mono (by omega), HSX.out⟩
      | true =>
        go_wp2_with fail
        refine Calls.mono (show Calls Tryz.prog 65 #[.pointer (some ⟨rb, 0, none⟩), .int .i64 2] _ (NDr 2 (Zn 2) rb (m + 1 + Mn 2) _) from l6Net_all 2 rb (m + 1) _ hrx (by omega)) ?_
        rintro e w3 ⟨v, tn, rfl, hV, hok, hz, hr3, st3⟩
        obtain ⟨kd, op, pa, la, ca, pk, lk, ck, rfl⟩ := hV.parts
        have HB3 : Hid (Zero6 w3 (w.heap.size + 1)) := HBX.out.step st3 (by omega)
        have HR3 : Hid (Zero6 w3 w.heap.size) := HRX.out.step st3 (by omega)
        obtain ⟨c0, c1, c2, c3, -, -⟩ := HB3.out.cells
        obtain ⟨f0, f1, f2, f3, -, -⟩ := HB3.out.free
        go_wp2
        go_meet
        have o4 := out4 (O := Non) (base := w.heap.size + 2) (w := w3) (y0 := .int .i64 kd) (y1 := .int .i64 op) (y2 := .slice pa la ca) (y3 := .slice pk lk ck) (c := w.heap.size + 1) (by omega) (fun h => h.elim)
        refine ⟨kd, op, pa, la, ca, pk, lk, ck, tn, HB3.out.putN _ _ _ _, (((HR3.out.set (by omega)).set (by omega)).set (by omega)).set (by omega), ⟨hV.to (S' := Frs Non (w.heap.size + 2) _) (o4.keepF ?_) ?_, hok, Nat.le_trans hz (by omega)⟩, rd4 (hr3.mono (by omega)) (by omega), step4 (HSX.out.trans st3) (by omega)⟩
        · intro b hb
          rcases hb with hb | hb
          · exact hb.elim
          · exact .inr ⟨by omega, hb.2⟩
        · intro b hb
          rcases hb with hb | hb
          · exact hb.elim
          · exact .inr ⟨by omega, by have := o4.size; omega⟩
    case rest =>
      have HAN : Hid (ANet rb (m + 412) w wc) := hcut
      have hrn : Rd wc rb (m + 412) := by
        obtain ⟨kd, op, pa, la, ca, pk, lk, ck, tn, -, -, -, h, -⟩ := HAN.out
        exact h
      clear hcut HSX HRX HBX hrx hbX
      go_wp2_with fail
      refine (pick_any rb (m + 412) 3 _ (by omega) hrn (by omega)).mono ?_
      rintro e w4 ⟨k, rfl, k0, k1, -, hr4, st4⟩
      obtain ⟨c0, rfl⟩ := Int.eq_ofNat_of_zero_le k0
      have hc0 : c0 ≤ 2 := by have := k1 (by omega); omega
      have HC0 : Hid (CLoop rb (m + 413) w w4.heap.size c0 w4) := cloop_start HAN.out hlt st4 hr4 hc0
      have hw1 : w.heap.size + 2 ≤ w4.heap.size := by
        obtain ⟨kd, op, pa, la, ca, pk, lk, ck, tn, pc, cc, es, -, -, h, -, -, -, -, -, -⟩ := HC0.out
        exact h.lt
      clear HAN hrn k1 k0 hr4 st4
      obtain ⟨b1, hb1e⟩ : ∃ b1, b1 = w4.heap.size := ⟨_, rfl⟩
      rw [← hb1e] at HC0 hw1
      clear hb1e
      go_wp2
      go_loopw [8] (fun d8 w' => ∃ c : Nat, c ≤ 2 ∧ d8 = .int .i64 (c : Int) ∧ Hid (CLoop rb (m + 413) w b1 c w')) (fun d8 _ => (intOf d8).toNat)
      case atStart => exact ⟨c0, hc0, rfl, HC0⟩
      case round =>
        obtain ⟨c, hc, rfl, HL⟩ := hrel
        clear HC0
        rename_i wr
        by_cases hlt8 : 0 < c
        · obtain ⟨c, rfl⟩ : ∃ c', c = c' + 1 := ⟨c - 1, by omega⟩
          have hlt8' : (0 : Int) < ((c + 1 : Nat) : Int) := by omega
          obtain ⟨kd, op, pa, la, ca, pk, lk, ck, tn, pc, cc, es, hlen, hb1, hbox, hres, hN, hrow, hok, hrd, hst⟩ := HL.out
          have hbl := hbox.lt
          have x0 := hbox.cells.2.2.2.2.1
          have HLEN : Hid (es.length + (c + 1) ≤ 2) := hlen
          have HBOX : Hid (Own6 wr (w.heap.size + 1) (.int .i64 kd) (.int .i64 op) (.slice pa la ca) (.slice pk lk ck) (.slice pc es.length cc) (.slice none 0 0)) := hbox
          have HRES : Hid (Zero6 wr w.heap.size) := hres
          have HN : Hid (NP (mid w b1) wr kd op pa la ca pk lk ck tn) := hN
          have HROW : Hid (RowE (mid w b1) b1 wr (.slice pc es.length cc) es) := hrow
          have HOK : Hid (∀ e ∈ es, okEl 3 e) := hok
          have HST : Hid (Step rb w wr) := hst
          clear hbox hres hN hrow hok hst HL hlen
          go_wp2
          go_region_law
            (first
              | (refine stepE _ (by rfl) (.tmp 27) (.tmp 30) (by rfl) (mid w b1) b1 _ es (by rfl) (rowE_in HROW.out HST6.out (by omega) (mid_ok hb1 hlt) _) op' p' ys'.length cap' w6.heap.size (by rfl) (last _ _) (op', ys') (newE_in HA6.out HROW.out hb1 _) (by have := HLEN.out; omega) (by have := HST6.out.size; simp; omega) (fun b hb => hb.2) ?_; intro g7 cap7 w7 HR7 HG7 hg7 hl7; have HLK : Hid (∀ b, b < b1 → b ≠ rb → w7.heap[b]? = wr.heap[b]?) := low_keep HST6.out (rowE_below (rowE_in HROW.out HST6.out (by omega) (mid_ok hb1 hlt) (.cells #[.int .i64 op', .slice p' ys'.length cap'] 46)) HG7.out (by have := HST6.out.size; simp; omega)) hb1; have HB7 : Hid (Own6 w7 (w.heap.size + 1) (.int .i64 kd) (.int .i64 op) (.slice pa la ca) (.slice pk lk ck) (.slice pc es.length cc) (.slice none 0 0)) := HBOX.out.to (HLK.out _ (by omega) (by omega)); have x7 := HB7.out.cells.2.2.2.2.1; have y7 := HB7.out.free.2.2.2.2.1)
              | (rw [if_pos (by rfl)]; go_simp; go_at_call 27; refine (coil_dr rb _ _ hrd.drew (by have := HLEN.out; omega)).mono ?_; rintro e w6 ⟨op', ys', p', cap', rfl, hA6, hok6, hr6, st6⟩; have st6' : Step rb wr w6 := (Step.drew rb wr).trans st6; have x6 := (st6'.cell (w.heap.size + 1) 4 hbl (by omega)).trans x0; have hbl6 := Nat.lt_of_lt_of_le hbl st6'.size; have HST6 : Hid (Step rb wr w6) := st6'; have HA6 : Hid (SlOf (Frs Non wr.heap.size w6) (ArE w6) 3 p' cap' ys') := hA6; clear hA6 st6 st6'; dsimp only))
          all_goals (try go_wp2)
          all_goals exact ⟨⟨c, by omega, by go_num, cloop_step HLEN.out hb1 HRES.out HN.out HROW.out HOK.out HST.out hlt hw1 HST6.out hok6 hr6 HB7.out HR7.out HG7.out⟩, by simp [intOf]⟩
        · obtain rfl : c = 0 := by omega
          have hrw : Rd wr rb (m + 493) := by
            obtain ⟨kd, op, pa, la, ca, pk, lk, ck, tn, pc, cc, es, h, -, -, -, -, -, -, h', -⟩ := HL.out
            exact h'.mono (by omega)
          go_upto_region 8 with fail
          go_cut [39] from 10 (fun s wx => ∃ b : Bool, s = .bool b ∧ Hid (b = true → 0 < D) ∧ Rd wx rb (m + 494) ∧ Hid (Step rb wr wx))
          case first =>
            rcases Nat.eq_zero_or_pos D with h0 | h0
            · have hD0 : ¬ ((0 : Int) < (D : Int)) := by omega
              have hD0' : (D : Int) ≤ 0 := by omega
              have HH : Hid (D = 0) := h0
              clear h0
              go_wp2
              go_meet
              exact ⟨false, rfl, fun h => (by cases h), hrw.mono (by omega), Step.refl _ _⟩
            · have hD0 : (0 : Int) < (D : Int) := by omega
              go_wp2_with fail
              refine (pick_any rb (m + 493) 3 _ (by omega) hrw (by omega)).mono ?_
              rintro e wy ⟨k, rfl, k0, k1, -, hry, sty⟩
              go_wp2
              go_meet
              exact ⟨_, rfl, fun _ => h0, hry, sty⟩
          case rest =>
            obtain ⟨b, rfl, HDB, hrx, HSX⟩ := hcut
            go_upto_if 39 with fail
            go_cut [] from 10 (fun wx => Hid (AEnd D zk rb (m + 495 + mk) w wx))
            case first =>
              cases b with
              | false =>
                go_wp2
                go_meet
                exact (cloop_end (d := D) (zk := zk) HL.out hlt hw1 HSX.out (hrx.mono (by omega))).mono (by omega)
              | true =>
                obtain ⟨d, hd⟩ : ∃ d, D = d + 1 := ⟨D - 1, by have := HDB.out rfl; omega⟩
                subst hd
                have HI' : Hid (ArmDr d) := HI.out d rfl
                have HZ : Hid (zk = 3 * Za d) := HZK.out d rfl
                have hmk' : mk = 3 * Mar d := HMK.out d rfl
                go_wp2_with fail
                refine (pick_any rb (m + 494) 3 _ (by omega) hrx (by omega)).mono ?_
                rintro e wy ⟨k, rfl, k0, k1, -, hry, sty⟩
                obtain ⟨c0, rfl⟩ := Int.eq_ofNat_of_zero_le k0
                have hc1 : c0 ≤ 2 := by have := k1 (by omega); omega
                have HK0 : Hid (KLoop d rb (m + 413 + 82) w wy.heap.size (1 + c0) wy) := kloop_start HL.out hlt hw1 (HSX.out.trans sty) hry (by omega) (by omega)
                have hw2 : w.heap.size + 2 ≤ wy.heap.size := by
                  obtain ⟨kd, op, pa, la, ca, pk, lk, ck, tn, pc, cc, es, pq, cq, us, -, -, -, -, h, -⟩ := HK0.out
                  exact h.lt
                obtain ⟨b2, hb2e⟩ : ∃ b2, b2 = wy.heap.size := ⟨_, rfl⟩
                rw [← hb2e] at HK0 hw2
                clear hb2e sty hry k1 k0 HSX hrx hrw HL
                go_wp2
                go_loopw [9] (fun d8 w' => ∃ c : Nat, c ≤ 3 ∧ d8 = .int .i64 (c : Int) ∧ Hid (KLoop d rb (m + 413 + 82) w b2 c w')) (fun d8 _ => (intOf d8).toNat)
                case atStart => exact ⟨1 + c0, by omega, by go_num, HK0⟩
                case round =>
                  obtain ⟨c, hc, rfl, HL⟩ := hrel
                  clear HK0
                  rename_i wr
                  by_cases hlt8 : 0 < c
                  · obtain ⟨c, rfl⟩ : ∃ c', c = c' + 1 := ⟨c - 1, by omega⟩
                    have hlt8' : (0 : Int) < ((c + 1 : Nat) : Int) := by omega
                    obtain ⟨kd, op, pa, la, ca, pk, lk, ck, tn, pc, cc, es, pq, cq, us, hlen, hul, hu1, hb2, hbox, hres, hN, hS, hok, hrow, hoku, hzu, hrd, hst⟩ := HL.out
                    have hbl := hbox.lt
                    have x0 := hbox.cells.2.2.2.2.2
                    have hMj : m + 413 + 82 + us.length * Mar d + Mar d ≤ 500000 := by
                      have : (us.length + 1) * Mar d ≤ 3 * Mar d := Nat.mul_le_mul_right _ (by omega)
                      rw [Nat.add_mul, Nat.one_mul] at this
                      omega
                    have HCALL : Hid (∀ W, Rd W rb (m + 413 + 82 + us.length * Mar d) → Calls Tryz.prog 50 #[.pointer (some ⟨rb, 0, none⟩), .int .i64 (d : Int), .bool false] W (ADr 2 d (Za d) rb (m + 413 + 82 + us.length * Mar d + Mar d) W)) := fun W hW => HI'.out rb _ false W hW hMj
                    have HLEN : Hid (es.length ≤ 2) := hlen
                    have HUL : Hid (us.length + (c + 1) ≤ 3) := hul
                    have HBOX : Hid (Own6 wr (w.heap.size + 1) (.int .i64 kd) (.int .i64 op) (.slice pa la ca) (.slice pk lk ck) (.slice pc es.length cc) (.slice pq us.length cq)) := hbox
                    have HRES : Hid (Zero6 wr w.heap.size) := hres
                    have HN : Hid (NP (mid w b2) wr kd op pa la ca pk lk ck tn) := hN
                    have HS : Hid (SlOf (mid w b2) (ElE (mid w b2) wr) 2 pc cc es) := hS
                    have HROW : Hid (RowA (mid w b2) 2 (d + 1) b2 wr (.slice pq us.length cq) us) := hrow
                    have HOK : Hid (∀ e ∈ es, okEl 3 e) := hok
                    have HOKU : Hid (∀ u ∈ us, okAm 3 2 (d + 1) u) := hoku
                    have HZU : Hid (tot (zA 2 (d + 1)) us ≤ us.length * Za d) := hzu
                    have HST : Hid (Step rb w wr) := hst
                    clear hbox hres hN hrow hok hst HL hlen hul hu1 hS hoku hzu hMj
                    go_wp2
                    go_region_law
                      (first
                        | (refine stepA _ (by rfl) (.tmp 48) (.tmp 53) (by rfl) (mid w b2) 2 (d + 1) b2 _ us (by rfl) (rowA_in HROW.out HST6.out (by omega) (mid_ok hb2 hlt) _) kd' op' pa' la' ca' pk' lk' ck' pc' lc' cc' pq' lq' cq' w6.heap.size (by rfl) (last _ _) t (newA_in HV6.out HROW.out hb2 _) (by have := HUL.out; omega) (by have := HST6.out.size; simp; omega) (fun b hb => hb.2) ?_; intro g7 cap7 w7 HR7 HG7 hg7 hl7; have HLK : Hid (∀ b, b < b2 → b ≠ rb → w7.heap[b]? = wr.heap[b]?) := low_keep HST6.out (rowA_below (rowA_in HROW.out HST6.out (by omega) (mid_ok hb2 hlt) (.cells #[.int .i64 kd', .int .i64 op', .slice pa' la' ca', .slice pk' lk' ck', .slice pc' lc' cc', .slice pq' lq' cq'] 52)) HG7.out (by have := HST6.out.size; simp; omega)) hb2; have HB7 : Hid (Own6 w7 (w.heap.size + 1) (.int .i64 kd) (.int .i64 op) (.slice pa la ca) (.slice pk lk ck) (.slice pc es.length cc) (.slice pq us.length cq)) := HBOX.out.to (HLK.out _ (by omega) (by omega)); have x7 := HB7.out.cells.2.2.2.2.2; have y7 := HB7.out.free.2.2.2.2.2)
                        | (rw [if_pos (by rfl)]; go_simp; go_at_call 50; rw [wrapd _ (by omega) (by omega)]; refine (HCALL.out _ hrd.drew).mono ?_; rintro e w6 ⟨v, t, rfl, hV, hokt, hzt, hr6, st6⟩; obtain ⟨kd', op', pa', la', ca', pk', lk', ck', pc', lc', cc', pq', lq', cq', rfl⟩ := hV.partsA; have st6' : Step rb wr w6 := (Step.drew rb wr).trans st6; have x6 := (st6'.cell (w.heap.size + 1) 5 hbl (by omega)).trans x0; have hbl6 := Nat.lt_of_lt_of_le hbl st6'.size; have HST6 : Hid (Step rb wr w6) := st6'; have HV6 : Hid (AmV (Frs Non wr.heap.size w6) w6 2 (d + 1) (.agg #[.int .i64 kd', .int .i64 op', .slice pa' la' ca', .slice pk' lk' ck', .slice pc' lc' cc', .slice pq' lq' cq']) t) := hV; clear hV st6 st6'; dsimp only))
                    all_goals (try go_wp2)
                    all_goals exact ⟨⟨c, by omega, by go_num, kloop_step HLEN.out HUL.out hb2 HRES.out HN.out HS.out HOK.out HROW.out HOKU.out HZU.out HST.out hlt hw2 HST6.out hokt hzt hr6 HB7.out HR7.out HG7.out⟩, by simp [intOf]⟩
                  · obtain rfl : c = 0 := by omega
                    go_wp2
                    go_meet
                    have hE := kloop_end HL.out hw2
                    rw [← HZ.out] at hE
                    exact hE.mono (by omega)
            case rest =>
              have HE : Hid (AEnd D zk rb (m + 495 + mk) w wc) := hcut
              clear hcut HSX hrx HDB hrw HL HI HZK HMK
              obtain ⟨kd, op, pa, la, ca, pk, lk, ck, tn, pc, cc, es, pq, cq, us, hlen, hul, hbox, hres, hok, hoku, hzu, hrd, hst, hd⟩ := HE.out
              have HFIN : (es ≠ [] ∨ us ≠ []) → Hid (NP (Frs Non (w.heap.size + 2) wc) wc kd op pa la ca pk lk ck tn ∧ SlOf (Frs Non (w.heap.size + 2) wc) (ElE (Frs Non (w.heap.size + 2) wc) wc) 2 pc cc es ∧ SlOf (Frs Non (w.heap.size + 2) wc) (AmE (Frs Non (w.heap.size + 2) wc) wc 2 D) 6 pq cq us) := fun _ => by
                rcases hd with ⟨h1, b1, h2, h3, h4, h5⟩ | ⟨-, h2, h3, h4⟩
                · exact ⟨(rows_done h3 h2 h4 h5).1, (rows_done h3 h2 h4 h5).2, by rw [h1]; exact sl_nil⟩
                · exact ⟨h2, h3, h4⟩
              have HLEN : Hid (es.length ≤ 2) := hlen
              have HUL : Hid (us.length ≤ 3) := hul
              have HBOX : Hid (Own6 wc (w.heap.size + 1) (.int .i64 kd) (.int .i64 op) (.slice pa la ca) (.slice pk lk ck) (.slice pc es.length cc) (.slice pq us.length cq)) := hbox
              have HRES : Hid (Zero6 wc w.heap.size) := hres
              have HOK : Hid (∀ e ∈ es, okEl 3 e) := hok
              have HOKU : Hid (∀ u ∈ us, okAm 3 2 D u) := hoku
              have HZU : Hid (tot (zA 2 D) us ≤ zk) := hzu
              have HST : Hid (Step rb w wc) := hst
              have HD : Hid ((us = [] ∧ ∃ b1, b1 ≤ wc.heap.size ∧ w.heap.size + 2 ≤ b1 ∧ NP (mid w b1) wc kd op pa la ca pk lk ck tn ∧ RowE (mid w b1) b1 wc (.slice pc es.length cc) es) ∨ (us ≠ [] ∧ NP (Frs Non (w.heap.size + 2) wc) wc kd op pa la ca pk lk ck tn ∧ SlOf (Frs Non (w.heap.size + 2) wc) (ElE (Frs Non (w.heap.size + 2) wc) wc) 2 pc cc es ∧ SlOf (Frs Non (w.heap.size + 2) wc) (AmE (Frs Non (w.heap.size + 2) wc) wc 2 D) 6 pq cq us)) := hd
              have hbl := hbox.lt
              obtain ⟨c0, c1, c2, c3, c4, c5⟩ := hbox.cells
              obtain ⟨f0, f1, f2, f3, f4, f5⟩ := hres.free
              obtain ⟨r0, r1, r2, r3, r4, r5⟩ := hres.cells
              clear hlen hul hbox hres hok hoku hzu hst hd HE
              by_cases he : es = []
              · subst he
                by_cases hu : us = []
                · subst hu
                  obtain ⟨b1, hb1, hw1, HN, HROW⟩ : ∃ b1, b1 ≤ wc.heap.size ∧ w.heap.size + 2 ≤ b1 ∧ Hid (NP (mid w b1) wc kd op pa la ca pk lk ck tn) ∧ Hid (RowE (mid w b1) b1 wc (.slice pc ([] : List El).length cc) []) := by
                    rcases HD.out with ⟨-, b1, h2, h3, h4, h5⟩ | ⟨h, -⟩
                    · exact ⟨b1, h2, h3, h4, h5⟩
                    · exact absurd rfl h
                  clear HFIN HD
                  go_wp2
                  go_region_law
                    (first
                      | (refine stepE _ (by rfl) (.tmp 67) (.tmp 70) (by rfl) (mid w b1) b1 _ ([] : List El) (by rfl) (rowE_in HROW.out HST6.out (by omega) (mid_ok hb1 hlt) _) op' p' ys'.length cap' w6.heap.size (by rfl) (last _ _) (op', ys') (newE_in HA6.out HROW.out hb1 _) (by have := HLEN.out; omega) (by have := HST6.out.size; simp; omega) (fun b hb => hb.2) ?_; intro g7 cap7 w7 HR7 HG7 hg7 hl7; have HLK : Hid (∀ b, b < b1 → b ≠ rb → w7.heap[b]? = wc.heap[b]?) := low_keep HST6.out (rowE_below (rowE_in HROW.out HST6.out (by omega) (mid_ok hb1 hlt) (.cells #[.int .i64 op', .slice p' ys'.length cap'] 46)) HG7.out (by have := HST6.out.size; simp; omega)) hb1; have HB7 : Hid (Own6 w7 (w.heap.size + 1) (.int .i64 kd) (.int .i64 op) (.slice pa la ca) (.slice pk lk ck) (.slice pc ([] : List El).length cc) (.slice pq ([] : List (AT 2 D)).length cq)) := HBOX.out.to (HLK.out _ (by omega) (by omega)); obtain ⟨g0, g1, g2, g3, g4, g5⟩ := HB7.out.cells; have y7 := HB7.out.free.2.2.2.2.1; have HRS7 : Hid (Zero6 w7 w.heap.size) := HRES.out.to (HLK.out _ (by omega) (by omega)); obtain ⟨h0, h1, h2, h3, h4, h5⟩ := HRS7.out.cells; obtain ⟨z0, z1, z2, z3, z4, z5⟩ := HRS7.out.free)
                      | (rw [if_pos (by rfl)]; go_simp; go_at_call 27; refine (coil_dr rb _ _ hrd.drew (by have := HLEN.out; omega)).mono ?_; rintro e w6 ⟨op', ys', p', cap', rfl, hA6, hok6, hr6, st6⟩; have st6' : Step rb wc w6 := (Step.drew rb wc).trans st6; have x6 := (st6'.cell (w.heap.size + 1) 4 hbl (by omega)).trans c4; have hbl6 := Nat.lt_of_lt_of_le hbl st6'.size; have HST6 : Hid (Step rb wc w6) := st6'; have HA6 : Hid (SlOf (Frs Non wc.heap.size w6) (ArE w6) 3 p' cap' ys') := hA6; clear hA6 st6 st6'; dsimp only))
                  all_goals (try go_wp2)
                  all_goals refine bodyPost_ret (v := .agg #[.int .i64 kd, .int .i64 op, .slice pa la ca, .slice pk lk ck, .slice (some ⟨g7, 0, none⟩) 1 cap7, .slice pq 0 cq]) (resArm (b := w.heap.size) Tryz.results50 rfl ((HRS7.out.set (by omega)).put _ _ _ _ _ _).cells) rfl ?_
                  all_goals have hL := cloop_last hb1 HN.out HROW.out HST.out hlt hw1 HST6.out hr6 HR7.out HG7.out
                  all_goals exact arm_done (d := D) (z := 62 + zk) (M := m + 600 + mk) (es := [(op', ys')]) (us := []) (by simp) (by simp) (fun e he => by rw [List.mem_singleton.1 he]; exact hok6) (fun u hu => (by cases hu)) (by simp [tot]) (hL.2.1.mono (by omega)) hL.2.2 hlt hL.1.1 hL.1.2 sl_nil
                · have hu0 : ¬ (us.length : Int) = 0 := by
                    have := List.length_pos_iff.2 hu
                    omega
                  have HF := HFIN (.inr hu)
                  clear hu HFIN
                  go_wp2
                  refine bodyPost_ret (v := .agg #[.int .i64 kd, .int .i64 op, .slice pa la ca, .slice pk lk ck, .slice pc 0 cc, .slice pq us.length cq]) (resArm (b := w.heap.size) Tryz.results50 rfl (HRES.out.put _ _ _ _ _ _).cells) rfl ?_
                  exact arm_done (d := D) (z := 62 + zk) (M := m + 600 + mk) (es := []) HLEN.out HUL.out HOK.out HOKU.out (by have := HZU.out; omega) (hrd.mono (by omega)) HST.out hlt HF.out.1 HF.out.2.1 HF.out.2.2
              · have he0 : ¬ (es.length : Int) = 0 := by
                  have := List.length_pos_iff.2 he
                  omega
                have he1 : ((es.length : Int) == 0) = false := by simp [he]
                have HF := HFIN (.inl he)
                clear HFIN
                go_wp2
                refine bodyPost_ret (v := .agg #[.int .i64 kd, .int .i64 op, .slice pa la ca, .slice pk lk ck, .slice pc es.length cc, .slice pq us.length cq]) (resArm (b := w.heap.size) Tryz.results50 rfl (HRES.out.put _ _ _ _ _ _).cells) rfl ?_
                exact arm_done (d := D) (z := 62 + zk) (M := m + 600 + mk) HLEN.out HUL.out HOK.out HOKU.out (by have := HZU.out; omega) (hrd.mono (by omega)) HST.out hlt HF.out.1 HF.out.2.1 HF.out.2.2
end Go.Proofs.YtjkpingdokkkcaaGreatDoor.Tr
