/- The spoiling of arms: l6SpoilArm. Helper text: no statement is claimed here. -/
import Derived.Test.YtjkpingdokkkcaaGreatDoorEk
namespace Go.Proofs.YtjkpingdokkkcaaGreatDoor.Tr
open Go.ChangeShapes Go.WideShapes Go.ChangeAt Go.RowKit

theorem spoilN_all : ∀ n, SpoilN n
  | 0 => fun _ _ _ _ _ _ _ _ _ _ _ hV _ _ _ _ _ => hV.elim
  | n + 1 => spoilN_next n (spoilN_all n)
/-- An arm is spoilt: old blocks and new ones. -/
def SAr (O : Nat → Prop) (L k n z rb m : Nat) (w : World) (e : Ending) (w' : World) : Prop := ∃ (v : Value) (t : AT (k + 1) (n + 1)), e = .returned v ∧ AmV (Frs O w.heap.size w') w' (k + 1) (n + 1) v t ∧ okAm L (k + 1) (n + 1) t ∧ zA (k + 1) (n + 1) t ≤ z ∧ Rd w' rb m ∧ Step rb w w'
def SpoilA (k n : Nat) : Prop := ∀ (O : Nat → Prop) (L z rb m : Nat) (w : World) (v : Value) (t : AT k n) (_ : Rd w rb m) (_ : m + 200 + 2 * k + 2 * n ≤ 600000) (_ : ∀ b, O b → b < w.heap.size ∧ b ≠ rb) (_ : AmV O w k n v t) (_ : okAm L k n t) (_ : zA k n t ≤ z) (_ : z ≤ 90000) (_ : 3 ≤ L) (_ : L ≤ 9),
  Calls Tryz.prog 29 #[.pointer (some ⟨rb, 0, none⟩), v] w (SAr O (L + 1) k n (z + 12) rb (m + 200 + 2 * k + 2 * n) w)
/-- One more of each depth. -/
def fA (k n : Nat) (a : AT k n) : AT (k + 1) (n + 1) := upA (k + 1) n (upK k n a)
theorem fA_V {k n : Nat} {S : Nat → Prop} {W : World} {v : Value} {t : AT k n} (h : AmV S W k n v t) : AmV S W (k + 1) (n + 1) v (fA k n t) := upA_V n (upK_V n h)
theorem fA_z {k n : Nat} (t : AT k n) : zA (k + 1) (n + 1) (fA k n t) = zA k n t := (upA_z n _).trans (upK_z n t)
theorem kidsA_up {O S : Nat → Prop} {k n : Nat} {w X : World} {pk : Option Addr} {ck : Nat} {ks : List (AT k n)} (h : SlOf O (AmE O w k n) 6 pk ck ks) (hk : Keep O w X) (hS : ∀ b, O b → S b) : SlOf S (AmE S X (k + 1) (n + 1)) 6 pk ck (ks.map (fA k n)) := (arms_to hk hS h).map (fA k n) fun _ _ _ h => upA_E n (upK_E n h)
theorem kidsA_z {k n : Nat} (ks : List (AT k n)) : tot (zA (k + 1) (n + 1)) (ks.map (fA k n)) = tot (zA k n) ks := tot_map (fA k n) _ (zA k n) fA_z ks
theorem kidsA_ok {L k n : Nat} {ks : List (AT k n)} (h : ∀ u ∈ ks, okAm L k n u) : ∀ u ∈ ks.map (fA k n), okAm L (k + 1) (n + 1) u := fun u hu => by
  obtain ⟨x, hx, rfl⟩ := List.mem_map.1 hu
  exact upA_ok n (upK_ok n (h x hx))
theorem sarm_done {O : Nat → Prop} {L k n z rb M : Nat} {w W : World} {kd op : Int} {pa : Option Addr} {la ca : Nat} {pk : Option Addr} {lk ck : Nat} {pc : Option Addr} {lc cc : Nat} {pq : Option Addr} {lq cq : Nat} {t : AT (k + 1) (n + 1)} (hO : ∀ b, O b → b < w.heap.size ∧ b ≠ rb) (hV : AmV (Frs O (w.heap.size + 2) W) W (k + 1) (n + 1) (.agg #[.int .i64 kd, .int .i64 op, .slice pa la ca, .slice pk lk ck, .slice pc lc cc, .slice pq lq cq]) t) (hok : okAm L (k + 1) (n + 1) t) (hz : zA (k + 1) (n + 1) t ≤ z) (hr : Rd W rb M) (st : Step rb w W) (hrb : rb < w.heap.size) :
    SAr O L k n z rb M w (.returned (.agg #[.int .i64 kd, .int .i64 op, .slice pa la ca, .slice pk lk ck, .slice pc lc cc, .slice pq lq cq])) ((((((W.setCell ⟨w.heap.size + 1, 0, none⟩ (.int .i64 kd)).setCell ⟨w.heap.size + 1, 1, none⟩ (.int .i64 op)).setCell ⟨w.heap.size + 1, 2, none⟩ (.slice pa la ca)).setCell ⟨w.heap.size + 1, 3, none⟩ (.slice pk lk ck)).setCell ⟨w.heap.size + 1, 4, none⟩ (.slice pc lc cc)).setCell ⟨w.heap.size + 1, 5, none⟩ (.slice pq lq cq)) := by
  have o := out6 (O := O) (base := w.heap.size + 2) (w := W) (y0 := .int .i64 kd) (y1 := .int .i64 op) (y2 := .slice pa la ca) (y3 := .slice pk lk ck) (y4 := .slice pc lc cc) (y5 := .slice pq lq cq) (c := w.heap.size + 1) (by omega) (fun h => by have := (hO _ h).1; omega)
  exact ⟨_, t, rfl, hV.to o.keep (Frs.mono (by omega) o.size), hok, hz, rd6 hr (by omega), step6 st (by omega)⟩
/-- The box, the result, and what is read. -/
def SB6 (rb M : Nat) (w : World) (x0 x1 x2 x3 x4 x5 : Value) (wx : World) : Prop := Own6 wx w.heap.size x0 x1 x2 x3 x4 x5 ∧ Zero6 wx (w.heap.size + 1) ∧ Rd wx rb M ∧ Step rb w wx
theorem SB6.step {rb M M' : Nat} {w wx wy : World} {x0 x1 x2 x3 x4 x5 : Value} (h : SB6 rb M' w x0 x1 x2 x3 x4 x5 wx) (st : Step rb wx wy) (hr : Rd wy rb M) (hrb : rb < w.heap.size) : SB6 rb M w x0 x1 x2 x3 x4 x5 wy := ⟨h.1.step st (by omega), h.2.1.step st (by omega), hr, h.2.2.2.trans st⟩
theorem SB6.in {rb M B : Nat} {w wx wy : World} {x0 x1 x2 x3 x4 x5 : Value} (h : SB6 rb M w x0 x1 x2 x3 x4 x5 wx) (hb : Below B wx wy) (hB : w.heap.size + 1 < B) (hrb : rb < w.heap.size) : SB6 rb M w x0 x1 x2 x3 x4 x5 wy := ⟨h.1.to (hb.block _ (by omega)), h.2.1.to (hb.block _ (by omega)), h.2.2.1.in hb (by omega), h.2.2.2.in hb (by omega)⟩
theorem row_al {α : Type} {T : TypeId} {O : Nat → Prop} {sz base : Nat} {V : (Nat → Prop) → World → Value → α → Prop} (hV : KeptV V) {W : World} {v : Value} {ts : List α} (h : ∃ xs, GRow O T sz V base W v xs ts) (hO : ∀ b, O b → b < base) (hb : base ≤ W.heap.size) (o : Obj) : ∃ xs, GRow O T sz V base (W.alloc o) v xs ts := by
  obtain ⟨xs, h⟩ := h
  exact ⟨xs, h.to hV (Out.of (one _ _) (fun b hb' => Nat.lt_of_lt_of_le (hO b hb') hb))⟩
theorem rowE_sl {O : Nat → Prop} {base : Nat} {W : World} {p : Option Addr} {cap : Nat} {us : List El} (h : RowE O base W (.slice p us.length cap) us) : SlOf (Frs O base W) (ElE (Frs O base W) W) 2 p cap us := by
  obtain ⟨xs, hx⟩ := h
  obtain ⟨p', cap', he, hS⟩ := hx.sl keptE madeE
  simp only [Value.slice.injEq] at he
  obtain ⟨rfl, -, rfl⟩ := he
  exact hS
theorem zEls_app (es : List El) (e : El) : zEls (es ++ [e]) = zEls es + 1 + e.2.length := by
  unfold zEls
  rw [tot_app]
  have : tot zEl [e] = e.2.length := by simp [tot, zEl]
  simp
  omega
set_option maxHeartbeats 4000000 in
set_option maxRecDepth 100000 in
theorem spoilA_next (k n : Nat) (IH : SpoilA k n) : SpoilA k (n + 1) := by
  intro O L z rb m w v t hr hm hO hV hokt hzt hz9 hL3 hL9
  have hlt := hr.lt
  have HI : Hid (SpoilA k n) := IH
  have HO : Hid (∀ b, O b → b < w.heap.size ∧ b ≠ rb) := hO
  clear IH hO
  obtain ⟨tn, es, ks⟩ := t
  obtain ⟨kd, op, pa, la, ca, pk, lk, ck, pc, cc, pq, cq, rfl, hN, hE, hK⟩ := hV
  have HN : Hid (NtV O w (k + 1) (.agg #[.int .i64 kd, .int .i64 op, .slice pa la ca, .slice pk lk ck]) tn) := hN
  have HE : Hid (SlOf O (ElE O w) 2 pc cc es) := hE
  have HK : Hid (SlOf O (AmE O w k n) 6 pq cq ks) := hK
  have HOKN : Hid (okN L (k + 1) tn) := hokt.1
  have HOKE : Hid (∀ e ∈ es, okEl L e) := hokt.2.1
  have HOKK : Hid (∀ u ∈ ks, okAm L k n u) := hokt.2.2
  have HZ : Hid (zN (k + 1) tn + zEls es + (ks.length + tot (zA k n) ks) ≤ z) := hzt
  have hel : es.length ≤ 90000 := by
    have h1 := HZ.out
    have h2 : es.length ≤ zEls es := Nat.le_add_right _ _
    omega
  have hkl : ks.length ≤ 90000 := by have h1 := HZ.out; omega
  clear hN hE hK hokt hzt
  simp only [AT.coils, AT.kids]
  go_enter Tryz.func29, Tryz.ntmps29
  go_upto_region 1 with fail
  have HS0 : Hid (SB6 rb m w (.int .i64 kd) (.int .i64 op) (.slice pa la ca) (.slice pk lk ck) (.slice pc es.length cc) (.slice pq ks.length cq) ((w.alloc (.cells #[.int .i64 kd, .int .i64 op, .slice pa la ca, .slice pk lk ck, .slice pc es.length cc, .slice pq ks.length cq] 52)).alloc (.cells #[.int .i64 0, .int .i64 0, .slice none 0 0, .slice none 0 0, .slice none 0 0, .slice none 0 0] 52))) := ⟨(Own6.new w _ _ _ _ _ _).alloc _, by have := Own6.new (w.alloc (.cells #[.int .i64 kd, .int .i64 op, .slice pa la ca, .slice pk lk ck, .slice pc es.length cc, .slice pq ks.length cq] 52)) (.int .i64 0) (.int .i64 0) (.slice none 0 0) (.slice none 0 0) (.slice none 0 0) (.slice none 0 0); simpa using this, (hr.alloc _).alloc _, (Step.alloc rb w _).trans (Step.alloc rb _ _)⟩
  clear hr
  go_cut [15] from 7 (fun s wx => ∃ b : Bool, s = .bool b ∧ Hid (b = true → ks ≠ []) ∧ Hid (SB6 rb (m + 1) w (.int .i64 kd) (.int .i64 op) (.slice pa la ca) (.slice pk lk ck) (.slice pc es.length cc) (.slice pq ks.length cq) wx))
  case first =>
    obtain ⟨hbx, hrs, hrd, hst⟩ := HS0.out
    obtain ⟨c0, c1, c2, c3, c4, c5⟩ := hbx.cells
    by_cases hk0 : ks = []
    · subst hk0
      go_wp2
      go_meet
      exact ⟨false, rfl, fun h => (by cases h), hbx, hrs, hrd.mono (by omega), hst⟩
    · have hl0 : 0 < ks.length := List.length_pos_iff.2 hk0
      have hl0' : (0 : Int) < (ks.length : Int) := by omega
      have HNE : Hid (ks ≠ []) := hk0
      clear hk0
      go_wp2_with fail
      refine (pick_any rb m 3 _ (by omega) hrd (by omega)).mono ?_
      rintro e wy ⟨k, rfl, k0, k1, -, hry, sty⟩
      go_wp2
      go_meet
      exact ⟨_, rfl, fun _ => HNE.out, HS0.out.step sty hry hlt⟩
  case rest =>
    obtain ⟨b, rfl, HB, HS1⟩ := hcut
    clear HS0
    obtain ⟨hbx, hrs, hrd, hst⟩ := HS1.out
    obtain ⟨c0, c1, c2, c3, c4, c5⟩ := hbx.cells
    obtain ⟨f0, f1, f2, f3, f4, f5⟩ := hbx.free
    cases b with
    | true =>
      have hne : ks ≠ [] := HB.out rfl
      have hl0 : 0 < ks.length := List.length_pos_iff.2 hne
      have hlk : ks.length ≤ 100000 := by omega
      have hlc : w.heap.size + 1 < wc.heap.size := hrs.lt
      have hlc0 : w.heap.size < wc.heap.size := hbx.lt
      have HOB : Hid (∀ b, O b → b < wc.heap.size) := fun b h => by have := (HO.out b h).1; omega
      have HKW : Hid (SlOf O (AmE O (wc.alloc (.cells #[] 52)) k n) 6 pq cq ks) := arms_to (Keep.trans0 (Keep.ofStep hst HO.out) (Keep.of (one wc _) HOB.out)) (fun _ h => h) HK.out
      clear HB hne
      go_wp2_with (refine wl_copy tyA (keptA k n) (readA k n) (O := O) (base := wc.heap.size) _ (by rfl) (.tmp 16) (.tmp 18) (by rfl) wc.heap.size (by rfl) (last _ _) (Nat.le_refl _) HOB.out (by rfl) HKW.out hlk ?_; intro g cap5 w3 HR3 HG3 hg3 hl3)
      have hbw3 : Below wc.heap.size (wc.alloc (.cells #[] 52)) w3 := ⟨HG3.out.os, HG3.out.tape, HG3.out.output, HG3.out.size, fun b hb => HG3.out.block b (by simp; omega) (by simp; omega)⟩
      have HB13 : Hid (Below wc.heap.size wc w3) := (one wc _).trans hbw3
      have HS3 : Hid (SB6 rb (m + 1) w (.int .i64 kd) (.int .i64 op) (.slice pa la ca) (.slice pk lk ck) (.slice pc es.length cc) (.slice pq ks.length cq) w3) := HS1.out.step (.of HB13.out) (hrd.to HB13.out) hlt
      have hs3 := HB13.out.size
      clear hbw3 HG3 c0 c1 c2 c3 c4 c5 f0 f1 f2 f3 f4 f5 hbx hrs hrd hst HS1
      refine (pick_any rb (m + 1) (ks.length : Int) _ (by omega) HS3.out.2.2.1 (by omega)).mono ?_
      rintro e w4 ⟨kx, rfl, k0, k1, -, hr4, st4⟩
      obtain ⟨kk, rfl⟩ := Int.eq_ofNat_of_zero_le k0
      have hkk : kk < ks.length := by have := k1 (by omega); omega
      have hkk' : (kk : Int) < (ks.length : Int) := by omega
      have HS4 : Hid (SB6 rb (m + 2) w (.int .i64 kd) (.int .i64 op) (.slice pa la ca) (.slice pk lk ck) (.slice pc es.length cc) (.slice pq ks.length cq) w4) := HS3.out.step st4 hr4 hlt
      obtain ⟨xs, HR4⟩ : ∃ xs, Hid (GRow O 52 6 (fun S W v (t : AT k n) => AmV S W k n v t) wc.heap.size w4 (.slice (some ⟨g, 0, none⟩) ks.length cap5) xs ks) := by
        obtain ⟨xs, hx⟩ := HR3.out
        exact ⟨xs, hx.to (keptA k n) (out_step st4 (by omega) (fun b h => ⟨by have := HOB.out b h; omega, (HO.out b h).2⟩))⟩
      have hs4 := st4.size
      obtain ⟨tk, htk⟩ := get_lt hkk
      obtain ⟨cs, hcl, hcs, hcv⟩ := HR4.out.at htk
      obtain ⟨kd1, op1, pa1, la1, ca1, pk1, lk1, ck1, pc1, lc1, cc1, pq1, lq1, cq1, he⟩ := AmV.partsA hcv
      have hce : cs = [.int .i64 kd1, .int .i64 op1, .slice pa1 la1 ca1, .slice pk1 lk1 ck1, .slice pc1 lc1 cc1, .slice pq1 lq1 cq1] := by
        simp only [Value.agg.injEq] at he
        simpa using congrArg Array.toList he
      subst hce
      have x0 := hcs 0 _ rfl
      rw [Nat.add_zero] at x0
      have x1 := hcs 1 _ rfl
      have x2 := hcs 2 _ rfl
      have x3 := hcs 3 _ rfl
      have x4 := hcs 4 _ rfl
      have x5 := hcs 5 _ rfl
      have HCV : Hid (AmV (Inn O wc.heap.size w4 (.slice (some ⟨g, 0, none⟩) ks.length cap5)) w4 k n (.agg #[.int .i64 kd1, .int .i64 op1, .slice pa1 la1 ca1, .slice pk1 lk1 ck1, .slice pc1 lc1 cc1, .slice pq1 lq1 cq1]) tk) := hcv
      clear hcs hcv he hcl k0 k1 st4 HR3 HS3
      go_wp2_with fail
      refine (HI.out (Inn O wc.heap.size w4 (.slice (some ⟨g, 0, none⟩) ks.length cap5)) L (zA k n tk) rb (m + 2) w4 _ tk hr4 (by omega) (fun b hb => ?_) HCV.out (HOKK.out tk (List.mem_of_getElem? htk)) (Nat.le_refl _) (by have h1 := HZ.out; have h2 := tot_get (zA k n) htk; omega) hL3 hL9).mono ?_
      · rcases hb with hb | hb
        · exact ⟨by have := HOB.out b hb; omega, (HO.out b hb).2⟩
        · exact ⟨hb.2.1, by omega⟩
      rintro e w6 ⟨v6, t6, rfl, hV6, hok6, hz6, hr6, st6⟩
      obtain ⟨kd6, op6, pa6, la6, ca6, pk6, lk6, ck6, pc6, lc6, cc6, pq6, lq6, cq6, rfl⟩ := hV6.partsA
      have HS6 : Hid (SB6 rb (m + 2 + 200 + 2 * k + 2 * n) w (.int .i64 kd) (.int .i64 op) (.slice pa la ca) (.slice pk lk ck) (.slice pc es.length cc) (.slice pq ks.length cq) w6) := HS4.out.step st6 hr6 hlt
      have hs6 := st6.size
      have HR6 : Hid (GRow O 52 6 (fun S W v (t : AT k n) => AmV S W k n v t) wc.heap.size w6 (.slice (some ⟨g, 0, none⟩) ks.length cap5) xs ks) := HR4.out.to (keptA k n) (out_step st6 (by omega) (fun b h => ⟨by have := HOB.out b h; omega, (HO.out b h).2⟩))
      obtain ⟨cur, hcur, hg4⟩ : ∃ cur, w6.heap[g]? = some (.cells cur 52 (0, 0)) ∧ g < w4.heap.size := by
        rcases HR4.out.1.2 with ⟨h', -⟩ | ⟨g', cap', cur, hv, hb, hg, hn, hc, hsz, -⟩
        · simp at h'
        · simp only [Value.slice.injEq, Option.some.injEq, Addr.mk.injEq] at hv
          obtain ⟨⟨rfl, -⟩, -, rfl⟩ := hv
          have hgl := (Array.getElem?_eq_some_iff.1 hg).1
          exact ⟨cur, (st6.block g hgl (by omega)).trans hg, hgl⟩
      have y0 := (st6.cell g (kk * 6) hg4 (by omega)).trans x0
      have y1 := (st6.cell g (kk * 6 + 1) hg4 (by omega)).trans x1
      have y2 := (st6.cell g (kk * 6 + 2) hg4 (by omega)).trans x2
      have y3 := (st6.cell g (kk * 6 + 3) hg4 (by omega)).trans x3
      have y4 := (st6.cell g (kk * 6 + 4) hg4 (by omega)).trans x4
      have y5 := (st6.cell g (kk * 6 + 5) hg4 (by omega)).trans x5
      have z0 := frozen_of_row w6 g (kk * 6) _ _ hcur
      have z1 := frozen_of_row w6 g (kk * 6 + 1) _ _ hcur
      have z2 := frozen_of_row w6 g (kk * 6 + 2) _ _ hcur
      have z3 := frozen_of_row w6 g (kk * 6 + 3) _ _ hcur
      have z4 := frozen_of_row w6 g (kk * 6 + 4) _ _ hcur
      have z5 := frozen_of_row w6 g (kk * 6 + 5) _ _ hcur
      have HV6 : Hid (AmV (Frs (Inn O wc.heap.size w4 (.slice (some ⟨g, 0, none⟩) ks.length cap5)) w4.heap.size w6) w6 (k + 1) (n + 1) (.agg #[.int .i64 kd6, .int .i64 op6, .slice pa6 la6 ca6, .slice pk6 lk6 ck6, .slice pc6 lc6 cc6, .slice pq6 lq6 cq6]) t6) := hV6
      have HOK6 : Hid (okAm (L + 1) (k + 1) (n + 1) t6) := hok6
      have HZ6 : Hid (zA (k + 1) (n + 1) t6 ≤ zA k n tk + 12) := hz6
      clear x0 x1 x2 x3 x4 x5 HCV hV6 hok6 hz6 hr6 st6 HR4 HS4 hr4
      obtain ⟨hbx, hrs, hrd, hst⟩ := HS6.out
      obtain ⟨c0, c1, c2, c3, c4, c5⟩ := hbx.cells
      obtain ⟨f0, f1, f2, f3, f4, f5⟩ := hbx.free
      obtain ⟨d0, d1, d2, d3, d4, d5⟩ := hrs.cells
      obtain ⟨e0, e1, e2, e3, e4, e5⟩ := hrs.free
      have hgn : g ≠ w.heap.size := by omega
      have hgn1 : g ≠ w.heap.size + 1 := by omega
      go_wp2
      have hput := kid_put (keptA (k + 1) (n + 1)) (madeA (k + 1) (n + 1)) (fA k n) (fun S W v t h => fA_V h) HR6.out hg3 HOB.out hg4 hs6 [.int .i64 kd6, .int .i64 op6, .slice pa6 la6 ca6, .slice pk6 lk6 ck6, .slice pc6 lc6 cc6, .slice pq6 lq6 cq6] rfl (kk := kk) (fun j hj => by
        match j, hj with
        | 0, _ => simp [y0]
        | 1, _ => simp [y1]
        | 2, _ => simp [y2]
        | 3, _ => simp [y3]
        | 4, _ => simp [y4]
        | 5, _ => simp [y5]) t6 HV6.out
      have hrW := Rd.setCells (show rb < g by omega) [.int .i64 kd6, .int .i64 op6, .slice pa6 la6 ca6, .slice pk6 lk6 ck6, .slice pc6 lc6 cc6, .slice pq6 lq6 cq6] (kk * 6) w6 hrd
      have hsW := Step.setCells (show w.heap.size ≤ g by omega) [.int .i64 kd6, .int .i64 op6, .slice pa6 la6 ca6, .slice pk6 lk6 ck6, .slice pc6 lc6 cc6, .slice pq6 lq6 cq6] (kk * 6) w6 hst
      have hrsW : Zero6 (w6.setCells g (kk * 6) [.int .i64 kd6, .int .i64 op6, .slice pa6 la6 ca6, .slice pk6 lk6 ck6, .slice pc6 lc6 cc6, .slice pq6 lq6 cq6]) (w.heap.size + 1) := hrs.to (setCells_far (by omega) _ _ _)
      have hln : ((ks.map (fA k n)).set kk t6).length = ks.length := by simp
      have hmem : ∀ u ∈ (ks.map (fA k n)).set kk t6, okAm (L + 1) (k + 1) (n + 1) u := fun u hu => by
        rcases List.mem_or_eq_of_mem_set hu with h | h
        · exact okAm_mono (by omega) _ (kidsA_ok HOKK.out u h)
        · rw [h]; exact HOK6.out
      have hzz : zN (k + 1) tn + zEls es + (((ks.map (fA k n)).set kk t6).length + tot (zA (k + 1) (n + 1)) ((ks.map (fA k n)).set kk t6)) ≤ z + 12 := by
        have h1 := tot_set (zA (k + 1) (n + 1)) (ks.map (fA k n)) kk (fA k n tk) t6 (by rw [List.getElem?_map, htk]; rfl)
        rw [kidsA_z, fA_z] at h1
        have h2 := HZ.out
        have h3 := HZ6.out
        rw [hln]
        omega
      generalize hqs : (ks.map (fA k n)).set kk t6 = qs at hput hln hmem hzz
      clear hqs
      show bodyPost _ _ _ _ _ (((((((w6.setCells g (kk * 6) [.int .i64 kd6, .int .i64 op6, .slice pa6 la6 ca6, .slice pk6 lk6 ck6, .slice pc6 lc6 cc6, .slice pq6 lq6 cq6]).setCell ⟨w.heap.size, 5, none⟩ (.slice (some ⟨g, 0, none⟩) ks.length cap5)).setCell ⟨w.heap.size + 1, 0, none⟩ (.int .i64 kd)).setCell ⟨w.heap.size + 1, 1, none⟩ (.int .i64 op)).setCell ⟨w.heap.size + 1, 2, none⟩ (.slice pa la ca)).setCell ⟨w.heap.size + 1, 3, none⟩ (.slice pk lk ck)).setCell ⟨w.heap.size + 1, 4, none⟩ (.slice pc es.length cc) |>.setCell ⟨w.heap.size + 1, 5, none⟩ (.slice (some ⟨g, 0, none⟩) ks.length cap5))
      generalize (w6.setCells g (kk * 6) [.int .i64 kd6, .int .i64 op6, .slice pa6 la6 ca6, .slice pk6 lk6 ck6, .slice pc6 lc6 cc6, .slice pq6 lq6 cq6]) = W7 at *
      refine bodyPost_ret (v := .agg #[.int .i64 kd, .int .i64 op, .slice pa la ca, .slice pk lk ck, .slice pc es.length cc, .slice (some ⟨g, 0, none⟩) ks.length cap5]) (resArm (b := w.heap.size + 1) Tryz.results29 rfl ((hrsW.set (by omega)).put _ _ _ _ _ _).cells) rfl ?_
      have stW : Step rb w (W7.setCell ⟨w.heap.size, 5, none⟩ (.slice (some ⟨g, 0, none⟩) ks.length cap5)) := hsW.setNew _ _ _ (Nat.le_refl _)
      have hkp := Keep.ofStep stW HO.out
      have oS : Out O wc.heap.size W7 (W7.setCell ⟨w.heap.size, 5, none⟩ (.slice (some ⟨g, 0, none⟩) ks.length cap5)) := (Out.refl _ _ _).set hlc0 (fun h => by have := (HO.out _ h).1; omega)
      refine sarm_done (t := ((upN (k + 1) tn, es, qs) : NT (k + 2) × List El × List (AT (k + 1) (n + 1)))) HO.out ⟨kd, op, pa, la, ca, pk, lk, ck, pc, cc, _, cap5, by show _ = Value.agg #[.int .i64 kd, .int .i64 op, .slice pa la ca, .slice pk lk ck, .slice pc es.length cc, .slice (some ⟨g, 0, none⟩) qs.length cap5]; rw [hln], upN_V _ (HN.out.to hkp (fun b h => .inl h)), els_to hkp (fun b h => .inl h) HE.out, arms_to oS.keep (Frs.mono (by omega) oS.size) hput⟩ ⟨okN_mono (by omega) _ (upN_ok _ HOKN.out), fun e he => okEl_mono (by omega) (HOKE.out e he), hmem⟩ ?_ ((hrW.set _ _ _ hlt).mono (by omega)) stW hlt
      show zN (k + 2) (upN (k + 1) tn) + zEls es + (qs.length + tot (zA (k + 1) (n + 1)) qs) ≤ z + 12
      rw [upN_z]
      exact hzz
    | false =>
      clear HB
      go_wp2_with fail
      refine (pick_any rb (m + 1) 6 _ (by omega) hrd (by omega)).mono ?_
      rintro e w4 ⟨kx, rfl, k0, k1, -, hr4, st4⟩
      have k1 : kx < 6 := k1 (by omega)
      have HS4 : Hid (SB6 rb (m + 2) w (.int .i64 kd) (.int .i64 op) (.slice pa la ca) (.slice pk lk ck) (.slice pc es.length cc) (.slice pq ks.length cq) w4) := HS1.out.step st4 hr4 hlt
      clear c0 c1 c2 c3 c4 c5 f0 f1 f2 f3 f4 f5 hbx hrs hrd hst HS1 st4 hr4
      obtain ⟨hbx, hrs, hrd, hst⟩ := HS4.out
      obtain ⟨c0, c1, c2, c3, c4, c5⟩ := hbx.cells
      obtain ⟨f0, f1, f2, f3, f4, f5⟩ := hbx.free
      obtain ⟨d0, d1, d2, d3, d4, d5⟩ := hrs.cells
      obtain ⟨e0, e1, e2, e3, e4, e5⟩ := hrs.free
      have hlw : w.heap.size + 1 < w4.heap.size := hrs.lt
      have hlw0 : w.heap.size < w4.heap.size := hbx.lt
      have HOB : Hid (∀ b, O b → b < w4.heap.size) := fun b h => by have := (HO.out b h).1; omega
      have hk : kx = 0 ∨ kx = 1 ∨ kx = 2 ∨ kx = 3 ∨ kx = 4 ∨ kx = 5 := by omega
      clear k0 k1
      rcases hk with rfl | rfl | rfl | rfl | rfl | rfl
      · go_wp2
        refine bodyPost_ret (v := .agg #[.int .i64 0, .int .i64 0, .slice none 0 0, .slice none 0 0, .slice pc es.length cc, .slice pq ks.length cq]) (resArm (b := w.heap.size + 1) Tryz.results29 rfl (((((hrs.set (by omega)).set (by omega)).set (by omega)).set (by omega)).put _ _ _ _ _ _).cells) rfl ?_
        have stW : Step rb w ((((w4.setCell ⟨w.heap.size, 0, none⟩ (.int .i64 0)).setCell ⟨w.heap.size, 1, none⟩ (.int .i64 0)).setCell ⟨w.heap.size, 2, none⟩ (.slice none 0 0)).setCell ⟨w.heap.size, 3, none⟩ (.slice none 0 0)) := step4 hst (Nat.le_refl _)
        have hkp := Keep.ofStep stW HO.out
        refine sarm_done (t := (((0, (0, []), []), es, ks.map (fA k n)) : NT (k + 2) × List El × List (AT (k + 1) (n + 1)))) HO.out ⟨0, 0, none, 0, 0, none, 0, 0, pc, cc, pq, cq, by show _ = Value.agg #[.int .i64 0, .int .i64 0, .slice none 0 0, .slice none 0 0, .slice pc es.length cc, .slice pq (ks.map (fA k n)).length cq]; rw [List.length_map], ⟨none, 0, none, 0, rfl, sl_nil, sl_nil⟩, els_to hkp (fun b h => .inl h) HE.out, kidsA_up HK.out hkp (fun b h => .inl h)⟩ ⟨none_ok, fun e he => okEl_mono (by omega) (HOKE.out e he), fun u hu => okAm_mono (by omega) _ (kidsA_ok HOKK.out u hu)⟩ ?_ ((rd4 hrd hlt).mono (by omega)) stW hlt
        show 0 + (0 + 0) + zEls es + ((ks.map (fA k n)).length + tot (zA (k + 1) (n + 1)) (ks.map (fA k n))) ≤ z + 12
        rw [List.length_map, kidsA_z]
        have := HZ.out
        omega
      · go_wp2_with fail
        have HSa : Hid (SB6 rb (m + 2) w (.int .i64 kd) (.int .i64 op) (.slice pa la ca) (.slice pk lk ck) (.slice none 0 0) (.slice pq ks.length cq) (w4.setCell ⟨w.heap.size, 4, none⟩ (.slice none 0 0))) := ⟨hbx.put5 _, hrs.set (by omega), hrd.set _ _ _ hlt, hst.setNew _ _ _ (Nat.le_refl _)⟩
        refine (pick_any rb (m + 2) 2 _ (by omega) HSa.out.2.2.1 (by omega)).mono ?_
        rintro e w5 ⟨kx, rfl, k0, k1, -, hr5, st5⟩
        have HS5 : Hid (SB6 rb (m + 3) w (.int .i64 kd) (.int .i64 op) (.slice pa la ca) (.slice pk lk ck) (.slice none 0 0) (.slice pq ks.length cq) w5) := HSa.out.step st5 hr5 hlt
        clear c0 c1 c2 c3 c4 c5 f0 f1 f2 f3 f4 f5 d0 d1 d2 d3 d4 d5 e0 e1 e2 e3 e4 e5 hbx hrs hrd hst HS4 hr5 st5 HSa
        obtain ⟨hbx, hrs, hrd, hst⟩ := HS5.out
        obtain ⟨c0, c1, c2, c3, c4, c5⟩ := hbx.cells
        obtain ⟨f0, f1, f2, f3, f4, f5⟩ := hbx.free
        obtain ⟨d0, d1, d2, d3, d4, d5⟩ := hrs.cells
        obtain ⟨e0, e1, e2, e3, e4, e5⟩ := hrs.free
        by_cases hk : kx = 0
        · subst hk
          go_wp2
          refine bodyPost_ret (v := .agg #[.int .i64 kd, .int .i64 op, .slice pa la ca, .slice pk lk ck, .slice none 0 0, .slice none 0 0]) (resArm (b := w.heap.size + 1) Tryz.results29 rfl ((hrs.set (by omega)).put _ _ _ _ _ _).cells) rfl ?_
          have stW : Step rb w (w5.setCell ⟨w.heap.size, 5, none⟩ (.slice none 0 0)) := hst.setNew _ _ _ (Nat.le_refl _)
          have hkp := Keep.ofStep stW HO.out
          refine sarm_done (t := ((upN (k + 1) tn, [], []) : NT (k + 2) × List El × List (AT (k + 1) (n + 1)))) HO.out ⟨kd, op, pa, la, ca, pk, lk, ck, none, 0, none, 0, rfl, upN_V _ (HN.out.to hkp (fun b h => .inl h)), sl_nil, sl_nil⟩ ⟨okN_mono (by omega) _ (upN_ok _ HOKN.out), fun e he => (by cases he), fun u hu => (by cases hu)⟩ ?_ ((hrd.set _ _ _ hlt).mono (by omega)) stW hlt
          show zN (k + 2) (upN (k + 1) tn) + (0 + 0) + (0 + 0) ≤ z + 12
          rw [upN_z]
          have := HZ.out
          omega
        · have hk' : (kx == 0) = false := by simp [hk]
          go_wp2
          refine bodyPost_ret (v := .agg #[.int .i64 kd, .int .i64 op, .slice pa la ca, .slice pk lk ck, .slice none 0 0, .slice pq ks.length cq]) (resArm (b := w.heap.size + 1) Tryz.results29 rfl (hrs.put _ _ _ _ _ _).cells) rfl ?_
          have hkp := Keep.ofStep hst HO.out
          refine sarm_done (t := ((upN (k + 1) tn, [], ks.map (fA k n)) : NT (k + 2) × List El × List (AT (k + 1) (n + 1)))) HO.out ⟨kd, op, pa, la, ca, pk, lk, ck, none, 0, pq, cq, by show _ = Value.agg #[.int .i64 kd, .int .i64 op, .slice pa la ca, .slice pk lk ck, .slice none 0 0, .slice pq (ks.map (fA k n)).length cq]; rw [List.length_map], upN_V _ (HN.out.to hkp (fun b h => .inl h)), sl_nil, kidsA_up HK.out hkp (fun b h => .inl h)⟩ ⟨okN_mono (by omega) _ (upN_ok _ HOKN.out), fun e he => (by cases he), fun u hu => okAm_mono (by omega) _ (kidsA_ok HOKK.out u hu)⟩ ?_ (hrd.mono (by omega)) hst hlt
          show zN (k + 2) (upN (k + 1) tn) + (0 + 0) + ((ks.map (fA k n)).length + tot (zA (k + 1) (n + 1)) (ks.map (fA k n))) ≤ z + 12
          rw [upN_z, List.length_map, kidsA_z]
          have := HZ.out
          omega
      · have HX : True := trivial
        have HEW : Hid (SlOf O (ElE O (w4.alloc (.cells #[] 46))) 2 pc cc es) := els_to (Keep.trans0 (Keep.ofStep hst HO.out) (Keep.of (one w4 _) HOB.out)) (fun _ h => h) HE.out
        go_wp2_with (refine wl_copy tyE keptE readE (O := O) (base := w4.heap.size) _ (by rfl) (.tmp 56) (.tmp 58) (by rfl) w4.heap.size (by rfl) (last _ _) (Nat.le_refl _) HOB.out (by rfl) HEW.out (by omega) ?_; intro g5 cap5 w5 HR5 HG5 hg5 hl5)
        have hbw5 : Below w4.heap.size (w4.alloc (.cells #[] 46)) w5 := ⟨HG5.out.os, HG5.out.tape, HG5.out.output, HG5.out.size, fun b hb => HG5.out.block b (by simp; omega) (by simp; omega)⟩
        have HB45 : Hid (Below w4.heap.size w4 w5) := (one w4 _).trans hbw5
        have HS5 : Hid (SB6 rb (m + 2) w (.int .i64 kd) (.int .i64 op) (.slice pa la ca) (.slice pk lk ck) (.slice pc es.length cc) (.slice pq ks.length cq) w5) := HS4.out.step (.of HB45.out) (hrd.to HB45.out) hlt
        have hs5 := HB45.out.size
        clear hbw5 HG5
        refine (contact_dr rb (m + 2) _ HS5.out.2.2.1 (by omega)).mono ?_
        rintro e w6 ⟨op', ys', p', cap', rfl, hA6, hok6, hr6, st6⟩
        have HS6 : Hid (SB6 rb (m + 32) w (.int .i64 kd) (.int .i64 op) (.slice pa la ca) (.slice pk lk ck) (.slice pc es.length cc) (.slice pq ks.length cq) w6) := HS5.out.step st6 hr6 hlt
        have HST6 : Hid (Step rb w5 w6) := st6
        have HA6 : Hid (SlOf (Frs Non w5.heap.size w6) (ArE w6) 3 p' cap' ys') := hA6
        have HOK6 : Hid (okEl 3 (op', ys')) := hok6
        have hs6 := st6.size
        clear hA6 st6 hr6 hok6 HX
        have hl60 : w.heap.size < w6.heap.size := by omega
        have hl61 : w.heap.size + 1 < w6.heap.size := by omega
        have HO5 : Hid (∀ b, O b → b < w5.heap.size ∧ b ≠ rb) := fun b h => ⟨by have := HOB.out b h; omega, (HO.out b h).2⟩
        have HR6 : Hid (RowE O w4.heap.size (w6.alloc (.cells #[.int .i64 op', .slice p' ys'.length cap'] 46)) (.slice (some ⟨g5, 0, none⟩) es.length cap5) es) := rowE_in HR5.out HST6.out (by omega) HO5.out _
        have HV6 : Hid (ElV (Inn O w4.heap.size (w6.alloc (.cells #[.int .i64 op', .slice p' ys'.length cap'] 46)) (.slice (some ⟨g5, 0, none⟩) es.length cap5)) (w6.alloc (.cells #[.int .i64 op', .slice p' ys'.length cap'] 46)) (.agg #[.int .i64 op', .slice p' ys'.length cap']) (op', ys')) := newE_in HA6.out HR5.out hs5 _
        clear HA6
        go_wp2_with (refine wl_one tyE keptE (O := O) (base := w4.heap.size) _ (by rfl) (.tmp 59) (.tmp 62) (by rfl) (.slice (some ⟨g5, 0, none⟩) es.length cap5) es (by rfl) HR6.out [.int .i64 op', .slice p' ys'.length cap'] rfl (by simp [Value.oneCell']) w6.heap.size (by rfl) (last _ _) (op', ys') HV6.out (by omega) (by simp; omega) HOB.out ?_; intro g7 cap7 w7 HR7 HG7 hg7 hl7; have hbw7 : Below w4.heap.size (w6.alloc (.cells #[.int .i64 op', .slice p' ys'.length cap'] 46)) w7 := gbelow HR6.out HG7.out (by simp; omega); have HB67 : Hid (Below w4.heap.size w6 w7) := ((one w6 _).mono (by omega)).trans hbw7; have HS7 : Hid (SB6 rb (m + 32) w (.int .i64 kd) (.int .i64 op) (.slice pa la ca) (.slice pk lk ck) (.slice pc es.length cc) (.slice pq ks.length cq) w7) := HS6.out.in HB67.out (by omega) hlt; obtain ⟨hbx7, hrs7, hrd7, hst7⟩ := HS7.out; obtain ⟨a0, a1, a2, a3, a4, a5⟩ := hbx7.cells; obtain ⟨b0, b1, b2, b3, b4, b5⟩ := hbx7.free; obtain ⟨p0, p1, p2, p3, p4, p5⟩ := hrs7.cells; obtain ⟨q0, q1, q2, q3, q4, q5⟩ := hrs7.free)
        refine bodyPost_ret (v := .agg #[.int .i64 kd, .int .i64 op, .slice pa la ca, .slice pk lk ck, .slice (some ⟨g7, 0, none⟩) (es.length + 1) cap7, .slice pq ks.length cq]) (resArm (b := w.heap.size + 1) Tryz.results29 rfl ((hrs7.set (by omega)).put _ _ _ _ _ _).cells) rfl ?_
        have stW : Step rb w (w7.setCell ⟨w.heap.size, 4, none⟩ (.slice (some ⟨g7, 0, none⟩) (es.length + 1) cap7)) := hst7.setNew _ _ _ (Nat.le_refl _)
        have hkp := Keep.ofStep stW HO.out
        have hln : (es ++ [(op', ys')]).length = es.length + 1 := by simp
        have oS : Out O w4.heap.size w7 (w7.setCell ⟨w.heap.size, 4, none⟩ (.slice (some ⟨g7, 0, none⟩) (es.length + 1) cap7)) := (Out.refl _ _ _).set hlw0 (fun h => by have := (HO.out _ h).1; omega)
        have hrow : RowE O w4.heap.size w7 (.slice (some ⟨g7, 0, none⟩) (es ++ [(op', ys')]).length cap7) (es ++ [(op', ys')]) := by rw [hln]; exact HR7.out
        refine sarm_done (t := ((upN (k + 1) tn, es ++ [(op', ys')], ks.map (fA k n)) : NT (k + 2) × List El × List (AT (k + 1) (n + 1)))) HO.out ⟨kd, op, pa, la, ca, pk, lk, ck, _, cap7, pq, cq, by show _ = Value.agg #[.int .i64 kd, .int .i64 op, .slice pa la ca, .slice pk lk ck, .slice (some ⟨g7, 0, none⟩) (es ++ [(op', ys')]).length cap7, .slice pq (ks.map (fA k n)).length cq]; rw [List.length_map, hln], upN_V _ (HN.out.to hkp (fun b h => .inl h)), els_to oS.keep (Frs.mono (by omega) oS.size) (rowE_sl hrow), kidsA_up HK.out hkp (fun b h => .inl h)⟩ ⟨okN_mono (by omega) _ (upN_ok _ HOKN.out), fun e he => ?_, fun u hu => okAm_mono (by omega) _ (kidsA_ok HOKK.out u hu)⟩ ?_ ((hrd7.set _ _ _ hlt).mono (by omega)) stW hlt
        · rcases List.mem_append.1 (show e ∈ es ++ [(op', ys')] from he) with h | h
          · exact okEl_mono (by omega) (HOKE.out e h)
          · rw [List.mem_singleton.1 h]; exact okEl_mono (by omega) HOK6.out
        · show zN (k + 2) (upN (k + 1) tn) + zEls (es ++ [(op', ys')]) + ((ks.map (fA k n)).length + tot (zA (k + 1) (n + 1)) (ks.map (fA k n))) ≤ z + 12
          rw [upN_z, List.length_map, kidsA_z, zEls_app]
          have h1 := HZ.out
          have h2 : ys'.length ≤ 3 := HOK6.out.1
          show zN (k + 1) tn + (zEls es + 1 + ys'.length) + (ks.length + tot (zA k n) ks) ≤ z + 12
          omega
      · have HX : True := trivial
        have HEW : Hid (SlOf O (ElE O (w4.alloc (.cells #[] 46))) 2 pc cc es) := els_to (Keep.trans0 (Keep.ofStep hst HO.out) (Keep.of (one w4 _) HOB.out)) (fun _ h => h) HE.out
        go_wp2_with (refine wl_copy tyE keptE readE (O := O) (base := w4.heap.size) _ (by rfl) (.tmp 67) (.tmp 69) (by rfl) w4.heap.size (by rfl) (last _ _) (Nat.le_refl _) HOB.out (by rfl) HEW.out (by omega) ?_; intro g5 cap5 w5 HR5 HG5 hg5 hl5)
        have hbw5 : Below w4.heap.size (w4.alloc (.cells #[] 46)) w5 := ⟨HG5.out.os, HG5.out.tape, HG5.out.output, HG5.out.size, fun b hb => HG5.out.block b (by simp; omega) (by simp; omega)⟩
        have HB45 : Hid (Below w4.heap.size w4 w5) := (one w4 _).trans hbw5
        have HS5 : Hid (SB6 rb (m + 2) w (.int .i64 kd) (.int .i64 op) (.slice pa la ca) (.slice pk lk ck) (.slice pc es.length cc) (.slice pq ks.length cq) w5) := HS4.out.step (.of HB45.out) (hrd.to HB45.out) hlt
        have hs5 := HB45.out.size
        clear hbw5 HG5
        refine (coil_dr rb (m + 2) _ HS5.out.2.2.1 (by omega)).mono ?_
        rintro e w5b ⟨opb, ysb, pb, capb, rfl, hAb, hokb, hrb5, stb⟩
        have HSb : Hid (SB6 rb (m + 42) w (.int .i64 kd) (.int .i64 op) (.slice pa la ca) (.slice pk lk ck) (.slice pc es.length cc) (.slice pq ks.length cq) w5b) := HS5.out.step stb hrb5 hlt
        have hsb := stb.size
        go_wp2_with fail
        refine Calls.mono (show Calls Tryz.prog 56 #[.pointer (some ⟨rb, 0, none⟩), .agg #[.int .i64 opb, .slice pb ysb.length capb]] w5b (EDrawn (3 + 1) rb (m + 42 + 20) w5b) from spoilG_any 3 rb (m + 42) opb ysb pb capb w5b HSb.out.2.2.1 (by omega) (args_g hAb (fun b h => h.elim (fun h => h.elim) fun h => h.2)) hokb.2.1 hokb.2.2 hokb.1 (by omega)) ?_
        intro e w6 he
        obtain ⟨op', ys', p', cap', rfl, hA6, hok6, hr6, st6⟩ := edr_of he (by omega)
        have HS6 : Hid (SB6 rb (m + 62) w (.int .i64 kd) (.int .i64 op) (.slice pa la ca) (.slice pk lk ck) (.slice pc es.length cc) (.slice pq ks.length cq) w6) := HSb.out.step st6 hr6 hlt
        have HST6 : Hid (Step rb w5 w6) := stb.trans st6
        have HA6 : Hid (SlOf (Frs Non w5.heap.size w6) (ArE w6) 3 p' cap' ys') := args_to (fun _ _ => rfl) (Frs.mono hsb (Nat.le_refl _)) hA6
        have HOK6 : Hid (okEl 4 (op', ys')) := hok6
        have hs6 := HST6.out.size
        clear hA6 st6 hr6 hok6 HX he hAb hokb hrb5 stb HSb
        have hl60 : w.heap.size < w6.heap.size := by omega
        have hl61 : w.heap.size + 1 < w6.heap.size := by omega
        have HO5 : Hid (∀ b, O b → b < w5.heap.size ∧ b ≠ rb) := fun b h => ⟨by have := HOB.out b h; omega, (HO.out b h).2⟩
        have HR6 : Hid (RowE O w4.heap.size (w6.alloc (.cells #[.int .i64 op', .slice p' ys'.length cap'] 46)) (.slice (some ⟨g5, 0, none⟩) es.length cap5) es) := rowE_in HR5.out HST6.out (by omega) HO5.out _
        have HV6 : Hid (ElV (Inn O w4.heap.size (w6.alloc (.cells #[.int .i64 op', .slice p' ys'.length cap'] 46)) (.slice (some ⟨g5, 0, none⟩) es.length cap5)) (w6.alloc (.cells #[.int .i64 op', .slice p' ys'.length cap'] 46)) (.agg #[.int .i64 op', .slice p' ys'.length cap']) (op', ys')) := newE_in HA6.out HR5.out hs5 _
        clear HA6
        go_wp2_with (refine wl_one tyE keptE (O := O) (base := w4.heap.size) _ (by rfl) (.tmp 70) (.tmp 75) (by rfl) (.slice (some ⟨g5, 0, none⟩) es.length cap5) es (by rfl) HR6.out [.int .i64 op', .slice p' ys'.length cap'] rfl (by simp [Value.oneCell']) w6.heap.size (by rfl) (last _ _) (op', ys') HV6.out (by omega) (by simp; omega) HOB.out ?_; intro g7 cap7 w7 HR7 HG7 hg7 hl7; have hbw7 : Below w4.heap.size (w6.alloc (.cells #[.int .i64 op', .slice p' ys'.length cap'] 46)) w7 := gbelow HR6.out HG7.out (by simp; omega); have HB67 : Hid (Below w4.heap.size w6 w7) := ((one w6 _).mono (by omega)).trans hbw7; have HS7 : Hid (SB6 rb (m + 62) w (.int .i64 kd) (.int .i64 op) (.slice pa la ca) (.slice pk lk ck) (.slice pc es.length cc) (.slice pq ks.length cq) w7) := HS6.out.in HB67.out (by omega) hlt; obtain ⟨hbx7, hrs7, hrd7, hst7⟩ := HS7.out; obtain ⟨a0, a1, a2, a3, a4, a5⟩ := hbx7.cells; obtain ⟨b0, b1, b2, b3, b4, b5⟩ := hbx7.free; obtain ⟨p0, p1, p2, p3, p4, p5⟩ := hrs7.cells; obtain ⟨q0, q1, q2, q3, q4, q5⟩ := hrs7.free)
        refine bodyPost_ret (v := .agg #[.int .i64 kd, .int .i64 op, .slice pa la ca, .slice pk lk ck, .slice (some ⟨g7, 0, none⟩) (es.length + 1) cap7, .slice pq ks.length cq]) (resArm (b := w.heap.size + 1) Tryz.results29 rfl ((hrs7.set (by omega)).put _ _ _ _ _ _).cells) rfl ?_
        have stW : Step rb w (w7.setCell ⟨w.heap.size, 4, none⟩ (.slice (some ⟨g7, 0, none⟩) (es.length + 1) cap7)) := hst7.setNew _ _ _ (Nat.le_refl _)
        have hkp := Keep.ofStep stW HO.out
        have hln : (es ++ [(op', ys')]).length = es.length + 1 := by simp
        have oS : Out O w4.heap.size w7 (w7.setCell ⟨w.heap.size, 4, none⟩ (.slice (some ⟨g7, 0, none⟩) (es.length + 1) cap7)) := (Out.refl _ _ _).set hlw0 (fun h => by have := (HO.out _ h).1; omega)
        have hrow : RowE O w4.heap.size w7 (.slice (some ⟨g7, 0, none⟩) (es ++ [(op', ys')]).length cap7) (es ++ [(op', ys')]) := by rw [hln]; exact HR7.out
        refine sarm_done (t := ((upN (k + 1) tn, es ++ [(op', ys')], ks.map (fA k n)) : NT (k + 2) × List El × List (AT (k + 1) (n + 1)))) HO.out ⟨kd, op, pa, la, ca, pk, lk, ck, _, cap7, pq, cq, by show _ = Value.agg #[.int .i64 kd, .int .i64 op, .slice pa la ca, .slice pk lk ck, .slice (some ⟨g7, 0, none⟩) (es ++ [(op', ys')]).length cap7, .slice pq (ks.map (fA k n)).length cq]; rw [List.length_map, hln], upN_V _ (HN.out.to hkp (fun b h => .inl h)), els_to oS.keep (Frs.mono (by omega) oS.size) (rowE_sl hrow), kidsA_up HK.out hkp (fun b h => .inl h)⟩ ⟨okN_mono (by omega) _ (upN_ok _ HOKN.out), fun e he => ?_, fun u hu => okAm_mono (by omega) _ (kidsA_ok HOKK.out u hu)⟩ ?_ ((hrd7.set _ _ _ hlt).mono (by omega)) stW hlt
        · rcases List.mem_append.1 (show e ∈ es ++ [(op', ys')] from he) with h | h
          · exact okEl_mono (by omega) (HOKE.out e h)
          · rw [List.mem_singleton.1 h]; exact okEl_mono (by omega) HOK6.out
        · show zN (k + 2) (upN (k + 1) tn) + zEls (es ++ [(op', ys')]) + ((ks.map (fA k n)).length + tot (zA (k + 1) (n + 1)) (ks.map (fA k n))) ≤ z + 12
          rw [upN_z, List.length_map, kidsA_z, zEls_app]
          have h1 := HZ.out
          have h2 : ys'.length ≤ 4 := HOK6.out.1
          show zN (k + 1) tn + (zEls es + 1 + ys'.length) + (ks.length + tot (zA k n) ks) ≤ z + 12
          omega
      · obtain ⟨ks1, hks1⟩ : ∃ ks1, ks1 = ks.map (fA k n) := ⟨_, rfl⟩
        have hl1 : ks.length = ks1.length := by rw [hks1, List.length_map]
        have HK1 : Hid (SlOf O (AmE O w (k + 1) (n + 1)) 6 pq cq ks1) := by rw [hks1]; exact kidsA_up HK.out (fun _ _ => rfl) (fun _ h => h)
        have HOKK1 : Hid (∀ u ∈ ks1, okAm L (k + 1) (n + 1) u) := by rw [hks1]; exact kidsA_ok HOKK.out
        have HZ1 : Hid (zN (k + 1) tn + zEls es + (ks1.length + tot (zA (k + 1) (n + 1)) ks1) ≤ z) := by rw [hks1, List.length_map, kidsA_z]; exact HZ.out
        have hlk : ks1.length ≤ 100000 := by omega
        clear hks1 HK HOKK HZ
        rw [hl1] at c5 HS4 hbx ⊢
        clear hl1
        have HKW : Hid (SlOf O (AmE O (w4.alloc (.cells #[] 52)) (k + 1) (n + 1)) 6 pq cq ks1) := arms_to (Keep.trans0 (Keep.ofStep hst HO.out) (Keep.of (one w4 _) HOB.out)) (fun _ h => h) HK1.out
        obtain ⟨tt, htt⟩ : ∃ tt : AT (k + 1) (n + 1), tt = (((0, (0, []), []), [], []) : NT (k + 2) × List El × List (AT (k + 1) n)) := ⟨_, rfl⟩
        have HOKT : Hid (okAm (L + 1) (k + 1) (n + 1) tt) := by rw [htt]; exact ⟨none_ok, fun e he => (by cases he), fun u hu => (by cases hu)⟩
        have HZT : Hid (zA (k + 1) (n + 1) tt ≤ 3) := by rw [htt]; show 0 + (0 + 0) + (0 + 0) + (0 + 0) ≤ 3; omega
        have HVT : Hid (∀ (S : Nat → Prop) (W : World), AmV S W (k + 1) (n + 1) (.agg #[.int .i64 0, .int .i64 0, .slice none 0 0, .slice none 0 0, .slice none 0 0, .slice none 0 0]) tt) := by rw [htt]; exact fun S W => ⟨0, 0, none, 0, 0, none, 0, 0, none, 0, none, 0, rfl, ⟨none, 0, none, 0, rfl, sl_nil, sl_nil⟩, sl_nil, sl_nil⟩
        clear htt
        go_wp2_with (first
          | (refine wl_copy tyA (keptA (k + 1) (n + 1)) (readA (k + 1) (n + 1)) (O := O) (base := w4.heap.size) _ (by rfl) (.tmp 80) (.tmp 82) (by rfl) w4.heap.size (by rfl) (last _ _) (Nat.le_refl _) HOB.out (by rfl) HKW.out hlk ?_; intro g5 cap5 w5 HR5 HG5 hg5 hl5; have hbw5 : Below w4.heap.size (w4.alloc (.cells #[] 52)) w5 := ⟨HG5.out.os, HG5.out.tape, HG5.out.output, HG5.out.size, fun b hb => HG5.out.block b (by simp; omega) (by simp; omega)⟩; have HB45 : Hid (Below w4.heap.size w4 w5) := (one w4 _).trans hbw5; have HS6 : Hid (SB6 rb (m + 2) w (.int .i64 kd) (.int .i64 op) (.slice pa la ca) (.slice pk lk ck) (.slice pc es.length cc) (.slice pq ks1.length cq) w5) := HS4.out.step (.of HB45.out) (hrd.to HB45.out) hlt; have hs5 := HB45.out.size; have HRA : Hid (∀ o, ∃ xs, GRow O 52 6 (fun S W v (t : AT (k + 1) (n + 1)) => AmV S W (k + 1) (n + 1) v t) w4.heap.size (w5.alloc o) (.slice (some ⟨g5, 0, none⟩) ks1.length cap5) xs ks1) := (fun o => row_al (keptA _ _) HR5.out HOB.out hs5 o); clear hbw5 HG5)
          | (refine wl_one tyA (keptA (k + 1) (n + 1)) (O := O) (base := w4.heap.size) _ (by rfl) (.tmp 83) (.tmp 85) (by rfl) (.slice (some ⟨g5, 0, none⟩) ks1.length cap5) ks1 (by rfl) (HRA.out _) [.int .i64 0, .int .i64 0, .slice none 0 0, .slice none 0 0, .slice none 0 0, .slice none 0 0] rfl (by simp [Value.oneCell']) w5.heap.size (by rfl) (last _ _) tt (HVT.out _ _) hlk (by simp; omega) HOB.out ?_; intro g7 cap7 w7 HR7 HG7 hg7 hl7; have hbw7 : Below w4.heap.size (w5.alloc (.cells #[.int .i64 0, .int .i64 0, .slice none 0 0, .slice none 0 0, .slice none 0 0, .slice none 0 0] 52)) w7 := gbelow (HRA.out _) HG7.out (by simp; omega); have HB67 : Hid (Below w4.heap.size w5 w7) := ((one w5 _).mono (by omega)).trans hbw7; have HS7 : Hid (SB6 rb (m + 2) w (.int .i64 kd) (.int .i64 op) (.slice pa la ca) (.slice pk lk ck) (.slice pc es.length cc) (.slice pq ks1.length cq) w7) := HS6.out.in HB67.out (by omega) hlt; obtain ⟨hbx7, hrs7, hrd7, hst7⟩ := HS7.out; obtain ⟨a0, a1, a2, a3, a4, a5⟩ := hbx7.cells; obtain ⟨b0, b1, b2, b3, b4, b5⟩ := hbx7.free; obtain ⟨p0, p1, p2, p3, p4, p5⟩ := hrs7.cells; obtain ⟨q0, q1, q2, q3, q4, q5⟩ := hrs7.free))
        refine bodyPost_ret (v := .agg #[.int .i64 kd, .int .i64 op, .slice pa la ca, .slice pk lk ck, .slice pc es.length cc, .slice (some ⟨g7, 0, none⟩) (ks1.length + 1) cap7]) (resArm (b := w.heap.size + 1) Tryz.results29 rfl ((hrs7.set (by omega)).put _ _ _ _ _ _).cells) rfl ?_
        have stW : Step rb w (w7.setCell ⟨w.heap.size, 5, none⟩ (.slice (some ⟨g7, 0, none⟩) (ks1.length + 1) cap7)) := hst7.setNew _ _ _ (Nat.le_refl _)
        have hkp := Keep.ofStep stW HO.out
        have hln : (ks1 ++ [tt]).length = ks1.length + 1 := by simp
        have oS : Out O w4.heap.size w7 (w7.setCell ⟨w.heap.size, 5, none⟩ (.slice (some ⟨g7, 0, none⟩) (ks1.length + 1) cap7)) := (Out.refl _ _ _).set hlw0 (fun h => by have := (HO.out _ h).1; omega)
        have hrow : RowA O (k + 1) (n + 1) w4.heap.size w7 (.slice (some ⟨g7, 0, none⟩) (ks1 ++ [tt]).length cap7) (ks1 ++ [tt]) := by rw [hln]; exact HR7.out
        refine sarm_done (t := ((upN (k + 1) tn, es, ks1 ++ [tt]) : NT (k + 2) × List El × List (AT (k + 1) (n + 1)))) HO.out ⟨kd, op, pa, la, ca, pk, lk, ck, pc, cc, _, cap7, by show _ = Value.agg #[.int .i64 kd, .int .i64 op, .slice pa la ca, .slice pk lk ck, .slice pc es.length cc, .slice (some ⟨g7, 0, none⟩) (ks1 ++ [tt]).length cap7]; rw [hln], upN_V _ (HN.out.to hkp (fun b h => .inl h)), els_to hkp (fun b h => .inl h) HE.out, arms_to oS.keep (Frs.mono (by omega) oS.size) (row_sl hrow)⟩ ⟨okN_mono (by omega) _ (upN_ok _ HOKN.out), fun e he => okEl_mono (by omega) (HOKE.out e he), fun u hu => ?_⟩ ?_ ((hrd7.set _ _ _ hlt).mono (by omega)) stW hlt
        · rcases List.mem_append.1 (show u ∈ ks1 ++ [tt] from hu) with h | h
          · exact okAm_mono (by omega) _ (HOKK1.out u h)
          · rw [List.mem_singleton.1 h]; exact HOKT.out
        · show zN (k + 2) (upN (k + 1) tn) + zEls es + ((ks1 ++ [tt]).length + tot (zA (k + 1) (n + 1)) (ks1 ++ [tt])) ≤ z + 12
          rw [upN_z, hln, tot_app]
          have h1 := HZ1.out
          have h2 : tot (zA (k + 1) (n + 1)) [tt] ≤ 3 := by simpa [tot] using HZT.out
          omega
      · go_wp2_with fail
        refine (spoilN_all (k + 1) O L (zN (k + 1) tn) rb (m + 2) w4 _ tn hrd (by omega) (fun b h => ⟨HOB.out b h, (HO.out b h).2⟩) (HN.out.to (Keep.ofStep hst HO.out) (fun _ h => h)) HOKN.out (Nat.le_refl _) (by have := HZ.out; omega) hL3 hL9).mono ?_
        rintro e w5 ⟨v5, t5, rfl, hV5, hok5, hz5, hr5, st5⟩
        obtain ⟨kd5, op5, pa5, la5, ca5, pk5, lk5, ck5, rfl⟩ := hV5.parts
        have HS5 : Hid (SB6 rb (m + 2 + 100 + 2 * (k + 1)) w (.int .i64 kd) (.int .i64 op) (.slice pa la ca) (.slice pk lk ck) (.slice pc es.length cc) (.slice pq ks.length cq) w5) := HS4.out.step st5 hr5 hlt
        have HV5 : Hid (NtV (Frs O w4.heap.size w5) w5 (k + 2) (.agg #[.int .i64 kd5, .int .i64 op5, .slice pa5 la5 ca5, .slice pk5 lk5 ck5]) t5) := hV5
        have HZ5 : Hid (zN (k + 2) t5 ≤ zN (k + 1) tn + 12) := hz5
        have HOK5 : Hid (okN (L + 1) (k + 2) t5) := hok5
        have hs5 := st5.size
        clear c0 c1 c2 c3 c4 c5 f0 f1 f2 f3 f4 f5 d0 d1 d2 d3 d4 d5 e0 e1 e2 e3 e4 e5 hbx hrs hrd hst HS4 hV5 hz5 hok5 hr5 st5
        obtain ⟨hbx, hrs, hrd, hst⟩ := HS5.out
        obtain ⟨c0, c1, c2, c3, c4, c5⟩ := hbx.cells
        obtain ⟨f0, f1, f2, f3, f4, f5⟩ := hbx.free
        obtain ⟨d0, d1, d2, d3, d4, d5⟩ := hrs.cells
        obtain ⟨e0, e1, e2, e3, e4, e5⟩ := hrs.free
        go_wp2
        refine bodyPost_ret (v := .agg #[.int .i64 kd5, .int .i64 op5, .slice pa5 la5 ca5, .slice pk5 lk5 ck5, .slice pc es.length cc, .slice pq ks.length cq]) (resArm (b := w.heap.size + 1) Tryz.results29 rfl (((((hrs.set (by omega)).set (by omega)).set (by omega)).set (by omega)).put _ _ _ _ _ _).cells) rfl ?_
        have stW : Step rb w ((((w5.setCell ⟨w.heap.size, 0, none⟩ (.int .i64 kd5)).setCell ⟨w.heap.size, 1, none⟩ (.int .i64 op5)).setCell ⟨w.heap.size, 2, none⟩ (.slice pa5 la5 ca5)).setCell ⟨w.heap.size, 3, none⟩ (.slice pk5 lk5 ck5)) := step4 hst (Nat.le_refl _)
        have hkp := Keep.ofStep stW HO.out
        have oC := out4 (O := O) (base := w4.heap.size) (w := w5) (y0 := .int .i64 kd5) (y1 := .int .i64 op5) (y2 := .slice pa5 la5 ca5) (y3 := .slice pk5 lk5 ck5) (c := w.heap.size) hlw0 (fun h => by have := (HO.out _ h).1; omega)
        refine sarm_done (t := ((t5, es, ks.map (fA k n)) : NT (k + 2) × List El × List (AT (k + 1) (n + 1)))) HO.out ⟨kd5, op5, pa5, la5, ca5, pk5, lk5, ck5, pc, cc, pq, cq, by show _ = Value.agg #[.int .i64 kd5, .int .i64 op5, .slice pa5 la5 ca5, .slice pk5 lk5 ck5, .slice pc es.length cc, .slice pq (ks.map (fA k n)).length cq]; rw [List.length_map], HV5.out.to oC.keep (Frs.mono (by omega) oC.size), els_to hkp (fun b h => .inl h) HE.out, kidsA_up HK.out hkp (fun b h => .inl h)⟩ ⟨HOK5.out, fun e he => okEl_mono (by omega) (HOKE.out e he), fun u hu => okAm_mono (by omega) _ (kidsA_ok HOKK.out u hu)⟩ ?_ ((rd4 hrd hlt).mono (by omega)) stW hlt
        show zN (k + 2) t5 + zEls es + ((ks.map (fA k n)).length + tot (zA (k + 1) (n + 1)) (ks.map (fA k n))) ≤ z + 12
        rw [List.length_map, kidsA_z]
        have := HZ.out
        have := HZ5.out
        omega
end Go.Proofs.YtjkpingdokkkcaaGreatDoor.Tr
