/- The drawing of nets within nets: l6Net. Helper text: no statement is claimed here. -/
import Derived.Test.YtjkpingdokkkcaaGreatDoorP16
import Derived.Deep.RegionLaw
namespace Go.Proofs.YtjkpingdokkkcaaGreatDoor.Tr
open Go.ChangeShapes Go.WideShapes Go.ChangeAt Go.RowKit

/-- A net that is another one turned round. -/
theorem net_not {d rb m m' : Nat} {w w2 w3 : World} {kd op : Int} {pa : Option Addr} {la ca : Nat} {pk : Option Addr} {lk ck : Nat} {t : NT (d + 1)} (hV : NtV (Frs Non w2.heap.size w3) w3 (d + 1) (.agg #[.int .i64 kd, .int .i64 op, .slice pa la ca, .slice pk lk ck]) t) (hok : okN 3 (d + 1) t) (hz : zN (d + 1) t ≤ Zn d) (hr : Rd w3 rb m') (hm : m' ≤ m) (st : Step rb w w3) (hlt : rb < w.heap.size) (h2 : w.heap.size < w2.heap.size) (h3 : w2.heap.size ≤ w3.heap.size) :
    NDr (d + 1) (Zn (d + 1)) rb m w (.returned (.agg #[.int .i64 4, .int .i64 0, .slice none 0 0, .slice (some ⟨w3.heap.size, 0, none⟩) 1 1])) (((((w3.setCell ⟨w.heap.size, 0, none⟩ (.int .i64 4)).setCell ⟨w.heap.size, 1, none⟩ (.int .i64 0)).setCell ⟨w.heap.size, 2, none⟩ (.slice none 0 0)).setCell ⟨w.heap.size, 3, none⟩ (.slice (some ⟨w3.heap.size, 0, none⟩) 1 1)).alloc (.cells #[.int .i64 kd, .int .i64 op, .slice pa la ca, .slice pk lk ck] 49)) := by
  have o1 := out4 (O := Non) (base := w2.heap.size) (w := w3) (y0 := .int .i64 4) (y1 := .int .i64 0) (y2 := .slice none 0 0) (y3 := .slice (some ⟨w3.heap.size, 0, none⟩) 1 1) h2 (fun h => h.elim)
  have hs : ((((w3.setCell ⟨w.heap.size, 0, none⟩ (.int .i64 4)).setCell ⟨w.heap.size, 1, none⟩ (.int .i64 0)).setCell ⟨w.heap.size, 2, none⟩ (.slice none 0 0)).setCell ⟨w.heap.size, 3, none⟩ (.slice (some ⟨w3.heap.size, 0, none⟩) 1 1)).heap.size = w3.heap.size := by simp [World.setCell]
  have hrW := (rd4 (c := w.heap.size) (y0 := .int .i64 4) (y1 := .int .i64 0) (y2 := .slice none 0 0) (y3 := .slice (some ⟨w3.heap.size, 0, none⟩) 1 1) (hr.mono hm) hlt).alloc (.cells #[.int .i64 kd, .int .i64 op, .slice pa la ca, .slice pk lk ck] 49)
  have hstW := (step4 (c := w.heap.size) (y0 := .int .i64 4) (y1 := .int .i64 0) (y2 := .slice none 0 0) (y3 := .slice (some ⟨w3.heap.size, 0, none⟩) 1 1) st (Nat.le_refl _)).trans (Step.alloc rb _ (.cells #[.int .i64 kd, .int .i64 op, .slice pa la ca, .slice pk lk ck] 49))
  generalize ((((w3.setCell ⟨w.heap.size, 0, none⟩ (.int .i64 4)).setCell ⟨w.heap.size, 1, none⟩ (.int .i64 0)).setCell ⟨w.heap.size, 2, none⟩ (.slice none 0 0)).setCell ⟨w.heap.size, 3, none⟩ (.slice (some ⟨w3.heap.size, 0, none⟩) 1 1)) = V at *
  have hB := last V (.cells #[.int .i64 kd, .int .i64 op, .slice pa la ca, .slice pk lk ck] 49)
  rw [hs] at hB
  have oo : Out Non w2.heap.size w3 (V.alloc (.cells #[.int .i64 kd, .int .i64 op, .slice pa la ca, .slice pk lk ck] 49)) := o1.trans (Out.of (one _ _) non_lt)
  generalize V.alloc (.cells #[.int .i64 kd, .int .i64 op, .slice pa la ca, .slice pk lk ck] 49) = W at *
  have hV' := hV.to oo.keep (Frs.mono (base' := w.heap.size) (by omega) oo.size)
  refine ⟨_, ((4, (0, []), [t]) : NT (d + 2)), rfl, ⟨none, 0, some ⟨w3.heap.size, 0, none⟩, 1, rfl, ⟨⟨Nat.le_refl _, Nat.zero_le _⟩, .inl rfl⟩, ⟨⟨Nat.le_refl _, by simp [NT.kids]⟩, .inr ⟨w3.heap.size, 0, rfl, .inr ⟨by omega, (Array.getElem?_eq_some_iff.1 hB).1⟩, fun i u hu => ?_⟩⟩⟩, ⟨⟨Nat.zero_le _, show Sm 0 from ⟨by omega, by omega⟩, fun a ha => (by cases ha)⟩, fun u hu => ?_⟩, ?_, hrW, hstW⟩
  · obtain ⟨rfl, rfl⟩ : i = 0 ∧ u = t := by
      cases i with
      | zero => exact ⟨rfl, by simpa [NT.kids] using hu.symm⟩
      | succ i => simp [NT.kids] at hu
    exact NtE.make hV' (cell_of_row _ _ 0 _ _ _ hB) (cell_of_row _ _ 1 _ _ _ hB) (cell_of_row _ _ 2 _ _ _ hB) (cell_of_row _ _ 3 _ _ _ hB)
  · have : u = t := by simpa [NT.kids] using hu
    rw [this]; exact hok
  · show 0 + (1 + (zN (d + 1) t + 0)) ≤ 6 + 3 * Zn d
    omega

theorem wrapd (z : Int) (h1 : -9223372036854775808 ≤ z) (h2 : z ≤ 9223372036854775807) : IntKind.i64.wrap z = z := by
  simp [IntKind.wrap, IntKind.bits, IntKind.signed]
  omega
theorem nrow_in {rb n base : Nat} {wr w6 : World} {v : Value} {ts : List (NT n)} (h : RowN Non n base wr v ts) (st : Step rb wr w6) (hb : rb < base) (o : Obj) : RowN Non n base (w6.alloc o) v ts := by
  obtain ⟨xs, h⟩ := h
  exact ⟨xs, (h.to (keptN n) (out_step st hb (fun _ h => h.elim))).to (keptN n) (Out.of (one _ _) non_lt)⟩
theorem nt_in {n base : Nat} {wr w6 : World} {v u : Value} {ts : List (NT n)} {t : NT n} (hV : NtV (Frs Non wr.heap.size w6) w6 n u t) (h : RowN Non n base wr v ts) (hb : base ≤ wr.heap.size) (o : Obj) : NtV (Inn Non base (w6.alloc o) v) (w6.alloc o) n u t := by
  obtain ⟨xs, h⟩ := h
  have ho : Out Non wr.heap.size w6 (w6.alloc o) := Out.of (one _ _) non_lt
  refine hV.to ho.keep fun b hb' => ?_
  rcases hb' with hb' | hb'
  · exact hb'.elim
  · exact .inr ⟨Nat.le_trans hb hb'.1, Nat.lt_of_lt_of_le hb'.2 ho.size, fun e => by have := (h.1.lt b e.symm).2; have := hb'.1; omega⟩
theorem own_ne {n base c : Nat} {wr : World} {v : Value} {ts : List (NT n)} (h : RowN Non n base wr v ts) (hc : c < base) : some c ≠ v.ownBlock := fun e => by
  obtain ⟨xs, h⟩ := h
  have := (h.1.lt c e.symm).1
  omega
/-- What stands behind j rounds of l6Net's loop. -/
def NLoop (d rb m : Nat) (kd : Int) (w : World) (N0 j : Nat) (w' : World) : Prop := ∃ (p : Option Addr) (cap : Nat) (ts : List (NT (d + 1))), ts.length = j ∧ Own4 w' N0 (.int .i64 kd) (.int .i64 0) (.slice none 0 0) (.slice p ts.length cap) ∧ Own4 w' w.heap.size (.int .i64 0) (.int .i64 0) (.slice none 0 0) (.slice none 0 0) ∧
  RowN Non (d + 1) (N0 + 1) w' (.slice p ts.length cap) ts ∧ (∀ u ∈ ts, okN 3 (d + 1) u) ∧ tot (zN (d + 1)) ts ≤ j * Zn d ∧ Rd w' rb (m + 3 + j * Mn d) ∧ Step rb w w'

theorem grow_below {T : TypeId} {sz n base : Nat} {W W' : World} {v : Value} {xs : List Value} (h : W.ownsRow base T sz v n xs) (g : W.grownBy W' v.ownBlock) (hb : base ≤ W.heap.size) : Below base W W' :=
  ⟨g.os, g.tape, g.output, g.size, fun k hk => g.block k (by omega) (fun e => by have := (h.lt k e.symm).1; omega)⟩
/-- One round more. -/
theorem nloop_step {d rb m j N0 g7 cap7 cap : Nat} {kd : Int} {w wr w6 w7 : World} {p : Option Addr} {ts : List (NT (d + 1))} {t : NT (d + 1)} {o : Obj} (hts : ts.length = j) (hrow : RowN Non (d + 1) (N0 + 1) wr (.slice p ts.length cap) ts) (hokT : ∀ u ∈ ts, okN 3 (d + 1) u) (hzT : tot (zN (d + 1)) ts ≤ j * Zn d) (hst : Step rb w wr) (hb : w.heap.size ≤ N0) (hrb : rb < N0)
    (hbl : N0 < wr.heap.size) (st6 : Step rb wr w6) (hok : okN 3 (d + 1) t) (hz : zN (d + 1) t ≤ Zn d) (hr6 : Rd w6 rb (m + 3 + j * Mn d + Mn d)) (HB7 : Own4 w7 N0 (.int .i64 kd) (.int .i64 0) (.slice none 0 0) (.slice p ts.length cap)) (HS7 : Own4 w7 w.heap.size (.int .i64 0) (.int .i64 0) (.slice none 0 0) (.slice none 0 0))
    (hne : w.heap.size ≠ N0) (HR7 : RowN Non (d + 1) (N0 + 1) w7 (.slice (some ⟨g7, 0, none⟩) (ts.length + 1) cap7) (ts ++ [t])) (HG7 : (w6.alloc o).grownBy w7 (Value.slice p ts.length cap).ownBlock) :
    NLoop d rb m kd w N0 (j + 1) (w7.setCell ⟨N0, 3, none⟩ (.slice (some ⟨g7, 0, none⟩) (ts.length + 1) cap7)) := by
  have hR6 := nrow_in hrow st6 (by omega) o
  have hs6 := st6.size
  have hbw : Below (N0 + 1) (w6.alloc o) w7 := by
    obtain ⟨xs, hx⟩ := hR6
    exact grow_below hx.1 HG7 (by simp; omega)
  have hl : (ts ++ [t]).length = ts.length + 1 := by simp
  refine ⟨some ⟨g7, 0, none⟩, cap7, ts ++ [t], by rw [hl, hts], ?_, HS7.set hne, ?_, ?_, ?_, ?_, ?_⟩
  · rw [hl]; exact HB7.put3 _
  · rw [hl]
    obtain ⟨xs, hx⟩ := HR7
    exact ⟨xs, hx.to (keptN _) ((Out.refl _ _ _).set (by omega) (fun h => h.elim))⟩
  · intro u hu
    rcases List.mem_append.1 hu with h | h
    · exact hokT u h
    · rw [List.mem_singleton.1 h]; exact hok
  · rw [tot_app, Nat.add_mul, Nat.one_mul]
    have : tot (zN (d + 1)) [t] = zN (d + 1) t := by simp [tot]
    omega
  · have e : m + 3 + (j + 1) * Mn d = m + 3 + j * Mn d + Mn d := by rw [Nat.add_mul, Nat.one_mul]; omega
    rw [e]
    exact (((hr6.alloc o).in hbw (by omega)).set _ _ _ hrb)
  · exact ((((hst.trans st6).trans (Step.alloc rb w6 o)).in hbw (by omega))).setNew _ _ _ hb
/-- The net that the rounds have made. -/
theorem nloop_end {d rb m j N0 : Nat} {kd : Int} {w wr : World} {p : Option Addr} {cap : Nat} {ts : List (NT (d + 1))} (hts : ts.length = j) (hj : j ≤ 3) (hrow : RowN Non (d + 1) (N0 + 1) wr (.slice p ts.length cap) ts) (hokT : ∀ u ∈ ts, okN 3 (d + 1) u) (hzT : tot (zN (d + 1)) ts ≤ j * Zn d) (hrd : Rd wr rb (m + 3 + j * Mn d)) (hst : Step rb w wr) (hN : w.heap.size ≤ N0) (hrb : rb < w.heap.size) :
    NDr (d + 1) (Zn (d + 1)) rb (m + Mn (d + 1)) w (.returned (.agg #[.int .i64 kd, .int .i64 0, .slice none 0 0, .slice p ts.length cap])) ((((wr.setCell ⟨w.heap.size, 0, none⟩ (.int .i64 kd)).setCell ⟨w.heap.size, 1, none⟩ (.int .i64 0)).setCell ⟨w.heap.size, 2, none⟩ (.slice none 0 0)).setCell ⟨w.heap.size, 3, none⟩ (.slice p ts.length cap)) := by
  have o1 := out4 (O := Non) (base := N0 + 1) (w := wr) (y0 := .int .i64 kd) (y1 := .int .i64 0) (y2 := .slice none 0 0) (y3 := .slice p ts.length cap) (c := w.heap.size) (by omega) (fun h => h.elim)
  have hM : Mn (d + 1) = 33 + 3 * Mn d := rfl
  have hjm : j * Mn d ≤ 3 * Mn d := Nat.mul_le_mul_right _ hj
  have hjz : j * Zn d ≤ 3 * Zn d := Nat.mul_le_mul_right _ hj
  obtain ⟨xs, hx⟩ := hrow
  obtain ⟨p', cap', he, hS⟩ := (hx.to (keptN _) o1).sl (keptN _) (madeN _)
  simp only [Value.slice.injEq] at he
  obtain ⟨rfl, -, rfl⟩ := he
  refine ⟨_, ((kd, (0, []), ts) : NT (d + 2)), rfl, ⟨none, 0, p, cap, rfl, ⟨⟨Nat.le_refl _, Nat.zero_le _⟩, .inl rfl⟩, ?_⟩, ⟨⟨Nat.zero_le _, show Sm 0 from ⟨by omega, by omega⟩, fun a ha => (by cases ha)⟩, hokT⟩, ?_, rd4 (hrd.mono (by omega)) hrb, step4 hst (Nat.le_refl _)⟩
  · exact nets_to (fun _ _ => rfl) (Frs.mono (by omega) (Nat.le_refl _)) hS
  · show 0 + (ts.length + tot (zN (d + 1)) ts) ≤ 6 + 3 * Zn d
    omega

set_option maxHeartbeats 1000000 in
set_option maxRecDepth 100000 in
theorem l6Net_next (d : Nat) (IH : NetDr d) : NetDr (d + 1) := by
  intro rb m w hr hm
  have hlt := hr.lt
  have hM : Mn (d + 1) = 33 + 3 * Mn d := rfl
  have hMd := Mn_d d
  have HI : Hid (NetDr d) := IH
  clear IH
  obtain ⟨D, hD⟩ : ∃ D : Int, D = ((d + 1 : Nat) : Int) := ⟨_, rfl⟩
  rw [← hD]
  have hD0 : ¬ D ≤ 0 := by omega
  have hD1 : D - 1 = (d : Int) := by omega
  go_enter Tryz.func65, Tryz.ntmps65
  go_wp2_with fail
  refine (pick_any rb m 7 _ (by omega) (hr.alloc _) (by omega)).mono ?_
  rintro e w2 ⟨k, rfl, k0, k1, -, hr2, st2⟩
  have st2' : Step rb w w2 := (Step.alloc rb w _).trans st2
  have o2 : Own4 w2 w.heap.size (.int .i64 0) (.int .i64 0) (.slice none 0 0) (.slice none 0 0) := (Own4.new w _ _ _ _).step st2 (by omega)
  have hl2 := o2.lt
  have k1 : k < 7 := k1 (by omega)
  clear st2
  by_cases hk3 : k < 3
  · go_wp2_with fail
    refine (contact_dr rb (m + 1) w2 hr2 (by omega)).mono ?_
    rintro e w3 ⟨op, ys, p, cap, rfl, hA, hok, hr3, st3⟩
    have o3 := o2.step st3 (by omega)
    obtain ⟨c0, c1, c2, c3⟩ := o3.cells
    obtain ⟨f0, f1, f2, f3⟩ := o3.free
    go_wp2
    exact bodyPost_ret (v := .agg #[.int .i64 1, .int .i64 op, .slice p ys.length cap, .slice none 0 0]) (resNet (b := w.heap.size) Tryz.results65 rfl (o3.put _ _ _ _).cells) rfl (net_contact (d := d + 1) hA hok hr3 (by omega) (st2'.trans st3) hlt hl2)
  · by_cases hk6 : k = 6
    · subst hk6
      go_wp2_with fail
      refine (HI.out rb (m + 1) w2 hr2 (by omega)).mono ?_
      rintro e w3 ⟨v, t, rfl, hV, hok, hz, hr3, st3⟩
      obtain ⟨kd, op, pa, la, ca, pk, lk, ck, rfl⟩ := hV.parts
      have o3 := o2.step st3 (by omega)
      have hl3 := o3.lt
      obtain ⟨c0, c1, c2, c3⟩ := o3.cells
      obtain ⟨f0, f1, f2, f3⟩ := o3.free
      go_wp2
      exact bodyPost_ret (v := .agg #[.int .i64 4, .int .i64 0, .slice none 0 0, .slice (some ⟨w3.heap.size, 0, none⟩) 1 1]) (resNet (b := w.heap.size) Tryz.results65 rfl ((o3.put _ _ _ _).alloc _).cells) rfl (net_not (d := d) hV hok hz hr3 (by omega) (st2'.trans st3) hlt hl2 st3.size)
    · have hk6' : (k == 6) = false := by simp [hk6]
      go_wp2_with fail
      have o3 := Own4.new w2 (.int .i64 (2 + k % 2)) (.int .i64 0) (.slice none 0 0) (.slice none 0 0)
      have oR3 := o2.alloc (.cells #[.int .i64 (2 + k % 2), .int .i64 0, .slice none 0 0, .slice none 0 0] 49)
      refine (pick_any rb (m + 1) 2 _ (by omega) (hr2.alloc _) (by omega)).mono ?_
      rintro e w4 ⟨x, rfl, x0, x1, -, hr4, st4⟩
      have x1 : x < 2 := x1 (by omega)
      have o4 := o3.step st4 (by omega)
      have oR4 := oR3.step st4 (by omega)
      have st4' : Step rb w w4 := (st2'.trans (Step.alloc rb w2 _)).trans st4
      clear st4 o3 oR3
      generalize 2 + k % 2 = kd8 at *
      go_wp2_with fail
      refine (pick_any rb (m + 1 + 1) 8 _ (by omega) hr4 (by omega)).mono ?_
      rintro e w5 ⟨y, rfl, y0, y1, -, hr5, st5⟩
      have o5 := o4.step st5 (by omega)
      have oR5 := oR4.step st5 (by omega)
      have st5' : Step rb w w5 := st4'.trans st5
      clear st5 o4 oR4 st4'
      by_cases hy : y = 0
      · subst hy
        clear x0 x1
        go_wp2
        go_loopw [8] (fun d8 w' => ∃ j : Nat, j ≤ 1 ∧ d8 = .int .i64 (j : Int) ∧ Hid (NLoop d rb m kd8 w w2.heap.size j w')) (fun d8 _ => 1 - (intOf d8).toNat)
        case atStart => exact ⟨0, by omega, rfl, none, 0, [], rfl, o5, oR5, ⟨[], GRow.nil _⟩, fun u hu => (by cases hu), Nat.zero_le _, hr5.mono (by omega), st5'⟩
        case round =>
          obtain ⟨j, hj, rfl, HL⟩ := hrel
          rename_i wr
          obtain ⟨p, cap, ts, hts, hbox, hres, hrow, hokT, hzT, hrd, hst⟩ := HL.out
          have hbl := hbox.lt
          have hrl := hres.lt
          by_cases hlt8 : j < 1
          · have hlt8' : (j : Int) < 1 := by omega
            have x0 := hbox.cells.2.2.2
            have hMj : m + 3 + j * Mn d + Mn d ≤ 600000 := by
              have : (j + 1) * Mn d ≤ 3 * Mn d := Nat.mul_le_mul_right _ (by omega)
              rw [Nat.add_mul, Nat.one_mul] at this
              omega
            have HROW : Hid (RowN Non (d + 1) (w2.heap.size + 1) wr (.slice p ts.length cap) ts) := hrow
            have HBOX : Hid (Own4 wr w2.heap.size (.int .i64 kd8) (.int .i64 0) (.slice none 0 0) (.slice p ts.length cap)) := hbox
            have HRES : Hid (Own4 wr w.heap.size (.int .i64 0) (.int .i64 0) (.slice none 0 0) (.slice none 0 0)) := hres
            have HTS : Hid (ts.length = j) := hts
            have HOKT : Hid (∀ u ∈ ts, okN 3 (d + 1) u) := hokT
            have HZT : Hid (tot (zN (d + 1)) ts ≤ j * Zn d) := hzT
            have HST : Hid (Step rb w wr) := hst
            have HCALL : Hid (∀ W, Rd W rb (m + 3 + j * Mn d) → Calls Tryz.prog 65 #[.pointer (some ⟨rb, 0, none⟩), .int .i64 (d : Int)] W (NDr d (Zn d) rb (m + 3 + j * Mn d + Mn d) W)) := fun W hW => HI.out rb _ W hW hMj
            clear hrow hbox hres hts hokT hzT hst HL o5 oR5 hr5 st5' y0 y1 k0 k1 hk3 hk6 hk6' hr2 st2' o2 hr
            go_wp2
            go_region_law
              (first
                | (refine stepN _ (by rfl) (.tmp 44) (.tmp 49) (by rfl) Non (d + 1) (w2.heap.size + 1) _ ts (by rfl) (nrow_in HROW.out HST6.out (by omega) _) kd op pa la ca pk lk ck w6.heap.size (by rfl) (last _ _) t (nt_in HV6.out HROW.out hbl _) (by have := HTS.out; omega) (by have := HST6.out.size; simp; omega) non_lt ?_; intro g7 cap7 w7 HR7 HG7 hg7 hl7; have HB7 : Hid (Own4 w7 w2.heap.size (.int .i64 kd8) (.int .i64 0) (.slice none 0 0) (.slice p ts.length cap)) := ((HBOX.out.step HST6.out (by omega)).alloc (.cells #[.int .i64 kd, .int .i64 op, .slice pa la ca, .slice pk lk ck] 49)).to (HG7.out.block _ ((HBOX.out.step HST6.out (by omega)).alloc (.cells #[.int .i64 kd, .int .i64 op, .slice pa la ca, .slice pk lk ck] 49)).lt (own_ne HROW.out (by omega))); have HS7 : Hid (Own4 w7 w.heap.size (.int .i64 0) (.int .i64 0) (.slice none 0 0) (.slice none 0 0)) := ((HRES.out.step HST6.out (by omega)).alloc (.cells #[.int .i64 kd, .int .i64 op, .slice pa la ca, .slice pk lk ck] 49)).to (HG7.out.block _ ((HRES.out.step HST6.out (by omega)).alloc (.cells #[.int .i64 kd, .int .i64 op, .slice pa la ca, .slice pk lk ck] 49)).lt (own_ne HROW.out (by omega))); have x7 := HB7.out.cells.2.2.2; have y7 := HB7.out.free.2.2.2)
                | (rw [if_pos (by rfl)]; go_simp; go_at_call 65; rw [wrapd _ (by omega) (by omega)]; refine (HCALL.out _ ?_).mono ?_; exact hrd.drew; rintro e w6 ⟨v, t, rfl, hV, hok, hz, hr6, st6⟩; obtain ⟨kd, op, pa, la, ca, pk, lk, ck, rfl⟩ := hV.parts; have st6' : Step rb wr w6 := (Step.drew rb wr).trans st6; have HST6 : Hid (Step rb wr w6) := st6'; have HV6 : Hid (NtV (Frs Non wr.heap.size w6) w6 (d + 1) (.agg #[.int .i64 kd, .int .i64 op, .slice pa la ca, .slice pk lk ck]) t) := hV; have x6 := (st6'.cell w2.heap.size 3 hbl (by omega)).trans x0; have hbl6 := Nat.lt_of_lt_of_le hbl st6'.size; clear hV st6 st6'; dsimp only))
            all_goals (try go_wp2)
            all_goals exact ⟨⟨j + 1, by omega, by go_num, nloop_step HTS.out HROW.out HOKT.out HZT.out HST.out (by omega) (by omega) hbl HST6.out hok hz hr6 HB7.out HS7.out (by omega) HR7.out HG7.out⟩, by simp [intOf]; omega⟩
          · obtain rfl : j = 1 := by omega
            have HTS : Hid (ts.length = 1) := hts
            have HZT : Hid (tot (zN (d + 1)) ts ≤ 1 * Zn d) := hzT
            have HOKT : Hid (∀ u ∈ ts, okN 3 (d + 1) u) := hokT
            obtain ⟨c0, c1, c2, c3⟩ := hbox.cells
            obtain ⟨d0, d1, d2, d3⟩ := hres.cells
            obtain ⟨f0, f1, f2, f3⟩ := hres.free
            clear hts hzT hokT HL
            go_wp2
            exact bodyPost_ret (v := .agg #[.int .i64 kd8, .int .i64 0, .slice none 0 0, .slice p ts.length cap]) (resNet (b := w.heap.size) Tryz.results65 rfl (hres.put _ _ _ _).cells) rfl (nloop_end HTS.out (by omega) hrow HOKT.out HZT.out hrd hst (by omega) hlt)
      · have hy' : (y == 0) = false := by simp [hy]
        obtain ⟨MM, hMM⟩ : ∃ MM : Int, MM = 2 + x := ⟨_, rfl⟩
        rw [← hMM]
        obtain ⟨mm, hmm⟩ : ∃ mm : Nat, (mm : Int) = MM := ⟨MM.toNat, by omega⟩
        have hmm3 : mm ≤ 3 := by omega
        clear hMM
        go_wp2
        go_loopw [8] (fun d8 w' => ∃ j : Nat, j ≤ mm ∧ d8 = .int .i64 (j : Int) ∧ Hid (NLoop d rb m kd8 w w2.heap.size j w')) (fun d8 _ => mm - (intOf d8).toNat)
        case atStart => exact ⟨0, by omega, rfl, none, 0, [], rfl, o5, oR5, ⟨[], GRow.nil _⟩, fun u hu => (by cases hu), Nat.zero_le _, hr5.mono (by omega), st5'⟩
        case round =>
          obtain ⟨j, hj, rfl, HL⟩ := hrel
          rename_i wr
          obtain ⟨p, cap, ts, hts, hbox, hres, hrow, hokT, hzT, hrd, hst⟩ := HL.out
          have hbl := hbox.lt
          have hrl := hres.lt
          by_cases hlt8 : j < mm
          · have hlt8' : (j : Int) < MM := by omega
            have x8 := hbox.cells.2.2.2
            have hMj : m + 3 + j * Mn d + Mn d ≤ 600000 := by
              have : (j + 1) * Mn d ≤ 3 * Mn d := Nat.mul_le_mul_right _ (by omega)
              rw [Nat.add_mul, Nat.one_mul] at this
              omega
            have HROW : Hid (RowN Non (d + 1) (w2.heap.size + 1) wr (.slice p ts.length cap) ts) := hrow
            have HBOX : Hid (Own4 wr w2.heap.size (.int .i64 kd8) (.int .i64 0) (.slice none 0 0) (.slice p ts.length cap)) := hbox
            have HRES : Hid (Own4 wr w.heap.size (.int .i64 0) (.int .i64 0) (.slice none 0 0) (.slice none 0 0)) := hres
            have HTS : Hid (ts.length = j) := hts
            have HOKT : Hid (∀ u ∈ ts, okN 3 (d + 1) u) := hokT
            have HZT : Hid (tot (zN (d + 1)) ts ≤ j * Zn d) := hzT
            have HST : Hid (Step rb w wr) := hst
            have HCALL : Hid (∀ W, Rd W rb (m + 3 + j * Mn d) → Calls Tryz.prog 65 #[.pointer (some ⟨rb, 0, none⟩), .int .i64 (d : Int)] W (NDr d (Zn d) rb (m + 3 + j * Mn d + Mn d) W)) := fun W hW => HI.out rb _ W hW hMj
            clear hrow hbox hres hts hokT hzT hst HL o5 oR5 hr5 st5' y0 y1 hy hy' x1 k0 k1 hk3 hk6 hk6' hr2 st2' o2 hr
            go_wp2
            go_region_law
              (first
                | (refine stepN _ (by rfl) (.tmp 44) (.tmp 49) (by rfl) Non (d + 1) (w2.heap.size + 1) _ ts (by rfl) (nrow_in HROW.out HST6.out (by omega) _) kd op pa la ca pk lk ck w6.heap.size (by rfl) (last _ _) t (nt_in HV6.out HROW.out hbl _) (by have := HTS.out; omega) (by have := HST6.out.size; simp; omega) non_lt ?_; intro g7 cap7 w7 HR7 HG7 hg7 hl7; have HB7 : Hid (Own4 w7 w2.heap.size (.int .i64 kd8) (.int .i64 0) (.slice none 0 0) (.slice p ts.length cap)) := ((HBOX.out.step HST6.out (by omega)).alloc (.cells #[.int .i64 kd, .int .i64 op, .slice pa la ca, .slice pk lk ck] 49)).to (HG7.out.block _ ((HBOX.out.step HST6.out (by omega)).alloc (.cells #[.int .i64 kd, .int .i64 op, .slice pa la ca, .slice pk lk ck] 49)).lt (own_ne HROW.out (by omega))); have HS7 : Hid (Own4 w7 w.heap.size (.int .i64 0) (.int .i64 0) (.slice none 0 0) (.slice none 0 0)) := ((HRES.out.step HST6.out (by omega)).alloc (.cells #[.int .i64 kd, .int .i64 op, .slice pa la ca, .slice pk lk ck] 49)).to (HG7.out.block _ ((HRES.out.step HST6.out (by omega)).alloc (.cells #[.int .i64 kd, .int .i64 op, .slice pa la ca, .slice pk lk ck] 49)).lt (own_ne HROW.out (by omega))); have x7 := HB7.out.cells.2.2.2; have y7 := HB7.out.free.2.2.2)
                | (rw [if_pos (by rfl)]; go_simp; go_at_call 65; rw [wrapd _ (by omega) (by omega)]; refine (HCALL.out _ ?_).mono ?_; exact hrd.drew; rintro e w6 ⟨v, t, rfl, hV, hok, hz, hr6, st6⟩; obtain ⟨kd, op, pa, la, ca, pk, lk, ck, rfl⟩ := hV.parts; have st6' : Step rb wr w6 := (Step.drew rb wr).trans st6; have HST6 : Hid (Step rb wr w6) := st6'; have HV6 : Hid (NtV (Frs Non wr.heap.size w6) w6 (d + 1) (.agg #[.int .i64 kd, .int .i64 op, .slice pa la ca, .slice pk lk ck]) t) := hV; have x6 := (st6'.cell w2.heap.size 3 hbl (by omega)).trans x8; have hbl6 := Nat.lt_of_lt_of_le hbl st6'.size; clear hV st6 st6'; dsimp only))
            all_goals (try go_wp2)
            all_goals exact ⟨⟨j + 1, by omega, by go_num, nloop_step HTS.out HROW.out HOKT.out HZT.out HST.out (by omega) (by omega) hbl HST6.out hok hz hr6 HB7.out HS7.out (by omega) HR7.out HG7.out⟩, by simp [intOf]; omega⟩
          · obtain rfl : j = mm := by omega
            have HTS : Hid (ts.length = j) := hts
            have HZT : Hid (tot (zN (d + 1)) ts ≤ j * Zn d) := hzT
            have HOKT : Hid (∀ u ∈ ts, okN 3 (d + 1) u) := hokT
            obtain ⟨c0, c1, c2, c3⟩ := hbox.cells
            obtain ⟨d0, d1, d2, d3⟩ := hres.cells
            obtain ⟨f0, f1, f2, f3⟩ := hres.free
            clear hts hzT hokT HL
            go_wp2
            exact bodyPost_ret (v := .agg #[.int .i64 kd8, .int .i64 0, .slice none 0 0, .slice p ts.length cap]) (resNet (b := w.heap.size) Tryz.results65 rfl (hres.put _ _ _ _).cells) rfl (nloop_end HTS.out (by omega) hrow HOKT.out HZT.out hrd hst (by omega) hlt)
end Go.Proofs.YtjkpingdokkkcaaGreatDoor.Tr

/- Trees of one depth as trees of a greater one; l6Net at every depth. Helper text: no statement is claimed here. -/
namespace Go.Proofs.YtjkpingdokkkcaaGreatDoor.Tr
open Go.ChangeShapes Go.WideShapes Go.ChangeAt Go.RowKit

theorem l6Net_all : ∀ d, NetDr d
  | 0 => l6Net_0
  | d + 1 => l6Net_next d (l6Net_all d)

theorem SlOf.map {α β : Type} {S : Nat → Prop} {E : Nat → Nat → α → Prop} {E' : Nat → Nat → β → Prop} {sz cap : Nat} {p : Option Addr} {ts : List α} (f : α → β) (h : SlOf S E sz p cap ts) (hE : ∀ b o t, E b o t → E' b o (f t)) : SlOf S E' sz p cap (ts.map f) := by
  obtain ⟨h1, h2⟩ := h
  refine ⟨by simpa using h1, ?_⟩
  rcases h2 with h2 | ⟨b, off, rfl, hb, h⟩
  · exact .inl (by simp [h2])
  · refine .inr ⟨b, off, rfl, hb, fun i t ht => ?_⟩
    rw [List.getElem?_map] at ht
    obtain ⟨u, hu, rfl⟩ := Option.map_eq_some_iff.1 ht
    exact hE b _ u (h i u hu)
theorem tot_map {α β : Type} (f : α → β) (g : β → Nat) (h : α → Nat) (e : ∀ t, g (f t) = h t) (ts : List α) : tot g (ts.map f) = tot h ts := by
  induction ts with
  | nil => rfl
  | cons t ts ih => rw [List.map_cons, tot_cons, tot_cons, ih, e]

def upN : (n : Nat) → NT n → NT (n + 1)
  | 0, t => t.elim
  | n + 1, t => ((t.kind, t.el, t.kids.map (upN n)) : Int × El × List (NT (n + 1)))
theorem upN_E {S : Nat → Prop} {w : World} : ∀ (n : Nat) {b o : Nat} {t : NT n} (_ : NtE S w n b o t), NtE S w (n + 1) b o (upN n t)
  | 0, _, _, _, h => h.elim
  | n + 1, b, o, t, h => by
    obtain ⟨pa, ca, pk, ck, h0, h1, h2, h3, h4, h5⟩ := h
    exact ⟨pa, ca, pk, ck, h0, h1, h2, by show w.cell? ⟨b, o + 3, none⟩ = some (.slice pk (t.kids.map (upN n)).length ck); rw [List.length_map]; exact h3, h4, h5.map (upN n) fun _ _ _ h => upN_E n h⟩
theorem upN_V {S : Nat → Prop} {w : World} : ∀ (n : Nat) {v : Value} {t : NT n} (_ : NtV S w n v t), NtV S w (n + 1) v (upN n t)
  | 0, _, _, h => h.elim
  | n + 1, v, t, h => by
    obtain ⟨pa, ca, pk, ck, rfl, h4, h5⟩ := h
    exact ⟨pa, ca, pk, ck, by show _ = Value.agg #[.int .i64 t.kind, .int .i64 t.el.1, .slice pa t.el.2.length ca, .slice pk (t.kids.map (upN n)).length ck]; rw [List.length_map], h4, h5.map (upN n) fun _ _ _ h => upN_E n h⟩
theorem upN_ok {L : Nat} : ∀ (n : Nat) {t : NT n} (_ : okN L n t), okN L (n + 1) (upN n t)
  | 0, t, _ => t.elim
  | n + 1, t, h => ⟨h.1, fun u hu => by
    have hu' : u ∈ t.kids.map (upN n) := hu
    obtain ⟨x, hx, rfl⟩ := List.mem_map.1 hu'
    exact upN_ok n (h.2 x hx)⟩
theorem upN_z : ∀ (n : Nat) (t : NT n), zN (n + 1) (upN n t) = zN n t
  | 0, t => t.elim
  | n + 1, t => by
    show zEl t.el + ((t.kids.map (upN n)).length + tot (zN (n + 1)) (t.kids.map (upN n))) = zEl t.el + (t.kids.length + tot (zN n) t.kids)
    rw [List.length_map, tot_map (upN n) _ (zN n) (upN_z n)]
/-- A net of a greater depth that lies in the same place. -/
theorem raiseN {S : Nat → Prop} {w : World} {L z : Nat} {v : Value} {n n' : Nat} (h : n ≤ n') : (∃ t : NT n, NtV S w n v t ∧ okN L n t ∧ zN n t ≤ z) → ∃ t : NT n', NtV S w n' v t ∧ okN L n' t ∧ zN n' t ≤ z := by
  induction h with
  | refl => exact id
  | step _ ih =>
    intro hx
    obtain ⟨t, h1, h2, h3⟩ := ih hx
    exact ⟨upN _ t, upN_V _ h1, upN_ok _ h2, by rw [upN_z]; exact h3⟩

/-- All contacts and coils of an arm have small numbers and few operands. -/
def okAm (L k : Nat) : (n : Nat) → AT k n → Prop
  | 0, _ => True
  | n + 1, a => okN L (k + 1) a.net ∧ (∀ e ∈ a.coils, okEl L e) ∧ ∀ u ∈ a.kids, okAm L k n u
def upK (k : Nat) : (n : Nat) → AT k n → AT (k + 1) n
  | 0, t => t.elim
  | n + 1, a => ((upN (k + 1) a.net, a.coils, a.kids.map (upK k n)) : NT (k + 2) × List El × List (AT (k + 1) n))
def upA (k : Nat) : (n : Nat) → AT k n → AT k (n + 1)
  | 0, t => t.elim
  | n + 1, a => ((a.net, a.coils, a.kids.map (upA k n)) : NT (k + 1) × List El × List (AT k (n + 1)))
theorem upK_E {S : Nat → Prop} {w : World} {k : Nat} : ∀ (n : Nat) {b o : Nat} {t : AT k n} (_ : AmE S w k n b o t), AmE S w (k + 1) n b o (upK k n t)
  | 0, _, _, _, h => h.elim
  | n + 1, b, o, a, h => by
    obtain ⟨hn, pc, cc, pk, ck, h4, h5, h6, h7⟩ := h
    exact ⟨upN_E _ hn, pc, cc, pk, ck, h4, by show w.cell? ⟨b, o + 5, none⟩ = some (.slice pk (a.kids.map (upK k n)).length ck); rw [List.length_map]; exact h5, h6, h7.map (upK k n) fun _ _ _ h => upK_E n h⟩
theorem upA_E {S : Nat → Prop} {w : World} {k : Nat} : ∀ (n : Nat) {b o : Nat} {t : AT k n} (_ : AmE S w k n b o t), AmE S w k (n + 1) b o (upA k n t)
  | 0, _, _, _, h => h.elim
  | n + 1, b, o, a, h => by
    obtain ⟨hn, pc, cc, pk, ck, h4, h5, h6, h7⟩ := h
    exact ⟨hn, pc, cc, pk, ck, h4, by show w.cell? ⟨b, o + 5, none⟩ = some (.slice pk (a.kids.map (upA k n)).length ck); rw [List.length_map]; exact h5, h6, h7.map (upA k n) fun _ _ _ h => upA_E n h⟩
theorem upK_V {S : Nat → Prop} {w : World} {k : Nat} : ∀ (n : Nat) {v : Value} {t : AT k n} (_ : AmV S w k n v t), AmV S w (k + 1) n v (upK k n t)
  | 0, _, _, h => h.elim
  | n + 1, v, a, h => by
    obtain ⟨kd, op, pa, la, ca, pk, lk, ck, pc, cc, pq, cq, rfl, h3, h4, h5⟩ := h
    exact ⟨kd, op, pa, la, ca, pk, lk, ck, pc, cc, pq, cq, by show _ = Value.agg #[.int .i64 kd, .int .i64 op, .slice pa la ca, .slice pk lk ck, .slice pc a.coils.length cc, .slice pq (a.kids.map (upK k n)).length cq]; rw [List.length_map], upN_V _ h3, h4, h5.map (upK k n) fun _ _ _ h => upK_E n h⟩
theorem upA_V {S : Nat → Prop} {w : World} {k : Nat} : ∀ (n : Nat) {v : Value} {t : AT k n} (_ : AmV S w k n v t), AmV S w k (n + 1) v (upA k n t)
  | 0, _, _, h => h.elim
  | n + 1, v, a, h => by
    obtain ⟨kd, op, pa, la, ca, pk, lk, ck, pc, cc, pq, cq, rfl, h3, h4, h5⟩ := h
    exact ⟨kd, op, pa, la, ca, pk, lk, ck, pc, cc, pq, cq, by show _ = Value.agg #[.int .i64 kd, .int .i64 op, .slice pa la ca, .slice pk lk ck, .slice pc a.coils.length cc, .slice pq (a.kids.map (upA k n)).length cq]; rw [List.length_map], h3, h4, h5.map (upA k n) fun _ _ _ h => upA_E n h⟩
theorem upK_ok {L k : Nat} : ∀ (n : Nat) {t : AT k n} (_ : okAm L k n t), okAm L (k + 1) n (upK k n t)
  | 0, t, _ => t.elim
  | n + 1, a, h => ⟨upN_ok _ h.1, h.2.1, fun u hu => by
    have hu' : u ∈ a.kids.map (upK k n) := hu
    obtain ⟨x, hx, rfl⟩ := List.mem_map.1 hu'
    exact upK_ok n (h.2.2 x hx)⟩
theorem upA_ok {L k : Nat} : ∀ (n : Nat) {t : AT k n} (_ : okAm L k n t), okAm L k (n + 1) (upA k n t)
  | 0, t, _ => t.elim
  | n + 1, a, h => ⟨h.1, h.2.1, fun u hu => by
    have hu' : u ∈ a.kids.map (upA k n) := hu
    obtain ⟨x, hx, rfl⟩ := List.mem_map.1 hu'
    exact upA_ok n (h.2.2 x hx)⟩
theorem upK_z {k : Nat} : ∀ (n : Nat) (t : AT k n), zA (k + 1) n (upK k n t) = zA k n t
  | 0, t => t.elim
  | n + 1, a => by
    show zN (k + 2) (upN (k + 1) a.net) + zEls a.coils + ((a.kids.map (upK k n)).length + tot (zA (k + 1) n) (a.kids.map (upK k n))) = zN (k + 1) a.net + zEls a.coils + (a.kids.length + tot (zA k n) a.kids)
    rw [List.length_map, tot_map (upK k n) _ (zA k n) (upK_z n), upN_z]
theorem upA_z {k : Nat} : ∀ (n : Nat) (t : AT k n), zA k (n + 1) (upA k n t) = zA k n t
  | 0, t => t.elim
  | n + 1, a => by
    show zN (k + 1) a.net + zEls a.coils + ((a.kids.map (upA k n)).length + tot (zA k (n + 1)) (a.kids.map (upA k n))) = zN (k + 1) a.net + zEls a.coils + (a.kids.length + tot (zA k n) a.kids)
    rw [List.length_map, tot_map (upA k n) _ (zA k n) (upA_z n)]
/-- An arm of a greater depth that lies in the same place. -/
theorem raiseA {S : Nat → Prop} {w : World} {L z : Nat} {v : Value} {k k' n n' : Nat} (hk : k ≤ k') (hn : n ≤ n') (h : ∃ t : AT k n, AmV S w k n v t ∧ okAm L k n t ∧ zA k n t ≤ z) : ∃ t : AT k' n', AmV S w k' n' v t ∧ okAm L k' n' t ∧ zA k' n' t ≤ z := by
  have h1 : ∃ t : AT k' n, AmV S w k' n v t ∧ okAm L k' n t ∧ zA k' n t ≤ z := by
    induction hk with
    | refl => exact h
    | step _ ih =>
      obtain ⟨t, h1, h2, h3⟩ := ih
      exact ⟨upK _ _ t, upK_V _ h1, upK_ok _ h2, by rw [upK_z]; exact h3⟩
  clear h
  induction hn with
  | refl => exact h1
  | step _ ih =>
    obtain ⟨t, h1, h2, h3⟩ := ih
    exact ⟨upA _ _ t, upA_V _ h1, upA_ok _ h2, by rw [upA_z]; exact h3⟩
end Go.Proofs.YtjkpingdokkkcaaGreatDoor.Tr
