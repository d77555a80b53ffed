/- The drawing of stairs: l6Stair. Helper text: no statement is claimed here. -/
import Derived.Test.YtjkpingdokkkcaaGreatDoorP17
namespace Go.Proofs.YtjkpingdokkkcaaGreatDoor.Tr
open Go.ChangeShapes Go.WideShapes Go.ChangeAt Go.RowKit

/-- What stands behind j rounds of l6Stair's loop. -/
def SLoop (rb m : Nat) (w : World) (N0 j : Nat) (w' : World) : Prop := ∃ (kd op : Int) (pa : Option Addr) (la ca : Nat) (pk : Option Addr) (lk ck : Nat) (t : NT (j + 1)), Own4 w' N0 (.int .i64 kd) (.int .i64 op) (.slice pa la ca) (.slice pk lk ck) ∧ Own4 w' w.heap.size (.int .i64 0) (.int .i64 0) (.slice none 0 0) (.slice none 0 0) ∧
  NtV (Frs (fun b => w.heap.size < b ∧ b < N0) (N0 + 1) w') w' (j + 1) (.agg #[.int .i64 kd, .int .i64 op, .slice pa la ca, .slice pk lk ck]) t ∧ okN 3 (j + 1) t ∧ zN (j + 1) t ≤ 3 + 5 * j ∧ Rd w' rb (m + 30 + 30 * j) ∧ Step rb w w'

theorem frs_non {O : Nat → Prop} {base base' : Nat} {w w' : World} (hb : base' ≤ base) (hs : w.heap.size ≤ w'.heap.size) : ∀ b, Frs Non base w b → Frs O base' w' b := fun _ h => h.elim (fun h => h.elim) fun h => .inr ⟨Nat.le_trans hb h.1, Nat.lt_of_lt_of_le h.2 hs⟩
/-- Two nets side by side. -/
theorem two_nets {O : Nat → Prop} {base n B : Nat} {W : World} {k1 o1 k2 o2 : Int} {p1 p2 q1 q2 : Option Addr} {l1 c1 m1 d1 l2 c2 m2 d2 : Nat} {t1 t2 : NT n} (hB : W.heap[B]? = some (.cells #[.int .i64 k1, .int .i64 o1, .slice p1 l1 c1, .slice q1 m1 d1, .int .i64 k2, .int .i64 o2, .slice p2 l2 c2, .slice q2 m2 d2] 49 (0, 0)))
    (h1 : NtV (Frs O base W) W n (.agg #[.int .i64 k1, .int .i64 o1, .slice p1 l1 c1, .slice q1 m1 d1]) t1) (h2 : NtV (Frs O base W) W n (.agg #[.int .i64 k2, .int .i64 o2, .slice p2 l2 c2, .slice q2 m2 d2]) t2) (hb : base ≤ B) :
    SlOf (Frs O base W) (NtE (Frs O base W) W n) 4 (some ⟨B, 0, none⟩) 2 [t1, t2] := by
  refine ⟨⟨Nat.le_refl _, by simp⟩, .inr ⟨B, 0, rfl, .inr ⟨hb, (Array.getElem?_eq_some_iff.1 hB).1⟩, fun i u hu => ?_⟩⟩
  match i, hu with
  | 0, hu =>
    obtain rfl : u = t1 := by simpa using hu.symm
    exact NtE.make h1 (cell_of_row _ _ 0 _ _ _ hB) (cell_of_row _ _ 1 _ _ _ hB) (cell_of_row _ _ 2 _ _ _ hB) (cell_of_row _ _ 3 _ _ _ hB)
  | 1, hu =>
    obtain rfl : u = t2 := by simpa using hu.symm
    exact NtE.make h2 (cell_of_row _ _ 4 _ _ _ hB) (cell_of_row _ _ 5 _ _ _ hB) (cell_of_row _ _ 6 _ _ _ hB) (cell_of_row _ _ 7 _ _ _ hB)
  | i + 2, hu => simp at hu
theorem sloop_step {rb m N0 j la ca lk ck cap' : Nat} {w wr w6 : World} {kd op1 op' kd' : Int} {pa pk p' : Option Addr} {ys' : List Ar} {t : NT (j + 1)} (hbox : Own4 wr N0 (.int .i64 kd) (.int .i64 op1) (.slice pa la ca) (.slice pk lk ck)) (hres : Own4 wr w.heap.size (.int .i64 0) (.int .i64 0) (.slice none 0 0) (.slice none 0 0))
    (hV : NtV (Frs (fun b => w.heap.size < b ∧ b < N0) (N0 + 1) wr) wr (j + 1) (.agg #[.int .i64 kd, .int .i64 op1, .slice pa la ca, .slice pk lk ck]) t) (hokT : okN 3 (j + 1) t) (hzT : zN (j + 1) t ≤ 3 + 5 * j) (hst : Step rb w wr) (st6 : Step rb wr w6) (hA : SlOf (Frs Non wr.heap.size w6) (ArE w6) 3 p' cap' ys') (hok6 : okEl 3 (op', ys')) (hr6 : Rd w6 rb (m + 30 + 30 * j + 30)) (hrb : rb < w.heap.size) (hN : w.heap.size < N0) :
    SLoop rb m w N0 (j + 1) (((((w6.setCell ⟨N0, 0, none⟩ (.int .i64 kd')).setCell ⟨N0, 1, none⟩ (.int .i64 0)).setCell ⟨N0, 2, none⟩ (.slice none 0 0)).setCell ⟨N0, 3, none⟩ (.slice (some ⟨w6.heap.size, 0, none⟩) 2 2)).alloc (.cells #[.int .i64 1, .int .i64 op', .slice p' ys'.length cap', .slice none 0 0, .int .i64 kd, .int .i64 op1, .slice pa la ca, .slice pk lk ck] 49)) := by
  have hbl := hbox.lt
  have hs6 := st6.size
  have hb6 := hbox.step st6 (by omega)
  have hres6 := hres.step st6 (by omega)
  have oA := out_step (O := fun b => w.heap.size < b ∧ b < N0) (base := N0 + 1) st6 (by omega) (fun b hb => ⟨by omega, by omega⟩)
  have oB := out4 (O := fun b => w.heap.size < b ∧ b < N0) (base := N0 + 1) (w := w6) (y0 := .int .i64 kd') (y1 := .int .i64 0) (y2 := .slice none 0 0) (y3 := .slice (some ⟨w6.heap.size, 0, none⟩) 2 2) (c := N0) (by omega) (fun h => by omega)
  have oC := out4 (O := Non) (base := wr.heap.size) (w := w6) (y0 := .int .i64 kd') (y1 := .int .i64 0) (y2 := .slice none 0 0) (y3 := .slice (some ⟨w6.heap.size, 0, none⟩) 2 2) (c := N0) hbl (fun h => h.elim)
  have hP := hb6.put (.int .i64 kd') (.int .i64 0) (.slice none 0 0) (.slice (some ⟨w6.heap.size, 0, none⟩) 2 2)
  have hQ := (((hres6.set (c := N0) (i := 0) (v := .int .i64 kd') (by omega)).set (c := N0) (i := 1) (v := .int .i64 0) (by omega)).set (c := N0) (i := 2) (v := .slice none 0 0) (by omega)).set (c := N0) (i := 3) (v := .slice (some ⟨w6.heap.size, 0, none⟩) 2 2) (by omega)
  have hrV := rd4 (c := N0) (y0 := .int .i64 kd') (y1 := .int .i64 0) (y2 := .slice none 0 0) (y3 := .slice (some ⟨w6.heap.size, 0, none⟩) 2 2) hr6 (by omega)
  have hsV := step4 (c := N0) (y0 := .int .i64 kd') (y1 := .int .i64 0) (y2 := .slice none 0 0) (y3 := .slice (some ⟨w6.heap.size, 0, none⟩) 2 2) (hst.trans st6) (by omega)
  have hs : ((((w6.setCell ⟨N0, 0, none⟩ (.int .i64 kd')).setCell ⟨N0, 1, none⟩ (.int .i64 0)).setCell ⟨N0, 2, none⟩ (.slice none 0 0)).setCell ⟨N0, 3, none⟩ (.slice (some ⟨w6.heap.size, 0, none⟩) 2 2)).heap.size = w6.heap.size := by simp [World.setCell]
  generalize ((((w6.setCell ⟨N0, 0, none⟩ (.int .i64 kd')).setCell ⟨N0, 1, none⟩ (.int .i64 0)).setCell ⟨N0, 2, none⟩ (.slice none 0 0)).setCell ⟨N0, 3, none⟩ (.slice (some ⟨w6.heap.size, 0, none⟩) 2 2)) = V at *
  have hB := last V (.cells #[.int .i64 1, .int .i64 op', .slice p' ys'.length cap', .slice none 0 0, .int .i64 kd, .int .i64 op1, .slice pa la ca, .slice pk lk ck] 49)
  rw [hs] at hB
  have oB' := oB.trans (Out.of (base := N0 + 1) (one V (.cells #[.int .i64 1, .int .i64 op', .slice p' ys'.length cap', .slice none 0 0, .int .i64 kd, .int .i64 op1, .slice pa la ca, .slice pk lk ck] 49)) (fun b hb => by omega))
  have oC' := oC.trans (Out.of (base := wr.heap.size) (one V (.cells #[.int .i64 1, .int .i64 op', .slice p' ys'.length cap', .slice none 0 0, .int .i64 kd, .int .i64 op1, .slice pa la ca, .slice pk lk ck] 49)) non_lt)
  have hP' := hP.alloc (.cells #[.int .i64 1, .int .i64 op', .slice p' ys'.length cap', .slice none 0 0, .int .i64 kd, .int .i64 op1, .slice pa la ca, .slice pk lk ck] 49)
  have hQ' := hQ.alloc (.cells #[.int .i64 1, .int .i64 op', .slice p' ys'.length cap', .slice none 0 0, .int .i64 kd, .int .i64 op1, .slice pa la ca, .slice pk lk ck] 49)
  have hrW := hrV.alloc (.cells #[.int .i64 1, .int .i64 op', .slice p' ys'.length cap', .slice none 0 0, .int .i64 kd, .int .i64 op1, .slice pa la ca, .slice pk lk ck] 49)
  have hsW := hsV.trans (Step.alloc rb V (.cells #[.int .i64 1, .int .i64 op', .slice p' ys'.length cap', .slice none 0 0, .int .i64 kd, .int .i64 op1, .slice pa la ca, .slice pk lk ck] 49))
  generalize V.alloc (.cells #[.int .i64 1, .int .i64 op', .slice p' ys'.length cap', .slice none 0 0, .int .i64 kd, .int .i64 op1, .slice pa la ca, .slice pk lk ck] 49) = W at *
  have hc : NtV (Frs (fun b => w.heap.size < b ∧ b < N0) (N0 + 1) W) W (j + 1) (.agg #[.int .i64 1, .int .i64 op', .slice p' ys'.length cap', .slice none 0 0]) ((1, (op', ys'), []) : NT (j + 1)) :=
    ⟨p', cap', none, 0, rfl, args_to oC'.keep (frs_non (by omega) oC'.size) hA, ⟨⟨Nat.le_refl _, Nat.zero_le _⟩, .inl rfl⟩⟩
  have ht := hV.to (oA.trans oB').keep (Frs.mono (Nat.le_refl _) (oA.trans oB').size)
  refine ⟨kd', 0, none, 0, 0, some ⟨w6.heap.size, 0, none⟩, 2, 2, ((kd', (0, []), [((1, (op', ys'), []) : NT (j + 1)), t]) : NT (j + 2)), hP', hQ', ⟨none, 0, _, 2, rfl, ⟨⟨Nat.le_refl _, Nat.zero_le _⟩, .inl rfl⟩, two_nets hB hc ht (by omega)⟩, ⟨⟨Nat.zero_le _, show Sm 0 from ⟨by omega, by omega⟩, fun a ha => (by cases ha)⟩, fun u hu => ?_⟩, ?_, hrW.mono (by omega), hsW⟩
  · rcases List.mem_cons.1 (show u ∈ [((1, (op', ys'), []) : NT (j + 1)), t] from hu) with h | h
    · rw [h]; exact ⟨hok6, fun u hu => (by cases hu)⟩
    · rw [List.mem_singleton.1 h]; exact hokT
  · have h3 : ys'.length ≤ 3 := hok6.1
    show 0 + (2 + (ys'.length + (0 + 0) + (zN (j + 1) t + 0))) ≤ _
    omega

set_option maxHeartbeats 1000000 in
set_option maxRecDepth 100000 in
theorem l6Stair_any (rb m : Nat) (n : Int) (w : World) (hr : Rd w rb m) (hm : m ≤ 500000) (hn : n ≤ 60) : Calls Tryz.prog 47 #[.pointer (some ⟨rb, 0, none⟩), .int .i64 n] w (NDr 63 400 rb (m + 2000) w) := by
  have hlt := hr.lt
  go_enter Tryz.func47, Tryz.ntmps47
  go_wp2_with fail
  refine (contact_dr rb m _ (hr.alloc _) (by omega)).mono ?_
  rintro e w3 ⟨op, ys, p, cap, rfl, hA, hok, hr3, st3⟩
  have o3 := (Own4.new w (.int .i64 0) (.int .i64 0) (.slice none 0 0) (.slice none 0 0)).step st3 (by omega)
  have hl3 := o3.lt
  have st3' : Step rb w w3 := (Step.alloc rb w _).trans st3
  clear st3
  have o4 := Own4.new w3 (.int .i64 1) (.int .i64 op) (.slice p ys.length cap) (.slice none 0 0)
  have oR4 := o3.alloc (.cells #[.int .i64 1, .int .i64 op, .slice p ys.length cap, .slice none 0 0] 49)
  have hr4 := hr3.alloc (.cells #[.int .i64 1, .int .i64 op, .slice p ys.length cap, .slice none 0 0] 49)
  have st4 : Step rb w (w3.alloc (.cells #[.int .i64 1, .int .i64 op, .slice p ys.length cap, .slice none 0 0] 49)) := st3'.trans (Step.alloc rb w3 _)
  go_wp2
  go_loopw [6] (fun d8 w' => ∃ j : Nat, (j : Int) < 60 ∧ d8 = .int .i64 ((j : Int) + 1) ∧ Hid (SLoop rb m w w3.heap.size j w')) (fun d8 _ => (n - intOf d8).toNat)
  case atStart =>
    refine ⟨0, by omega, rfl, 1, op, p, ys.length, cap, none, 0, 0, ((1, (op, ys), []) : NT 1), o4, oR4, ?_, ⟨hok, fun u hu => (by cases hu)⟩, ?_, hr4, st4⟩
    · exact ⟨p, cap, none, 0, rfl, args_to (Keep.of (one w3 _) (fun b hb => hb.elim (fun h => h.elim) fun h => h.2)) (fun b hb => .inl ⟨by have := hb.elim (fun h => h.elim) (fun h => h.1); simp at this; omega, hb.elim (fun h => h.elim) (fun h => h.2)⟩) hA, ⟨⟨Nat.le_refl _, Nat.zero_le _⟩, .inl rfl⟩⟩
    · have h3 : ys.length ≤ 3 := hok.1
      show ys.length + (0 + 0) ≤ _
      omega
  case round =>
    obtain ⟨j, hj, rfl, HL⟩ := hrel
    rename_i wr
    obtain ⟨kd, op1, pa, la, ca, pk, lk, ck, t, hbox, hres, hV, hokT, hzT, hrd, hst⟩ := HL.out
    have hbl := hbox.lt
    have hrl := hres.lt
    by_cases hlt8 : (j : Int) + 1 < n
    · obtain ⟨x0, x1, x2, x3⟩ := hbox.cells
      obtain ⟨y0, y1, y2, y3⟩ := hbox.free
      have HV : Hid (NtV (Frs (fun b => w.heap.size < b ∧ b < w3.heap.size) (w3.heap.size + 1) wr) wr (j + 1) (.agg #[.int .i64 kd, .int .i64 op1, .slice pa la ca, .slice pk lk ck]) t) := hV
      have HBOX : Hid (Own4 wr w3.heap.size (.int .i64 kd) (.int .i64 op1) (.slice pa la ca) (.slice pk lk ck)) := hbox
      have HRES : Hid (Own4 wr w.heap.size (.int .i64 0) (.int .i64 0) (.slice none 0 0) (.slice none 0 0)) := hres
      have HST : Hid (Step rb w wr) := hst
      clear hV hbox hres hst HL hA hok hr3 st3' o3 o4 oR4 hr4 st4 hr
      go_wp2
      go_region_law
        (first
          | (rw [if_pos (by rfl)]; go_simp; go_at_call 26; refine (contact_dr rb _ _ hrd.drew (by omega)).mono ?_; rintro e w6 ⟨op', ys', p', cap', rfl, hA6, hok6, hr6, st6⟩; have st6' : Step rb wr w6 := (Step.drew rb wr).trans st6; have x6 := (st6'.cell w3.heap.size 0 hbl (by omega)).trans x0; have x61 := (st6'.cell w3.heap.size 1 hbl (by omega)).trans x1; have x62 := (st6'.cell w3.heap.size 2 hbl (by omega)).trans x2; have x63 := (st6'.cell w3.heap.size 3 hbl (by omega)).trans x3; have y6 := (st6'.frozen w3.heap.size 0 hbl (by omega)).trans y0; have y61 := (st6'.frozen w3.heap.size 1 hbl (by omega)).trans y1; have y62 := (st6'.frozen w3.heap.size 2 hbl (by omega)).trans y2; have y63 := (st6'.frozen w3.heap.size 3 hbl (by omega)).trans y3; have hbl6 := Nat.lt_of_lt_of_le hbl st6'.size; have HA6 : Hid (SlOf (Frs Non wr.heap.size w6) (ArE w6) 3 p' cap' ys') := hA6; have HST6 : Hid (Step rb wr w6) := st6'; clear hA6 st6 st6'; dsimp only))
      all_goals (try go_wp2)
      all_goals exact ⟨⟨j + 1, by omega, by go_num, sloop_step HBOX.out HRES.out HV.out hokT hzT HST.out HST6.out HA6.out hok6 hr6 hlt hl3⟩, by simp [intOf]; omega⟩
    · obtain ⟨c0, c1, c2, c3⟩ := hbox.cells
      obtain ⟨d0, d1, d2, d3⟩ := hres.cells
      obtain ⟨f0, f1, f2, f3⟩ := hres.free
      go_wp2
      refine bodyPost_ret (v := .agg #[.int .i64 kd, .int .i64 op1, .slice pa la ca, .slice pk lk ck]) (resNet (b := w.heap.size) Tryz.results47 rfl (hres.put _ _ _ _).cells) rfl ?_
      have o1 := out4 (O := fun b => w.heap.size < b ∧ b < w3.heap.size) (base := w3.heap.size + 1) (w := wr) (y0 := .int .i64 kd) (y1 := .int .i64 op1) (y2 := .slice pa la ca) (y3 := .slice pk lk ck) (c := w.heap.size) (by omega) (fun h => by omega)
      have hV' := hV.to (S' := Frs Non w.heap.size ((((wr.setCell ⟨w.heap.size, 0, none⟩ (.int .i64 kd)).setCell ⟨w.heap.size, 1, none⟩ (.int .i64 op1)).setCell ⟨w.heap.size, 2, none⟩ (.slice pa la ca)).setCell ⟨w.heap.size, 3, none⟩ (.slice pk lk ck))) o1.keep (fun b hb => .inr (by have := o1.size; rcases hb with hb | hb <;> exact ⟨by omega, by omega⟩))
      obtain ⟨t', h1, h2, h3⟩ := raiseN (n' := 64) (by omega) ⟨t, hV', hokT, hzT⟩
      exact ⟨_, t', rfl, h1, h2, Nat.le_trans h3 (by omega), rd4 (hrd.mono (by omega)) hlt, step4 hst (Nat.le_refl _)⟩
end Go.Proofs.YtjkpingdokkkcaaGreatDoor.Tr

/- An arm of the call's own; what is said of an arm while it is drawn. Helper text: no statement is claimed here. -/
namespace Go.Proofs.YtjkpingdokkkcaaGreatDoor.Tr
open Go.ChangeShapes Go.WideShapes Go.ChangeAt Go.RowKit

theorem resArm {fn : Func} {W : World} {b p : Nat} {tmps : Array Value} {x0 x1 x2 x3 x4 x5 : Value} (h : fn.results = #[.cell p 52]) (hp : tmps.getD p undef = .pointer (some ⟨b, 0, none⟩))
    (hc : W.cell? ⟨b, 0, none⟩ = some x0 ∧ W.cell? ⟨b, 1, none⟩ = some x1 ∧ W.cell? ⟨b, 2, none⟩ = some x2 ∧ W.cell? ⟨b, 3, none⟩ = some x3 ∧ W.cell? ⟨b, 4, none⟩ = some x4 ∧ W.cell? ⟨b, 5, none⟩ = some x5) : (results fn tmps).run Tryz.prog W = .ok (.agg #[x0, x1, x2, x3, x4, x5]) W := by
  obtain ⟨h0, h1, h2, h3, h4, h5⟩ := hc
  simp only [results, h]
  simp [go_sem]
  rw [show tmps[p]?.getD undef = .pointer (some ⟨b, 0, none⟩) by simpa [Array.getD_eq_getD_getElem?] using hp]
  simp [go_sem, h0, h1, h2, h3, h4, h5]
/-- An arm of the call's own. -/
structure Own6 (w : World) (b : Nat) (x0 x1 x2 x3 x4 x5 : Value) : Prop where
  row : w.heap[b]? = some (.cells #[x0, x1, x2, x3, x4, x5] 52 (0, 0))
section
variable {w w' : World} {b : Nat} {x0 x1 x2 x3 x4 x5 : Value}
theorem Own6.cells (h : Own6 w b x0 x1 x2 x3 x4 x5) : w.cell? ⟨b, 0, none⟩ = some x0 ∧ w.cell? ⟨b, 1, none⟩ = some x1 ∧ w.cell? ⟨b, 2, none⟩ = some x2 ∧ w.cell? ⟨b, 3, none⟩ = some x3 ∧ w.cell? ⟨b, 4, none⟩ = some x4 ∧ w.cell? ⟨b, 5, none⟩ = some x5 :=
  ⟨cell_of_row _ _ 0 _ _ _ h.row, cell_of_row _ _ 1 _ _ _ h.row, cell_of_row _ _ 2 _ _ _ h.row, cell_of_row _ _ 3 _ _ _ h.row, cell_of_row _ _ 4 _ _ _ h.row, cell_of_row _ _ 5 _ _ _ h.row⟩
theorem Own6.free (h : Own6 w b x0 x1 x2 x3 x4 x5) : w.frozen? ⟨b, 0, none⟩ = false ∧ w.frozen? ⟨b, 1, none⟩ = false ∧ w.frozen? ⟨b, 2, none⟩ = false ∧ w.frozen? ⟨b, 3, none⟩ = false ∧ w.frozen? ⟨b, 4, none⟩ = false ∧ w.frozen? ⟨b, 5, none⟩ = false :=
  ⟨frozen_of_row _ _ 0 _ _ h.row, frozen_of_row _ _ 1 _ _ h.row, frozen_of_row _ _ 2 _ _ h.row, frozen_of_row _ _ 3 _ _ h.row, frozen_of_row _ _ 4 _ _ h.row, frozen_of_row _ _ 5 _ _ h.row⟩
theorem Own6.lt (h : Own6 w b x0 x1 x2 x3 x4 x5) : b < w.heap.size := (Array.getElem?_eq_some_iff.1 h.row).1
theorem Own6.new (w : World) (x0 x1 x2 x3 x4 x5 : Value) : Own6 (w.alloc (.cells #[x0, x1, x2, x3, x4, x5] 52)) w.heap.size x0 x1 x2 x3 x4 x5 := ⟨last _ _⟩
theorem Own6.to (h : Own6 w b x0 x1 x2 x3 x4 x5) (hb : w'.heap[b]? = w.heap[b]?) : Own6 w' b x0 x1 x2 x3 x4 x5 := ⟨hb.trans h.row⟩
theorem Own6.step {rb : Nat} (h : Own6 w b x0 x1 x2 x3 x4 x5) (st : Step rb w w') (hr : b ≠ rb) : Own6 w' b x0 x1 x2 x3 x4 x5 := h.to (st.block b h.lt hr)
theorem Own6.alloc (h : Own6 w b x0 x1 x2 x3 x4 x5) (o : Obj) : Own6 (w.alloc o) b x0 x1 x2 x3 x4 x5 := h.to ((one w o).block b h.lt)
theorem Own6.set {c i : Nat} {v : Value} (h : Own6 w b x0 x1 x2 x3 x4 x5) (hc : b ≠ c) : Own6 (w.setCell ⟨c, i, none⟩ v) b x0 x1 x2 x3 x4 x5 := h.to (Below.heap_setCell _ _ _ _ hc)
theorem Own6.put1 (h : Own6 w b x0 x1 x2 x3 x4 x5) (y : Value) : Own6 (w.setCell ⟨b, 0, none⟩ y) b y x1 x2 x3 x4 x5 := ⟨by simpa using heap_setCell_same w b 0 _ 52 y h.row⟩
theorem Own6.put2 (h : Own6 w b x0 x1 x2 x3 x4 x5) (y : Value) : Own6 (w.setCell ⟨b, 1, none⟩ y) b x0 y x2 x3 x4 x5 := ⟨by simpa using heap_setCell_same w b 1 _ 52 y h.row⟩
theorem Own6.put3 (h : Own6 w b x0 x1 x2 x3 x4 x5) (y : Value) : Own6 (w.setCell ⟨b, 2, none⟩ y) b x0 x1 y x3 x4 x5 := ⟨by simpa using heap_setCell_same w b 2 _ 52 y h.row⟩
theorem Own6.put4 (h : Own6 w b x0 x1 x2 x3 x4 x5) (y : Value) : Own6 (w.setCell ⟨b, 3, none⟩ y) b x0 x1 x2 y x4 x5 := ⟨by simpa using heap_setCell_same w b 3 _ 52 y h.row⟩
theorem Own6.put5 (h : Own6 w b x0 x1 x2 x3 x4 x5) (y : Value) : Own6 (w.setCell ⟨b, 4, none⟩ y) b x0 x1 x2 x3 y x5 := ⟨by simpa using heap_setCell_same w b 4 _ 52 y h.row⟩
theorem Own6.put6 (h : Own6 w b x0 x1 x2 x3 x4 x5) (y : Value) : Own6 (w.setCell ⟨b, 5, none⟩ y) b x0 x1 x2 x3 x4 y := ⟨by simpa using heap_setCell_same w b 5 _ 52 y h.row⟩
theorem Own6.putN (h : Own6 w b x0 x1 x2 x3 x4 x5) (y0 y1 y2 y3 : Value) : Own6 ((((w.setCell ⟨b, 0, none⟩ y0).setCell ⟨b, 1, none⟩ y1).setCell ⟨b, 2, none⟩ y2).setCell ⟨b, 3, none⟩ y3) b y0 y1 y2 y3 x4 x5 := (((h.put1 y0).put2 y1).put3 y2).put4 y3
theorem Own6.put (h : Own6 w b x0 x1 x2 x3 x4 x5) (y0 y1 y2 y3 y4 y5 : Value) : Own6 ((((((w.setCell ⟨b, 0, none⟩ y0).setCell ⟨b, 1, none⟩ y1).setCell ⟨b, 2, none⟩ y2).setCell ⟨b, 3, none⟩ y3).setCell ⟨b, 4, none⟩ y4).setCell ⟨b, 5, none⟩ y5) b y0 y1 y2 y3 y4 y5 := ((h.putN y0 y1 y2 y3).put5 y4).put6 y5
end
theorem out6 {O : Nat → Prop} {base c : Nat} {w : World} {y0 y1 y2 y3 y4 y5 : Value} (hc : c < base) (hO : ¬ O c) : Out O base w ((((((w.setCell ⟨c, 0, none⟩ y0).setCell ⟨c, 1, none⟩ y1).setCell ⟨c, 2, none⟩ y2).setCell ⟨c, 3, none⟩ y3).setCell ⟨c, 4, none⟩ y4).setCell ⟨c, 5, none⟩ y5) :=
  ((out4 hc hO).set hc hO).set hc hO
theorem rd6 {rb m c : Nat} {w : World} {y0 y1 y2 y3 y4 y5 : Value} (h : Rd w rb m) (hc : rb < c) : Rd ((((((w.setCell ⟨c, 0, none⟩ y0).setCell ⟨c, 1, none⟩ y1).setCell ⟨c, 2, none⟩ y2).setCell ⟨c, 3, none⟩ y3).setCell ⟨c, 4, none⟩ y4).setCell ⟨c, 5, none⟩ y5) rb m :=
  ((rd4 h hc).set _ _ _ hc).set _ _ _ hc
theorem step6 {rb c : Nat} {w w' : World} {y0 y1 y2 y3 y4 y5 : Value} (h : Step rb w w') (hc : w.heap.size ≤ c) : Step rb w ((((((w'.setCell ⟨c, 0, none⟩ y0).setCell ⟨c, 1, none⟩ y1).setCell ⟨c, 2, none⟩ y2).setCell ⟨c, 3, none⟩ y3).setCell ⟨c, 4, none⟩ y4).setCell ⟨c, 5, none⟩ y5) :=
  ((step4 h hc).setNew _ _ _ hc).setNew _ _ _ hc

def Za : Nat → Nat
  | 0 => 62
  | d + 1 => 65 + 3 * Za d
def Mar : Nat → Nat
  | 0 => 600
  | d + 1 => 600 + 3 * Mar d
theorem Za_62 (d : Nat) : 62 ≤ Za d := by cases d <;> simp [Za]; omega
theorem Mar_600 (d : Nat) : 600 ≤ Mar d := by cases d <;> simp [Mar]
theorem Mar_d : ∀ d : Nat, d ≤ Mar d
  | 0 => Nat.zero_le _
  | d + 1 => by
    have := Mar_d d
    show d + 1 ≤ 600 + 3 * Mar d
    omega
/-- An arm is drawn: its blocks are new. -/
def ADr (k n z rb m : Nat) (w : World) (e : Ending) (w' : World) : Prop := ∃ (v : Value) (t : AT k (n + 1)), e = .returned v ∧ AmV (Frs Non w.heap.size w') w' k (n + 1) v t ∧ okAm 3 k (n + 1) t ∧ zA k (n + 1) t ≤ z ∧ Rd w' rb m ∧ Step rb w w'
def ArmDr (d : Nat) : Prop := ∀ (rb m : Nat) (root : Bool) (w : World) (_ : Rd w rb m) (_ : m + Mar d ≤ 500000), Calls Tryz.prog 50 #[.pointer (some ⟨rb, 0, none⟩), .int .i64 (d : Int), .bool root] w (ADr 2 d (Za d) rb (m + Mar d) w)

section
variable {α : Type} {T : TypeId} {O : Nat → Prop} {sz base : Nat} {V : (Nat → Prop) → World → Value → α → Prop}
theorem row_in (hV : KeptV V) {rb : Nat} {wr w6 : World} {v : Value} {xs : List Value} {ts : List α} (h : GRow O T sz V base wr v xs ts) (st : Step rb wr w6) (hb : rb < base) (hO : ∀ b, O b → b < wr.heap.size ∧ b ≠ rb) (o : Obj) : GRow O T sz V base (w6.alloc o) v xs ts :=
  (h.to hV (out_step st hb hO)).to hV (Out.of (one _ _) (fun b hb => Nat.lt_of_lt_of_le (hO b hb).1 st.size))
theorem new_in (hV : KeptV V) {wr w6 : World} {v u : Value} {xs : List Value} {ts : List α} {t : α} (hv : V (Frs Non wr.heap.size w6) w6 u t) (h : GRow O T sz V base wr v xs ts) (hb : base ≤ wr.heap.size) (o : Obj) : V (Inn O base (w6.alloc o) v) (w6.alloc o) u t := by
  have ho : Out Non wr.heap.size w6 (w6.alloc o) := Out.of (one _ _) non_lt
  refine hV _ _ _ _ _ _ ho.keep (fun b hb' => ?_) hv
  rcases hb' with hb' | hb'
  · exact hb'.elim
  · exact .inr ⟨Nat.le_trans hb hb'.1, Nat.lt_of_lt_of_le hb'.2 ho.size, fun e => by have := (h.1.lt b e.symm).2; have := hb'.1; omega⟩
end
end Go.Proofs.YtjkpingdokkkcaaGreatDoor.Tr

/- An arm while it is drawn: l6Arm's loops. Helper text: no statement is claimed here. -/
namespace Go.Proofs.YtjkpingdokkkcaaGreatDoor.Tr
open Go.ChangeShapes Go.WideShapes Go.ChangeAt Go.RowKit

/-- The net of an arm that is being drawn. -/
def NP (S : Nat → Prop) (w' : World) (kd op : Int) (pa : Option Addr) (la ca : Nat) (pk : Option Addr) (lk ck : Nat) (tn : NT 3) : Prop := NtV S w' 3 (.agg #[.int .i64 kd, .int .i64 op, .slice pa la ca, .slice pk lk ck]) tn ∧ okN 3 3 tn ∧ zN 3 tn ≤ 51
theorem NP.to {S S' : Nat → Prop} {w w' : World} {kd op : Int} {pa : Option Addr} {la ca : Nat} {pk : Option Addr} {lk ck : Nat} {tn : NT 3} (h : NP S w kd op pa la ca pk lk ck tn) (hk : Keep S w w') (hS : ∀ b, S b → S' b) : NP S' w' kd op pa la ca pk lk ck tn := ⟨h.1.to hk hS, h.2⟩
abbrev Zero6 (w' : World) (b : Nat) : Prop := Own6 w' b (.int .i64 0) (.int .i64 0) (.slice none 0 0) (.slice none 0 0) (.slice none 0 0) (.slice none 0 0)
/-- Behind the drawing of the net. -/
def ANet (rb M : Nat) (w wx : World) : Prop := ∃ (kd op : Int) (pa : Option Addr) (la ca : Nat) (pk : Option Addr) (lk ck : Nat) (tn : NT 3), Own6 wx (w.heap.size + 1) (.int .i64 kd) (.int .i64 op) (.slice pa la ca) (.slice pk lk ck) (.slice none 0 0) (.slice none 0 0) ∧ Zero6 wx w.heap.size ∧ NP (Frs Non (w.heap.size + 2) wx) wx kd op pa la ca pk lk ck tn ∧ Rd wx rb M ∧ Step rb w wx
/-- Blocks behind the arm's own, ahead of b1. -/
def mid (w : World) (b1 : Nat) (b : Nat) : Prop := w.heap.size + 1 < b ∧ b < b1
/-- While coils are drawn: so many are to come. -/
def CLoop (rb M : Nat) (w : World) (b1 c : Nat) (w' : World) : Prop := ∃ (kd op : Int) (pa : Option Addr) (la ca : Nat) (pk : Option Addr) (lk ck : Nat) (tn : NT 3) (pc : Option Addr) (cc : Nat) (es : List El), es.length + c ≤ 2 ∧ b1 ≤ w'.heap.size ∧ Own6 w' (w.heap.size + 1) (.int .i64 kd) (.int .i64 op) (.slice pa la ca) (.slice pk lk ck) (.slice pc es.length cc) (.slice none 0 0) ∧ Zero6 w' w.heap.size ∧ NP (mid w b1) w' kd op pa la ca pk lk ck tn ∧ RowE (mid w b1) b1 w' (.slice pc es.length cc) es ∧ (∀ e ∈ es, okEl 3 e) ∧ Rd w' rb (M + 40 * es.length) ∧ Step rb w w'
/-- While kids are drawn: so many are to come. -/
def KLoop (d rb M : Nat) (w : World) (b2 c : Nat) (w' : World) : Prop := ∃ (kd op : Int) (pa : Option Addr) (la ca : Nat) (pk : Option Addr) (lk ck : Nat) (tn : NT 3) (pc : Option Addr) (cc : Nat) (es : List El) (pq : Option Addr) (cq : Nat) (us : List (AT 2 (d + 1))), es.length ≤ 2 ∧ us.length + c ≤ 3 ∧ 1 ≤ us.length + c ∧ b2 ≤ w'.heap.size ∧ Own6 w' (w.heap.size + 1) (.int .i64 kd) (.int .i64 op) (.slice pa la ca) (.slice pk lk ck) (.slice pc es.length cc) (.slice pq us.length cq) ∧ Zero6 w' w.heap.size ∧ NP (mid w b2) w' kd op pa la ca pk lk ck tn ∧
  SlOf (mid w b2) (ElE (mid w b2) w') 2 pc cc es ∧ (∀ e ∈ es, okEl 3 e) ∧ RowA (mid w b2) 2 (d + 1) b2 w' (.slice pq us.length cq) us ∧ (∀ u ∈ us, okAm 3 2 (d + 1) u) ∧ tot (zA 2 (d + 1)) us ≤ us.length * Za d ∧ Rd w' rb (M + us.length * Mar d) ∧ Step rb w w'
/-- Behind the kids. -/
def AEnd (d zk rb M : Nat) (w w' : World) : Prop := ∃ (kd op : Int) (pa : Option Addr) (la ca : Nat) (pk : Option Addr) (lk ck : Nat) (tn : NT 3) (pc : Option Addr) (cc : Nat) (es : List El) (pq : Option Addr) (cq : Nat) (us : List (AT 2 d)), es.length ≤ 2 ∧ us.length ≤ 3 ∧ Own6 w' (w.heap.size + 1) (.int .i64 kd) (.int .i64 op) (.slice pa la ca) (.slice pk lk ck) (.slice pc es.length cc) (.slice pq us.length cq) ∧ Zero6 w' w.heap.size ∧ (∀ e ∈ es, okEl 3 e) ∧ (∀ u ∈ us, okAm 3 2 d u) ∧ tot (zA 2 d) us ≤ zk ∧ Rd w' rb M ∧ Step rb w w' ∧
  ((us = [] ∧ ∃ b1, b1 ≤ w'.heap.size ∧ w.heap.size + 2 ≤ b1 ∧ NP (mid w b1) w' kd op pa la ca pk lk ck tn ∧ RowE (mid w b1) b1 w' (.slice pc es.length cc) es) ∨
   (us ≠ [] ∧ NP (Frs Non (w.heap.size + 2) w') w' kd op pa la ca pk lk ck tn ∧ SlOf (Frs Non (w.heap.size + 2) w') (ElE (Frs Non (w.heap.size + 2) w') w') 2 pc cc es ∧ SlOf (Frs Non (w.heap.size + 2) w') (AmE (Frs Non (w.heap.size + 2) w') w' 2 d) 6 pq cq us))

theorem Keep.ofStep {S : Nat → Prop} {rb : Nat} {w w' : World} (st : Step rb w w') (hS : ∀ b, S b → b < w.heap.size ∧ b ≠ rb) : Keep S w w' := fun b hb => st.block b (hS b hb).1 (hS b hb).2
theorem mid_ok {rb b1 : Nat} {w wr : World} (hb : b1 ≤ wr.heap.size) (hr : rb < w.heap.size) : ∀ b, mid w b1 b → b < wr.heap.size ∧ b ≠ rb := fun b h => ⟨by have := h.2; omega, by have := h.1; omega⟩
theorem rowE_in {O : Nat → Prop} {rb base : Nat} {wr w6 : World} {v : Value} {ts : List El} (h : RowE O base wr v ts) (st : Step rb wr w6) (hb : rb < base) (hO : ∀ b, O b → b < wr.heap.size ∧ b ≠ rb) (o : Obj) : RowE O base (w6.alloc o) v ts := by
  obtain ⟨xs, h⟩ := h
  exact ⟨xs, row_in keptE h st hb hO o⟩
theorem rowA_in {O : Nat → Prop} {rb base k n : Nat} {wr w6 : World} {v : Value} {ts : List (AT k n)} (h : RowA O k n base wr v ts) (st : Step rb wr w6) (hb : rb < base) (hO : ∀ b, O b → b < wr.heap.size ∧ b ≠ rb) (o : Obj) : RowA O k n base (w6.alloc o) v ts := by
  obtain ⟨xs, h⟩ := h
  exact ⟨xs, row_in (keptA k n) h st hb hO o⟩
theorem newE_in {O : Nat → Prop} {base : Nat} {wr w6 : World} {v : Value} {ts : List El} {op : Int} {ys : List Ar} {p : Option Addr} {cap : Nat} (hv : SlOf (Frs Non wr.heap.size w6) (ArE w6) 3 p cap ys) (h : RowE O base wr v ts) (hb : base ≤ wr.heap.size) (o : Obj) : ElV (Inn O base (w6.alloc o) v) (w6.alloc o) (.agg #[.int .i64 op, .slice p ys.length cap]) (op, ys) := by
  obtain ⟨xs, h⟩ := h
  exact new_in keptE (t := (op, ys)) ⟨p, cap, rfl, hv⟩ h hb o
theorem newA_in {O : Nat → Prop} {base k n : Nat} {wr w6 : World} {v u : Value} {ts : List (AT k n)} {t : AT k n} (hv : AmV (Frs Non wr.heap.size w6) w6 k n u t) (h : RowA O k n base wr v ts) (hb : base ≤ wr.heap.size) (o : Obj) : AmV (Inn O base (w6.alloc o) v) (w6.alloc o) k n u t := by
  obtain ⟨xs, h⟩ := h
  exact new_in (keptA k n) hv h hb o
theorem rowE_below {O : Nat → Prop} {base : Nat} {W W' : World} {v : Value} {ts : List El} (h : RowE O base W v ts) (g : W.grownBy W' v.ownBlock) (hb : base ≤ W.heap.size) : Below base W W' := by
  obtain ⟨xs, h⟩ := h
  exact grow_below h.1 g hb
theorem rowA_below {O : Nat → Prop} {base k n : Nat} {W W' : World} {v : Value} {ts : List (AT k n)} (h : RowA O k n base W v ts) (g : W.grownBy W' v.ownBlock) (hb : base ≤ W.heap.size) : Below base W W' := by
  obtain ⟨xs, h⟩ := h
  exact grow_below h.1 g hb
theorem low_keep {rb b1 : Nat} {wr w6 w7 : World} {o : Obj} (st6 : Step rb wr w6) (hb : Below b1 (w6.alloc o) w7) (h1 : b1 ≤ wr.heap.size) : ∀ b, b < b1 → b ≠ rb → w7.heap[b]? = wr.heap[b]? := fun b hb' hr =>
  (hb.block b hb').trans (((one w6 o).block b (by have := st6.size; omega)).trans (st6.block b (by omega) hr))
theorem set_low {b1 c i : Nat} {W : World} {v : Value} {w : World} (hc : c = w.heap.size + 1) : Keep (mid w b1) W (W.setCell ⟨c, i, none⟩ v) := fun b hb => Below.heap_setCell _ _ _ _ (by have := hb.1; simp; omega)

theorem cloop_start {rb M : Nat} {w wx w4 : World} {c : Nat} (h : ANet rb M w wx) (hr : rb < w.heap.size) (st : Step rb wx w4) (hr4 : Rd w4 rb (M + 1)) (hc : c ≤ 2) : CLoop rb (M + 1) w w4.heap.size c w4 := by
  obtain ⟨kd, op, pa, la, ca, pk, lk, ck, tn, hbox, hres, hN, -, hst⟩ := h
  refine ⟨kd, op, pa, la, ca, pk, lk, ck, tn, none, 0, [], by simpa using hc, Nat.le_refl _, hbox.step st (by omega), hres.step st (by omega), hN.to (Keep.ofStep st ?_) ?_, ⟨[], GRow.nil _⟩, fun e he => (by cases he), by simpa using hr4, hst.trans st⟩
  · intro b hb
    rcases hb with hb | hb
    · exact hb.elim
    · exact ⟨hb.2, by omega⟩
  · intro b hb
    rcases hb with hb | hb
    · exact hb.elim
    · exact ⟨by omega, by have := st.size; omega⟩
theorem cloop_step {rb M b1 c g7 cap7 cap : Nat} {w wr w6 w7 : World} {kd op : Int} {pa : Option Addr} {la ca : Nat} {pk : Option Addr} {lk ck : Nat} {tn : NT 3} {pc : Option Addr} {es : List El} {op' : Int} {ys' : List Ar} {o : Obj} (hlen : es.length + (c + 1) ≤ 2) (hb1 : b1 ≤ wr.heap.size) (hres : Zero6 wr w.heap.size) (hN : NP (mid w b1) wr kd op pa la ca pk lk ck tn) (hrow : RowE (mid w b1) b1 wr (.slice pc es.length cap) es) (hok : ∀ e ∈ es, okEl 3 e) (hst : Step rb w wr)
    (hrb : rb < w.heap.size) (hw1 : w.heap.size + 2 ≤ b1) (st6 : Step rb wr w6) (hok6 : okEl 3 (op', ys')) (hr6 : Rd w6 rb (M + 40 * es.length + 40)) (HB7 : Own6 w7 (w.heap.size + 1) (.int .i64 kd) (.int .i64 op) (.slice pa la ca) (.slice pk lk ck) (.slice pc es.length cap) (.slice none 0 0)) (HR7 : RowE (mid w b1) b1 w7 (.slice (some ⟨g7, 0, none⟩) (es.length + 1) cap7) (es ++ [(op', ys')])) (HG7 : (w6.alloc o).grownBy w7 (Value.slice pc es.length cap).ownBlock) :
    CLoop rb M w b1 c (w7.setCell ⟨w.heap.size + 1, 4, none⟩ (.slice (some ⟨g7, 0, none⟩) (es.length + 1) cap7)) := by
  have hs6 := st6.size
  have hbw := rowE_below (rowE_in hrow st6 (by omega) (mid_ok hb1 hrb) o) HG7 (by simp; omega)
  have hlk := low_keep st6 hbw hb1
  have hl : (es ++ [(op', ys')]).length = es.length + 1 := by simp
  have hs7 := hbw.size
  have hsa : w6.heap.size ≤ (w6.alloc o).heap.size := (one w6 o).size
  refine ⟨kd, op, pa, la, ca, pk, lk, ck, tn, some ⟨g7, 0, none⟩, cap7, es ++ [(op', ys')], by rw [hl]; omega, by simp [World.setCell]; omega, ?_, (hres.to (hlk _ (by omega) (by omega))).set (by omega), (hN.to (fun b hb => hlk b hb.2 (by have := hb.1; omega)) (fun _ h => h)).to (set_low rfl) (fun _ h => h), ?_, ?_, ?_, ?_⟩
  · rw [hl]; exact HB7.put5 _
  · rw [hl]
    obtain ⟨xs, hx⟩ := HR7
    exact ⟨xs, hx.to keptE ((Out.refl _ _ _).set (by omega) (fun h => by have := h.1; omega))⟩
  · intro u hu
    rcases List.mem_append.1 hu with h | h
    · exact hok u h
    · rw [List.mem_singleton.1 h]; exact hok6
  · rw [hl]
    exact (((hr6.alloc o).in hbw (by omega)).set _ _ _ (by omega)).mono (by omega)
  · exact ((((hst.trans st6).trans (Step.alloc rb w6 o)).in hbw (by omega))).setNew _ _ _ (by omega)
theorem kloop_start {d rb M b1 : Nat} {w w5 wx : World} {c : Nat} (h : CLoop rb M w b1 0 w5) (hr : rb < w.heap.size) (hw1 : w.heap.size + 2 ≤ b1) (st : Step rb w5 wx) (hrx : Rd wx rb (M + 82)) (hc : c ≤ 3) (hc1 : 1 ≤ c) : KLoop d rb (M + 82) w wx.heap.size c wx := by
  obtain ⟨kd, op, pa, la, ca, pk, lk, ck, tn, pc, cc, es, hlen, hb1, hbox, hres, hN, hrow, hok, hrd, hst⟩ := h
  have hs := st.size
  obtain ⟨xs, hx⟩ := hrow
  obtain ⟨p', cap', he, hS⟩ := hx.sl keptE madeE
  simp only [Value.slice.injEq] at he
  obtain ⟨rfl, -, rfl⟩ := he
  refine ⟨kd, op, pa, la, ca, pk, lk, ck, tn, pc, cc, es, none, 0, [], by omega, by simpa using hc, by simpa using hc1, Nat.le_refl _, hbox.step st (by omega), hres.step st (by omega), hN.to (Keep.ofStep st (mid_ok hb1 hr)) (fun b h => ⟨h.1, by have := h.2; omega⟩), ?_, hok, ⟨[], GRow.nil _⟩, fun e he => (by cases he), by simp [tot], by simpa using hrx, hst.trans st⟩
  refine els_to (Keep.ofStep st ?_) ?_ hS
  · intro b hb
    rcases hb with hb | hb
    · exact mid_ok hb1 hr b hb
    · exact ⟨hb.2, by omega⟩
  · intro b hb
    rcases hb with hb | hb
    · exact ⟨hb.1, by have := hb.2; omega⟩
    · exact ⟨by omega, by omega⟩
theorem kloop_step {d rb M b2 c g7 cap7 cc cq : Nat} {w wr w6 w7 : World} {kd op : Int} {pa : Option Addr} {la ca : Nat} {pk : Option Addr} {lk ck : Nat} {tn : NT 3} {pc pq : Option Addr} {es : List El} {us : List (AT 2 (d + 1))} {t : AT 2 (d + 1)} {o : Obj} (hlen : es.length ≤ 2) (hul : us.length + (c + 1) ≤ 3) (hb2 : b2 ≤ wr.heap.size) (hres : Zero6 wr w.heap.size) (hN : NP (mid w b2) wr kd op pa la ca pk lk ck tn) (hS : SlOf (mid w b2) (ElE (mid w b2) wr) 2 pc cc es) (hok : ∀ e ∈ es, okEl 3 e) (hrow : RowA (mid w b2) 2 (d + 1) b2 wr (.slice pq us.length cq) us) (hoku : ∀ u ∈ us, okAm 3 2 (d + 1) u) (hzu : tot (zA 2 (d + 1)) us ≤ us.length * Za d) (hst : Step rb w wr)
    (hrb : rb < w.heap.size) (hw2 : w.heap.size + 2 ≤ b2) (st6 : Step rb wr w6) (hokt : okAm 3 2 (d + 1) t) (hzt : zA 2 (d + 1) t ≤ Za d) (hr6 : Rd w6 rb (M + us.length * Mar d + Mar d)) (HB7 : Own6 w7 (w.heap.size + 1) (.int .i64 kd) (.int .i64 op) (.slice pa la ca) (.slice pk lk ck) (.slice pc es.length cc) (.slice pq us.length cq)) (HR7 : RowA (mid w b2) 2 (d + 1) b2 w7 (.slice (some ⟨g7, 0, none⟩) (us.length + 1) cap7) (us ++ [t])) (HG7 : (w6.alloc o).grownBy w7 (Value.slice pq us.length cq).ownBlock) :
    KLoop d rb M w b2 c (w7.setCell ⟨w.heap.size + 1, 5, none⟩ (.slice (some ⟨g7, 0, none⟩) (us.length + 1) cap7)) := by
  have hs6 := st6.size
  have hbw := rowA_below (rowA_in hrow st6 (by omega) (mid_ok hb2 hrb) o) HG7 (by simp; omega)
  have hlk := low_keep st6 hbw hb2
  have hl : (us ++ [t]).length = us.length + 1 := by simp
  have hs7 := hbw.size
  have hsa : w6.heap.size ≤ (w6.alloc o).heap.size := (one w6 o).size
  refine ⟨kd, op, pa, la, ca, pk, lk, ck, tn, pc, cc, es, some ⟨g7, 0, none⟩, cap7, us ++ [t], hlen, by rw [hl]; omega, by rw [hl]; omega, by simp [World.setCell]; omega, ?_, (hres.to (hlk _ (by omega) (by omega))).set (by omega), (hN.to (fun b hb => hlk b hb.2 (by have := hb.1; omega)) (fun _ h => h)).to (set_low rfl) (fun _ h => h), els_to (set_low rfl) (fun _ h => h) (els_to (fun b hb => hlk b hb.2 (by have := hb.1; omega)) (fun _ h => h) hS), hok, ?_, ?_, ?_, ?_, ?_⟩
  · rw [hl]; exact HB7.put6 _
  · rw [hl]
    obtain ⟨xs, hx⟩ := HR7
    exact ⟨xs, hx.to (keptA _ _) ((Out.refl _ _ _).set (by omega) (fun h => by have := h.1; omega))⟩
  · intro u hu
    rcases List.mem_append.1 hu with h | h
    · exact hoku u h
    · rw [List.mem_singleton.1 h]; exact hokt
  · rw [hl, tot_app, Nat.add_mul, Nat.one_mul]
    have : tot (zA 2 (d + 1)) [t] = zA 2 (d + 1) t := by simp [tot]
    omega
  · rw [hl, Nat.add_mul, Nat.one_mul]
    exact (((hr6.alloc o).in hbw (by omega)).set _ _ _ (by omega)).mono (by omega)
  · exact ((((hst.trans st6).trans (Step.alloc rb w6 o)).in hbw (by omega))).setNew _ _ _ (by omega)
theorem kloop_end {d rb M b2 : Nat} {w w' : World} (h : KLoop d rb M w b2 0 w') (hw2 : w.heap.size + 2 ≤ b2) : AEnd (d + 1) (3 * Za d) rb (M + 3 * Mar d) w w' := by
  obtain ⟨kd, op, pa, la, ca, pk, lk, ck, tn, pc, cc, es, pq, cq, us, hlen, hul, hu1, hb2, hbox, hres, hN, hS, hok, hrow, hoku, hzu, hrd, hst⟩ := h
  have h1 : us.length * Za d ≤ 3 * Za d := Nat.mul_le_mul_right _ (by omega)
  have h2 : us.length * Mar d ≤ 3 * Mar d := Nat.mul_le_mul_right _ (by omega)
  have hw : b2 ≤ w'.heap.size := hb2
  obtain ⟨xs, hx⟩ := hrow
  obtain ⟨p', cap', he, hU⟩ := hx.sl (keptA _ _) (madeA _ _)
  simp only [Value.slice.injEq] at he
  obtain ⟨rfl, -, rfl⟩ := he
  have hm : ∀ b, mid w b2 b → Frs Non (w.heap.size + 2) w' b := fun b h => .inr ⟨by have := h.1; omega, by have := h.2; omega⟩
  refine ⟨kd, op, pa, la, ca, pk, lk, ck, tn, pc, cc, es, pq, cq, us, hlen, by omega, hbox, hres, hok, hoku, by omega, hrd.mono (by omega), hst, .inr ⟨fun e => by rw [e] at hu1; simp at hu1, hN.to (fun _ _ => rfl) hm, els_to (fun _ _ => rfl) hm hS, arms_to (fun _ _ => rfl) (fun b hb => ?_) hU⟩⟩
  rcases hb with hb | hb
  · exact hm b hb
  · exact .inr ⟨by omega, hb.2⟩
theorem cloop_end {d zk rb M b1 : Nat} {w w5 wx : World} (h : CLoop rb M w b1 0 w5) (hr : rb < w.heap.size) (hw1 : w.heap.size + 2 ≤ b1) (st : Step rb w5 wx) (hrx : Rd wx rb (M + 82)) : AEnd d zk rb (M + 82) w wx := by
  obtain ⟨kd, op, pa, la, ca, pk, lk, ck, tn, pc, cc, es, hlen, hb1, hbox, hres, hN, hrow, hok, hrd, hst⟩ := h
  have hs := st.size
  obtain ⟨xs, hx⟩ := hrow
  exact ⟨kd, op, pa, la, ca, pk, lk, ck, tn, pc, cc, es, none, 0, [], by omega, by simp, hbox.step st (by omega), hres.step st (by omega), hok, fun e he => (by cases he), by simp [tot], hrx, hst.trans st, .inl ⟨rfl, b1, by omega, hw1, hN.to (Keep.ofStep st (mid_ok hb1 hr)) (fun _ h => h), xs, hx.to keptE (out_step st (by omega) (mid_ok hb1 hr))⟩⟩
theorem AEnd.mono {d zk rb M M' : Nat} {w w' : World} (h : AEnd d zk rb M w w') (hM : M ≤ M') : AEnd d zk rb M' w w' := by
  obtain ⟨kd, op, pa, la, ca, pk, lk, ck, tn, pc, cc, es, pq, cq, us, h1, h2, h3, h4, h5, h6, h7, h8, h9⟩ := h
  exact ⟨kd, op, pa, la, ca, pk, lk, ck, tn, pc, cc, es, pq, cq, us, h1, h2, h3, h4, h5, h6, h7, h8.mono hM, h9⟩
theorem AmV.partsA {S : Nat → Prop} {w : World} {k : Nat} : ∀ {n : Nat} {v : Value} {t : AT k n} (_ : AmV S w k n v t), ∃ kd op pa la ca pk lk ck pc lc cc pq lq cq, v = .agg #[.int .i64 kd, .int .i64 op, .slice pa la ca, .slice pk lk ck, .slice pc lc cc, .slice pq lq cq]
  | 0, _, _, h => h.elim
  | n + 1, v, a, h => by
    obtain ⟨kd, op, pa, la, ca, pk, lk, ck, pc, cc, pq, cq, rfl, -, -, -⟩ := h
    exact ⟨kd, op, pa, la, ca, pk, lk, ck, pc, _, cc, pq, _, cq, rfl⟩
theorem zEls_le {es : List El} {n : Nat} (hl : es.length ≤ n) (h : ∀ e ∈ es, okEl 3 e) : zEls es ≤ 4 * n := by
  have : tot zEl es ≤ 3 * es.length := by
    clear hl
    induction es with
    | nil => simp [tot]
    | cons e es ih =>
      rw [tot_cons]
      have h1 : zEl e ≤ 3 := (h e (by simp)).1
      have h2 := ih (fun x hx => h x (by simp [hx]))
      simp
      omega
  unfold zEls
  omega
/-- The arm, put into the result. -/
theorem arm_done {d z rb M : Nat} {w w' : World} {kd op : Int} {pa : Option Addr} {la ca : Nat} {pk : Option Addr} {lk ck : Nat} {tn : NT 3} {pc pq : Option Addr} {cc cq : Nat} {es : List El} {us : List (AT 2 d)} (hlen : es.length ≤ 2) (hul : us.length ≤ 3) (hok : ∀ e ∈ es, okEl 3 e) (hoku : ∀ u ∈ us, okAm 3 2 d u) (hzu : tot (zA 2 d) us + 62 ≤ z) (hrd : Rd w' rb M) (hst : Step rb w w') (hrb : rb < w.heap.size)
    (hN : NP (Frs Non (w.heap.size + 2) w') w' kd op pa la ca pk lk ck tn) (hS : SlOf (Frs Non (w.heap.size + 2) w') (ElE (Frs Non (w.heap.size + 2) w') w') 2 pc cc es) (hU : SlOf (Frs Non (w.heap.size + 2) w') (AmE (Frs Non (w.heap.size + 2) w') w' 2 d) 6 pq cq us) :
    ADr 2 d z rb M w (.returned (.agg #[.int .i64 kd, .int .i64 op, .slice pa la ca, .slice pk lk ck, .slice pc es.length cc, .slice pq us.length cq])) ((((((w'.setCell ⟨w.heap.size, 0, none⟩ (.int .i64 kd)).setCell ⟨w.heap.size, 1, none⟩ (.int .i64 op)).setCell ⟨w.heap.size, 2, none⟩ (.slice pa la ca)).setCell ⟨w.heap.size, 3, none⟩ (.slice pk lk ck)).setCell ⟨w.heap.size, 4, none⟩ (.slice pc es.length cc)).setCell ⟨w.heap.size, 5, none⟩ (.slice pq us.length cq)) := by
  have o := out6 (O := Non) (base := w.heap.size + 2) (w := w') (y0 := .int .i64 kd) (y1 := .int .i64 op) (y2 := .slice pa la ca) (y3 := .slice pk lk ck) (y4 := .slice pc es.length cc) (y5 := .slice pq us.length cq) (c := w.heap.size) (by omega) (fun h => h.elim)
  have hm := Frs.mono (O := Non) (base := w.heap.size + 2) (base' := w.heap.size) (by omega) o.size
  refine ⟨_, ((tn, es, us) : AT 2 (d + 1)), rfl, ⟨kd, op, pa, la, ca, pk, lk, ck, pc, cc, pq, cq, rfl, hN.1.to o.keep hm, els_to o.keep hm hS, arms_to o.keep hm hU⟩, ⟨hN.2.1, hok, hoku⟩, ?_, rd6 hrd hrb, step6 hst (Nat.le_refl _)⟩
  have h1 := zEls_le hlen hok
  have h2 := hN.2.2
  show zN 3 tn + zEls es + (us.length + tot (zA 2 d) us) ≤ z
  omega
theorem rows_done {b1 cc : Nat} {w w' : World} {kd op : Int} {pa : Option Addr} {la ca : Nat} {pk : Option Addr} {lk ck : Nat} {tn : NT 3} {pc : Option Addr} {es : List El} (hw1 : w.heap.size + 2 ≤ b1) (hb1 : b1 ≤ w'.heap.size) (hN : NP (mid w b1) w' kd op pa la ca pk lk ck tn) (hrow : RowE (mid w b1) b1 w' (.slice pc es.length cc) es) :
    NP (Frs Non (w.heap.size + 2) w') w' kd op pa la ca pk lk ck tn ∧ SlOf (Frs Non (w.heap.size + 2) w') (ElE (Frs Non (w.heap.size + 2) w') w') 2 pc cc es := by
  obtain ⟨xs, hx⟩ := hrow
  obtain ⟨p', cap', he, hS⟩ := hx.sl keptE madeE
  simp only [Value.slice.injEq] at he
  obtain ⟨rfl, -, rfl⟩ := he
  have hm : ∀ b, mid w b1 b → Frs Non (w.heap.size + 2) w' b := fun b h => .inr ⟨by have := h.1; omega, by have := h.2; omega⟩
  refine ⟨hN.to (fun _ _ => rfl) hm, els_to (fun _ _ => rfl) (fun b hb => ?_) hS⟩
  rcases hb with hb | hb
  · exact hm b hb
  · exact .inr ⟨by omega, hb.2⟩
theorem cloop_last {rb M b1 g7 cap7 cap : Nat} {w wr w6 w7 : World} {kd op : Int} {pa : Option Addr} {la ca : Nat} {pk : Option Addr} {lk ck : Nat} {tn : NT 3} {pc : Option Addr} {op' : Int} {ys' : List Ar} {o : Obj} (hb1 : b1 ≤ wr.heap.size) (hN : NP (mid w b1) wr kd op pa la ca pk lk ck tn) (hrow : RowE (mid w b1) b1 wr (.slice pc 0 cap) []) (hst : Step rb w wr)
    (hrb : rb < w.heap.size) (hw1 : w.heap.size + 2 ≤ b1) (st6 : Step rb wr w6) (hr6 : Rd w6 rb M) (HR7 : RowE (mid w b1) b1 w7 (.slice (some ⟨g7, 0, none⟩) 1 cap7) [(op', ys')]) (HG7 : (w6.alloc o).grownBy w7 (Value.slice pc 0 cap).ownBlock) :
    (NP (Frs Non (w.heap.size + 2) (w7.setCell ⟨w.heap.size + 1, 4, none⟩ (.slice (some ⟨g7, 0, none⟩) 1 cap7))) (w7.setCell ⟨w.heap.size + 1, 4, none⟩ (.slice (some ⟨g7, 0, none⟩) 1 cap7)) kd op pa la ca pk lk ck tn ∧
      SlOf (Frs Non (w.heap.size + 2) (w7.setCell ⟨w.heap.size + 1, 4, none⟩ (.slice (some ⟨g7, 0, none⟩) 1 cap7))) (ElE (Frs Non (w.heap.size + 2) (w7.setCell ⟨w.heap.size + 1, 4, none⟩ (.slice (some ⟨g7, 0, none⟩) 1 cap7))) (w7.setCell ⟨w.heap.size + 1, 4, none⟩ (.slice (some ⟨g7, 0, none⟩) 1 cap7))) 2 (some ⟨g7, 0, none⟩) cap7 [(op', ys')]) ∧
    Rd (w7.setCell ⟨w.heap.size + 1, 4, none⟩ (.slice (some ⟨g7, 0, none⟩) 1 cap7)) rb M ∧ Step rb w (w7.setCell ⟨w.heap.size + 1, 4, none⟩ (.slice (some ⟨g7, 0, none⟩) 1 cap7)) := by
  have hs6 := st6.size
  have hbw := rowE_below (rowE_in hrow st6 (by omega) (mid_ok hb1 hrb) o) HG7 (by simp; omega)
  have hlk := low_keep st6 hbw hb1
  have hs7 := hbw.size
  have hsa : w6.heap.size ≤ (w6.alloc o).heap.size := (one w6 o).size
  refine ⟨rows_done (es := [(op', ys')]) hw1 (by simp [World.setCell]; omega) ((hN.to (fun b hb => hlk b hb.2 (by have := hb.1; omega)) (fun _ h => h)).to (set_low rfl) (fun _ h => h)) ?_, ?_, ?_⟩
  · obtain ⟨xs, hx⟩ := HR7
    exact ⟨xs, hx.to keptE ((Out.refl _ _ _).set (by omega) (fun h => by have := h.1; omega))⟩
  · exact (((hr6.alloc o).in hbw (by omega)).set _ _ _ (by omega))
  · exact ((((hst.trans st6).trans (Step.alloc rb w6 o)).in hbw (by omega))).setNew _ _ _ (by omega)
theorem sl_nil {α : Type} {S : Nat → Prop} {E : Nat → Nat → α → Prop} {sz : Nat} {p : Option Addr} {cap : Nat} : SlOf S E sz p cap ([] : List α) := ⟨⟨Nat.zero_le _, Nat.zero_le _⟩, .inl rfl⟩
end Go.Proofs.YtjkpingdokkkcaaGreatDoor.Tr
