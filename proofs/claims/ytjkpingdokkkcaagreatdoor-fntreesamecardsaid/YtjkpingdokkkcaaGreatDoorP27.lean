/- The drawing of any ladder: l6Any, DrawTreeSame. Helper text: no statement is claimed here. -/
import Derived.Test.YtjkpingdokkkcaaGreatDoorEm
import Derived.Test.YtjkpingdokkkcaaGreatDoorP10
import Derived.Test.YtjkpingdokkkcaaGreatDoorP11
import Derived.Test.YtjkpingdokkkcaaGreatDoorP12
namespace Go.Proofs.YtjkpingdokkkcaaGreatDoor.Tr
open Go.ChangeShapes Go.WideShapes Go.ChangeAt Go.RowKit

set_option maxHeartbeats 1000000 in
set_option maxRecDepth 100000 in
theorem l6Any_any (K Nn : Nat) (hK : 63 ≤ K) (hK2 : K ≤ 100) (hNn : 61 ≤ Nn) (hN2 : Nn ≤ 100) (rb m : Nat) (w : World) (hr : Rd w rb m) (hm : m ≤ 300000) : Calls Tryz.prog 12 #[.pointer (some ⟨rb, 0, none⟩)] w (LDr Non 4 (K + 1) (Nn + 1) 60 6000 rb (m + 41000) w) := by
  have hlt := hr.lt
  go_enter Tryz.func12, Tryz.ntmps12
  go_wp2_with fail
  refine (l6Ladder_any K Nn hK hNn rb m w hr hm).mono ?_
  rintro e w2 ⟨p, cap, us, rfl, hS, hok, hl, hz, hr2, st2⟩
  have HS : Hid (SlOf (Frs Non w.heap.size w2) (AmE (Frs Non w.heap.size w2) w2 K (Nn + 1)) 6 p cap us) := hS
  have HOK : Hid (∀ u ∈ us, okAm 3 K (Nn + 1) u) := hok
  have HZ : Hid (tot (zA K (Nn + 1)) us ≤ 4000) := hz
  have hs2 := st2.size
  clear hS hok hz hr
  go_wp2_with fail
  refine (pick_any rb (m + 40000) 16 _ (by omega) hr2 (by omega)).mono ?_
  rintro e w3 ⟨k, rfl, k0, k1, -, hr3, st3⟩
  have hs3 := st3.size
  have hF : ∀ b, Frs Non w.heap.size w2 b → b < w2.heap.size ∧ b ≠ rb := fun b hb => hb.elim (fun h => h.elim) fun h => ⟨h.2, by omega⟩
  have HS3 : Hid (SlOf (Frs Non w.heap.size w2) (AmE (Frs Non w.heap.size w2) w3 K (Nn + 1)) 6 p cap us) := arms_to (Keep.ofStep st3 hF) (fun _ h => h) HS.out
  have HF : Hid (∀ b, Frs Non w.heap.size w2 b → b < w3.heap.size ∧ b ≠ rb) := fun b hb => ⟨by have := (hF b hb).1; omega, (hF b hb).2⟩
  have HST : Hid (Step rb w w3) := st2.trans st3
  clear hF HS st2 st3 k0 k1 hr2
  by_cases hk : k = 0
  · subst hk
    go_wp2_with fail
    refine (spoil_any (Frs Non w.heap.size w2) 3 K Nn 4000 rb (m + 40000 + 1) w3 p cap us hr3 (by omega) HF.out HS3.out HOK.out (by omega) HZ.out (by omega) (by omega) (by omega)).mono ?_
    rintro e w4 ⟨p4, cap4, vs, rfl, hS4, hok4, hl4, hz4, hr4, st4⟩
    have hs4 := st4.size
    go_wp2
    go_ret
    refine ⟨p4, cap4, vs, rfl, arms_to (fun _ _ => rfl) (fun b hb => ?_) hS4, hok4, hl4, hz4, hr4.mono (by omega), HST.out.trans st4⟩
    rcases hb with hb | hb
    · exact hb.elim (fun h => h.elim) fun h => .inr ⟨h.1, by omega⟩
    · exact .inr ⟨by omega, hb.2⟩
  · have hk' : (k == 0) = false := by simp [hk]
    go_wp2
    go_ret
    refine ⟨p, cap, us.map (fA K (Nn + 1)), by rw [List.length_map]; rfl, kidsA_up HS3.out (fun _ _ => rfl) (fun b hb => ?_), fun u hu => okAm_mono (by omega) _ (kidsA_ok HOK.out u hu), by rw [List.length_map]; omega, ?_, hr3.mono (by omega), HST.out⟩
    · exact hb.elim (fun h => h.elim) fun h => .inr ⟨h.1, by omega⟩
    · have := kidsA_z us
      have h2 := HZ.out
      show tot (zA (K + 1) (Nn + 1 + 1)) (us.map (fA K (Nn + 1))) ≤ 6000
      omega
theorem res2S {fn : Func} {W : World} {p q : Nat} {tmps : Array Value} {x y : Value} (h : fn.results = #[.tmp p, .tmp q]) (hp : tmps.getD p undef = x) (hq : tmps.getD q undef = y) : (results fn tmps).run Tryz.prog W = .ok (.tuple #[x, y]) W := by
  have hp' : tmps[p]?.getD undef = x := by simpa [Array.getD_eq_getD_getElem?] using hp
  have hq' : tmps[q]?.getD undef = y := by simpa [Array.getD_eq_getD_getElem?] using hq
  simp [results, h, hp', hq']
/-- Two ladders are drawn. -/
def DrTT (k n : Nat) (w : World) (e : Ending) (w' : World) : Prop := ∃ (p : Option Addr) (cap : Nat) (us : List (AT k n)) (p' : Option Addr) (cap' : Nat) (vs : List (AT k n)), e = .returned (.tuple #[.slice p us.length cap, .slice p' vs.length cap']) ∧
  SlOf (Frs Non w.heap.size w') (AmE (Frs Non w.heap.size w') w' k n) 6 p cap us ∧ SlOf (Frs Non w.heap.size w') (AmE (Frs Non w.heap.size w') w' k n) 6 p' cap' vs ∧ zAs k n us ≤ 100000 ∧ zAs k n vs ≤ 100000 ∧ Below w.heap.size w w'
set_option maxHeartbeats 1000000 in
set_option maxRecDepth 100000 in
theorem drawTreeSame_any (K Nn : Nat) (hK : 63 ≤ K) (hK2 : K ≤ 100) (hNn : 61 ≤ Nn) (hN2 : Nn ≤ 100) (a : Option Addr) (len cap : Nat) (w : World) (h : IsRow w a len) (hlc : len ≤ cap) : Calls Tryz.prog 4 #[.slice a len cap] w (DrTT (K + 2) (Nn + 3) w) := by
  go_enter Tryz.func4, Tryz.ntmps4
  go_wp2_with fail
  refine (open_any a len cap w h hlc).mono ?_
  rintro e w1 ⟨rfl, hr1, hb1⟩
  obtain ⟨rb, hrb⟩ : ∃ rb, rb = w.heap.size := ⟨_, rfl⟩
  rw [← hrb] at hr1 ⊢
  have hl1 := hr1.lt
  obtain ⟨m0, hm0⟩ : ∃ m0, m0 = 0 := ⟨_, rfl⟩
  rw [← hm0] at hr1
  have hm1 : m0 ≤ 0 := by omega
  have hwr : w.heap.size ≤ rb := by omega
  clear hm0 hrb
  have HB1 : Hid (Below w.heap.size w w1) := hb1
  clear hb1
  go_wp2_with fail
  refine (l6Any_any K Nn hK hK2 hNn hN2 rb m0 w1 hr1 (by omega)).mono ?_
  rintro e w2 ⟨p, cap2, us, rfl, hS, hok, hl, hz, hr2, st2⟩
  have HS : Hid (SlOf (Frs Non w1.heap.size w2) (AmE (Frs Non w1.heap.size w2) w2 (K + 1) (Nn + 2)) 6 p cap2 us) := hS
  have HOK : Hid (∀ u ∈ us, okAm 4 (K + 1) (Nn + 2) u) := hok
  have HZ : Hid (tot (zA (K + 1) (Nn + 2)) us ≤ 6000) := hz
  have hs2 := st2.size
  clear hS hok hz hr1
  go_wp2_with fail
  refine (pick_any rb (m0 + 41000) 2 _ (by omega) hr2 (by omega)).mono ?_
  rintro e w3 ⟨k, rfl, k0, k1, -, hr3, st3⟩
  have hs3 := st3.size
  have hF : ∀ b, Frs Non w1.heap.size w2 b → b < w2.heap.size ∧ b ≠ rb := fun b hb => hb.elim (fun h => h.elim) fun h => ⟨h.2, by omega⟩
  have HS3 : Hid (SlOf (Frs Non w1.heap.size w2) (AmE (Frs Non w1.heap.size w2) w3 (K + 1) (Nn + 2)) 6 p cap2 us) := arms_to (Keep.ofStep st3 hF) (fun _ h => h) HS.out
  have HF : Hid (∀ b, Frs Non w1.heap.size w2 b → b < w3.heap.size ∧ b ≠ rb) := fun b hb => ⟨by have := (hF b hb).1; omega, (hF b hb).2⟩
  have HST : Hid (Step rb w1 w3) := st2.trans st3
  have hsz1 := HB1.out.size
  have HZ1 : Hid (zAs (K + 2) (Nn + 3) (us.map (fA (K + 1) (Nn + 2))) ≤ 100000) := by
    have h1 := kidsA_z us
    have h2 := HZ.out
    have h3 : zAs (K + 2) (Nn + 3) (us.map (fA (K + 1) (Nn + 2))) = (us.map (fA (K + 1) (Nn + 2))).length + tot (zA (K + 2) (Nn + 3)) (us.map (fA (K + 1) (Nn + 2))) := rfl
    have h4 : tot (zA (K + 2) (Nn + 3)) (us.map (fA (K + 1) (Nn + 2))) = tot (zA (K + 1) (Nn + 2)) us := h1
    rw [List.length_map] at h3
    show zAs (K + 2) (Nn + 3) (us.map (fA (K + 1) (Nn + 2))) ≤ 100000
    omega
  clear hF HS st2 st3 k0 k1 hr2
  by_cases hk : k = 0
  · subst hk
    go_wp2_with fail
    refine (spoil_any (Frs Non w1.heap.size w2) 4 (K + 1) (Nn + 1) 6000 rb (m0 + 41000 + 1) w3 p cap2 us hr3 (by omega) HF.out HS3.out HOK.out (by omega) HZ.out (by omega) (by omega) (by omega)).mono ?_
    rintro e w4 ⟨p4, cap4, vs, rfl, hS4, hok4, hl4, hz4, hr4, st4⟩
    have hs4 := st4.size
    have hbB : Below w.heap.size w w4 := HB1.out.trans ((HST.out.trans st4).below (by omega) hsz1)
    go_wp2
    refine bodyPost_ret (v := .tuple #[.slice p us.length cap2, .slice p4 vs.length cap4]) (res2S Tryz.results4 rfl rfl) rfl ?_
    refine ⟨p, cap2, us.map (fA (K + 1) (Nn + 2)), p4, cap4, vs, by rw [List.length_map], kidsA_up HS3.out (Keep.ofStep st4 HF.out) (fun b hb => ?_), arms_to (fun _ _ => rfl) (fun b hb => ?_) hS4, HZ1.out, ?_, hbB⟩
    · exact hb.elim (fun h => h.elim) fun h => .inr ⟨by omega, by omega⟩
    · rcases hb with hb | hb
      · exact hb.elim (fun h => h.elim) fun h => .inr ⟨by omega, by omega⟩
      · exact .inr ⟨by omega, hb.2⟩
    · have h3 : zAs (K + 2) (Nn + 3) vs = vs.length + tot (zA (K + 1 + 1) (Nn + 1 + 1 + 1)) vs := rfl
      omega
  · have hk' : (k == 0) = false := by simp [hk]
    have HOB : Hid (∀ b, Frs Non w1.heap.size w2 b → b < w3.heap.size) := fun b hb => (HF.out b hb).1
    have HSW : Hid (SlOf (Frs Non w1.heap.size w2) (AmE (Frs Non w1.heap.size w2) (w3.alloc (.cells #[] 52)) (K + 1) (Nn + 2)) 6 p cap2 us) := arms_to (Keep.of (one w3 _) HOB.out) (fun _ h => h) HS3.out
    go_wp2_with (refine wl_copy tyA (keptA (K + 1) (Nn + 2)) (readA (K + 1) (Nn + 2)) (O := Frs Non w1.heap.size w2) (base := w3.heap.size) _ (by rfl) (.tmp 18) (.tmp 19) (by rfl) w3.heap.size (by rfl) (last _ _) (Nat.le_refl _) HOB.out (by rfl) HSW.out (by omega) ?_; intro g cap5 w4 HR4 HG4 hg4 hl4)
    refine bodyPost_ret (v := .tuple #[.slice p us.length cap2, .slice (some ⟨g, 0, none⟩) us.length cap5]) (res2S Tryz.results4 rfl rfl) rfl ?_
    have hb34 : Below w3.heap.size w3 w4 := (one w3 (.cells #[] 52)).trans ⟨HG4.out.os, HG4.out.tape, HG4.out.output, HG4.out.size, fun b hb => HG4.out.block b (by simp; omega) (by simp; omega)⟩
    have hs4 := hb34.size
    have hbB : Below w.heap.size w w4 := HB1.out.trans ((HST.out.trans (.of hb34)).below (by omega) hsz1)
    refine ⟨p, cap2, us.map (fA (K + 1) (Nn + 2)), some ⟨g, 0, none⟩, cap5, us.map (fA (K + 1) (Nn + 2)), by rw [List.length_map], kidsA_up HS3.out (Keep.of hb34 HOB.out) (fun b hb => ?_), kidsA_up (row_sl HR4.out) (fun _ _ => rfl) (fun b hb => ?_), HZ1.out, HZ1.out, hbB⟩
    · exact hb.elim (fun h => h.elim) fun h => .inr ⟨by omega, by omega⟩
    · rcases hb with hb | hb
      · exact hb.elim (fun h => h.elim) fun h => .inr ⟨by omega, by omega⟩
      · exact .inr ⟨by omega, hb.2⟩
end Go.Proofs.YtjkpingdokkkcaaGreatDoor.Tr

/- The drawing of a ladder and an operand: DrawTreeUses. Helper text: no statement is claimed here. -/
namespace Go.Proofs.YtjkpingdokkkcaaGreatDoor.Tr
open Go.ChangeShapes Go.WideShapes Go.ChangeAt Go.RowKit

theorem res2A {fn : Func} {W : World} {b p q : Nat} {tmps : Array Value} {x x0 x1 x2 : Value} (h : fn.results = #[.tmp p, .cell q 27]) (hp : tmps.getD p undef = x) (hq : tmps.getD q undef = .pointer (some ⟨b, 0, none⟩)) (hc : W.cell? ⟨b, 0, none⟩ = some x0 ∧ W.cell? ⟨b, 1, none⟩ = some x1 ∧ W.cell? ⟨b, 2, none⟩ = some x2) : (results fn tmps).run Tryz.prog W = .ok (.tuple #[x, .agg #[x0, x1, x2]]) W := by
  obtain ⟨h0, h1, h2⟩ := hc
  have hp' : tmps[p]?.getD undef = x := by simpa [Array.getD_eq_getD_getElem?] using hp
  have hq' : tmps[q]?.getD undef = .pointer (some ⟨b, 0, none⟩) := by simpa [Array.getD_eq_getD_getElem?] using hq
  simp only [results, h]
  simp [go_sem, hp', hq', h0, h1, h2]
/-- An operand is drawn beside a ladder. -/
def DrTU (w : World) (e : Ending) (w' : World) : Prop := ∃ (v : Value) (k n p : Int), e = .returned (.tuple #[v, .agg #[.int .i64 k, .int .i64 n, .int .i64 p]]) ∧ Below w.heap.size w w'
set_option maxHeartbeats 1000000 in
set_option maxRecDepth 100000 in
theorem drawTreeUses_any (K Nn : Nat) (hK : 63 ≤ K) (hK2 : K ≤ 100) (hNn : 61 ≤ Nn) (hN2 : Nn ≤ 100) (a : Option Addr) (len cap : Nat) (w : World) (h : IsRow w a len) (hlc : len ≤ cap) : Calls Tryz.prog 5 #[.slice a len cap] w (DrTU w) := by
  go_enter Tryz.func5, Tryz.ntmps5
  go_wp2_with fail
  refine (open_any a len cap _ (h.alloc _) hlc).mono ?_
  rintro e w1 ⟨rfl, hr1, hb1⟩
  have hR1 : Own w1 w.heap.size (.int .i64 0) (.int .i64 0) (.int .i64 0) := (Own.new w _ _ _).below hb1
  have HB1 : Hid (Below w.heap.size w w1) := of_one hb1
  obtain ⟨rb, hrb⟩ : ∃ rb, rb = (w.alloc (.cells #[.int .i64 0, .int .i64 0, .int .i64 0] 27)).heap.size := ⟨_, rfl⟩
  rw [← hrb] at hr1 ⊢
  have hwr : w.heap.size < rb := by rw [hrb]; simp
  obtain ⟨m0, hm0⟩ : ∃ m0, m0 = 0 := ⟨_, rfl⟩
  rw [← hm0] at hr1
  have hm1 : m0 ≤ 0 := by omega
  clear hm0 hrb hb1
  have hl1 := hr1.lt
  have hsz1 := HB1.out.size
  go_wp2_with fail
  refine (argAny_any rb m0 w1 hr1 (by omega)).mono ?_
  rintro e w2 ⟨k, n, p, rfl, -, -, -, hr2, st2⟩
  have hR2 : Own w2 w.heap.size (.int .i64 0) (.int .i64 0) (.int .i64 0) := hR1.step st2 (by omega)
  have hl2 := hR2.lt
  have hs2 := st2.size
  have HB2 : Hid (Below w.heap.size w w2) := HB1.out.trans (st2.below (by omega) hsz1)
  clear st2 hr1 hR1 HB1
  go_wp2
  have hB3 : Own (w2.alloc (.cells #[.int .i64 k, .int .i64 n, .int .i64 p] 27)) w2.heap.size (.int .i64 k) (.int .i64 n) (.int .i64 p) := Own.new w2 _ _ _
  have hR3 : Own (w2.alloc (.cells #[.int .i64 k, .int .i64 n, .int .i64 p] 27)) w.heap.size (.int .i64 0) (.int .i64 0) (.int .i64 0) := hR2.alloc _
  have hr3 : Rd (w2.alloc (.cells #[.int .i64 k, .int .i64 n, .int .i64 p] 27)) rb (m0 + 8) := hr2.alloc _
  have HB3 : Hid (Below w.heap.size w (w2.alloc (.cells #[.int .i64 k, .int .i64 n, .int .i64 p] 27))) := HB2.out.alloc HB2.out.size _
  obtain ⟨B5, hB5⟩ : ∃ B5, B5 = w2.heap.size := ⟨_, rfl⟩
  have hrb5 : rb < B5 := by omega
  have hw5 : w.heap.size < B5 := by omega
  rw [← hB5] at hB3 ⊢
  generalize w2.alloc (.cells #[.int .i64 k, .int .i64 n, .int .i64 p] 27) = V at *
  clear hB5 hR2 hr2 HB2 hl2 hs2
  have hlB := hB3.lt
  have hlR := hR3.lt
  have hsz3 := HB3.out.size
  obtain ⟨⟨x0, x1, x2⟩, -⟩ := hB3
  have HR3 : Hid (Own V w.heap.size (.int .i64 0) (.int .i64 0) (.int .i64 0)) := hR3
  have hne5 : w.heap.size ≠ B5 := by omega
  clear hR3
  go_region_held3 (fun W => W.cell? ⟨B5, 0, none⟩ = some (.int .i64 k) ∧ W.cell? ⟨B5, 1, none⟩ = some (.int .i64 n) ∧ W.cell? ⟨B5, 2, none⟩ = some (.int .i64 p)) (first | go_keep | (refine ⟨?_, ?_, ?_⟩ <;> assumption))
    (first
      | (go_at_call 12; refine (l6Any_any K Nn hK hK2 hNn hN2 rb (m0 + 8) _ hr3.drew (by omega)).mono ?_; rintro e w4 ⟨p4, cap4, vs, rfl, -, -, -, -, -, st4⟩; have st4' : Step rb V w4 := (Step.drew rb V).trans st4; have y0 := (st4'.cell B5 0 hlB (by omega)).trans x0; have y1 := (st4'.cell B5 1 hlB (by omega)).trans x1; have y2 := (st4'.cell B5 2 hlB (by omega)).trans x2; have HR4 : Hid (Own w4 w.heap.size (.int .i64 0) (.int .i64 0) (.int .i64 0)) := HR3.out.step st4' (by omega); have HB4 : Hid (Below w.heap.size w w4) := HB3.out.trans (st4'.below (by omega) hsz3); obtain ⟨⟨c0, c1, c2⟩, f0, f1, f2⟩ := HR4.out; clear st4 st4'))
  all_goals (try go_wp2)
  all_goals refine bodyPost_ret (v := .tuple #[.slice p4 vs.length cap4, .agg #[.int .i64 k, .int .i64 n, .int .i64 p]]) (res2A (b := w.heap.size) Tryz.results5 rfl rfl (HR4.out.put _ _ _).1) rfl ?_
  all_goals exact ⟨_, k, n, p, rfl, ((HB4.out.setCell (Nat.le_refl _) _).setCell (Nat.le_refl _) _).setCell (Nat.le_refl _) _⟩
end Go.Proofs.YtjkpingdokkkcaaGreatDoor.Tr

/- The walk of the law FnTreeSame. Helper text: no statement is claimed here. -/
namespace Go.Proofs.YtjkpingdokkkcaaGreatDoor.Tr
open Go.ChangeShapes Go.WideShapes Go.ChangeAt Go.RowKit
open Tb (Tab)

theorem eqL_iff {α : Type} {f : α → α → Bool} (hf : ∀ a b, f a b = true ↔ a = b) : ∀ (l m : List α), eqL f l m = true ↔ l = m
  | [], [] => by simp [eqL]
  | [], _ :: _ => by simp [eqL]
  | _ :: _, [] => by simp [eqL]
  | a :: l, b :: m => by simp [eqL, hf, eqL_iff hf l m]
theorem eqAr_iff (a b : Ar) : eqAr a b = true ↔ a = b := by
  obtain ⟨a0, a1, a2⟩ := a
  obtain ⟨b0, b1, b2⟩ := b
  simp [eqAr, and_assoc]
theorem eqE_iff (a b : El) : eqE a b = true ↔ a = b := by
  obtain ⟨a0, a1⟩ := a
  obtain ⟨b0, b1⟩ := b
  simp [eqE, eqL_iff eqAr_iff]
theorem eqN_iff : ∀ (n : Nat) (a b : NT n), eqN n a b = true ↔ a = b
  | 0, a, _ => a.elim
  | n + 1, a, b => by
    obtain ⟨a0, a1, a2⟩ := a
    obtain ⟨b0, b1, b2⟩ := b
    have h : eqN (n + 1) ((a0, a1, a2) : Int × El × List (NT n)) ((b0, b1, b2) : Int × El × List (NT n)) = (decide (a0 = b0) && eqE a1 b1 && eqL (eqN n) a2 b2) := rfl
    refine Iff.trans (by rw [h]) ?_
    simp only [Bool.and_eq_true, decide_eq_true_eq, eqE_iff, eqL_iff (eqN_iff n)]
    constructor
    · rintro ⟨⟨rfl, rfl⟩, rfl⟩; rfl
    · intro h; cases h; exact ⟨⟨rfl, rfl⟩, rfl⟩
theorem eqA_iff (k : Nat) : ∀ (n : Nat) (a b : AT k n), eqA k n a b = true ↔ a = b
  | 0, a, _ => a.elim
  | n + 1, a, b => by
    obtain ⟨a0, a1, a2⟩ := a
    obtain ⟨b0, b1, b2⟩ := b
    have h : eqA k (n + 1) ((a0, a1, a2) : NT (k + 1) × List El × List (AT k n)) ((b0, b1, b2) : NT (k + 1) × List El × List (AT k n)) = (eqN (k + 1) a0 b0 && eqL eqE a1 b1 && eqL (eqA k n) a2 b2) := rfl
    refine Iff.trans (by rw [h]) ?_
    simp only [Bool.and_eq_true, eqN_iff, eqL_iff eqE_iff, eqL_iff (eqA_iff k n)]
    constructor
    · rintro ⟨⟨rfl, rfl⟩, rfl⟩; rfl
    · intro h; cases h; exact ⟨⟨rfl, rfl⟩, rfl⟩
theorem eqT_iff (k n : Nat) (us vs : List (AT k n)) : eqL (eqA k n) us vs = true ↔ us = vs := eqL_iff (eqA_iff k n) us vs
theorem eqT_comm (k n : Nat) (us vs : List (AT k n)) : eqL (eqA k n) vs us = eqL (eqA k n) us vs := by
  rw [Bool.eq_iff_iff, eqT_iff, eqT_iff]
  exact eq_comm
theorem eqT_self (k n : Nat) (us : List (AT k n)) : eqL (eqA k n) us us = true := (eqT_iff k n us us).2 rfl
theorem callT {w : World} {f : FuncId} {args : Array Value} {v : Value} (h : ∀ W, Below w.heap.size w W → Calls Tryz.prog f args W fun e w' => e = .returned v ∧ Below W.heap.size W w') (d : Nat) (os : Array Obj) :
    Calls Tryz.prog f args (Sort.grow (redrawn w d) os) fun e w'' => e = .returned v ∧ ∃ p : Regrown, w'' = Sort.grow (redrawn w p.d) p.os := Calls.regrown_of (h _ (below_regrown w d os))
theorem row_kept {w w' : World} {a : Option Addr} {len : Nat} (h : IsRow w a len) (hb : Below w.heap.size w w') : IsRow w' a len := by
  rcases h with h | ⟨b, off, f, rfl, hc⟩
  · exact .inl h
  · refine .inr ⟨b, off, f, rfl, fun i hi => ⟨?_, (hc i hi).2⟩⟩
    exact keep2 hb (hc i hi).1

theorem drawTS : ∃ k, ∀ (a : Option Addr) (len cap : Nat) (w : World), IsRow w a len → len ≤ cap → Calls Tryz.prog 4 #[.slice a len cap] w (DrTT k (k + 1) w) := by
  have h : ∀ K, 63 ≤ K → K ≤ 100 → ∃ k, ∀ (a : Option Addr) (len cap : Nat) (w : World), IsRow w a len → len ≤ cap → Calls Tryz.prog 4 #[.slice a len cap] w (DrTT k (k + 1) w) := fun K h1 h2 => ⟨K + 2, fun a len cap w h hlc => drawTreeSame_any K K h1 h2 (by omega) h2 a len cap w h hlc⟩
  exact h 63 (by omega) (by omega)
theorem drawTU (a : Option Addr) (len cap : Nat) (w : World) (h : IsRow w a len) (hlc : len ≤ cap) : Calls Tryz.prog 5 #[.slice a len cap] w (DrTU w) := by
  have h' : ∀ K, 63 ≤ K → K ≤ 100 → Calls Tryz.prog 5 #[.slice a len cap] w (DrTU w) := fun K h1 h2 => drawTreeUses_any K K h1 h2 (by omega) h2 a len cap w h hlc
  exact h' 63 (by omega) (by omega)

set_option maxHeartbeats 2000000 in
set_option maxRecDepth 100000 in
theorem tree_walk (T : Tab) (w : World) (hT : Tb.DevTab T w) (hE : ErrT w) (a a2 : Option Addr) (len len2 cap cap2 : Nat) (h : IsRow w a len) (hlc : len ≤ cap) (h2 : IsRow w a2 len2) (hlc2 : len2 ≤ cap2) :
    Calls Tryz.prog 3 #[.slice a len cap, .slice a2 len2 cap2] w fun e w' => e = .returned (.bool true) ∧ Below w.heap.size w w' := by
  obtain ⟨k, HD⟩ : ∃ k, Hid (∀ (a : Option Addr) (len cap : Nat) (w : World), IsRow w a len → len ≤ cap → Calls Tryz.prog 4 #[.slice a len cap] w (DrTT k (k + 1) w)) := drawTS
  have HT : Hid (Tb.DevTab T w) := hT
  have HE : Hid (ErrT w) := hE
  clear hT hE
  by_cases hl : len ≤ 1048576
  · have hl' : ¬ (1048576 : Int) < (len : Int) := by omega
    by_cases hl2 : len2 ≤ 1048576
    · have hl2' : ¬ (1048576 : Int) < (len2 : Int) := by omega
      have H2 : Hid (IsRow w a2 len2) := h2
      clear h2
      go_enter Tryz.func3, Tryz.ntmps3
      go_wp2_with fail
      refine (HD.out a len cap w h hlc).mono ?_
      rintro e w1 ⟨p, cp, us, q, cq, vs, rfl, hU, hV, hzU, hzV, hb1⟩
      have HU : Hid (SlOf (Frs Non w.heap.size w1) (AmE (Frs Non w.heap.size w1) w1 k (k + 1)) 6 p cp us) := hU
      have HV : Hid (SlOf (Frs Non w.heap.size w1) (AmE (Frs Non w.heap.size w1) w1 k (k + 1)) 6 q cq vs) := hV
      have HB1 : Hid (Below w.heap.size w w1) := hb1
      have HF : Hid (∀ b, Frs Non w.heap.size w1 b → b < w1.heap.size) := fun b hb => hb.elim (fun h => h.elim) fun h => h.2
      clear hU hV hb1 h
      go_wp2_with fail
      refine (drawTU a2 len2 cap2 w1 (row_kept H2.out HB1.out) hlc2).mono ?_
      rintro e w2 ⟨xv, x0, x1, x2, rfl, hb2⟩
      have hs1 := HB1.out.size
      have hs2 := hb2.size
      have HB12 : Hid (Below w1.heap.size w1 (w2.alloc (.cells #[.int .i64 x0, .int .i64 x1, .int .i64 x2] 27))) := hb2.alloc hs2 _
      have HO2 : Hid (Own (w2.alloc (.cells #[.int .i64 x0, .int .i64 x1, .int .i64 x2] 27)) w2.heap.size (.int .i64 x0) (.int .i64 x1) (.int .i64 x2)) := Own.new w2 _ _ _
      have HI1 : Hid (∀ W, Below w1.heap.size w1 W → Calls Tryz.prog 6 #[.slice p us.length cp, .slice q vs.length cq] W fun e w' => e = .returned (.bool (eqL (eqA k (k + 1)) us vs)) ∧ Below W.heap.size W w') := fun W hW =>
        iTreeSame_any k (k + 1) _ _ W (fun b hb => Nat.lt_of_lt_of_le (HF.out b hb) hW.size) (fun b hb => Nat.lt_of_lt_of_le (HF.out b hb) hW.size) p q cp cq us vs (arms_to (Keep.of hW HF.out) (fun _ h => h) HU.out) (arms_to (Keep.of hW HF.out) (fun _ h => h) HV.out)
      have HI2 : Hid (∀ W, Below w1.heap.size w1 W → Calls Tryz.prog 6 #[.slice q vs.length cq, .slice p us.length cp] W fun e w' => e = .returned (.bool (eqL (eqA k (k + 1)) us vs)) ∧ Below W.heap.size W w') := fun W hW => by
        rw [← eqT_comm]
        exact iTreeSame_any k (k + 1) _ _ W (fun b hb => Nat.lt_of_lt_of_le (HF.out b hb) hW.size) (fun b hb => Nat.lt_of_lt_of_le (HF.out b hb) hW.size) q p cq cp vs us (arms_to (Keep.of hW HF.out) (fun _ h => h) HV.out) (arms_to (Keep.of hW HF.out) (fun _ h => h) HU.out)
      have HI3 : Hid (∀ W, Below w1.heap.size w1 W → Calls Tryz.prog 6 #[.slice p us.length cp, .slice p us.length cp] W fun e w' => e = .returned (.bool true) ∧ Below W.heap.size W w') := fun W hW => by
        rw [← eqT_self k (k + 1) us]
        exact iTreeSame_any k (k + 1) _ _ W (fun b hb => Nat.lt_of_lt_of_le (HF.out b hb) hW.size) (fun b hb => Nat.lt_of_lt_of_le (HF.out b hb) hW.size) p p cp cp us us (arms_to (Keep.of hW HF.out) (fun _ h => h) HU.out) (arms_to (Keep.of hW HF.out) (fun _ h => h) HU.out)
      have HS1 : Hid (∀ W, Below w1.heap.size w1 W → Calls Tryz.prog 7 #[.slice p us.length cp, .slice q vs.length cq] W fun e w' => e = .returned (.bool (eqL (eqA k (k + 1)) us vs)) ∧ Below W.heap.size W w') := fun W hW =>
        sTreeSame_any k (k + 1) _ _ W (fun b hb => Nat.lt_of_lt_of_le (HF.out b hb) hW.size) (fun b hb => Nat.lt_of_lt_of_le (HF.out b hb) hW.size) p q cp cq us vs (arms_to (Keep.of hW HF.out) (fun _ h => h) HU.out) (arms_to (Keep.of hW HF.out) (fun _ h => h) HV.out)
      have HZ1 : Hid (∀ W, Below w1.heap.size w1 W → Calls Tryz.prog 8 #[.slice p us.length cp] W fun e w' => e = .returned (.int .i64 (tot (pA k (k + 1)) us)) ∧ Below W.heap.size W w') := fun W hW =>
        iTreeSize_any k (k + 1) _ W (fun b hb => Nat.lt_of_lt_of_le (HF.out b hb) hW.size) p cp us (arms_to (Keep.of hW HF.out) (fun _ h => h) HU.out) (by omega)
      have HZ2 : Hid (∀ W, Below w1.heap.size w1 W → Calls Tryz.prog 8 #[.slice q vs.length cq] W fun e w' => e = .returned (.int .i64 (tot (pA k (k + 1)) vs)) ∧ Below W.heap.size W w') := fun W hW =>
        iTreeSize_any k (k + 1) _ W (fun b hb => Nat.lt_of_lt_of_le (HF.out b hb) hW.size) q cq vs (arms_to (Keep.of hW HF.out) (fun _ h => h) HV.out) (by omega)
      have HC1 : Hid (∀ W, Below w1.heap.size w1 W → Calls Tryz.prog 9 #[.slice p us.length cp] W fun e w' => e = .returned (faultV (wrongL T k k us)) ∧ Below W.heap.size W w') := fun W hW =>
        check_any T k k _ W (HT.out.to (HB1.out.trans (hW.mono hs1))) (HE.out.to (HB1.out.trans (hW.mono hs1))) (fun b hb => Nat.lt_of_lt_of_le (HF.out b hb) hW.size) p cp us (arms_to (Keep.of hW HF.out) (fun _ h => h) HU.out) (by omega)
      have HC2 : Hid (∀ W, Below w1.heap.size w1 W → Calls Tryz.prog 9 #[.slice q vs.length cq] W fun e w' => e = .returned (faultV (wrongL T k k vs)) ∧ Below W.heap.size W w') := fun W hW =>
        check_any T k k _ W (HT.out.to (HB1.out.trans (hW.mono hs1))) (HE.out.to (HB1.out.trans (hW.mono hs1))) (fun b hb => Nat.lt_of_lt_of_le (HF.out b hb) hW.size) q cq vs (arms_to (Keep.of hW HF.out) (fun _ h => h) HV.out) (by omega)
      have HX1 : Hid (∀ W, Below w1.heap.size w1 W → Calls Tryz.prog 10 #[.slice p us.length cp, .agg #[.int .i64 x0, .int .i64 x1, .int .i64 x2]] W fun e w' => e = .returned (.int .i64 (tot (uA (x0, x1, x2) k (k + 1)) us)) ∧ Below W.heap.size W w') := fun W hW =>
        iTreeUses_any x0 x1 x2 k (k + 1) _ W (fun b hb => Nat.lt_of_lt_of_le (HF.out b hb) hW.size) p cp us (arms_to (Keep.of hW HF.out) (fun _ h => h) HU.out) (by omega)
      have HX2 : Hid (∀ W, Below w1.heap.size w1 W → Calls Tryz.prog 10 #[.slice q vs.length cq, .agg #[.int .i64 x0, .int .i64 x1, .int .i64 x2]] W fun e w' => e = .returned (.int .i64 (tot (uA (x0, x1, x2) k (k + 1)) vs)) ∧ Below W.heap.size W w') := fun W hW =>
        iTreeUses_any x0 x1 x2 k (k + 1) _ W (fun b hb => Nat.lt_of_lt_of_le (HF.out b hb) hW.size) q cq vs (arms_to (Keep.of hW HF.out) (fun _ h => h) HV.out) (by omega)
      have HEQ : Hid (eqL (eqA k (k + 1)) us vs = true → (tot (pA k (k + 1)) us = tot (pA k (k + 1)) vs ∧ wrongL T k k us = wrongL T k k vs ∧ tot (uA (x0, x1, x2) k (k + 1)) us = tot (uA (x0, x1, x2) k (k + 1)) vs)) := fun he => by
        rw [(eqT_iff k (k + 1) us vs).1 he]
        exact ⟨rfl, rfl, rfl⟩
      obtain ⟨s, hs⟩ : ∃ s, s = eqL (eqA k (k + 1)) us vs := ⟨_, rfl⟩
      obtain ⟨PU, hPU⟩ : ∃ PU : Int, PU = ((tot (pA k (k + 1)) us : Nat) : Int) := ⟨_, rfl⟩
      obtain ⟨PV, hPV⟩ : ∃ PV : Int, PV = ((tot (pA k (k + 1)) vs : Nat) : Int) := ⟨_, rfl⟩
      obtain ⟨UU, hUU⟩ : ∃ UU : Int, UU = ((tot (uA (x0, x1, x2) k (k + 1)) us : Nat) : Int) := ⟨_, rfl⟩
      obtain ⟨UV, hUV⟩ : ∃ UV : Int, UV = ((tot (uA (x0, x1, x2) k (k + 1)) vs : Nat) : Int) := ⟨_, rfl⟩
      obtain ⟨CU, hCU⟩ : ∃ CU : Int, CU = codeW (wrongL T k k us) := ⟨_, rfl⟩
      obtain ⟨CV, hCV⟩ : ∃ CV : Int, CV = codeW (wrongL T k k vs) := ⟨_, rfl⟩
      obtain ⟨RU, hRU⟩ : ∃ RU : Int, RU = (rungW (wrongL T k k us) : Int) := ⟨_, rfl⟩
      obtain ⟨RV, hRV⟩ : ∃ RV : Int, RV = (rungW (wrongL T k k vs) : Int) := ⟨_, rfl⟩
      have HEQ2 : Hid (s = true → PU = PV ∧ CU = CV ∧ RU = RV ∧ UU = UV) := fun he => by
        obtain ⟨h1, h2, h3⟩ := HEQ.out (hs ▸ he)
        rw [hPU, hPV, hUU, hUV, hCU, hCV, hRU, hRV, h1, h2, h3]
        exact ⟨rfl, rfl, rfl, rfl⟩
      unfold faultV at HC1 HC2
      rw [← hs] at HI1 HI2 HS1
      rw [← hPU] at HZ1
      rw [← hPV] at HZ2
      rw [← hCU, ← hRU] at HC1
      rw [← hCV, ← hRV] at HC2
      rw [← hUU] at HX1
      rw [← hUV] at HX2
      clear HEQ hs hPU hPV hUU hUV hCU hCV hRU hRV HT HE HD HU HV HF hzU hzV
      go_wp2_with fail
      obtain ⟨B, hB⟩ : ∃ B, B = w2.heap.size := ⟨_, rfl⟩
      rw [← hB] at HO2 ⊢
      have hBw : w1.heap.size ≤ B := by omega
      generalize w2.alloc (.cells #[.int .i64 x0, .int .i64 x1, .int .i64 x2] 27) = V at *
      clear hB hb2 hs2
      refine (HI1.out _ HB12.out).mono ?_
      rintro e w3 ⟨rfl, hb3⟩
      have HB13 : Hid (Below w1.heap.size w1 w3) := HB12.out.trans (hb3.mono HB12.out.size)
      have HO3 : Hid (Own w3 B (.int .i64 x0) (.int .i64 x1) (.int .i64 x2)) := HO2.out.below hb3
      clear hb3 HO2 HB12 HI1
      have hss : (s != s) = false := by cases s <;> rfl
      go_wp2_with fail
      refine (HS1.out _ HB13.out).mono ?_
      rintro e w4 ⟨rfl, hb4⟩
      have HB14 : Hid (Below w1.heap.size w1 w4) := HB13.out.trans (hb4.mono HB13.out.size)
      have HO4 : Hid (Own w4 B (.int .i64 x0) (.int .i64 x1) (.int .i64 x2)) := HO3.out.below hb4
      clear hb4 HO3 HB13 HS1
      go_wp2_with fail
      refine (HI2.out _ HB14.out).mono ?_
      rintro e w5 ⟨rfl, hb5⟩
      have HB15 : Hid (Below w1.heap.size w1 w5) := HB14.out.trans (hb5.mono HB14.out.size)
      have HO5 : Hid (Own w5 B (.int .i64 x0) (.int .i64 x1) (.int .i64 x2)) := HO4.out.below hb5
      clear hb5 HO4 HB14 HI2
      go_wp2_with fail
      refine (HI3.out _ HB15.out).mono ?_
      rintro e w6 ⟨rfl, hb6⟩
      have HB16 : Hid (Below w1.heap.size w1 w6) := HB15.out.trans (hb6.mono HB15.out.size)
      have HO6 : Hid (Own w6 B (.int .i64 x0) (.int .i64 x1) (.int .i64 x2)) := HO5.out.below hb6
      have HBF : Hid (Below w.heap.size w w6) := HB1.out.trans (HB16.out.mono hs1)
      clear hb6 HO5 HB15 HI3
      have C1 : Hid (∀ (d : Nat) (os : Array Obj), Calls Tryz.prog 8 #[.slice p us.length cp] (Sort.grow (redrawn w6 d) os) fun e w'' => e = .returned (.int .i64 PU) ∧ ∃ p' : Regrown, w'' = Sort.grow (redrawn w6 p'.d) p'.os) := fun d os => callT (fun W hW => HZ1.out W (HB16.out.trans (hW.mono HB16.out.size))) d os
      have C2 : Hid (∀ (d : Nat) (os : Array Obj), Calls Tryz.prog 8 #[.slice q vs.length cq] (Sort.grow (redrawn w6 d) os) fun e w'' => e = .returned (.int .i64 PV) ∧ ∃ p' : Regrown, w'' = Sort.grow (redrawn w6 p'.d) p'.os) := fun d os => callT (fun W hW => HZ2.out W (HB16.out.trans (hW.mono HB16.out.size))) d os
      have C3 : Hid (∀ (d : Nat) (os : Array Obj), Calls Tryz.prog 9 #[.slice p us.length cp] (Sort.grow (redrawn w6 d) os) fun e w'' => e = .returned (.agg #[.int .i64 CU, .int .i64 RU]) ∧ ∃ p' : Regrown, w'' = Sort.grow (redrawn w6 p'.d) p'.os) := fun d os => callT (fun W hW => HC1.out W (HB16.out.trans (hW.mono HB16.out.size))) d os
      have C4 : Hid (∀ (d : Nat) (os : Array Obj), Calls Tryz.prog 9 #[.slice q vs.length cq] (Sort.grow (redrawn w6 d) os) fun e w'' => e = .returned (.agg #[.int .i64 CV, .int .i64 RV]) ∧ ∃ p' : Regrown, w'' = Sort.grow (redrawn w6 p'.d) p'.os) := fun d os => callT (fun W hW => HC2.out W (HB16.out.trans (hW.mono HB16.out.size))) d os
      have C5 : Hid (∀ (d : Nat) (os : Array Obj), Calls Tryz.prog 10 #[.slice p us.length cp, .agg #[.int .i64 x0, .int .i64 x1, .int .i64 x2]] (Sort.grow (redrawn w6 d) os) fun e w'' => e = .returned (.int .i64 UU) ∧ ∃ p' : Regrown, w'' = Sort.grow (redrawn w6 p'.d) p'.os) := fun d os => callT (fun W hW => HX1.out W (HB16.out.trans (hW.mono HB16.out.size))) d os
      have C6 : Hid (∀ (d : Nat) (os : Array Obj), Calls Tryz.prog 10 #[.slice q vs.length cq, .agg #[.int .i64 x0, .int .i64 x1, .int .i64 x2]] (Sort.grow (redrawn w6 d) os) fun e w'' => e = .returned (.int .i64 UV) ∧ ∃ p' : Regrown, w'' = Sort.grow (redrawn w6 p'.d) p'.os) := fun d os => callT (fun W hW => HX2.out W (HB16.out.trans (hW.mono HB16.out.size))) d os
      obtain ⟨⟨o0, o1, o2⟩, -⟩ := HO6.out
      have k0 := cell_regrown o0
      have k1 := cell_regrown o1
      have k2 := cell_regrown o2
      clear HZ1 HZ2 HC1 HC2 HX1 HX2 o0 o1 o2 HO6
      cases s with
      | false =>
        go_upto_region 8 with fail
        refine wp_region_quiet_below (by kernel_rfl) (by kernel_rfl) ?_
        repeat (first | go_big_quiet_step ((first | with_reducible exact C1.out _ _ | with_reducible exact C2.out _ _ | with_reducible exact C3.out _ _ | with_reducible exact C4.out _ _ | with_reducible exact C5.out _ _ | with_reducible exact C6.out _ _)) | quiet_step ((first | with_reducible exact C1.out _ _ | with_reducible exact C2.out _ _ | with_reducible exact C3.out _ _ | with_reducible exact C4.out _ _ | with_reducible exact C5.out _ _ | with_reducible exact C6.out _ _)))
        refine wpQuiet_nil ?_
        intro _ hw'
        obtain ⟨⟨dq, osq⟩, hw''⟩ := hw'
        subst hw''
        go_wp2
        go_ret
        exact ⟨rfl, HBF.out.trans ((below_regrown _ dq osq).mono HBF.out.size)⟩
      | true =>
        obtain ⟨rfl, rfl, rfl, rfl⟩ := HEQ2.out rfl
        have hpp : (PU == PU) = true := by simp
        have huu : (UU == UU) = true := by simp
        go_upto_region 8 with fail
        refine wp_region_quiet_below (by kernel_rfl) (by kernel_rfl) ?_
        repeat (first | go_big_quiet_step ((first | with_reducible exact C1.out _ _ | with_reducible exact C2.out _ _ | with_reducible exact C3.out _ _ | with_reducible exact C4.out _ _ | with_reducible exact C5.out _ _ | with_reducible exact C6.out _ _)) | quiet_step ((first | with_reducible exact C1.out _ _ | with_reducible exact C2.out _ _ | with_reducible exact C3.out _ _ | with_reducible exact C4.out _ _ | with_reducible exact C5.out _ _ | with_reducible exact C6.out _ _)))
        refine wpQuiet_nil ?_
        intro _ hw'
        obtain ⟨⟨dq, osq⟩, hw''⟩ := hw'
        subst hw''
        go_wp2
        go_ret
        exact ⟨rfl, HBF.out.trans ((below_regrown _ dq osq).mono HBF.out.size)⟩
    · have hl2' : (1048576 : Int) < (len2 : Int) := by omega
      go_enter Tryz.func3, Tryz.ntmps3
      go_wp2
      go_ret
      exact ⟨rfl, Below.refl _ _⟩
  · have hl' : (1048576 : Int) < (len : Int) := by omega
    go_enter Tryz.func3, Tryz.ntmps3
    go_wp2
    go_ret
    exact ⟨rfl, Below.refl _ _⟩
end Go.Proofs.YtjkpingdokkkcaaGreatDoor.Tr
