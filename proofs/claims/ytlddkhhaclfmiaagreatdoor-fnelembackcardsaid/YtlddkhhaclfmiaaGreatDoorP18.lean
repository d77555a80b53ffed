/- The drawing of operands: l1Arg, l1Spoilt, l1Any, l1Half. Helper text: no statement is claimed here. -/
import Derived.Test.YtlddkhhaclfmiaaGreatDoorP17
import Derived.Test.YtlddkhhaclfmiaaGreatDoorP01
import Derived.Test.YtlddkhhaclfmiaaGreatDoorP03
import Derived.Test.YtlddkhhaclfmiaaGreatDoorP04
import Derived.Deep.RegionWith
import Derived.Deep.CutRange
namespace Go.Proofs.YtlddkhhaclfmiaaGreatDoor
open Go.ChangeShapes Go.WideShapes Go.ChangeAt Go.RowKit

def Sm (z : Int) : Prop := -2000000000 ≤ z ∧ z ≤ 2000000000
/-- What a drawing of an operand ends in. -/
def Drawn (rb m : Nat) (w : World) (e : Ending) (w' : World) : Prop := ∃ k n p : Int, e = .returned (.agg #[.int .i64 k, .int .i64 n, .int .i64 p]) ∧ Sm k ∧ Sm n ∧ Sm p ∧ Rd w' rb m ∧ Step rb w w'

theorem nums_mk (w : World) (cs : List Int) (t : TypeId) (h : ∀ z ∈ cs, -2000000000 ≤ z ∧ z ≤ 2000000000) : Nums (w.alloc (.cells (cs.map fun z => Value.int .i64 z).toArray t)) w.heap.size cs.length := by
  intro i hi
  refine ⟨cs[i], ?_, h _ (List.getElem_mem hi)⟩
  rw [World.cell?_alloc_new]
  simp [hi]
theorem scell {rb : Nat} {W w1 : World} (h : Step rb W w1) : (∀ b o, b < W.heap.size → b ≠ rb → w1.cell? ⟨b, o, none⟩ = W.cell? ⟨b, o, none⟩) ∧ (∀ b o, b < W.heap.size → b ≠ rb → w1.frozen? ⟨b, o, none⟩ = W.frozen? ⟨b, o, none⟩) :=
  ⟨fun b o h1 h2 => h.cell b o h1 h2, fun b o h1 h2 => h.frozen b o h1 h2⟩

theorem Own.step {rb b : Nat} {w w' : World} {x y z : Value} (h : Own w b x y z) (st : Step rb w w') (hr : b ≠ rb) : Own w' b x y z := by
  have hb := h.lt
  unfold Own
  rw [st.cell b 0 hb hr, st.cell b 1 hb hr, st.cell b 2 hb hr, st.frozen b 0 hb hr, st.frozen b 1 hb hr, st.frozen b 2 hb hr]; exact h
theorem Rd.set3 {w : World} {rb m m' c : Nat} {x y z : Value} (h : Rd w rb m) (hc : rb < c) (hm : m ≤ m') : Rd (((w.setCell ⟨c, 0, none⟩ x).setCell ⟨c, 1, none⟩ y).setCell ⟨c, 2, none⟩ z) rb m' :=
  (((h.mono hm).set _ _ _ hc).set _ _ _ hc).set _ _ _ hc
theorem Step.set3 {w w' : World} {rb c : Nat} {x y z : Value} (h : Step rb w w') (hc : w.heap.size ≤ c) : Step rb w (((w'.setCell ⟨c, 0, none⟩ x).setCell ⟨c, 1, none⟩ y).setCell ⟨c, 2, none⟩ z) :=
  ((h.setNew _ _ _ hc).setNew _ _ _ hc).setNew _ _ _ hc

set_option maxHeartbeats 400000 in
theorem arg_11 (rb m : Nat) (w : World) (hr : Rd w rb m) (hm : m ≤ 800000) :
    Calls Tryz.prog 84 #[.pointer (some ⟨rb, 0, none⟩), .int .i64 11] w (Drawn rb (m + 4) w) := by
  have hlt := hr.lt
  have hne : w.heap.size ≠ rb := by omega
  go_enter Tryz.func84, Tryz.ntmps84
  go_wp2_with fail
  refine (num_any rb m (w.heap.size + 1) 12 _ (by omega) (by omega) ((hr.alloc _).alloc _) (by omega) ?_ (by omega)).mono ?_
  · have := nums_mk (w.alloc (.cells #[.int .i64 0, .int .i64 0, .int .i64 0] 51)) [0, 1, 2, 3, 5, -1, -7, 10, 100, 32767, -32768, 1000] 3 (by simp)
    simpa using this
  rintro e w1 ⟨v, rfl, v0, v1, hr1, st⟩
  have ow := ((Own.new w (.int .i64 0) (.int .i64 0) (.int .i64 0)).alloc _).step st hne
  obtain ⟨⟨o0, o1, o2⟩, z0, z1, z2⟩ := ow
  go_wp2
  exact bodyPost_ret (v := .agg #[.int .i64 11, .int .i64 v, .int .i64 0]) (resArg Tryz.results84 rfl (put3 ⟨o0, o1, o2⟩)) rfl ⟨11, v, 0, rfl, by unfold Sm; omega, ⟨v0, v1⟩, by unfold Sm; omega, hr1.set3 hlt (by omega), (((Step.alloc rb w _).trans (Step.alloc rb _ _)).trans st).set3 (Nat.le_refl _)⟩

set_option maxHeartbeats 400000 in
theorem arg_12 (rb m : Nat) (w : World) (hr : Rd w rb m) (hm : m ≤ 800000) :
    Calls Tryz.prog 84 #[.pointer (some ⟨rb, 0, none⟩), .int .i64 12] w (Drawn rb (m + 4) w) := by
  have hlt := hr.lt
  have hne : w.heap.size ≠ rb := by omega
  go_enter Tryz.func84, Tryz.ntmps84
  go_wp2_with fail
  refine (num_any rb m (w.heap.size + 1) 11 _ (by omega) (by omega) ((hr.alloc _).alloc _) (by omega) ?_ (by omega)).mono ?_
  · have := nums_mk (w.alloc (.cells #[.int .i64 0, .int .i64 0, .int .i64 0] 51)) [0, 1, 5, -5, 25, -15, 999999999, -999999999, 3, 1001, 7] 3 (by simp)
    simpa using this
  rintro e w1 ⟨v, rfl, v0, v1, hr1, st⟩
  go_wp2_with fail
  refine (pick_any rb (m + 1) 6 _ (by omega) hr1 (by omega)).mono ?_
  rintro e w2 ⟨q, rfl, q0, q1, -, hr2, st2⟩
  have ow := (((Own.new w (.int .i64 0) (.int .i64 0) (.int .i64 0)).alloc _).step st hne).step st2 hne
  obtain ⟨⟨o0, o1, o2⟩, z0, z1, z2⟩ := ow
  have q1 : q < 6 := q1 (by omega)
  go_wp2
  · exact bodyPost_ret (v := .agg #[.int .i64 12, .int .i64 v, .int .i64 1]) (resArg Tryz.results84 rfl (put3 ⟨o0, o1, o2⟩)) rfl ⟨12, v, 1, rfl, by unfold Sm; omega, ⟨v0, v1⟩, by unfold Sm; omega, hr2.set3 hlt (by omega), ((((Step.alloc rb w _).trans (Step.alloc rb _ _)).trans st).trans st2).set3 (Nat.le_refl _)⟩
  · exact bodyPost_ret (v := .agg #[.int .i64 12, .int .i64 v, .int .i64 (1 + q)]) (resArg Tryz.results84 rfl (put3 ⟨o0, o1, o2⟩)) rfl ⟨12, v, 1 + q, rfl, by unfold Sm; omega, ⟨v0, v1⟩, by unfold Sm; omega, hr2.set3 hlt (by omega), ((((Step.alloc rb w _).trans (Step.alloc rb _ _)).trans st).trans st2).set3 (Nat.le_refl _)⟩

set_option maxHeartbeats 400000 in
theorem arg_13 (rb m : Nat) (w : World) (hr : Rd w rb m) (hm : m ≤ 800000) :
    Calls Tryz.prog 84 #[.pointer (some ⟨rb, 0, none⟩), .int .i64 13] w (Drawn rb (m + 4) w) := by
  have hlt := hr.lt
  have hne : w.heap.size ≠ rb := by omega
  go_enter Tryz.func84, Tryz.ntmps84
  go_wp2_with fail
  refine (pick_any rb m 4 _ (by omega) (hr.alloc _) (by omega)).mono ?_
  rintro e w1 ⟨q, rfl, q0, q1, -, hr1, st⟩
  have ow := (Own.new w (.int .i64 0) (.int .i64 0) (.int .i64 0)).step st hne
  obtain ⟨⟨o0, o1, o2⟩, z0, z1, z2⟩ := ow
  have q1 : q < 4 := q1 (by omega)
  go_wp2
  exact bodyPost_ret (v := .agg #[.int .i64 13, .int .i64 q, .int .i64 0]) (resArg Tryz.results84 rfl (put3 ⟨o0, o1, o2⟩)) rfl ⟨13, q, 0, rfl, by unfold Sm; omega, by unfold Sm; omega, by unfold Sm; omega, hr1.set3 hlt (by omega), ((Step.alloc rb w _).trans st).set3 (Nat.le_refl _)⟩

set_option maxHeartbeats 1000000 in
theorem arg_dev (rb m : Nat) (k : Int) (w : World) (hr : Rd w rb m) (hm : m ≤ 800000) (hk : Sm k) (h1 : (k == 11) = false) (h2 : (k == 12) = false) (h3 : (k == 13) = false) :
    Calls Tryz.prog 84 #[.pointer (some ⟨rb, 0, none⟩), .int .i64 k] w (Drawn rb (m + 4) w) := by
  have hlt := hr.lt
  have hne : w.heap.size ≠ rb := by omega
  have hbd := rN_bd (kz k)
  go_enter Tryz.func84, Tryz.ntmps84
  go_wp2_with fail
  refine (pick_any rb m 4 _ (by omega) (hr.alloc _) (by omega)).mono ?_
  rintro e w1 ⟨q, rfl, q0, q1, -, hr1, st⟩
  have q1 : q < 4 := q1 (by omega)
  go_wp2_with fail
  refine (pick_any rb (m + 1) 6 _ (by omega) hr1 (by omega)).mono ?_
  rintro e w2 ⟨t, rfl, t0, t1, -, hr2, st2⟩
  have t1 : t < 6 := t1 (by omega)
  by_cases ht : t = 0
  · subst ht
    go_wp2_with fail
    refine (ssize_any _ _).mono ?_
    rintro e w3 ⟨rfl, rfl⟩
    go_wp2_with fail
    refine (pick_any rb (m + 2) (rN (kz k)) _ (by omega) hr2 (by omega)).mono ?_
    rintro e w3 ⟨u, rfl, u0, u1, u2, hr3, st3⟩
    have u3 : u < 65 := by by_cases h : 1 ≤ rN (kz k) <;> omega
    have ow := (((Own.new w (.int .i64 0) (.int .i64 0) (.int .i64 0)).step st hne).step st2 hne).step st3 hne
    obtain ⟨⟨o0, o1, o2⟩, z0, z1, z2⟩ := ow
    clear u1 u2
    go_wp2_with fail
    refine (ssize_any _ _).mono ?_
    rintro e w4 ⟨rfl, rfl⟩
    go_wp2
    · exact bodyPost_ret (v := .agg #[.int .i64 k, .int .i64 0, .int .i64 0]) (resArg Tryz.results84 rfl (put3 ⟨o0, o1, o2⟩)) rfl ⟨k, 0, 0, rfl, hk, by unfold Sm; omega, by unfold Sm; omega, hr3.set3 hlt (by omega), ((((Step.alloc rb w _).trans st).trans st2).trans st3).set3 (Nat.le_refl _)⟩
    · exact bodyPost_ret (v := .agg #[.int .i64 k, .int .i64 u, .int .i64 0]) (resArg Tryz.results84 rfl (put3 ⟨o0, o1, o2⟩)) rfl ⟨k, u, 0, rfl, hk, by unfold Sm; omega, by unfold Sm; omega, hr3.set3 hlt (by omega), ((((Step.alloc rb w _).trans st).trans st2).trans st3).set3 (Nat.le_refl _)⟩
  · have ht' : (t == 0) = false := by simpa using ht
    have ow := ((Own.new w (.int .i64 0) (.int .i64 0) (.int .i64 0)).step st hne).step st2 hne
    obtain ⟨⟨o0, o1, o2⟩, z0, z1, z2⟩ := ow
    clear ht
    go_wp2_with fail
    refine (ssize_any _ _).mono ?_
    rintro e w4 ⟨rfl, rfl⟩
    go_wp2
    · exact bodyPost_ret (v := .agg #[.int .i64 k, .int .i64 0, .int .i64 0]) (resArg Tryz.results84 rfl (put3 ⟨o0, o1, o2⟩)) rfl ⟨k, 0, 0, rfl, hk, by unfold Sm; omega, by unfold Sm; omega, hr2.set3 hlt (by omega), (((Step.alloc rb w _).trans st).trans st2).set3 (Nat.le_refl _)⟩
    · exact bodyPost_ret (v := .agg #[.int .i64 k, .int .i64 q, .int .i64 0]) (resArg Tryz.results84 rfl (put3 ⟨o0, o1, o2⟩)) rfl ⟨k, q, 0, rfl, hk, by unfold Sm; omega, by unfold Sm; omega, hr2.set3 hlt (by omega), (((Step.alloc rb w _).trans st).trans st2).set3 (Nat.le_refl _)⟩

theorem arg_any (rb m : Nat) (k : Int) (w : World) (hr : Rd w rb m) (hm : m ≤ 800000) (hk : Sm k) :
    Calls Tryz.prog 84 #[.pointer (some ⟨rb, 0, none⟩), .int .i64 k] w (Drawn rb (m + 4) w) := by
  by_cases h1 : k = 11
  · subst h1; exact arg_11 rb m w hr hm
  by_cases h2 : k = 12
  · subst h2; exact arg_12 rb m w hr hm
  by_cases h3 : k = 13
  · subst h3; exact arg_13 rb m w hr hm
  exact arg_dev rb m k w hr hm hk (by simpa using h1) (by simpa using h2) (by simpa using h3)
end Go.Proofs.YtlddkhhaclfmiaaGreatDoor

/- The drawing of operands, on: l1Spoilt, l1Any, l1Half. Helper text: no statement is claimed here. -/
namespace Go.Proofs.YtlddkhhaclfmiaaGreatDoor
open Go.ChangeShapes Go.WideShapes Go.ChangeAt Go.RowKit

theorem nums_16 (w : World) : Nums (w.alloc (.cells #[.int .i64 (-1), .int .i64 4, .int .i64 5, .int .i64 15, .int .i64 16, .int .i64 31, .int .i64 32, .int .i64 63, .int .i64 64, .int .i64 255, .int .i64 32768, .int .i64 (-32769), .int .i64 1000000000, .int .i64 (-1000000000), .int .i64 20, .int .i64 10] 3)) w.heap.size 16 := by
  have := nums_mk w [-1, 4, 5, 15, 16, 31, 32, 63, 64, 255, 32768, -32769, 1000000000, -1000000000, 20, 10] 3 (by simp)
  simpa using this
theorem nums_5 (w : World) : Nums (w.alloc (.cells #[.int .i64 (-1), .int .i64 0, .int .i64 1, .int .i64 6, .int .i64 7] 3)) w.heap.size 5 := by
  have := nums_mk w [-1, 0, 1, 6, 7] 3 (by simp)
  simpa using this

set_option maxHeartbeats 2000000 in
theorem spoilt_any (rb m : Nat) (k n p : Int) (w : World) (hr : Rd w rb m) (hm : m ≤ 790000) (hk : Sm k) (hn : Sm n) (hp : Sm p) :
    Calls Tryz.prog 89 #[.pointer (some ⟨rb, 0, none⟩), .agg #[.int .i64 k, .int .i64 n, .int .i64 p]] w (Drawn rb (m + 2) w) := by
  have hlt := hr.lt
  have hne : w.heap.size ≠ rb := by omega
  have hne2 : w.heap.size + 1 ≠ rb := by omega
  have hbd := rN_bd (kz k)
  obtain ⟨n0, n1⟩ := hn
  go_enter Tryz.func89, Tryz.ntmps89
  go_wp2_with fail
  refine (pick_any rb m 6 _ (by omega) ((hr.alloc _).alloc _) (by omega)).mono ?_
  rintro e w1 ⟨t, rfl, t0, t1, -, hr1, st⟩
  have t1 : t < 6 := t1 (by omega)
  have hz : w.heap.size + 1 < w1.heap.size := by have := st.size; simp at this; omega
  have oa := ((Own.new w (.int .i64 k) (.int .i64 n) (.int .i64 p)).alloc (.cells #[.int .i64 0, .int .i64 0, .int .i64 0] 51)).step st hne
  have ob : Own w1 (w.heap.size + 1) (.int .i64 0) (.int .i64 0) (.int .i64 0) := by
    have := (Own.new (w.alloc (.cells #[.int .i64 k, .int .i64 n, .int .i64 p] 51)) (.int .i64 0) (.int .i64 0) (.int .i64 0)).step st (by simpa using hne2)
    simpa using this
  have sw : Step rb w w1 := ((Step.alloc rb w _).trans (Step.alloc rb _ _)).trans st
  clear st
  have ht : t = 0 ∨ t = 1 ∨ t = 2 ∨ t = 3 ∨ t = 4 ∨ t = 5 := by omega
  rcases ht with rfl | rfl | rfl | rfl | rfl | rfl
  · go_wp2_with fail
    refine (pick_any rb (m + 1) 16 _ (by omega) hr1 (by omega)).mono ?_
    rintro e w2 ⟨u, rfl, u0, u1, -, hr2, st2⟩
    have u1 : u < 16 := u1 (by omega)
    have ow := ob.step st2 hne2
    obtain ⟨⟨o0, o1, o2⟩, z0, z1, z2⟩ := oa.step st2 hne
    obtain ⟨⟨r0, r1, r2⟩, y0, y1, y2⟩ := ow
    go_wp2
    exact bodyPost_ret (v := .agg #[.int .i64 (u - 1), .int .i64 n, .int .i64 p]) (resArg Tryz.results89 rfl (put3 (Own.set (show Own w2 _ _ _ _ from ⟨⟨r0, r1, r2⟩, y0, y1, y2⟩) (by omega)).1)) rfl ⟨u - 1, n, p, rfl, by unfold Sm; omega, ⟨n0, n1⟩, hp, (hr2.set _ _ _ hlt).set3 (by omega) (by omega), ((sw.trans st2).setNew _ _ _ (by omega)).set3 (by omega)⟩
  · go_wp2_with fail
    refine (num_any rb (m + 1) w1.heap.size 16 _ (by omega) (by omega) (hr1.alloc _) (by omega) (nums_16 w1) (by have := hr1.lt; omega)).mono ?_
    rintro e w2 ⟨u, rfl, u0, u1, hr2, st2⟩
    have st2 : Step rb w1 w2 := (Step.alloc rb w1 _).trans st2
    have ow := ob.step st2 hne2
    obtain ⟨⟨o0, o1, o2⟩, z0, z1, z2⟩ := oa.step st2 hne
    obtain ⟨⟨r0, r1, r2⟩, y0, y1, y2⟩ := ow
    go_wp2
    exact bodyPost_ret (v := .agg #[.int .i64 k, .int .i64 u, .int .i64 p]) (resArg Tryz.results89 rfl (put3 (Own.set (show Own w2 _ _ _ _ from ⟨⟨r0, r1, r2⟩, y0, y1, y2⟩) (by omega)).1)) rfl ⟨k, u, p, rfl, hk, ⟨u0, u1⟩, hp, (hr2.set _ _ _ hlt).set3 (by omega) (by omega), ((sw.trans st2).setNew _ _ _ (by omega)).set3 (by omega)⟩
  · go_wp2_with fail
    refine (num_any rb (m + 1) w1.heap.size 5 _ (by omega) (by omega) (hr1.alloc _) (by omega) (nums_5 w1) (by have := hr1.lt; omega)).mono ?_
    rintro e w2 ⟨u, rfl, u0, u1, hr2, st2⟩
    have st2 : Step rb w1 w2 := (Step.alloc rb w1 _).trans st2
    have ow := ob.step st2 hne2
    obtain ⟨⟨o0, o1, o2⟩, z0, z1, z2⟩ := oa.step st2 hne
    obtain ⟨⟨r0, r1, r2⟩, y0, y1, y2⟩ := ow
    go_wp2
    exact bodyPost_ret (v := .agg #[.int .i64 k, .int .i64 n, .int .i64 u]) (resArg Tryz.results89 rfl (put3 (Own.set (show Own w2 _ _ _ _ from ⟨⟨r0, r1, r2⟩, y0, y1, y2⟩) (by omega)).1)) rfl ⟨k, n, u, rfl, hk, ⟨n0, n1⟩, ⟨u0, u1⟩, (hr2.set _ _ _ hlt).set3 (by omega) (by omega), ((sw.trans st2).setNew _ _ _ (by omega)).set3 (by omega)⟩
  · have ow := ob
    obtain ⟨⟨o0, o1, o2⟩, z0, z1, z2⟩ := oa
    obtain ⟨⟨r0, r1, r2⟩, y0, y1, y2⟩ := ow
    go_wp2_with fail
    refine (ssize_any _ _).mono ?_
    rintro e w2 ⟨rfl, rfl⟩
    go_wp2
    exact bodyPost_ret (v := .agg #[.int .i64 k, .int .i64 (rN (kz k)), .int .i64 p]) (resArg Tryz.results89 rfl (put3 (Own.set ob (by omega)).1)) rfl ⟨k, rN (kz k), p, rfl, hk, by unfold Sm; omega, hp, (hr1.set _ _ _ hlt).set3 (by omega) (by omega), (sw.setNew _ _ _ (by omega)).set3 (by omega)⟩
  · have ow := ob
    obtain ⟨⟨o0, o1, o2⟩, z0, z1, z2⟩ := oa
    obtain ⟨⟨r0, r1, r2⟩, y0, y1, y2⟩ := ow
    go_wp2_with fail
    refine (ssize_any _ _).mono ?_
    rintro e w2 ⟨rfl, rfl⟩
    go_wp2
    exact bodyPost_ret (v := .agg #[.int .i64 k, .int .i64 (rN (kz k) - 1), .int .i64 p]) (resArg Tryz.results89 rfl (put3 (Own.set ob (by omega)).1)) rfl ⟨k, rN (kz k) - 1, p, rfl, hk, by unfold Sm; omega, hp, (hr1.set _ _ _ hlt).set3 (by omega) (by omega), (sw.setNew _ _ _ (by omega)).set3 (by omega)⟩
  · have ow := ob
    obtain ⟨⟨o0, o1, o2⟩, z0, z1, z2⟩ := oa
    obtain ⟨⟨r0, r1, r2⟩, y0, y1, y2⟩ := ow
    go_wp2
    exact bodyPost_ret (v := .agg #[.int .i64 k, .int .i64 (-n), .int .i64 p]) (resArg Tryz.results89 rfl (put3 (Own.set ob (by omega)).1)) rfl ⟨k, -n, p, rfl, hk, by unfold Sm; omega, hp, (hr1.set _ _ _ hlt).set3 (by omega) (by omega), (sw.setNew _ _ _ (by omega)).set3 (by omega)⟩

set_option maxHeartbeats 1000000 in
theorem argAny_any (rb m : Nat) (w : World) (hr : Rd w rb m) (hm : m ≤ 780000) :
    Calls Tryz.prog 88 #[.pointer (some ⟨rb, 0, none⟩)] w (Drawn rb (m + 8) w) := by
  have hlt := hr.lt
  have hne : w.heap.size ≠ rb := by omega
  go_enter Tryz.func88, Tryz.ntmps88
  go_wp2_with fail
  refine (pick_any rb m 13 _ (by omega) (hr.alloc _) (by omega)).mono ?_
  rintro e w1 ⟨t, rfl, t0, t1, -, hr1, st⟩
  have t1 : t < 13 := t1 (by omega)
  have oa := (Own.new w (.int .i64 0) (.int .i64 0) (.int .i64 0)).step st hne
  have sw : Step rb w w1 := (Step.alloc rb w _).trans st
  clear st
  go_wp2_with fail
  refine (arg_any rb (m + 1) (1 + t) _ hr1 (by omega) (by unfold Sm; omega)).mono ?_
  rintro e w2 ⟨k, n, p, rfl, hk, hn, hp, hr2, st2⟩
  have oa2 := oa.step st2 hne
  have sw2 := sw.trans st2
  have hz2 := oa2.lt
  clear oa sw st2
  have hlt2 := hr2.lt
  go_wp2_with fail
  refine (pick_any rb (m + 5) 20 _ (by omega) (hr2.alloc _) (by omega)).mono ?_
  rintro e w3 ⟨u, rfl, u0, u1, -, hr3, st3⟩
  have on3 := (Own.new w2 (.int .i64 k) (.int .i64 n) (.int .i64 p)).step st3 (by omega)
  have oa3 := (oa2.alloc _).step st3 hne
  have sw3 : Step rb w w3 := (sw2.trans (Step.alloc rb w2 _)).trans st3
  clear oa2 sw2 st3 u1
  by_cases hu : u = 0
  · subst hu
    obtain ⟨⟨o0, o1, o2⟩, z0, z1, z2⟩ := on3
    go_wp2_with fail
    refine (spoilt_any rb (m + 6) k n p _ hr3 (by omega) hk hn hp).mono ?_
    rintro e w4 ⟨k', n', p', rfl, hk', hn', hp', hr4, st4⟩
    have oa4 := oa3.step st4 hne
    obtain ⟨⟨r0, r1, r2⟩, y0, y1, y2⟩ := oa4
    go_wp2
    exact bodyPost_ret (v := .agg #[.int .i64 k', .int .i64 n', .int .i64 p']) (resArg Tryz.results88 rfl (put3 ⟨r0, r1, r2⟩)) rfl ⟨k', n', p', rfl, hk', hn', hp', hr4.set3 hlt (by omega), (sw3.trans st4).set3 (Nat.le_refl _)⟩
  · have hu' : (u == 0) = false := by simpa using hu
    clear hu
    obtain ⟨⟨o0, o1, o2⟩, z0, z1, z2⟩ := on3
    obtain ⟨⟨r0, r1, r2⟩, y0, y1, y2⟩ := oa3
    go_wp2
    exact bodyPost_ret (v := .agg #[.int .i64 k, .int .i64 n, .int .i64 p]) (resArg Tryz.results88 rfl (put3 ⟨r0, r1, r2⟩)) rfl ⟨k, n, p, rfl, hk, hn, hp, hr3.set3 hlt (by omega), sw3.set3 (Nat.le_refl _)⟩

/-- What the drawing of an operand out of bytes ends in. -/
def DrawnNew (w : World) (e : Ending) (w' : World) : Prop := ∃ k n p : Int, e = .returned (.agg #[.int .i64 k, .int .i64 n, .int .i64 p]) ∧ Sm k ∧ Sm n ∧ Sm p ∧ Below w.heap.size w w'

theorem put3_below {W w1 : World} {b : Nat} {x y z : Value} (h : Below W.heap.size W w1) (hb : W.heap.size ≤ b) : Below W.heap.size W (((w1.setCell ⟨b, 0, none⟩ x).setCell ⟨b, 1, none⟩ y).setCell ⟨b, 2, none⟩ z) :=
  ((h.setCell hb _).setCell hb _).setCell hb _

theorem IsRow.alloc {w : World} {a : Option Addr} {len : Nat} (h : IsRow w a len) (o : Obj) : IsRow (w.alloc o) a len := by
  rcases h with h | ⟨b, off, f, rfl, hc⟩
  · exact .inl h
  · refine .inr ⟨b, off, f, rfl, fun i hi => ?_⟩
    have := hc i hi
    rw [World.cell?_alloc_lt _ _ _ (World.block_lt_of_cell? w ⟨b, off + i, none⟩ this.1)]
    exact this

end Go.Proofs.YtlddkhhaclfmiaaGreatDoor

/- The drawing of contacts and coils: their operands. Helper text: no statement is claimed here. -/
namespace Go.Proofs.YtlddkhhaclfmiaaGreatDoor
open Go.ChangeShapes Go.WideShapes Go.ChangeAt Go.RowKit

theorem Own2.step {rb b : Nat} {w w' : World} {x y : Value} (h : Own2 w b x y) (st : Step rb w w') (hr : b ≠ rb) : Own2 w' b x y := by
  have hb := h.lt
  unfold Own2
  rw [st.cell b 0 hb hr, st.cell b 1 hb hr, st.frozen b 0 hb hr, st.frozen b 1 hb hr]; exact h

set_option maxHeartbeats 400000 in
theorem l3Bit_any (rb m : Nat) (w : World) (hr : Rd w rb m) (hm : m ≤ 700000) :
    Calls Tryz.prog 87 #[.pointer (some ⟨rb, 0, none⟩)] w (Drawn rb (m + 5) w) := by
  have hlt := hr.lt
  have hne : w.heap.size ≠ rb := by omega
  go_enter Tryz.func87, Tryz.ntmps87
  go_wp2_with fail
  refine (num_any rb m (w.heap.size + 1) 9 _ (by omega) (by omega) ((hr.alloc _).alloc _) (by omega) ?_ (by omega)).mono ?_
  · have := nums_mk (w.alloc (.cells #[.int .i64 0, .int .i64 0, .int .i64 0] 51)) [1, 1, 2, 3, 3, 4, 6, 7, 8] 3 (by simp)
    simpa using this
  rintro e w1 ⟨v, rfl, v0, v1, hr1, st⟩
  go_wp2_with fail
  refine (arg_any rb (m + 1) v _ hr1 (by omega) ⟨v0, v1⟩).mono ?_
  rintro e w2 ⟨k, n, p, rfl, hk, hn, hp, hr2, st2⟩
  obtain ⟨⟨o0, o1, o2⟩, z0, z1, z2⟩ := (((Own.new w (.int .i64 0) (.int .i64 0) (.int .i64 0)).alloc _).step st hne).step st2 hne
  go_wp2
  exact bodyPost_ret (v := .agg #[.int .i64 k, .int .i64 n, .int .i64 p]) (resArg Tryz.results87 rfl (put3 ⟨o0, o1, o2⟩)) rfl ⟨k, n, p, rfl, hk, hn, hp, hr2.set3 hlt (by omega), ((((Step.alloc rb w _).trans (Step.alloc rb _ _)).trans st).trans st2).set3 (Nat.le_refl _)⟩

set_option maxHeartbeats 400000 in
theorem l3Whole_any (rb m : Nat) (w : World) (hr : Rd w rb m) (hm : m ≤ 700000) :
    Calls Tryz.prog 85 #[.pointer (some ⟨rb, 0, none⟩)] w (Drawn rb (m + 5) w) := by
  have hlt := hr.lt
  have hne : w.heap.size ≠ rb := by omega
  go_enter Tryz.func85, Tryz.ntmps85
  go_wp2_with fail
  refine (num_any rb m (w.heap.size + 1) 7 _ (by omega) (by omega) ((hr.alloc _).alloc _) (by omega) ?_ (by omega)).mono ?_
  · have := nums_mk (w.alloc (.cells #[.int .i64 0, .int .i64 0, .int .i64 0] 51)) [9, 9, 9, 11, 11, 7, 8] 3 (by simp)
    simpa using this
  rintro e w1 ⟨v, rfl, v0, v1, hr1, st⟩
  go_wp2_with fail
  refine (arg_any rb (m + 1) v _ hr1 (by omega) ⟨v0, v1⟩).mono ?_
  rintro e w2 ⟨k, n, p, rfl, hk, hn, hp, hr2, st2⟩
  obtain ⟨⟨o0, o1, o2⟩, z0, z1, z2⟩ := (((Own.new w (.int .i64 0) (.int .i64 0) (.int .i64 0)).alloc _).step st hne).step st2 hne
  go_wp2
  exact bodyPost_ret (v := .agg #[.int .i64 k, .int .i64 n, .int .i64 p]) (resArg Tryz.results85 rfl (put3 ⟨o0, o1, o2⟩)) rfl ⟨k, n, p, rfl, hk, hn, hp, hr2.set3 hlt (by omega), ((((Step.alloc rb w _).trans (Step.alloc rb _ _)).trans st).trans st2).set3 (Nat.le_refl _)⟩

set_option maxHeartbeats 400000 in
theorem l3Real_any (rb m : Nat) (w : World) (hr : Rd w rb m) (hm : m ≤ 700000) :
    Calls Tryz.prog 86 #[.pointer (some ⟨rb, 0, none⟩)] w (Drawn rb (m + 5) w) := by
  have hlt := hr.lt
  have hne : w.heap.size ≠ rb := by omega
  go_enter Tryz.func86, Tryz.ntmps86
  go_wp2_with fail
  refine (num_any rb m (w.heap.size + 1) 5 _ (by omega) (by omega) ((hr.alloc _).alloc _) (by omega) ?_ (by omega)).mono ?_
  · have := nums_mk (w.alloc (.cells #[.int .i64 0, .int .i64 0, .int .i64 0] 51)) [10, 10, 10, 12, 13] 3 (by simp)
    simpa using this
  rintro e w1 ⟨v, rfl, v0, v1, hr1, st⟩
  go_wp2_with fail
  refine (arg_any rb (m + 1) v _ hr1 (by omega) ⟨v0, v1⟩).mono ?_
  rintro e w2 ⟨k, n, p, rfl, hk, hn, hp, hr2, st2⟩
  obtain ⟨⟨o0, o1, o2⟩, z0, z1, z2⟩ := (((Own.new w (.int .i64 0) (.int .i64 0) (.int .i64 0)).alloc _).step st hne).step st2 hne
  go_wp2
  exact bodyPost_ret (v := .agg #[.int .i64 k, .int .i64 n, .int .i64 p]) (resArg Tryz.results86 rfl (put3 ⟨o0, o1, o2⟩)) rfl ⟨k, n, p, rfl, hk, hn, hp, hr2.set3 hlt (by omega), ((((Step.alloc rb w _).trans (Step.alloc rb _ _)).trans st).trans st2).set3 (Nat.le_refl _)⟩

/-- The operands of a drawn contact or coil, in memory of the call's own; or none at all. -/
def Els (base : Nat) (w' : World) (p : Option Addr) (ys : List Ar) (cap : Nat) : Prop :=
  (p = none ∧ ys = [] ∧ cap = 0) ∨ ∃ B, p = some ⟨B, 0, none⟩ ∧ base ≤ B ∧ B < w'.heap.size ∧ ArgsAt w' B ys
/-- What a drawing of a contact or coil ends in. -/
def EDrawn (L rb m : Nat) (w : World) (e : Ending) (w' : World) : Prop := ∃ (op : Int) (ys : List Ar) (p : Option Addr) (cap : Nat), e = .returned (elemV op p ys.length cap) ∧
  Sm op ∧ (∀ a ∈ ys, Sm a.1 ∧ Sm a.2.1 ∧ Sm a.2.2) ∧ ys.length ≤ L ∧ ys.length ≤ cap ∧ Els w.heap.size w' p ys cap ∧ Rd w' rb m ∧ Step rb w w'
theorem Rd.drew {w : World} {rb m : Nat} (h : Rd w rb m) : Rd w.drew rb m := h.to (Below.refl _ _).drew
theorem Step.drew (rb : Nat) (w : World) : Step rb w w.drew := .of (Below.refl _ _).drew
/-- A contact or coil that is made of operands in a new row. -/
theorem edrawn_lit {L rb m m' : Nat} {w w2 : World} {op : Int} {ys : List Ar} {t : TypeId} (hlt : rb < w.heap.size) (hr : Rd w2 rb m') (hm : m' ≤ m) (sw : Step rb w w2) (hz : w.heap.size < w2.heap.size) (hop : Sm op)
    (hys : ∀ a ∈ ys, Sm a.1 ∧ Sm a.2.1 ∧ Sm a.2.2) (hl : ys.length ≤ L) :
    EDrawn L rb m w (.returned (.agg #[.int .i64 op, .slice (some ⟨w2.heap.size, 0, none⟩) ys.length ys.length]))
      (((w2.setCell ⟨w.heap.size, 0, none⟩ (.int .i64 op)).setCell ⟨w.heap.size, 1, none⟩ (.slice (some ⟨w2.heap.size, 0, none⟩) ys.length ys.length)).alloc (.cells (arCells ys).toArray t)) := by
  refine ⟨op, ys, _, ys.length, rfl, hop, hys, hl, Nat.le_refl _, .inr ⟨w2.heap.size, rfl, by omega, by simp, ?_⟩, (((hr.mono hm).set _ _ _ hlt).set _ _ _ hlt).alloc _, ((sw.setNew _ _ _ (Nat.le_refl _)).setNew _ _ _ (Nat.le_refl _)).trans (Step.alloc rb _ _)⟩
  have := argsAt_new ((w2.setCell ⟨w.heap.size, 0, none⟩ (.int .i64 op)).setCell ⟨w.heap.size, 1, none⟩ (.slice (some ⟨w2.heap.size, 0, none⟩) ys.length ys.length)) ys t
  simpa using this
theorem ArgsAt.step {rb b : Nat} {w w' : World} {ys : List Ar} (h : ArgsAt w b ys) (st : Step rb w w') (hb : b < w.heap.size) (hr : b ≠ rb) : ArgsAt w' b ys := fun i hi => by
  rw [st.cell b _ hb hr, st.cell b _ hb hr, st.cell b _ hb hr]; exact h i hi
/-- The same where more is drawn behind the row. -/
theorem edrawn_mid {L rb m m' : Nat} {w w2 w9 : World} {op : Int} {ys : List Ar} {t : TypeId} (hlt : rb < w.heap.size) (hr : Rd w9 rb m') (hm : m' ≤ m) (sw : Step rb w w2) (hz : w.heap.size < w2.heap.size)
    (st : Step rb (w2.alloc (.cells (arCells ys).toArray t)) w9) (hop : Sm op) (hys : ∀ a ∈ ys, Sm a.1 ∧ Sm a.2.1 ∧ Sm a.2.2) (hl : ys.length ≤ L) :
    EDrawn L rb m w (.returned (.agg #[.int .i64 op, .slice (some ⟨w2.heap.size, 0, none⟩) ys.length ys.length]))
      ((w9.setCell ⟨w.heap.size, 0, none⟩ (.int .i64 op)).setCell ⟨w.heap.size, 1, none⟩ (.slice (some ⟨w2.heap.size, 0, none⟩) ys.length ys.length)) := by
  have h9 := st.size
  simp only [World.size_alloc] at h9
  refine ⟨op, ys, _, ys.length, rfl, hop, hys, hl, Nat.le_refl _, .inr ⟨w2.heap.size, rfl, by omega, by simp; omega, ?_⟩, ((hr.mono hm).set _ _ _ hlt).set _ _ _ hlt, (((sw.trans (Step.alloc rb _ _)).trans st).setNew _ _ _ (Nat.le_refl _)).setNew _ _ _ (Nat.le_refl _)⟩
  exact (((argsAt_new w2 ys t).step st (by simp) (by omega)).set (by omega)).set (by omega)
theorem sm1 {k n p : Int} (hk : Sm k) (hn : Sm n) (hp : Sm p) : ∀ a ∈ [((k, n, p) : Ar)], Sm a.1 ∧ Sm a.2.1 ∧ Sm a.2.2 := by
  intro a ha
  obtain rfl : a = (k, n, p) := by simpa using ha
  exact ⟨hk, hn, hp⟩
theorem smC {a : Ar} {l : List Ar} (h : Sm a.1 ∧ Sm a.2.1 ∧ Sm a.2.2) (hl : ∀ a ∈ l, Sm a.1 ∧ Sm a.2.1 ∧ Sm a.2.2) : ∀ b ∈ a :: l, Sm b.1 ∧ Sm b.2.1 ∧ Sm b.2.2 := by
  intro b hb
  rcases List.mem_cons.1 hb with rfl | hb
  · exact h
  · exact hl b hb
theorem smN : ∀ a ∈ ([] : List Ar), Sm a.1 ∧ Sm a.2.1 ∧ Sm a.2.2 := by simp
end Go.Proofs.YtlddkhhaclfmiaaGreatDoor

/- The drawing of contacts: l3Contact. Helper text: no statement is claimed here. -/
namespace Go.Proofs.YtlddkhhaclfmiaaGreatDoor
open Go.ChangeShapes Go.WideShapes Go.ChangeAt Go.RowKit

/-- Two operands of the call's own, and its result, in memory. -/
def Two (w : World) (rb m O A B : Nat) (W : World) : Prop := ∃ k n p kb nb pb : Int, Sm k ∧ Sm n ∧ Sm p ∧ Sm kb ∧ Sm nb ∧ Sm pb ∧ Own W A (.int .i64 k) (.int .i64 n) (.int .i64 p) ∧ Own W B (.int .i64 kb) (.int .i64 nb) (.int .i64 pb) ∧
  Own2 W O (.int .i64 0) (.slice none 0 0) ∧ Rd W rb m ∧ Step rb w W

set_option maxHeartbeats 2000000 in
theorem l3Contact_any (rb m : Nat) (w : World) (hr : Rd w rb m) (hm : m ≤ 650000) :
    Calls Tryz.prog 39 #[.pointer (some ⟨rb, 0, none⟩)] w (EDrawn 3 rb (m + 30) w) := by
  have hlt := hr.lt
  have hne : w.heap.size ≠ rb := by omega
  go_enter Tryz.func39, Tryz.ntmps39
  go_wp2_with fail
  refine (pick_any rb m 8 _ (by omega) (hr.alloc _) (by omega)).mono ?_
  rintro e w1 ⟨t, rfl, t0, t1, -, hr1, st⟩
  have t1 : t < 8 := t1 (by omega)
  have oa := (Own2.new w (.int .i64 0) (.slice none 0 0)).step st hne
  have sw : Step rb w w1 := (Step.alloc rb w _).trans st
  clear st
  by_cases h6 : 6 ≤ t
  · have q0 : (t == 0) = false := by simp; omega
    have q1 : (t == 1) = false := by simp; omega
    have q2 : (t == 2) = false := by simp; omega
    have q3 : (t == 3) = false := by simp; omega
    have q4 : (t == 4) = false := by simp; omega
    have q5 : (t == 5) = false := by simp; omega
    clear h6 t0 t1
    go_wp2_with fail
    refine (l3Whole_any rb (m + 1) _ hr1 (by omega)).mono ?_
    rintro e w2 ⟨k, n, p, rfl, hk, hn, hp, hr2, st2⟩
    have o2 := oa.step st2 hne
    have sw2 := sw.trans st2
    have hz2 := o2.lt
    have hlt2 := hr2.lt
    clear st2 oa sw
    go_wp2_with fail
    refine (l3Whole_any rb (m + 6) _ (hr2.alloc _) (by omega)).mono ?_
    rintro e w3 ⟨k', n', p', rfl, hk', hn', hp', hr3, st3⟩
    have a3 := (Own.new w2 (.int .i64 k) (.int .i64 n) (.int .i64 p)).step st3 (by omega)
    have o3 := (o2.alloc _).step st3 hne
    have sw3 := (sw2.trans (Step.alloc rb w2 _)).trans st3
    have hz3 := a3.lt
    have hlt3 := hr3.lt
    clear st3 o2 sw2
    go_wp2_with fail
    refine (pick_any rb (m + 11) 2 _ (by omega) (hr3.alloc _) (by omega)).mono ?_
    rintro e w4 ⟨u, rfl, u0, u1, -, hr4, st4⟩
    have b4 := (Own.new w3 (.int .i64 k') (.int .i64 n') (.int .i64 p')).step st4 (by omega)
    have a4 := (a3.alloc _).step st4 (by omega)
    have o4 := (o3.alloc _).step st4 hne
    have sw4 := (sw3.trans (Step.alloc rb w3 _)).trans st4
    have hz4 := b4.lt
    clear st4 a3 o3 sw3 u1
    go_upto_if 39 with fail
    go_cut [] from 38 to 43 (fun wx => Two w rb (m + 22) w.heap.size w2.heap.size w3.heap.size wx)
    case first =>
      by_cases hu : u = 0
      · subst hu
        go_wp2_with fail
        refine (l3Real_any rb (m + 12) _ hr4 (by omega)).mono ?_
        rintro e w5 ⟨ka, na, pa, rfl, hka, hna, hpa, hr5, st5⟩
        have a5 := a4.step st5 (by omega)
        have b5 := b4.step st5 (by omega)
        have o5 := o4.step st5 hne
        have sw5 := sw4.trans st5
        have hz5 := b5.lt
        clear st5 a4 b4 o4 sw4
        have a5' := a5
        obtain ⟨⟨a0, a1, a2⟩, y0, y1, y2⟩ := a5'
        go_wp2_with fail
        refine (l3Real_any rb (m + 17) _ (hr5.set3 hlt2 (Nat.le_refl _)) (by omega)).mono ?_
        rintro e w6 ⟨kb, nb, pb, rfl, hkb, hnb, hpb, hr6, st6⟩
        have a6 := (a5.put (.int .i64 ka) (.int .i64 na) (.int .i64 pa)).step st6 (by omega)
        have b6 := (((b5.set (c := w2.heap.size) (i := 0) (v := .int .i64 ka) (by omega)).set (c := w2.heap.size) (i := 1) (v := .int .i64 na) (by omega)).set (c := w2.heap.size) (i := 2) (v := .int .i64 pa) (by omega)).step st6 (by omega)
        have o6 := (((o5.set (c := w2.heap.size) (i := 0) (v := .int .i64 ka) (by omega)).set (c := w2.heap.size) (i := 1) (v := .int .i64 na) (by omega)).set (c := w2.heap.size) (i := 2) (v := .int .i64 pa) (by omega)).step st6 hne
        have sw6 := (sw5.set3 (c := w2.heap.size) (x := .int .i64 ka) (y := .int .i64 na) (z := .int .i64 pa) (by omega)).trans st6
        have hz6 := b6.lt
        clear st6 a5 b5 o5 sw5 a0 a1 a2 y0 y1 y2
        have b6' := b6
        obtain ⟨⟨a0, a1, a2⟩, y0, y1, y2⟩ := b6'
        have HT : Hid (Two w rb (m + 22) w.heap.size w2.heap.size w3.heap.size (((w6.setCell ⟨w3.heap.size, 0, none⟩ (.int .i64 kb)).setCell ⟨w3.heap.size, 1, none⟩ (.int .i64 nb)).setCell ⟨w3.heap.size, 2, none⟩ (.int .i64 pb))) :=
          ⟨ka, na, pa, kb, nb, pb, hka, hna, hpa, hkb, hnb, hpb, (((a6.set (c := w3.heap.size) (i := 0) (v := .int .i64 kb) (by omega)).set (c := w3.heap.size) (i := 1) (v := .int .i64 nb) (by omega)).set (c := w3.heap.size) (i := 2) (v := .int .i64 pb) (by omega)), b6.put _ _ _, (((o6.set (c := w3.heap.size) (i := 0) (v := .int .i64 kb) (by omega)).set (c := w3.heap.size) (i := 1) (v := .int .i64 nb) (by omega)).set (c := w3.heap.size) (i := 2) (v := .int .i64 pb) (by omega)), hr6.set3 hlt3 (Nat.le_refl _), sw6.set3 (by omega)⟩
        go_wp2_with fail
        go_meet
        exact HT.out
      · have hu' : (u == 0) = false := by simpa using hu
        clear hu
        have HT : Hid (Two w rb (m + 22) w.heap.size w2.heap.size w3.heap.size w4) := ⟨k, n, p, k', n', p', hk, hn, hp, hk', hn', hp', a4, b4, o4, hr4.mono (by omega), sw4⟩
        go_wp2_with fail
        go_meet
        exact HT.out
    case rest =>
    obtain ⟨ka, na, pa, kb, nb, pb, hka, hna, hpa, hkb, hnb, hpb, a5, b5, o5, hr5, sw5⟩ := hcut
    clear a4 b4 o4 sw4
    go_wp2_with fail
    refine (pick_any rb (m + 22) 4 _ (by omega) hr5 (by omega)).mono ?_
    rintro e w7 ⟨v, rfl, v0, v1, -, hr7, st7⟩
    have a7 := a5.step st7 (by omega)
    have b7 := b5.step st7 (by omega)
    have o7 := o5.step st7 hne
    have sw7 := sw5.trans st7
    clear st7 a5 b5 o5 sw5
    go_upto_if 46 with fail
    go_cut [] from 45 to 47 (fun wx => Two w rb (m + 23) w.heap.size w2.heap.size w3.heap.size wx)
    case first =>
      by_cases hv : v = 0
      · subst hv
        have b7' := b7
        obtain ⟨⟨b0, b1, b2⟩, x0, x1, x2⟩ := b7'
        have a7' := a7
        obtain ⟨⟨a0, a1, a2⟩, -⟩ := a7'
        have HT : Hid (Two w rb (m + 23) w.heap.size w2.heap.size w3.heap.size (((w7.setCell ⟨w3.heap.size, 0, none⟩ (.int .i64 ka)).setCell ⟨w3.heap.size, 1, none⟩ (.int .i64 na)).setCell ⟨w3.heap.size, 2, none⟩ (.int .i64 pa))) :=
          ⟨ka, na, pa, ka, na, pa, hka, hna, hpa, hka, hna, hpa, (((a7.set (c := w3.heap.size) (i := 0) (v := .int .i64 ka) (by omega)).set (c := w3.heap.size) (i := 1) (v := .int .i64 na) (by omega)).set (c := w3.heap.size) (i := 2) (v := .int .i64 pa) (by omega)), b7.put _ _ _, (((o7.set (c := w3.heap.size) (i := 0) (v := .int .i64 ka) (by omega)).set (c := w3.heap.size) (i := 1) (v := .int .i64 na) (by omega)).set (c := w3.heap.size) (i := 2) (v := .int .i64 pa) (by omega)), hr7.set3 hlt3 (Nat.le_refl _), sw7.set3 (by omega)⟩
        go_wp2_with fail
        go_meet
        exact HT.out
      · have hv' : (v == 0) = false := by simpa using hv
        clear hv
        have HT : Hid (Two w rb (m + 23) w.heap.size w2.heap.size w3.heap.size w7) := ⟨ka, na, pa, kb, nb, pb, hka, hna, hpa, hkb, hnb, hpb, a7, b7, o7, hr7, sw7⟩
        go_wp2_with fail
        go_meet
        exact HT.out
    case rest =>
    obtain ⟨k8, n8, p8, kc, nc, pc, hk8, hn8, hp8, hkc, hnc, hpc, a8, b8, o8, hr8, sw8⟩ := hcut
    have hzb := b8.lt
    clear a7 b7 o7 sw7
    obtain ⟨⟨a0, a1, a2⟩, -⟩ := a8
    obtain ⟨⟨b0, b1, b2⟩, -⟩ := b8
    have hz8 : w.heap.size < wc.heap.size := o8.lt
    go_wp2
    go_region_with (go_at_call 32; refine (pick_any rb (m + 23) 6 _ (by omega) ?_ (by omega)).mono ?_; (first | exact hr8.drew | exact (hr8.alloc _).drew); rintro e w9 ⟨v9, rfl, v90, v91, -, hr9, st9⟩; have v91 : v9 < 6 := v91 (by omega); have hwr : IntKind.i64.wrap (5 + v9) = 5 + v9 := (by rw [IntKind.wrap_i64]; omega); first | (have st9' : Step rb wc w9 := (Step.drew rb wc).trans st9; have form1 : True := trivial; have c0 := (st9'.cell w2.heap.size 0 (by omega) (by omega)).trans a0; have c1 := (st9'.cell w2.heap.size 1 (by omega) (by omega)).trans a1; have c2 := (st9'.cell w2.heap.size 2 (by omega) (by omega)).trans a2; have d0 := (st9'.cell w3.heap.size 0 (by omega) (by omega)).trans b0; have d1 := (st9'.cell w3.heap.size 1 (by omega) (by omega)).trans b1; have d2 := (st9'.cell w3.heap.size 2 (by omega) (by omega)).trans b2; have o9 := o8.step st9' hne; have hz9 := o9.lt; have o9c := o9; obtain ⟨⟨o90, o91⟩, z90, z91⟩ := o9c) | (have st9' := (Step.alloc rb wc _).trans ((Step.drew rb _).trans st9); have form2 : True := trivial; have o9 := o8.step st9' hne; have hz9 := o9.lt; have o9c := o9; obtain ⟨⟨o90, o91⟩, z90, z91⟩ := o9c))
    all_goals (try go_wp2)
    all_goals first
      | (have := form1; exact bodyPost_ret (v := .agg #[.int .i64 (5 + v9), .slice (some ⟨w9.heap.size, 0, none⟩) 2 2]) (resElem (b := w.heap.size) Tryz.results39 rfl ((o9.put _ _).alloc _).1) rfl (edrawn_lit (ys := [(k8, n8, p8), (kc, nc, pc)]) hlt hr9 (by omega) (sw8.trans st9') hz9 (by unfold Sm; omega) (smC ⟨hk8, hn8, hp8⟩ (sm1 hkc hnc hpc)) (by simp)))
      | (have := form2; exact bodyPost_ret (v := .agg #[.int .i64 (5 + v9), .slice (some ⟨wc.heap.size, 0, none⟩) 2 2]) (resElem (b := w.heap.size) Tryz.results39 rfl (o9.put _ _).1) rfl (edrawn_mid (ys := [(k8, n8, p8), (kc, nc, pc)]) hlt hr9 (by omega) sw8 hz8 ((Step.drew rb _).trans st9) (by unfold Sm; omega) (smC ⟨hk8, hn8, hp8⟩ (sm1 hkc hnc hpc)) (by simp)))
  · have ht : t = 0 ∨ t = 1 ∨ t = 2 ∨ t = 3 ∨ t = 4 ∨ t = 5 := by omega
    clear h6 t1
    rcases ht with rfl | rfl | rfl | rfl | rfl | rfl
    · go_wp2_with fail
      refine (l3Bit_any rb (m + 1) _ hr1 (by omega)).mono ?_
      rintro e w2 ⟨k, n, p, rfl, hk, hn, hp, hr2, st2⟩
      have o2 := oa.step st2 hne
      have hz := o2.lt
      have o2c := o2
      obtain ⟨⟨o0, o1⟩, z0, z1⟩ := o2c
      go_wp2
      exact bodyPost_ret (v := .agg #[.int .i64 1, .slice (some ⟨w2.heap.size, 0, none⟩) 1 1]) (resElem (b := w.heap.size) Tryz.results39 rfl ((o2.put _ _).alloc _).1) rfl (edrawn_lit (ys := [(k, n, p)]) hlt hr2 (by omega) (sw.trans st2) hz (by unfold Sm; omega) (sm1 hk hn hp) (by simp))
    · go_wp2_with fail
      refine (l3Bit_any rb (m + 1) _ hr1 (by omega)).mono ?_
      rintro e w2 ⟨k, n, p, rfl, hk, hn, hp, hr2, st2⟩
      have o2 := oa.step st2 hne
      have hz := o2.lt
      have o2c := o2
      obtain ⟨⟨o0, o1⟩, z0, z1⟩ := o2c
      go_wp2
      exact bodyPost_ret (v := .agg #[.int .i64 1, .slice (some ⟨w2.heap.size, 0, none⟩) 1 1]) (resElem (b := w.heap.size) Tryz.results39 rfl ((o2.put _ _).alloc _).1) rfl (edrawn_lit (ys := [(k, n, p)]) hlt hr2 (by omega) (sw.trans st2) hz (by unfold Sm; omega) (sm1 hk hn hp) (by simp))
    · go_wp2_with fail
      refine (l3Bit_any rb (m + 1) _ hr1 (by omega)).mono ?_
      rintro e w2 ⟨k, n, p, rfl, hk, hn, hp, hr2, st2⟩
      have o2 := oa.step st2 hne
      have hz := o2.lt
      have o2c := o2
      obtain ⟨⟨o0, o1⟩, z0, z1⟩ := o2c
      go_wp2
      exact bodyPost_ret (v := .agg #[.int .i64 1, .slice (some ⟨w2.heap.size, 0, none⟩) 1 1]) (resElem (b := w.heap.size) Tryz.results39 rfl ((o2.put _ _).alloc _).1) rfl (edrawn_lit (ys := [(k, n, p)]) hlt hr2 (by omega) (sw.trans st2) hz (by unfold Sm; omega) (sm1 hk hn hp) (by simp))
    · go_wp2_with fail
      refine (l3Bit_any rb (m + 1) _ hr1 (by omega)).mono ?_
      rintro e w2 ⟨k, n, p, rfl, hk, hn, hp, hr2, st2⟩
      have o2 := oa.step st2 hne
      have hz := o2.lt
      have o2c := o2
      obtain ⟨⟨o0, o1⟩, z0, z1⟩ := o2c
      go_wp2
      exact bodyPost_ret (v := .agg #[.int .i64 2, .slice (some ⟨w2.heap.size, 0, none⟩) 1 1]) (resElem (b := w.heap.size) Tryz.results39 rfl ((o2.put _ _).alloc _).1) rfl (edrawn_lit (ys := [(k, n, p)]) hlt hr2 (by omega) (sw.trans st2) hz (by unfold Sm; omega) (sm1 hk hn hp) (by simp))
    · go_wp2_with fail
      refine (l3Bit_any rb (m + 1) _ hr1 (by omega)).mono ?_
      rintro e w2 ⟨k, n, p, rfl, hk, hn, hp, hr2, st2⟩
      have o2 := oa.step st2 hne
      have hz := o2.lt
      have o2c := o2
      obtain ⟨⟨o0, o1⟩, z0, z1⟩ := o2c
      go_wp2
      exact bodyPost_ret (v := .agg #[.int .i64 2, .slice (some ⟨w2.heap.size, 0, none⟩) 1 1]) (resElem (b := w.heap.size) Tryz.results39 rfl ((o2.put _ _).alloc _).1) rfl (edrawn_lit (ys := [(k, n, p)]) hlt hr2 (by omega) (sw.trans st2) hz (by unfold Sm; omega) (sm1 hk hn hp) (by simp))
    · go_wp2_with fail
      refine (pick_any rb (m + 1) 2 _ (by omega) hr1 (by omega)).mono ?_
      rintro e w2 ⟨u, rfl, u0, u1, -, hr2, st2⟩
      have u1 : u < 2 := u1 (by omega)
      go_wp2_with fail
      refine (l3Bit_any rb (m + 2) _ hr2 (by omega)).mono ?_
      rintro e w3 ⟨k, n, p, rfl, hk, hn, hp, hr3, st3⟩
      go_wp2_with fail
      refine (arg_any rb (m + 7) 5 _ hr3 (by omega) (by unfold Sm; omega)).mono ?_
      rintro e w4 ⟨kb, nb, pb, rfl, hkb, hnb, hpb, hr4, st4⟩
      have o4 := ((oa.step st2 hne).step st3 hne).step st4 hne
      have hz := o4.lt
      have o4c := o4
      obtain ⟨⟨o0, o1⟩, z0, z1⟩ := o4c
      go_wp2
      exact bodyPost_ret (v := .agg #[.int .i64 (3 + u), .slice (some ⟨w4.heap.size, 0, none⟩) 2 2]) (resElem (b := w.heap.size) Tryz.results39 rfl ((o4.put _ _).alloc _).1) rfl (edrawn_lit (ys := [(k, n, p), (kb, nb, pb)]) hlt hr4 (by omega) (((sw.trans st2).trans st3).trans st4) hz (by unfold Sm; omega) (smC ⟨hk, hn, hp⟩ (sm1 hkb hnb hpb)) (by simp))
end Go.Proofs.YtlddkhhaclfmiaaGreatDoor
