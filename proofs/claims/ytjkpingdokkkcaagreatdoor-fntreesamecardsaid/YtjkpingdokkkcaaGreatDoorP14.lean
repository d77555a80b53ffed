/- The drawing of operands: l1Arg, l1Spoilt, l1Any, l1Half. Helper text: no statement is claimed here. -/
import Derived.Test.YtjkpingdokkkcaaGreatDoorP13
namespace Go.Proofs.YtjkpingdokkkcaaGreatDoor
open Go.ChangeShapes Go.WideShapes Go.ChangeAt Go.RowKit

def Sm (z : Int) : Prop := -2000000000 ≤ z ∧ z ≤ 2000000000
/-- What a drawing of an operand ends in. -/
def Drawn (rb m : Nat) (w : World) (e : Ending) (w' : World) : Prop := ∃ k n p : Int, e = .returned (.agg #[.int .i64 k, .int .i64 n, .int .i64 p]) ∧ Sm k ∧ Sm n ∧ Sm p ∧ Rd w' rb m ∧ Step rb w w'

theorem nums_mk (w : World) (cs : List Int) (t : TypeId) (h : ∀ z ∈ cs, -2000000000 ≤ z ∧ z ≤ 2000000000) : Nums (w.alloc (.cells (cs.map fun z => Value.int .i64 z).toArray t)) w.heap.size cs.length := by
  intro i hi
  refine ⟨cs[i], ?_, h _ (List.getElem_mem hi)⟩
  rw [World.cell?_alloc_new]
  simp [hi]
theorem scell {rb : Nat} {W w1 : World} (h : Step rb W w1) : (∀ b o, b < W.heap.size → b ≠ rb → w1.cell? ⟨b, o, none⟩ = W.cell? ⟨b, o, none⟩) ∧ (∀ b o, b < W.heap.size → b ≠ rb → w1.frozen? ⟨b, o, none⟩ = W.frozen? ⟨b, o, none⟩) :=
  ⟨fun b o h1 h2 => h.cell b o h1 h2, fun b o h1 h2 => h.frozen b o h1 h2⟩

theorem Own.step {rb b : Nat} {w w' : World} {x y z : Value} (h : Own w b x y z) (st : Step rb w w') (hr : b ≠ rb) : Own w' b x y z := by
  have hb := h.lt
  unfold Own
  rw [st.cell b 0 hb hr, st.cell b 1 hb hr, st.cell b 2 hb hr, st.frozen b 0 hb hr, st.frozen b 1 hb hr, st.frozen b 2 hb hr]; exact h
theorem Rd.set3 {w : World} {rb m m' c : Nat} {x y z : Value} (h : Rd w rb m) (hc : rb < c) (hm : m ≤ m') : Rd (((w.setCell ⟨c, 0, none⟩ x).setCell ⟨c, 1, none⟩ y).setCell ⟨c, 2, none⟩ z) rb m' :=
  (((h.mono hm).set _ _ _ hc).set _ _ _ hc).set _ _ _ hc
theorem Step.set3 {w w' : World} {rb c : Nat} {x y z : Value} (h : Step rb w w') (hc : w.heap.size ≤ c) : Step rb w (((w'.setCell ⟨c, 0, none⟩ x).setCell ⟨c, 1, none⟩ y).setCell ⟨c, 2, none⟩ z) :=
  ((h.setNew _ _ _ hc).setNew _ _ _ hc).setNew _ _ _ hc

set_option maxHeartbeats 400000 in
theorem arg_11 (rb m : Nat) (w : World) (hr : Rd w rb m) (hm : m ≤ 800000) :
    Calls Tryz.prog 30 #[.pointer (some ⟨rb, 0, none⟩), .int .i64 11] w (Drawn rb (m + 4) w) := by
  have hlt := hr.lt
  have hne : w.heap.size ≠ rb := by omega
  go_enter Tryz.func30, Tryz.ntmps30
  go_wp2_with fail
  refine (num_any rb m (w.heap.size + 1) 12 _ (by omega) (by omega) ((hr.alloc _).alloc _) (by omega) ?_ (by omega)).mono ?_
  · have := nums_mk (w.alloc (.cells #[.int .i64 0, .int .i64 0, .int .i64 0] 27)) [0, 1, 2, 3, 5, -1, -7, 10, 100, 32767, -32768, 1000] 3 (by simp)
    simpa using this
  rintro e w1 ⟨v, rfl, v0, v1, hr1, st⟩
  have ow := ((Own.new w (.int .i64 0) (.int .i64 0) (.int .i64 0)).alloc _).step st hne
  obtain ⟨⟨o0, o1, o2⟩, z0, z1, z2⟩ := ow
  go_wp2
  exact bodyPost_ret (v := .agg #[.int .i64 11, .int .i64 v, .int .i64 0]) (resArg Tryz.results30 rfl (put3 ⟨o0, o1, o2⟩)) rfl ⟨11, v, 0, rfl, by unfold Sm; omega, ⟨v0, v1⟩, by unfold Sm; omega, hr1.set3 hlt (by omega), (((Step.alloc rb w _).trans (Step.alloc rb _ _)).trans st).set3 (Nat.le_refl _)⟩

set_option maxHeartbeats 400000 in
theorem arg_12 (rb m : Nat) (w : World) (hr : Rd w rb m) (hm : m ≤ 800000) :
    Calls Tryz.prog 30 #[.pointer (some ⟨rb, 0, none⟩), .int .i64 12] w (Drawn rb (m + 4) w) := by
  have hlt := hr.lt
  have hne : w.heap.size ≠ rb := by omega
  go_enter Tryz.func30, Tryz.ntmps30
  go_wp2_with fail
  refine (num_any rb m (w.heap.size + 1) 11 _ (by omega) (by omega) ((hr.alloc _).alloc _) (by omega) ?_ (by omega)).mono ?_
  · have := nums_mk (w.alloc (.cells #[.int .i64 0, .int .i64 0, .int .i64 0] 27)) [0, 1, 5, -5, 25, -15, 999999999, -999999999, 3, 1001, 7] 3 (by simp)
    simpa using this
  rintro e w1 ⟨v, rfl, v0, v1, hr1, st⟩
  go_wp2_with fail
  refine (pick_any rb (m + 1) 6 _ (by omega) hr1 (by omega)).mono ?_
  rintro e w2 ⟨q, rfl, q0, q1, -, hr2, st2⟩
  have ow := (((Own.new w (.int .i64 0) (.int .i64 0) (.int .i64 0)).alloc _).step st hne).step st2 hne
  obtain ⟨⟨o0, o1, o2⟩, z0, z1, z2⟩ := ow
  have q1 : q < 6 := q1 (by omega)
  go_wp2
  · exact bodyPost_ret (v := .agg #[.int .i64 12, .int .i64 v, .int .i64 1]) (resArg Tryz.results30 rfl (put3 ⟨o0, o1, o2⟩)) rfl ⟨12, v, 1, rfl, by unfold Sm; omega, ⟨v0, v1⟩, by unfold Sm; omega, hr2.set3 hlt (by omega), ((((Step.alloc rb w _).trans (Step.alloc rb _ _)).trans st).trans st2).set3 (Nat.le_refl _)⟩
  · exact bodyPost_ret (v := .agg #[.int .i64 12, .int .i64 v, .int .i64 (1 + q)]) (resArg Tryz.results30 rfl (put3 ⟨o0, o1, o2⟩)) rfl ⟨12, v, 1 + q, rfl, by unfold Sm; omega, ⟨v0, v1⟩, by unfold Sm; omega, hr2.set3 hlt (by omega), ((((Step.alloc rb w _).trans (Step.alloc rb _ _)).trans st).trans st2).set3 (Nat.le_refl _)⟩

set_option maxHeartbeats 400000 in
theorem arg_13 (rb m : Nat) (w : World) (hr : Rd w rb m) (hm : m ≤ 800000) :
    Calls Tryz.prog 30 #[.pointer (some ⟨rb, 0, none⟩), .int .i64 13] w (Drawn rb (m + 4) w) := by
  have hlt := hr.lt
  have hne : w.heap.size ≠ rb := by omega
  go_enter Tryz.func30, Tryz.ntmps30
  go_wp2_with fail
  refine (pick_any rb m 4 _ (by omega) (hr.alloc _) (by omega)).mono ?_
  rintro e w1 ⟨q, rfl, q0, q1, -, hr1, st⟩
  have ow := (Own.new w (.int .i64 0) (.int .i64 0) (.int .i64 0)).step st hne
  obtain ⟨⟨o0, o1, o2⟩, z0, z1, z2⟩ := ow
  have q1 : q < 4 := q1 (by omega)
  go_wp2
  exact bodyPost_ret (v := .agg #[.int .i64 13, .int .i64 q, .int .i64 0]) (resArg Tryz.results30 rfl (put3 ⟨o0, o1, o2⟩)) rfl ⟨13, q, 0, rfl, by unfold Sm; omega, by unfold Sm; omega, by unfold Sm; omega, hr1.set3 hlt (by omega), ((Step.alloc rb w _).trans st).set3 (Nat.le_refl _)⟩

set_option maxHeartbeats 1000000 in
theorem arg_dev (rb m : Nat) (k : Int) (w : World) (hr : Rd w rb m) (hm : m ≤ 800000) (hk : Sm k) (h1 : (k == 11) = false) (h2 : (k == 12) = false) (h3 : (k == 13) = false) :
    Calls Tryz.prog 30 #[.pointer (some ⟨rb, 0, none⟩), .int .i64 k] w (Drawn rb (m + 4) w) := by
  have hlt := hr.lt
  have hne : w.heap.size ≠ rb := by omega
  have hbd := rN_bd (kz k)
  go_enter Tryz.func30, Tryz.ntmps30
  go_wp2_with fail
  refine (pick_any rb m 4 _ (by omega) (hr.alloc _) (by omega)).mono ?_
  rintro e w1 ⟨q, rfl, q0, q1, -, hr1, st⟩
  have q1 : q < 4 := q1 (by omega)
  go_wp2_with fail
  refine (pick_any rb (m + 1) 6 _ (by omega) hr1 (by omega)).mono ?_
  rintro e w2 ⟨t, rfl, t0, t1, -, hr2, st2⟩
  have t1 : t < 6 := t1 (by omega)
  by_cases ht : t = 0
  · subst ht
    go_wp2_with fail
    refine (ssize_any _ _).mono ?_
    rintro e w3 ⟨rfl, rfl⟩
    go_wp2_with fail
    refine (pick_any rb (m + 2) (rN (kz k)) _ (by omega) hr2 (by omega)).mono ?_
    rintro e w3 ⟨u, rfl, u0, u1, u2, hr3, st3⟩
    have u3 : u < 65 := by by_cases h : 1 ≤ rN (kz k) <;> omega
    have ow := (((Own.new w (.int .i64 0) (.int .i64 0) (.int .i64 0)).step st hne).step st2 hne).step st3 hne
    obtain ⟨⟨o0, o1, o2⟩, z0, z1, z2⟩ := ow
    clear u1 u2
    go_wp2_with fail
    refine (ssize_any _ _).mono ?_
    rintro e w4 ⟨rfl, rfl⟩
    go_wp2
    · exact bodyPost_ret (v := .agg #[.int .i64 k, .int .i64 0, .int .i64 0]) (resArg Tryz.results30 rfl (put3 ⟨o0, o1, o2⟩)) rfl ⟨k, 0, 0, rfl, hk, by unfold Sm; omega, by unfold Sm; omega, hr3.set3 hlt (by omega), ((((Step.alloc rb w _).trans st).trans st2).trans st3).set3 (Nat.le_refl _)⟩
    · exact bodyPost_ret (v := .agg #[.int .i64 k, .int .i64 u, .int .i64 0]) (resArg Tryz.results30 rfl (put3 ⟨o0, o1, o2⟩)) rfl ⟨k, u, 0, rfl, hk, by unfold Sm; omega, by unfold Sm; omega, hr3.set3 hlt (by omega), ((((Step.alloc rb w _).trans st).trans st2).trans st3).set3 (Nat.le_refl _)⟩
  · have ht' : (t == 0) = false := by simpa using ht
    have ow := ((Own.new w (.int .i64 0) (.int .i64 0) (.int .i64 0)).step st hne).step st2 hne
    obtain ⟨⟨o0, o1, o2⟩, z0, z1, z2⟩ := ow
    clear ht
    go_wp2_with fail
    refine (ssize_any _ _).mono ?_
    rintro e w4 ⟨rfl, rfl⟩
    go_wp2
    · exact bodyPost_ret (v := .agg #[.int .i64 k, .int .i64 0, .int .i64 0]) (resArg Tryz.results30 rfl (put3 ⟨o0, o1, o2⟩)) rfl ⟨k, 0, 0, rfl, hk, by unfold Sm; omega, by unfold Sm; omega, hr2.set3 hlt (by omega), (((Step.alloc rb w _).trans st).trans st2).set3 (Nat.le_refl _)⟩
    · exact bodyPost_ret (v := .agg #[.int .i64 k, .int .i64 q, .int .i64 0]) (resArg Tryz.results30 rfl (put3 ⟨o0, o1, o2⟩)) rfl ⟨k, q, 0, rfl, hk, by unfold Sm; omega, by unfold Sm; omega, hr2.set3 hlt (by omega), (((Step.alloc rb w _).trans st).trans st2).set3 (Nat.le_refl _)⟩

theorem arg_any (rb m : Nat) (k : Int) (w : World) (hr : Rd w rb m) (hm : m ≤ 800000) (hk : Sm k) :
    Calls Tryz.prog 30 #[.pointer (some ⟨rb, 0, none⟩), .int .i64 k] w (Drawn rb (m + 4) w) := by
  by_cases h1 : k = 11
  · subst h1; exact arg_11 rb m w hr hm
  by_cases h2 : k = 12
  · subst h2; exact arg_12 rb m w hr hm
  by_cases h3 : k = 13
  · subst h3; exact arg_13 rb m w hr hm
  exact arg_dev rb m k w hr hm hk (by simpa using h1) (by simpa using h2) (by simpa using h3)
end Go.Proofs.YtjkpingdokkkcaaGreatDoor

/- The drawing of operands, on: l1Spoilt, l1Any, l1Half. Helper text: no statement is claimed here. -/
namespace Go.Proofs.YtjkpingdokkkcaaGreatDoor
open Go.ChangeShapes Go.WideShapes Go.ChangeAt Go.RowKit

theorem nums_16 (w : World) : Nums (w.alloc (.cells #[.int .i64 (-1), .int .i64 4, .int .i64 5, .int .i64 15, .int .i64 16, .int .i64 31, .int .i64 32, .int .i64 63, .int .i64 64, .int .i64 255, .int .i64 32768, .int .i64 (-32769), .int .i64 1000000000, .int .i64 (-1000000000), .int .i64 20, .int .i64 10] 3)) w.heap.size 16 := by
  have := nums_mk w [-1, 4, 5, 15, 16, 31, 32, 63, 64, 255, 32768, -32769, 1000000000, -1000000000, 20, 10] 3 (by simp)
  simpa using this
theorem nums_5 (w : World) : Nums (w.alloc (.cells #[.int .i64 (-1), .int .i64 0, .int .i64 1, .int .i64 6, .int .i64 7] 3)) w.heap.size 5 := by
  have := nums_mk w [-1, 0, 1, 6, 7] 3 (by simp)
  simpa using this

set_option maxHeartbeats 2000000 in
theorem spoilt_any (rb m : Nat) (k n p : Int) (w : World) (hr : Rd w rb m) (hm : m ≤ 790000) (hk : Sm k) (hn : Sm n) (hp : Sm p) :
    Calls Tryz.prog 31 #[.pointer (some ⟨rb, 0, none⟩), .agg #[.int .i64 k, .int .i64 n, .int .i64 p]] w (Drawn rb (m + 2) w) := by
  have hlt := hr.lt
  have hne : w.heap.size ≠ rb := by omega
  have hne2 : w.heap.size + 1 ≠ rb := by omega
  have hbd := rN_bd (kz k)
  obtain ⟨n0, n1⟩ := hn
  go_enter Tryz.func31, Tryz.ntmps31
  go_wp2_with fail
  refine (pick_any rb m 6 _ (by omega) ((hr.alloc _).alloc _) (by omega)).mono ?_
  rintro e w1 ⟨t, rfl, t0, t1, -, hr1, st⟩
  have t1 : t < 6 := t1 (by omega)
  have hz : w.heap.size + 1 < w1.heap.size := by have := st.size; simp at this; omega
  have oa := ((Own.new w (.int .i64 k) (.int .i64 n) (.int .i64 p)).alloc (.cells #[.int .i64 0, .int .i64 0, .int .i64 0] 27)).step st hne
  have ob : Own w1 (w.heap.size + 1) (.int .i64 0) (.int .i64 0) (.int .i64 0) := by
    have := (Own.new (w.alloc (.cells #[.int .i64 k, .int .i64 n, .int .i64 p] 27)) (.int .i64 0) (.int .i64 0) (.int .i64 0)).step st (by simpa using hne2)
    simpa using this
  have sw : Step rb w w1 := ((Step.alloc rb w _).trans (Step.alloc rb _ _)).trans st
  clear st
  have ht : t = 0 ∨ t = 1 ∨ t = 2 ∨ t = 3 ∨ t = 4 ∨ t = 5 := by omega
  rcases ht with rfl | rfl | rfl | rfl | rfl | rfl
  · go_wp2_with fail
    refine (pick_any rb (m + 1) 16 _ (by omega) hr1 (by omega)).mono ?_
    rintro e w2 ⟨u, rfl, u0, u1, -, hr2, st2⟩
    have u1 : u < 16 := u1 (by omega)
    have ow := ob.step st2 hne2
    obtain ⟨⟨o0, o1, o2⟩, z0, z1, z2⟩ := oa.step st2 hne
    obtain ⟨⟨r0, r1, r2⟩, y0, y1, y2⟩ := ow
    go_wp2
    exact bodyPost_ret (v := .agg #[.int .i64 (u - 1), .int .i64 n, .int .i64 p]) (resArg Tryz.results31 rfl (put3 (Own.set (show Own w2 _ _ _ _ from ⟨⟨r0, r1, r2⟩, y0, y1, y2⟩) (by omega)).1)) rfl ⟨u - 1, n, p, rfl, by unfold Sm; omega, ⟨n0, n1⟩, hp, (hr2.set _ _ _ hlt).set3 (by omega) (by omega), ((sw.trans st2).setNew _ _ _ (by omega)).set3 (by omega)⟩
  · go_wp2_with fail
    refine (num_any rb (m + 1) w1.heap.size 16 _ (by omega) (by omega) (hr1.alloc _) (by omega) (nums_16 w1) (by have := hr1.lt; omega)).mono ?_
    rintro e w2 ⟨u, rfl, u0, u1, hr2, st2⟩
    have st2 : Step rb w1 w2 := (Step.alloc rb w1 _).trans st2
    have ow := ob.step st2 hne2
    obtain ⟨⟨o0, o1, o2⟩, z0, z1, z2⟩ := oa.step st2 hne
    obtain ⟨⟨r0, r1, r2⟩, y0, y1, y2⟩ := ow
    go_wp2
    exact bodyPost_ret (v := .agg #[.int .i64 k, .int .i64 u, .int .i64 p]) (resArg Tryz.results31 rfl (put3 (Own.set (show Own w2 _ _ _ _ from ⟨⟨r0, r1, r2⟩, y0, y1, y2⟩) (by omega)).1)) rfl ⟨k, u, p, rfl, hk, ⟨u0, u1⟩, hp, (hr2.set _ _ _ hlt).set3 (by omega) (by omega), ((sw.trans st2).setNew _ _ _ (by omega)).set3 (by omega)⟩
  · go_wp2_with fail
    refine (num_any rb (m + 1) w1.heap.size 5 _ (by omega) (by omega) (hr1.alloc _) (by omega) (nums_5 w1) (by have := hr1.lt; omega)).mono ?_
    rintro e w2 ⟨u, rfl, u0, u1, hr2, st2⟩
    have st2 : Step rb w1 w2 := (Step.alloc rb w1 _).trans st2
    have ow := ob.step st2 hne2
    obtain ⟨⟨o0, o1, o2⟩, z0, z1, z2⟩ := oa.step st2 hne
    obtain ⟨⟨r0, r1, r2⟩, y0, y1, y2⟩ := ow
    go_wp2
    exact bodyPost_ret (v := .agg #[.int .i64 k, .int .i64 n, .int .i64 u]) (resArg Tryz.results31 rfl (put3 (Own.set (show Own w2 _ _ _ _ from ⟨⟨r0, r1, r2⟩, y0, y1, y2⟩) (by omega)).1)) rfl ⟨k, n, u, rfl, hk, ⟨n0, n1⟩, ⟨u0, u1⟩, (hr2.set _ _ _ hlt).set3 (by omega) (by omega), ((sw.trans st2).setNew _ _ _ (by omega)).set3 (by omega)⟩
  · have ow := ob
    obtain ⟨⟨o0, o1, o2⟩, z0, z1, z2⟩ := oa
    obtain ⟨⟨r0, r1, r2⟩, y0, y1, y2⟩ := ow
    go_wp2_with fail
    refine (ssize_any _ _).mono ?_
    rintro e w2 ⟨rfl, rfl⟩
    go_wp2
    exact bodyPost_ret (v := .agg #[.int .i64 k, .int .i64 (rN (kz k)), .int .i64 p]) (resArg Tryz.results31 rfl (put3 (Own.set ob (by omega)).1)) rfl ⟨k, rN (kz k), p, rfl, hk, by unfold Sm; omega, hp, (hr1.set _ _ _ hlt).set3 (by omega) (by omega), (sw.setNew _ _ _ (by omega)).set3 (by omega)⟩
  · have ow := ob
    obtain ⟨⟨o0, o1, o2⟩, z0, z1, z2⟩ := oa
    obtain ⟨⟨r0, r1, r2⟩, y0, y1, y2⟩ := ow
    go_wp2_with fail
    refine (ssize_any _ _).mono ?_
    rintro e w2 ⟨rfl, rfl⟩
    go_wp2
    exact bodyPost_ret (v := .agg #[.int .i64 k, .int .i64 (rN (kz k) - 1), .int .i64 p]) (resArg Tryz.results31 rfl (put3 (Own.set ob (by omega)).1)) rfl ⟨k, rN (kz k) - 1, p, rfl, hk, by unfold Sm; omega, hp, (hr1.set _ _ _ hlt).set3 (by omega) (by omega), (sw.setNew _ _ _ (by omega)).set3 (by omega)⟩
  · have ow := ob
    obtain ⟨⟨o0, o1, o2⟩, z0, z1, z2⟩ := oa
    obtain ⟨⟨r0, r1, r2⟩, y0, y1, y2⟩ := ow
    go_wp2
    exact bodyPost_ret (v := .agg #[.int .i64 k, .int .i64 (-n), .int .i64 p]) (resArg Tryz.results31 rfl (put3 (Own.set ob (by omega)).1)) rfl ⟨k, -n, p, rfl, hk, by unfold Sm; omega, hp, (hr1.set _ _ _ hlt).set3 (by omega) (by omega), (sw.setNew _ _ _ (by omega)).set3 (by omega)⟩

set_option maxHeartbeats 1000000 in
theorem argAny_any (rb m : Nat) (w : World) (hr : Rd w rb m) (hm : m ≤ 780000) :
    Calls Tryz.prog 15 #[.pointer (some ⟨rb, 0, none⟩)] w (Drawn rb (m + 8) w) := by
  have hlt := hr.lt
  have hne : w.heap.size ≠ rb := by omega
  go_enter Tryz.func15, Tryz.ntmps15
  go_wp2_with fail
  refine (pick_any rb m 13 _ (by omega) (hr.alloc _) (by omega)).mono ?_
  rintro e w1 ⟨t, rfl, t0, t1, -, hr1, st⟩
  have t1 : t < 13 := t1 (by omega)
  have oa := (Own.new w (.int .i64 0) (.int .i64 0) (.int .i64 0)).step st hne
  have sw : Step rb w w1 := (Step.alloc rb w _).trans st
  clear st
  go_wp2_with fail
  refine (arg_any rb (m + 1) (1 + t) _ hr1 (by omega) (by unfold Sm; omega)).mono ?_
  rintro e w2 ⟨k, n, p, rfl, hk, hn, hp, hr2, st2⟩
  have oa2 := oa.step st2 hne
  have sw2 := sw.trans st2
  have hz2 := oa2.lt
  clear oa sw st2
  have hlt2 := hr2.lt
  go_wp2_with fail
  refine (pick_any rb (m + 5) 20 _ (by omega) (hr2.alloc _) (by omega)).mono ?_
  rintro e w3 ⟨u, rfl, u0, u1, -, hr3, st3⟩
  have on3 := (Own.new w2 (.int .i64 k) (.int .i64 n) (.int .i64 p)).step st3 (by omega)
  have oa3 := (oa2.alloc _).step st3 hne
  have sw3 : Step rb w w3 := (sw2.trans (Step.alloc rb w2 _)).trans st3
  clear oa2 sw2 st3 u1
  by_cases hu : u = 0
  · subst hu
    obtain ⟨⟨o0, o1, o2⟩, z0, z1, z2⟩ := on3
    go_wp2_with fail
    refine (spoilt_any rb (m + 6) k n p _ hr3 (by omega) hk hn hp).mono ?_
    rintro e w4 ⟨k', n', p', rfl, hk', hn', hp', hr4, st4⟩
    have oa4 := oa3.step st4 hne
    obtain ⟨⟨r0, r1, r2⟩, y0, y1, y2⟩ := oa4
    go_wp2
    exact bodyPost_ret (v := .agg #[.int .i64 k', .int .i64 n', .int .i64 p']) (resArg Tryz.results15 rfl (put3 ⟨r0, r1, r2⟩)) rfl ⟨k', n', p', rfl, hk', hn', hp', hr4.set3 hlt (by omega), (sw3.trans st4).set3 (Nat.le_refl _)⟩
  · have hu' : (u == 0) = false := by simpa using hu
    clear hu
    obtain ⟨⟨o0, o1, o2⟩, z0, z1, z2⟩ := on3
    obtain ⟨⟨r0, r1, r2⟩, y0, y1, y2⟩ := oa3
    go_wp2
    exact bodyPost_ret (v := .agg #[.int .i64 k, .int .i64 n, .int .i64 p]) (resArg Tryz.results15 rfl (put3 ⟨r0, r1, r2⟩)) rfl ⟨k, n, p, rfl, hk, hn, hp, hr3.set3 hlt (by omega), sw3.set3 (Nat.le_refl _)⟩

/-- What the drawing of an operand out of bytes ends in. -/
def DrawnNew (w : World) (e : Ending) (w' : World) : Prop := ∃ k n p : Int, e = .returned (.agg #[.int .i64 k, .int .i64 n, .int .i64 p]) ∧ Sm k ∧ Sm n ∧ Sm p ∧ Below w.heap.size w w'

theorem put3_below {W w1 : World} {b : Nat} {x y z : Value} (h : Below W.heap.size W w1) (hb : W.heap.size ≤ b) : Below W.heap.size W (((w1.setCell ⟨b, 0, none⟩ x).setCell ⟨b, 1, none⟩ y).setCell ⟨b, 2, none⟩ z) :=
  ((h.setCell hb _).setCell hb _).setCell hb _

theorem IsRow.alloc {w : World} {a : Option Addr} {len : Nat} (h : IsRow w a len) (o : Obj) : IsRow (w.alloc o) a len := by
  rcases h with h | ⟨b, off, f, rfl, hc⟩
  · exact .inl h
  · refine .inr ⟨b, off, f, rfl, fun i hi => ?_⟩
    have := hc i hi
    rw [World.cell?_alloc_lt _ _ _ (World.block_lt_of_cell? w ⟨b, off + i, none⟩ this.1)]
    exact this

end Go.Proofs.YtjkpingdokkkcaaGreatDoor

/- What an operand can be asked for, as mathematics. Helper text: no statement is claimed here. -/
namespace Go.Proofs.YtjkpingdokkkcaaGreatDoor
open Go.ChangeShapes Go.WideShapes Go.ChangeAt Go.RowKit

def isB (k n p : Int) : Bool := okB k n p && rB (kz k)
def isW (k n p : Int) : Bool := okB k n p && rW (kz k)
def isR (k n p : Int) : Bool := okB k n p && rR (kz k)
end Go.Proofs.YtjkpingdokkkcaaGreatDoor

/- What the tables of contacts and coils say, as mathematics; operands in memory. Helper text: no statement is claimed here. -/
namespace Go.Proofs.YtjkpingdokkkcaaGreatDoor
open Go.ChangeShapes Go.WideShapes Go.ChangeAt Go.RowKit

def fm0 : Nat → List Nat
  | 1 => [1] | 2 => [1] | 3 => [1, 4] | 4 => [1, 4] | 5 => [2, 2] | 6 => [2, 2] | 7 => [2, 2] | 8 => [2, 2] | 9 => [2, 2] | 10 => [2, 2] | 21 => [10] | 22 => [11] | 23 => [12] | 24 => [10, 4] | 25 => [5] | 26 => [6, 13] | 27 => [6, 13] | 28 => [6, 13] | 29 => [7, 13] | 30 => [8, 2] | 31 => [8, 2, 2] | 32 => [8, 2, 2] | 33 => [8, 2, 2] | 34 => [8, 2, 2] | 35 => [8, 2, 2] | 36 => [9, 2] | 37 => [8, 3] | _ => []
def fm1 : Nat → List Nat
  | 5 => [3, 3] | 6 => [3, 3] | 7 => [3, 3] | 8 => [3, 3] | 9 => [3, 3] | 10 => [3, 3] | 30 => [9, 3] | 31 => [9, 3, 3] | 32 => [9, 3, 3] | 33 => [9, 3, 3] | 34 => [9, 3, 3] | _ => []
def nm : Nat → List UInt8
  | 21 => [111, 117, 116] | 22 => [115, 101, 116] | 23 => [114, 101, 115, 101, 116] | 24 => [112, 117, 108, 115, 101] | 25 => [115, 116, 101, 112] | 26 => [116, 105, 109, 101, 114] | 27 => [104, 111, 108, 100] | 28 => [108, 97, 116, 101] | 29 => [99, 111, 117, 110, 116] | 30 => [109, 111, 118, 101] | 31 => [97, 100, 100] | 32 => [115, 117, 98] | 33 => [109, 117, 108] | 34 => [100, 105, 118] | 35 => [114, 101, 109] | 36 => [114, 101, 97, 108] | 37 => [119, 104, 111, 108, 101] | _ => []
def mk : Nat → Int
  | 2 => 47 | 3 => 43 | 4 => 45 | _ => 0
def ts : Nat → Int
  | 5 => 1 | 6 => 2 | 7 => 3 | 8 => 4 | 9 => 5 | 10 => 6 | _ => 0
def ez (op : Int) : Nat := if 0 ≤ op ∧ op < 38 then op.toNat else 0
theorem ez_nat (i : Nat) (h : i < 38) : ez (i : Int) = i := by unfold ez; rw [if_pos (by omega)]; omega
theorem ez_no (op : Int) (h : op < 0 ∨ 38 ≤ op) : ez op = 0 := by unfold ez; rw [if_neg (by omega)]
/-- A number is among others. -/
def hasK (ks : List Int) (k : Int) : Bool := ks.contains k
def kinB (ks : List Int) (k n p : Int) : Bool := okB k n p && hasK ks k
/-- The kinds of a sort of operands. -/
def sk : Nat → List Int
  | 4 => [5] | 5 => [4] | 6 => [7] | 7 => [8] | 8 => [9] | 9 => [10] | 10 => [2, 3] | 11 => [2, 3, 4] | 12 => [2, 3, 4, 7, 8] | 13 => [11] | _ => []
/-- Whether an operand is of a sort. -/
def fitB : Nat → Int → Int → Int → Bool
  | 1, k, n, p => isB k n p
  | 2, k, n, p => isW k n p
  | 3, k, n, p => isR k n p
  | 13, k, n, p => kinB [11] k n p && decide (0 ≤ n)
  | c, k, n, p => kinB (sk c) k n p
/-- An operand: kind, number, places. -/
abbrev Ar := Int × Int × Int
def at3 (ys : List Ar) (i : Nat) : Ar := ys.getD i (0, 0, 0)
def fitA (fs : List Nat) (ys : List Ar) (i : Nat) : Bool := fitB (fs.getD i 0) (at3 ys i).1 (at3 ys i).2.1 (at3 ys i).2.2
/-- The operands are ys one row of sorts says. -/
def takeB (fs : List Nat) (ys : List Ar) : Bool := decide (ys.length ≠ 0) && decide (ys.length = fs.length) && (List.range ys.length).all (fitA fs ys)
/-- Operands that lie in memory. -/
def ArgsAt (w : World) (b : Nat) (ys : List Ar) : Prop := ∀ i, i < ys.length → w.cell? ⟨b, i * 3, none⟩ = some (.int .i64 (at3 ys i).1) ∧ w.cell? ⟨b, i * 3 + 1, none⟩ = some (.int .i64 (at3 ys i).2.1) ∧ w.cell? ⟨b, i * 3 + 2, none⟩ = some (.int .i64 (at3 ys i).2.2)
def ArgsIs (w : World) (p : Option Addr) (ys : List Ar) : Prop := ys = [] ∨ ∃ b, p = some ⟨b, 0, none⟩ ∧ b < w.heap.size ∧ ArgsAt w b ys
theorem ArgsAt.to {w w' : World} {b : Nat} {ys : List Ar} (h : ArgsAt w b ys) (hlt : b < w.heap.size) (hb : Below w.heap.size w w') : ArgsAt w' b ys := fun i hi => by
  rw [hb.cell (p := ⟨b, i * 3, none⟩) hlt, hb.cell (p := ⟨b, i * 3 + 1, none⟩) hlt, hb.cell (p := ⟨b, i * 3 + 2, none⟩) hlt]
  exact h i hi
theorem ArgsIs.to {w w' : World} {p : Option Addr} {ys : List Ar} (h : ArgsIs w p ys) (hb : Below w.heap.size w w') : ArgsIs w' p ys := by
  rcases h with h | ⟨b, rfl, hlt, h⟩
  · exact .inl h
  · exact .inr ⟨b, rfl, Nat.lt_of_lt_of_le hlt hb.size, h.to hlt hb⟩
/-- The sorts of a form, in range. -/
def FsOk (fs : List Nat) : Prop := fs.length ≤ 3 ∧ ∀ i, i < fs.length → 1 ≤ fs.getD i 0 ∧ fs.getD i 0 ≤ 13
theorem fm0_ok (i : Nat) : FsOk (fm0 i) := by
  unfold fm0; split <;> exact ⟨by decide, by decide⟩
theorem fm1_ok (i : Nat) : FsOk (fm1 i) := by
  unfold fm1; split <;> exact ⟨by decide, by decide⟩
theorem all_upto {fs : List Nat} {ys : List Ar} {j : Nat} (h : ∀ i, i < j → fitA fs ys i = true) (hj : fitA fs ys j = true) : ∀ i, i < j + 1 → fitA fs ys i = true := fun i hi => by
  rcases Nat.lt_or_ge i j with h' | h'
  · exact h i h'
  · obtain rfl : i = j := by omega
    exact hj
theorem take_yes {fs : List Nat} {ys : List Ar} (h0 : ys.length ≠ 0) (hl : ys.length = fs.length) (h : ∀ i, i < ys.length → fitA fs ys i = true) : takeB fs ys = true := by
  simp only [takeB, Bool.and_eq_true, decide_eq_true_eq, List.all_eq_true, List.mem_range]
  exact ⟨⟨h0, hl⟩, h⟩
theorem take_no {fs : List Nat} {ys : List Ar} {j : Nat} (hj : j < ys.length) (h : fitA fs ys j = false) : takeB fs ys = false := by
  rw [Bool.eq_false_iff]
  intro ht
  simp only [takeB, Bool.and_eq_true, decide_eq_true_eq, List.all_eq_true, List.mem_range] at ht
  rw [ht.2 j hj] at h
  cases h
/-- The operands are as the tables say of a number. -/
def okA (i : Nat) (ys : List Ar) : Bool := takeB (fm0 i) ys || takeB (fm1 i) ys
/-- A contact or coil as a value. -/
abbrev elemV (op : Int) (p : Option Addr) (n cap : Nat) : Value := .agg #[.int .i64 op, .slice p n cap]
def conB (op : Int) (ys : List Ar) : Bool := decide (nm (ez op) = []) && okA (ez op) ys
def coilB (op : Int) (ys : List Ar) : Bool := decide (nm (ez op) ≠ []) && okA (ez op) ys
theorem elem_at {w w1 : World} {op : Int} {p : Option Addr} {n cap : Nat} (hb : Below (w.alloc (.cells #[.int .i64 op, .slice p n cap] 46)).heap.size (w.alloc (.cells #[.int .i64 op, .slice p n cap] 46)) w1) (o : Obj) :
    (w1.alloc o).cell? ⟨w.heap.size, 1, none⟩ = some (.slice p n cap) := by
  have h := hb.cell (p := ⟨w.heap.size, 1, none⟩) (by simp)
  rw [World.cell?_alloc_lt _ _ _ (Nat.lt_of_lt_of_le (by simp) hb.size), h, World.cell?_alloc_mark]
  rfl
end Go.Proofs.YtjkpingdokkkcaaGreatDoor

/- A contact or coil in memory of the call's own. Helper text: no statement is claimed here. -/
namespace Go.Proofs.YtjkpingdokkkcaaGreatDoor
open Go.ChangeShapes Go.WideShapes Go.ChangeAt Go.RowKit

theorem resElem {fn : Func} {W : World} {b p : Nat} {tmps : Array Value} {x y : Value} (h : fn.results = #[.cell p 46]) (hp : tmps.getD p undef = .pointer (some ⟨b, 0, none⟩))
    (hc : W.cell? ⟨b, 0, none⟩ = some x ∧ W.cell? ⟨b, 1, none⟩ = some y) : (results fn tmps).run Tryz.prog W = .ok (.agg #[x, y]) W := by
  obtain ⟨h0, h1⟩ := hc
  simp only [results, h]
  simp [go_sem]
  rw [show tmps[p]?.getD undef = .pointer (some ⟨b, 0, none⟩) by simpa [Array.getD_eq_getD_getElem?] using hp]
  simp [go_sem, h0, h1]
theorem put2 {w1 : World} {b : Nat} {x y u0 u1 : Value} (hc : w1.cell? ⟨b, 0, none⟩ = some u0 ∧ w1.cell? ⟨b, 1, none⟩ = some u1) :
    ((w1.setCell ⟨b, 0, none⟩ x).setCell ⟨b, 1, none⟩ y).cell? ⟨b, 0, none⟩ = some x ∧ ((w1.setCell ⟨b, 0, none⟩ x).setCell ⟨b, 1, none⟩ y).cell? ⟨b, 1, none⟩ = some y := by
  obtain ⟨h0, h1⟩ := hc
  have e1 : (w1.setCell ⟨b, 0, none⟩ x).cell? ⟨b, 1, none⟩ = some u1 := by rw [World.cell?_setCell_other _ _ _ _ (by simp)]; exact h1
  refine ⟨?_, World.cell?_setCell_same _ _ _ e1⟩
  rw [World.cell?_setCell_other _ _ _ _ (by simp)]; exact World.cell?_setCell_same _ _ _ h0
/-- An Elem of the call's own lies in block b. -/
def Own2 (w : World) (b : Nat) (x y : Value) : Prop := (w.cell? ⟨b, 0, none⟩ = some x ∧ w.cell? ⟨b, 1, none⟩ = some y) ∧ w.frozen? ⟨b, 0, none⟩ = false ∧ w.frozen? ⟨b, 1, none⟩ = false
theorem Own2.new (w : World) (x y : Value) : Own2 (w.alloc (.cells #[x, y] 46)) w.heap.size x y := by
  refine ⟨⟨?_, ?_⟩, ?_, ?_⟩ <;> simp [go_sem]
theorem Own2.lt {w : World} {b : Nat} {x y : Value} (h : Own2 w b x y) : b < w.heap.size := World.block_lt_of_cell? w ⟨b, 0, none⟩ h.1.1
theorem Own2.below {w w' : World} {b : Nat} {x y : Value} (h : Own2 w b x y) (hb : Below w.heap.size w w') : Own2 w' b x y := by
  have hlt := h.lt
  unfold Own2
  rw [hb.cell (p := ⟨b, 0, none⟩) hlt, hb.cell (p := ⟨b, 1, none⟩) hlt, hb.frozen (p := ⟨b, 0, none⟩) hlt, hb.frozen (p := ⟨b, 1, none⟩) hlt]
  exact h
theorem Own2.alloc {b : Nat} {w : World} {x y : Value} (h : Own2 w b x y) (o : Obj) : Own2 (w.alloc o) b x y := h.below (one w o)
theorem Own2.put {w : World} {b : Nat} {x y : Value} (h : Own2 w b x y) (x' y' : Value) : Own2 ((w.setCell ⟨b, 0, none⟩ x').setCell ⟨b, 1, none⟩ y') b x' y' :=
  ⟨put2 h.1, by rw [World.frozen?_setCell, World.frozen?_setCell]; exact h.2.1, by rw [World.frozen?_setCell, World.frozen?_setCell]; exact h.2.2⟩
theorem Own2.set {w : World} {b c i : Nat} {x y v : Value} (h : Own2 w b x y) (hc : c ≠ b) : Own2 (w.setCell ⟨c, i, none⟩ v) b x y := by
  unfold Own2
  rw [World.cell?_setCell_other w ⟨c, i, none⟩ ⟨b, 0, none⟩ _ (by simp <;> omega), World.cell?_setCell_other w ⟨c, i, none⟩ ⟨b, 1, none⟩ _ (by simp <;> omega), World.frozen?_setCell, World.frozen?_setCell]
  exact h
/-- The cells of operands in a row. -/
def arCells (ys : List Ar) : List Value := ys.flatMap fun a => [.int .i64 a.1, .int .i64 a.2.1, .int .i64 a.2.2]
theorem arCells_at : ∀ (ys : List Ar) (i : Nat), i < ys.length → (arCells ys)[i * 3]? = some (.int .i64 (at3 ys i).1) ∧ (arCells ys)[i * 3 + 1]? = some (.int .i64 (at3 ys i).2.1) ∧ (arCells ys)[i * 3 + 2]? = some (.int .i64 (at3 ys i).2.2)
  | [], i, h => by simp at h
  | a :: l, 0, _ => by simp [arCells, at3]
  | a :: l, i + 1, h => by
    have ih := arCells_at l i (by simpa using h)
    rw [show (i + 1) * 3 = i * 3 + 1 + 1 + 1 by omega]
    simpa [arCells, at3] using ih
theorem arCells_len (ys : List Ar) : (arCells ys).length = ys.length * 3 := by
  induction ys with
  | nil => rfl
  | cons a l ih => simp only [arCells, List.flatMap_cons, List.length_append, List.length_cons, List.length_nil] at ih ⊢; omega
theorem argsAt_new (w : World) (ys : List Ar) (t : TypeId) : ArgsAt (w.alloc (.cells (arCells ys).toArray t)) w.heap.size ys := fun i hi => by
  obtain ⟨a, b, c⟩ := arCells_at ys i hi
  refine ⟨?_, ?_, ?_⟩ <;> rw [World.cell?_alloc_mark] <;> simpa
theorem ArgsAt.set {w : World} {b c i : Nat} {v : Value} {ys : List Ar} (h : ArgsAt w b ys) (hc : c ≠ b) : ArgsAt (w.setCell ⟨c, i, none⟩ v) b ys := fun j hj => by
  rw [World.cell?_setCell_other w ⟨c, i, none⟩ ⟨b, _, none⟩ _ (by simp <;> omega), World.cell?_setCell_other w ⟨c, i, none⟩ ⟨b, _, none⟩ _ (by simp <;> omega), World.cell?_setCell_other w ⟨c, i, none⟩ ⟨b, _, none⟩ _ (by simp <;> omega)]
  exact h j hj
theorem Own.set1 {w : World} {b : Nat} {x y z : Value} (h : Own w b x y z) (v : Value) : Own (w.setCell ⟨b, 1, none⟩ v) b x v z := by
  unfold Own
  rw [World.cell?_setCell_other w ⟨b, 1, none⟩ ⟨b, 0, none⟩ _ (by simp), World.cell?_setCell_other w ⟨b, 1, none⟩ ⟨b, 2, none⟩ _ (by simp), World.cell?_setCell_same w ⟨b, 1, none⟩ _ h.1.2.1, World.frozen?_setCell, World.frozen?_setCell, World.frozen?_setCell]
  exact ⟨⟨h.1.1, rfl, h.1.2.2⟩, h.2⟩
end Go.Proofs.YtjkpingdokkkcaaGreatDoor

/- The drawing of contacts and coils: their operands. Helper text: no statement is claimed here. -/
namespace Go.Proofs.YtjkpingdokkkcaaGreatDoor
open Go.ChangeShapes Go.WideShapes Go.ChangeAt Go.RowKit

theorem Own2.step {rb b : Nat} {w w' : World} {x y : Value} (h : Own2 w b x y) (st : Step rb w w') (hr : b ≠ rb) : Own2 w' b x y := by
  have hb := h.lt
  unfold Own2
  rw [st.cell b 0 hb hr, st.cell b 1 hb hr, st.frozen b 0 hb hr, st.frozen b 1 hb hr]; exact h

set_option maxHeartbeats 400000 in
theorem l3Bit_any (rb m : Nat) (w : World) (hr : Rd w rb m) (hm : m ≤ 700000) :
    Calls Tryz.prog 51 #[.pointer (some ⟨rb, 0, none⟩)] w (Drawn rb (m + 5) w) := by
  have hlt := hr.lt
  have hne : w.heap.size ≠ rb := by omega
  go_enter Tryz.func51, Tryz.ntmps51
  go_wp2_with fail
  refine (num_any rb m (w.heap.size + 1) 9 _ (by omega) (by omega) ((hr.alloc _).alloc _) (by omega) ?_ (by omega)).mono ?_
  · have := nums_mk (w.alloc (.cells #[.int .i64 0, .int .i64 0, .int .i64 0] 27)) [1, 1, 2, 3, 3, 4, 6, 7, 8] 3 (by simp)
    simpa using this
  rintro e w1 ⟨v, rfl, v0, v1, hr1, st⟩
  go_wp2_with fail
  refine (arg_any rb (m + 1) v _ hr1 (by omega) ⟨v0, v1⟩).mono ?_
  rintro e w2 ⟨k, n, p, rfl, hk, hn, hp, hr2, st2⟩
  obtain ⟨⟨o0, o1, o2⟩, z0, z1, z2⟩ := (((Own.new w (.int .i64 0) (.int .i64 0) (.int .i64 0)).alloc _).step st hne).step st2 hne
  go_wp2
  exact bodyPost_ret (v := .agg #[.int .i64 k, .int .i64 n, .int .i64 p]) (resArg Tryz.results51 rfl (put3 ⟨o0, o1, o2⟩)) rfl ⟨k, n, p, rfl, hk, hn, hp, hr2.set3 hlt (by omega), ((((Step.alloc rb w _).trans (Step.alloc rb _ _)).trans st).trans st2).set3 (Nat.le_refl _)⟩

set_option maxHeartbeats 400000 in
theorem l3Whole_any (rb m : Nat) (w : World) (hr : Rd w rb m) (hm : m ≤ 700000) :
    Calls Tryz.prog 52 #[.pointer (some ⟨rb, 0, none⟩)] w (Drawn rb (m + 5) w) := by
  have hlt := hr.lt
  have hne : w.heap.size ≠ rb := by omega
  go_enter Tryz.func52, Tryz.ntmps52
  go_wp2_with fail
  refine (num_any rb m (w.heap.size + 1) 7 _ (by omega) (by omega) ((hr.alloc _).alloc _) (by omega) ?_ (by omega)).mono ?_
  · have := nums_mk (w.alloc (.cells #[.int .i64 0, .int .i64 0, .int .i64 0] 27)) [9, 9, 9, 11, 11, 7, 8] 3 (by simp)
    simpa using this
  rintro e w1 ⟨v, rfl, v0, v1, hr1, st⟩
  go_wp2_with fail
  refine (arg_any rb (m + 1) v _ hr1 (by omega) ⟨v0, v1⟩).mono ?_
  rintro e w2 ⟨k, n, p, rfl, hk, hn, hp, hr2, st2⟩
  obtain ⟨⟨o0, o1, o2⟩, z0, z1, z2⟩ := (((Own.new w (.int .i64 0) (.int .i64 0) (.int .i64 0)).alloc _).step st hne).step st2 hne
  go_wp2
  exact bodyPost_ret (v := .agg #[.int .i64 k, .int .i64 n, .int .i64 p]) (resArg Tryz.results52 rfl (put3 ⟨o0, o1, o2⟩)) rfl ⟨k, n, p, rfl, hk, hn, hp, hr2.set3 hlt (by omega), ((((Step.alloc rb w _).trans (Step.alloc rb _ _)).trans st).trans st2).set3 (Nat.le_refl _)⟩

set_option maxHeartbeats 400000 in
theorem l3Real_any (rb m : Nat) (w : World) (hr : Rd w rb m) (hm : m ≤ 700000) :
    Calls Tryz.prog 53 #[.pointer (some ⟨rb, 0, none⟩)] w (Drawn rb (m + 5) w) := by
  have hlt := hr.lt
  have hne : w.heap.size ≠ rb := by omega
  go_enter Tryz.func53, Tryz.ntmps53
  go_wp2_with fail
  refine (num_any rb m (w.heap.size + 1) 5 _ (by omega) (by omega) ((hr.alloc _).alloc _) (by omega) ?_ (by omega)).mono ?_
  · have := nums_mk (w.alloc (.cells #[.int .i64 0, .int .i64 0, .int .i64 0] 27)) [10, 10, 10, 12, 13] 3 (by simp)
    simpa using this
  rintro e w1 ⟨v, rfl, v0, v1, hr1, st⟩
  go_wp2_with fail
  refine (arg_any rb (m + 1) v _ hr1 (by omega) ⟨v0, v1⟩).mono ?_
  rintro e w2 ⟨k, n, p, rfl, hk, hn, hp, hr2, st2⟩
  obtain ⟨⟨o0, o1, o2⟩, z0, z1, z2⟩ := (((Own.new w (.int .i64 0) (.int .i64 0) (.int .i64 0)).alloc _).step st hne).step st2 hne
  go_wp2
  exact bodyPost_ret (v := .agg #[.int .i64 k, .int .i64 n, .int .i64 p]) (resArg Tryz.results53 rfl (put3 ⟨o0, o1, o2⟩)) rfl ⟨k, n, p, rfl, hk, hn, hp, hr2.set3 hlt (by omega), ((((Step.alloc rb w _).trans (Step.alloc rb _ _)).trans st).trans st2).set3 (Nat.le_refl _)⟩

/-- The operands of a drawn contact or coil, in memory of the call's own; or none at all. -/
def Els (base : Nat) (w' : World) (p : Option Addr) (ys : List Ar) (cap : Nat) : Prop :=
  (p = none ∧ ys = [] ∧ cap = 0) ∨ ∃ B, p = some ⟨B, 0, none⟩ ∧ base ≤ B ∧ B < w'.heap.size ∧ ArgsAt w' B ys
/-- What a drawing of a contact or coil ends in. -/
def EDrawn (L rb m : Nat) (w : World) (e : Ending) (w' : World) : Prop := ∃ (op : Int) (ys : List Ar) (p : Option Addr) (cap : Nat), e = .returned (elemV op p ys.length cap) ∧
  Sm op ∧ (∀ a ∈ ys, Sm a.1 ∧ Sm a.2.1 ∧ Sm a.2.2) ∧ ys.length ≤ L ∧ ys.length ≤ cap ∧ Els w.heap.size w' p ys cap ∧ Rd w' rb m ∧ Step rb w w'
theorem Rd.drew {w : World} {rb m : Nat} (h : Rd w rb m) : Rd w.drew rb m := h.to (Below.refl _ _).drew
theorem Step.drew (rb : Nat) (w : World) : Step rb w w.drew := .of (Below.refl _ _).drew
/-- A contact or coil that is made of operands in a new row. -/
theorem edrawn_lit {L rb m m' : Nat} {w w2 : World} {op : Int} {ys : List Ar} {t : TypeId} (hlt : rb < w.heap.size) (hr : Rd w2 rb m') (hm : m' ≤ m) (sw : Step rb w w2) (hz : w.heap.size < w2.heap.size) (hop : Sm op)
    (hys : ∀ a ∈ ys, Sm a.1 ∧ Sm a.2.1 ∧ Sm a.2.2) (hl : ys.length ≤ L) :
    EDrawn L rb m w (.returned (.agg #[.int .i64 op, .slice (some ⟨w2.heap.size, 0, none⟩) ys.length ys.length]))
      (((w2.setCell ⟨w.heap.size, 0, none⟩ (.int .i64 op)).setCell ⟨w.heap.size, 1, none⟩ (.slice (some ⟨w2.heap.size, 0, none⟩) ys.length ys.length)).alloc (.cells (arCells ys).toArray t)) := by
  refine ⟨op, ys, _, ys.length, rfl, hop, hys, hl, Nat.le_refl _, .inr ⟨w2.heap.size, rfl, by omega, by simp, ?_⟩, (((hr.mono hm).set _ _ _ hlt).set _ _ _ hlt).alloc _, ((sw.setNew _ _ _ (Nat.le_refl _)).setNew _ _ _ (Nat.le_refl _)).trans (Step.alloc rb _ _)⟩
  have := argsAt_new ((w2.setCell ⟨w.heap.size, 0, none⟩ (.int .i64 op)).setCell ⟨w.heap.size, 1, none⟩ (.slice (some ⟨w2.heap.size, 0, none⟩) ys.length ys.length)) ys t
  simpa using this
theorem ArgsAt.step {rb b : Nat} {w w' : World} {ys : List Ar} (h : ArgsAt w b ys) (st : Step rb w w') (hb : b < w.heap.size) (hr : b ≠ rb) : ArgsAt w' b ys := fun i hi => by
  rw [st.cell b _ hb hr, st.cell b _ hb hr, st.cell b _ hb hr]; exact h i hi
/-- The same where more is drawn behind the row. -/
theorem edrawn_mid {L rb m m' : Nat} {w w2 w9 : World} {op : Int} {ys : List Ar} {t : TypeId} (hlt : rb < w.heap.size) (hr : Rd w9 rb m') (hm : m' ≤ m) (sw : Step rb w w2) (hz : w.heap.size < w2.heap.size)
    (st : Step rb (w2.alloc (.cells (arCells ys).toArray t)) w9) (hop : Sm op) (hys : ∀ a ∈ ys, Sm a.1 ∧ Sm a.2.1 ∧ Sm a.2.2) (hl : ys.length ≤ L) :
    EDrawn L rb m w (.returned (.agg #[.int .i64 op, .slice (some ⟨w2.heap.size, 0, none⟩) ys.length ys.length]))
      ((w9.setCell ⟨w.heap.size, 0, none⟩ (.int .i64 op)).setCell ⟨w.heap.size, 1, none⟩ (.slice (some ⟨w2.heap.size, 0, none⟩) ys.length ys.length)) := by
  have h9 := st.size
  simp only [World.size_alloc] at h9
  refine ⟨op, ys, _, ys.length, rfl, hop, hys, hl, Nat.le_refl _, .inr ⟨w2.heap.size, rfl, by omega, by simp; omega, ?_⟩, ((hr.mono hm).set _ _ _ hlt).set _ _ _ hlt, (((sw.trans (Step.alloc rb _ _)).trans st).setNew _ _ _ (Nat.le_refl _)).setNew _ _ _ (Nat.le_refl _)⟩
  exact (((argsAt_new w2 ys t).step st (by simp) (by omega)).set (by omega)).set (by omega)
theorem sm1 {k n p : Int} (hk : Sm k) (hn : Sm n) (hp : Sm p) : ∀ a ∈ [((k, n, p) : Ar)], Sm a.1 ∧ Sm a.2.1 ∧ Sm a.2.2 := by
  intro a ha
  obtain rfl : a = (k, n, p) := by simpa using ha
  exact ⟨hk, hn, hp⟩
theorem smC {a : Ar} {l : List Ar} (h : Sm a.1 ∧ Sm a.2.1 ∧ Sm a.2.2) (hl : ∀ a ∈ l, Sm a.1 ∧ Sm a.2.1 ∧ Sm a.2.2) : ∀ b ∈ a :: l, Sm b.1 ∧ Sm b.2.1 ∧ Sm b.2.2 := by
  intro b hb
  rcases List.mem_cons.1 hb with rfl | hb
  · exact h
  · exact hl b hb
theorem smN : ∀ a ∈ ([] : List Ar), Sm a.1 ∧ Sm a.2.1 ∧ Sm a.2.2 := by simp
end Go.Proofs.YtjkpingdokkkcaaGreatDoor
