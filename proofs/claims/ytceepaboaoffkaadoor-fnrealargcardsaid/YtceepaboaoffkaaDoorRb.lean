/- The drawing of operands: l1Arg, l1Spoilt, l1Any, l1Half. Helper text: no statement is claimed here. -/
import Derived.Test.YtceepaboaoffkaaDoorRa
import Derived.Test.YtceepaboaoffkaaDoorDz
import Derived.Test.YtceepaboaoffkaaDoorOa
namespace Go.Proofs.YtceepaboaoffkaaDoor
open Go.ChangeShapes Go.WideShapes Go.ChangeAt Go.RowKit

def Sm (z : Int) : Prop := -2000000000 ≤ z ∧ z ≤ 2000000000
/-- What a drawing of an operand ends in. -/
def Drawn (rb m : Nat) (w : World) (e : Ending) (w' : World) : Prop := ∃ k n p : Int, e = .returned (.agg #[.int .i64 k, .int .i64 n, .int .i64 p]) ∧ Sm k ∧ Sm n ∧ Sm p ∧ Rd w' rb m ∧ Step rb w w'

theorem nums_mk (w : World) (cs : List Int) (t : TypeId) (h : ∀ z ∈ cs, -2000000000 ≤ z ∧ z ≤ 2000000000) : Nums (w.alloc (.cells (cs.map fun z => Value.int .i64 z).toArray t)) w.heap.size cs.length := by
  intro i hi
  refine ⟨cs[i], ?_, h _ (List.getElem_mem hi)⟩
  rw [World.cell?_alloc_new]
  simp [hi]
theorem scell {rb : Nat} {W w1 : World} (h : Step rb W w1) : (∀ b o, b < W.heap.size → b ≠ rb → w1.cell? ⟨b, o, none⟩ = W.cell? ⟨b, o, none⟩) ∧ (∀ b o, b < W.heap.size → b ≠ rb → w1.frozen? ⟨b, o, none⟩ = W.frozen? ⟨b, o, none⟩) :=
  ⟨fun b o h1 h2 => h.cell b o h1 h2, fun b o h1 h2 => h.frozen b o h1 h2⟩

theorem Own.step {rb b : Nat} {w w' : World} {x y z : Value} (h : Own w b x y z) (st : Step rb w w') (hr : b ≠ rb) : Own w' b x y z := by
  have hb := h.lt
  unfold Own
  rw [st.cell b 0 hb hr, st.cell b 1 hb hr, st.cell b 2 hb hr, st.frozen b 0 hb hr, st.frozen b 1 hb hr, st.frozen b 2 hb hr]; exact h
theorem Rd.set3 {w : World} {rb m m' c : Nat} {x y z : Value} (h : Rd w rb m) (hc : rb < c) (hm : m ≤ m') : Rd (((w.setCell ⟨c, 0, none⟩ x).setCell ⟨c, 1, none⟩ y).setCell ⟨c, 2, none⟩ z) rb m' :=
  (((h.mono hm).set _ _ _ hc).set _ _ _ hc).set _ _ _ hc
theorem Step.set3 {w w' : World} {rb c : Nat} {x y z : Value} (h : Step rb w w') (hc : w.heap.size ≤ c) : Step rb w (((w'.setCell ⟨c, 0, none⟩ x).setCell ⟨c, 1, none⟩ y).setCell ⟨c, 2, none⟩ z) :=
  ((h.setNew _ _ _ hc).setNew _ _ _ hc).setNew _ _ _ hc

set_option maxHeartbeats 400000 in
theorem arg_11 (rb m : Nat) (w : World) (hr : Rd w rb m) (hm : m ≤ 10000) :
    Calls Tryd.prog 43 #[.pointer (some ⟨rb, 0, none⟩), .int .i64 11] w (Drawn rb (m + 4) w) := by
  have hlt := hr.lt
  have hne : w.heap.size ≠ rb := by omega
  go_enter Tryd.func43, Tryd.ntmps43
  go_wp2_with fail
  refine (num_any rb m (w.heap.size + 1) 12 _ (by omega) (by omega) ((hr.alloc _).alloc _) (by omega) ?_ (by omega)).mono ?_
  · have := nums_mk (w.alloc (.cells #[.int .i64 0, .int .i64 0, .int .i64 0] 41)) [0, 1, 2, 3, 5, -1, -7, 10, 100, 32767, -32768, 1000] 3 (by simp)
    simpa using this
  rintro e w1 ⟨v, rfl, v0, v1, hr1, st⟩
  have ow := ((Own.new w (.int .i64 0) (.int .i64 0) (.int .i64 0)).alloc _).step st hne
  obtain ⟨⟨o0, o1, o2⟩, z0, z1, z2⟩ := ow
  go_wp2
  exact bodyPost_ret (v := .agg #[.int .i64 11, .int .i64 v, .int .i64 0]) (resArg Tryd.results43 rfl (put3 ⟨o0, o1, o2⟩)) rfl ⟨11, v, 0, rfl, by unfold Sm; omega, ⟨v0, v1⟩, by unfold Sm; omega, hr1.set3 hlt (by omega), (((Step.alloc rb w _).trans (Step.alloc rb _ _)).trans st).set3 (Nat.le_refl _)⟩

set_option maxHeartbeats 400000 in
theorem arg_12 (rb m : Nat) (w : World) (hr : Rd w rb m) (hm : m ≤ 10000) :
    Calls Tryd.prog 43 #[.pointer (some ⟨rb, 0, none⟩), .int .i64 12] w (Drawn rb (m + 4) w) := by
  have hlt := hr.lt
  have hne : w.heap.size ≠ rb := by omega
  go_enter Tryd.func43, Tryd.ntmps43
  go_wp2_with fail
  refine (num_any rb m (w.heap.size + 1) 11 _ (by omega) (by omega) ((hr.alloc _).alloc _) (by omega) ?_ (by omega)).mono ?_
  · have := nums_mk (w.alloc (.cells #[.int .i64 0, .int .i64 0, .int .i64 0] 41)) [0, 1, 5, -5, 25, -15, 999999999, -999999999, 3, 1001, 7] 3 (by simp)
    simpa using this
  rintro e w1 ⟨v, rfl, v0, v1, hr1, st⟩
  go_wp2_with fail
  refine (pick_any rb (m + 1) 6 _ (by omega) hr1 (by omega)).mono ?_
  rintro e w2 ⟨q, rfl, q0, q1, -, hr2, st2⟩
  have ow := (((Own.new w (.int .i64 0) (.int .i64 0) (.int .i64 0)).alloc _).step st hne).step st2 hne
  obtain ⟨⟨o0, o1, o2⟩, z0, z1, z2⟩ := ow
  have q1 : q < 6 := q1 (by omega)
  go_wp2
  · exact bodyPost_ret (v := .agg #[.int .i64 12, .int .i64 v, .int .i64 1]) (resArg Tryd.results43 rfl (put3 ⟨o0, o1, o2⟩)) rfl ⟨12, v, 1, rfl, by unfold Sm; omega, ⟨v0, v1⟩, by unfold Sm; omega, hr2.set3 hlt (by omega), ((((Step.alloc rb w _).trans (Step.alloc rb _ _)).trans st).trans st2).set3 (Nat.le_refl _)⟩
  · exact bodyPost_ret (v := .agg #[.int .i64 12, .int .i64 v, .int .i64 (1 + q)]) (resArg Tryd.results43 rfl (put3 ⟨o0, o1, o2⟩)) rfl ⟨12, v, 1 + q, rfl, by unfold Sm; omega, ⟨v0, v1⟩, by unfold Sm; omega, hr2.set3 hlt (by omega), ((((Step.alloc rb w _).trans (Step.alloc rb _ _)).trans st).trans st2).set3 (Nat.le_refl _)⟩

set_option maxHeartbeats 400000 in
theorem arg_13 (rb m : Nat) (w : World) (hr : Rd w rb m) (hm : m ≤ 10000) :
    Calls Tryd.prog 43 #[.pointer (some ⟨rb, 0, none⟩), .int .i64 13] w (Drawn rb (m + 4) w) := by
  have hlt := hr.lt
  have hne : w.heap.size ≠ rb := by omega
  go_enter Tryd.func43, Tryd.ntmps43
  go_wp2_with fail
  refine (pick_any rb m 4 _ (by omega) (hr.alloc _) (by omega)).mono ?_
  rintro e w1 ⟨q, rfl, q0, q1, -, hr1, st⟩
  have ow := (Own.new w (.int .i64 0) (.int .i64 0) (.int .i64 0)).step st hne
  obtain ⟨⟨o0, o1, o2⟩, z0, z1, z2⟩ := ow
  have q1 : q < 4 := q1 (by omega)
  go_wp2
  exact bodyPost_ret (v := .agg #[.int .i64 13, .int .i64 q, .int .i64 0]) (resArg Tryd.results43 rfl (put3 ⟨o0, o1, o2⟩)) rfl ⟨13, q, 0, rfl, by unfold Sm; omega, by unfold Sm; omega, by unfold Sm; omega, hr1.set3 hlt (by omega), ((Step.alloc rb w _).trans st).set3 (Nat.le_refl _)⟩

set_option maxHeartbeats 1000000 in
theorem arg_dev (rb m : Nat) (k : Int) (w : World) (hr : Rd w rb m) (hm : m ≤ 10000) (hk : Sm k) (h1 : (k == 11) = false) (h2 : (k == 12) = false) (h3 : (k == 13) = false) :
    Calls Tryd.prog 43 #[.pointer (some ⟨rb, 0, none⟩), .int .i64 k] w (Drawn rb (m + 4) w) := by
  have hlt := hr.lt
  have hne : w.heap.size ≠ rb := by omega
  have hbd := rN_bd (kz k)
  go_enter Tryd.func43, Tryd.ntmps43
  go_wp2_with fail
  refine (pick_any rb m 4 _ (by omega) (hr.alloc _) (by omega)).mono ?_
  rintro e w1 ⟨q, rfl, q0, q1, -, hr1, st⟩
  have q1 : q < 4 := q1 (by omega)
  go_wp2_with fail
  refine (pick_any rb (m + 1) 6 _ (by omega) hr1 (by omega)).mono ?_
  rintro e w2 ⟨t, rfl, t0, t1, -, hr2, st2⟩
  have t1 : t < 6 := t1 (by omega)
  by_cases ht : t = 0
  · subst ht
    go_wp2_with fail
    refine (ssize_any _ _).mono ?_
    rintro e w3 ⟨rfl, rfl⟩
    go_wp2_with fail
    refine (pick_any rb (m + 2) (rN (kz k)) _ (by omega) hr2 (by omega)).mono ?_
    rintro e w3 ⟨u, rfl, u0, u1, u2, hr3, st3⟩
    have u3 : u < 65 := by by_cases h : 1 ≤ rN (kz k) <;> omega
    have ow := (((Own.new w (.int .i64 0) (.int .i64 0) (.int .i64 0)).step st hne).step st2 hne).step st3 hne
    obtain ⟨⟨o0, o1, o2⟩, z0, z1, z2⟩ := ow
    clear u1 u2
    go_wp2_with fail
    refine (ssize_any _ _).mono ?_
    rintro e w4 ⟨rfl, rfl⟩
    go_wp2
    · exact bodyPost_ret (v := .agg #[.int .i64 k, .int .i64 0, .int .i64 0]) (resArg Tryd.results43 rfl (put3 ⟨o0, o1, o2⟩)) rfl ⟨k, 0, 0, rfl, hk, by unfold Sm; omega, by unfold Sm; omega, hr3.set3 hlt (by omega), ((((Step.alloc rb w _).trans st).trans st2).trans st3).set3 (Nat.le_refl _)⟩
    · exact bodyPost_ret (v := .agg #[.int .i64 k, .int .i64 u, .int .i64 0]) (resArg Tryd.results43 rfl (put3 ⟨o0, o1, o2⟩)) rfl ⟨k, u, 0, rfl, hk, by unfold Sm; omega, by unfold Sm; omega, hr3.set3 hlt (by omega), ((((Step.alloc rb w _).trans st).trans st2).trans st3).set3 (Nat.le_refl _)⟩
  · have ht' : (t == 0) = false := by simpa using ht
    have ow := ((Own.new w (.int .i64 0) (.int .i64 0) (.int .i64 0)).step st hne).step st2 hne
    obtain ⟨⟨o0, o1, o2⟩, z0, z1, z2⟩ := ow
    clear ht
    go_wp2_with fail
    refine (ssize_any _ _).mono ?_
    rintro e w4 ⟨rfl, rfl⟩
    go_wp2
    · exact bodyPost_ret (v := .agg #[.int .i64 k, .int .i64 0, .int .i64 0]) (resArg Tryd.results43 rfl (put3 ⟨o0, o1, o2⟩)) rfl ⟨k, 0, 0, rfl, hk, by unfold Sm; omega, by unfold Sm; omega, hr2.set3 hlt (by omega), (((Step.alloc rb w _).trans st).trans st2).set3 (Nat.le_refl _)⟩
    · exact bodyPost_ret (v := .agg #[.int .i64 k, .int .i64 q, .int .i64 0]) (resArg Tryd.results43 rfl (put3 ⟨o0, o1, o2⟩)) rfl ⟨k, q, 0, rfl, hk, by unfold Sm; omega, by unfold Sm; omega, hr2.set3 hlt (by omega), (((Step.alloc rb w _).trans st).trans st2).set3 (Nat.le_refl _)⟩

theorem arg_any (rb m : Nat) (k : Int) (w : World) (hr : Rd w rb m) (hm : m ≤ 10000) (hk : Sm k) :
    Calls Tryd.prog 43 #[.pointer (some ⟨rb, 0, none⟩), .int .i64 k] w (Drawn rb (m + 4) w) := by
  by_cases h1 : k = 11
  · subst h1; exact arg_11 rb m w hr hm
  by_cases h2 : k = 12
  · subst h2; exact arg_12 rb m w hr hm
  by_cases h3 : k = 13
  · subst h3; exact arg_13 rb m w hr hm
  exact arg_dev rb m k w hr hm hk (by simpa using h1) (by simpa using h2) (by simpa using h3)
end Go.Proofs.YtceepaboaoffkaaDoor
