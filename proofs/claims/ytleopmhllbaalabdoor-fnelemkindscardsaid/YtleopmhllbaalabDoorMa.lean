/- The drawing of contacts and coils: their operands. Helper text: no statement is claimed here. -/
import Derived.Test.YtleopmhllbaalabDoorRc
import Derived.Test.YtleopmhllbaalabDoorLr
namespace Go.Proofs.YtleopmhllbaalabDoor
open Go.ChangeShapes Go.WideShapes Go.ChangeAt Go.RowKit

theorem Own2.step {rb b : Nat} {w w' : World} {x y : Value} (h : Own2 w b x y) (st : Step rb w w') (hr : b ≠ rb) : Own2 w' b x y := by
  have hb := h.lt
  unfold Own2
  rw [st.cell b 0 hb hr, st.cell b 1 hb hr, st.frozen b 0 hb hr, st.frozen b 1 hb hr]; exact h

set_option maxHeartbeats 400000 in
theorem l3Bit_any (rb m : Nat) (w : World) (hr : Rd w rb m) (hm : m ≤ 900) :
    Calls Tryd.prog 87 #[.pointer (some ⟨rb, 0, none⟩)] w (Drawn rb (m + 5) w) := by
  have hlt := hr.lt
  have hne : w.heap.size ≠ rb := by omega
  go_enter Tryd.func87, Tryd.ntmps87
  go_wp2_with fail
  refine (num_any rb m (w.heap.size + 1) 9 _ (by omega) (by omega) ((hr.alloc _).alloc _) (by omega) ?_ (by omega)).mono ?_
  · have := nums_mk (w.alloc (.cells #[.int .i64 0, .int .i64 0, .int .i64 0] 24)) [1, 1, 2, 3, 3, 4, 6, 7, 8] 3 (by simp)
    simpa using this
  rintro e w1 ⟨v, rfl, v0, v1, hr1, st⟩
  go_wp2_with fail
  refine (arg_any rb (m + 1) v _ hr1 (by omega) ⟨v0, v1⟩).mono ?_
  rintro e w2 ⟨k, n, p, rfl, hk, hn, hp, hr2, st2⟩
  obtain ⟨⟨o0, o1, o2⟩, z0, z1, z2⟩ := (((Own.new w (.int .i64 0) (.int .i64 0) (.int .i64 0)).alloc _).step st hne).step st2 hne
  go_wp2
  exact bodyPost_ret (v := .agg #[.int .i64 k, .int .i64 n, .int .i64 p]) (resArg Tryd.results87 rfl (put3 ⟨o0, o1, o2⟩)) rfl ⟨k, n, p, rfl, hk, hn, hp, hr2.set3 hlt (by omega), ((((Step.alloc rb w _).trans (Step.alloc rb _ _)).trans st).trans st2).set3 (Nat.le_refl _)⟩

set_option maxHeartbeats 400000 in
theorem l3Whole_any (rb m : Nat) (w : World) (hr : Rd w rb m) (hm : m ≤ 900) :
    Calls Tryd.prog 85 #[.pointer (some ⟨rb, 0, none⟩)] w (Drawn rb (m + 5) w) := by
  have hlt := hr.lt
  have hne : w.heap.size ≠ rb := by omega
  go_enter Tryd.func85, Tryd.ntmps85
  go_wp2_with fail
  refine (num_any rb m (w.heap.size + 1) 7 _ (by omega) (by omega) ((hr.alloc _).alloc _) (by omega) ?_ (by omega)).mono ?_
  · have := nums_mk (w.alloc (.cells #[.int .i64 0, .int .i64 0, .int .i64 0] 24)) [9, 9, 9, 11, 11, 7, 8] 3 (by simp)
    simpa using this
  rintro e w1 ⟨v, rfl, v0, v1, hr1, st⟩
  go_wp2_with fail
  refine (arg_any rb (m + 1) v _ hr1 (by omega) ⟨v0, v1⟩).mono ?_
  rintro e w2 ⟨k, n, p, rfl, hk, hn, hp, hr2, st2⟩
  obtain ⟨⟨o0, o1, o2⟩, z0, z1, z2⟩ := (((Own.new w (.int .i64 0) (.int .i64 0) (.int .i64 0)).alloc _).step st hne).step st2 hne
  go_wp2
  exact bodyPost_ret (v := .agg #[.int .i64 k, .int .i64 n, .int .i64 p]) (resArg Tryd.results85 rfl (put3 ⟨o0, o1, o2⟩)) rfl ⟨k, n, p, rfl, hk, hn, hp, hr2.set3 hlt (by omega), ((((Step.alloc rb w _).trans (Step.alloc rb _ _)).trans st).trans st2).set3 (Nat.le_refl _)⟩

set_option maxHeartbeats 400000 in
theorem l3Real_any (rb m : Nat) (w : World) (hr : Rd w rb m) (hm : m ≤ 900) :
    Calls Tryd.prog 86 #[.pointer (some ⟨rb, 0, none⟩)] w (Drawn rb (m + 5) w) := by
  have hlt := hr.lt
  have hne : w.heap.size ≠ rb := by omega
  go_enter Tryd.func86, Tryd.ntmps86
  go_wp2_with fail
  refine (num_any rb m (w.heap.size + 1) 5 _ (by omega) (by omega) ((hr.alloc _).alloc _) (by omega) ?_ (by omega)).mono ?_
  · have := nums_mk (w.alloc (.cells #[.int .i64 0, .int .i64 0, .int .i64 0] 24)) [10, 10, 10, 12, 13] 3 (by simp)
    simpa using this
  rintro e w1 ⟨v, rfl, v0, v1, hr1, st⟩
  go_wp2_with fail
  refine (arg_any rb (m + 1) v _ hr1 (by omega) ⟨v0, v1⟩).mono ?_
  rintro e w2 ⟨k, n, p, rfl, hk, hn, hp, hr2, st2⟩
  obtain ⟨⟨o0, o1, o2⟩, z0, z1, z2⟩ := (((Own.new w (.int .i64 0) (.int .i64 0) (.int .i64 0)).alloc _).step st hne).step st2 hne
  go_wp2
  exact bodyPost_ret (v := .agg #[.int .i64 k, .int .i64 n, .int .i64 p]) (resArg Tryd.results86 rfl (put3 ⟨o0, o1, o2⟩)) rfl ⟨k, n, p, rfl, hk, hn, hp, hr2.set3 hlt (by omega), ((((Step.alloc rb w _).trans (Step.alloc rb _ _)).trans st).trans st2).set3 (Nat.le_refl _)⟩

/-- The operands of a drawn contact or coil, in memory of the call's own; or none at all. -/
def Els (base : Nat) (w' : World) (p : Option Addr) (ys : List Ar) (cap : Nat) : Prop :=
  (p = none ∧ ys = [] ∧ cap = 0) ∨ ∃ B, p = some ⟨B, 0, none⟩ ∧ base ≤ B ∧ B < w'.heap.size ∧ ArgsAt w' B ys
/-- What a drawing of a contact or coil ends in. -/
def EDrawn (L rb m : Nat) (w : World) (e : Ending) (w' : World) : Prop := ∃ (op : Int) (ys : List Ar) (p : Option Addr) (cap : Nat), e = .returned (elemV op p ys.length cap) ∧
  Sm op ∧ (∀ a ∈ ys, Sm a.1 ∧ Sm a.2.1 ∧ Sm a.2.2) ∧ ys.length ≤ L ∧ ys.length ≤ cap ∧ Els w.heap.size w' p ys cap ∧ Rd w' rb m ∧ Step rb w w'
theorem Rd.drew {w : World} {rb m : Nat} (h : Rd w rb m) : Rd w.drew rb m := h.to (Below.refl _ _).drew
theorem Step.drew (rb : Nat) (w : World) : Step rb w w.drew := .of (Below.refl _ _).drew
/-- A contact or coil that is made of operands in a new row. -/
theorem edrawn_lit {L rb m m' : Nat} {w w2 : World} {op : Int} {ys : List Ar} {t : TypeId} (hlt : rb < w.heap.size) (hr : Rd w2 rb m') (hm : m' ≤ m) (sw : Step rb w w2) (hz : w.heap.size < w2.heap.size) (hop : Sm op)
    (hys : ∀ a ∈ ys, Sm a.1 ∧ Sm a.2.1 ∧ Sm a.2.2) (hl : ys.length ≤ L) :
    EDrawn L rb m w (.returned (.agg #[.int .i64 op, .slice (some ⟨w2.heap.size, 0, none⟩) ys.length ys.length]))
      (((w2.setCell ⟨w.heap.size, 0, none⟩ (.int .i64 op)).setCell ⟨w.heap.size, 1, none⟩ (.slice (some ⟨w2.heap.size, 0, none⟩) ys.length ys.length)).alloc (.cells (arCells ys).toArray t)) := by
  refine ⟨op, ys, _, ys.length, rfl, hop, hys, hl, Nat.le_refl _, .inr ⟨w2.heap.size, rfl, by omega, by simp, ?_⟩, (((hr.mono hm).set _ _ _ hlt).set _ _ _ hlt).alloc _, ((sw.setNew _ _ _ (Nat.le_refl _)).setNew _ _ _ (Nat.le_refl _)).trans (Step.alloc rb _ _)⟩
  have := argsAt_new ((w2.setCell ⟨w.heap.size, 0, none⟩ (.int .i64 op)).setCell ⟨w.heap.size, 1, none⟩ (.slice (some ⟨w2.heap.size, 0, none⟩) ys.length ys.length)) ys t
  simpa using this
theorem ArgsAt.step {rb b : Nat} {w w' : World} {ys : List Ar} (h : ArgsAt w b ys) (st : Step rb w w') (hb : b < w.heap.size) (hr : b ≠ rb) : ArgsAt w' b ys := fun i hi => by
  rw [st.cell b _ hb hr, st.cell b _ hb hr, st.cell b _ hb hr]; exact h i hi
/-- The same where more is drawn behind the row. -/
theorem edrawn_mid {L rb m m' : Nat} {w w2 w9 : World} {op : Int} {ys : List Ar} {t : TypeId} (hlt : rb < w.heap.size) (hr : Rd w9 rb m') (hm : m' ≤ m) (sw : Step rb w w2) (hz : w.heap.size < w2.heap.size)
    (st : Step rb (w2.alloc (.cells (arCells ys).toArray t)) w9) (hop : Sm op) (hys : ∀ a ∈ ys, Sm a.1 ∧ Sm a.2.1 ∧ Sm a.2.2) (hl : ys.length ≤ L) :
    EDrawn L rb m w (.returned (.agg #[.int .i64 op, .slice (some ⟨w2.heap.size, 0, none⟩) ys.length ys.length]))
      ((w9.setCell ⟨w.heap.size, 0, none⟩ (.int .i64 op)).setCell ⟨w.heap.size, 1, none⟩ (.slice (some ⟨w2.heap.size, 0, none⟩) ys.length ys.length)) := by
  have h9 := st.size
  simp only [World.size_alloc] at h9
  refine ⟨op, ys, _, ys.length, rfl, hop, hys, hl, Nat.le_refl _, .inr ⟨w2.heap.size, rfl, by omega, by simp; omega, ?_⟩, ((hr.mono hm).set _ _ _ hlt).set _ _ _ hlt, (((sw.trans (Step.alloc rb _ _)).trans st).setNew _ _ _ (Nat.le_refl _)).setNew _ _ _ (Nat.le_refl _)⟩
  exact (((argsAt_new w2 ys t).step st (by simp) (by omega)).set (by omega)).set (by omega)
theorem sm1 {k n p : Int} (hk : Sm k) (hn : Sm n) (hp : Sm p) : ∀ a ∈ [((k, n, p) : Ar)], Sm a.1 ∧ Sm a.2.1 ∧ Sm a.2.2 := by
  intro a ha
  obtain rfl : a = (k, n, p) := by simpa using ha
  exact ⟨hk, hn, hp⟩
theorem smC {a : Ar} {l : List Ar} (h : Sm a.1 ∧ Sm a.2.1 ∧ Sm a.2.2) (hl : ∀ a ∈ l, Sm a.1 ∧ Sm a.2.1 ∧ Sm a.2.2) : ∀ b ∈ a :: l, Sm b.1 ∧ Sm b.2.1 ∧ Sm b.2.2 := by
  intro b hb
  rcases List.mem_cons.1 hb with rfl | hb
  · exact h
  · exact hl b hb
theorem smN : ∀ a ∈ ([] : List Ar), Sm a.1 ∧ Sm a.2.1 ∧ Sm a.2.2 := by simp
end Go.Proofs.YtleopmhllbaalabDoor
