/- The drawing of contacts and coils: l3Any. Helper text: no statement is claimed here. -/
import Derived.Test.YtleopmhllbaalabDoorMb
import Derived.Test.YtleopmhllbaalabDoorMc
import Derived.Test.YtleopmhllbaalabDoorMd
namespace Go.Proofs.YtleopmhllbaalabDoor
open Go.ChangeShapes Go.WideShapes Go.ChangeAt Go.RowKit

/-- Operands of a contact or coil in memory made behind w, not in block E. -/
def Far (b E : Nat) (W : World) (p : Option Addr) (ys : List Ar) (cap : Nat) : Prop := (p = none ∧ ys = [] ∧ cap = 0) ∨ ∃ B, p = some ⟨B, 0, none⟩ ∧ b < B ∧ B ≠ E ∧ B < W.heap.size ∧ ArgsAt W B ys
theorem Far.of {b E : Nat} {W : World} {p : Option Addr} {ys : List Ar} {cap base : Nat} (h : Els base W p ys cap) (hb : b < base) (hE : E < base ∨ W.heap.size ≤ E) : Far b E W p ys cap := by
  rcases h with h | ⟨B, rfl, h1, h2, h3⟩
  · exact .inl h
  · exact .inr ⟨B, rfl, by omega, by omega, h2, h3⟩
theorem Far.step {rb b E : Nat} {W W' : World} {p : Option Addr} {ys : List Ar} {cap : Nat} (h : Far b E W p ys cap) (st : Step rb W W') (hr : rb ≤ b) : Far b E W' p ys cap := by
  rcases h with h | ⟨B, rfl, h1, h2, h3, h4⟩
  · exact .inl h
  · exact .inr ⟨B, rfl, h1, h2, Nat.lt_of_lt_of_le h3 st.size, h4.step st h3 (by omega)⟩
theorem Far.setE {b E i : Nat} {v : Value} {W : World} {p : Option Addr} {ys : List Ar} {cap : Nat} (h : Far b E W p ys cap) : Far b E (W.setCell ⟨E, i, none⟩ v) p ys cap := by
  rcases h with h | ⟨B, rfl, h1, h2, h3, h4⟩
  · exact .inl h
  · exact .inr ⟨B, rfl, h1, h2, by simpa using h3, h4.set (by omega)⟩
theorem Far.elsB {rb b E : Nat} {W : World} {p : Option Addr} {ys : List Ar} {cap : Nat} (h : Far b E W p ys cap) (hr : rb ≤ b) : ElsB rb W p ys cap := by
  rcases h with h | ⟨B, rfl, h1, h2, h3, h4⟩
  · exact .inl h
  · exact .inr ⟨B, rfl, by omega, h3, h4⟩
theorem Far.els {b E c i j base : Nat} {x y : Value} {W : World} {p : Option Addr} {ys : List Ar} {cap : Nat} (h : Far b E W p ys cap) (hc : c ≤ b) (hb : base ≤ b) : Els base ((W.setCell ⟨c, i, none⟩ x).setCell ⟨c, j, none⟩ y) p ys cap := by
  rcases h with h | ⟨B, rfl, h1, h2, h3, h4⟩
  · exact .inl h
  · exact .inr ⟨B, rfl, by omega, by simpa using h3, (h4.set (by omega)).set (by omega)⟩

/-- A drawn contact or coil in a variable of the call's own. -/
def EBox (w : World) (L rb m E : Nat) (W : World) : Prop := ∃ (op : Int) (ys : List Ar) (p : Option Addr) (cap : Nat), Sm op ∧ (∀ a ∈ ys, Sm a.1 ∧ Sm a.2.1 ∧ Sm a.2.2) ∧ ys.length ≤ L ∧ ys.length ≤ cap ∧
  Own2 W E (.int .i64 op) (.slice p ys.length cap) ∧ Far w.heap.size E W p ys cap ∧ Own2 W w.heap.size (.int .i64 0) (.slice none 0 0) ∧ Rd W rb m ∧ Step rb w W

set_option maxHeartbeats 1000000 in
theorem l3Any_any (rb m : Nat) (w : World) (hr : Rd w rb m) (hm : m ≤ 500) :
    Calls Tryd.prog 51 #[.pointer (some ⟨rb, 0, none⟩)] w (EDrawn 4 rb (m + 100) w) := by
  have hlt := hr.lt
  have hne : w.heap.size ≠ rb := by omega
  go_enter Tryd.func51, Tryd.ntmps51
  go_wp2_with fail
  refine (l3Coil_any rb m _ (hr.alloc _) (by omega)).mono ?_
  rintro e w1 ⟨op, ys, p, cap, rfl, hop, hys, hl, hlc, hel, hr1, st1⟩
  have o1 := (Own2.new w (.int .i64 0) (.slice none 0 0)).step st1 hne
  have sw1 : Step rb w w1 := (Step.alloc rb w _).trans st1
  have hz1 := o1.lt
  have f1 : Far w.heap.size w1.heap.size w1 p ys cap := Far.of hel (by simp) (.inr (Nat.le_refl _))
  clear hel st1
  go_wp2_with fail
  refine (pick_any rb (m + 40) 2 _ (by omega) (hr1.alloc _) (by omega)).mono ?_
  rintro e w2 ⟨u, rfl, u0, u1, -, hr2, st2⟩
  have e2 := (Own2.new w1 (.int .i64 op) (.slice p ys.length cap)).step st2 (by omega)
  have o2 := (o1.alloc _).step st2 hne
  have f2 := (f1.step (Step.alloc rb w1 _) (by omega)).step st2 (by omega)
  have sw2 := (sw1.trans (Step.alloc rb w1 _)).trans st2
  have hz2 := e2.lt
  clear o1 f1 sw1 st2 hr1 u1
  go_upto_if 8 with fail
  go_cut [] from 7 to 10 (fun wx => EBox w 3 rb (m + 71) w1.heap.size wx)
  case first =>
    by_cases hu : u = 0
    · subst hu
      go_wp2_with fail
      refine (l3Contact_any rb (m + 41) _ hr2 (by omega)).mono ?_
      rintro e w3 ⟨op', ys', p', cap', rfl, hop', hys', hl', hlc', hel', hr3, st3⟩
      have e3 := e2.step st3 (by omega)
      have o3 := o2.step st3 hne
      have HT : Hid (EBox w 3 rb (m + 71) w1.heap.size ((w3.setCell ⟨w1.heap.size, 0, none⟩ (.int .i64 op')).setCell ⟨w1.heap.size, 1, none⟩ (.slice p' ys'.length cap'))) :=
        ⟨op', ys', p', cap', hop', hys', hl', hlc', e3.put _ _, ((Far.of (b := w.heap.size) (E := w1.heap.size) hel' (by omega) (.inl hz2)).setE).setE, (o3.set (by omega)).set (by omega), (hr3.set _ _ _ (by omega)).set _ _ _ (by omega), ((sw2.trans st3).setNew _ _ _ (by omega)).setNew _ _ _ (by omega)⟩
      obtain ⟨⟨c0, c1⟩, z0, z1⟩ := e3
      go_wp2_with fail
      go_meet
      exact HT.out
    · have hu' : (u == 0) = false := by simpa using hu
      clear hu
      have HT : Hid (EBox w 3 rb (m + 71) w1.heap.size w2) := ⟨op, ys, p, cap, hop, hys, hl, hlc, e2, f2, o2, hr2.mono (by omega), sw2⟩
      go_wp2_with fail
      go_meet
      exact HT.out
  case rest =>
  clear e2 o2 f2 sw2 hop hys hl hlc
  obtain ⟨op3, ys3, p3, cap3, hop, hys, hl, hlc, e3, f3, o3, hr3, sw3⟩ := hcut
  go_wp2_with fail
  refine (pick_any rb (m + 71) 16 _ (by omega) hr3 (by omega)).mono ?_
  rintro e w5 ⟨v, rfl, v0, v1, -, hr5, st5⟩
  have e5 := e3.step st5 (by omega)
  have o5 := o3.step st5 hne
  have f5 := f3.step st5 (by omega)
  have sw5 := sw3.trans st5
  clear e3 f3 o3 sw3 st5 v1
  have e5c := e5
  obtain ⟨⟨c0, c1⟩, -, -⟩ := e5c
  by_cases hv : v = 0
  · subst hv
    go_wp2_with fail
    refine (spoilE_any 3 rb (m + 72) op3 ys3 p3 cap3 _ hr5 (by omega) (f5.elsB (by omega)) hop hys hl (by omega)).mono ?_
    rintro e w6 ⟨op6, ys6, p6, cap6, rfl, hop6, hys6, hl6, hlc6, hel6, hr6, st6⟩
    have o6 := o5.step st6 hne
    have hz5 := o5.lt
    have f6 : Far w.heap.size w.heap.size w6 p6 ys6 cap6 := Far.of hel6 (by omega) (.inl hz5)
    have o6c := o6
    obtain ⟨⟨d0, d1⟩, z0, z1⟩ := o6c
    go_wp2
    exact bodyPost_ret (v := elemV op6 p6 ys6.length cap6) (resElem (b := w.heap.size) Tryd.results51 rfl (o6.put _ _).1) rfl ⟨op6, ys6, p6, cap6, rfl, hop6, hys6, hl6, hlc6, f6.els (Nat.le_refl _) (Nat.le_refl _), ((hr6.mono (by omega)).set _ _ _ (by omega)).set _ _ _ (by omega), ((sw5.trans st6).setNew _ _ _ (by omega)).setNew _ _ _ (by omega)⟩
  · have hv' : (v == 0) = false := by simpa using hv
    clear hv
    have o5c := o5
    obtain ⟨⟨d0, d1⟩, z0, z1⟩ := o5c
    go_wp2
    exact bodyPost_ret (v := elemV op3 p3 ys3.length cap3) (resElem (b := w.heap.size) Tryd.results51 rfl (o5.put _ _).1) rfl ⟨op3, ys3, p3, cap3, rfl, hop, hys, by omega, hlc, f5.els (Nat.le_refl _) (Nat.le_refl _), ((hr5.mono (by omega)).set _ _ _ (by omega)).set _ _ _ (by omega), (sw5.setNew _ _ _ (by omega)).setNew _ _ _ (by omega)⟩

/-- What the drawing of a contact or coil out of bytes ends in. -/
def EDrawnNew (L : Nat) (w : World) (e : Ending) (w' : World) : Prop := ∃ (op : Int) (ys : List Ar) (p : Option Addr) (cap : Nat), e = .returned (elemV op p ys.length cap) ∧
  Sm op ∧ (∀ a ∈ ys, Sm a.1 ∧ Sm a.2.1 ∧ Sm a.2.2) ∧ ys.length ≤ L ∧ ys.length ≤ cap ∧ Els w.heap.size w' p ys cap ∧ Below w.heap.size w w'
theorem Els.is {base : Nat} {W : World} {p : Option Addr} {ys : List Ar} {cap : Nat} (h : Els base W p ys cap) : ArgsIs W p ys := by
  rcases h with ⟨-, h, -⟩ | ⟨B, rfl, -, h2, h3⟩
  · exact .inl h
  · exact .inr ⟨B, rfl, h2, h3⟩
theorem Els.mono {base base' : Nat} {W : World} {p : Option Addr} {ys : List Ar} {cap : Nat} (h : Els base W p ys cap) (hb : base' ≤ base) : Els base' W p ys cap := by
  rcases h with h | ⟨B, rfl, h1, h2⟩
  · exact .inl h
  · exact .inr ⟨B, rfl, by omega, h2⟩
end Go.Proofs.YtleopmhllbaalabDoor
