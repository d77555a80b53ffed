/- The drawing of contacts and coils out of bytes: l3Half, DrawElemIsCoil. Helper text: no statement is claimed here. -/
import Derived.Test.YtleopmhllbaalabDoorMe
namespace Go.Proofs.YtleopmhllbaalabDoor
open Go.ChangeShapes Go.WideShapes Go.ChangeAt Go.RowKit

set_option maxHeartbeats 1000000 in
theorem l3Half_any (a : Option Addr) (len cap : Nat) (w : World) (h : IsRow w a len) (hlc : len ≤ cap) :
    Calls Tryd.prog 28 #[.slice a len cap] w (EDrawnNew 5 w) := by
  have hH : Hid (IsRow w a len) := h
  clear h
  go_enter Tryd.func28, Tryd.ntmps28
  go_wp2_with fail
  refine (open_any a len cap _ (hH.out.alloc _) hlc).mono ?_
  rintro e w1 ⟨rfl, hr1, hb1⟩
  have hrb : (w.alloc (.cells #[.int .i64 0, .slice none 0 0] 34)).heap.size = w.heap.size + 1 := by simp
  rw [hrb] at hr1
  have o1 : Own2 w1 w.heap.size (.int .i64 0) (.slice none 0 0) := (Own2.new w (.int .i64 0) (.slice none 0 0)).below hb1
  have sw1 : Below w.heap.size w w1 := of_one hb1
  clear hb1
  go_wp2_with fail
  refine (l3Any_any (w.heap.size + 1) 0 _ hr1 (by omega)).mono ?_
  rintro e w2 ⟨op, ys, p, cp, rfl, hop, hys, hl, hlc2, hel, hr2, st2⟩
  have hz1 := hr1.lt
  have o2 := o1.step st2 (by omega)
  have sw2 : Below w.heap.size w w2 := sw1.trans (st2.below (by omega) sw1.size)
  have f2 : Far (w.heap.size + 1) w2.heap.size w2 p ys cp := Far.of hel (by omega) (.inr (Nat.le_refl _))
  have hz2 := hr2.lt
  clear hel st2 o1 sw1 hr1
  go_wp2_with fail
  refine (pick_any (w.heap.size + 1) 100 2 _ (by omega) (hr2.alloc _) (by omega)).mono ?_
  rintro e w3 ⟨u, rfl, u0, u1, -, hr3, st3⟩
  have e3 := (Own2.new w2 (.int .i64 op) (.slice p ys.length cp)).step st3 (by omega)
  have o3 := (o2.alloc _).step st3 (by omega)
  have f3 := (f2.step (Step.alloc (w.heap.size + 1) w2 _) (Nat.le_refl _)).step st3 (Nat.le_refl _)
  have sw3 : Below w.heap.size w w3 := (sw2.alloc sw2.size _).trans (st3.below (by omega) (by have := sw2.size; simp; omega))
  clear o2 f2 sw2 st3 hr2 u1
  have e3c := e3
  obtain ⟨⟨c0, c1⟩, -, -⟩ := e3c
  have hzo := o3.lt
  by_cases hu : u = 0
  · subst hu
    go_wp2_with fail
    refine (spoilE_any 4 (w.heap.size + 1) 101 op ys p cp _ hr3 (by omega) (f3.elsB (Nat.le_refl _)) hop hys hl (by omega)).mono ?_
    rintro e w4 ⟨op6, ys6, p6, cap6, rfl, hop6, hys6, hl6, hlc6, hel6, hr6, st6⟩
    have o6 := o3.step st6 (by omega)
    have sw6 : Below w.heap.size w w4 := sw3.trans (st6.below (by omega) sw3.size)
    have f6 : Far w.heap.size w.heap.size w4 p6 ys6 cap6 := Far.of hel6 (by omega) (.inl hzo)
    have o6c := o6
    obtain ⟨⟨d0, d1⟩, z0, z1⟩ := o6c
    go_wp2
    exact bodyPost_ret (v := elemV op6 p6 ys6.length cap6) (resElem (b := w.heap.size) Tryd.results28 rfl (o6.put _ _).1) rfl ⟨op6, ys6, p6, cap6, rfl, hop6, hys6, hl6, hlc6, f6.els (Nat.le_refl _) (Nat.le_refl _), (sw6.setCell (p := ⟨w.heap.size, 0, none⟩) (Nat.le_refl _) _).setCell (p := ⟨w.heap.size, 1, none⟩) (Nat.le_refl _) _⟩
  · have hu' : (u == 0) = false := by simpa using hu
    clear hu
    have o3c := o3
    obtain ⟨⟨d0, d1⟩, z0, z1⟩ := o3c
    go_wp2
    exact bodyPost_ret (v := elemV op p ys.length cp) (resElem (b := w.heap.size) Tryd.results28 rfl (o3.put _ _).1) rfl ⟨op, ys, p, cp, rfl, hop, hys, by omega, hlc2, f3.els (by omega) (by omega), (sw3.setCell (p := ⟨w.heap.size, 0, none⟩) (Nat.le_refl _) _).setCell (p := ⟨w.heap.size, 1, none⟩) (Nat.le_refl _) _⟩

set_option maxHeartbeats 400000 in
theorem drawCoil_any (a : Option Addr) (len cap : Nat) (w : World) (h : IsRow w a len) (hlc : len ≤ cap) :
    Calls Tryd.prog 11 #[.slice a len cap] w (EDrawnNew 5 w) := by
  have hH : Hid (IsRow w a len) := h
  clear h
  go_enter Tryd.func11, Tryd.ntmps11
  go_wp2_with fail
  refine (l3Half_any a len cap _ (hH.out.alloc _) hlc).mono ?_
  rintro e w1 ⟨op, ys, p, cp, rfl, hop, hys, hl, hlc2, hel, hb⟩
  have o1 : Own2 w1 w.heap.size (.int .i64 0) (.slice none 0 0) := (Own2.new w (.int .i64 0) (.slice none 0 0)).below hb
  have f1 : Far w.heap.size w.heap.size w1 p ys cp := Far.of hel (by simp) (.inl (by simp))
  have o1c := o1
  obtain ⟨⟨d0, d1⟩, z0, z1⟩ := o1c
  go_wp2
  exact bodyPost_ret (v := elemV op p ys.length cp) (resElem (b := w.heap.size) Tryd.results11 rfl (o1.put _ _).1) rfl ⟨op, ys, p, cp, rfl, hop, hys, hl, hlc2, f1.els (Nat.le_refl _) (Nat.le_refl _), ((of_one hb).setCell (p := ⟨w.heap.size, 0, none⟩) (Nat.le_refl _) _).setCell (p := ⟨w.heap.size, 1, none⟩) (Nat.le_refl _) _⟩
end Go.Proofs.YtleopmhllbaalabDoor
