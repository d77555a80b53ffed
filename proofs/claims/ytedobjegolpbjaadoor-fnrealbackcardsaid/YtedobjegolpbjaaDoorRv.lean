/- The drawing of whole numbers: l2Op, l2Whole. Helper text: no statement is claimed here. -/
import Derived.Test.YtedobjegolpbjaaDoorRa
import Derived.Test.YtedobjegolpbjaaDoorWn
namespace Go.Proofs.YtedobjegolpbjaaDoor
open Go.ChangeShapes Go.WideShapes Go.ChangeAt Go.RowKit

theorem nums_of (w : World) (cs : List Int) (t : TypeId) (h : ∀ z ∈ cs, -2000000000 ≤ z ∧ z ≤ 2000000000) : Nums (w.alloc (.cells (cs.map fun z => Value.int .i64 z).toArray t)) w.heap.size cs.length := by
  intro i hi
  refine ⟨cs[i], ?_, h _ (List.getElem_mem hi)⟩
  rw [World.cell?_alloc_new]
  simp [hi]
theorem w16_in (n : Int) : -32768 ≤ w16 n ∧ w16 n ≤ 32767 := by unfold w16; omega
theorem wrap_in (n : Int) : -32768 ≤ IntKind.i16.wrap n ∧ IntKind.i16.wrap n ≤ 32767 := by rw [w16_wrap]; exact w16_in n

/-- What the drawing of a small number ends in. -/
def DrawnW (rb m : Nat) (w : World) (e : Ending) (w' : World) : Prop := ∃ v : Int, e = .returned (.int .i16 v) ∧ -32768 ≤ v ∧ v ≤ 32767 ∧ Rd w' rb m ∧ Step rb w w'

set_option maxHeartbeats 400000 in
theorem whole_any (rb m : Nat) (w : World) (hr : Rd w rb m) (hm : m ≤ 10000) :
    Calls Tryd.prog 19 #[.pointer (some ⟨rb, 0, none⟩)] w (DrawnW rb (m + 2) w) := by
  go_enter Tryd.func19, Tryd.ntmps19
  go_wp2_with fail
  refine (pick_any rb m 4 _ (by omega) hr (by omega)).mono ?_
  rintro e w1 ⟨q, rfl, q0, q1, -, hr1, st1⟩
  have hlt := hr1.lt
  by_cases h0 : q = 0
  · subst h0
    go_wp2_with fail
    refine (num_any rb (m + 1) w1.heap.size 10 _ (by omega) (by omega) (hr1.alloc _) (by omega) ?_ (by omega)).mono ?_
    · have := nums_of w1 [32767, -32768, 0, -1, 1, 32766, -32767, 181, 182, -182] 3 (by simp)
      simpa using this
    rintro e w2 ⟨v, rfl, v0, v1, hr2, st2⟩
    go_wp2
    go_ret
    exact ⟨_, rfl, (wrap_in _).1, (wrap_in _).2, hr2, (st1.trans (Step.alloc rb _ _)).trans st2⟩
  · have h0' : (q == 0) = false := by simpa using h0
    clear h0 q1
    go_wp2_with fail
    refine (pick_any rb (m + 1) 65536 _ (by omega) hr1 (by omega)).mono ?_
    rintro e w2 ⟨v, rfl, v0, v1, -, hr2, st2⟩
    have v1 : v < 65536 := v1 (by omega)
    go_wp2
    go_ret
    exact ⟨_, rfl, by omega, by omega, hr2, st1.trans st2⟩
end Go.Proofs.YtedobjegolpbjaaDoor
