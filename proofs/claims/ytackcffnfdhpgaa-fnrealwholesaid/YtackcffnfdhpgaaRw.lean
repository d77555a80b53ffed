/- The drawing of a sort of reckoning. Helper text: no statement is claimed here. -/
import Derived.Test.YtackcffnfdhpgaaRv
namespace Go.Proofs.Ytackcffnfdhpgaa
open Go.ChangeShapes Go.WideShapes Go.ChangeAt Go.RowKit

def DrawnOp (rb m : Nat) (w : World) (e : Ending) (w' : World) : Prop := ∃ v : Int, e = .returned (.int .i64 v) ∧ -2000000000 ≤ v ∧ v ≤ 2000000000 ∧ Rd w' rb m ∧ Step rb w w'
set_option maxHeartbeats 400000 in
theorem op_any (rb m : Nat) (w : World) (hr : Rd w rb m) (hm : m ≤ 1000) :
    Calls Try.prog 12 #[.pointer (some ⟨rb, 0, none⟩)] w (DrawnOp rb (m + 2) w) := by
  go_enter Try.func12, Try.ntmps12
  go_wp2_with fail
  refine (pick_any rb m 16 _ (by omega) hr (by omega)).mono ?_
  rintro e w1 ⟨q, rfl, q0, q1, -, hr1, st1⟩
  have hlt := hr1.lt
  by_cases h0 : q = 0
  · subst h0
    go_wp2_with fail
    refine (num_any rb (m + 1) w1.heap.size 5 _ (by omega) (by omega) (hr1.alloc _) (by omega) ?_ (by omega)).mono ?_
    · have := nums_of w1 [-1, 0, 7, 8, 99] 3 (by simp)
      simpa using this
    rintro e w2 ⟨v, rfl, v0, v1, hr2, st2⟩
    go_wp2
    go_ret
    exact ⟨v, rfl, v0, v1, hr2, (st1.trans (Step.alloc rb _ _)).trans st2⟩
  · have h0' : (q == 0) = false := by simpa using h0
    clear h0 q1
    go_wp2_with fail
    refine (pick_any rb (m + 1) 6 _ (by omega) hr1 (by omega)).mono ?_
    rintro e w2 ⟨v, rfl, v0, v1, -, hr2, st2⟩
    have v1 : v < 6 := v1 (by omega)
    go_wp2
    go_ret
    exact ⟨_, rfl, by omega, by omega, hr2, st1.trans st2⟩

end Go.Proofs.Ytackcffnfdhpgaa
