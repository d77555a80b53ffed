/- CmpFlip, CmpSwap: the program's. Helper text: no statement is claimed here. -/
import Derived.Test.YtceepaboaoffkaaDoorEa
namespace Go.Proofs.YtceepaboaoffkaaDoor
open Go.ChangeShapes Go.WideShapes Go.ChangeAt Go.RowKit

section
attribute [local go_sem] Cq.field_0 Cq.field_1 Cq.field_2
set_option maxHeartbeats 400000 in
theorem flip_any (i : Nat) (w : World) (h1 : 1 ≤ i) (h2 : i ≤ 6) (hT : CmpTab w) :
    Calls Tryd.prog 9 #[.int .i64 (i : Int)] w fun e w' => e = .returned (.int .i64 (qF i)) ∧ Below w.heap.size w w' := by
  go_enter Tryd.func9, Tryd.ntmps9
  go_wp2_with fail
  refine (cmpRow_yes _ _ h1 h2 hT).mono ?_
  rintro e w' ⟨rfl, hb⟩
  go_wp2
  go_ret
  exact ⟨rfl, hb⟩
set_option maxHeartbeats 400000 in
theorem swap_any (i : Nat) (w : World) (h1 : 1 ≤ i) (h2 : i ≤ 6) (hT : CmpTab w) :
    Calls Tryd.prog 13 #[.int .i64 (i : Int)] w fun e w' => e = .returned (.int .i64 (qS i)) ∧ Below w.heap.size w w' := by
  go_enter Tryd.func13, Tryd.ntmps13
  go_wp2_with fail
  refine (cmpRow_yes _ _ h1 h2 hT).mono ?_
  rintro e w' ⟨rfl, hb⟩
  go_wp2
  go_ret
  exact ⟨rfl, hb⟩
end
end Go.Proofs.YtceepaboaoffkaaDoor
