/- The document's DevOk, DevIsBit, DevIsWhole. Helper text: no statement is claimed here. -/
import Derived.Test.YtleopmhllbaalagDoorDd
namespace Go.Proofs.YtleopmhllbaalagDoor
open Go.ChangeShapes Go.WideShapes Go.ChangeAt Go.RowKit

set_option maxHeartbeats 1000000 in
theorem sIsWhole_any (k n p : Int) (w : World) :
    Calls Tryd.prog 25 #[.agg #[.int .i64 k, .int .i64 n, .int .i64 p]] w fun e w' => e = .returned (.bool (isW k n p)) ∧ Below w.heap.size w w' := by
  cases hok : okB k n p
  · rw [show isW k n p = false by simp [isW, hok]]
    have hk : Hid (okB k n p = false) := hok
    clear hok
    go_enter Tryd.func25, Tryd.ntmps25
    go_wp2_with fail
    refine (sOk_any _ _ _ _).mono ?_
    rintro e w' ⟨rfl, hb⟩
    rw [hk.out]
    go_wp2
    go_ret
    exact ⟨rfl, of_one hb⟩
  · rw [show isW k n p = rW (kz k) by simp [isW, hok]]
    have hk : Hid (okB k n p = true) := hok
    rcases kinds (okB_kind hok) with rfl | rfl | rfl | rfl | rfl | rfl | rfl | rfl | rfl | rfl | rfl | rfl | rfl
    all_goals
      clear hok
      go_enter Tryd.func25, Tryd.ntmps25
      go_wp2_with fail
      refine (sOk_any _ _ _ _).mono ?_
      rintro e w' ⟨rfl, hb⟩
      rw [hk.out]
      obtain ⟨hc, hf⟩ := bcell hb
      go_wp2
      go_ret
      exact ⟨rfl, of_one hb⟩
end Go.Proofs.YtleopmhllbaalagDoor
