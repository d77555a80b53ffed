/- The walk of FnExactRealText. Helper text: no statement is claimed here. -/
import Derived.Test.YtceepaboaoffkabDoorNb
import Derived.Test.YtceepaboaoffkabDoorNd
namespace Go.Proofs.YtceepaboaoffkabDoor
open Go.ChangeShapes Go.WideShapes Go.ChangeAt Go.RowKit Fl

set_option maxHeartbeats 400000 in
theorem rtext_walk (x : Nat) (w : World) (hx : x < 2 ^ 64) (hP : PowTab w) :
    Calls Tryd.prog 4 #[.float .f64 x] w fun e w' => e = .returned (.bool true) ∧ Below w.heap.size w w' := by
  go_enter Tryd.func4, Tryd.ntmps4
  go_wp2_with fail
  refine (st_any x _ hx).mono ?_
  rintro e w1 ⟨t1, rfl, ht1, hb1⟩
  have H1 : Hid (TextR x t1) := ht1
  clear ht1
  go_wp2_with fail
  refine (it_any x _ hx (hP.to hb1)).mono ?_
  rintro e w2 ⟨t2, rfl, ht2, hb2⟩
  obtain rfl : t2 = t1 := ht2.one H1.out
  have hb12 := hb1.trans (hb2.mono hb1.size)
  clear ht2
  go_wp2
  go_ret
  exact ⟨rfl, hb12⟩
end Go.Proofs.YtceepaboaoffkabDoor
