/- The walk of FnExactRealArg. Helper text: no statement is claimed here. -/
import Derived.Test.YtceepaboaoffkabDoorAc
import Derived.Test.YtceepaboaoffkabDoorCs
namespace Go.Proofs.YtceepaboaoffkabDoor
open Go.ChangeShapes Go.WideShapes Go.ChangeAt Go.RowKit Fl

set_option maxHeartbeats 400000 in
theorem toArg_any (k n p : Int) (w : World) :
    Calls Tryd.prog 7 #[.agg #[.int .i64 k, .int .i64 n, .int .i64 p]] w fun e w' => e = .returned (.agg #[.int .i64 k, .int .i64 n, .int .i64 p]) ∧ Below w.heap.size w w' := by
  go_enter Tryd.func7, Tryd.ntmps7
  go_wp2
  exact bodyPost_ret (v := .agg #[.int .i64 k, .int .i64 n, .int .i64 p]) (by simp [results, Tryd.results7, go_sem]) rfl ⟨rfl, (((Below.refl _ _).alloc (Nat.le_refl _) _).alloc (by simp) _).alloc (by simp; omega) _⟩

set_option maxHeartbeats 400000 in
theorem arg_walk (k n p : Int) (w : World) (hT : DevTab w) :
    Calls Tryd.prog 3 #[.agg #[.int .i64 k, .int .i64 n, .int .i64 p]] w fun e w' => e = .returned (.bool true) ∧ Below w.heap.size w w' := by
  go_enter Tryd.func3, Tryd.ntmps3
  go_wp2_with fail
  refine (toArg_any _ _ _ _).mono ?_
  rintro e w1 ⟨rfl, hb1⟩
  go_wp2_with fail
  refine (sarg_any _ _ _ _).mono ?_
  rintro e w2 ⟨r1, rfl, hr1, hb2⟩
  have H1 : Hid (ArgR k n p r1) := hr1
  clear hr1
  have hb12 := hb1.trans (hb2.mono hb1.size)
  obtain ⟨hc, hf⟩ := bcell hb12
  go_wp2_with fail
  refine (toArg_any _ _ _ _).mono ?_
  rintro e w3 ⟨rfl, hb3⟩
  have hb13 := hb12.trans (hb3.mono hb12.size)
  go_wp2_with fail
  refine (iarg_any _ _ _ _ ((hT.alloc _).to hb13)).mono ?_
  rintro e w4 ⟨r2, rfl, hr2, hb4⟩
  have H2 : Hid (ArgR k n p r2) := hr2
  clear hr2
  go_wp2_with fail
  refine (sameFloat_any _ _ _ (H2.out.one H1.out) H2.out.1).mono ?_
  rintro e w5 ⟨rfl, rfl⟩
  go_wp2
  go_ret
  exact ⟨rfl, of_one (hb13.trans (hb4.mono hb13.size))⟩
end Go.Proofs.YtceepaboaoffkabDoor
