/- The walk of FnExactRealRead. Helper text: no statement is claimed here. -/
import Derived.Test.YtlgiecdhiafldaaDoorGi
import Derived.Test.YtlgiecdhiafldaaDoorCs
namespace Go.Proofs.YtlgiecdhiafldaaDoor
open Go.ChangeShapes Go.WideShapes Go.ChangeAt Go.RowKit Fl

set_option maxHeartbeats 1000000 in
theorem rread_walk (s : ByteArray) (w : World) (hL : LTab w) (hP : PowTab w) :
    Calls Tryd.prog 4 #[.string s] w fun e w' => e = .returned (.bool true) ∧ Below w.heap.size w w' := by
  by_cases hl : 1048576 < s.size
  · have hl1 : (1048576 : Int) < s.size := by omega
    go_enter Tryd.func4, Tryd.ntmps4
    go_wp2
    go_ret
    exact ⟨rfl, Below.refl _ _⟩
  obtain ⟨t, rfl⟩ : ∃ t : List UInt8, s = ⟨t.toArray⟩ := ⟨s.data.toList, by simp⟩
  have ht : t.length ≤ 1500000 := by simp [ByteArray.size] at hl; omega
  have hl1 : ¬ (1048576 : Int) < (t.length : Int) := by simp [ByteArray.size] at hl; omega
  clear hl
  go_enter Tryd.func4, Tryd.ntmps4
  go_wp2_with fail
  refine (srl_any t _ ht).mono ?_
  rintro e w1 ⟨x, b, rfl, hx, hb1⟩
  have HX : Hid (RdR t x b) := hx
  clear hx
  go_wp2_with fail
  refine (irl_any t _ ht (hL.to hb1) (hP.to hb1)).mono ?_
  rintro e w2 ⟨y, b', rfl, hy, hb2⟩
  obtain ⟨rfl, hsame⟩ := hy.one HX.out
  have hyl := hy.1
  have hb12 := hb1.trans (hb2.mono hb1.size)
  have HS : Hid (SameV y x) := hsame
  clear hsame hy
  go_wp2_with fail
  refine (sameFloat_any _ _ _ HS.out hyl).mono ?_
  rintro e w3 ⟨rfl, rfl⟩
  go_wp2
  go_ret
  exact ⟨rfl, hb12⟩
end Go.Proofs.YtlgiecdhiafldaaDoor
