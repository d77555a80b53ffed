/- DevIsBit, DevIsWhole, DevIsReal, and the document's own. Helper text: no statement is claimed here. -/
import Derived.Test.YtleopmhllbaalagDoorDs
namespace Go.Proofs.YtleopmhllbaalagDoor
open Go.ChangeShapes Go.WideShapes Go.ChangeAt Go.RowKit
attribute [local go_sem] field_0 field_1 field_2 field_3 field_4

def isB (k n p : Int) : Bool := okB k n p && rB (kz k)
def isW (k n p : Int) : Bool := okB k n p && rW (kz k)
def isR (k n p : Int) : Bool := okB k n p && rR (kz k)

set_option maxHeartbeats 400000 in
theorem isBit_any (k n p : Int) (w : World) (hT : DevTab w) :
    Calls Tryd.prog 41 #[.agg #[.int .i64 k, .int .i64 n, .int .i64 p]] w fun e w' => e = .returned (.bool (isB k n p)) ∧ Below w.heap.size w w' := by
  cases hok : okB k n p
  · rw [show isB k n p = false by simp [isB, hok]]
    have hk : Hid (okB k n p = false) := hok
    clear hok
    go_enter Tryd.func41, Tryd.ntmps41
    go_wp2_with fail
    refine (devOk_any _ _ _ _ (hT.alloc _)).mono ?_
    rintro e w' ⟨rfl, hb⟩
    rw [hk.out]
    go_wp2
    go_ret
    exact ⟨rfl, of_one hb⟩
  · rw [show isB k n p = rB (kz k) by simp [isB, hok]]
    have hk : Hid (okB k n p = true) := hok
    clear hok
    go_enter Tryd.func41, Tryd.ntmps41
    go_wp2_with fail
    refine (devOk_any _ _ _ _ (hT.alloc _)).mono ?_
    rintro e w' ⟨rfl, hb⟩
    rw [hk.out]
    obtain ⟨hc, hf⟩ := bcell hb
    go_wp2_with fail
    refine (rowOf_any _ _ ((hT.alloc _).to hb)).mono ?_
    rintro e w2 ⟨rfl, hb2⟩
    go_wp2
    go_ret
    exact ⟨rfl, of_two hb hb2⟩

set_option maxHeartbeats 400000 in
theorem isWhole_any (k n p : Int) (w : World) (hT : DevTab w) :
    Calls Tryd.prog 35 #[.agg #[.int .i64 k, .int .i64 n, .int .i64 p]] w fun e w' => e = .returned (.bool (isW k n p)) ∧ Below w.heap.size w w' := by
  cases hok : okB k n p
  · rw [show isW k n p = false by simp [isW, hok]]
    have hk : Hid (okB k n p = false) := hok
    clear hok
    go_enter Tryd.func35, Tryd.ntmps35
    go_wp2_with fail
    refine (devOk_any _ _ _ _ (hT.alloc _)).mono ?_
    rintro e w' ⟨rfl, hb⟩
    rw [hk.out]
    go_wp2
    go_ret
    exact ⟨rfl, of_one hb⟩
  · rw [show isW k n p = rW (kz k) by simp [isW, hok]]
    have hk : Hid (okB k n p = true) := hok
    clear hok
    go_enter Tryd.func35, Tryd.ntmps35
    go_wp2_with fail
    refine (devOk_any _ _ _ _ (hT.alloc _)).mono ?_
    rintro e w' ⟨rfl, hb⟩
    rw [hk.out]
    obtain ⟨hc, hf⟩ := bcell hb
    go_wp2_with fail
    refine (rowOf_any _ _ ((hT.alloc _).to hb)).mono ?_
    rintro e w2 ⟨rfl, hb2⟩
    go_wp2
    go_ret
    exact ⟨rfl, of_two hb hb2⟩

set_option maxHeartbeats 400000 in
theorem isReal_any (k n p : Int) (w : World) (hT : DevTab w) :
    Calls Tryd.prog 36 #[.agg #[.int .i64 k, .int .i64 n, .int .i64 p]] w fun e w' => e = .returned (.bool (isR k n p)) ∧ Below w.heap.size w w' := by
  cases hok : okB k n p
  · rw [show isR k n p = false by simp [isR, hok]]
    have hk : Hid (okB k n p = false) := hok
    clear hok
    go_enter Tryd.func36, Tryd.ntmps36
    go_wp2_with fail
    refine (devOk_any _ _ _ _ (hT.alloc _)).mono ?_
    rintro e w' ⟨rfl, hb⟩
    rw [hk.out]
    go_wp2
    go_ret
    exact ⟨rfl, of_one hb⟩
  · rw [show isR k n p = rR (kz k) by simp [isR, hok]]
    have hk : Hid (okB k n p = true) := hok
    clear hok
    go_enter Tryd.func36, Tryd.ntmps36
    go_wp2_with fail
    refine (devOk_any _ _ _ _ (hT.alloc _)).mono ?_
    rintro e w' ⟨rfl, hb⟩
    rw [hk.out]
    obtain ⟨hc, hf⟩ := bcell hb
    go_wp2_with fail
    refine (rowOf_any _ _ ((hT.alloc _).to hb)).mono ?_
    rintro e w2 ⟨rfl, hb2⟩
    go_wp2
    go_ret
    exact ⟨rfl, of_two hb hb2⟩

end Go.Proofs.YtleopmhllbaalagDoor
