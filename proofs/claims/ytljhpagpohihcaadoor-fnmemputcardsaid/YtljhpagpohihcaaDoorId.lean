/- Bits of a memory put and asked, as plain mathematics. Helper text: no statement is claimed here. -/
import Derived.Test.YtljhpagpohihcaaDoorJo
import Derived.Test.YtljhpagpohihcaaDoorYb
import Derived.Test.YtljhpagpohihcaaDoorYc
namespace Go.Proofs.YtljhpagpohihcaaDoor

theorem putB_bit (m : Mm) (k n : Int) (b : Bool) (h2 : 2 ≤ k) (h5 : k ≤ 5) : (m.putB k n b).bit k n = b := by
  have : k = 2 ∨ k = 3 ∨ k = 4 ∨ k = 5 := by omega
  rcases this with rfl | rfl | rfl | rfl <;> simp [Mm.putB, Mm.turn, Mm.bit, putN_same]
theorem putB_back (m : Mm) (k n : Int) (b : Bool) (h2 : 2 ≤ k) (h5 : k ≤ 5) : (m.putB k n b).putB k n (m.bit k n) = m := by
  have : k = 2 ∨ k = 3 ∨ k = 4 ∨ k = 5 := by omega
  rcases this with rfl | rfl | rfl | rfl <;> simp [Mm.putB, Mm.turn, Mm.bit, putN_back]
theorem putB_whole (m : Mm) (k n : Int) (b : Bool) (k2 n2 : Int) : (m.putB k n b).whole k2 n2 = m.whole k2 n2 := by
  unfold Mm.putB Mm.turn
  repeat' split
  all_goals rfl
theorem putB_far (m : Mm) (k n : Int) (b : Bool) (k2 n2 : Int) (h : k2 = k → plc k n ≠ plc k n2) : (m.putB k n b).bit k2 n2 = m.bit k2 n2 := by
  by_cases h2 : k < 2 ∨ 5 < k
  · rw [putB_none m k n b h2]
  by_cases hk : k2 = k
  · subst hk
    have hp := h rfl
    have q1 := (plc_range k2 n).1
    have q2 := (plc_range k2 n2).1
    have : k2 = 2 ∨ k2 = 3 ∨ k2 = 4 ∨ k2 = 5 := by omega
    rcases this with rfl | rfl | rfl | rfl <;> simp [Mm.putB, Mm.turn, Mm.bit] <;> exact putN_other _ _ _ _ (by omega)
  · have : k = 2 ∨ k = 3 ∨ k = 4 ∨ k = 5 := by omega
    rcases this with rfl | rfl | rfl | rfl <;> simp [Mm.putB, Mm.turn, Mm.bit, hk, Mm.given]
/-- Two operands that are ok and not the same ask for two bits. -/
theorem ok_plc {k n p : Int} (h2 : 2 ≤ k) (h5 : k ≤ 5) (h : okB k n p = true) : plc k n = n ∧ p = 0 := by
  have : k = 2 ∨ k = 3 ∨ k = 4 ∨ k = 5 := by omega
  rcases this with rfl | rfl | rfl | rfl <;> (simp [okB, kz, rN] at h; unfold plc sz4; simp [kz, rN]; omega)
end Go.Proofs.YtljhpagpohihcaaDoor
