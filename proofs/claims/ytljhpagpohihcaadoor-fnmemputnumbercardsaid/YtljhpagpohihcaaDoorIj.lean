/- Registers put and got: mathematics. Helper text: no statement is claimed here. -/
import Derived.Test.YtljhpagpohihcaaDoorYc
import Derived.Test.YtljhpagpohihcaaDoorYe
import Derived.Test.YtljhpagpohihcaaDoorYf
namespace Go.Proofs.YtljhpagpohihcaaDoor
open Go.ChangeShapes Go.WideShapes Go.ChangeAt Go.RowKit

theorem putD_no (m : Mm) (k n v : Int) (h : k ≠ 9) : m.putD k n v = m := by unfold Mm.putD; rw [if_neg h]
theorem putD_whole (m : Mm) (n v : Int) : (m.putD 9 n v).whole 9 n = v := by simp [Mm.putD, Mm.whole]
theorem putD_back (m : Mm) (n v : Int) : (m.putD 9 n v).putD 9 n (m.whole 9 n) = m := by
  have h : (fun i => if i = (plc 9 n).toNat then m.d (plc 9 n).toNat else if i = (plc 9 n).toNat then v else m.d i) = m.d := by
    funext i
    by_cases e : i = (plc 9 n).toNat
    · rw [if_pos e, e]
    · rw [if_neg e, if_neg e]
  simp [Mm.putD, Mm.whole, h]
theorem putD_ok {m : Mm} {k n v : Int} (h : m.Ok) (h0 : -32768 ≤ v) (h1 : v ≤ 32767) : (m.putD k n v).Ok := by
  unfold Mm.putD
  split
  · have q : ∀ i, -32768 ≤ (if i = (plc 9 n).toNat then v else m.d i) ∧ (if i = (plc 9 n).toNat then v else m.d i) ≤ 32767 := fun i => by
      split
      · exact ⟨h0, h1⟩
      · exact h.hd i
    exact { h with hd := q }
  · exact h
theorem putR_no (m : Mm) (k n : Int) (v : Nat) (h : k ≠ 10) : m.putR k n v = m := by unfold Mm.putR; rw [if_neg h]
theorem putR_back (m : Mm) (n : Int) (v : Nat) : (m.putR 10 n v).putR 10 n (m.r (plc 10 n).toNat) = m := by
  have h : (fun i => if i = (plc 10 n).toNat then m.r (plc 10 n).toNat else if i = (plc 10 n).toNat then v else m.r i) = m.r := by
    funext i
    by_cases e : i = (plc 10 n).toNat
    · rw [if_pos e, e]
    · rw [if_neg e, if_neg e]
  simp [Mm.putR, h]
theorem putR_ok {m : Mm} {k n : Int} {v : Nat} (h : m.Ok) (h0 : v < 2 ^ 64) : (m.putR k n v).Ok := by
  unfold Mm.putR
  split
  · have q : ∀ i, (if i = (plc 10 n).toNat then v else m.r i) < 2 ^ 64 := fun i => by
      split
      · exact h0
      · exact h.hr i
    exact { h with hr := q }
  · exact h
end Go.Proofs.YtljhpagpohihcaaDoor
