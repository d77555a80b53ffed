/- The bits that are given, of the document. Helper text: no statement is claimed here. -/
import Derived.Test.YtljhpagpohihcaaDoorYb
import Derived.Test.YtljhpagpohihcaaDoorJg
import Derived.Test.YtljhpagpohihcaaDoorJv
namespace Go.Proofs.YtljhpagpohihcaaDoor
open Go.ChangeShapes Go.WideShapes Go.ChangeAt Go.RowKit

set_option maxHeartbeats 1000000 in
theorem sgiven_any (m : Mm) (_hok : m.Ok) (q : Nat) (w : World) (hq : q < 8) :
    Calls Tryd.prog 48 #[m.val, .int .i64 q] w fun e w' => e = .returned (.bool (m.given q)) ∧ Below w.heap.size w w' := by
  have c1 := m.at_time
  have c2 := m.at_ran
  have c3 := m.at_fault
  have hb : Below w.heap.size w (w.alloc (.cells m.cells 37)) := (Below.refl _ _).alloc (Nat.le_refl _) _
  obtain ⟨r, hr⟩ : ∃ r : Nat, r = m.time % 1000 := ⟨_, rfl⟩
  have h1 : (m.time : Int).tmod 1000 = (r : Int) := by rw [Int.tmod_eq_emod_of_nonneg (by omega)]; omega
  have h2 : IntKind.u32.wrap (r : Int) = (r : Int) := wrap_u32m r (by omega)
  have HD : Hid (decide (500 ≤ (r : Int)) = decide (500 ≤ m.time % 1000)) := by
    show _ = _
    rw [← hr]
    by_cases h : 500 ≤ r
    · have : (500 : Int) ≤ (r : Int) := by omega
      simp [h, this]
    · have : ¬ (500 : Int) ≤ (r : Int) := by omega
      simp [h, this]
  have HG4 : Hid (m.given 4 = decide (500 ≤ m.time % 1000)) := rfl
  clear hr _hok
  have : q = 0 ∨ q = 2 ∨ q = 3 ∨ q = 4 ∨ (q ≠ 0 ∧ q ≠ 2 ∧ q ≠ 3 ∧ q ≠ 4) := by omega
  unfold Mm.val
  generalize m.time = tm at *
  rcases this with rfl | rfl | rfl | rfl | ⟨n0, n2, n3, n4⟩
  · go_enter Tryd.func48, Tryd.ntmps48
    go_wp2
    go_ret
    exact ⟨rfl, hb⟩
  · go_enter Tryd.func48, Tryd.ntmps48
    go_wp2
    go_ret
    exact ⟨rfl, hb⟩
  · go_enter Tryd.func48, Tryd.ntmps48
    go_wp2
    go_ret
    exact ⟨rfl, hb⟩
  · go_enter Tryd.func48, Tryd.ntmps48
    go_wp2
    go_ret
    exact ⟨ret_bool4 (HD.out.trans HG4.out.symm), hb⟩
  · have HG : Hid (m.given q = false) := by
      show m.given q = false
      unfold Mm.given
      rw [if_neg n0, if_neg n2, if_neg n3, if_neg n4]
    have k0 : ((q : Int) == 0) = false := by simp only [beq_eq_false_iff_ne, ne_eq]; omega
    have k2 : ((q : Int) == 2) = false := by simp only [beq_eq_false_iff_ne, ne_eq]; omega
    have k3 : ((q : Int) == 3) = false := by simp only [beq_eq_false_iff_ne, ne_eq]; omega
    have k4 : ((q : Int) == 4) = false := by simp only [beq_eq_false_iff_ne, ne_eq]; omega
    clear n0 n2 n3 n4
    go_enter Tryd.func48, Tryd.ntmps48
    go_wp2
    go_ret
    exact ⟨ret_bool4 HG.out.symm, hb⟩
end Go.Proofs.YtljhpagpohihcaaDoor
