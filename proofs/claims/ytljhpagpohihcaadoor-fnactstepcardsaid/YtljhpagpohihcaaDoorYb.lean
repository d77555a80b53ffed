/- The bits that are given, of the program. Helper text: no statement is claimed here. -/
import Derived.Test.YtljhpagpohihcaaDoorYa
import Derived.Test.YtljhpagpohihcaaDoorYd
namespace Go.Proofs.YtljhpagpohihcaaDoor
open Go.ChangeShapes Go.WideShapes Go.ChangeAt Go.RowKit

/-- A given bit. -/
def Mm.given (m : Mm) (q : Nat) : Bool := if q = 0 then true else if q = 2 then !m.ran else if q = 3 then m.fault else if q = 4 then decide (500 ≤ m.time % 1000) else false
/-- The bit that an operand asks for. -/
def Mm.bit (m : Mm) (k n : Int) : Bool :=
  if k = 1 then bitN m.x (plc 1 n).toNat else
  if k = 2 then bitN m.y (plc 2 n).toNat else
  if k = 3 then bitN m.m (plc 3 n).toNat else
  if k = 4 then bitN m.s (plc 4 n).toNat else
  if k = 5 then bitN m.e (plc 5 n).toNat else
  if k = 6 then m.given (plc 6 n).toNat else if k = 7 then m.td (plc 7 n).toNat else if k = 8 then m.cd (plc 8 n).toNat else false
theorem wrap_u32m (n : Nat) (h : n < 4294967296) : IntKind.u32.wrap (n : Int) = n := by rw [IntKind.wrap_u32]; omega
set_option maxHeartbeats 1000000 in
theorem igiven_any (m : Mm) (_hok : m.Ok) (q : Nat) (w : World) (hq : q < 8) :
    Calls Tryd.prog 38 #[m.val, .int .i64 q] w fun e w' => e = .returned (.bool (m.given q)) ∧ Below w.heap.size w w' := by
  have c1 := m.at_time
  have c2 := m.at_ran
  have c3 := m.at_fault
  have hb : Below w.heap.size w (w.alloc (.cells m.cells 37)) := (Below.refl _ _).alloc (Nat.le_refl _) _
  obtain ⟨r, hr⟩ : ∃ r : Nat, r = m.time % 1000 := ⟨_, rfl⟩
  have h1 : (m.time : Int).tmod 1000 = (r : Int) := by rw [Int.tmod_eq_emod_of_nonneg (by omega)]; omega
  have h2 : IntKind.u32.wrap (r : Int) = (r : Int) := wrap_u32m r (by omega)
  have HD : Hid (decide (500 ≤ (r : Int)) = decide (500 ≤ m.time % 1000)) := by
    show _ = _
    rw [← hr]
    by_cases h : 500 ≤ r
    · have : (500 : Int) ≤ (r : Int) := by omega
      simp [h, this]
    · have : ¬ (500 : Int) ≤ (r : Int) := by omega
      simp [h, this]
  have HG4 : Hid (m.given 4 = decide (500 ≤ m.time % 1000)) := rfl
  clear hr _hok
  have : q = 0 ∨ q = 2 ∨ q = 3 ∨ q = 4 ∨ (q ≠ 0 ∧ q ≠ 2 ∧ q ≠ 3 ∧ q ≠ 4) := by omega
  unfold Mm.val
  generalize m.time = tm at *
  rcases this with rfl | rfl | rfl | rfl | ⟨n0, n2, n3, n4⟩
  · go_enter Tryd.func38, Tryd.ntmps38
    go_wp2
    go_ret
    exact ⟨rfl, hb⟩
  · go_enter Tryd.func38, Tryd.ntmps38
    go_wp2
    go_ret
    exact ⟨rfl, hb⟩
  · go_enter Tryd.func38, Tryd.ntmps38
    go_wp2
    go_ret
    exact ⟨rfl, hb⟩
  · go_enter Tryd.func38, Tryd.ntmps38
    go_wp2
    go_ret
    exact ⟨ret_bool4 (HD.out.trans HG4.out.symm), hb⟩
  · have HG : Hid (m.given q = false) := by
      show m.given q = false
      unfold Mm.given
      rw [if_neg n0, if_neg n2, if_neg n3, if_neg n4]
    have k0 : ((q : Int) == 0) = false := by simp only [beq_eq_false_iff_ne, ne_eq]; omega
    have k2 : ((q : Int) == 2) = false := by simp only [beq_eq_false_iff_ne, ne_eq]; omega
    have k3 : ((q : Int) == 3) = false := by simp only [beq_eq_false_iff_ne, ne_eq]; omega
    have k4 : ((q : Int) == 4) = false := by simp only [beq_eq_false_iff_ne, ne_eq]; omega
    clear n0 n2 n3 n4
    go_enter Tryd.func38, Tryd.ntmps38
    go_wp2
    go_ret
    exact ⟨ret_bool4 HG.out.symm, hb⟩
/-- The word in which the bits of a kind are packed. -/
def Mm.packed (m : Mm) (k : Int) : Nat := if k = 1 then m.x else if k = 2 then m.y else if k = 3 then m.m else if k = 4 then m.s else if k = 5 then m.e else 0
theorem packed_lt {m : Mm} (h : m.Ok) (k : Int) : m.packed k < 18446744073709551616 := by
  have h1 : m.x < 4294967296 := h.hx
  have h2 : m.y < 4294967296 := h.hy
  have h3 : m.m < 18446744073709551616 := h.hm
  have h4 : m.s < 65536 := h.hs
  have h5 : m.e < 4294967296 := h.he
  unfold Mm.packed
  repeat' split
  all_goals omega
set_option maxHeartbeats 1000000 in
theorem packed_any (m : Mm) (hok : m.Ok) (k : Int) (w : World) :
    Calls Tryd.prog 39 #[m.val, .int .i64 k] w fun e w' => e = .returned (.int .u64 (m.packed k : Nat)) ∧ Below w.heap.size w w' := by
  have hb : Below w.heap.size w (w.alloc (.cells m.cells 37)) := (Below.refl _ _).alloc (Nat.le_refl _) _
  have c0 := m.at_x
  have c1 := m.at_y
  have c2 := m.at_m
  have c3 := m.at_s
  have c4 := m.at_e
  have h1 : m.x < 4294967296 := hok.hx
  have h2 : m.y < 4294967296 := hok.hy
  have h4 : m.s < 65536 := hok.hs
  have h5 : m.e < 4294967296 := hok.he
  have w1 : IntKind.u64.wrap (m.x : Int) = (m.x : Int) := wrap_u64n _ (by omega)
  have w2 : IntKind.u64.wrap (m.y : Int) = (m.y : Int) := wrap_u64n _ (by omega)
  have w4 : IntKind.u64.wrap (m.s : Int) = (m.s : Int) := wrap_u64n _ (by omega)
  have w5 : IntKind.u64.wrap (m.e : Int) = (m.e : Int) := wrap_u64n _ (by omega)
  clear h1 h2 h4 h5 hok
  unfold Mm.val
  have : k = 1 ∨ k = 2 ∨ k = 3 ∨ k = 4 ∨ k = 5 ∨ (k ≠ 1 ∧ k ≠ 2 ∧ k ≠ 3 ∧ k ≠ 4 ∧ k ≠ 5) := by omega
  rcases this with rfl | rfl | rfl | rfl | rfl | ⟨n1, n2, n3, n4, n5⟩
  case inr.inr.inr.inr.inr =>
    have HG : Hid (m.packed k = 0) := by
      show m.packed k = 0
      unfold Mm.packed
      rw [if_neg n1, if_neg n2, if_neg n3, if_neg n4, if_neg n5]
    have k1 : (k == 1) = false := by simpa using n1
    have k2 : (k == 2) = false := by simpa using n2
    have k3 : (k == 3) = false := by simpa using n3
    have k4 : (k == 4) = false := by simpa using n4
    have k5 : (k == 5) = false := by simpa using n5
    clear n1 n2 n3 n4 n5
    rw [HG.out]
    go_enter Tryd.func39, Tryd.ntmps39
    go_wp2
    go_ret
    exact ⟨rfl, hb⟩
  all_goals
    go_enter Tryd.func39, Tryd.ntmps39
    go_wp2
    go_ret
    exact ⟨rfl, hb⟩
end Go.Proofs.YtljhpagpohihcaaDoor
