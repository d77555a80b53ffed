/- A word with one bit put, the program's. Helper text: no statement is claimed here. -/
import Derived.Test.YtljhpagpohihcaaDoorYd
namespace Go.Proofs.YtljhpagpohihcaaDoor
open Go.ChangeShapes Go.WideShapes Go.ChangeAt Go.RowKit

set_option maxHeartbeats 400000 in
theorem turn_any (W k : Nat) (b : Bool) (w : World) (hW : W < 18446744073709551616) (hk : k < 64) :
    Calls Tryd.prog 66 #[.agg #[.int .i64 k, .bool b], .int .u64 W] w fun e w' => e = .returned (.int .u64 (putN W k b : Nat)) ∧ Below w.heap.size w w' := by
  obtain ⟨P, hP⟩ : ∃ P : Nat, P = 2 ^ k := ⟨_, rfl⟩
  have hPl : P < 18446744073709551616 := by rw [hP]; exact pow_lt64 hk
  have hs : IntKind.u64.wrap (2 ^ k) = (P : Int) := by rw [show (2 : Int) ^ k = ((P : Nat) : Int) by rw [hP, Int.natCast_pow]; rfl, wrap_u64n P hPl]
  have ho : bits .or .u64 (W : Int) (P : Int) = ((putN W k true : Nat) : Int) := by rw [u64_or_nat W P hW hPl, hP, putN_true]
  have ha : bits .andNot .u64 (W : Int) (P : Int) = ((putN W k false : Nat) : Int) := by rw [u64_andNot_nat W P hW hPl, hP, putN_false W k hk hW]
  clear hP hPl
  cases b
  · generalize putN W k false = q0 at *
    go_enter Tryd.func66, Tryd.ntmps66
    go_wp2
    go_ret
    exact ⟨rfl, (Below.refl _ _).alloc (Nat.le_refl _) _⟩
  · generalize putN W k true = q1 at *
    go_enter Tryd.func66, Tryd.ntmps66
    go_wp2
    go_ret
    exact ⟨rfl, (Below.refl _ _).alloc (Nat.le_refl _) _⟩
end Go.Proofs.YtljhpagpohihcaaDoor
