/- What the walks of the exact laws of trees share. Helper text: no statement is claimed here. -/
import Derived.Test.YtkkkjhlbkmcjiaaQg
import Derived.Test.YtkkkjhlbkmcjiaaQk
import Derived.Test.YtkkkjhlbkmcjiaaQm
namespace Go.Proofs.Ytkkkjhlbkmcjiaa.Tr
open Go.ChangeShapes Go.WideShapes Go.ChangeAt Go.RowKit

theorem Old.lt {w : World} : ∀ b, Old w b → b < w.heap.size := fun _ h => h
/-- A copy of a ladder that came in. -/
theorem copy_any (K n : Nat) (ts : List (AT K n)) (p : Option Addr) (cap : Nat) (w W : World) (hV : SlOf (Old w) (AmE (Old w) w K n) 6 p cap ts) (hz : zAs K n ts ≤ 1048576) (hW : Below w.heap.size w W) :
    Calls Try.prog 8 #[.slice p ts.length cap] W fun r w' => ∃ p', r = .returned (.slice p' ts.length ts.length) ∧ Below W.heap.size W w' ∧ SlOf (Old w') (AmE (Old w') w' K n) 6 p' ts.length ts :=
  (toArms_any (S := Old w) (fun _ hb => Nat.lt_of_lt_of_le hb hW.size) K n (toArm_any K n) p cap ts (arms_to (Keep.of hW (fun _ h => h)) (fun _ h => h) hV) hz).mono fun _ _ ⟨p', h1, h2, h3⟩ => ⟨p', h1, h2, arms_to (fun _ _ => rfl) (fun _ hb => hb.2) h3⟩
theorem old_to {K n : Nat} {ts : List (AT K n)} {p : Option Addr} {cap : Nat} {w w' : World} (h : SlOf (Old w) (AmE (Old w) w K n) 6 p cap ts) (hb : Below w.heap.size w w') : SlOf (Old w') (AmE (Old w') w' K n) 6 p cap ts :=
  arms_to (Keep.of hb (fun _ h => h)) (fun _ hb' => Nat.lt_of_lt_of_le hb' hb.size) h
theorem sz_top (K n : Nat) (ts : List (AT K n)) (p : Option Addr) (cap : Nat) (w : World) (hV : SlOf (Old w) (AmE (Old w) w K n) 6 p cap ts) (left : Int) (h0 : 0 ≤ left) (h1 : left ≤ 1048576) :
    Calls Try.prog 6 #[.slice p ts.length cap, .int .i64 left] w fun r w' => r = .returned (.int .i64 (szR left (zAs K n ts))) ∧ Below w.heap.size w w' :=
  szArms_any (S := Old w) (fun _ h => h) K n (szArm_any K n) p cap ts hV left h0 h1
end Go.Proofs.Ytkkkjhlbkmcjiaa.Tr
