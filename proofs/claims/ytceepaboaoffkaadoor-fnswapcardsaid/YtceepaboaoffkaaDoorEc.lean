/- The tests' tables: the opposite of a test, and its other side. Helper text: no statement is claimed here. -/
import Derived.Test.YtceepaboaoffkaaDoorEb
import Derived.Test.YtceepaboaoffkaaDoorEa
import Derived.Test.YtceepaboaoffkaaDoorEn
import Derived.Test.YtceepaboaoffkaaDoorFm
namespace Go.Proofs.YtceepaboaoffkaaDoor
open Go.ChangeShapes Go.WideShapes Go.ChangeAt Go.RowKit Fl

theorem six {i : Nat} (h1 : 1 ≤ i) (h2 : i ≤ 6) : i = 1 ∨ i = 2 ∨ i = 3 ∨ i = 4 ∨ i = 5 ∨ i = 6 := by omega
theorem dec_not {p q : Prop} [Decidable p] [Decidable q] (h : p ↔ ¬ q) : decide p = !decide q := by
  by_cases hq : q <;> simp [h, hq]
/-- The opposite of a test: on the table, and as a truth. -/
def Flips (i j : Nat) : Prop := qF i = (j : Int) ∧ 1 ≤ j ∧ j ≤ 6 ∧ (∀ a b, wT j a b = !wT i a b) ∧ (∀ x y o, ord x y = some o → rT j x y = !rT i x y) ∧ (∀ x y, ord x y = none → rT i x y = ((i : Int) == 4))
theorem flips_at {i : Nat} (h1 : 1 ≤ i) (h2 : i ≤ 6) : ∃ j, Flips i j := by
  rcases six h1 h2 with rfl | rfl | rfl | rfl | rfl | rfl
  · exact ⟨5, rfl, by omega, by omega, fun a b => dec_not (by omega), fun x y o h => by simp only [rT, h]; cases o <;> rfl, fun x y h => by simp only [rT, h]; rfl⟩
  · exact ⟨6, rfl, by omega, by omega, fun a b => dec_not (by omega), fun x y o h => by simp only [rT, h]; cases o <;> rfl, fun x y h => by simp only [rT, h]; rfl⟩
  · exact ⟨4, rfl, by omega, by omega, fun a b => by simp [wT, bne], fun x y o h => by simp only [rT, h]; cases o <;> rfl, fun x y h => by simp only [rT, h]; rfl⟩
  · exact ⟨3, rfl, by omega, by omega, fun a b => by simp [wT, bne], fun x y o h => by simp only [rT, h]; cases o <;> rfl, fun x y h => by simp only [rT, h]; rfl⟩
  · exact ⟨1, rfl, by omega, by omega, fun a b => dec_not (by omega), fun x y o h => by simp only [rT, h]; cases o <;> rfl, fun x y h => by simp only [rT, h]; rfl⟩
  · exact ⟨2, rfl, by omega, by omega, fun a b => dec_not (by omega), fun x y o h => by simp only [rT, h]; cases o <;> rfl, fun x y h => by simp only [rT, h]; rfl⟩
/-- The other side of a test. -/
def Swaps (i j : Nat) : Prop := qS i = (j : Int) ∧ qS j = (i : Int) ∧ 1 ≤ j ∧ j ≤ 6 ∧ (∀ a b, wT j b a = wT i a b) ∧ (∀ x y o, ord x y = some o → ord y x = some o.swap → rT j y x = rT i x y) ∧ (∀ x y, ord x y = none → ord y x = none → rT j y x = rT i x y)
theorem swaps_at {i : Nat} (h1 : 1 ≤ i) (h2 : i ≤ 6) : ∃ j, Swaps i j := by
  rcases six h1 h2 with rfl | rfl | rfl | rfl | rfl | rfl
  · exact ⟨6, rfl, rfl, by omega, by omega, fun a b => rfl, fun x y o h h' => by simp only [rT, h, h']; cases o <;> rfl, fun x y h h' => by simp only [rT, h, h']; rfl⟩
  · exact ⟨5, rfl, rfl, by omega, by omega, fun a b => rfl, fun x y o h h' => by simp only [rT, h, h']; cases o <;> rfl, fun x y h h' => by simp only [rT, h, h']; rfl⟩
  · exact ⟨3, rfl, rfl, by omega, by omega, fun a b => BEq.comm, fun x y o h h' => by simp only [rT, h, h']; cases o <;> rfl, fun x y h h' => by simp only [rT, h, h']⟩
  · exact ⟨4, rfl, rfl, by omega, by omega, fun a b => bne_comm, fun x y o h h' => by simp only [rT, h, h']; cases o <;> rfl, fun x y h h' => by simp only [rT, h, h']⟩
  · exact ⟨2, rfl, rfl, by omega, by omega, fun a b => rfl, fun x y o h h' => by simp only [rT, h, h']; cases o <;> rfl, fun x y h h' => by simp only [rT, h, h']; rfl⟩
  · exact ⟨1, rfl, rfl, by omega, by omega, fun a b => rfl, fun x y o h h' => by simp only [rT, h, h']; cases o <;> rfl, fun x y h h' => by simp only [rT, h, h']; rfl⟩

set_option maxHeartbeats 400000 in
theorem sflip_any (i : Nat) (w : World) (h1 : 1 ≤ i) (h2 : i ≤ 6) :
    Calls Tryd.prog 10 #[.int .i64 (i : Int)] w fun e w' => e = .returned (.int .i64 (qF i)) ∧ Below w.heap.size w w' := by
  rcases six h1 h2 with rfl | rfl | rfl | rfl | rfl | rfl
  all_goals
    go_enter Tryd.func10, Tryd.ntmps10
    go_wp2
    go_ret
    exact ⟨rfl, (Below.refl _ _).alloc (Nat.le_refl _) _⟩
set_option maxHeartbeats 400000 in
theorem sswap_any (i : Nat) (w : World) (h1 : 1 ≤ i) (h2 : i ≤ 6) :
    Calls Tryd.prog 14 #[.int .i64 (i : Int)] w fun e w' => e = .returned (.int .i64 (qS i)) ∧ w' = w := by
  rcases six h1 h2 with rfl | rfl | rfl | rfl | rfl | rfl
  all_goals
    go_enter Tryd.func14, Tryd.ntmps14
    go_wp2
    go_ret
    exact ⟨rfl, rfl⟩
end Go.Proofs.YtceepaboaoffkaaDoor
