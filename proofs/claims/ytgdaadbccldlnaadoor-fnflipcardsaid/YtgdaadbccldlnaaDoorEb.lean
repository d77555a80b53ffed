/- The six tests of two numbers, whole and real ones. Helper text: no statement is claimed here. -/
import Derived.Test.YtgdaadbccldlnaaDoorEa
import Derived.Test.YtgdaadbccldlnaaDoorFd
import Derived.WalkSmall
import Derived.WalkLawsBesides
namespace Go.Proofs.YtgdaadbccldlnaaDoor
open Go.ChangeShapes Go.WideShapes Go.ChangeAt Go.RowKit Fl

theorem store_func (P : Program) (w : World) (a : Addr) (f : Fn) (x y : Array Value) (m : Mode) : (store a (.func f x y) m).run P w = stored P w a (.func f x y) m := run_store P w a _ m rfl
theorem store_nilFunc (P : Program) (w : World) (a : Addr) (m : Mode) : (store a .nilFunc m).run P w = stored P w a .nilFunc m := run_store P w a _ m rfl
attribute [local go_sem] store_func store_nilFunc

/-- What a test says of two whole numbers. -/
def wT : Nat → Int → Int → Bool
  | 1, a, b => decide (a < b) | 2, a, b => decide (a ≤ b) | 3, a, b => a == b | 4, a, b => a != b | 5, a, b => decide (b ≤ a) | _, a, b => decide (b < a)
/-- What a test says of two real numbers. -/
def rT : Nat → Nat → Nat → Bool
  | 1, x, y => ord x y == some .lt | 2, x, y => ord x y == some .lt || ord x y == some .eq | 3, x, y => ord x y == some .eq | 4, x, y => ord x y != some .eq
  | 5, x, y => ord x y == some .gt || ord x y == some .eq | _, x, y => ord x y == some .gt

theorem hold_w1 (a b : Int) (w : World) :
    Calls Tryd.prog 77 #[.int .i16 a, .int .i16 b] w fun e w' => e = .returned (.bool (wT 1 a b)) ∧ w' = w := by
  go_enter Tryd.func77, Tryd.ntmps77
  go_wp2
  go_ret
  exact ⟨rfl, rfl⟩
set_option maxHeartbeats 400000 in
theorem holds_w1 (a b : Int) (w : World) :
    Calls Tryd.prog 59 #[.int .i64 1, .int .i16 a, .int .i16 b] w fun e w' => e = .returned (.bool (wT 1 a b)) ∧ Below w.heap.size w w' := by
  go_enter Tryd.func59, Tryd.ntmps59
  go_wp2_with fail
  refine (cmpIs_any 1 _ (by omega) (by omega)).mono ?_
  rintro e w' ⟨rfl, rfl⟩
  go_wp2_with fail
  refine (hold_w1 a b _).mono ?_
  rintro e w' ⟨rfl, rfl⟩
  go_wp2
  go_ret
  exact ⟨rfl, (Below.refl _ _).alloc (Nat.le_refl _) _⟩

theorem hold_w2 (a b : Int) (w : World) :
    Calls Tryd.prog 78 #[.int .i16 a, .int .i16 b] w fun e w' => e = .returned (.bool (wT 2 a b)) ∧ w' = w := by
  go_enter Tryd.func78, Tryd.ntmps78
  go_wp2
  go_ret
  exact ⟨rfl, rfl⟩
set_option maxHeartbeats 400000 in
theorem holds_w2 (a b : Int) (w : World) :
    Calls Tryd.prog 59 #[.int .i64 2, .int .i16 a, .int .i16 b] w fun e w' => e = .returned (.bool (wT 2 a b)) ∧ Below w.heap.size w w' := by
  go_enter Tryd.func59, Tryd.ntmps59
  go_wp2_with fail
  refine (cmpIs_any 2 _ (by omega) (by omega)).mono ?_
  rintro e w' ⟨rfl, rfl⟩
  go_wp2_with fail
  refine (hold_w2 a b _).mono ?_
  rintro e w' ⟨rfl, rfl⟩
  go_wp2
  go_ret
  exact ⟨rfl, (Below.refl _ _).alloc (Nat.le_refl _) _⟩

theorem hold_w3 (a b : Int) (w : World) :
    Calls Tryd.prog 79 #[.int .i16 a, .int .i16 b] w fun e w' => e = .returned (.bool (wT 3 a b)) ∧ w' = w := by
  go_enter Tryd.func79, Tryd.ntmps79
  go_wp2
  go_ret
  exact ⟨rfl, rfl⟩
set_option maxHeartbeats 400000 in
theorem holds_w3 (a b : Int) (w : World) :
    Calls Tryd.prog 59 #[.int .i64 3, .int .i16 a, .int .i16 b] w fun e w' => e = .returned (.bool (wT 3 a b)) ∧ Below w.heap.size w w' := by
  go_enter Tryd.func59, Tryd.ntmps59
  go_wp2_with fail
  refine (cmpIs_any 3 _ (by omega) (by omega)).mono ?_
  rintro e w' ⟨rfl, rfl⟩
  go_wp2_with fail
  refine (hold_w3 a b _).mono ?_
  rintro e w' ⟨rfl, rfl⟩
  go_wp2
  go_ret
  exact ⟨rfl, (Below.refl _ _).alloc (Nat.le_refl _) _⟩

theorem hold_w4 (a b : Int) (w : World) :
    Calls Tryd.prog 80 #[.int .i16 a, .int .i16 b] w fun e w' => e = .returned (.bool (wT 4 a b)) ∧ w' = w := by
  go_enter Tryd.func80, Tryd.ntmps80
  go_wp2
  go_ret
  exact ⟨rfl, rfl⟩
set_option maxHeartbeats 400000 in
theorem holds_w4 (a b : Int) (w : World) :
    Calls Tryd.prog 59 #[.int .i64 4, .int .i16 a, .int .i16 b] w fun e w' => e = .returned (.bool (wT 4 a b)) ∧ Below w.heap.size w w' := by
  go_enter Tryd.func59, Tryd.ntmps59
  go_wp2_with fail
  refine (cmpIs_any 4 _ (by omega) (by omega)).mono ?_
  rintro e w' ⟨rfl, rfl⟩
  go_wp2_with fail
  refine (hold_w4 a b _).mono ?_
  rintro e w' ⟨rfl, rfl⟩
  go_wp2
  go_ret
  exact ⟨rfl, (Below.refl _ _).alloc (Nat.le_refl _) _⟩

theorem hold_w5 (a b : Int) (w : World) :
    Calls Tryd.prog 81 #[.int .i16 a, .int .i16 b] w fun e w' => e = .returned (.bool (wT 5 a b)) ∧ w' = w := by
  go_enter Tryd.func81, Tryd.ntmps81
  go_wp2
  go_ret
  exact ⟨rfl, rfl⟩
set_option maxHeartbeats 400000 in
theorem holds_w5 (a b : Int) (w : World) :
    Calls Tryd.prog 59 #[.int .i64 5, .int .i16 a, .int .i16 b] w fun e w' => e = .returned (.bool (wT 5 a b)) ∧ Below w.heap.size w w' := by
  go_enter Tryd.func59, Tryd.ntmps59
  go_wp2_with fail
  refine (cmpIs_any 5 _ (by omega) (by omega)).mono ?_
  rintro e w' ⟨rfl, rfl⟩
  go_wp2_with fail
  refine (hold_w5 a b _).mono ?_
  rintro e w' ⟨rfl, rfl⟩
  go_wp2
  go_ret
  exact ⟨rfl, (Below.refl _ _).alloc (Nat.le_refl _) _⟩

theorem hold_w6 (a b : Int) (w : World) :
    Calls Tryd.prog 82 #[.int .i16 a, .int .i16 b] w fun e w' => e = .returned (.bool (wT 6 a b)) ∧ w' = w := by
  go_enter Tryd.func82, Tryd.ntmps82
  go_wp2
  go_ret
  exact ⟨rfl, rfl⟩
set_option maxHeartbeats 400000 in
theorem holds_w6 (a b : Int) (w : World) :
    Calls Tryd.prog 59 #[.int .i64 6, .int .i16 a, .int .i16 b] w fun e w' => e = .returned (.bool (wT 6 a b)) ∧ Below w.heap.size w w' := by
  go_enter Tryd.func59, Tryd.ntmps59
  go_wp2_with fail
  refine (cmpIs_any 6 _ (by omega) (by omega)).mono ?_
  rintro e w' ⟨rfl, rfl⟩
  go_wp2_with fail
  refine (hold_w6 a b _).mono ?_
  rintro e w' ⟨rfl, rfl⟩
  go_wp2
  go_ret
  exact ⟨rfl, (Below.refl _ _).alloc (Nat.le_refl _) _⟩

theorem hold_r1 (a b : Nat) (w : World) :
    Calls Tryd.prog 83 #[.float .f64 a, .float .f64 b] w fun e w' => e = .returned (.bool (rT 1 a b)) ∧ w' = w := by
  go_enter Tryd.func83, Tryd.ntmps83
  go_wp2
  go_ret
  exact ⟨rfl, rfl⟩
set_option maxHeartbeats 400000 in
theorem holds_r1 (a b : Nat) (w : World) :
    Calls Tryd.prog 60 #[.int .i64 1, .float .f64 a, .float .f64 b] w fun e w' => e = .returned (.bool (rT 1 a b)) ∧ Below w.heap.size w w' := by
  go_enter Tryd.func60, Tryd.ntmps60
  go_wp2_with fail
  refine (cmpIs_any 1 _ (by omega) (by omega)).mono ?_
  rintro e w' ⟨rfl, rfl⟩
  go_wp2_with fail
  refine (hold_r1 a b _).mono ?_
  rintro e w' ⟨rfl, rfl⟩
  go_wp2
  go_ret
  exact ⟨rfl, (Below.refl _ _).alloc (Nat.le_refl _) _⟩

theorem hold_r2 (a b : Nat) (w : World) :
    Calls Tryd.prog 84 #[.float .f64 a, .float .f64 b] w fun e w' => e = .returned (.bool (rT 2 a b)) ∧ w' = w := by
  go_enter Tryd.func84, Tryd.ntmps84
  go_wp2
  go_ret
  exact ⟨rfl, rfl⟩
set_option maxHeartbeats 400000 in
theorem holds_r2 (a b : Nat) (w : World) :
    Calls Tryd.prog 60 #[.int .i64 2, .float .f64 a, .float .f64 b] w fun e w' => e = .returned (.bool (rT 2 a b)) ∧ Below w.heap.size w w' := by
  go_enter Tryd.func60, Tryd.ntmps60
  go_wp2_with fail
  refine (cmpIs_any 2 _ (by omega) (by omega)).mono ?_
  rintro e w' ⟨rfl, rfl⟩
  go_wp2_with fail
  refine (hold_r2 a b _).mono ?_
  rintro e w' ⟨rfl, rfl⟩
  go_wp2
  go_ret
  exact ⟨rfl, (Below.refl _ _).alloc (Nat.le_refl _) _⟩

theorem hold_r3 (a b : Nat) (w : World) :
    Calls Tryd.prog 85 #[.float .f64 a, .float .f64 b] w fun e w' => e = .returned (.bool (rT 3 a b)) ∧ w' = w := by
  go_enter Tryd.func85, Tryd.ntmps85
  go_wp2
  go_ret
  exact ⟨rfl, rfl⟩
set_option maxHeartbeats 400000 in
theorem holds_r3 (a b : Nat) (w : World) :
    Calls Tryd.prog 60 #[.int .i64 3, .float .f64 a, .float .f64 b] w fun e w' => e = .returned (.bool (rT 3 a b)) ∧ Below w.heap.size w w' := by
  go_enter Tryd.func60, Tryd.ntmps60
  go_wp2_with fail
  refine (cmpIs_any 3 _ (by omega) (by omega)).mono ?_
  rintro e w' ⟨rfl, rfl⟩
  go_wp2_with fail
  refine (hold_r3 a b _).mono ?_
  rintro e w' ⟨rfl, rfl⟩
  go_wp2
  go_ret
  exact ⟨rfl, (Below.refl _ _).alloc (Nat.le_refl _) _⟩

theorem hold_r4 (a b : Nat) (w : World) :
    Calls Tryd.prog 86 #[.float .f64 a, .float .f64 b] w fun e w' => e = .returned (.bool (rT 4 a b)) ∧ w' = w := by
  go_enter Tryd.func86, Tryd.ntmps86
  go_wp2
  go_ret
  exact ⟨rfl, rfl⟩
set_option maxHeartbeats 400000 in
theorem holds_r4 (a b : Nat) (w : World) :
    Calls Tryd.prog 60 #[.int .i64 4, .float .f64 a, .float .f64 b] w fun e w' => e = .returned (.bool (rT 4 a b)) ∧ Below w.heap.size w w' := by
  go_enter Tryd.func60, Tryd.ntmps60
  go_wp2_with fail
  refine (cmpIs_any 4 _ (by omega) (by omega)).mono ?_
  rintro e w' ⟨rfl, rfl⟩
  go_wp2_with fail
  refine (hold_r4 a b _).mono ?_
  rintro e w' ⟨rfl, rfl⟩
  go_wp2
  go_ret
  exact ⟨rfl, (Below.refl _ _).alloc (Nat.le_refl _) _⟩

theorem hold_r5 (a b : Nat) (w : World) :
    Calls Tryd.prog 87 #[.float .f64 a, .float .f64 b] w fun e w' => e = .returned (.bool (rT 5 a b)) ∧ w' = w := by
  go_enter Tryd.func87, Tryd.ntmps87
  go_wp2
  go_ret
  exact ⟨rfl, rfl⟩
set_option maxHeartbeats 400000 in
theorem holds_r5 (a b : Nat) (w : World) :
    Calls Tryd.prog 60 #[.int .i64 5, .float .f64 a, .float .f64 b] w fun e w' => e = .returned (.bool (rT 5 a b)) ∧ Below w.heap.size w w' := by
  go_enter Tryd.func60, Tryd.ntmps60
  go_wp2_with fail
  refine (cmpIs_any 5 _ (by omega) (by omega)).mono ?_
  rintro e w' ⟨rfl, rfl⟩
  go_wp2_with fail
  refine (hold_r5 a b _).mono ?_
  rintro e w' ⟨rfl, rfl⟩
  go_wp2
  go_ret
  exact ⟨rfl, (Below.refl _ _).alloc (Nat.le_refl _) _⟩

theorem hold_r6 (a b : Nat) (w : World) :
    Calls Tryd.prog 88 #[.float .f64 a, .float .f64 b] w fun e w' => e = .returned (.bool (rT 6 a b)) ∧ w' = w := by
  go_enter Tryd.func88, Tryd.ntmps88
  go_wp2
  go_ret
  exact ⟨rfl, rfl⟩
set_option maxHeartbeats 400000 in
theorem holds_r6 (a b : Nat) (w : World) :
    Calls Tryd.prog 60 #[.int .i64 6, .float .f64 a, .float .f64 b] w fun e w' => e = .returned (.bool (rT 6 a b)) ∧ Below w.heap.size w w' := by
  go_enter Tryd.func60, Tryd.ntmps60
  go_wp2_with fail
  refine (cmpIs_any 6 _ (by omega) (by omega)).mono ?_
  rintro e w' ⟨rfl, rfl⟩
  go_wp2_with fail
  refine (hold_r6 a b _).mono ?_
  rintro e w' ⟨rfl, rfl⟩
  go_wp2
  go_ret
  exact ⟨rfl, (Below.refl _ _).alloc (Nat.le_refl _) _⟩

theorem wcmp_any (i : Nat) (a b : Int) (w : World) (h1 : 1 ≤ i) (h2 : i ≤ 6) :
    Calls Tryd.prog 28 #[.int .i64 (i : Int), .int .i16 a, .int .i16 b] w fun e w' => e = .returned (.bool (wT i a b)) ∧ Below w.heap.size w w' := by
  have hh : ∀ w0 : World, Calls Tryd.prog 59 #[.int .i64 (i : Int), .int .i16 a, .int .i16 b] w0 fun e w' => e = .returned (.bool (wT i a b)) ∧ Below w0.heap.size w0 w' := by
    intro w0
    have : i = 1 ∨ i = 2 ∨ i = 3 ∨ i = 4 ∨ i = 5 ∨ i = 6 := by omega
    rcases this with rfl | rfl | rfl | rfl | rfl | rfl
    · exact holds_w1 a b w0
    · exact holds_w2 a b w0
    · exact holds_w3 a b w0
    · exact holds_w4 a b w0
    · exact holds_w5 a b w0
    · exact holds_w6 a b w0
  go_enter Tryd.func28, Tryd.ntmps28
  go_wp2_with fail
  refine (hh _).mono ?_
  rintro e w' ⟨rfl, hb⟩
  go_wp2
  go_ret
  exact ⟨rfl, hb⟩

theorem rcmp_any (i : Nat) (a b : Nat) (w : World) (h1 : 1 ≤ i) (h2 : i ≤ 6) :
    Calls Tryd.prog 29 #[.int .i64 (i : Int), .float .f64 a, .float .f64 b] w fun e w' => e = .returned (.bool (rT i a b)) ∧ Below w.heap.size w w' := by
  have hh : ∀ w0 : World, Calls Tryd.prog 60 #[.int .i64 (i : Int), .float .f64 a, .float .f64 b] w0 fun e w' => e = .returned (.bool (rT i a b)) ∧ Below w0.heap.size w0 w' := by
    intro w0
    have : i = 1 ∨ i = 2 ∨ i = 3 ∨ i = 4 ∨ i = 5 ∨ i = 6 := by omega
    rcases this with rfl | rfl | rfl | rfl | rfl | rfl
    · exact holds_r1 a b w0
    · exact holds_r2 a b w0
    · exact holds_r3 a b w0
    · exact holds_r4 a b w0
    · exact holds_r5 a b w0
    · exact holds_r6 a b w0
  go_enter Tryd.func29, Tryd.ntmps29
  go_wp2_with fail
  refine (hh _).mono ?_
  rintro e w' ⟨rfl, hb⟩
  go_wp2
  go_ret
  exact ⟨rfl, hb⟩
end Go.Proofs.YtgdaadbccldlnaaDoor
