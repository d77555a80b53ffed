/- The six tests of two numbers, whole and real ones. Helper text: no statement is claimed here. -/
import Derived.Test.YtceepaboaoffkaaDoorEi
import Derived.Test.YtceepaboaoffkaaDoorFd
import Derived.WalkSmall
import Derived.WalkLawsBesides
namespace Go.Proofs.YtceepaboaoffkaaDoor
open Go.ChangeShapes Go.WideShapes Go.ChangeAt Go.RowKit Fl

theorem store_func (P : Program) (w : World) (a : Addr) (f : Fn) (x y : Array Value) (m : Mode) : (store a (.func f x y) m).run P w = stored P w a (.func f x y) m := run_store P w a _ m rfl
theorem store_nilFunc (P : Program) (w : World) (a : Addr) (m : Mode) : (store a .nilFunc m).run P w = stored P w a .nilFunc m := run_store P w a _ m rfl
attribute [local go_sem] store_func store_nilFunc

/-- What a test says of two whole numbers. -/
def wT : Nat → Int → Int → Bool
  | 1, a, b => decide (a < b) | 2, a, b => decide (a ≤ b) | 3, a, b => a == b | 4, a, b => a != b | 5, a, b => decide (b ≤ a) | _, a, b => decide (b < a)
/-- What a test says of two real numbers. -/
def rT : Nat → Nat → Nat → Bool
  | 1, x, y => ord x y == some .lt | 2, x, y => ord x y == some .lt || ord x y == some .eq | 3, x, y => ord x y == some .eq | 4, x, y => ord x y != some .eq
  | 5, x, y => ord x y == some .gt || ord x y == some .eq | _, x, y => ord x y == some .gt

theorem hold_w1 (a b : Int) (w : World) :
    Calls Tryd.prog 51 #[.int .i16 a, .int .i16 b] w fun e w' => e = .returned (.bool (wT 1 a b)) ∧ w' = w := by
  go_enter Tryd.func51, Tryd.ntmps51
  go_wp2
  go_ret
  exact ⟨rfl, rfl⟩
set_option maxHeartbeats 400000 in
theorem holds_w1 (a b : Int) (w : World) :
    Calls Tryd.prog 32 #[.int .i64 1, .int .i16 a, .int .i16 b] w fun e w' => e = .returned (.bool (wT 1 a b)) ∧ Below w.heap.size w w' := by
  go_enter Tryd.func32, Tryd.ntmps32
  go_wp2_with fail
  refine (cmpIs_any 1 _ (by omega) (by omega)).mono ?_
  rintro e w' ⟨rfl, rfl⟩
  go_wp2_with fail
  refine (hold_w1 a b _).mono ?_
  rintro e w' ⟨rfl, rfl⟩
  go_wp2
  go_ret
  exact ⟨rfl, (Below.refl _ _).alloc (Nat.le_refl _) _⟩

theorem hold_w2 (a b : Int) (w : World) :
    Calls Tryd.prog 52 #[.int .i16 a, .int .i16 b] w fun e w' => e = .returned (.bool (wT 2 a b)) ∧ w' = w := by
  go_enter Tryd.func52, Tryd.ntmps52
  go_wp2
  go_ret
  exact ⟨rfl, rfl⟩
set_option maxHeartbeats 400000 in
theorem holds_w2 (a b : Int) (w : World) :
    Calls Tryd.prog 32 #[.int .i64 2, .int .i16 a, .int .i16 b] w fun e w' => e = .returned (.bool (wT 2 a b)) ∧ Below w.heap.size w w' := by
  go_enter Tryd.func32, Tryd.ntmps32
  go_wp2_with fail
  refine (cmpIs_any 2 _ (by omega) (by omega)).mono ?_
  rintro e w' ⟨rfl, rfl⟩
  go_wp2_with fail
  refine (hold_w2 a b _).mono ?_
  rintro e w' ⟨rfl, rfl⟩
  go_wp2
  go_ret
  exact ⟨rfl, (Below.refl _ _).alloc (Nat.le_refl _) _⟩

theorem hold_w3 (a b : Int) (w : World) :
    Calls Tryd.prog 53 #[.int .i16 a, .int .i16 b] w fun e w' => e = .returned (.bool (wT 3 a b)) ∧ w' = w := by
  go_enter Tryd.func53, Tryd.ntmps53
  go_wp2
  go_ret
  exact ⟨rfl, rfl⟩
set_option maxHeartbeats 400000 in
theorem holds_w3 (a b : Int) (w : World) :
    Calls Tryd.prog 32 #[.int .i64 3, .int .i16 a, .int .i16 b] w fun e w' => e = .returned (.bool (wT 3 a b)) ∧ Below w.heap.size w w' := by
  go_enter Tryd.func32, Tryd.ntmps32
  go_wp2_with fail
  refine (cmpIs_any 3 _ (by omega) (by omega)).mono ?_
  rintro e w' ⟨rfl, rfl⟩
  go_wp2_with fail
  refine (hold_w3 a b _).mono ?_
  rintro e w' ⟨rfl, rfl⟩
  go_wp2
  go_ret
  exact ⟨rfl, (Below.refl _ _).alloc (Nat.le_refl _) _⟩

theorem hold_w4 (a b : Int) (w : World) :
    Calls Tryd.prog 54 #[.int .i16 a, .int .i16 b] w fun e w' => e = .returned (.bool (wT 4 a b)) ∧ w' = w := by
  go_enter Tryd.func54, Tryd.ntmps54
  go_wp2
  go_ret
  exact ⟨rfl, rfl⟩
set_option maxHeartbeats 400000 in
theorem holds_w4 (a b : Int) (w : World) :
    Calls Tryd.prog 32 #[.int .i64 4, .int .i16 a, .int .i16 b] w fun e w' => e = .returned (.bool (wT 4 a b)) ∧ Below w.heap.size w w' := by
  go_enter Tryd.func32, Tryd.ntmps32
  go_wp2_with fail
  refine (cmpIs_any 4 _ (by omega) (by omega)).mono ?_
  rintro e w' ⟨rfl, rfl⟩
  go_wp2_with fail
  refine (hold_w4 a b _).mono ?_
  rintro e w' ⟨rfl, rfl⟩
  go_wp2
  go_ret
  exact ⟨rfl, (Below.refl _ _).alloc (Nat.le_refl _) _⟩

theorem hold_w5 (a b : Int) (w : World) :
    Calls Tryd.prog 55 #[.int .i16 a, .int .i16 b] w fun e w' => e = .returned (.bool (wT 5 a b)) ∧ w' = w := by
  go_enter Tryd.func55, Tryd.ntmps55
  go_wp2
  go_ret
  exact ⟨rfl, rfl⟩
set_option maxHeartbeats 400000 in
theorem holds_w5 (a b : Int) (w : World) :
    Calls Tryd.prog 32 #[.int .i64 5, .int .i16 a, .int .i16 b] w fun e w' => e = .returned (.bool (wT 5 a b)) ∧ Below w.heap.size w w' := by
  go_enter Tryd.func32, Tryd.ntmps32
  go_wp2_with fail
  refine (cmpIs_any 5 _ (by omega) (by omega)).mono ?_
  rintro e w' ⟨rfl, rfl⟩
  go_wp2_with fail
  refine (hold_w5 a b _).mono ?_
  rintro e w' ⟨rfl, rfl⟩
  go_wp2
  go_ret
  exact ⟨rfl, (Below.refl _ _).alloc (Nat.le_refl _) _⟩

theorem hold_w6 (a b : Int) (w : World) :
    Calls Tryd.prog 56 #[.int .i16 a, .int .i16 b] w fun e w' => e = .returned (.bool (wT 6 a b)) ∧ w' = w := by
  go_enter Tryd.func56, Tryd.ntmps56
  go_wp2
  go_ret
  exact ⟨rfl, rfl⟩
set_option maxHeartbeats 400000 in
theorem holds_w6 (a b : Int) (w : World) :
    Calls Tryd.prog 32 #[.int .i64 6, .int .i16 a, .int .i16 b] w fun e w' => e = .returned (.bool (wT 6 a b)) ∧ Below w.heap.size w w' := by
  go_enter Tryd.func32, Tryd.ntmps32
  go_wp2_with fail
  refine (cmpIs_any 6 _ (by omega) (by omega)).mono ?_
  rintro e w' ⟨rfl, rfl⟩
  go_wp2_with fail
  refine (hold_w6 a b _).mono ?_
  rintro e w' ⟨rfl, rfl⟩
  go_wp2
  go_ret
  exact ⟨rfl, (Below.refl _ _).alloc (Nat.le_refl _) _⟩

theorem hold_r1 (a b : Nat) (w : World) :
    Calls Tryd.prog 57 #[.float .f64 a, .float .f64 b] w fun e w' => e = .returned (.bool (rT 1 a b)) ∧ w' = w := by
  go_enter Tryd.func57, Tryd.ntmps57
  go_wp2
  go_ret
  exact ⟨rfl, rfl⟩
set_option maxHeartbeats 400000 in
theorem holds_r1 (a b : Nat) (w : World) :
    Calls Tryd.prog 33 #[.int .i64 1, .float .f64 a, .float .f64 b] w fun e w' => e = .returned (.bool (rT 1 a b)) ∧ Below w.heap.size w w' := by
  go_enter Tryd.func33, Tryd.ntmps33
  go_wp2_with fail
  refine (cmpIs_any 1 _ (by omega) (by omega)).mono ?_
  rintro e w' ⟨rfl, rfl⟩
  go_wp2_with fail
  refine (hold_r1 a b _).mono ?_
  rintro e w' ⟨rfl, rfl⟩
  go_wp2
  go_ret
  exact ⟨rfl, (Below.refl _ _).alloc (Nat.le_refl _) _⟩

theorem hold_r2 (a b : Nat) (w : World) :
    Calls Tryd.prog 58 #[.float .f64 a, .float .f64 b] w fun e w' => e = .returned (.bool (rT 2 a b)) ∧ w' = w := by
  go_enter Tryd.func58, Tryd.ntmps58
  go_wp2
  go_ret
  exact ⟨rfl, rfl⟩
set_option maxHeartbeats 400000 in
theorem holds_r2 (a b : Nat) (w : World) :
    Calls Tryd.prog 33 #[.int .i64 2, .float .f64 a, .float .f64 b] w fun e w' => e = .returned (.bool (rT 2 a b)) ∧ Below w.heap.size w w' := by
  go_enter Tryd.func33, Tryd.ntmps33
  go_wp2_with fail
  refine (cmpIs_any 2 _ (by omega) (by omega)).mono ?_
  rintro e w' ⟨rfl, rfl⟩
  go_wp2_with fail
  refine (hold_r2 a b _).mono ?_
  rintro e w' ⟨rfl, rfl⟩
  go_wp2
  go_ret
  exact ⟨rfl, (Below.refl _ _).alloc (Nat.le_refl _) _⟩

theorem hold_r3 (a b : Nat) (w : World) :
    Calls Tryd.prog 59 #[.float .f64 a, .float .f64 b] w fun e w' => e = .returned (.bool (rT 3 a b)) ∧ w' = w := by
  go_enter Tryd.func59, Tryd.ntmps59
  go_wp2
  go_ret
  exact ⟨rfl, rfl⟩
set_option maxHeartbeats 400000 in
theorem holds_r3 (a b : Nat) (w : World) :
    Calls Tryd.prog 33 #[.int .i64 3, .float .f64 a, .float .f64 b] w fun e w' => e = .returned (.bool (rT 3 a b)) ∧ Below w.heap.size w w' := by
  go_enter Tryd.func33, Tryd.ntmps33
  go_wp2_with fail
  refine (cmpIs_any 3 _ (by omega) (by omega)).mono ?_
  rintro e w' ⟨rfl, rfl⟩
  go_wp2_with fail
  refine (hold_r3 a b _).mono ?_
  rintro e w' ⟨rfl, rfl⟩
  go_wp2
  go_ret
  exact ⟨rfl, (Below.refl _ _).alloc (Nat.le_refl _) _⟩

theorem hold_r4 (a b : Nat) (w : World) :
    Calls Tryd.prog 60 #[.float .f64 a, .float .f64 b] w fun e w' => e = .returned (.bool (rT 4 a b)) ∧ w' = w := by
  go_enter Tryd.func60, Tryd.ntmps60
  go_wp2
  go_ret
  exact ⟨rfl, rfl⟩
set_option maxHeartbeats 400000 in
theorem holds_r4 (a b : Nat) (w : World) :
    Calls Tryd.prog 33 #[.int .i64 4, .float .f64 a, .float .f64 b] w fun e w' => e = .returned (.bool (rT 4 a b)) ∧ Below w.heap.size w w' := by
  go_enter Tryd.func33, Tryd.ntmps33
  go_wp2_with fail
  refine (cmpIs_any 4 _ (by omega) (by omega)).mono ?_
  rintro e w' ⟨rfl, rfl⟩
  go_wp2_with fail
  refine (hold_r4 a b _).mono ?_
  rintro e w' ⟨rfl, rfl⟩
  go_wp2
  go_ret
  exact ⟨rfl, (Below.refl _ _).alloc (Nat.le_refl _) _⟩

theorem hold_r5 (a b : Nat) (w : World) :
    Calls Tryd.prog 61 #[.float .f64 a, .float .f64 b] w fun e w' => e = .returned (.bool (rT 5 a b)) ∧ w' = w := by
  go_enter Tryd.func61, Tryd.ntmps61
  go_wp2
  go_ret
  exact ⟨rfl, rfl⟩
set_option maxHeartbeats 400000 in
theorem holds_r5 (a b : Nat) (w : World) :
    Calls Tryd.prog 33 #[.int .i64 5, .float .f64 a, .float .f64 b] w fun e w' => e = .returned (.bool (rT 5 a b)) ∧ Below w.heap.size w w' := by
  go_enter Tryd.func33, Tryd.ntmps33
  go_wp2_with fail
  refine (cmpIs_any 5 _ (by omega) (by omega)).mono ?_
  rintro e w' ⟨rfl, rfl⟩
  go_wp2_with fail
  refine (hold_r5 a b _).mono ?_
  rintro e w' ⟨rfl, rfl⟩
  go_wp2
  go_ret
  exact ⟨rfl, (Below.refl _ _).alloc (Nat.le_refl _) _⟩

theorem hold_r6 (a b : Nat) (w : World) :
    Calls Tryd.prog 62 #[.float .f64 a, .float .f64 b] w fun e w' => e = .returned (.bool (rT 6 a b)) ∧ w' = w := by
  go_enter Tryd.func62, Tryd.ntmps62
  go_wp2
  go_ret
  exact ⟨rfl, rfl⟩
set_option maxHeartbeats 400000 in
theorem holds_r6 (a b : Nat) (w : World) :
    Calls Tryd.prog 33 #[.int .i64 6, .float .f64 a, .float .f64 b] w fun e w' => e = .returned (.bool (rT 6 a b)) ∧ Below w.heap.size w w' := by
  go_enter Tryd.func33, Tryd.ntmps33
  go_wp2_with fail
  refine (cmpIs_any 6 _ (by omega) (by omega)).mono ?_
  rintro e w' ⟨rfl, rfl⟩
  go_wp2_with fail
  refine (hold_r6 a b _).mono ?_
  rintro e w' ⟨rfl, rfl⟩
  go_wp2
  go_ret
  exact ⟨rfl, (Below.refl _ _).alloc (Nat.le_refl _) _⟩

theorem wcmp_any (i : Nat) (a b : Int) (w : World) (h1 : 1 ≤ i) (h2 : i ≤ 6) :
    Calls Tryd.prog 11 #[.int .i64 (i : Int), .int .i16 a, .int .i16 b] w fun e w' => e = .returned (.bool (wT i a b)) ∧ Below w.heap.size w w' := by
  have hh : ∀ w0 : World, Calls Tryd.prog 32 #[.int .i64 (i : Int), .int .i16 a, .int .i16 b] w0 fun e w' => e = .returned (.bool (wT i a b)) ∧ Below w0.heap.size w0 w' := by
    intro w0
    have : i = 1 ∨ i = 2 ∨ i = 3 ∨ i = 4 ∨ i = 5 ∨ i = 6 := by omega
    rcases this with rfl | rfl | rfl | rfl | rfl | rfl
    · exact holds_w1 a b w0
    · exact holds_w2 a b w0
    · exact holds_w3 a b w0
    · exact holds_w4 a b w0
    · exact holds_w5 a b w0
    · exact holds_w6 a b w0
  go_enter Tryd.func11, Tryd.ntmps11
  go_wp2_with fail
  refine (hh _).mono ?_
  rintro e w' ⟨rfl, hb⟩
  go_wp2
  go_ret
  exact ⟨rfl, hb⟩

theorem rcmp_any (i : Nat) (a b : Nat) (w : World) (h1 : 1 ≤ i) (h2 : i ≤ 6) :
    Calls Tryd.prog 12 #[.int .i64 (i : Int), .float .f64 a, .float .f64 b] w fun e w' => e = .returned (.bool (rT i a b)) ∧ Below w.heap.size w w' := by
  have hh : ∀ w0 : World, Calls Tryd.prog 33 #[.int .i64 (i : Int), .float .f64 a, .float .f64 b] w0 fun e w' => e = .returned (.bool (rT i a b)) ∧ Below w0.heap.size w0 w' := by
    intro w0
    have : i = 1 ∨ i = 2 ∨ i = 3 ∨ i = 4 ∨ i = 5 ∨ i = 6 := by omega
    rcases this with rfl | rfl | rfl | rfl | rfl | rfl
    · exact holds_r1 a b w0
    · exact holds_r2 a b w0
    · exact holds_r3 a b w0
    · exact holds_r4 a b w0
    · exact holds_r5 a b w0
    · exact holds_r6 a b w0
  go_enter Tryd.func12, Tryd.ntmps12
  go_wp2_with fail
  refine (hh _).mono ?_
  rintro e w' ⟨rfl, hb⟩
  go_wp2
  go_ret
  exact ⟨rfl, hb⟩
end Go.Proofs.YtceepaboaoffkaaDoor
