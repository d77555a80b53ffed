/- The document's ElemArity, and the sorts of its operands. Helper text: no statement is claimed here. -/
import Derived.Test.YtleopmhllbaalagDoorLd
import Derived.Test.YtleopmhllbaalagDoorDe
import Derived.Test.YtleopmhllbaalagDoorOa
namespace Go.Proofs.YtleopmhllbaalagDoor
open Go.ChangeShapes Go.WideShapes Go.ChangeAt Go.RowKit

set_option maxHeartbeats 4000000 in
theorem sArity_any (op : Int) (w : World) :
    Calls Tryd.prog 23 #[.int .i64 op] w fun e w' => e = .returned (.int .i64 ((fm0 (ez op)).length : Nat)) ∧ w' = w := by
  by_cases h : 0 ≤ op ∧ op < 38
  · have : op = 0 ∨ op = 1 ∨ op = 2 ∨ op = 3 ∨ op = 4 ∨ op = 5 ∨ op = 6 ∨ op = 7 ∨ op = 8 ∨ op = 9 ∨ op = 10 ∨ op = 11 ∨ op = 12 ∨ op = 13 ∨ op = 14 ∨ op = 15 ∨ op = 16 ∨ op = 17 ∨ op = 18 ∨ op = 19 ∨ op = 20 ∨ op = 21 ∨ op = 22 ∨ op = 23 ∨ op = 24 ∨ op = 25 ∨ op = 26 ∨ op = 27 ∨ op = 28 ∨ op = 29 ∨ op = 30 ∨ op = 31 ∨ op = 32 ∨ op = 33 ∨ op = 34 ∨ op = 35 ∨ op = 36 ∨ op = 37 := by omega
    rcases this with rfl | rfl | rfl | rfl | rfl | rfl | rfl | rfl | rfl | rfl | rfl | rfl | rfl | rfl | rfl | rfl | rfl | rfl | rfl | rfl | rfl | rfl | rfl | rfl | rfl | rfl | rfl | rfl | rfl | rfl | rfl | rfl | rfl | rfl | rfl | rfl | rfl | rfl
    all_goals
      go_enter Tryd.func23, Tryd.ntmps23
      go_wp2
      go_ret
      exact ⟨rfl, rfl⟩
  · rw [ez_no op (by omega)]
    have n1 : (op == 1) = false := by simp; omega
    have n2 : (op == 2) = false := by simp; omega
    have n21 : (op == 21) = false := by simp; omega
    have n22 : (op == 22) = false := by simp; omega
    have n23 : (op == 23) = false := by simp; omega
    have n25 : (op == 25) = false := by simp; omega
    have n31 : (op == 31) = false := by simp; omega
    have n32 : (op == 32) = false := by simp; omega
    have n33 : (op == 33) = false := by simp; omega
    have n34 : (op == 34) = false := by simp; omega
    have n35 : (op == 35) = false := by simp; omega
    by_cases h1 : op < 0
    · have h2 : ¬ 1 ≤ op := by omega
      have h3 : ¬ 21 ≤ op := by omega
      go_enter Tryd.func23, Tryd.ntmps23
      go_wp2
      go_ret
      exact ⟨rfl, rfl⟩
    · have h2 : 1 ≤ op := by omega
      have h3 : 21 ≤ op := by omega
      have h4 : ¬ op ≤ 10 := by omega
      have h5 : ¬ op ≤ 37 := by omega
      go_enter Tryd.func23, Tryd.ntmps23
      go_wp2
      go_ret
      exact ⟨rfl, rfl⟩

set_option maxHeartbeats 1000000 in
theorem sIsReal_any (k n p : Int) (w : World) :
    Calls Tryd.prog 26 #[.agg #[.int .i64 k, .int .i64 n, .int .i64 p]] w fun e w' => e = .returned (.bool (isR k n p)) ∧ Below w.heap.size w w' := by
  cases hok : okB k n p
  · rw [show isR k n p = false by simp [isR, hok]]
    have hk : Hid (okB k n p = false) := hok
    clear hok
    go_enter Tryd.func26, Tryd.ntmps26
    go_wp2_with fail
    refine (sOk_any _ _ _ _).mono ?_
    rintro e w' ⟨rfl, hb⟩
    rw [hk.out]
    go_wp2
    go_ret
    exact ⟨rfl, of_one hb⟩
  · rw [show isR k n p = rR (kz k) by simp [isR, hok]]
    have hk : Hid (okB k n p = true) := hok
    rcases kinds (okB_kind hok) with rfl | rfl | rfl | rfl | rfl | rfl | rfl | rfl | rfl | rfl | rfl | rfl | rfl
    all_goals
      clear hok
      go_enter Tryd.func26, Tryd.ntmps26
      go_wp2_with fail
      refine (sOk_any _ _ _ _).mono ?_
      rintro e w' ⟨rfl, hb⟩
      rw [hk.out]
      obtain ⟨hc, hf⟩ := bcell hb
      go_wp2
      go_ret
      exact ⟨rfl, of_one hb⟩

/-- An operand that is ok and of one of two kinds. -/
def k2B (x y k n p : Int) : Bool := okB k n p && (k == x || k == y)

set_option maxHeartbeats 1000000 in
theorem kind2_any (x y k n p : Int) (w : World) :
    Calls Tryd.prog 24 #[.agg #[.int .i64 k, .int .i64 n, .int .i64 p], .int .i64 x, .int .i64 y] w fun e w' => e = .returned (.bool (k2B x y k n p)) ∧ Below w.heap.size w w' := by
  cases hok : okB k n p
  · rw [show k2B x y k n p = false by simp [k2B, hok]]
    have hk : Hid (okB k n p = false) := hok
    clear hok
    go_enter Tryd.func24, Tryd.ntmps24
    go_wp2_with fail
    refine (sOk_any _ _ _ _).mono ?_
    rintro e w' ⟨rfl, hb⟩
    rw [hk.out]
    go_wp2
    go_ret
    exact ⟨rfl, of_one hb⟩
  · rw [show k2B x y k n p = (k == x || k == y) by simp [k2B, hok]]
    have hk : Hid (okB k n p = true) := hok
    clear hok
    cases hx : k == x
    all_goals
      go_enter Tryd.func24, Tryd.ntmps24
      go_wp2_with fail
      refine (sOk_any _ _ _ _).mono ?_
      rintro e w' ⟨rfl, hb⟩
      rw [hk.out]
      have HB : Hid (Below w.heap.size w w') := of_one hb
      obtain ⟨hc, hf⟩ := bcell hb
      go_wp2
      go_ret
      exact ⟨rfl, HB.out⟩
end Go.Proofs.YtleopmhllbaalagDoor
