/- Reckoning with whole numbers: WholeCalc of the program. Helper text: no statement is claimed here. -/
import Derived.Test.YtgdaadbccldlnaaRows
import Derived.WalkKit
import Derived.ProofKit
import Derived.OpenShut
import Derived.Below
import Derived.WalkSmall
namespace Go.Proofs.Ytgdaadbccldlnaa
open Go.ChangeShapes Go.WideShapes Go.ChangeAt Go.RowKit

/-- Counted round to 16 bits. -/
def w16 (n : Int) : Int := (n + 32768) % 65536 - 32768
/-- What is reckoned of two whole numbers. -/
def wcN (op a b : Int) : Int :=
  if op = 1 then w16 (a + b) else if op = 2 then w16 (a - b) else if op = 3 then w16 (a * b) else if b = 0 then 0 else if op = 4 then w16 (a.tdiv b) else if op = 5 then w16 (a.tmod b) else 0
def wcB (op b : Int) : Bool := decide (op = 1 ∨ op = 2 ∨ op = 3 ∨ (b ≠ 0 ∧ (op = 4 ∨ op = 5)))

theorem mul_bd {a b : Int} (ha : -32768 ≤ a) (ha2 : a ≤ 32767) (hb : -32768 ≤ b) (hb2 : b ≤ 32767) : -1073741824 ≤ a * b ∧ a * b ≤ 1073741824 := by
  have h : (a * b).natAbs ≤ 32768 * 32768 := by
    rw [Int.natAbs_mul]
    exact Nat.mul_le_mul (by omega) (by omega)
  omega
theorem tdiv_bd {a : Int} (b : Int) (ha : -32768 ≤ a) (ha2 : a ≤ 32767) : -32768 ≤ a.tdiv b ∧ a.tdiv b ≤ 32768 := by
  have h : (a.tdiv b).natAbs ≤ a.natAbs := by
    rw [Int.natAbs_tdiv]; exact Nat.div_le_self _ _
  omega
theorem tmod_bd {a : Int} (b : Int) (ha : -32768 ≤ a) (ha2 : a ≤ 32767) : -32768 ≤ a.tmod b ∧ a.tmod b ≤ 32767 := by
  have h : (a.tmod b).natAbs ≤ a.natAbs := by
    rw [Int.natAbs_tmod]; exact Nat.mod_le _ _
  have h2 : a ≤ 0 → a.tmod b ≤ 0 := fun h => by
    have := Int.tmod_nonneg b (show 0 ≤ -a by omega)
    rw [Int.neg_tmod] at this; omega
  omega
theorem ops (op : Int) : op = 1 ∨ op = 2 ∨ op = 3 ∨ op = 4 ∨ op = 5 ∨ ((op == 1) = false ∧ (op == 2) = false ∧ (op == 3) = false ∧ (op == 4) = false ∧ (op == 5) = false) := by
  simp only [beq_eq_false_iff_ne]
  omega

theorem w16_wrap (n : Int) : IntKind.i16.wrap n = w16 n := by
  unfold w16
  simp [IntKind.wrap, IntKind.bits, IntKind.signed]
  split <;> omega

theorem ret_cal {a b : Int} {x y : Bool} (h : a = b) (k : x = y) : Ending.returned (.tuple #[.int .i16 a, .bool x]) = .returned (.tuple #[.int .i16 b, .bool y]) := by rw [h, k]

theorem post_cal {fn : Func} {t u : Tmp} {tmps : Array Value} {w W : World} {a b : Int} {x y : Bool} (h : fn.results = #[.tmp t, .tmp u]) (h1 : tmps.getD t undef = .int .i16 a) (h2 : tmps.getD u undef = .bool x) (k1 : a = b) (k2 : x = y) (hw : W = w) :
    (results fn tmps).run Try.prog W = .ok (.tuple #[.int .i16 b, .bool y]) w := by
  subst k1 k2 hw
  rw [results_tmp2 h, h1, h2]

set_option maxHeartbeats 400000 in
theorem calc_1 (a b : Int) (w : World) (ha : -32768 ≤ a) (ha2 : a ≤ 32767) (hb : -32768 ≤ b) (hb2 : b ≤ 32767) :
    Calls Try.prog 5 #[.int .i64 1, .int .i16 a, .int .i16 b] w fun e w' => e = .returned (.tuple #[.int .i16 (w16 (a + b)), .bool true]) ∧ w' = w := by
  go_enter Try.func5, Try.ntmps5
  go_wp2
  exact bodyPost_ret (v := .tuple #[.int .i16 _, .bool true]) (post_cal Try.results5 rfl rfl (by first | rw [w16_wrap] | (unfold w16; omega)) rfl rfl) rfl ⟨rfl, rfl⟩
set_option maxHeartbeats 400000 in
theorem calc_2 (a b : Int) (w : World) (ha : -32768 ≤ a) (ha2 : a ≤ 32767) (hb : -32768 ≤ b) (hb2 : b ≤ 32767) :
    Calls Try.prog 5 #[.int .i64 2, .int .i16 a, .int .i16 b] w fun e w' => e = .returned (.tuple #[.int .i16 (w16 (a - b)), .bool true]) ∧ w' = w := by
  go_enter Try.func5, Try.ntmps5
  go_wp2
  exact bodyPost_ret (v := .tuple #[.int .i16 _, .bool true]) (post_cal Try.results5 rfl rfl (by first | rw [w16_wrap] | (unfold w16; omega)) rfl rfl) rfl ⟨rfl, rfl⟩
set_option maxHeartbeats 400000 in
theorem calc_3 (a b : Int) (w : World) (ha : -32768 ≤ a) (ha2 : a ≤ 32767) (hb : -32768 ≤ b) (hb2 : b ≤ 32767) :
    Calls Try.prog 5 #[.int .i64 3, .int .i16 a, .int .i16 b] w fun e w' => e = .returned (.tuple #[.int .i16 (w16 (a * b)), .bool true]) ∧ w' = w := by
  have ⟨m1, m2⟩ := mul_bd ha ha2 hb hb2
  go_enter Try.func5, Try.ntmps5
  go_wp2
  exact bodyPost_ret (v := .tuple #[.int .i16 _, .bool true]) (post_cal Try.results5 rfl rfl (by first | rw [w16_wrap] | (unfold w16; omega)) rfl rfl) rfl ⟨rfl, rfl⟩
set_option maxHeartbeats 400000 in
theorem calc_4 (a b : Int) (w : World) (ha : -32768 ≤ a) (ha2 : a ≤ 32767) (hb : -32768 ≤ b) (hb2 : b ≤ 32767) (h0 : (b == 0) = false) (h0' : (b != 0) = true) :
    Calls Try.prog 5 #[.int .i64 4, .int .i16 a, .int .i16 b] w fun e w' => e = .returned (.tuple #[.int .i16 (w16 (a.tdiv b)), .bool true]) ∧ w' = w := by
  have ⟨m1, m2⟩ := tdiv_bd b ha ha2
  go_enter Try.func5, Try.ntmps5
  go_wp2
  · rename_i hz; simp [hz] at h0
  exact bodyPost_ret (v := .tuple #[.int .i16 _, .bool true]) (post_cal Try.results5 rfl rfl (by first | rw [w16_wrap] | (unfold w16; omega)) rfl rfl) rfl ⟨rfl, rfl⟩
set_option maxHeartbeats 400000 in
theorem calc_5 (a b : Int) (w : World) (ha : -32768 ≤ a) (ha2 : a ≤ 32767) (hb : -32768 ≤ b) (hb2 : b ≤ 32767) (h0 : (b == 0) = false) (h0' : (b != 0) = true) :
    Calls Try.prog 5 #[.int .i64 5, .int .i16 a, .int .i16 b] w fun e w' => e = .returned (.tuple #[.int .i16 (w16 (a.tmod b)), .bool true]) ∧ w' = w := by
  have ⟨m1, m2⟩ := tmod_bd b ha ha2
  go_enter Try.func5, Try.ntmps5
  go_wp2
  · rename_i hz; simp [hz] at h0
  exact bodyPost_ret (v := .tuple #[.int .i16 _, .bool true]) (post_cal Try.results5 rfl rfl (by first | rw [w16_wrap] | (unfold w16; omega)) rfl rfl) rfl ⟨rfl, rfl⟩
set_option maxHeartbeats 400000 in
theorem calc_40 (a : Int) (w : World) (ha : -32768 ≤ a) (ha2 : a ≤ 32767) :
    Calls Try.prog 5 #[.int .i64 4, .int .i16 a, .int .i16 0] w fun e w' => e = .returned (.tuple #[.int .i16 0, .bool false]) ∧ w' = w := by
  go_enter Try.func5, Try.ntmps5
  go_wp2
  exact bodyPost_ret (v := .tuple #[.int .i16 _, .bool false]) (post_cal Try.results5 rfl rfl rfl rfl rfl) rfl ⟨rfl, rfl⟩
set_option maxHeartbeats 400000 in
theorem calc_50 (a : Int) (w : World) (ha : -32768 ≤ a) (ha2 : a ≤ 32767) :
    Calls Try.prog 5 #[.int .i64 5, .int .i16 a, .int .i16 0] w fun e w' => e = .returned (.tuple #[.int .i16 0, .bool false]) ∧ w' = w := by
  go_enter Try.func5, Try.ntmps5
  go_wp2
  exact bodyPost_ret (v := .tuple #[.int .i16 _, .bool false]) (post_cal Try.results5 rfl rfl rfl rfl rfl) rfl ⟨rfl, rfl⟩
set_option maxHeartbeats 400000 in
theorem calc_no (op a b : Int) (w : World) (ha : -32768 ≤ a) (ha2 : a ≤ 32767) (hb : -32768 ≤ b) (hb2 : b ≤ 32767) (h1 : (op == 1) = false) (h2 : (op == 2) = false) (h3 : (op == 3) = false) (h4 : (op == 4) = false) (h5 : (op == 5) = false) :
    Calls Try.prog 5 #[.int .i64 op, .int .i16 a, .int .i16 b] w fun e w' => e = .returned (.tuple #[.int .i16 0, .bool false]) ∧ w' = w := by
  go_enter Try.func5, Try.ntmps5
  go_wp2
  exact bodyPost_ret (v := .tuple #[.int .i16 _, .bool false]) (post_cal Try.results5 rfl rfl rfl rfl rfl) rfl ⟨rfl, rfl⟩

theorem calc_any (op a b : Int) (w : World) (ha : -32768 ≤ a) (ha2 : a ≤ 32767) (hb : -32768 ≤ b) (hb2 : b ≤ 32767) :
    Calls Try.prog 5 #[.int .i64 op, .int .i16 a, .int .i16 b] w fun e w' => e = .returned (.tuple #[.int .i16 (wcN op a b), .bool (wcB op b)]) ∧ w' = w := by
  rcases ops op with rfl | rfl | rfl | rfl | rfl | ⟨h1, h2, h3, h4, h5⟩
  · exact calc_1 a b w ha ha2 hb hb2
  · exact calc_2 a b w ha ha2 hb hb2
  · exact calc_3 a b w ha ha2 hb hb2
  · by_cases h : b = 0
    · subst h; exact calc_40 a w ha ha2
    · rw [show wcN 4 a b = w16 (a.tdiv b) by simp [wcN, h], show wcB 4 b = true by simp [wcB, h]]
      exact calc_4 a b w ha ha2 hb hb2 (by simpa using h) (by simpa using h)
  · by_cases h : b = 0
    · subst h; exact calc_50 a w ha ha2
    · rw [show wcN 5 a b = w16 (a.tmod b) by simp [wcN, h], show wcB 5 b = true by simp [wcB, h]]
      exact calc_5 a b w ha ha2 hb hb2 (by simpa using h) (by simpa using h)
  · have e := calc_no op a b w ha ha2 hb hb2 h1 h2 h3 h4 h5
    simp only [beq_eq_false_iff_ne] at h1 h2 h3 h4 h5
    rw [show wcN op a b = 0 by simp [wcN, h1, h2, h3, h4, h5], show wcB op b = false by simp [wcB, h1, h2, h3, h4, h5]]
    exact e
end Go.Proofs.Ytgdaadbccldlnaa
