/- The drawing of real numbers: word, l2Nan, l2Inf, l2Real. Helper text: no statement is claimed here. -/
import Derived.Test.YtedobjegolpbjaaDoorRv
import Derived.Test.YtedobjegolpbjaaDoorCa
namespace Go.Proofs.YtedobjegolpbjaaDoor
open Go.ChangeShapes Go.WideShapes Go.ChangeAt Go.RowKit Fl

theorem run_somR {op : BinOp} {x y r : Nat} (h : floatBits op .f64 x y = some r) (t : TypeId) (w : World) : (binOp op t (.float .f64 x) (.float .f64 y)).run Tryd.prog w = .ok (.float .f64 r) w := run_float_arith w op t .f64 x y r h
theorem bits_ltR {o : BinOp} {x y r : Nat} (h : floatBits o .f64 x y = some r) : r < 2 ^ 64 := by
  have := floatBits_wf h
  simpa [Lit.wf] using this
/-- Whatever is reckoned of two real numbers: something comes, and nothing else has turned. -/
theorem run_real (op : BinOp) (ho : arith op) (x y : Nat) (w : World) : ∃ (r : Nat) (w' : World), (binOp op 26 (.float .f64 x) (.float .f64 y)).run Tryd.prog w = .ok (.float .f64 r) w' ∧ r < 2 ^ 64 ∧ w'.heap = w.heap ∧ Below w.heap.size w w' := by
  cases h : floatBits op .f64 x y with
  | some r => exact ⟨r, w, run_somR h _ w, bits_ltR h, rfl, Below.refl _ _⟩
  | none =>
    obtain ⟨r, hr, hn, hl⟩ := run_nan op ho 26 x y w h
    exact ⟨r, drewW w, hr, hl, rfl, drewW_below (Below.refl _ _)⟩
def DrawnR (rb m : Nat) (w : World) (e : Ending) (w' : World) : Prop := ∃ x : Nat, e = .returned (.float .f64 x) ∧ x < 2 ^ 64 ∧ Rd w' rb m ∧ Step rb w w'
def IsNanR (w : World) (e : Ending) (w' : World) : Prop := ∃ r, e = .returned (.float .f64 r) ∧ nan r ∧ r < 2 ^ 64 ∧ Below w.heap.size w w'
set_option maxHeartbeats 400000 in
theorem nanR_any (w : World) : Calls Tryd.prog 30 #[] w (IsNanR w) := by
  obtain ⟨r, hr, hn, hl⟩ := run_nan .quo (by simp [arith]) 26 0 0 w (by rfl)
  go_enter Tryd.func30, Tryd.ntmps30
  go_wp2
  go_ret
  exact ⟨r, rfl, hn, hl, drewW_below (Below.refl _ _)⟩
set_option maxHeartbeats 400000 in
theorem infR_any (w : World) : Calls Tryd.prog 31 #[] w fun e w' => e = .returned (.float .f64 (wi false)) ∧ w' = w := by
  have h := run_somR (show floatBits .quo .f64 4607182418800017408 0 = some (wi false) from one_by_zero false)
  go_enter Tryd.func31, Tryd.ntmps31
  go_wp2
  go_ret
  exact ⟨rfl, rfl⟩
theorem u64_in (n : Int) : 0 ≤ IntKind.u64.wrap n ∧ IntKind.u64.wrap n < 18446744073709551616 := by
  have e : IntKind.u64.wrap n = n % 18446744073709551616 := by simp [IntKind.wrap, IntKind.bits, IntKind.signed]
  rw [e]; omega
set_option maxHeartbeats 400000 in
theorem word_any (rb m : Nat) (w : World) (hr : Rd w rb m) (hm : m ≤ 10000) :
    Calls Tryd.prog 34 #[.pointer (some ⟨rb, 0, none⟩)] w fun e w' => ∃ v : Int, e = .returned (.int .u64 v) ∧ 0 ≤ v ∧ v < 18446744073709551616 ∧ Rd w' rb (m + 8) ∧ Step rb w w' := by
  go_enter Tryd.func34, Tryd.ntmps34
  go_wp2
  go_loopw [3, 4] (fun x c w' => ∃ (v : Int) (j : Nat), j ≤ 8 ∧ x = .int .u64 v ∧ c = .int .i64 (j : Int) ∧ 0 ≤ v ∧ v < 18446744073709551616 ∧ Rd w' rb (m + j) ∧ Step rb w w') (fun _ c _ => 8 - (intOf c).toNat)
  case atStart => exact ⟨0, 0, by omega, rfl, rfl, by omega, by omega, hr, Step.refl _ _⟩
  case round =>
    obtain ⟨v, j, hj, rfl, rfl, v0, v1, hr1, st1⟩ := hrel
    by_cases hlt : j < 8
    · have hlt' : (j : Int) < 8 := by omega
      go_wp2_with fail
      refine (pick_any rb (m + j) 256 _ (by omega) hr1 (by omega)).mono ?_
      rintro e w2 ⟨u, rfl, u0, u1, -, hr2, st2⟩
      have u1 : u < 256 := u1 (by omega)
      go_wp2
      exact ⟨⟨_, j + 1, by omega, rfl, by go_num, (u64_in _).1, (u64_in _).2, hr2, st1.trans st2⟩, by simp [intOf]; omega⟩
    · have hlt' : ¬ (j : Int) < 8 := by omega
      go_wp2
      go_ret
      exact ⟨v, rfl, v0, v1, hr1.mono (by omega), st1⟩
end Go.Proofs.YtedobjegolpbjaaDoor
