/- A memory is the same as itself: the program's MemSame. Helper text: no statement is claimed here. -/
import Derived.Test.YtljhpagpohihcaaDoorIa
import Derived.Test.YtljhpagpohihcaaDoorCq
import Derived.Lib.QuietBelow
import Derived.BigQuiet
namespace Go.Proofs.YtljhpagpohihcaaDoor
open Go.ChangeShapes Go.WideShapes Go.ChangeAt Go.RowKit Fl

theorem one_wd : 4607182418800017408 = wd false 4503599627370496 1022 := by decide
theorem one_sc : Sc 4503599627370496 1022 := ⟨by decide, .inr (by decide)⟩
theorem one_by_inf (s : Bool) : Go.floatBits .quo .f64 4607182418800017408 (wi s) = some (wd s 0 0) := by cases s <;> decide +kernel
theorem one_by {x : Nat} (hx : x < 2 ^ 64) (hn : ¬ nan x) : ∃ r, Go.floatBits .quo .f64 4607182418800017408 x = some r ∧ r < 2 ^ 64 ∧ ¬ nan r := by
  rcases cases_wd hx with ⟨s, m, k, hs, hk, rfl⟩ | ⟨s, rfl⟩ | h
  · by_cases h0 : m = 0
    · have e : wd s m k = wd s 0 0 := by
        subst h0
        rcases hs.hk with rfl | h
        · rfl
        · omega
      rw [e]
      exact ⟨_, one_by_zero s, wi_lt s, not_nan_wi s⟩
    · have := quo_some one_sc (by omega) hs hk false s (by omega)
      rwa [← one_wd] at this
  · exact ⟨_, one_by_inf s, wd_lt sc00 (by omega) s, not_nan_wd sc00 (by omega) s⟩
  · exact absurd h hn
theorem eq_selfI {x : Nat} (h : x < 2 ^ 64) (hn : ¬ nan x) : (ord x x == some .eq) = true := by
  simp only [ord, Go.FloatKind.format, order_self h hn]; rfl
theorem neq_selfI {x : Nat} (h : x < 2 ^ 64) (hn : ¬ nan x) : (ord x x != some .eq) = false := by
  simp only [ord, Go.FloatKind.format, order_self h hn]; rfl
set_option maxHeartbeats 400000 in
theorem sameReal_self (x : Nat) (w : World) (hx : x < 2 ^ 64) :
    Calls Tryd.prog 67 #[.float .f64 x, .float .f64 x] w fun e w' => e = .returned (.bool true) ∧ w' = w := by
  by_cases hn : nan x
  · have h1 := (asks_nan hn).n
    clear hn
    go_enter Tryd.func67, Tryd.ntmps67
    go_wp2
    go_ret
    exact ⟨rfl, rfl⟩
  · obtain ⟨r, hr, hl, hrn⟩ := one_by hx hn
    have h1 := neq_selfI hx hn
    have h2 := eq_selfI hx hn
    have h3 := run_some hr
    have h4 := eq_selfI hl hrn
    clear hn hr hl hrn hx
    go_enter Tryd.func67, Tryd.ntmps67
    go_wp2
    go_ret
    exact ⟨rfl, rfl⟩
theorem grownSame {x : Nat} {w : World} (hx : x < 2 ^ 64) (n : Nat) (os : Array Obj) :
    Calls Tryd.prog 67 #[.float .f64 x, .float .f64 x] (Sort.grow (redrawn w n) os) fun e w'' => e = .returned (.bool true) ∧ ∃ p' : Regrown, w'' = Sort.grow (redrawn w p'.d) p'.os :=
  Calls.regrown_of ((sameReal_self x _ hx).mono fun _ _ ⟨a, b⟩ => ⟨a, b ▸ Below.refl _ _⟩)

set_option maxHeartbeats 1000000 in
theorem sameReals_self (m : Mm) (hr : ∀ i, m.r i < 2 ^ 64) (w : World) :
    Calls Tryd.prog 41 #[.agg m.rArr, .agg m.rArr] w fun e w' => e = .returned (.bool true) ∧ Below w.heap.size w w' := by
  have HX : Hid (∀ i, m.r i < 2 ^ 64) := hr
  clear hr
  go_enter Tryd.func41, Tryd.ntmps41
  go_wp2
  have HB0 : Hid (Below w.heap.size w ((w.alloc (.cells m.rArr 35)).alloc (.cells m.rArr 35))) := ((Below.refl _ _).alloc (Nat.le_refl _) _).alloc (by simp) _
  have HI0 : Hid (RowAt ((w.alloc (.cells m.rArr 35)).alloc (.cells m.rArr 35)) w.heap.size 35 16 m.rcell) := (RowAt.new w _ 16 m.rcell).alloc _
  have HJ0 : Hid (RowAt ((w.alloc (.cells m.rArr 35)).alloc (.cells m.rArr 35)) (w.heap.size + 1) 35 16 m.rcell) := by
    have := RowAt.new (w.alloc (.cells m.rArr 35)) 35 16 m.rcell
    rw [show (w.alloc (.cells m.rArr 35)).heap.size = w.heap.size + 1 by simp] at this
    exact this
  generalize ((w.alloc (.cells m.rArr 35)).alloc (.cells m.rArr 35)) = V at *
  go_loopw [6] (fun c w' => ∃ j : Nat, j ≤ 16 ∧ c = .int .i64 (j : Int) ∧ Hid (Below w.heap.size w w') ∧ Hid (RowAt w' w.heap.size 35 16 m.rcell) ∧ Hid (RowAt w' (w.heap.size + 1) 35 16 m.rcell)) (fun c _ => 16 - (intOf c).toNat)
  case atStart => exact ⟨0, by omega, rfl, HB0, HI0, HJ0⟩
  case round =>
    obtain ⟨j, hj, rfl, HBr, HIr, HJr⟩ := hrel
    rename_i wr
    clear HB0 HI0 HJ0
    by_cases hlt : j < 16
    · have hlt' : (j : Int) < 16 := by omega
      have c0 := HIr.out.cell (i := j) (by omega)
      rw [Mm.rcell] at c0
      have d0 := HJr.out.cell (i := j) (by omega)
      rw [Mm.rcell] at d0
      have HG : Hid (∀ (n : Nat) (os : Array Obj), Calls Tryd.prog 67 #[.float .f64 (m.r j), .float .f64 (m.r j)] (Sort.grow (redrawn wr n) os) fun e w'' => e = .returned (.bool true) ∧ ∃ p' : Regrown, w'' = Sort.grow (redrawn wr p'.d) p'.os) := fun n os => grownSame (HX.out j) n os
      generalize m.r j = x at *
      have k0 := cell_regrown c0
      have q0 := cell_regrown d0
      go_wp2
      refine wp_region_quiet_below (by kernel_rfl) (by kernel_rfl) ?_
      repeat (first | go_big_quiet_step (exact HG.out _ _) | quiet_step (exact HG.out _ _))
      refine wpQuiet_nil ?_
      intro _ hw'
      obtain ⟨⟨dq, osq⟩, hw''⟩ := hw'
      subst hw''
      have HBq : Hid (Below w.heap.size w (Sort.grow (redrawn wr dq) osq)) := HBr.out.trans ((below_regrown _ dq osq).mono HBr.out.size)
      have HIq : Hid (RowAt (Sort.grow (redrawn wr dq) osq) w.heap.size 35 16 m.rcell) := HIr.out.to (below_regrown _ dq osq)
      have HJq : Hid (RowAt (Sort.grow (redrawn wr dq) osq) (w.heap.size + 1) 35 16 m.rcell) := HJr.out.to (below_regrown _ dq osq)
      clear k0 q0 c0 d0
      generalize Sort.grow (redrawn wr dq) osq = wq at *
      go_wp2
      exact ⟨⟨j + 1, by omega, by go_num, HBq, HIq, HJq⟩, by simp [intOf]; omega⟩
    · obtain rfl : j = 16 := by omega
      go_wp2
      go_ret
      exact ⟨rfl, HBr.out⟩
end Go.Proofs.YtljhpagpohihcaaDoor
