/- Reckoning with real numbers: RealCalc of the program and of the document; the walk of FnExactRealCalc. Helper text: no statement is claimed here. -/
import Derived.Test.YtackcffnfdhpgaaCb
namespace Go.Proofs.Ytackcffnfdhpgaa
open Go.ChangeShapes Go.WideShapes Go.ChangeAt Go.RowKit Fl

/-- What may come out of two real numbers. -/
def Out (o : BinOp) (x y r : Nat) : Prop := floatBits o .f64 x y = some r ∨ (floatBits o .f64 x y = none ∧ nan r)
def RcOk (op : Int) (x y r : Nat) : Prop :=
  r < 2 ^ 64 ∧ (if op = 1 then Out .add x y r else if op = 2 then Out .sub x y r else if op = 3 then Out .mul x y r else if op = 4 then Out .quo x y r else nan r)
def Came (op : Int) (x y : Nat) (w : World) (e : Ending) (w' : World) : Prop := ∃ r, e = .returned (.float .f64 r) ∧ RcOk op x y r ∧ Below w.heap.size w w'
theorem Out.one {o : BinOp} {x y r r' : Nat} (h : Out o x y r) (h' : Out o x y r') : SameV r r' := by
  rcases h with h | ⟨h, hn⟩ <;> rcases h' with h' | ⟨h', hn'⟩
  · left; rw [h] at h'; exact Option.some.inj h'
  · rw [h] at h'; cases h'
  · rw [h] at h'; cases h'
  · exact .inr ⟨hn, hn'⟩
theorem RcOk.one {op : Int} {x y r r' : Nat} (h : RcOk op x y r) (h' : RcOk op x y r') : SameV r r' := by
  have a := h.2
  have b := h'.2
  split at a
  · exact a.one (by simpa [*] using b)
  split at a
  · exact a.one (by simpa [*] using b)
  split at a
  · exact a.one (by simpa [*] using b)
  split at a
  · exact a.one (by simpa [*] using b)
  · exact .inr ⟨a, by simpa [*] using b⟩
theorem bits_lt {o : BinOp} {x y r : Nat} (h : floatBits o .f64 x y = some r) : r < 2 ^ 64 := by
  have := floatBits_wf h
  simpa [Lit.wf] using this
theorem ops4 (op : Int) : op = 1 ∨ op = 2 ∨ op = 3 ∨ op = 4 ∨ ((op == 1) = false ∧ (op == 2) = false ∧ (op == 3) = false ∧ (op == 4) = false) := by
  simp only [beq_eq_false_iff_ne]
  omega
set_option maxHeartbeats 400000 in
theorem irc_1 (x y : Nat) (w : World) : Calls Try.prog 9 #[.int .i64 1, .float .f64 x, .float .f64 y] w (Came 1 x y w) := by
  cases h : floatBits .add .f64 x y with
  | some r =>
    have hr := run_some h
    have hl := bits_lt h
    have H : Hid (floatBits .add .f64 x y = some r) := h
    clear h
    go_enter Try.func9, Try.ntmps9
    go_wp2
    go_ret
    exact ⟨r, rfl, ⟨hl, .inl H.out⟩, Below.refl _ _⟩
  | none =>
    obtain ⟨r, hr, hn, hl⟩ := run_nan .add (by simp [arith]) 28 x y w h
    have H : Hid (floatBits .add .f64 x y = none) := h
    clear h
    go_enter Try.func9, Try.ntmps9
    go_wp2
    go_ret
    exact ⟨r, rfl, ⟨hl, .inr ⟨H.out, hn⟩⟩, drewW_below (Below.refl _ _)⟩
set_option maxHeartbeats 400000 in
theorem irc_2 (x y : Nat) (w : World) : Calls Try.prog 9 #[.int .i64 2, .float .f64 x, .float .f64 y] w (Came 2 x y w) := by
  cases h : floatBits .sub .f64 x y with
  | some r =>
    have hr := run_some h
    have hl := bits_lt h
    have H : Hid (floatBits .sub .f64 x y = some r) := h
    clear h
    go_enter Try.func9, Try.ntmps9
    go_wp2
    go_ret
    exact ⟨r, rfl, ⟨hl, .inl H.out⟩, Below.refl _ _⟩
  | none =>
    obtain ⟨r, hr, hn, hl⟩ := run_nan .sub (by simp [arith]) 28 x y w h
    have H : Hid (floatBits .sub .f64 x y = none) := h
    clear h
    go_enter Try.func9, Try.ntmps9
    go_wp2
    go_ret
    exact ⟨r, rfl, ⟨hl, .inr ⟨H.out, hn⟩⟩, drewW_below (Below.refl _ _)⟩
set_option maxHeartbeats 400000 in
theorem irc_3 (x y : Nat) (w : World) : Calls Try.prog 9 #[.int .i64 3, .float .f64 x, .float .f64 y] w (Came 3 x y w) := by
  cases h : floatBits .mul .f64 x y with
  | some r =>
    have hr := run_some h
    have hl := bits_lt h
    have H : Hid (floatBits .mul .f64 x y = some r) := h
    clear h
    go_enter Try.func9, Try.ntmps9
    go_wp2
    go_ret
    exact ⟨r, rfl, ⟨hl, .inl H.out⟩, Below.refl _ _⟩
  | none =>
    obtain ⟨r, hr, hn, hl⟩ := run_nan .mul (by simp [arith]) 28 x y w h
    have H : Hid (floatBits .mul .f64 x y = none) := h
    clear h
    go_enter Try.func9, Try.ntmps9
    go_wp2
    go_ret
    exact ⟨r, rfl, ⟨hl, .inr ⟨H.out, hn⟩⟩, drewW_below (Below.refl _ _)⟩
set_option maxHeartbeats 400000 in
theorem irc_4 (x y : Nat) (w : World) : Calls Try.prog 9 #[.int .i64 4, .float .f64 x, .float .f64 y] w (Came 4 x y w) := by
  cases h : floatBits .quo .f64 x y with
  | some r =>
    have hr := run_some h
    have hl := bits_lt h
    have H : Hid (floatBits .quo .f64 x y = some r) := h
    clear h
    go_enter Try.func9, Try.ntmps9
    go_wp2
    go_ret
    exact ⟨r, rfl, ⟨hl, .inl H.out⟩, Below.refl _ _⟩
  | none =>
    obtain ⟨r, hr, hn, hl⟩ := run_nan .quo (by simp [arith]) 28 x y w h
    have H : Hid (floatBits .quo .f64 x y = none) := h
    clear h
    go_enter Try.func9, Try.ntmps9
    go_wp2
    go_ret
    exact ⟨r, rfl, ⟨hl, .inr ⟨H.out, hn⟩⟩, drewW_below (Below.refl _ _)⟩
set_option maxHeartbeats 400000 in
theorem src_1 (x y : Nat) (w : World) : Calls Try.prog 8 #[.int .i64 1, .float .f64 x, .float .f64 y] w (Came 1 x y w) := by
  cases h : floatBits .add .f64 x y with
  | some r =>
    have hr := run_some h
    have hl := bits_lt h
    have H : Hid (floatBits .add .f64 x y = some r) := h
    clear h
    go_enter Try.func8, Try.ntmps8
    go_wp2
    go_ret
    exact ⟨r, rfl, ⟨hl, .inl H.out⟩, Below.refl _ _⟩
  | none =>
    obtain ⟨r, hr, hn, hl⟩ := run_nan .add (by simp [arith]) 28 x y w h
    have H : Hid (floatBits .add .f64 x y = none) := h
    clear h
    go_enter Try.func8, Try.ntmps8
    go_wp2
    go_ret
    exact ⟨r, rfl, ⟨hl, .inr ⟨H.out, hn⟩⟩, drewW_below (Below.refl _ _)⟩
set_option maxHeartbeats 400000 in
theorem src_2 (x y : Nat) (w : World) : Calls Try.prog 8 #[.int .i64 2, .float .f64 x, .float .f64 y] w (Came 2 x y w) := by
  cases h : floatBits .sub .f64 x y with
  | some r =>
    have hr := run_some h
    have hl := bits_lt h
    have H : Hid (floatBits .sub .f64 x y = some r) := h
    clear h
    go_enter Try.func8, Try.ntmps8
    go_wp2
    go_ret
    exact ⟨r, rfl, ⟨hl, .inl H.out⟩, Below.refl _ _⟩
  | none =>
    obtain ⟨r, hr, hn, hl⟩ := run_nan .sub (by simp [arith]) 28 x y w h
    have H : Hid (floatBits .sub .f64 x y = none) := h
    clear h
    go_enter Try.func8, Try.ntmps8
    go_wp2
    go_ret
    exact ⟨r, rfl, ⟨hl, .inr ⟨H.out, hn⟩⟩, drewW_below (Below.refl _ _)⟩
set_option maxHeartbeats 400000 in
theorem src_3 (x y : Nat) (w : World) : Calls Try.prog 8 #[.int .i64 3, .float .f64 x, .float .f64 y] w (Came 3 x y w) := by
  cases h : floatBits .mul .f64 x y with
  | some r =>
    have hr := run_some h
    have hl := bits_lt h
    have H : Hid (floatBits .mul .f64 x y = some r) := h
    clear h
    go_enter Try.func8, Try.ntmps8
    go_wp2
    go_ret
    exact ⟨r, rfl, ⟨hl, .inl H.out⟩, Below.refl _ _⟩
  | none =>
    obtain ⟨r, hr, hn, hl⟩ := run_nan .mul (by simp [arith]) 28 x y w h
    have H : Hid (floatBits .mul .f64 x y = none) := h
    clear h
    go_enter Try.func8, Try.ntmps8
    go_wp2
    go_ret
    exact ⟨r, rfl, ⟨hl, .inr ⟨H.out, hn⟩⟩, drewW_below (Below.refl _ _)⟩
set_option maxHeartbeats 400000 in
theorem src_4 (x y : Nat) (w : World) : Calls Try.prog 8 #[.int .i64 4, .float .f64 x, .float .f64 y] w (Came 4 x y w) := by
  cases h : floatBits .quo .f64 x y with
  | some r =>
    have hr := run_some h
    have hl := bits_lt h
    have H : Hid (floatBits .quo .f64 x y = some r) := h
    clear h
    go_enter Try.func8, Try.ntmps8
    go_wp2
    go_ret
    exact ⟨r, rfl, ⟨hl, .inl H.out⟩, Below.refl _ _⟩
  | none =>
    obtain ⟨r, hr, hn, hl⟩ := run_nan .quo (by simp [arith]) 28 x y w h
    have H : Hid (floatBits .quo .f64 x y = none) := h
    clear h
    go_enter Try.func8, Try.ntmps8
    go_wp2
    go_ret
    exact ⟨r, rfl, ⟨hl, .inr ⟨H.out, hn⟩⟩, drewW_below (Below.refl _ _)⟩
end Go.Proofs.Ytackcffnfdhpgaa
