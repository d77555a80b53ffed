/- Arrays held against each other by the program's own sign of equality. Helper text: no statement is claimed here. -/
import Derived.Test.YtlflihegadjpdaaDoorP01
import Derived.ChangeKeysEq
import Derived.Laws.StructEq
import Derived.Test.YtlflihegadjpdaaDoorRows
import Derived.Test.YtlflihegadjpdaaDoorP03
import Derived.WalkKit
import Derived.ProofKit
import Derived.OpenShut
import Derived.Below
import Derived.WalkSmall
import Derived.WalkLawsBesides
import Derived.Lib.QuietBelow
import Derived.BigQuiet
import Derived.Test.YtlflihegadjpdaaDoorP02
import Derived.Lib.ParseIntB
import Derived.Lib.IndexMore
namespace Go.Proofs.YtlflihegadjpdaaDoor
open Go.ChangeShapes Go.WideShapes Go.ChangeAt Go.RowKit

theorem eqItems_run {d sz : Nat} {e : TypeId} {xs ys : Array Value} {w : World} (r : Nat → Bool) : ∀ is : List Nat, (∀ i, i ∈ is → ∃ a b, (part e xs (i * sz)).run Tryd.prog w = .ok a w ∧ (part e ys (i * sz)).run Tryd.prog w = .ok b w ∧ (Op.equalIn d e a b).run Tryd.prog w = .ok (r i) w) →
    (Op.eqItems d e sz xs ys is).run Tryd.prog w = .ok (is.all r) w
  | [], _ => by simp [Op.eqItems]
  | i :: is, h => by
    obtain ⟨a, b, h1, h2, h3⟩ := h i (by simp)
    have ih := eqItems_run r is (fun j hj => h j (by simp [hj]))
    simp only [Op.eqItems, Sem.run_bind, h1, h2, h3, Result.andThen_ok, List.all_cons]
    cases hr : r i
    · simp
    · simpa using ih
theorem eqTimerV (d : Nat) (a a' : Bool) (c c' : Int) (w : World) : (Op.equalIn (d + 2) 27 (.agg #[.bool a, .int .u16 c]) (.agg #[.bool a', .int .u16 c'])).run Tryd.prog w = .ok (a == a' && c == c') w := by
  rw [run_equalIn_struct w (d + 1) _ _ _ (by kernel_rfl) (by kernel_rfl)]
  simp [go_sem]
  split <;> (try split) <;> simp_all
theorem eqCounterV (d : Nat) (a a' l l' : Bool) (c c' : Int) (w : World) : (Op.equalIn (d + 2) 30 (.agg #[.bool a, .bool l, .int .u16 c]) (.agg #[.bool a', .bool l', .int .u16 c'])).run Tryd.prog w = .ok (a == a' && (l == l' && c == c')) w := by
  rw [run_equalIn_struct w (d + 1) _ _ _ (by kernel_rfl) (by kernel_rfl)]
  simp [go_sem]
  split <;> (try split) <;> (try split) <;> simp_all
theorem extract2 {n : Nat} (f : Nat → Value) (k : Nat) (h : k + 2 ≤ n) : (cellsOf n f).extract k (k + 2) = #[f k, f (k + 1)] := by
  apply Array.ext_getElem?
  intro i
  rw [Array.getElem?_extract]
  by_cases hi : i < 2
  · rw [if_pos (by rw [cellsOf_size]; omega), cellsOf_at _ (by omega)]
    have : i = 0 ∨ i = 1 := by omega
    rcases this with rfl | rfl <;> simp
  · rw [if_neg (by rw [cellsOf_size]; omega)]
    simp; omega
theorem extract3 {n : Nat} (f : Nat → Value) (k : Nat) (h : k + 3 ≤ n) : (cellsOf n f).extract k (k + 3) = #[f k, f (k + 1), f (k + 2)] := by
  apply Array.ext_getElem?
  intro i
  rw [Array.getElem?_extract]
  by_cases hi : i < 3
  · rw [if_pos (by rw [cellsOf_size]; omega), cellsOf_at _ (by omega)]
    have : i = 0 ∨ i = 1 ∨ i = 2 := by omega
    rcases this with rfl | rfl | rfl <;> simp
  · rw [if_neg (by rw [cellsOf_size]; omega)]
    simp; omega
theorem partTimer (m : Mm) (i : Nat) (h : i < 16) (w : World) : (part 27 m.tArr (i * 2)).run Tryd.prog w = .ok (.agg #[.bool (m.td i), .int .u16 (m.tc i)]) w := by
  have : m.tArr.extract (i * 2) (i * 2 + 2) = #[.bool (m.td i), .int .u16 (m.tc i)] := by
    unfold Mm.tArr
    rw [extract2 _ _ (by omega), Mm.tcell_d, Mm.tcell_c]
  simp [go_sem, this]
theorem partCounter (m : Mm) (i : Nat) (h : i < 16) (w : World) : (part 30 m.cArr (i * 3)).run Tryd.prog w = .ok (.agg #[.bool (m.cd i), .bool (m.cl i), .int .u16 (m.cc i)]) w := by
  have : m.cArr.extract (i * 3) (i * 3 + 3) = #[.bool (m.cd i), .bool (m.cl i), .int .u16 (m.cc i)] := by
    unfold Mm.cArr
    rw [extract3 _ _ (by omega), Mm.ccell_d, Mm.ccell_l, Mm.ccell_c]
  simp [go_sem, this]
theorem partD (m : Mm) (i : Nat) (h : i < 32) (w : World) : (part 32 m.dArr (i * 1)).run Tryd.prog w = .ok (.int .i16 (m.d i)) w := by
  have : m.dArr[i]? = some (.int .i16 (m.d i)) := cellsOf_at _ h
  simp [go_sem, this]
/-- What the sign of equality says of two arrays. -/
def sameT (m n : Mm) : Bool := (List.range 16).all fun i => m.td i == n.td i && (m.tc i : Int) == (n.tc i : Int)
def sameC (m n : Mm) : Bool := (List.range 16).all fun i => m.cd i == n.cd i && (m.cl i == n.cl i && (m.cc i : Int) == (n.cc i : Int))
def sameD (m n : Mm) : Bool := (List.range 32).all fun i => m.d i == n.d i
theorem eqT_run (m n : Mm) (w : World) : (Op.equal 28 (.agg m.tArr) (.agg n.tArr)).run Tryd.prog w = .ok (sameT m n) w := by
  obtain ⟨i0, hi0⟩ : ∃ i, Tryd.prog.info? 27 = some i := Option.isSome_iff_exists.1 (by kernel_rfl)
  show (Op.equalIn (9999 + 1) _ _ _).run _ _ = _
  rw [run_equalIn_array w 9999 m.tArr n.tArr Tryd.underlying28 hi0, show Tryd.prog.cellsOf 27 = 2 by kernel_rfl]
  exact eqItems_run _ _ fun i hi => ⟨_, _, partTimer m i (List.mem_range.1 hi) w, partTimer n i (List.mem_range.1 hi) w, eqTimerV 9997 _ _ _ _ w⟩
theorem eqC_run (m n : Mm) (w : World) : (Op.equal 31 (.agg m.cArr) (.agg n.cArr)).run Tryd.prog w = .ok (sameC m n) w := by
  obtain ⟨i0, hi0⟩ : ∃ i, Tryd.prog.info? 30 = some i := Option.isSome_iff_exists.1 (by kernel_rfl)
  show (Op.equalIn (9999 + 1) _ _ _).run _ _ = _
  rw [run_equalIn_array w 9999 m.cArr n.cArr Tryd.underlying31 hi0, show Tryd.prog.cellsOf 30 = 3 by kernel_rfl]
  exact eqItems_run _ _ fun i hi => ⟨_, _, partCounter m i (List.mem_range.1 hi) w, partCounter n i (List.mem_range.1 hi) w, eqCounterV 9997 _ _ _ _ _ _ w⟩
theorem eqD_run (m n : Mm) (w : World) : (Op.equal 33 (.agg m.dArr) (.agg n.dArr)).run Tryd.prog w = .ok (sameD m n) w := by
  obtain ⟨i0, hi0⟩ : ∃ i, Tryd.prog.info? 32 = some i := Option.isSome_iff_exists.1 (by kernel_rfl)
  show (Op.equalIn (9999 + 1) _ _ _).run _ _ = _
  rw [run_equalIn_array w 9999 m.dArr n.dArr Tryd.underlying33 hi0, show Tryd.prog.cellsOf 32 = 1 by kernel_rfl]
  exact eqItems_run _ _ fun i hi => ⟨_, _, partD m i (List.mem_range.1 hi) w, partD n i (List.mem_range.1 hi) w, by simp [go_sem]⟩
end Go.Proofs.YtlflihegadjpdaaDoor

/- Reckoning with real numbers: RealCalc of the program and of the document, and the walk of FnExactRealCalc. Helper text: no statement is claimed here. -/
namespace Go.Proofs.YtlflihegadjpdaaDoor
open Go.ChangeShapes Go.WideShapes Go.ChangeAt Go.RowKit Fl

/-- One value: the same bits, or both nan. -/
def SameV (x y : Nat) : Prop := x = y ∨ (nan x ∧ nan y)
/-- The world with one more thing drawn. -/
abbrev drewW (w : World) : World := { w with drawn := w.drawn + 1 }

theorem nan_cut (a b t : Nat) : nan (Question.cut (.nanBits .f64 a b) t) ∧ Question.cut (.nanBits .f64 a b) t < 2 ^ 64 := by
  have e : Question.cut (.nanBits .f64 a b) t = Ieee.double.word (t % 2 == 1) (2047 * 2 ^ 52 + 1 + (t / 2) % (2 ^ 52 - 1)) := by
    show (t % 2) * 2 ^ 63 + 0x7ff0000000000000 + 1 + (t / 2) % (2 ^ 52 - 1) = _
    unfold Ieee.Format.word
    rw [signWeight_eq]
    split <;> rename_i h <;> simp at h <;> omega
  have hl : (t / 2) % (2 ^ 52 - 1) < 2 ^ 52 - 1 := Nat.mod_lt _ (by omega)
  rw [e]
  generalize (t / 2) % (2 ^ 52 - 1) = f at *
  generalize (t % 2 == 1) = s at *
  refine ⟨?_, Ieee.Format.word_lt _ s (by rw [signWeight_eq]; omega)⟩
  unfold nan Ieee.Format.read
  rw [word_sign s (by omega), word_rung s (by omega), binade_eq, infRung_eq]
  have a1 : ¬ 2047 * 2 ^ 52 + 1 + f < 2 ^ 52 := by omega
  have a2 : ¬ 2047 * 2 ^ 52 + 1 + f < 2047 * 2 ^ 52 := by omega
  have a3 : ¬ 2047 * 2 ^ 52 + 1 + f = 2047 * 2 ^ 52 := by omega
  simp only [a1, a2, a3, if_false, Ieee.Datum.isNaN]

def arith (op : BinOp) : Prop := op = .add ∨ op = .sub ∨ op = .mul ∨ op = .quo
/-- Where there is no number, there comes a nan. -/
theorem run_nan (op : BinOp) (ho : arith op) (t : TypeId) (x y : Nat) (w : World) (h : floatBits op .f64 x y = none) :
    ∃ r, (binOp op t (.float .f64 x) (.float .f64 y)).run Tryd.prog w = .ok (.float .f64 r) (drewW w) ∧ nan r ∧ r < 2 ^ 64 := by
  refine ⟨_, ?_, nan_cut x y (w.tape w.drawn (.nanBits .f64 x y))⟩
  unfold floatBits at h
  rcases ho with rfl | rfl | rfl | rfl <;> simp only at h <;> simp [binOp, Op.floatArith, h, Question.forced]

theorem drewW_below {B : Nat} {w w' : World} (h : Below B w w') : Below B w (drewW w') := h.drew
end Go.Proofs.YtlflihegadjpdaaDoor

/- A float operation that has an answer, as the walk meets it. Helper text: no statement is claimed here. -/
namespace Go.Proofs.YtlflihegadjpdaaDoor
open Go.ChangeShapes Go.WideShapes Go.ChangeAt Go.RowKit Fl
theorem run_some {op : BinOp} {x y r : Nat} (h : floatBits op .f64 x y = some r) (t : TypeId) (w : World) : (binOp op t (.float .f64 x) (.float .f64 y)).run Tryd.prog w = .ok (.float .f64 r) w := run_float_arith w op t .f64 x y r h
end Go.Proofs.YtlflihegadjpdaaDoor

/- A memory is the same as itself: the program's MemSame. Helper text: no statement is claimed here. -/
namespace Go.Proofs.YtlflihegadjpdaaDoor
open Go.ChangeShapes Go.WideShapes Go.ChangeAt Go.RowKit Fl

theorem one_wd : 4607182418800017408 = wd false 4503599627370496 1022 := by decide
theorem one_sc : Sc 4503599627370496 1022 := ⟨by decide, .inr (by decide)⟩
theorem one_by_inf (s : Bool) : Go.floatBits .quo .f64 4607182418800017408 (wi s) = some (wd s 0 0) := by cases s <;> decide +kernel
theorem one_by {x : Nat} (hx : x < 2 ^ 64) (hn : ¬ nan x) : ∃ r, Go.floatBits .quo .f64 4607182418800017408 x = some r ∧ r < 2 ^ 64 ∧ ¬ nan r := by
  rcases cases_wd hx with ⟨s, m, k, hs, hk, rfl⟩ | ⟨s, rfl⟩ | h
  · by_cases h0 : m = 0
    · have e : wd s m k = wd s 0 0 := by
        subst h0
        rcases hs.hk with rfl | h
        · rfl
        · omega
      rw [e]
      exact ⟨_, one_by_zero s, wi_lt s, not_nan_wi s⟩
    · have := quo_some one_sc (by omega) hs hk false s (by omega)
      rwa [← one_wd] at this
  · exact ⟨_, one_by_inf s, wd_lt sc00 (by omega) s, not_nan_wd sc00 (by omega) s⟩
  · exact absurd h hn
theorem eq_selfI {x : Nat} (h : x < 2 ^ 64) (hn : ¬ nan x) : (ord x x == some .eq) = true := by
  simp only [ord, Go.FloatKind.format, order_self h hn]; rfl
theorem neq_selfI {x : Nat} (h : x < 2 ^ 64) (hn : ¬ nan x) : (ord x x != some .eq) = false := by
  simp only [ord, Go.FloatKind.format, order_self h hn]; rfl
set_option maxHeartbeats 400000 in
theorem sameReal_self (x : Nat) (w : World) (hx : x < 2 ^ 64) :
    Calls Tryd.prog 40 #[.float .f64 x, .float .f64 x] w fun e w' => e = .returned (.bool true) ∧ w' = w := by
  by_cases hn : nan x
  · have h1 := (asks_nan hn).n
    clear hn
    go_enter Tryd.func40, Tryd.ntmps40
    go_wp2
    go_ret
    exact ⟨rfl, rfl⟩
  · obtain ⟨r, hr, hl, hrn⟩ := one_by hx hn
    have h1 := neq_selfI hx hn
    have h2 := eq_selfI hx hn
    have h3 := run_some hr
    have h4 := eq_selfI hl hrn
    clear hn hr hl hrn hx
    go_enter Tryd.func40, Tryd.ntmps40
    go_wp2
    go_ret
    exact ⟨rfl, rfl⟩
theorem grownSame {x : Nat} {w : World} (hx : x < 2 ^ 64) (n : Nat) (os : Array Obj) :
    Calls Tryd.prog 40 #[.float .f64 x, .float .f64 x] (Sort.grow (redrawn w n) os) fun e w'' => e = .returned (.bool true) ∧ ∃ p' : Regrown, w'' = Sort.grow (redrawn w p'.d) p'.os :=
  Calls.regrown_of ((sameReal_self x _ hx).mono fun _ _ ⟨a, b⟩ => ⟨a, b ▸ Below.refl _ _⟩)

set_option maxHeartbeats 1000000 in
theorem sameReals_self (m : Mm) (hr : ∀ i, m.r i < 2 ^ 64) (w : World) :
    Calls Tryd.prog 17 #[.agg m.rArr, .agg m.rArr] w fun e w' => e = .returned (.bool true) ∧ Below w.heap.size w w' := by
  have HX : Hid (∀ i, m.r i < 2 ^ 64) := hr
  clear hr
  go_enter Tryd.func17, Tryd.ntmps17
  go_wp2
  have HB0 : Hid (Below w.heap.size w ((w.alloc (.cells m.rArr 35)).alloc (.cells m.rArr 35))) := ((Below.refl _ _).alloc (Nat.le_refl _) _).alloc (by simp) _
  have HI0 : Hid (RowAt ((w.alloc (.cells m.rArr 35)).alloc (.cells m.rArr 35)) w.heap.size 35 16 m.rcell) := (RowAt.new w _ 16 m.rcell).alloc _
  have HJ0 : Hid (RowAt ((w.alloc (.cells m.rArr 35)).alloc (.cells m.rArr 35)) (w.heap.size + 1) 35 16 m.rcell) := by
    have := RowAt.new (w.alloc (.cells m.rArr 35)) 35 16 m.rcell
    rw [show (w.alloc (.cells m.rArr 35)).heap.size = w.heap.size + 1 by simp] at this
    exact this
  generalize ((w.alloc (.cells m.rArr 35)).alloc (.cells m.rArr 35)) = V at *
  go_loopw [6] (fun c w' => ∃ j : Nat, j ≤ 16 ∧ c = .int .i64 (j : Int) ∧ Hid (Below w.heap.size w w') ∧ Hid (RowAt w' w.heap.size 35 16 m.rcell) ∧ Hid (RowAt w' (w.heap.size + 1) 35 16 m.rcell)) (fun c _ => 16 - (intOf c).toNat)
  case atStart => exact ⟨0, by omega, rfl, HB0, HI0, HJ0⟩
  case round =>
    obtain ⟨j, hj, rfl, HBr, HIr, HJr⟩ := hrel
    rename_i wr
    clear HB0 HI0 HJ0
    by_cases hlt : j < 16
    · have hlt' : (j : Int) < 16 := by omega
      have c0 := HIr.out.cell (i := j) (by omega)
      rw [Mm.rcell] at c0
      have d0 := HJr.out.cell (i := j) (by omega)
      rw [Mm.rcell] at d0
      have HG : Hid (∀ (n : Nat) (os : Array Obj), Calls Tryd.prog 40 #[.float .f64 (m.r j), .float .f64 (m.r j)] (Sort.grow (redrawn wr n) os) fun e w'' => e = .returned (.bool true) ∧ ∃ p' : Regrown, w'' = Sort.grow (redrawn wr p'.d) p'.os) := fun n os => grownSame (HX.out j) n os
      generalize m.r j = x at *
      have k0 := cell_regrown c0
      have q0 := cell_regrown d0
      go_wp2
      refine wp_region_quiet_below (by kernel_rfl) (by kernel_rfl) ?_
      repeat (first | go_big_quiet_step (exact HG.out _ _) | quiet_step (exact HG.out _ _))
      refine wpQuiet_nil ?_
      intro _ hw'
      obtain ⟨⟨dq, osq⟩, hw''⟩ := hw'
      subst hw''
      have HBq : Hid (Below w.heap.size w (Sort.grow (redrawn wr dq) osq)) := HBr.out.trans ((below_regrown _ dq osq).mono HBr.out.size)
      have HIq : Hid (RowAt (Sort.grow (redrawn wr dq) osq) w.heap.size 35 16 m.rcell) := HIr.out.to (below_regrown _ dq osq)
      have HJq : Hid (RowAt (Sort.grow (redrawn wr dq) osq) (w.heap.size + 1) 35 16 m.rcell) := HJr.out.to (below_regrown _ dq osq)
      clear k0 q0 c0 d0
      generalize Sort.grow (redrawn wr dq) osq = wq at *
      go_wp2
      exact ⟨⟨j + 1, by omega, by go_num, HBq, HIq, HJq⟩, by simp [intOf]; omega⟩
    · obtain rfl : j = 16 := by omega
      go_wp2
      go_ret
      exact ⟨rfl, HBr.out⟩
end Go.Proofs.YtlflihegadjpdaaDoor

/- Two real numbers that are equal by the sign of equality. Helper text: no statement is claimed here. -/
namespace Go.Proofs.YtlflihegadjpdaaDoor
open Go.ChangeShapes Go.WideShapes Go.ChangeAt Go.RowKit Fl

theorem not_both {x y : Nat} (hx : x < 2 ^ 64) (hy : y < 2 ^ 64) (nx : ¬ nan x) (ny : ¬ nan y) (h : (ord x y == some .eq) = true) : x = y ∨ ∃ s t, x = wd s 0 0 ∧ y = wd t 0 0 := by
  rcases cases_wd hx with ⟨s, m, k, hs, hk, rfl⟩ | ⟨s, rfl⟩ | hn
  · rcases cases_wd hy with ⟨t, n, j, ht, hj, rfl⟩ | ⟨t, rfl⟩ | hn
    · rw [ord_eq hs hk ht hj] at h
      have h := of_decide_eq_true h
      by_cases h0 : m = 0
      · right
        have hv : m * 2 ^ k = 0 := by rw [h0, Nat.zero_mul]
        rw [hv] at h
        have hw : n * 2 ^ j = 0 := by
          generalize n * 2 ^ j = W at *
          cases s <;> cases t <;> simp [sg] at h <;> omega
        have hn : n = 0 := by
          rcases Nat.eq_zero_or_pos n with h | h
          · exact h
          · have := @pos_val n j h; omega
        exact ⟨s, t, wd_zeroN hs h0, wd_zeroN ht hn⟩
      · left
        have hp := @pos_val m k (by omega)
        have hst : s = t ∧ m * 2 ^ k = n * 2 ^ j := by
          generalize m * 2 ^ k = V at *
          generalize n * 2 ^ j = W at *
          cases s <;> cases t <;> simp [sg] at h ⊢ <;> omega
        obtain ⟨rfl, hv⟩ := hst
        obtain ⟨rfl, rfl⟩ := sc_unique hs ht (by omega) hv
        rfl
    · exfalso
      simp only [ord, Go.FloatKind.format, order_wd_wi hs hk] at h
      cases t <;> cases h
    · exact absurd hn ny
  · rcases cases_wd hy with ⟨t, n, j, ht, hj, rfl⟩ | ⟨t, rfl⟩ | hn
    · exfalso
      simp only [ord, Go.FloatKind.format, order_wi_wd ht hj] at h
      cases s <;> cases h
    · left
      simp only [ord, Go.FloatKind.format, order_wi_wi] at h
      cases s <;> cases t <;> first | rfl | cases h
    · exact absurd hn ny
  · exact absurd hn nx
end Go.Proofs.YtlflihegadjpdaaDoor

/- Plain mathematics of numerals: digits, and the number that they make. Helper text: no statement is claimed here. -/
namespace Go.Proofs.YtlflihegadjpdaaDoor
open Go.RowKit

def isD (c : UInt8) : Bool := decide (48 ≤ c.toNat ∧ c.toNat ≤ 57)
/-- The number that digits make. -/
def valN (l : List UInt8) : Int := l.foldl (fun (a : Int) c => a * 10 + ((c.toNat : Int) - 48)) 0

theorem val_snoc (l : List UInt8) (c : UInt8) : valN (l ++ [c]) = valN l * 10 + ((c.toNat : Int) - 48) := by simp [valN]
theorem val_bd' : ∀ (l : List UInt8) (a : Int), 0 ≤ a → (∀ c ∈ l, isD c = true) → 0 ≤ l.foldl (fun (a : Int) c => a * 10 + ((c.toNat : Int) - 48)) a ∧ l.foldl (fun (a : Int) c => a * 10 + ((c.toNat : Int) - 48)) a < (a + 1) * 10 ^ l.length
  | [], a, h0, _ => by simp; omega
  | c :: r, a, h0, h => by
    have h2 := h c (by simp)
    simp [isD] at h2
    have h1 := val_bd' r (a * 10 + ((c.toNat : Int) - 48)) (by omega) (fun x hx => h x (by simp [hx]))
    have hm : (a * 10 + ((c.toNat : Int) - 48) + 1) * 10 ^ r.length ≤ ((a + 1) * 10) * 10 ^ r.length := Int.mul_le_mul_of_nonneg_right (by omega) (Int.pow_nonneg (by omega))
    have e : (a + 1) * 10 ^ (c :: r).length = ((a + 1) * 10) * 10 ^ r.length := by rw [List.length_cons, Int.pow_succ, Int.mul_comm (10 ^ r.length) 10, Int.mul_assoc]
    rw [e]
    simp only [List.foldl_cons]
    omega
theorem val_bd (l : List UInt8) (h : ∀ c ∈ l, isD c = true) : 0 ≤ valN l ∧ valN l < 10 ^ l.length := by
  have := val_bd' l 0 (by omega) h
  simpa [valN] using this

theorem dig_toNat (d : Nat) (h : d < 10) : (UInt8.ofNat (48 + d)).toNat = 48 + d := by rw [UInt8.toNat_ofNat']; omega
theorem digits_all : ∀ (u : Nat), ∀ c ∈ Lib.decDigits u, isD c = true := by
  intro u
  induction u using Nat.strongRecOn with
  | _ u ih =>
    intro c hc
    rw [Lib.decDigits] at hc
    split at hc
    · rename_i h
      simp only [List.mem_singleton] at hc
      subst hc
      simp [isD]
      omega
    · rename_i h
      simp only [List.mem_append, List.mem_singleton] at hc
      rcases hc with hc | hc
      · exact ih (u / 10) (by omega) c hc
      · subst hc
        simp [isD]
        omega
theorem digits_val : ∀ (u : Nat), valN (Lib.decDigits u) = (u : Int) := by
  intro u
  induction u using Nat.strongRecOn with
  | _ u ih =>
    rw [Lib.decDigits]
    split
    · rename_i h
      show (0 : Int) * 10 + (((UInt8.ofNat (48 + u)).toNat : Int) - 48) = _
      rw [dig_toNat u h]; omega
    · rename_i h
      rw [val_snoc, ih (u / 10) (by omega), dig_toNat (u % 10) (by omega)]
      omega
theorem digits_ne (u : Nat) : Lib.decDigits u ≠ [] := by
  rw [Lib.decDigits]; split <;> simp
theorem digits_small : ∀ (n u : Nat), 1 ≤ n → u < 10 ^ n → (Lib.decDigits u).length ≤ n := by
  intro n
  induction n with
  | zero => intro u h; omega
  | succ n ih =>
    intro u _ hu
    rw [Lib.decDigits]
    split
    · simp
    · rename_i h
      by_cases hn : n = 0
      · subst hn; simp at hu; omega
      · have := ih (u / 10) (by omega) (by rw [Nat.pow_succ] at hu; omega)
        simp; omega

end Go.Proofs.YtlflihegadjpdaaDoor

/- Plain mathematics of numerals: what is read of a numeral is its number, and of nothing else. Helper text: no statement is claimed here. -/
namespace Go.Proofs.YtlflihegadjpdaaDoor
open Go.RowKit

theorem isD_of {c : UInt8} (h : isD c = true) : 48 ≤ c.toNat ∧ c.toNat ≤ 57 := by simpa [isD] using h
theorem dig_back {c : UInt8} (h : isD c = true) : UInt8.ofNat (48 + (c.toNat - 48)) = c := by
  have := isD_of h
  rw [show 48 + (c.toNat - 48) = c.toNat by omega]
  exact UInt8.ofNat_toNat
theorem digits_one' {d : Nat} (h : d < 10) : Lib.decDigits d = [UInt8.ofNat (48 + d)] := by
  rw [Lib.decDigits, dif_pos h]
theorem digits_more {v d : Nat} (h : d < 10) (hv : 1 ≤ v) : Lib.decDigits (v * 10 + d) = Lib.decDigits v ++ [UInt8.ofNat (48 + d)] := by
  rw [Lib.decDigits, dif_neg (by omega)]
  have e1 : (v * 10 + d) / 10 = v := by omega
  have e2 : (v * 10 + d) % 10 = d := by omega
  rw [e1, e2]

/-- Digits without a needless zero are the numeral of their number. -/
theorem canonD : ∀ (n : Nat) (l : List UInt8), l.length = n → (∀ c ∈ l, isD c = true) → l ≠ [] → (l.head? ≠ some 48 ∨ l.length = 1) → Lib.decDigits (valN l).toNat = l ∧ (l.head? ≠ some 48 → 1 ≤ valN l) := by
  intro n
  induction n with
  | zero => intro l hl _ hne; exact absurd (List.length_eq_zero_iff.1 hl) hne
  | succ n ih =>
    intro l hl hd hne hh
    obtain ⟨r, c, rfl⟩ : ∃ r c, l = r ++ [c] := ⟨l.dropLast, l.getLast hne, (List.dropLast_concat_getLast hne).symm⟩
    have hc := isD_of (hd c (by simp))
    have hcb := dig_back (hd c (by simp))
    rw [val_snoc]
    by_cases hr : r = []
    · subst hr
      have e : (valN [] * 10 + ((c.toNat : Int) - 48)).toNat = c.toNat - 48 := by simp [valN]; omega
      rw [e, digits_one' (by omega), hcb]
      refine ⟨rfl, fun h => ?_⟩
      simp [valN]
      have : c.toNat ≠ 48 := fun h2 => h (by simp; exact UInt8.toNat.inj h2)
      omega
    · have hhead : (r ++ [c]).head? = r.head? := by
        cases r with
        | nil => exact absurd rfl hr
        | cons a b => rfl
      have hlen : 1 ≤ r.length := by
        cases r with
        | nil => exact absurd rfl hr
        | cons a b => simp
      have h48 : r.head? ≠ some 48 := by
        rcases hh with h | h
        · rwa [hhead] at h
        · exact absurd (by simpa using h) hr
      obtain ⟨i1, i2⟩ := ih r (by simpa using hl) (fun x hx => hd x (by simp [hx])) hr (.inl h48)
      have hv := i2 h48
      have e : (valN r * 10 + ((c.toNat : Int) - 48)).toNat = (valN r).toNat * 10 + (c.toNat - 48) := by omega
      rw [e, digits_more (by omega) (by omega), i1, hcb]
      exact ⟨rfl, fun _ => by omega⟩
theorem digits_head {u : Nat} (h : 1 ≤ u) : (Lib.decDigits u).head? ≠ some 48 := by
  induction u using Nat.strongRecOn with
  | _ u ih =>
    rw [Lib.decDigits]
    split
    · rename_i h9
      intro e
      have e2 : UInt8.ofNat (48 + u) = 48 := Option.some.inj e
      have := congrArg UInt8.toNat e2
      rw [dig_toNat u h9] at this
      have h0 : (48 : UInt8).toNat = 48 := rfl
      omega
    · rename_i h9
      have := ih (u / 10) (by omega) (by omega)
      have hne := digits_ne (u / 10)
      cases hd : Lib.decDigits (u / 10) with
      | nil => exact absurd hd hne
      | cons a b => rw [hd] at this; simpa using this
theorem digits_zero : Lib.decDigits 0 = [48] := by rw [digits_one' (by omega)]; rfl
theorem digits_inj {u v : Nat} (h : Lib.decDigits u = Lib.decDigits v) : u = v := by
  have := digits_val u
  rw [h, digits_val v] at this
  omega
theorem no45 (u : Nat) (r : List UInt8) : Lib.decDigits u ≠ 45 :: r := by
  intro e
  have := digits_all u 45 (by rw [e]; simp)
  exact absurd this (by decide)
theorem itoa_inj {a b : Int} (h : Lib.itoa a = Lib.itoa b) : a = b := by
  have cs : ∀ z : Int, (∃ u : Nat, z = u) ∨ ∃ u : Nat, 1 ≤ u ∧ z = -(u : Int) := fun z => by
    rcases Int.lt_or_le z 0 with h | h
    · right; exact ⟨z.natAbs, by omega, by omega⟩
    · left; exact ⟨z.toNat, by omega⟩
  rcases cs a with ⟨u, rfl⟩ | ⟨u, hu, rfl⟩ <;> rcases cs b with ⟨v, rfl⟩ | ⟨v, hv, rfl⟩
  · rw [Lib.itoa_nonneg, Lib.itoa_nonneg] at h; rw [digits_inj h]
  · rw [Lib.itoa_nonneg, Lib.itoa_neg v hv] at h; exact absurd h (no45 u _)
  · rw [Lib.itoa_neg u hu, Lib.itoa_nonneg] at h; exact absurd h.symm (no45 v _)
  · rw [Lib.itoa_neg u hu, Lib.itoa_neg v hv] at h
    rw [digits_inj (List.cons.inj h).2]
theorem itoa_no42 (z : Int) : (42 : UInt8) ∉ Lib.itoa z := by
  intro hm
  rcases Int.lt_or_le z 0 with h | h
  · obtain ⟨u, hu⟩ : ∃ u : Nat, z = -(u : Int) := ⟨z.natAbs, by omega⟩
    subst hu
    rw [Lib.itoa_neg u (by omega)] at hm
    rcases List.mem_cons.1 hm with h | h
    · exact absurd h (by decide)
    · exact absurd (digits_all u 42 h) (by decide)
  · obtain ⟨u, rfl⟩ := Int.eq_ofNat_of_zero_le h
    rw [Lib.itoa_nonneg] at hm
    exact absurd (digits_all u 42 hm) (by decide)

/-! The library's reading of numerals. -/
def foldN (acc : Nat) (l : List UInt8) : Nat := l.foldl (fun a c => a * 10 + (c.toNat - 48)) acc
theorem foldN_ge : ∀ (l : List UInt8) (acc : Nat), acc ≤ foldN acc l
  | [], acc => Nat.le_refl _
  | c :: r, acc => by
    have := foldN_ge r (acc * 10 + (c.toNat - 48))
    show acc ≤ foldN (acc * 10 + (c.toNat - 48)) r
    omega
theorem foldN_val : ∀ (l : List UInt8) (acc : Nat), (∀ c ∈ l, isD c = true) → (foldN acc l : Int) = l.foldl (fun (a : Int) c => a * 10 + ((c.toNat : Int) - 48)) acc
  | [], acc, _ => rfl
  | c :: r, acc, h => by
    have hc := isD_of (h c (by simp))
    have := foldN_val r (acc * 10 + (c.toNat - 48)) (fun x hx => h x (by simp [hx]))
    show (foldN (acc * 10 + (c.toNat - 48)) r : Int) = _
    rw [this, List.foldl_cons]
    congr 1
    omega
theorem parseU : ∀ (l : List UInt8) (acc M : Nat), (∀ c ∈ l, isD c = true) → foldN acc l ≤ M → M ≤ 18446744073709551615 → Lib.parseUintM M acc l = .ok (foldN acc l)
  | [], acc, M, _, _, _ => rfl
  | c :: r, acc, M, h, h1, h2 => by
    have hc := isD_of (h c (by simp))
    have h1' : foldN (acc * 10 + (c.toNat - 48)) r ≤ M := h1
    have hg := foldN_ge r (acc * 10 + (c.toNat - 48))
    unfold Lib.parseUintM
    rw [if_pos hc, if_neg (by omega), if_neg (by omega)]
    exact parseU r _ M (fun x hx => h x (by simp [hx])) h1' h2
theorem parse10 : ∀ (l : List UInt8) (acc : Nat), (∀ c ∈ l, isD c = true) → foldN acc l ≤ 18446744073709551615 → Lib.parseUint10 acc l = .ok (foldN acc l)
  | [], acc, _, _ => rfl
  | c :: r, acc, h, h1 => by
    have hc := isD_of (h c (by simp))
    have h1' : foldN (acc * 10 + (c.toNat - 48)) r ≤ 18446744073709551615 := h1
    have hg := foldN_ge r (acc * 10 + (c.toNat - 48))
    unfold Lib.parseUint10
    rw [if_pos hc, if_neg (by omega), if_neg (by omega)]
    exact parse10 r _ (fun x hx => h x (by simp [hx])) h1'
theorem fold_digits (u : Nat) : foldN 0 (Lib.decDigits u) = u := by
  have a := foldN_val (Lib.decDigits u) 0 (digits_all u)
  have b := digits_val u
  unfold valN at b
  have : (foldN 0 (Lib.decDigits u) : Int) = u := a.trans b
  omega
theorem digits_first (u : Nat) : ∃ c r, Lib.decDigits u = c :: r ∧ 48 ≤ c.toNat ∧ c.toNat ≤ 57 := by
  cases h : Lib.decDigits u with
  | nil => exact absurd h (digits_ne u)
  | cons c r => exact ⟨c, r, rfl, isD_of (digits_all u c (by rw [h]; simp))⟩
theorem parse_itoa (z : Int) (h : z.natAbs ≤ 9007199254740992) : Lib.parseIntB 64 (Lib.itoa z) = .ok z := by
  have hM : (2 ^ 64 - 1 : Nat) = 18446744073709551615 := rfl
  have h63 : (2 ^ (64 - 1) : Nat) = 9223372036854775808 := rfl
  rcases Int.lt_or_le z 0 with hz | hz
  · obtain ⟨u, hu⟩ : ∃ u : Nat, z = -(u : Int) := ⟨z.natAbs, by omega⟩
    subst hu
    rw [Lib.itoa_neg u (by omega)]
    obtain ⟨c, r, hd, c1, c2⟩ := digits_first u
    have hp : Lib.parseUintB 64 (Lib.decDigits u) = .ok u := by
      unfold Lib.parseUintB
      rw [if_neg (digits_ne u), hM, parseU _ _ _ (digits_all u) (by rw [fold_digits]; omega) (by omega), fold_digits]
    simp only [Lib.parseIntB]
    have e45 : (45 : UInt8).toNat = 45 := rfl
    simp only [e45, or_true, if_true, hp, h63]
    rw [if_neg (by omega), if_neg (by omega)]
  · obtain ⟨u, rfl⟩ := Int.eq_ofNat_of_zero_le hz
    rw [Lib.itoa_nonneg]
    obtain ⟨c, r, hd, c1, c2⟩ := digits_first u
    have hp : Lib.parseUintB 64 (Lib.decDigits u) = .ok u := by
      unfold Lib.parseUintB
      rw [if_neg (digits_ne u), hM, parseU _ _ _ (digits_all u) (by rw [fold_digits]; omega) (by omega), fold_digits]
    rw [hd] at hp ⊢
    simp only [Lib.parseIntB]
    rw [if_neg (by omega), hp]
    simp only [h63]
    rw [if_neg (by omega), if_neg (by omega), if_neg (by omega)]
theorem atoi_itoa (z : Int) (h : z.natAbs ≤ 9007199254740992) : Lib.atoiAll (Lib.itoa z) = .ok z := by
  rcases Int.lt_or_le z 0 with hz | hz
  · obtain ⟨u, hu⟩ : ∃ u : Nat, z = -(u : Int) := ⟨z.natAbs, by omega⟩
    subst hu
    rw [Lib.itoa_neg u (by omega)]
    have hp : Lib.parseMag (Lib.decDigits u) = .ok u := by
      unfold Lib.parseMag
      rw [if_neg (digits_ne u), parse10 _ _ (digits_all u) (by rw [fold_digits]; omega), fold_digits]
    simp only [Lib.atoiAll]
    have e45 : (45 : UInt8).toNat = 45 := rfl
    simp only [e45, or_true, if_true, hp]
    rw [if_neg (by omega), if_neg (by omega)]
  · obtain ⟨u, rfl⟩ := Int.eq_ofNat_of_zero_le hz
    rw [Lib.itoa_nonneg]
    obtain ⟨c, r, hd, c1, c2⟩ := digits_first u
    have hp : Lib.parseMag (Lib.decDigits u) = .ok u := by
      unfold Lib.parseMag
      rw [if_neg (digits_ne u), parse10 _ _ (digits_all u) (by rw [fold_digits]; omega), fold_digits]
    rw [hd] at hp ⊢
    simp only [Lib.atoiAll]
    rw [if_neg (by omega), hp]
    simp only
    rw [if_neg (by omega), if_neg (by omega), if_neg (by omega)]
end Go.Proofs.YtlflihegadjpdaaDoor

/- One text, one number; the texts of real numbers taken apart. Helper text: no statement is claimed here. -/
namespace Go.Proofs.YtlflihegadjpdaaDoor
open Go.RowKit Fl

theorem first_of {c : UInt8} : ∀ {a b l1 l2 : List UInt8}, c ∉ a → c ∉ l1 → a ++ c :: b = l1 ++ c :: l2 → a = l1 ∧ b = l2
  | [], b, [], l2, _, _, h => ⟨rfl, by simpa using h⟩
  | [], b, x :: l1, l2, _, h2, h => by simp at h; exact absurd (by simp [h.1]) h2
  | x :: a, b, [], l2, h1, _, h => by simp at h; exact absurd (by simp [h.1]) h1
  | x :: a, b, y :: l1, l2, h1, h2, h => by
    simp only [List.cons_append, List.cons.injEq] at h
    obtain ⟨rfl, h⟩ := h
    obtain ⟨rfl, rfl⟩ := first_of (a := a) (l1 := l1) (fun hm => h1 (by simp [hm])) (fun hm => h2 (by simp [hm])) h
    exact ⟨rfl, rfl⟩
theorem oT_form (m k : Nat) : oT m k = Lib.itoa (oN m k) ++ 42 :: (50 :: 94 :: Lib.itoa (oE m k)) := by unfold oT; simp
theorem oT_inj {m k m' k' : Nat} (h : Sc m k) (hm : 0 < m) (h' : Sc m' k') (hm' : 0 < m') (e : oT m k = oT m' k') : m = m' ∧ k = k' := by
  rw [oT_form, oT_form] at e
  obtain ⟨e1, e2⟩ := first_of (itoa_no42 _) (itoa_no42 _) e
  have a := itoa_inj e1
  simp only [List.cons.injEq, true_and] at e2
  have b := itoa_inj e2
  have hN : oN m k = oN m' k' := by omega
  have hv : m * 2 ^ k = m' * 2 ^ k' := by
    have v := (oddp_val (m * 2 ^ k) (pos_val hm)).1
    have v' := (oddp_val (m' * 2 ^ k') (pos_val hm')).1
    have hE : (oddp (m * 2 ^ k)).2 = (oddp (m' * 2 ^ k')).2 := by unfold oE at b; omega
    unfold oN at hN
    rw [← v, ← v', hN, hE]
  exact sc_unique h h' hm hv
theorem oN_head (m k : Nat) : ∃ c r, oT m k = c :: r ∧ 48 ≤ c.toNat ∧ c.toNat ≤ 57 := by
  obtain ⟨c, r, hd, h1, h2⟩ := digits_first (oN m k)
  refine ⟨c, r ++ 42 :: (50 :: 94 :: Lib.itoa (oE m k)), ?_, h1, h2⟩
  rw [oT_form, Lib.itoa_nonneg, hd]; rfl
theorem oT_mem (m k : Nat) : (42 : UInt8) ∈ oT m k := by rw [oT_form]; simp

/-- What stands behind the sign: how a text begins. -/
theorem TextR.inj {x y : Nat} {t : List UInt8} (h : TextR x t) (h' : TextR y t) : x = y ∨ (nan x ∧ nan y) := by
  have n42 : ∀ {l : List UInt8}, l = [110, 97, 110] ∨ l = [105, 110, 102] ∨ l = [45, 105, 110, 102] ∨ l = [48] ∨ l = [45, 48] → (42 : UInt8) ∉ l := by
    intro l hl
    rcases hl with rfl | rfl | rfl | rfl | rfl <;> decide
  have key : ∀ {x y : Nat} {t : List UInt8} {m k : Nat}, t = oT m k ∨ t = 45 :: oT m k → t = [110, 97, 110] ∨ t = [105, 110, 102] ∨ t = [45, 105, 110, 102] ∨ t = [48] ∨ t = [45, 48] → False := by
    intro x y t m k h1 h2
    refine n42 h2 ?_
    rcases h1 with h | h
    · rw [h]; exact oT_mem m k
    · rw [h]; exact List.mem_cons_of_mem _ (oT_mem m k)
  have sgn : ∀ {m k m' k' : Nat}, oT m k ≠ 45 :: oT m' k' := by
    intro m k m' k' e
    obtain ⟨c, r, hc, h1, h2⟩ := oN_head m k
    rw [hc] at e
    have := (List.cons.inj e).1
    have h3 := congrArg UInt8.toNat this
    have h4 : (45 : UInt8).toNat = 45 := rfl
    omega
  rcases h.form with ⟨a, rfl⟩ | ⟨rfl, rfl⟩ | ⟨rfl, rfl⟩ | ⟨rfl, rfl⟩ | ⟨rfl, rfl⟩ | ⟨m, k, g1, g2, g3, rfl, ht⟩ | ⟨m, k, g1, g2, g3, rfl, ht⟩
  · rcases h'.form with ⟨b, -⟩ | ⟨-, e⟩ | ⟨-, e⟩ | ⟨-, e⟩ | ⟨-, e⟩ | ⟨m', k', -, -, -, -, e⟩ | ⟨m', k', -, -, -, -, e⟩
    · exact .inr ⟨a, b⟩
    · exact absurd e (by decide)
    · exact absurd e (by decide)
    · exact absurd e (by decide)
    · exact absurd e (by decide)
    · exact (key (x := x) (y := x) (.inl e) (by simp)).elim
    · exact (key (x := x) (y := x) (.inr e) (by simp)).elim
  · rcases h'.form with ⟨-, e⟩ | ⟨e, -⟩ | ⟨-, e⟩ | ⟨-, e⟩ | ⟨-, e⟩ | ⟨m', k', -, -, -, -, e⟩ | ⟨m', k', -, -, -, -, e⟩
    · exact absurd e (by decide)
    · exact .inl e.symm
    · exact absurd e (by decide)
    · exact absurd e (by decide)
    · exact absurd e (by decide)
    · exact (key (x := y) (y := y) (.inl e) (by simp)).elim
    · exact (key (x := y) (y := y) (.inr e) (by simp)).elim
  · rcases h'.form with ⟨-, e⟩ | ⟨-, e⟩ | ⟨e, -⟩ | ⟨-, e⟩ | ⟨-, e⟩ | ⟨m', k', -, -, -, -, e⟩ | ⟨m', k', -, -, -, -, e⟩
    · exact absurd e (by decide)
    · exact absurd e (by decide)
    · exact .inl e.symm
    · exact absurd e (by decide)
    · exact absurd e (by decide)
    · exact (key (x := y) (y := y) (.inl e) (by simp)).elim
    · exact (key (x := y) (y := y) (.inr e) (by simp)).elim
  · rcases h'.form with ⟨-, e⟩ | ⟨-, e⟩ | ⟨-, e⟩ | ⟨e, -⟩ | ⟨-, e⟩ | ⟨m', k', -, -, -, -, e⟩ | ⟨m', k', -, -, -, -, e⟩
    · exact absurd e (by decide)
    · exact absurd e (by decide)
    · exact absurd e (by decide)
    · exact .inl e.symm
    · exact absurd e (by decide)
    · exact (key (x := y) (y := y) (.inl e) (by simp)).elim
    · exact (key (x := y) (y := y) (.inr e) (by simp)).elim
  · rcases h'.form with ⟨-, e⟩ | ⟨-, e⟩ | ⟨-, e⟩ | ⟨-, e⟩ | ⟨e, -⟩ | ⟨m', k', -, -, -, -, e⟩ | ⟨m', k', -, -, -, -, e⟩
    · exact absurd e (by decide)
    · exact absurd e (by decide)
    · exact absurd e (by decide)
    · exact absurd e (by decide)
    · exact .inl e.symm
    · exact (key (x := y) (y := y) (.inl e) (by simp)).elim
    · exact (key (x := y) (y := y) (.inr e) (by simp)).elim
  · rcases h'.form with ⟨-, e⟩ | ⟨-, e⟩ | ⟨-, e⟩ | ⟨-, e⟩ | ⟨-, e⟩ | ⟨m', k', f1, f2, f3, rfl, e⟩ | ⟨m', k', -, -, -, -, e⟩
    · exact (key (x := y) (y := y) (.inl ht) (by simp [e])).elim
    · exact (key (x := y) (y := y) (.inl ht) (by simp [e])).elim
    · exact (key (x := y) (y := y) (.inl ht) (by simp [e])).elim
    · exact (key (x := y) (y := y) (.inl ht) (by simp [e])).elim
    · exact (key (x := y) (y := y) (.inl ht) (by simp [e])).elim
    · obtain ⟨rfl, rfl⟩ := oT_inj g1 g3 f1 f3 (ht.symm.trans e); exact .inl rfl
    · exact absurd (ht.symm.trans e) sgn
  · rcases h'.form with ⟨-, e⟩ | ⟨-, e⟩ | ⟨-, e⟩ | ⟨-, e⟩ | ⟨-, e⟩ | ⟨m', k', -, -, -, -, e⟩ | ⟨m', k', f1, f2, f3, rfl, e⟩
    · exact (key (x := y) (y := y) (.inr ht) (by simp [e])).elim
    · exact (key (x := y) (y := y) (.inr ht) (by simp [e])).elim
    · exact (key (x := y) (y := y) (.inr ht) (by simp [e])).elim
    · exact (key (x := y) (y := y) (.inr ht) (by simp [e])).elim
    · exact (key (x := y) (y := y) (.inr ht) (by simp [e])).elim
    · exact absurd (e.symm.trans ht) sgn
    · obtain ⟨rfl, rfl⟩ := oT_inj g1 g3 f1 f3 (List.cons.inj (ht.symm.trans e)).2; exact .inl rfl

/-- What RealRead may answer. -/
def RdR (t : List UInt8) (x : Nat) (b : Bool) : Prop := x < 2 ^ 64 ∧ ((b = true ∧ TextR x t) ∨ (b = false ∧ x = 0 ∧ ∀ y, ¬ TextR y t))
theorem RdR.one {t : List UInt8} {x x' : Nat} {b b' : Bool} (h : RdR t x b) (h' : RdR t x' b') : b = b' ∧ (x = x' ∨ (nan x ∧ nan x')) := by
  rcases h.2 with ⟨rfl, a⟩ | ⟨rfl, rfl, a⟩ <;> rcases h'.2 with ⟨rfl, c⟩ | ⟨rfl, rfl, c⟩
  · exact ⟨rfl, a.inj c⟩
  · exact absurd a (c x)
  · exact absurd c (a x')
  · exact ⟨rfl, .inl rfl⟩

/-- Cut at the first of three signs. -/
theorem cut_at {a b : List UInt8} (h : (42 : UInt8) ∉ a) : Lib.cut (a ++ 42 :: (50 :: 94 :: b)) [42, 50, 94] = (a, b, true) := by
  have hi : Lib.index (a ++ 42 :: (50 :: 94 :: b)) [42, 50, 94] = (a.length : Int) := by
    refine Lib.index_first (by simp) ?_ ?_
    · unfold Lib.occAt
      rw [List.drop_left' rfl]
      simp [List.isPrefixOf]
    · intro j hj
      unfold Lib.occAt
      have hd : ∃ c r, (a ++ 42 :: (50 :: 94 :: b)).drop j = c :: r ∧ c ∈ a := by
        rw [List.drop_append_of_le_length (by omega)]
        cases hh : a.drop j with
        | nil => have := congrArg List.length hh; simp at this; omega
        | cons c r => exact ⟨c, _, rfl, List.mem_of_mem_drop (i := j) (by rw [hh]; simp)⟩
      obtain ⟨c, r, e, hc⟩ := hd
      rw [e]
      have : ((42 : UInt8) == c) = false := by
        rw [beq_eq_false_iff_ne]; intro e; rw [e] at h; exact h hc
      simp [List.isPrefixOf, this]
  unfold Lib.cut
  rw [hi, if_pos (by omega)]
  simp
end Go.Proofs.YtlflihegadjpdaaDoor

/- Texts of two real numbers are the same just if the numbers are. Helper text: no statement is claimed here. -/
namespace Go.Proofs.YtlflihegadjpdaaDoor
open Go.ChangeShapes Go.WideShapes Go.ChangeAt Go.RowKit Fl

theorem text_iff {x y : Nat} {s t : List UInt8} (hs : TextR x s) (ht : TextR y t) : s = t ↔ SameV x y := by
  constructor
  · rintro rfl; exact hs.inj ht
  · rintro (rfl | ⟨h1, h2⟩)
    · exact hs.one ht
    · exact (hs.one (.isnan h1)).trans (ht.one (.isnan h2)).symm
end Go.Proofs.YtlflihegadjpdaaDoor
