/- Real numbers of 64 bits: what a word is asked; doubled and halved. Helper text: no statement is claimed here. -/
import Derived.Test.YtmgjngihngddfaaGreatDoorP05
import Derived.Test.YtmgjngihngddfaaGreatDoorRows
import Derived.WalkKit
import Derived.ProofKit
import Derived.OpenShut
import Derived.Below
import Derived.WalkSmall
import Derived.WalkLawsBesides
import Derived.Test.YtmgjngihngddfaaGreatDoorP02
import Derived.Test.YtmgjngihngddfaaGreatDoorP03
namespace Go.Proofs.YtmgjngihngddfaaGreatDoor.Fl
open Ieee

theorem pos_val {m k : Nat} (hm : 0 < m) : 0 < m * 2 ^ k := Nat.mul_pos hm (Nat.two_pow_pos k)

/-- What a word is asked: is it nan, above the greatest, below the least, 0, below 0. -/
structure Asks (x : Nat) (n hi lo z ng : Bool) : Prop where
  n : (ord x x != some .eq) = n
  hi : (ord x 9218868437227405311 == some .gt) = hi
  lo : (ord x 18442240474082181119 == some .lt) = lo
  z : (ord x 0 == some .eq) = z
  ng : (ord x 0 == some .lt) = ng

theorem asks_nan {x : Nat} (h : nan x) : Asks x true false false false false := by
  have a := fun b => order_nan_left h b
  constructor <;> simp only [ord, Go.FloatKind.format, a] <;> rfl
theorem neq_self {x : Nat} (h : x < 2 ^ 64) (hn : ¬ nan x) : (ord x x != some .eq) = false := by
  simp only [ord, Go.FloatKind.format, order_self h hn]; rfl

theorem asks_wd {m k : Nat} (h : Sc m k) (hk : k ≤ 2045) (s : Bool) : Asks (wd s m k) false false false (decide (m = 0)) (s && decide (0 < m)) := by
  have v := max_val h hk
  have p := @pos_val m k
  have z : m = 0 → m * 2 ^ k = 0 := by rintro rfl; simp
  generalize hV : m * 2 ^ k = V at *
  constructor
  · exact neq_self (wd_lt h hk s) (not_nan_wd h hk s)
  · rw [← wMax, ord_gt h hk scMax (Nat.le_refl _), hV]
    generalize (2 ^ 53 - 1) * 2 ^ 2045 = M at *
    cases s <;> simp [sg] <;> omega
  · rw [← wMaxN, ord_lt h hk scMax (Nat.le_refl _), hV]
    generalize (2 ^ 53 - 1) * 2 ^ 2045 = M at *
    cases s <;> simp [sg] <;> omega
  · show (ord (wd s m k) (wd false 0 0) == _) = _
    rw [ord_eq h hk sc00 (by omega), hV]
    clear v
    by_cases hm : m = 0
    · have := z hm; subst hm; cases s <;> simp [sg, this]
    · have := p (by omega); cases s <;> simp [sg, hm] <;> omega
  · show (ord (wd s m k) (wd false 0 0) == _) = _
    rw [ord_lt h hk sc00 (by omega), hV]
    clear v
    by_cases hm : m = 0
    · have := z hm; subst hm; cases s <;> simp [sg, this]
    · have := p (by omega); cases s <;> simp [sg] <;> omega

theorem asks_wi (s : Bool) : Asks (wi s) false (!s) s false s := by
  constructor
  · exact neq_self (wi_lt s) (not_nan_wi s)
  · rw [← wMax]; simp only [ord, Go.FloatKind.format, order_wi_wd scMax (Nat.le_refl _)]; cases s <;> rfl
  · rw [← wMaxN]; simp only [ord, Go.FloatKind.format, order_wi_wd scMax (Nat.le_refl _)]; cases s <;> rfl
  · rw [← w0]; simp only [ord, Go.FloatKind.format, order_wi_wd sc00 (by omega : 0 ≤ 2045)]; cases s <;> rfl
  · rw [← w0]; simp only [ord, Go.FloatKind.format, order_wi_wd sc00 (by omega : 0 ≤ 2045)]; cases s <;> rfl

/-- 1 by a zero. -/
theorem one_by_zero (s : Bool) : Go.floatBits .quo .f64 4607182418800017408 (wd s 0 0) = some (wi s) := by
  cases s <;> rfl

/-- Is it below 2 to the 52; is it 2 to the 53 or more. -/
theorem ask52 {m k : Nat} (h : Sc m k) (hk : k ≤ 2045) : (ord (wd false m k) 4841369599423283200 == some .lt) = decide (k < 1074) := by
  rw [← w52, ord_lt h hk sc52 (by omega)]
  have := lt_pow (j := 1074) h (by omega)
  simp only [sg, Bool.false_eq_true, if_false, Int.ofNat_lt, this]
theorem ask53 {m k : Nat} (h : Sc m k) (hk : k ≤ 2045) : (ord (wd false m k) 4845873199050653696 == some .gt || ord (wd false m k) 4845873199050653696 == some .eq) = decide (1075 ≤ k) := by
  rw [← w53, ord_gt h hk sc53 (by omega), ord_eq h hk sc53 (by omega)]
  have := lt_pow (j := 1075) h (by omega)
  simp only [sg, Bool.false_eq_true, if_false, Int.ofNat_lt, Int.ofNat_inj]
  generalize 2 ^ 52 * 2 ^ 1075 = A at *
  generalize m * 2 ^ k = V at *
  rw [Bool.eq_iff_iff]
  simp
  omega

theorem toInt_i64 {m : Nat} (h : Sc m 1074) : Go.floatToIntVal .f64 (wd false m 1074) .i64 = some (m : Int) := by
  unfold Go.floatToIntVal
  have := toInt_wd h (by omega) false
  rw [Nat.mul_div_cancel _ (Nat.two_pow_pos 1074)] at this
  show (match (double.read (wd false m 1074)).toInt .zero with | some n => _ | none => none) = _
  rw [this]
  have h1 := h.hm
  have e1 : Go.IntKind.i64.min = -9223372036854775808 := rfl
  have e2 : Go.IntKind.i64.max = 9223372036854775807 := rfl
  simp only [sg, Bool.false_eq_true, if_false]
  rw [e1, e2, if_pos (by omega)]

/-- Doubled. -/
theorem dbl {m k : Nat} (h : Sc m k) (hm : 0 < m) (hk : k ≤ 2044) (s : Bool) :
    ∃ m' k', Sc m' k' ∧ 0 < m' ∧ k' ≤ k + 1 ∧ m' * 2 ^ k' = 2 * (m * 2 ^ k) ∧ Go.floatBits .mul .f64 (wd s m k) 4611686018427387904 = some (wd s m' k') := by
  obtain ⟨m', k', h1, h2, h3⟩ := sc_up h
  have hm' : 0 < m' := by
    rcases Nat.eq_zero_or_pos m' with rfl | hp
    · have := @pos_val m k hm; omega
    · exact hp
  refine ⟨m', k', h1, hm', h3, h2, ?_⟩
  show double.mul (wd s m k) two = _
  rw [mul_two h (by omega) h1 hm h2]
  have := h1.hm
  have : min (k' * 2 ^ 52 + m') double.infRung = k' * 2 ^ 52 + m' := by rw [infRung_eq]; omega
  rw [this]; rfl

/-- Halved. -/
theorem hlv {m k : Nat} (h : Sc m (k + 1)) (hk : k + 1 ≤ 2045) (s : Bool) :
    Sc m k ∧ Go.floatBits .quo .f64 (wd s m (k + 1)) 4611686018427387904 = some (wd s m k) := by
  have h2 : 2 ^ 52 ≤ m := by have := h.hk; omega
  have h1 : Sc m k := ⟨h.hm, .inr h2⟩
  refine ⟨h1, ?_⟩
  show double.div (wd s m (k + 1)) two = _
  rw [div_two h hk h1 (by omega) (by grind)]
  have := h1.hm
  have : min (k * 2 ^ 52 + m) double.infRung = k * 2 ^ 52 + m := by rw [infRung_eq]; omega
  rw [this]; rfl

theorem hlv0 {m : Nat} (h : Sc (2 * m) 0) (hm : 0 < m) (s : Bool) :
    Sc m 0 ∧ Go.floatBits .quo .f64 (wd s (2 * m) 0) 4611686018427387904 = some (wd s m 0) := by
  have := h.hm
  have h1 : Sc m 0 := ⟨by omega, .inl rfl⟩
  refine ⟨h1, ?_⟩
  show double.div (wd s (2 * m) 0) two = _
  rw [div_two h (by omega) h1 (by omega) (by grind)]
  have : min (0 * 2 ^ 52 + m) double.infRung = 0 * 2 ^ 52 + m := by rw [infRung_eq]; omega
  rw [this]; rfl

theorem nearest_word (s : Bool) (m : Nat) (e : Int) : ∃ r, r ≤ double.infRung ∧ double.nearest s m e = double.word s r := by
  unfold Format.nearest
  split
  · exact ⟨0, Nat.zero_le _, rfl⟩
  · exact ⟨_, Nat.min_le_right .., rfl⟩
theorem fin {d : Datum} (hd : d.isNaN = false) : ¬ nan (double.write d) := by
  cases d with
  | nan s t => simp [Datum.isNaN] at hd
  | infinity s => exact not_nan_wi s
  | number s m e =>
    unfold nan
    obtain ⟨r, hr, e⟩ := nearest_word s m e
    show ¬ (double.read (double.nearest _ _ _)).isNaN = true
    rw [e]
    rw [infRung_eq] at hr
    unfold Format.read
    rw [word_sign s (by omega), word_rung s (by omega), binade_eq, infRung_eq]
    by_cases h1 : r < 2 ^ 52
    · simp only [h1, if_true, Datum.isNaN]; simp
    · by_cases h2 : r < 2047 * 2 ^ 52
      · simp only [h1, if_false, h2, if_true, Datum.isNaN]; simp
      · have : r = 2047 * 2 ^ 52 := by omega
        subst this
        simp [Datum.isNaN]
/-- What is doubled or halved stays no nan. -/
theorem mul_keeps {x : Nat} (h : x < 2 ^ 64) (hn : ¬ nan x) : ∃ r, Go.floatBits .mul .f64 x 4611686018427387904 = some r ∧ r < 2 ^ 64 ∧ ¬ nan r := by
  show ∃ r, double.mul x two = some r ∧ _
  rcases cases_wd h with ⟨s, m, k, hs, hk, rfl⟩ | ⟨s, rfl⟩ | hx
  · unfold Format.mul
    rw [read_wd hs hk, read_two]
    exact ⟨_, rfl, double.write_lt _, fin rfl⟩
  · unfold Format.mul
    rw [read_wi, read_two]
    exact ⟨_, rfl, double.write_lt _, fin rfl⟩
  · exact absurd hx hn
theorem div_keeps {x : Nat} (h : x < 2 ^ 64) (hn : ¬ nan x) : ∃ r, Go.floatBits .quo .f64 x 4611686018427387904 = some r ∧ r < 2 ^ 64 ∧ ¬ nan r := by
  show ∃ r, double.div x two = some r ∧ _
  rcases cases_wd h with ⟨s, m, k, hs, hk, rfl⟩ | ⟨s, rfl⟩ | hx
  · unfold Format.div
    rw [read_wd hs hk, read_two]
    have : ¬ (2 ^ 52 = 0) := by omega
    simp only [Datum.quotient, this, if_false]
    exact ⟨_, rfl, double.write_lt _, fin rfl⟩
  · unfold Format.div
    rw [read_wi, read_two]
    exact ⟨_, rfl, double.write_lt _, fin rfl⟩
  · exact absurd hx hn
theorem ofInt_keeps (n : Int) : Go.floatOfInt .f64 n < 2 ^ 64 ∧ ¬ nan (Go.floatOfInt .f64 n) :=
  ⟨double.write_lt (.number (n < 0) n.natAbs 0), fin (d := .number (n < 0) n.natAbs 0) rfl⟩
end Go.Proofs.YtmgjngihngddfaaGreatDoor.Fl

/- Reckoning with real numbers: RealCalc of the program and of the document, and the walk of FnExactRealCalc. Helper text: no statement is claimed here. -/
namespace Go.Proofs.YtmgjngihngddfaaGreatDoor
open Go.ChangeShapes Go.WideShapes Go.ChangeAt Go.RowKit Fl

/-- One value: the same bits, or both nan. -/
def SameV (x y : Nat) : Prop := x = y ∨ (nan x ∧ nan y)
/-- The world with one more thing drawn. -/
abbrev drewW (w : World) : World := { w with drawn := w.drawn + 1 }

theorem nan_cut (a b t : Nat) : nan (Question.cut (.nanBits .f64 a b) t) ∧ Question.cut (.nanBits .f64 a b) t < 2 ^ 64 := by
  have e : Question.cut (.nanBits .f64 a b) t = Ieee.double.word (t % 2 == 1) (2047 * 2 ^ 52 + 1 + (t / 2) % (2 ^ 52 - 1)) := by
    show (t % 2) * 2 ^ 63 + 0x7ff0000000000000 + 1 + (t / 2) % (2 ^ 52 - 1) = _
    unfold Ieee.Format.word
    rw [signWeight_eq]
    split <;> rename_i h <;> simp at h <;> omega
  have hl : (t / 2) % (2 ^ 52 - 1) < 2 ^ 52 - 1 := Nat.mod_lt _ (by omega)
  rw [e]
  generalize (t / 2) % (2 ^ 52 - 1) = f at *
  generalize (t % 2 == 1) = s at *
  refine ⟨?_, Ieee.Format.word_lt _ s (by rw [signWeight_eq]; omega)⟩
  unfold nan Ieee.Format.read
  rw [word_sign s (by omega), word_rung s (by omega), binade_eq, infRung_eq]
  have a1 : ¬ 2047 * 2 ^ 52 + 1 + f < 2 ^ 52 := by omega
  have a2 : ¬ 2047 * 2 ^ 52 + 1 + f < 2047 * 2 ^ 52 := by omega
  have a3 : ¬ 2047 * 2 ^ 52 + 1 + f = 2047 * 2 ^ 52 := by omega
  simp only [a1, a2, a3, if_false, Ieee.Datum.isNaN]

def arith (op : BinOp) : Prop := op = .add ∨ op = .sub ∨ op = .mul ∨ op = .quo
/-- Where there is no number, there comes a nan. -/
theorem run_nan (op : BinOp) (ho : arith op) (t : TypeId) (x y : Nat) (w : World) (h : floatBits op .f64 x y = none) :
    ∃ r, (binOp op t (.float .f64 x) (.float .f64 y)).run Tryz.prog w = .ok (.float .f64 r) (drewW w) ∧ nan r ∧ r < 2 ^ 64 := by
  refine ⟨_, ?_, nan_cut x y (w.tape w.drawn (.nanBits .f64 x y))⟩
  unfold floatBits at h
  rcases ho with rfl | rfl | rfl | rfl <;> simp only at h <;> simp [binOp, Op.floatArith, h, Question.forced]

theorem drewW_below {B : Nat} {w w' : World} (h : Below B w w') : Below B w (drewW w') := h.drew
end Go.Proofs.YtmgjngihngddfaaGreatDoor

/- The words' real numbers: Inf, Copysign, realWords. Helper text: no statement is claimed here. -/
namespace Go.Proofs.YtmgjngihngddfaaGreatDoor
open Go.ChangeShapes Go.WideShapes Go.ChangeAt Go.RowKit Fl

theorem store_float (P : Program) (w : World) (a : Addr) (k : FloatKind) (b : Nat) (m : Mode) : (store a (.float k b) m).run P w = stored P w a (.float k b) m := run_store P w a _ m rfl
theorem unary_negF (k : FloatKind) (b : Nat) : Op.unary .neg (.float k b) = pure (.float k (Op.negFloat k b)) := rfl
theorem frombits (n : Int) (w : World) : (callFunc 116 #[.int .u64 n]).run Tryz.prog w = .ok (.value (.float .f64 n.toNat)) w := by
  rw [run_callFunc_extern Tryz.func116 (by kernel_rfl) (by kernel_rfl) (by kernel_rfl) (e := Extern.MathFloatBits.float64frombits) (by kernel_rfl)]
  rfl
theorem tobits (n : Nat) (w : World) : (callFunc 117 #[.float .f64 n]).run Tryz.prog w = .ok (.value (.int .u64 n)) w := by
  rw [run_callFunc_extern Tryz.func117 (by kernel_rfl) (by kernel_rfl) (by kernel_rfl) (e := Extern.MathFloatBits.float64bits) (by kernel_rfl)]
  rfl
section
attribute [local go_sem] frombits tobits
set_option maxHeartbeats 400000 in
theorem mathNaN_any (w : World) : Calls Tryz.prog 113 #[] w fun e w' => e = .returned (.float .f64 9221120237041090561) ∧ w' = w := by
  go_enter Tryz.func113, Tryz.ntmps113
  go_wp2
  go_ret
  exact ⟨rfl, rfl⟩
set_option maxHeartbeats 400000 in
theorem mathInf_up (w : World) : Calls Tryz.prog 114 #[.int .i64 1] w fun e w' => e = .returned (.float .f64 (wi false)) ∧ w' = w := by
  go_enter Tryz.func114, Tryz.ntmps114
  go_wp2
  go_ret
  exact ⟨rfl, rfl⟩
set_option maxHeartbeats 400000 in
theorem mathInf_down (w : World) : Calls Tryz.prog 114 #[.int .i64 (-1)] w fun e w' => e = .returned (.float .f64 (wi true)) ∧ w' = w := by
  go_enter Tryz.func114, Tryz.ntmps114
  go_wp2
  go_ret
  exact ⟨rfl, rfl⟩
set_option maxHeartbeats 400000 in
theorem mathCopy (w : World) : Calls Tryz.prog 115 #[.float .f64 0, .float .f64 13830554455654793216] w fun e w' => e = .returned (.float .f64 (wd true 0 0)) ∧ w' = w := by
  go_enter Tryz.func115, Tryz.ntmps115
  go_wp2
  go_ret
  exact ⟨rfl, rfl⟩
end
theorem nan_lib : nan 9221120237041090561 := by rfl
/-- Four cells of the call's own lie in block b. -/
def Own4 (w : World) (b : Nat) (x0 x1 x2 x3 : Value) : Prop :=
  (w.cell? ⟨b, 0, none⟩ = some x0 ∧ w.cell? ⟨b, 1, none⟩ = some x1 ∧ w.cell? ⟨b, 2, none⟩ = some x2 ∧ w.cell? ⟨b, 3, none⟩ = some x3) ∧ w.frozen? ⟨b, 0, none⟩ = false ∧ w.frozen? ⟨b, 1, none⟩ = false ∧ w.frozen? ⟨b, 2, none⟩ = false ∧ w.frozen? ⟨b, 3, none⟩ = false
theorem Own4.new (w : World) (x0 x1 x2 x3 : Value) (t : TypeId) : Own4 (w.alloc (.cells #[x0, x1, x2, x3] t)) w.heap.size x0 x1 x2 x3 := by
  refine ⟨⟨?_, ?_, ?_, ?_⟩, ?_, ?_, ?_, ?_⟩ <;> simp [go_sem]
theorem put4 {w1 : World} {b : Nat} {x0 x1 x2 x3 u0 u1 u2 u3 : Value} (hc : w1.cell? ⟨b, 0, none⟩ = some u0 ∧ w1.cell? ⟨b, 1, none⟩ = some u1 ∧ w1.cell? ⟨b, 2, none⟩ = some u2 ∧ w1.cell? ⟨b, 3, none⟩ = some u3) :
    let W := (((w1.setCell ⟨b, 0, none⟩ x0).setCell ⟨b, 1, none⟩ x1).setCell ⟨b, 2, none⟩ x2).setCell ⟨b, 3, none⟩ x3
    W.cell? ⟨b, 0, none⟩ = some x0 ∧ W.cell? ⟨b, 1, none⟩ = some x1 ∧ W.cell? ⟨b, 2, none⟩ = some x2 ∧ W.cell? ⟨b, 3, none⟩ = some x3 := by
  obtain ⟨h0, h1, h2, h3⟩ := hc
  have o : ∀ (w : World) (i j : Nat) (v : Value), i ≠ j → (w.setCell ⟨b, i, none⟩ v).cell? ⟨b, j, none⟩ = w.cell? ⟨b, j, none⟩ := fun w i j v _ => World.cell?_setCell_other _ _ _ _ (by simp)
  intro W
  refine ⟨?_, ?_, ?_, ?_⟩
  · rw [o _ 3 0 _ (by omega), o _ 2 0 _ (by omega), o _ 1 0 _ (by omega)]; exact World.cell?_setCell_same _ _ _ h0
  · rw [o _ 3 1 _ (by omega), o _ 2 1 _ (by omega)]; exact World.cell?_setCell_same _ _ _ ((o _ 0 1 _ (by omega)).trans h1)
  · rw [o _ 3 2 _ (by omega)]; exact World.cell?_setCell_same _ _ _ ((o _ 1 2 _ (by omega)).trans ((o _ 0 2 _ (by omega)).trans h2))
  · exact World.cell?_setCell_same _ _ _ ((o _ 2 3 _ (by omega)).trans ((o _ 1 3 _ (by omega)).trans ((o _ 0 3 _ (by omega)).trans h3)))
theorem res4 {fn : Func} {W : World} {b p : Nat} {tmps : Array Value} {x0 x1 x2 x3 : Value} (h : fn.results = #[.cell p 146]) (hp : tmps.getD p undef = .pointer (some ⟨b, 0, none⟩))
    (hc : W.cell? ⟨b, 0, none⟩ = some x0 ∧ W.cell? ⟨b, 1, none⟩ = some x1 ∧ W.cell? ⟨b, 2, none⟩ = some x2 ∧ W.cell? ⟨b, 3, none⟩ = some x3) : (results fn tmps).run Tryz.prog W = .ok (.agg #[x0, x1, x2, x3]) W := by
  obtain ⟨h0, h1, h2, h3⟩ := hc
  simp only [results, h]
  simp [go_sem]
  rw [show tmps[p]?.getD undef = .pointer (some ⟨b, 0, none⟩) by simpa [Array.getD_eq_getD_getElem?] using hp]
  simp [go_sem, h0, h1, h2, h3]

def wordsV : Value := .agg #[.float .f64 9221120237041090561, .float .f64 (wi false), .float .f64 (wi true), .float .f64 (wd true 0 0)]
section
attribute [local go_sem] store_float
set_option maxHeartbeats 400000 in
theorem words_any (w : World) : Calls Tryz.prog 105 #[] w fun e w' => e = .returned wordsV ∧ Below w.heap.size w w' := by
  go_enter Tryz.func105, Tryz.ntmps105
  go_wp2_with fail
  refine (mathNaN_any _).mono ?_
  rintro e w1 ⟨rfl, hw1⟩
  obtain ⟨c, z0, z1, z2, z3⟩ := Own4.new w (.float .f64 0) (.float .f64 0) (.float .f64 0) (.float .f64 0) 146
  have hb : Below w.heap.size w w1 := by rw [hw1]; exact (Below.refl _ _).alloc (Nat.le_refl _) _
  rw [← hw1] at c z0 z1 z2 z3
  clear hw1
  obtain ⟨c0, c1, c2, c3⟩ := c
  go_wp2_with fail
  refine (mathInf_up _).mono ?_
  rintro e w2 ⟨rfl, rfl⟩
  go_wp2_with fail
  refine (mathInf_down _).mono ?_
  rintro e w2 ⟨rfl, rfl⟩
  go_wp2_with fail
  refine (mathCopy _).mono ?_
  rintro e w2 ⟨rfl, rfl⟩
  go_wp2
  exact bodyPost_ret (v := wordsV) (res4 Tryz.results105 rfl (put4 ⟨c0, c1, c2, c3⟩)) rfl ⟨rfl, (((hb.setCell (Nat.le_refl _) _).setCell (Nat.le_refl _) _).setCell (Nat.le_refl _) _).setCell (Nat.le_refl _) _⟩
end
end Go.Proofs.YtmgjngihngddfaaGreatDoor

/- Real numbers of 64 bits: whole numbers and their quotients. Helper text: no statement is claimed here. -/
namespace Go.Proofs.YtmgjngihngddfaaGreatDoor.Fl
open Ieee
theorem ofInt_z {n : Int} (h : n.natAbs < 2 ^ 53) (z : Nat) (hz : z = 1074) : ∃ m k, Sc m k ∧ k ≤ z ∧ Go.floatOfInt .f64 n = wd (n < 0) m k ∧ m * 2 ^ k = n.natAbs * 2 ^ z ∧ (n = 0 ↔ m = 0) := by
  by_cases h0 : n = 0
  · subst h0
    exact ⟨0, 0, sc00, Nat.zero_le _, rfl, by simp, by simp⟩
  · obtain ⟨m, k, hs, e, hk⟩ := exists_sc n.natAbs h z
    have hm : 0 < m := by
      rcases Nat.eq_zero_or_pos m with rfl | hp
      · exfalso
        rw [Nat.zero_mul] at e
        have : 0 < n.natAbs * 2 ^ z := pos_val (by omega)
        omega
      · exact hp
    refine ⟨m, k, hs, hk, ?_, e, ⟨fun h => absurd h h0, fun h => by omega⟩⟩
    subst hz
    exact floatOfInt_sc hs hm e (by omega)
theorem ofInt_wd {n : Int} (h : n.natAbs < 2 ^ 53) : ∃ m k, Sc m k ∧ k ≤ 1074 ∧ Go.floatOfInt .f64 n = wd (n < 0) m k ∧ m * 2 ^ k = n.natAbs * 2 ^ 1074 ∧ (n = 0 ↔ m = 0) := ofInt_z h 1074 rfl
theorem quo_some {m k n j : Nat} (h : Sc m k) (hk : k ≤ 2045) (h' : Sc n j) (hj : j ≤ 2045) (s t : Bool) (hn : 0 < n) : ∃ r, Go.floatBits .quo .f64 (wd s m k) (wd t n j) = some r ∧ r < 2 ^ 64 ∧ ¬ nan r := by
  show ∃ r, double.div (wd s m k) (wd t n j) = some r ∧ _
  unfold Format.div
  rw [read_wd h hk, read_wd h' hj]
  have : ¬ n = 0 := by omega
  simp only [Datum.quotient, this, if_false]
  exact ⟨_, rfl, double.write_lt _, fin rfl⟩
theorem quo_ints {a b : Int} (h : a.natAbs < 2 ^ 53) (h' : b.natAbs < 2 ^ 53) (hb : b ≠ 0) : ∃ r, Go.floatBits .quo .f64 (Go.floatOfInt .f64 a) (Go.floatOfInt .f64 b) = some r ∧ r < 2 ^ 64 ∧ ¬ nan r := by
  obtain ⟨m, k, h1, h2, h3, h4, h5⟩ := ofInt_wd h
  obtain ⟨n, j, g1, g2, g3, g4, g5⟩ := ofInt_wd h'
  rw [h3, g3]
  exact quo_some h1 (by omega) g1 (by omega) _ _ (by
    rcases Nat.eq_zero_or_pos n with h | h
    · exact absurd (g5.2 h) hb
    · exact h)
end Go.Proofs.YtmgjngihngddfaaGreatDoor.Fl

/- A float operation that has an answer, as the walk meets it. Helper text: no statement is claimed here. -/
namespace Go.Proofs.YtmgjngihngddfaaGreatDoor
open Go.ChangeShapes Go.WideShapes Go.ChangeAt Go.RowKit Fl
theorem run_some {op : BinOp} {x y r : Nat} (h : floatBits op .f64 x y = some r) (t : TypeId) (w : World) : (binOp op t (.float .f64 x) (.float .f64 y)).run Tryz.prog w = .ok (.float .f64 r) w := run_float_arith w op t .f64 x y r h
end Go.Proofs.YtmgjngihngddfaaGreatDoor

/- RealArg of the program. Helper text: no statement is claimed here. -/
namespace Go.Proofs.YtmgjngihngddfaaGreatDoor
open Go.ChangeShapes Go.WideShapes Go.ChangeAt Go.RowKit Fl

/-- The real number of a word. -/
def WordR (n : Int) (r : Nat) : Prop := r < 2 ^ 64 ∧ (if n = 0 then nan r else if n = 1 then r = wi false else if n = 2 then r = wi true else r = wd true 0 0)
theorem WordR.one {n : Int} {r r' : Nat} (h : WordR n r) (h' : WordR n r') : SameV r r' := by
  have a := h.2
  have b := h'.2
  split at a
  · exact .inr ⟨a, by simpa [*] using b⟩
  split at a
  · left; rw [a]; simp_all
  split at a
  · left; rw [a]; simp_all
  · left; rw [a]; simp_all

theorem ten_step (k : Nat) : ((10 ^ k : Nat) : Int) * 10 = ((10 ^ (k + 1) : Nat) : Int) := by rw [Nat.pow_succ]; push_cast; rfl
theorem ten_le {k : Nat} (h : k ≤ 6) : 1 ≤ (10 ^ k : Nat) ∧ (10 ^ k : Nat) ≤ 1000000 :=
  ⟨Nat.pow_pos (by omega), Nat.pow_le_pow_right (n := 10) (by omega) h⟩
theorem dec_some {n : Int} {p : Nat} (h0 : -999999999 ≤ n) (h9 : n ≤ 999999999) (hp : p ≤ 6) : ∃ r, floatBits .quo .f64 (floatOfInt .f64 n) (floatOfInt .f64 ((10 ^ p : Nat) : Int)) = some r ∧ r < 2 ^ 64 ∧ ¬ nan r := by
  have := ten_le hp
  generalize (10 ^ p : Nat) = t at *
  exact quo_ints (by omega) (by omega) (by omega)
def DecR (n : Int) (p : Nat) (w : World) (e : Ending) (w' : World) : Prop := ∃ r, e = .returned (.float .f64 r) ∧ floatBits .quo .f64 (floatOfInt .f64 n) (floatOfInt .f64 ((10 ^ p : Nat) : Int)) = some r ∧ r < 2 ^ 64 ∧ w' = w

set_option maxHeartbeats 400000 in
theorem dec_loop (n : Int) (p : Nat) (w : World) (h0 : -999999999 ≤ n) (h9 : n ≤ 999999999) (hp : p ≤ 6) :
    Calls Tryz.prog 104 #[.int .i64 n, .int .i64 (p : Int)] w (DecR n p w) := by
  go_enter Tryz.func104, Tryz.ntmps104
  go_wp2
  go_loop [5, 7] (fun t c => ∃ k : Nat, k ≤ p ∧ t = .int .i64 ((10 ^ k : Nat) : Int) ∧ c = .int .i64 (k : Int)) (fun _ c => 10 - (intOf c).toNat)
  case atStart => exact ⟨0, by omega, rfl, rfl⟩
  case round =>
    obtain ⟨k, hk, rfl, rfl⟩ := hrel
    obtain ⟨t1, t2⟩ := ten_le (k := k) (by omega)
    by_cases hlt : k < p
    · have hlt' : (k : Int) < p := by omega
      have hs := ten_step k
      generalize hT : (10 ^ k : Nat) = T at *
      have HS : Hid ((T : Int) * 10 = _) := hs
      clear hs hT
      go_wp2
      refine ⟨⟨k + 1, by omega, ?_, by go_num⟩, by simp [intOf]; omega⟩
      rw [← HS.out]
    · have hlt' : ¬ (k : Int) < p := by omega
      have hkp : k = p := by omega
      obtain ⟨r, hr, hl, -⟩ := dec_some h0 h9 hp
      rw [← hkp] at hr
      have hrun := run_some hr
      have HR : Hid (floatBits .quo .f64 (floatOfInt .f64 n) (floatOfInt .f64 ((10 ^ p : Nat) : Int)) = some r) := by rw [← hkp]; exact hr
      clear hr
      generalize hT : (10 ^ k : Nat) = T at *
      go_wp2
      go_ret
      exact ⟨r, rfl, HR.out, hl, rfl⟩

/-- What RealArg may answer. -/
def ArgR (k n p : Int) (r : Nat) : Prop := r < 2 ^ 64 ∧
  ((okB k n p = true ∧ k = 12 ∧ floatBits .quo .f64 (floatOfInt .f64 n) (floatOfInt .f64 ((10 ^ p.toNat : Nat) : Int)) = some r) ∨ (okB k n p = true ∧ k = 13 ∧ WordR n r) ∨ (¬ (okB k n p = true ∧ (k = 12 ∨ k = 13)) ∧ r = 0))
theorem ArgR.one {k n p : Int} {r r' : Nat} (h : ArgR k n p r) (h' : ArgR k n p r') : SameV r r' := by
  rcases h.2 with ⟨a1, a2, a3⟩ | ⟨a1, a2, a3⟩ | ⟨a1, a2⟩ <;> rcases h'.2 with ⟨b1, b2, b3⟩ | ⟨b1, b2, b3⟩ | ⟨b1, b2⟩
  · left; rw [a3] at b3; exact Option.some.inj b3
  · omega
  · exact absurd ⟨a1, .inl a2⟩ b1
  · omega
  · exact a3.one b3
  · exact absurd ⟨a1, .inr a2⟩ b1
  · exact absurd ⟨b1, .inl b2⟩ a1
  · exact absurd ⟨b1, .inr b2⟩ a1
  · left; rw [a2, b2]
def ArgCame (k n p : Int) (w : World) (e : Ending) (w' : World) : Prop := ∃ r, e = .returned (.float .f64 r) ∧ ArgR k n p r ∧ Below w.heap.size w w'
theorem decOk_in {n p : Int} (h : okB 12 n p = true) : -999999999 ≤ n ∧ n ≤ 999999999 ∧ 1 ≤ p ∧ p ≤ 6 := by
  rw [okB_12] at h
  simp [decOk] at h
  omega
theorem wordOk_in {n p : Int} (h : okB 13 n p = true) : 0 ≤ n ∧ n < 4 ∧ p = 0 := by
  rw [okB_13] at h
  simpa using h

set_option maxHeartbeats 400000 in
theorem iarg_12 (n p : Int) (w : World) (hT : DevTab w) : Calls Tryz.prog 93 #[.agg #[.int .i64 12, .int .i64 n, .int .i64 p]] w (ArgCame 12 n p w) := by
  cases hok : okB 12 n p
  · have HO : Hid (okB 12 n p = false) := hok
    clear hok
    go_enter Tryz.func93, Tryz.ntmps93
    go_wp2_with fail
    refine (devOk_any _ _ _ _ (hT.alloc _)).mono ?_
    rintro e w1 ⟨rfl, hb⟩
    rw [HO.out]
    obtain ⟨c0, c1, c2⟩ := arg_at 12 n p w
    have hlt : w.heap.size < (w.alloc (argO 12 n p)).heap.size := by simp
    rw [← hb.cell (p := ⟨w.heap.size, 0, none⟩) hlt] at c0
    go_wp2
    go_ret
    exact ⟨0, rfl, ⟨by omega, .inr (.inr ⟨by rw [HO.out]; simp, rfl⟩)⟩, of_one hb⟩
  · obtain ⟨h0, h9, p1, p6⟩ := decOk_in hok
    obtain ⟨q, rfl⟩ := Int.eq_ofNat_of_zero_le (show 0 ≤ p by omega)
    have HO : Hid (okB 12 n (q : Int) = true) := hok
    clear hok
    go_enter Tryz.func93, Tryz.ntmps93
    go_wp2_with fail
    refine (devOk_any _ _ _ _ (hT.alloc _)).mono ?_
    rintro e w1 ⟨rfl, hb⟩
    rw [HO.out]
    obtain ⟨c0, c1, c2⟩ := arg_at 12 n (q : Int) w
    have hlt : w.heap.size < (w.alloc (argO 12 n (q : Int))).heap.size := by simp
    rw [← hb.cell (p := ⟨w.heap.size, 0, none⟩) hlt] at c0
    rw [← hb.cell (p := ⟨w.heap.size, 1, none⟩) hlt] at c1
    rw [← hb.cell (p := ⟨w.heap.size, 2, none⟩) hlt] at c2
    go_wp2_with fail
    refine (dec_loop n q _ h0 h9 (by omega)).mono ?_
    rintro e w2 ⟨r, rfl, hr, hl, rfl⟩
    have HR : Hid (floatBits .quo .f64 (floatOfInt .f64 n) (floatOfInt .f64 ((10 ^ q : Nat) : Int)) = some r) := hr
    clear hr
    go_wp2
    go_ret
    exact ⟨r, rfl, ⟨hl, .inl ⟨HO.out, rfl, HR.out⟩⟩, of_one hb⟩
theorem word_ok {n : Int} (h0 : 0 ≤ n) (h4 : n < 4) : n = 0 ∨ n = 1 ∨ n = 2 ∨ n = 3 := by omega
theorem wordR_lib {n : Int} {r : Nat} (h : (n = 0 ∧ r = 9221120237041090561) ∨ (n = 1 ∧ r = wi false) ∨ (n = 2 ∧ r = wi true) ∨ (n = 3 ∧ r = wd true 0 0)) : WordR n r := by
  rcases h with ⟨rfl, rfl⟩ | ⟨rfl, rfl⟩ | ⟨rfl, rfl⟩ | ⟨rfl, rfl⟩
  · exact ⟨by omega, nan_lib⟩
  · exact ⟨wi_lt _, rfl⟩
  · exact ⟨wi_lt _, rfl⟩
  · exact ⟨wd_lt sc00 (by omega) _, rfl⟩

set_option maxHeartbeats 400000 in
theorem iarg_13n (n p : Int) (w : World) (hT : DevTab w) (hok : okB 13 n p = false) : Calls Tryz.prog 93 #[.agg #[.int .i64 13, .int .i64 n, .int .i64 p]] w (ArgCame 13 n p w) := by
  have HO : Hid (okB 13 n p = false) := hok
  clear hok
  go_enter Tryz.func93, Tryz.ntmps93
  go_wp2_with fail
  refine (devOk_any _ _ _ _ (hT.alloc _)).mono ?_
  rintro e w1 ⟨rfl, hb⟩
  rw [HO.out]
  go_wp2
  go_ret
  exact ⟨0, rfl, ⟨by omega, .inr (.inr ⟨by rw [HO.out]; simp, rfl⟩)⟩, of_one hb⟩
set_option maxHeartbeats 400000 in
theorem iarg_no (k n p : Int) (w : World) (h1 : (k == 12) = false) (h2 : (k == 13) = false) : Calls Tryz.prog 93 #[.agg #[.int .i64 k, .int .i64 n, .int .i64 p]] w (ArgCame k n p w) := by
  have H : Hid (k ≠ 12 ∧ k ≠ 13) := ⟨by simpa using h1, by simpa using h2⟩
  go_enter Tryz.func93, Tryz.ntmps93
  go_wp2
  go_ret
  exact ⟨0, rfl, ⟨by omega, .inr (.inr ⟨by have := H.out; omega, rfl⟩)⟩, one _ _⟩
theorem index_0 (a b c d : Value) (w : World) : Sem.run Tryz.prog (Instr.index 146 (.agg #[a, b, c, d]) (.int .i64 0)) w = .ok a w := by kernel_rfl
theorem index_1 (a b c d : Value) (w : World) : Sem.run Tryz.prog (Instr.index 146 (.agg #[a, b, c, d]) (.int .i64 1)) w = .ok b w := by kernel_rfl
theorem index_2 (a b c d : Value) (w : World) : Sem.run Tryz.prog (Instr.index 146 (.agg #[a, b, c, d]) (.int .i64 2)) w = .ok c w := by kernel_rfl
theorem index_3 (a b c d : Value) (w : World) : Sem.run Tryz.prog (Instr.index 146 (.agg #[a, b, c, d]) (.int .i64 3)) w = .ok d w := by kernel_rfl
section
attribute [local go_sem] index_0 index_1 index_2 index_3
theorem words_letters (W : World) : ∃ x0 x1 x2 x3 : Nat, (x0 = 9221120237041090561 ∧ x1 = wi false ∧ x2 = wi true ∧ x3 = wd true 0 0) ∧ ∀ (d : Nat) (os : Array Obj),
    Calls Tryz.prog 105 #[] (Sort.grow (redrawn W d) os) fun e w'' => e = .returned (.agg #[.float .f64 x0, .float .f64 x1, .float .f64 x2, .float .f64 x3]) ∧ ∃ p' : Regrown, w'' = Sort.grow (redrawn W p'.d) p'.os :=
  ⟨_, _, _, _, ⟨rfl, rfl, rfl, rfl⟩, fun _ _ => Calls.regrown_of (words_any _)⟩
set_option maxHeartbeats 400000 in
theorem iarg_13_0 (w : World) (hT : DevTab w) : Calls Tryz.prog 93 #[.agg #[.int .i64 13, .int .i64 0, .int .i64 0]] w (ArgCame 13 0 0 w) := by
  have HO : Hid (okB 13 0 0 = true) := (okB_13 0 0).trans (by decide)
  go_enter Tryz.func93, Tryz.ntmps93
  go_wp2_with fail
  refine (devOk_any _ _ _ _ (hT.alloc _)).mono ?_
  rintro e w1 ⟨rfl, hb⟩
  rw [HO.out]
  obtain ⟨c0, c1, c2⟩ := arg_at 13 0 0 w
  have hlt : w.heap.size < (w.alloc (argO 13 0 0)).heap.size := by simp
  rw [← hb.cell (p := ⟨w.heap.size, 1, none⟩) hlt] at c1
  have k1 := cell_regrown c1
  clear c0 c1 c2
  obtain ⟨x0, x1, x2, x3, hX, hg⟩ := words_letters w1
  have HX : Hid _ := hX
  clear hX
  go_wp2
  refine wp_region_quiet_below (by kernel_rfl) (by kernel_rfl) ?_
  repeat (first | go_big_quiet_step (with_reducible exact hg _ _) | quiet_step (with_reducible exact hg _ _))
  refine wpQuiet_nil ?_
  intro _ hw'
  obtain ⟨⟨dq, osq⟩, hw''⟩ := hw'
  subst hw''
  go_wp2
  go_ret
  have hwr : WordR 0 x0 := wordR_lib (.inl ⟨rfl, HX.out.1⟩)
  exact ⟨_, rfl, ⟨hwr.1, .inr (.inl ⟨HO.out, rfl, hwr⟩)⟩, of_two hb (below_regrown _ dq osq)⟩
set_option maxHeartbeats 400000 in
theorem iarg_13_1 (w : World) (hT : DevTab w) : Calls Tryz.prog 93 #[.agg #[.int .i64 13, .int .i64 1, .int .i64 0]] w (ArgCame 13 1 0 w) := by
  have HO : Hid (okB 13 1 0 = true) := (okB_13 1 0).trans (by decide)
  go_enter Tryz.func93, Tryz.ntmps93
  go_wp2_with fail
  refine (devOk_any _ _ _ _ (hT.alloc _)).mono ?_
  rintro e w1 ⟨rfl, hb⟩
  rw [HO.out]
  obtain ⟨c0, c1, c2⟩ := arg_at 13 1 0 w
  have hlt : w.heap.size < (w.alloc (argO 13 1 0)).heap.size := by simp
  rw [← hb.cell (p := ⟨w.heap.size, 1, none⟩) hlt] at c1
  have k1 := cell_regrown c1
  clear c0 c1 c2
  obtain ⟨x0, x1, x2, x3, hX, hg⟩ := words_letters w1
  have HX : Hid _ := hX
  clear hX
  go_wp2
  refine wp_region_quiet_below (by kernel_rfl) (by kernel_rfl) ?_
  repeat (first | go_big_quiet_step (with_reducible exact hg _ _) | quiet_step (with_reducible exact hg _ _))
  refine wpQuiet_nil ?_
  intro _ hw'
  obtain ⟨⟨dq, osq⟩, hw''⟩ := hw'
  subst hw''
  go_wp2
  go_ret
  have hwr : WordR 1 x1 := wordR_lib (.inr (.inl ⟨rfl, HX.out.2.1⟩))
  exact ⟨_, rfl, ⟨hwr.1, .inr (.inl ⟨HO.out, rfl, hwr⟩)⟩, of_two hb (below_regrown _ dq osq)⟩
set_option maxHeartbeats 400000 in
theorem iarg_13_2 (w : World) (hT : DevTab w) : Calls Tryz.prog 93 #[.agg #[.int .i64 13, .int .i64 2, .int .i64 0]] w (ArgCame 13 2 0 w) := by
  have HO : Hid (okB 13 2 0 = true) := (okB_13 2 0).trans (by decide)
  go_enter Tryz.func93, Tryz.ntmps93
  go_wp2_with fail
  refine (devOk_any _ _ _ _ (hT.alloc _)).mono ?_
  rintro e w1 ⟨rfl, hb⟩
  rw [HO.out]
  obtain ⟨c0, c1, c2⟩ := arg_at 13 2 0 w
  have hlt : w.heap.size < (w.alloc (argO 13 2 0)).heap.size := by simp
  rw [← hb.cell (p := ⟨w.heap.size, 1, none⟩) hlt] at c1
  have k1 := cell_regrown c1
  clear c0 c1 c2
  obtain ⟨x0, x1, x2, x3, hX, hg⟩ := words_letters w1
  have HX : Hid _ := hX
  clear hX
  go_wp2
  refine wp_region_quiet_below (by kernel_rfl) (by kernel_rfl) ?_
  repeat (first | go_big_quiet_step (with_reducible exact hg _ _) | quiet_step (with_reducible exact hg _ _))
  refine wpQuiet_nil ?_
  intro _ hw'
  obtain ⟨⟨dq, osq⟩, hw''⟩ := hw'
  subst hw''
  go_wp2
  go_ret
  have hwr : WordR 2 x2 := wordR_lib (.inr (.inr (.inl ⟨rfl, HX.out.2.2.1⟩)))
  exact ⟨_, rfl, ⟨hwr.1, .inr (.inl ⟨HO.out, rfl, hwr⟩)⟩, of_two hb (below_regrown _ dq osq)⟩
set_option maxHeartbeats 400000 in
theorem iarg_13_3 (w : World) (hT : DevTab w) : Calls Tryz.prog 93 #[.agg #[.int .i64 13, .int .i64 3, .int .i64 0]] w (ArgCame 13 3 0 w) := by
  have HO : Hid (okB 13 3 0 = true) := (okB_13 3 0).trans (by decide)
  go_enter Tryz.func93, Tryz.ntmps93
  go_wp2_with fail
  refine (devOk_any _ _ _ _ (hT.alloc _)).mono ?_
  rintro e w1 ⟨rfl, hb⟩
  rw [HO.out]
  obtain ⟨c0, c1, c2⟩ := arg_at 13 3 0 w
  have hlt : w.heap.size < (w.alloc (argO 13 3 0)).heap.size := by simp
  rw [← hb.cell (p := ⟨w.heap.size, 1, none⟩) hlt] at c1
  have k1 := cell_regrown c1
  clear c0 c1 c2
  obtain ⟨x0, x1, x2, x3, hX, hg⟩ := words_letters w1
  have HX : Hid _ := hX
  clear hX
  go_wp2
  refine wp_region_quiet_below (by kernel_rfl) (by kernel_rfl) ?_
  repeat (first | go_big_quiet_step (with_reducible exact hg _ _) | quiet_step (with_reducible exact hg _ _))
  refine wpQuiet_nil ?_
  intro _ hw'
  obtain ⟨⟨dq, osq⟩, hw''⟩ := hw'
  subst hw''
  go_wp2
  go_ret
  have hwr : WordR 3 x3 := wordR_lib (.inr (.inr (.inr ⟨rfl, HX.out.2.2.2⟩)))
  exact ⟨_, rfl, ⟨hwr.1, .inr (.inl ⟨HO.out, rfl, hwr⟩)⟩, of_two hb (below_regrown _ dq osq)⟩
end
theorem iarg_any (k n p : Int) (w : World) (hT : DevTab w) : Calls Tryz.prog 93 #[.agg #[.int .i64 k, .int .i64 n, .int .i64 p]] w (ArgCame k n p w) := by
  by_cases h1 : k = 12
  · subst h1; exact iarg_12 n p w hT
  by_cases h2 : k = 13
  · subst h2
    cases hok : okB 13 n p
    · exact iarg_13n n p w hT hok
    · obtain ⟨n0, n4, rfl⟩ := wordOk_in hok
      rcases word_ok n0 n4 with rfl | rfl | rfl | rfl
      · exact iarg_13_0 w hT
      · exact iarg_13_1 w hT
      · exact iarg_13_2 w hT
      · exact iarg_13_3 w hT
  · exact iarg_no k n p w (by simpa using h1) (by simpa using h2)
end Go.Proofs.YtmgjngihngddfaaGreatDoor

/- The document's DevOk. Helper text: no statement is claimed here. -/
namespace Go.Proofs.YtmgjngihngddfaaGreatDoor
open Go.ChangeShapes Go.WideShapes Go.ChangeAt Go.RowKit

set_option maxHeartbeats 400000 in
theorem sOk_11 (n p : Int) (w : World) :
    Calls Tryz.prog 28 #[.agg #[.int .i64 11, .int .i64 n, .int .i64 p]] w fun e w' => e = .returned (.bool (okB 11 n p)) ∧ Below w.heap.size w w' := by
  rw [okB_11]
  go_enter Tryz.func28, Tryz.ntmps28
  go_wp2
  all_goals go_ret
  all_goals exact ⟨ret_bool (by rw [Bool.eq_iff_iff]; simp <;> omega), one _ _⟩

set_option maxHeartbeats 400000 in
theorem sOk_12 (n p : Int) (w : World) :
    Calls Tryz.prog 28 #[.agg #[.int .i64 12, .int .i64 n, .int .i64 p]] w fun e w' => e = .returned (.bool (okB 12 n p)) ∧ Below w.heap.size w w' := by
  rw [okB_12]
  by_cases h5 : p = 1
  · subst h5
    go_enter Tryz.func28, Tryz.ntmps28
    go_wp2
    all_goals go_ret
    all_goals exact ⟨ret_bool (by rw [Bool.eq_iff_iff]; simp [decOk] <;> omega), one _ _⟩
  · have h5' : (p == 1) = false := by simpa using h5
    have h6 : Hid (p ≠ 1) := h5
    clear h5
    go_enter Tryz.func28, Tryz.ntmps28
    go_wp2
    all_goals go_ret
    all_goals exact ⟨ret_bool (by have h7 := h6.out; rw [Bool.eq_iff_iff]; simp [decOk, h7] <;> omega), one _ _⟩

set_option maxHeartbeats 400000 in
theorem sOk_13 (n p : Int) (w : World) :
    Calls Tryz.prog 28 #[.agg #[.int .i64 13, .int .i64 n, .int .i64 p]] w fun e w' => e = .returned (.bool (okB 13 n p)) ∧ Below w.heap.size w w' := by
  rw [okB_13]
  go_enter Tryz.func28, Tryz.ntmps28
  go_wp2
  all_goals go_ret
  all_goals exact ⟨ret_bool (by rw [Bool.eq_iff_iff]; simp <;> omega), one _ _⟩

set_option maxHeartbeats 400000 in
theorem sOk_dev (k n p : Int) (w : World) (h1 : (k == 11) = false) (h2 : (k == 12) = false) (h3 : (k == 13) = false) :
    Calls Tryz.prog 28 #[.agg #[.int .i64 k, .int .i64 n, .int .i64 p]] w fun e w' => e = .returned (.bool (decide (0 ≤ n ∧ n < rN (kz k) ∧ p = 0))) ∧ Below w.heap.size w w' := by
  have hb := rN_bd (kz k)
  by_cases hn : n < 0
  · rw [show decide (0 ≤ n ∧ n < rN (kz k) ∧ p = 0) = false by simp; omega]
    have hd : decide (0 ≤ n) = false := by simp; omega
    go_enter Tryz.func28, Tryz.ntmps28
    go_wp2
    go_quiet (fail)
    go_wp2
    go_ret
    exact ⟨rfl, below_drewN (one _ _) _⟩
  have hn : 0 ≤ n := by omega
  by_cases hl : n < rN (kz k)
  · rw [show decide (0 ≤ n ∧ n < rN (kz k) ∧ p = 0) = (p == 0) by rw [Bool.eq_iff_iff]; simp; omega]
    go_enter Tryz.func28, Tryz.ntmps28
    go_wp2
    go_quiet ((go_at_call 55; exact Calls.quiet_of_same (ssize_any _ _)))
    go_wp2
    go_ret
    exact ⟨rfl, below_drewN (one _ _) _⟩
  · rw [show decide (0 ≤ n ∧ n < rN (kz k) ∧ p = 0) = false by simp; omega]
    have hd : decide (n < rN (kz k)) = false := by simp; omega
    go_enter Tryz.func28, Tryz.ntmps28
    go_wp2
    go_quiet ((go_at_call 55; exact Calls.quiet_of_same (ssize_any _ _)))
    go_wp2
    go_ret
    exact ⟨rfl, below_drewN (one _ _) _⟩

theorem sOk_any (k n p : Int) (w : World) :
    Calls Tryz.prog 28 #[.agg #[.int .i64 k, .int .i64 n, .int .i64 p]] w fun e w' => e = .returned (.bool (okB k n p)) ∧ Below w.heap.size w w' := by
  by_cases h1 : k = 11
  · subst h1; exact sOk_11 n p w
  by_cases h2 : k = 12
  · subst h2; exact sOk_12 n p w
  by_cases h3 : k = 13
  · subst h3; exact sOk_13 n p w
  rw [okB_dev k n p h1 h2 h3]
  exact sOk_dev k n p w (by simpa using h1) (by simpa using h2) (by simpa using h3)

theorem okB_kind {k n p : Int} (h : okB k n p = true) : 1 ≤ k ∧ k ≤ 13 := by
  by_cases hk : 1 ≤ k ∧ k ≤ 13
  · exact hk
  · rw [okB_dev k n p (by omega) (by omega) (by omega), kz_no k (by omega)] at h
    simp [rN] at h
    omega
theorem kinds {k : Int} (h : 1 ≤ k ∧ k ≤ 13) : k = 1 ∨ k = 2 ∨ k = 3 ∨ k = 4 ∨ k = 5 ∨ k = 6 ∨ k = 7 ∨ k = 8 ∨ k = 9 ∨ k = 10 ∨ k = 11 ∨ k = 12 ∨ k = 13 := by omega

end Go.Proofs.YtmgjngihngddfaaGreatDoor

/- RealArg of the document: words. Helper text: no statement is claimed here. -/
namespace Go.Proofs.YtmgjngihngddfaaGreatDoor
open Go.ChangeShapes Go.WideShapes Go.ChangeAt Go.RowKit Fl

def IsNan (w : World) (e : Ending) (w' : World) : Prop := ∃ r, e = .returned (.float .f64 r) ∧ nan r ∧ r < 2 ^ 64 ∧ Below w.heap.size w w'
set_option maxHeartbeats 400000 in
theorem l2Nan_any (w : World) : Calls Tryz.prog 59 #[] w (IsNan w) := by
  obtain ⟨r, hr, hn, hl⟩ := run_nan .quo (by simp [arith]) 34 0 0 w (by rfl)
  go_enter Tryz.func59, Tryz.ntmps59
  go_wp2
  go_ret
  exact ⟨r, rfl, hn, hl, drewW_below (Below.refl _ _)⟩
set_option maxHeartbeats 400000 in
theorem l2Inf_any (w : World) : Calls Tryz.prog 60 #[] w fun e w' => e = .returned (.float .f64 (wi false)) ∧ w' = w := by
  have h := run_some (show floatBits .quo .f64 4607182418800017408 0 = some (wi false) from one_by_zero false)
  go_enter Tryz.func60, Tryz.ntmps60
  go_wp2
  go_ret
  exact ⟨rfl, rfl⟩

section
attribute [local go_sem] unary_negF
def Worded2 (n : Int) (w : World) (e : Ending) (w' : World) : Prop := ∃ r, e = .returned (.float .f64 r) ∧ WordR n r ∧ Below w.heap.size w w'
set_option maxHeartbeats 400000 in
theorem sword_any (n : Int) (w : World) : Calls Tryz.prog 61 #[.int .i64 n] w (Worded2 n w) := by
  by_cases h0 : n = 0
  · subst h0
    go_enter Tryz.func61, Tryz.ntmps61
    go_wp2_with fail
    refine (l2Nan_any _).mono ?_
    rintro e w1 ⟨r, rfl, hn, hl, hb⟩
    go_wp2
    go_ret
    exact ⟨r, rfl, ⟨hl, hn⟩, hb⟩
  by_cases h1 : n = 1
  · subst h1
    go_enter Tryz.func61, Tryz.ntmps61
    go_wp2_with fail
    refine (l2Inf_any _).mono ?_
    rintro e w1 ⟨rfl, rfl⟩
    go_wp2
    go_ret
    exact ⟨_, rfl, ⟨wi_lt false, rfl⟩, Below.refl _ _⟩
  by_cases h2 : n = 2
  · subst h2
    go_enter Tryz.func61, Tryz.ntmps61
    go_wp2_with fail
    refine (l2Inf_any _).mono ?_
    rintro e w1 ⟨rfl, rfl⟩
    go_wp2
    go_ret
    exact ⟨_, rfl, ⟨by rw [neg_wi]; exact wi_lt true, by rw [neg_wi]; rfl⟩, Below.refl _ _⟩
  · have h0' : (n == 0) = false := by simpa using h0
    have h1' : (n == 1) = false := by simpa using h1
    have h2' : (n == 2) = false := by simpa using h2
    have H : Hid (n ≠ 0 ∧ n ≠ 1 ∧ n ≠ 2) := ⟨h0, h1, h2⟩
    clear h0 h1 h2
    go_enter Tryz.func61, Tryz.ntmps61
    go_wp2
    go_ret
    have e : Op.negFloat .f64 0 = wd true 0 0 := neg_wd sc00 (by omega) false
    exact ⟨_, rfl, ⟨by rw [e]; exact wd_lt sc00 (by omega) true, by rw [e]; simp [H.out]⟩, Below.refl _ _⟩

end
end Go.Proofs.YtmgjngihngddfaaGreatDoor
