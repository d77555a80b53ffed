/- The text of a real number: what it is. Helper text: no statement is claimed here. -/
import Derived.Test.YtedobjegolpbjaaDoorSi
import Derived.Test.YtedobjegolpbjaaDoorFf
import Derived.WalkLawsBesides
namespace Go.Proofs.YtedobjegolpbjaaDoor
open Go.ChangeShapes Go.WideShapes Go.ChangeAt Go.RowKit Fl

theorem run_someN {op : BinOp} {x y r : Nat} (h : floatBits op .f64 x y = some r) (t : TypeId) (w : World) : (binOp op t (.float .f64 x) (.float .f64 y)).run Tryd.prog w = .ok (.float .f64 r) w := run_float_arith w op t .f64 x y r h
theorem run_cutN {x : Nat} {n : Int} (h : floatToIntVal .f64 x .i64 = some n) (dst : TypeId) (hd : Tryd.prog.underlying dst = some (.int .i64)) (w : World) : (convert 26 dst (.float .f64 x)).run Tryd.prog w = .ok (.int .i64 n) w :=
  run_convert_float_int w 26 dst .f64 .i64 x n (by rw [Tryd.underlying26]; rfl) hd h
/-- The odd part of a number above 0, and the power of 2. -/
def oN (m k : Nat) : Nat := (oddp (m * 2 ^ k)).1
def oE (m k : Nat) : Int := ((oddp (m * 2 ^ k)).2 : Int) - 1074
theorem oN_lt {m k : Nat} (h : Sc m k) (hm : 0 < m) : 0 < oN m k ∧ oN m k < 2 ^ 53 := by
  unfold oN
  rw [oddp_pow hm]
  have a := oddp_val m hm
  have b := oddp_le m hm
  have c := h.hm
  show 0 < (oddp m).1 ∧ (oddp m).1 < 2 ^ 53
  omega
theorem odd_le {m : Nat} (h0 : 0 < m) (h : m < 2 ^ 53) : (oddp m).2 ≤ 53 := by
  have a := (oddp_val m h0).1
  have b := (oddp_val m h0).2
  have c : 2 ^ (oddp m).2 ≤ m := by
    have : 1 * 2 ^ (oddp m).2 ≤ (oddp m).1 * 2 ^ (oddp m).2 := Nat.mul_le_mul_right _ (by omega)
    omega
  have := pow_lt_pow_iff2.1 (Nat.lt_of_le_of_lt c h)
  omega
theorem oE_in {m k : Nat} (h : Sc m k) (hk : k ≤ 2045) (hm : 0 < m) : -1074 ≤ oE m k ∧ oE m k ≤ 1100 := by
  unfold oE
  rw [oddp_pow hm]
  have := odd_le hm h.hm
  show -1074 ≤ (((oddp m).2 + k : Nat) : Int) - 1074 ∧ (((oddp m).2 + k : Nat) : Int) - 1074 ≤ 1100
  omega
theorem o_two {m k m' k' : Nat} (hm : 0 < m) (e : m' * 2 ^ k' = 2 * (m * 2 ^ k)) : oN m' k' = oN m k ∧ oE m' k' = oE m k + 1 := by
  unfold oN oE
  rw [e, oddp_two (pos_val hm)]
  refine ⟨rfl, ?_⟩
  show (((oddp (m * 2 ^ k)).2 + 1 : Nat) : Int) - 1074 = _
  omega
theorem o_half {m k : Nat} (hm : 0 < m) : oN m (k + 1) = oN m k ∧ oE m (k + 1) = oE m k + 1 := o_two hm (by rw [Nat.pow_succ]; rw [← Nat.mul_assoc, Nat.mul_comm])
theorem o_gen {m : Nat} (hm : 0 < m) (k : Nat) : oN m k = (oddp m).1 ∧ oE m k = ((oddp m).2 : Int) + k - 1074 := by
  unfold oN oE
  rw [oddp_pow hm k]
  refine ⟨rfl, ?_⟩
  show (((oddp m).2 + k : Nat) : Int) - 1074 = _
  omega
theorem o_done {m k : Nat} (hm : 0 < m) (hk : k = 1074) : oN m k = (oddp m).1 ∧ oE m k = (oddp m).2 := by
  have := o_gen hm k
  refine ⟨this.1, ?_⟩
  have h := this.2
  rw [hk] at h ⊢
  omega

/-- Where the loops stand: x and e are still the number. -/
def Ap (m k : Nat) (x e : Value) (m1 k1 : Nat) (z : Int) : Prop :=
  Sc m1 k1 ∧ 0 < m1 ∧ k1 ≤ 2045 ∧ x = .float .f64 (wd false m1 k1) ∧ e = .int .i64 z ∧ oN m1 k1 = oN m k ∧ oE m1 k1 + z = oE m k
theorem Ap.bd {m k m1 k1 : Nat} {x e : Value} {z : Int} (h : Ap m k x e m1 k1 z) (hs : Sc m k) (hk : k ≤ 2045) (hm : 0 < m) : -2174 ≤ z ∧ z ≤ 2174 := by
  have a := oE_in hs hk hm
  have b := oE_in h.1 h.2.2.1 h.2.1
  have c := h.2.2.2.2.2.2
  omega
theorem Ap.dbl {m k m1 k1 : Nat} {x e : Value} {z : Int} (h : Ap m k x e m1 k1 z) (hk : k1 < 1074) :
    ∃ r, floatBits .mul .f64 (wd false m1 k1) 4611686018427387904 = some r ∧ ∃ m2 k2, Ap m k (.float .f64 r) (.int .i64 (z - 1)) m2 k2 (z - 1) := by
  obtain ⟨h1, h2, h3, h4, h5, h6, h7⟩ := h
  obtain ⟨m2, k2, g1, g2, g3, g4, g5⟩ := Fl.dbl h1 h2 (by omega) false
  have o := o_two h2 g4
  exact ⟨_, g5, m2, k2, g1, g2, by omega, rfl, rfl, o.1.trans h6, by omega⟩
theorem Ap.dbl2 {m k m1 k1 : Nat} {x e : Value} {z : Int} (h : Ap m k x e m1 k1 z) (hk : k1 < 1074) :
    ∃ r, floatBits .mul .f64 (wd false m1 k1) 4611686018427387904 = some r ∧ ∃ m2 k2, Ap m k (.float .f64 r) (.int .i64 (z - 1)) m2 k2 (z - 1) ∧ k2 ≤ 1074 := by
  obtain ⟨h1, h2, h3, h4, h5, h6, h7⟩ := h
  obtain ⟨m2, k2, g1, g2, g3, g4, g5⟩ := Fl.dbl h1 h2 (by omega) false
  have o := o_two h2 g4
  exact ⟨_, g5, m2, k2, ⟨g1, g2, by omega, rfl, rfl, o.1.trans h6, by omega⟩, by omega⟩
theorem Ap.hlv {m k m1 k1 : Nat} {x e : Value} {z : Int} (h : Ap m k x e m1 (k1 + 1) z) :
    floatBits .quo .f64 (wd false m1 (k1 + 1)) 4611686018427387904 = some (wd false m1 k1) ∧ Ap m k (.float .f64 (wd false m1 k1)) (.int .i64 (z + 1)) m1 k1 (z + 1) := by
  obtain ⟨h1, h2, h3, h4, h5, h6, h7⟩ := h
  obtain ⟨g1, g2⟩ := Fl.hlv h1 h3 false
  have o := o_half (k := k1) h2
  exact ⟨g2, g1, h2, by omega, rfl, rfl, o.1.symm.trans h6, by omega⟩
/-- Where the last loop stands. -/
def Aq (m k : Nat) (n : Nat) (z : Int) : Prop := 0 < n ∧ n < 2 ^ 53 ∧ (oddp n).1 = oN m k ∧ ((oddp n).2 : Int) + z = oE m k
theorem Ap.done {m k m1 k1 : Nat} {x e : Value} {z : Int} (h : Ap m k x e m1 k1 z) (hk : k1 = 1074) : Aq m k m1 z := by
  obtain ⟨h1, h2, h3, h4, h5, h6, h7⟩ := h
  have o := o_done h2 hk
  exact ⟨h2, h1.hm, o.1.symm.trans h6, by omega⟩
theorem Aq.step {m k n : Nat} {z : Int} (h : Aq m k n z) (he : n % 2 = 0) : Aq m k (n / 2) (z + 1) := by
  obtain ⟨h1, h2, h3, h4⟩ := h
  have o := oddp_even he h1
  rw [o] at h3 h4
  refine ⟨by omega, by omega, h3, ?_⟩
  have h4 : (((oddp (n / 2)).2 + 1 : Nat) : Int) + z = oE m k := h4
  omega
theorem Aq.out {m k n : Nat} {z : Int} (h : Aq m k n z) (ho : n % 2 = 1) : n = oN m k ∧ z = oE m k := by
  obtain ⟨h1, h2, h3, h4⟩ := h
  rw [oddp_odd ho] at h3 h4
  refine ⟨h3, ?_⟩
  have h4 : ((0 : Nat) : Int) + z = oE m k := h4
  omega
theorem Aq.bd {m k n : Nat} {z : Int} (h : Aq m k n z) (hs : Sc m k) (hk : k ≤ 2045) (hm : 0 < m) : -2174 ≤ z ∧ z ≤ 2174 := by
  have a := oE_in hs hk hm
  have b := odd_le h.1 h.2.1
  have c := h.2.2.2
  omega
theorem toInt_k {m k : Nat} (h : Sc m k) (hk : k = 1074) : floatToIntVal .f64 (wd false m k) .i64 = some (m : Int) := by
  subst hk; exact toInt_i64 h
theorem post_2 {fn : Func} {t u : Tmp} {tmps : Array Value} {W : World} {x y : Value} (h : fn.results = #[.tmp t, .tmp u]) (h1 : tmps.getD t undef = x) (h2 : tmps.getD u undef = y) :
    (results fn tmps).run Tryd.prog W = .ok (.tuple #[x, y]) W := by
  rw [results_tmp2 h, h1, h2]

/-- The text of a number above 0 that is not infinite. -/
def oT (m k : Nat) : List UInt8 := Lib.itoa (oN m k) ++ [42, 50, 94] ++ Lib.itoa (oE m k)
theorem oT_len {m k : Nat} (h : Sc m k) (hk : k ≤ 2045) (hm : 0 < m) : (oT m k).length ≤ 50 := by
  have a := oN_lt h hm
  have b := oE_in h hk hm
  have c := Lib.itoa_length_le (oN m k : Int) (by omega) (by omega)
  have d := Lib.itoa_length_le (oE m k) (by omega) (by omega)
  unfold oT
  simp only [List.length_append, List.length_cons, List.length_nil]
  omega
theorem cat3 (a b : List UInt8) : ((⟨a.toArray⟩ : ByteArray) ++ ⟨#[42, 50, 94]⟩ ++ ⟨b.toArray⟩ : ByteArray) = ⟨(a ++ [42, 50, 94] ++ b).toArray⟩ := by
  rw [show (⟨#[42, 50, 94]⟩ : ByteArray) = ⟨([42, 50, 94] : List UInt8).toArray⟩ from rfl, cat, cat]
end Go.Proofs.YtedobjegolpbjaaDoor
