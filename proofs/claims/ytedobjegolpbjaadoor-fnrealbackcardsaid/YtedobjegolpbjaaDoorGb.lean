/- Reading a real number: the program's realGuess. Helper text: no statement is claimed here. -/
import Derived.Test.YtedobjegolpbjaaDoorGa
namespace Go.Proofs.YtedobjegolpbjaaDoor
open Go.ChangeShapes Go.WideShapes Go.ChangeAt Go.RowKit Fl

def sgL (s : Bool) : List UInt8 := if s then [45] else []
/-- The text of a number that is finite and not 0. -/
def IsNum (t : List UInt8) (s : Bool) (m k : Nat) : Prop := Sc m k ∧ k ≤ 2045 ∧ 0 < m ∧ t = sgL s ++ oT m k
/-- What a guess is: no nan, and where the text is a finite number's, but -0, that number. -/
def GsR (t : List UInt8) (g : Nat) : Prop := g < 2 ^ 64 ∧ ¬ nan g ∧ (t = [48] → g = 0) ∧ (∀ s m k, IsNum t s m k → g = wd s m k)
def Guess (t : List UInt8) (w : World) (e : Ending) (w' : World) : Prop := ∃ g, e = .returned (.float .f64 g) ∧ GsR t g ∧ Below w.heap.size w w'
/-- How the loops stand: e is left to be done of E. -/
def Lp (t : List UInt8) (E e : Int) (x : Nat) : Prop := x < 2 ^ 64 ∧ ¬ nan x ∧ t ≠ [48] ∧
  ∀ s m k, IsNum t s m k → E = oE m k ∧ ∃ m1 k1, Sc m1 k1 ∧ k1 ≤ 2045 ∧ 0 < m1 ∧ x = wd s m1 k1 ∧ m1 * 2 ^ k1 = oN m k * 2 ^ (1074 + E - e).toNat

theorem val_o {m k : Nat} (hm : 0 < m) : oN m k * 2 ^ (1074 + oE m k).toNat = m * 2 ^ k := by
  have v := (oddp_val (m * 2 ^ k) (pos_val hm)).1
  have e : (1074 + oE m k).toNat = (oddp (m * 2 ^ k)).2 := by unfold oE; omega
  rw [e]; exact v
theorem oE_hi {m k : Nat} (h : Sc m k) (hk : k ≤ 2045) (hm : 0 < m) : oE m k ≤ 1023 := by
  have v := val_o (k := k) hm
  have n := oN_lt h hm
  have hb : m * 2 ^ k < 2 ^ (53 + k) := by rw [Nat.pow_add]; exact Nat.mul_lt_mul_of_pos_right h.hm (Nat.two_pow_pos k)
  have hl : 2 ^ (1074 + oE m k).toNat ≤ oN m k * 2 ^ (1074 + oE m k).toNat := Nat.le_mul_of_pos_left _ n.1
  have := pow_lt_pow_iff2.1 (Nat.lt_of_le_of_lt (Nat.le_trans hl (Nat.le_of_eq v)) hb)
  omega
theorem Lp.up {t : List UInt8} {E e : Int} {x : Nat} (h : Lp t E e x) (h0 : 0 < e) (h1 : e ≤ E) : ∃ r, floatBits .mul .f64 x 4611686018427387904 = some r ∧ Lp t E (e - 1) r := by
  obtain ⟨a, b, c, d⟩ := h
  obtain ⟨r, hr, hl, hn⟩ := mul_keeps a b
  refine ⟨r, hr, hl, hn, c, fun s m k hI => ?_⟩
  obtain ⟨hE, m1, k1, g1, g2, g3, rfl, g5⟩ := d s m k hI
  have v := val_o (k := k) hI.2.2.1
  have ee : (1074 + E - (e - 1)).toNat = (1074 + E - e).toNat + 1 := by omega
  have hk1 : k1 ≤ 2044 := by
    rcases Nat.lt_or_ge k1 2045 with h | h
    · omega
    · exfalso
      have h52 : 2 ^ 52 ≤ m1 := by have := g1.hk; omega
      have hb : m * 2 ^ k < 2 ^ (53 + k) := by rw [Nat.pow_add]; exact Nat.mul_lt_mul_of_pos_right hI.1.hm (Nat.two_pow_pos k)
      have h1' : 2 ^ (52 + k1) ≤ m1 * 2 ^ k1 := by rw [Nat.pow_add]; exact Nat.mul_le_mul_right _ h52
      have h2' : oN m k * 2 ^ ((1074 + E - e).toNat + 1) ≤ m * 2 ^ k := by
        rw [← v]; exact Nat.mul_le_mul_left _ (pow_le_pow_iff2.2 (by omega))
      rw [Nat.pow_succ, ← Nat.mul_assoc, ← g5] at h2'
      have h3' : 2 ^ (53 + k1) ≤ m * 2 ^ k := by
        have : 2 ^ (53 + k1) = 2 ^ (52 + k1) * 2 := by rw [← Nat.pow_succ]; congr 1; omega
        rw [this]
        exact Nat.le_trans (Nat.mul_le_mul_right 2 h1') h2'
      have := pow_lt_pow_iff2.1 (Nat.lt_of_le_of_lt h3' hb)
      have := hI.2.1
      omega
  obtain ⟨m2, k2, q1, q2, q3, q4, q5⟩ := Fl.dbl g1 g3 hk1 s
  rw [q5] at hr
  refine ⟨hE, m2, k2, q1, by omega, q2, (Option.some.inj hr).symm, ?_⟩
  rw [q4, g5, ee, Nat.pow_succ]
  generalize 2 ^ (1074 + E - e).toNat = A
  rw [Nat.mul_comm 2, Nat.mul_assoc]
theorem Lp.down {t : List UInt8} {E e : Int} {x : Nat} (h : Lp t E e x) (h0 : e < 0) (h1 : E ≤ e) (h2 : -1074 ≤ E) : ∃ r, floatBits .quo .f64 x 4611686018427387904 = some r ∧ Lp t E (e + 1) r := by
  obtain ⟨a, b, c, d⟩ := h
  obtain ⟨r, hr, hl, hn⟩ := div_keeps a b
  refine ⟨r, hr, hl, hn, c, fun s m k hI => ?_⟩
  obtain ⟨hE, m1, k1, g1, g2, g3, rfl, g5⟩ := d s m k hI
  obtain ⟨j, hj⟩ : ∃ j, (1074 + E - e).toNat = j + 1 := ⟨(1074 + E - e).toNat - 1, by omega⟩
  have ee : (1074 + E - (e + 1)).toNat = j := by omega
  rw [hj, Nat.pow_succ, ← Nat.mul_assoc] at g5
  rcases Nat.eq_zero_or_pos k1 with rfl | hk
  · rw [Nat.pow_zero, Nat.mul_one] at g5
    obtain ⟨q, hq⟩ : ∃ q, m1 = 2 * q := ⟨oN m k * 2 ^ j, by omega⟩
    subst hq
    obtain ⟨s1, s2⟩ := Fl.hlv0 g1 (by omega) s
    rw [s2] at hr
    exact ⟨hE, q, 0, s1, by omega, by omega, (Option.some.inj hr).symm, by rw [ee]; omega⟩
  · obtain ⟨k2, rfl⟩ : ∃ k2, k1 = k2 + 1 := ⟨k1 - 1, by omega⟩
    obtain ⟨s1, s2⟩ := Fl.hlv g1 g2 s
    rw [s2] at hr
    refine ⟨hE, m1, k2, s1, by omega, g3, (Option.some.inj hr).symm, ?_⟩
    rw [ee]
    rw [Nat.pow_succ, ← Nat.mul_assoc] at g5
    omega
theorem Lp.done {t : List UInt8} {E : Int} {x : Nat} (h : Lp t E 0 x) : GsR t x := by
  obtain ⟨a, b, c, d⟩ := h
  refine ⟨a, b, fun h => absurd h c, fun s m k hI => ?_⟩
  obtain ⟨hE, m1, k1, g1, g2, g3, rfl, g5⟩ := d s m k hI
  have e : 1074 + E - 0 = 1074 + oE m k := by omega
  rw [e, val_o hI.2.2.1] at g5
  obtain ⟨rfl, rfl⟩ := sc_unique g1 hI.1 g3 g5
  rfl

/-- What the text is cut into, and what is read of it. -/
structure Pieces (t c1 c2 : List UInt8) : Prop where
  zero : t = [48] → c2 = []
  num : ∀ s m k, IsNum t s m k → c1 = sgL s ++ Lib.itoa (oN m k) ∧ c2 = Lib.itoa (oE m k)
theorem pieces_of (t : List UInt8) : Pieces t (Lib.cut t [42, 50, 94]).1 (Lib.cut t [42, 50, 94]).2.1 := by
  refine ⟨fun h => by rw [h]; decide, fun s m k hI => ?_⟩
  have : Lib.cut t [42, 50, 94] = (sgL s ++ Lib.itoa (oN m k), Lib.itoa (oE m k), true) := by
    rw [hI.2.2.2, oT_form, ← List.append_assoc]
    exact cut_at (by
      rw [List.mem_append]
      rintro (h | h)
      · cases s <;> simp [sgL] at h
      · exact itoa_no42 _ h)
  rw [this]
  exact ⟨rfl, rfl⟩
theorem sg_itoa {s : Bool} {n : Nat} (hn : 0 < n) : sgL s ++ Lib.itoa n = Lib.itoa (if s then -(n : Int) else n) := by
  cases s
  · rfl
  · simp only [sgL, if_true]
    rw [Lib.itoa_neg n hn, Lib.itoa_nonneg]; rfl
theorem Pieces.read {t c1 c2 : List UInt8} (h : Pieces t c1 c2) {s : Bool} {m k : Nat} (hI : IsNum t s m k) :
    Lib.parseIntB 64 c1 = .ok (if s then -(oN m k : Int) else oN m k) ∧ Lib.atoiAll c2 = .ok (oE m k) := by
  obtain ⟨h1, h2⟩ := h.num s m k hI
  have n := oN_lt hI.1 hI.2.2.1
  have e := oE_in hI.1 hI.2.1 hI.2.2.1
  rw [h1, h2, sg_itoa n.1]
  exact ⟨parse_itoa _ (by split <;> omega), atoi_itoa _ (by omega)⟩
theorem Pieces.start {t c1 c2 : List UInt8} (h : Pieces t c1 c2) {v E : Int} (h1 : Lib.parseIntB 64 c1 = .ok v) (h2 : Lib.atoiAll c2 = .ok E) : Lp t E E (floatOfInt .f64 v) := by
  refine ⟨(ofInt_keeps v).1, (ofInt_keeps v).2, fun h0 => ?_, fun s m k hI => ?_⟩
  · rw [h.zero h0] at h2
    simp [Lib.atoiAll] at h2
  · obtain ⟨r1, r2⟩ := h.read hI
    rw [r1] at h1
    rw [r2] at h2
    injection h1 with h1
    injection h2 with h2
    have n := oN_lt hI.1 hI.2.2.1
    have hna : v.natAbs = oN m k := by rw [← h1]; split <;> omega
    have hneg : decide (v < 0) = s := by rw [← h1]; cases s <;> simp <;> omega
    obtain ⟨z, hz⟩ : ∃ z, z = 1074 := ⟨_, rfl⟩
    obtain ⟨m1, k1, g1, g2, g3, g4, g5⟩ := ofInt_z (n := v) (by omega) z hz
    have hm1 : 0 < m1 := by
      rcases Nat.eq_zero_or_pos m1 with hh | hh
      · have := g5.2 hh; omega
      · exact hh
    refine ⟨h2.symm, m1, k1, g1, by omega, hm1, by rw [g3, hneg], ?_⟩
    have ee : (1074 + E - E).toNat = z := by omega
    rw [ee, g4, hna]
/-- Where the numerals are none, there is no such number. -/
theorem gs_none {t : List UInt8} (hf : ∀ s m k, IsNum t s m k → False) : GsR t 0 :=
  ⟨by omega, not_nan_wd sc00 (by omega) false, fun _ => rfl, fun s m k hI => (hf s m k hI).elim⟩

set_option maxHeartbeats 1000000 in
theorem guess_any (t : List UInt8) (w : World) (ht : t.length ≤ 1500000) (hL : LTab w) :
    Calls Tryd.prog 26 #[.string ⟨t.toArray⟩] w (Guess t w) := by
  have hlen : (Lib.cut t [42, 50, 94]).1.length ≤ t.length ∧ (Lib.cut t [42, 50, 94]).2.1.length ≤ t.length := by
    unfold Lib.cut
    split
    · simp; omega
    · simp
  have HP : Hid (Pieces t (Lib.cut t [42, 50, 94]).1 (Lib.cut t [42, 50, 94]).2.1) := pieces_of t
  have hcut := cut_any ⟨t.toArray⟩ w (by simp [ByteArray.size]; omega) hL
  rw [show (⟨t.toArray⟩ : ByteArray).data.toList = t by simp] at hcut
  generalize Lib.cut t [42, 50, 94] = cc at *
  obtain ⟨c1, c2, c3⟩ := cc
  obtain ⟨l1, l2⟩ := hlen
  have HC : Hid _ := hcut
  clear hcut
  go_enter Tryd.func26, Tryd.ntmps26
  go_wp2_with fail
  refine Calls.mono HC.out ?_
  rintro e w1 ⟨rfl, hb1⟩
  clear HC
  have HP : Hid (Pieces t c1 c2) := HP
  have hL1 := hL.to hb1
  go_wp2_with fail
  refine (parse_any ⟨c1.toArray⟩ _ (by simp [ByteArray.size] at l1 ⊢; omega) hL1).mono ?_
  rintro e w2 ⟨v, err1, rfl, v0, v1, hv, hb2⟩
  rw [show (⟨c1.toArray⟩ : ByteArray).data.toList = c1 by simp] at hv
  have HV : Hid _ := hv
  clear hv
  have hb12 := hb1.trans (hb2.mono hb1.size)
  have hL2 := hL.to hb12
  go_wp2_with fail
  refine (atoi_any ⟨c2.toArray⟩ _ (by simp [ByteArray.size] at l2 ⊢; omega) hL2).mono ?_
  rintro e w3 ⟨E, err2, rfl, e0, e1, he, hb3⟩
  rw [show (⟨c2.toArray⟩ : ByteArray).data.toList = c2 by simp] at he
  have hb13 := hb12.trans (hb3.mono hb12.size)
  clear hL1 hL2 hL hb1 hb2 hb3 hb12 l1 l2
  rcases he with ⟨rfl, he⟩ | ⟨⟨t2, p2, rfl⟩, he⟩
  case inr =>
    have HG : Hid (GsR t 0) := gs_none fun s m k hI => he _ (HP.out.read hI).2
    clear he
    rcases HV.out with ⟨rfl, -⟩ | ⟨⟨t1, p1, rfl⟩, -⟩
    · go_wp2
      go_ret
      exact ⟨0, rfl, HG.out, hb13⟩
    · go_wp2
      go_ret
      exact ⟨0, rfl, HG.out, hb13⟩
  have HE : Hid (Lib.atoiAll c2 = .ok E) := he
  clear he
  rcases HV.out with ⟨rfl, hv⟩ | ⟨⟨t1, p1, rfl⟩, hv⟩
  case inr =>
    have HG : Hid (GsR t 0) := gs_none fun s m k hI => hv _ (HP.out.read hI).1
    clear hv
    go_wp2
    go_ret
    exact ⟨0, rfl, HG.out, hb13⟩
  have HS : Hid (Lp t E E (floatOfInt .f64 v)) := HP.out.start hv HE.out
  clear hv
  by_cases hlo : E < -1074
  · have HG : Hid (GsR t 0) := gs_none fun s m k hI => by
      have := (HS.out.2.2.2 s m k hI).1
      have := oE_in hI.1 hI.2.1 hI.2.2.1
      omega
    clear HS HE HV HP
    go_wp2
    go_ret
    exact ⟨0, rfl, HG.out, hb13⟩
  by_cases hhi : 1023 < E
  · have HG : Hid (GsR t 0) := gs_none fun s m k hI => by
      have := (HS.out.2.2.2 s m k hI).1
      have := oE_hi hI.1 hI.2.1 hI.2.2.1
      omega
    clear HS HE HV HP
    go_wp2
    go_ret
    exact ⟨0, rfl, HG.out, hb13⟩
  clear HE HV HP
  go_wp2
  go_loop [8, 10] (fun e x => ∃ (y : Int) (r : Nat), e = .int .i64 y ∧ x = .float .f64 r ∧ Lp t E y r ∧ y ≤ E ∧ -1074 ≤ y ∧ (0 ≤ y ∨ y = E)) (fun e _ => (intOf e).toNat)
  case atStart => exact ⟨E, _, rfl, rfl, HS.out, by omega, by omega, .inr rfl⟩
  case round =>
    clear HS
    obtain ⟨y, r, rfl, rfl, hLp, y1, y2, y3⟩ := hrel
    by_cases hpos : 0 < y
    · obtain ⟨r2, hr, hLp2⟩ := hLp.up hpos y1
      have hrun := run_someN hr
      have H2 : Hid (Lp t E (y - 1) r2) := hLp2
      clear hLp hr hLp2
      go_wp2
      exact ⟨⟨y - 1, r2, rfl, rfl, H2.out, by omega, by omega, by omega⟩, by simp [intOf]; omega⟩
    · have HL : Hid (Lp t E y r) := hLp
      clear hLp
      go_wp2
      go_loop [8, 10] (fun e x => ∃ (y : Int) (r : Nat), e = .int .i64 y ∧ x = .float .f64 r ∧ Lp t E y r ∧ y ≤ 0 ∧ -1074 ≤ y ∧ (y = 0 ∨ E ≤ y)) (fun e _ => (-(intOf e)).toNat)
      case atStart => exact ⟨y, r, rfl, rfl, HL.out, by omega, by omega, by omega⟩
      case round =>
        clear HL y1 y2 y3 hpos
        obtain ⟨y, r, rfl, rfl, hLp, y1, y2, y3⟩ := hrel
        by_cases hneg : y < 0
        · obtain ⟨r2, hr, hLp2⟩ := hLp.down hneg (by omega) (by omega)
          have hrun := run_someN hr
          have H2 : Hid (Lp t E (y + 1) r2) := hLp2
          clear hLp hr hLp2
          go_wp2
          exact ⟨⟨y + 1, r2, rfl, rfl, H2.out, by omega, by omega, by omega⟩, by simp [intOf]; omega⟩
        · have hy : y = 0 := by omega
          subst hy
          have HG : Hid (GsR t r) := hLp.done
          clear hLp
          go_wp2
          go_ret
          exact ⟨r, rfl, HG.out, hb13⟩
end Go.Proofs.YtedobjegolpbjaaDoor
