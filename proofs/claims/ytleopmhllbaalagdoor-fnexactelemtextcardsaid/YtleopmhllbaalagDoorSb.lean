/- Decimal numbers as texts: devDecText and l1Dec. Helper text: no statement is claimed here. -/
import Derived.Test.YtleopmhllbaalagDoorSa
namespace Go.Proofs.YtleopmhllbaalagDoor
open Go.ChangeShapes Go.WideShapes Go.ChangeAt Go.RowKit

/-- Zeros put ahead, so that more than p bytes stand there. -/
def padL (p : Nat) (l : List UInt8) : List UInt8 := List.replicate (p + 1 - l.length) 48 ++ l
/-- The last p bytes behind a point. -/
def ptL (p : Nat) (s : List UInt8) : List UInt8 := s.take (s.length - p) ++ 46 :: s.drop (s.length - p)
def decT (n : Int) (p : Nat) : List UInt8 := if n < 0 then 45 :: ptL p (padL p (Lib.decDigits n.natAbs)) else ptL p (padL p (Lib.decDigits n.toNat))
theorem padL_len (p : Nat) (l : List UInt8) (h : l.length ≤ 30) (hp : p ≤ 6) : p < (padL p l).length ∧ (padL p l).length ≤ 40 := by
  simp [padL]; omega
theorem padL_long (p : Nat) (l : List UInt8) (h : ¬ l.length ≤ p) : padL p l = l := by
  simp [padL, show p + 1 - l.length = 0 by omega]
theorem rep48 : ∀ c : Nat, Lib.repeatL [48] c = List.replicate c 48
  | 0 => rfl
  | c + 1 => by rw [Lib.repeatL, rep48 c, List.replicate_succ]; rfl

theorem ext0 (l : List UInt8) (k : Nat) : (⟨l.toArray⟩ : ByteArray).extract 0 k = ⟨(l.take k).toArray⟩ := by
  apply ByteArray.ext
  simp [ByteArray.data_extract]
theorem ext1 (l : List UInt8) (k n : Nat) (hn : n = l.length) : (⟨l.toArray⟩ : ByteArray).extract k n = ⟨(l.drop k).toArray⟩ := by
  apply ByteArray.ext
  subst hn
  simp [ByteArray.data_extract]
  exact List.take_of_length_le (by simp)
theorem pt_str (sg s : List UInt8) (p n : Nat) (hn : n = s.length) : ((⟨sg.toArray⟩ : ByteArray) ++ (⟨s.toArray⟩ : ByteArray).extract 0 (n - p) ++ ⟨#[46]⟩ ++ (⟨s.toArray⟩ : ByteArray).extract (n - p) n : ByteArray) = ⟨(sg ++ ptL p s).toArray⟩ := by
  subst hn
  rw [ext0, ext1 _ _ _ rfl, cat, show (⟨#[46]⟩ : ByteArray) = ⟨([46] : List UInt8).toArray⟩ from rfl, cat, cat]
  simp [ptL]
theorem pt_cat (sg r l : List UInt8) (p n : Nat) (hn : n = r.length + l.length) : ((⟨sg.toArray⟩ : ByteArray) ++ ((⟨r.toArray⟩ : ByteArray) ++ ⟨l.toArray⟩).extract 0 (n - p) ++ ⟨#[46]⟩ ++ ((⟨r.toArray⟩ : ByteArray) ++ ⟨l.toArray⟩).extract (n - p) n : ByteArray) = ⟨(sg ++ ptL p (r ++ l)).toArray⟩ := by
  rw [cat]
  exact pt_str sg (r ++ l) p n (by simp [hn])

set_option maxHeartbeats 400000 in
theorem idec_long (u p : Nat) (w : World) (hP : PowTab w) (hu : u ≤ 999999999) (h1 : 1 ≤ p) (h6 : p ≤ 6) (hl : p < (Lib.decDigits u).length) :
    Calls Tryd.prog 51 #[.int .i64 (u : Int), .int .i64 (p : Int)] w fun e w' => e = .returned (.string ⟨(ptL p (Lib.decDigits u)).toArray⟩) ∧ Below w.heap.size w w' := by
  have h2 : ¬ (u : Int) < 0 := by omega
  have hU := digits_len u (by omega)
  go_enter Tryd.func51, Tryd.ntmps51
  go_wp2_with fail
  refine (itoa_any _ _ (by omega) (by omega) hP).mono ?_
  rintro e w1 ⟨rfl, hb⟩
  rw [Lib.itoa_nonneg]
  generalize hg : Lib.decDigits u = l at *
  have HG : Hid (Lib.decDigits u = l) := hg
  clear hg
  have h3 : ¬ (l.length : Int) ≤ p := by omega
  go_wp2
  go_quiet (fail)
  go_wp2
  go_ret
  exact ⟨ret_str ((pt_str [] l p _ rfl).trans (by rw [HG.out]; simp)), below_drewN hb _⟩

set_option maxHeartbeats 400000 in
theorem idec_long_neg (u p : Nat) (w : World) (hP : PowTab w) (h0 : 1 ≤ u) (hu : u ≤ 999999999) (h1 : 1 ≤ p) (h6 : p ≤ 6) (hl : p < (Lib.decDigits u).length) :
    Calls Tryd.prog 51 #[.int .i64 (-(u : Int)), .int .i64 (p : Int)] w fun e w' => e = .returned (.string ⟨(45 :: ptL p (Lib.decDigits u)).toArray⟩) ∧ Below w.heap.size w w' := by
  have h2 : -(u : Int) < 0 := by omega
  have hU := digits_len u (by omega)
  go_enter Tryd.func51, Tryd.ntmps51
  go_wp2_with fail
  refine (itoa_any _ _ (by omega) (by omega) hP).mono ?_
  rintro e w1 ⟨rfl, hb⟩
  rw [Lib.itoa_nonneg]
  generalize hg : Lib.decDigits u = l at *
  have HG : Hid (Lib.decDigits u = l) := hg
  clear hg
  have h3 : ¬ (l.length : Int) ≤ p := by omega
  go_wp2
  go_quiet (fail)
  go_wp2
  go_ret
  exact ⟨ret_str ((pt_str [45] l p _ rfl).trans (by rw [HG.out]; simp)), below_drewN hb _⟩

set_option maxHeartbeats 400000 in
theorem idec_short (u p : Nat) (w : World) (hP : PowTab w) (hu : u ≤ 999999999) (h1 : 1 ≤ p) (h6 : p ≤ 6) (hl : (Lib.decDigits u).length ≤ p) :
    Calls Tryd.prog 51 #[.int .i64 (u : Int), .int .i64 (p : Int)] w fun e w' => e = .returned (.string ⟨(ptL p (padL p (Lib.decDigits u))).toArray⟩) ∧ Below w.heap.size w w' := by
  have h2 : ¬ (u : Int) < 0 := by omega
  go_enter Tryd.func51, Tryd.ntmps51
  go_wp2_with fail
  refine (itoa_any _ _ (by omega) (by omega) hP).mono ?_
  rintro e w1 ⟨rfl, hb⟩
  rw [Lib.itoa_nonneg]
  generalize hg : Lib.decDigits u = l at *
  have HG : Hid (Lib.decDigits u = l) := hg
  clear hg
  have h3 : (l.length : Int) ≤ p := by omega
  go_wp2_with fail
  rw [show ((p : Int) + 1 - (l.length : Int)) = ((p + 1 - l.length : Nat) : Int) by omega]
  refine (repeat_any ⟨#[48]⟩ (p + 1 - l.length) _ (by show 1 * _ ≤ _; omega) (by omega)).mono ?_
  rintro e w2 ⟨rfl, hb2⟩
  rw [show (#[48] : Array UInt8).toList = [48] from rfl, rep48]
  have hr : (List.replicate (p + 1 - l.length) (48 : UInt8)).length = p + 1 - l.length := by simp
  generalize hgr : List.replicate (p + 1 - l.length) (48 : UInt8) = r at *
  have HR : Hid (List.replicate (p + 1 - l.length) (48 : UInt8) = r) := hgr
  have hr1 : r.length + l.length = p + 1 := by omega
  clear hgr hr
  have HR1 : Hid (r.length + l.length = p + 1) := hr1
  clear hr1
  have hr2 : r.length ≤ 10 := by have := HR1.out; omega
  have hr3 : p ≤ r.length + l.length := by have := HR1.out; omega
  go_wp2
  go_quiet (fail)
  go_wp2
  go_ret
  exact ⟨ret_str ((pt_cat [] r l p _ rfl).trans (by rw [HG.out, padL, HR.out]; simp)), below_drewN (hb.trans (hb2.mono hb.size)) _⟩
set_option maxHeartbeats 400000 in
theorem idec_short_neg (u p : Nat) (w : World) (hP : PowTab w) (h0 : 1 ≤ u) (hu : u ≤ 999999999) (h1 : 1 ≤ p) (h6 : p ≤ 6) (hl : (Lib.decDigits u).length ≤ p) :
    Calls Tryd.prog 51 #[.int .i64 (-(u : Int)), .int .i64 (p : Int)] w fun e w' => e = .returned (.string ⟨(45 :: ptL p (padL p (Lib.decDigits u))).toArray⟩) ∧ Below w.heap.size w w' := by
  have h2 : -(u : Int) < 0 := by omega
  go_enter Tryd.func51, Tryd.ntmps51
  go_wp2_with fail
  refine (itoa_any _ _ (by omega) (by omega) hP).mono ?_
  rintro e w1 ⟨rfl, hb⟩
  rw [Lib.itoa_nonneg]
  generalize hg : Lib.decDigits u = l at *
  have HG : Hid (Lib.decDigits u = l) := hg
  clear hg
  have h3 : (l.length : Int) ≤ p := by omega
  go_wp2_with fail
  rw [show ((p : Int) + 1 - (l.length : Int)) = ((p + 1 - l.length : Nat) : Int) by omega]
  refine (repeat_any ⟨#[48]⟩ (p + 1 - l.length) _ (by show 1 * _ ≤ _; omega) (by omega)).mono ?_
  rintro e w2 ⟨rfl, hb2⟩
  rw [show (#[48] : Array UInt8).toList = [48] from rfl, rep48]
  have hr : (List.replicate (p + 1 - l.length) (48 : UInt8)).length = p + 1 - l.length := by simp
  generalize hgr : List.replicate (p + 1 - l.length) (48 : UInt8) = r at *
  have HR : Hid (List.replicate (p + 1 - l.length) (48 : UInt8) = r) := hgr
  have hr1 : r.length + l.length = p + 1 := by omega
  clear hgr hr
  have HR1 : Hid (r.length + l.length = p + 1) := hr1
  clear hr1
  have hr2 : r.length ≤ 10 := by have := HR1.out; omega
  have hr3 : p ≤ r.length + l.length := by have := HR1.out; omega
  go_wp2
  go_quiet (fail)
  go_wp2
  go_ret
  exact ⟨ret_str ((pt_cat [45] r l p _ rfl).trans (by rw [HG.out, padL, HR.out]; simp)), below_drewN (hb.trans (hb2.mono hb.size)) _⟩
theorem idec_any (n : Int) (p : Nat) (w : World) (hP : PowTab w) (h0 : -999999999 ≤ n) (h9 : n ≤ 999999999) (h1 : 1 ≤ p) (h6 : p ≤ 6) :
    Calls Tryd.prog 51 #[.int .i64 n, .int .i64 (p : Int)] w fun e w' => e = .returned (.string ⟨(decT n p).toArray⟩) ∧ Below w.heap.size w w' := by
  by_cases h : n < 0
  · obtain ⟨u, hu⟩ : ∃ u : Nat, n = -(u : Int) := ⟨n.natAbs, by omega⟩
    subst hu
    rw [show decT (-(u : Int)) p = 45 :: ptL p (padL p (Lib.decDigits u)) by unfold decT; rw [if_pos h]; simp]
    by_cases hl : (Lib.decDigits u).length ≤ p
    · exact idec_short_neg u p w hP (by omega) (by omega) h1 h6 hl
    · rw [padL_long p _ hl]
      exact idec_long_neg u p w hP (by omega) (by omega) h1 h6 (by omega)
  · obtain ⟨u, rfl⟩ := Int.eq_ofNat_of_zero_le (show 0 ≤ n by omega)
    rw [show decT (u : Int) p = ptL p (padL p (Lib.decDigits u)) by simp [decT]]
    by_cases hl : (Lib.decDigits u).length ≤ p
    · exact idec_short u p w hP (by omega) h1 h6 hl
    · rw [padL_long p _ hl]
      exact idec_long u p w hP (by omega) h1 h6 (by omega)

/-! The document's own. -/
def strSz : Value → Nat | .string b => b.size | _ => 0
theorem pt_str0 (s : List UInt8) (p n : Nat) (hn : n = s.length) : ((⟨s.toArray⟩ : ByteArray).extract 0 (n - p) ++ ⟨#[46]⟩ ++ (⟨s.toArray⟩ : ByteArray).extract (n - p) n : ByteArray) = ⟨(ptL p s).toArray⟩ := by
  subst hn
  rw [ext0, ext1 _ _ _ rfl, show (⟨#[46]⟩ : ByteArray) = ⟨([46] : List UInt8).toArray⟩ from rfl, cat, cat]
  simp [ptL]
set_option maxHeartbeats 400000 in
theorem sdec_nat (u p : Nat) (w : World) (hu : u ≤ 999999999) (h1 : 1 ≤ p) (h6 : p ≤ 6) :
    Calls Tryd.prog 30 #[.int .i64 (u : Int), .int .i64 (p : Int)] w fun e w' => e = .returned (.string ⟨(ptL p (padL p (Lib.decDigits u))).toArray⟩) ∧ Below w.heap.size w w' := by
  have h2 : ¬ (u : Int) < 0 := by omega
  have hU := digits_len u (by omega)
  go_enter Tryd.func30, Tryd.ntmps30
  go_wp2_with fail
  refine (dec_nat u _ (by omega)).mono ?_
  rintro e w1 ⟨rfl, hb⟩
  generalize hg : Lib.decDigits u = l at *
  have HG : Hid (Lib.decDigits u = l) := hg
  clear hg
  go_wp2
  go_loop [5] (fun s => ∃ t : List UInt8, s = .string ⟨t.toArray⟩ ∧ ∃ j : Nat, t = List.replicate j 48 ++ l ∧ j ≤ p + 1 - l.length) (fun s => 40 - strSz s)
  case atStart => exact ⟨l, rfl, 0, by simp, by omega⟩
  case round =>
    obtain ⟨t, rfl, j, hj, hj2⟩ := hrel
    have hlen : t.length = j + l.length := by rw [hj]; simp
    have HJ : Hid (t = List.replicate j 48 ++ l) := hj
    clear hj
    have ht : t.length ≤ 40 := by omega
    by_cases hlt : t.length ≤ p
    · have hlt' : (t.length : Int) ≤ p := by omega
      have hj3 : j < p + 1 - l.length := by omega
      have HL : Hid (t.length = j + l.length) := hlen
      clear hlen
      go_wp2
      refine ⟨⟨[48] ++ t, congrArg Value.string (cat [48] t), j + 1, by rw [HJ.out]; simp [List.replicate_succ], by omega⟩, ?_⟩
      show 40 - ((⟨#[48]⟩ : ByteArray) ++ ⟨t.toArray⟩).size < 40 - (⟨t.toArray⟩ : ByteArray).size
      have e : ((⟨#[48]⟩ : ByteArray) ++ ⟨t.toArray⟩).size = 1 + t.length := by rw [show (⟨#[48]⟩ : ByteArray) = ⟨([48] : List UInt8).toArray⟩ from rfl, cat]; simp [ByteArray.size]; omega
      have e2 : (⟨t.toArray⟩ : ByteArray).size = t.length := by simp [ByteArray.size]
      omega
    · have hlt' : ¬ (t.length : Int) ≤ p := by omega
      have hpl : Hid (t = padL p l) := by
        have e : j = p + 1 - l.length := by omega
        show t = _
        rw [HJ.out, e]; rfl
      clear hlen
      go_wp2
      go_quiet (fail)
      go_wp2
      go_ret
      exact ⟨ret_str ((pt_str0 t p _ rfl).trans (by rw [HG.out, hpl.out])), below_drewN hb _⟩

set_option maxHeartbeats 400000 in
theorem sdec_neg (u p : Nat) (w : World) (h0 : 1 ≤ u) (hu : u ≤ 999999999) (h1 : 1 ≤ p) (h6 : p ≤ 6) :
    Calls Tryd.prog 30 #[.int .i64 (-(u : Int)), .int .i64 (p : Int)] w fun e w' => e = .returned (.string ⟨(45 :: ptL p (padL p (Lib.decDigits u))).toArray⟩) ∧ Below w.heap.size w w' := by
  have h2 : -(u : Int) < 0 := by omega
  have hl : (ptL p (padL p (Lib.decDigits u))).length ≤ 50 := by
    have h3 := padL_len p _ (show (Lib.decDigits u).length ≤ 30 by have := digits_len u (by omega); omega) h6
    simp [ptL]; omega
  go_enter Tryd.func30, Tryd.ntmps30
  go_wp2_with fail
  refine (sdec_nat u p _ hu h1 h6).mono ?_
  rintro e w1 ⟨rfl, hb⟩
  generalize hg : ptL p (padL p (Lib.decDigits u)) = l at *
  have HG : Hid (ptL p (padL p (Lib.decDigits u)) = l) := hg
  clear hg
  go_wp2
  go_ret
  exact ⟨ret_str ((cat [45] l).trans (by rw [HG.out]; simp)), hb⟩

theorem sdec_any (n : Int) (p : Nat) (w : World) (h0 : -999999999 ≤ n) (h9 : n ≤ 999999999) (h1 : 1 ≤ p) (h6 : p ≤ 6) :
    Calls Tryd.prog 30 #[.int .i64 n, .int .i64 (p : Int)] w fun e w' => e = .returned (.string ⟨(decT n p).toArray⟩) ∧ Below w.heap.size w w' := by
  by_cases h : n < 0
  · obtain ⟨u, hu⟩ : ∃ u : Nat, n = -(u : Int) := ⟨n.natAbs, by omega⟩
    subst hu
    rw [show decT (-(u : Int)) p = 45 :: ptL p (padL p (Lib.decDigits u)) by unfold decT; rw [if_pos h]; simp]
    exact sdec_neg u p w (by omega) (by omega) h1 h6
  · obtain ⟨u, rfl⟩ := Int.eq_ofNat_of_zero_le (show 0 ≤ n by omega)
    rw [show decT (u : Int) p = ptL p (padL p (Lib.decDigits u)) by simp [decT]]
    exact sdec_nat u p w (by omega) h1 h6
theorem decT_len (n : Int) (p : Nat) (h0 : -999999999 ≤ n) (h9 : n ≤ 999999999) (h6 : p ≤ 6) : (decT n p).length ≤ 60 := by
  unfold decT
  split
  · have h3 := padL_len p _ (show (Lib.decDigits n.natAbs).length ≤ 30 by have := digits_len n.natAbs (by omega); omega) h6
    simp [ptL]; omega
  · have h3 := padL_len p _ (show (Lib.decDigits n.toNat).length ≤ 30 by have := digits_len n.toNat (by omega); omega) h6
    simp [ptL]; omega
end Go.Proofs.YtleopmhllbaalagDoor
