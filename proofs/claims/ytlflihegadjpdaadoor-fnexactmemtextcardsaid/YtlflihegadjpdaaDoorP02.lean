/- Bits of words, as plain mathematics. Helper text: no statement is claimed here. -/
import Derived.Laws.BitsAllLaws
import Derived.Test.YtlflihegadjpdaaDoorP01
import Derived.Laws.BitsLemmas
import Derived.Laws.Bits64
import Derived.Test.YtlflihegadjpdaaDoorRows
import Derived.WalkKit
import Derived.ProofKit
import Derived.OpenShut
import Derived.Below
import Derived.WalkSmall
import Derived.BigQuiet
import Derived.Lib.ItoaLen
import Derived.Laws.FloatArith
namespace Go.Proofs.YtlflihegadjpdaaDoor

/-- Bit k of a word. -/
def bitN (w k : Nat) : Bool := decide (w / 2 ^ k % 2 = 1)
/-- A word with bit k put. -/
def putN (w k : Nat) (b : Bool) : Nat := if bitN w k = b then w else if b then w + 2 ^ k else w - 2 ^ k
theorem bitN_test (w k : Nat) : bitN w k = w.testBit k := by
  rw [Nat.testBit_eq_decide_div_mod_eq, bitN]
theorem or_pow : ∀ (k w : Nat), w.testBit k = false → w ||| 2 ^ k = w + 2 ^ k
  | 0, w, h => by
    have h0 : w % 2 = 0 := by
      rw [Nat.testBit_zero] at h
      have := of_decide_eq_false h
      omega
    have d : (w ||| 2 ^ 0) / 2 = w / 2 := by rw [Nat.or_div_two]; simp
    have m : (w ||| 2 ^ 0) % 2 = 1 := by rw [Nat.or_mod_two_eq_one]; right; rfl
    have : (2 : Nat) ^ 0 = 1 := rfl
    omega
  | k + 1, w, h => by
    rw [Nat.testBit_add_one] at h
    have ih := or_pow k (w / 2) h
    have e : (2 : Nat) ^ (k + 1) / 2 = 2 ^ k := by rw [Nat.pow_succ]; omega
    have d : (w ||| 2 ^ (k + 1)) / 2 = w / 2 + 2 ^ k := by rw [Nat.or_div_two, e, ih]
    have p : (2 : Nat) ^ (k + 1) = 2 * 2 ^ k := by rw [Nat.pow_succ]; omega
    have m : (w ||| 2 ^ (k + 1)) % 2 = w % 2 := by
      have a := Nat.or_mod_two_eq_one (a := w) (b := 2 ^ (k + 1))
      have b : ¬ 2 ^ (k + 1) % 2 = 1 := by omega
      by_cases hw : w % 2 = 1
      · rw [hw]; exact a.2 (.inl hw)
      · have : ¬ (w ||| 2 ^ (k + 1)) % 2 = 1 := fun hh => by rcases a.1 hh with h | h <;> contradiction
        omega
    omega
theorem putN_true (w k : Nat) : w ||| 2 ^ k = putN w k true := by
  unfold putN
  rw [bitN_test]
  by_cases h : w.testBit k = true
  · rw [if_pos h]
    apply Nat.eq_of_testBit_eq
    intro i
    rw [Nat.testBit_or, Nat.testBit_two_pow]
    by_cases hi : k = i
    · subst hi; simp [h]
    · simp [hi]
  · rw [if_neg h, if_pos rfl]
    have h0 : w.testBit k = false := by simpa using h
    exact or_pow k w h0
theorem two_pow_le_of_test {w k : Nat} (h : w.testBit k = true) : 2 ^ k ≤ w := Nat.ge_two_pow_of_testBit h
theorem putN_false (w k : Nat) (hk : k < 64) (hw : w < 18446744073709551616) : w &&& (18446744073709551615 - 2 ^ k) = putN w k false := by
  have hm : ∀ i, (18446744073709551615 - 2 ^ k).testBit i = (decide (i < 64) && !decide (k = i)) := by
    intro i
    have := Nat.testBit_two_pow_sub_succ (x := 2 ^ k) (n := 64) (Nat.pow_lt_pow_right (by decide) hk) i
    rw [Nat.testBit_two_pow] at this
    rw [← this]
    congr 1
    omega
  have hw' : ∀ i, w.testBit i = true → i < 64 := by
    intro i hi
    have h1 := Nat.ge_two_pow_of_testBit hi
    rcases Nat.lt_or_ge i 64 with h | h
    · exact h
    · have : 2 ^ 64 ≤ 2 ^ i := Nat.pow_le_pow_right (by decide) h
      omega
  have hand : ∀ i, (w &&& (18446744073709551615 - 2 ^ k)).testBit i = (w.testBit i && !decide (k = i)) := by
    intro i
    rw [Nat.testBit_and, hm]
    cases hi : w.testBit i
    · rfl
    · simp [hw' i hi]
  unfold putN
  rw [bitN_test]
  by_cases h : w.testBit k = false
  · rw [if_pos h]
    apply Nat.eq_of_testBit_eq
    intro i
    rw [hand]
    by_cases hi : k = i
    · subst hi; simp [h]
    · simp [hi]
  · have h1 : w.testBit k = true := by simpa using h
    rw [if_neg h, if_neg (by decide)]
    have e : (w &&& (18446744073709551615 - 2 ^ k)) ||| 2 ^ k = w := by
      apply Nat.eq_of_testBit_eq
      intro i
      rw [Nat.testBit_or, hand, Nat.testBit_two_pow]
      by_cases hi : k = i
      · subst hi; simp [h1]
      · simp [hi]
    have := or_pow k (w &&& (18446744073709551615 - 2 ^ k)) (by rw [hand]; simp)
    omega
theorem putN_test (w k : Nat) (b : Bool) (i : Nat) : (putN w k b).testBit i = if i = k then b else w.testBit i := by
  cases b
  · unfold putN
    rw [bitN_test]
    by_cases h : w.testBit k = false
    · rw [if_pos h]
      by_cases hi : i = k
      · subst hi; simp [h]
      · simp [hi]
    · have h1 : w.testBit k = true := by simpa using h
      rw [if_neg h, if_neg (by decide)]
      have e : w - 2 ^ k = w ^^^ 2 ^ k := by
        have hx : (w ^^^ 2 ^ k) ||| 2 ^ k = w := by
          apply Nat.eq_of_testBit_eq
          intro j
          rw [Nat.testBit_or, Nat.testBit_xor, Nat.testBit_two_pow]
          by_cases hj : k = j
          · subst hj; simp [h1]
          · simp [hj]
        have := or_pow k (w ^^^ 2 ^ k) (by rw [Nat.testBit_xor, Nat.testBit_two_pow, h1]; simp)
        omega
      rw [e, Nat.testBit_xor, Nat.testBit_two_pow]
      by_cases hi : i = k
      · subst hi; simp [h1]
      · have : ¬ k = i := fun e => hi e.symm
        simp [hi, this]
  · rw [← putN_true, Nat.testBit_or, Nat.testBit_two_pow]
    by_cases hi : i = k
    · subst hi; simp
    · have : ¬ k = i := fun e => hi e.symm
      simp [hi, this]
theorem putN_lt {w k n : Nat} (b : Bool) (hk : k < n) (hw : w < 2 ^ n) : putN w k b < 2 ^ n := by
  apply Nat.lt_pow_two_of_testBit
  intro i hi
  rw [putN_test, if_neg (by omega)]
  exact Nat.testBit_lt_two_pow (Nat.lt_of_lt_of_le hw (Nat.pow_le_pow_right (by decide) hi))
theorem putN_same (w k : Nat) (b : Bool) : bitN (putN w k b) k = b := by rw [bitN_test, putN_test, if_pos rfl]
theorem putN_other (w k j : Nat) (b : Bool) (h : j ≠ k) : bitN (putN w k b) j = bitN w j := by rw [bitN_test, putN_test, if_neg h, bitN_test]
theorem putN_back (w k : Nat) (b : Bool) : putN (putN w k b) k (bitN w k) = w := by
  apply Nat.eq_of_testBit_eq
  intro i
  rw [putN_test, putN_test, bitN_test]
  by_cases hi : i = k
  · rw [if_pos hi, hi]
  · rw [if_neg hi, if_neg hi]
end Go.Proofs.YtlflihegadjpdaaDoor

/- Small facts on words. Helper text: no statement is claimed here. -/
namespace Go.Proofs.YtlflihegadjpdaaDoor
open Go.ChangeShapes Go.WideShapes Go.ChangeAt Go.RowKit

theorem ret_bool4 {a b : Bool} (h : a = b) : Ending.returned (.bool a) = .returned (.bool b) := by rw [h]
theorem wrap_u64n (n : Nat) (h : n < 18446744073709551616) : IntKind.u64.wrap (n : Int) = n := by rw [IntKind.wrap_u64]; omega
theorem pow_lt64 {k : Nat} (h : k < 64) : 2 ^ k < 18446744073709551616 := Nat.pow_lt_pow_right (a := 2) (n := 64) (by decide) h
end Go.Proofs.YtlflihegadjpdaaDoor

/- The bits that are given, of the program. Helper text: no statement is claimed here. -/
namespace Go.Proofs.YtlflihegadjpdaaDoor
open Go.ChangeShapes Go.WideShapes Go.ChangeAt Go.RowKit

/-- A given bit. -/
def Mm.given (m : Mm) (q : Nat) : Bool := if q = 0 then true else if q = 2 then !m.ran else if q = 3 then m.fault else if q = 4 then decide (500 ≤ m.time % 1000) else false
/-- The bit that an operand asks for. -/
def Mm.bit (m : Mm) (k n : Int) : Bool :=
  if k = 1 then bitN m.x (plc 1 n).toNat else
  if k = 2 then bitN m.y (plc 2 n).toNat else
  if k = 3 then bitN m.m (plc 3 n).toNat else
  if k = 4 then bitN m.s (plc 4 n).toNat else
  if k = 5 then bitN m.e (plc 5 n).toNat else
  if k = 6 then m.given (plc 6 n).toNat else if k = 7 then m.td (plc 7 n).toNat else if k = 8 then m.cd (plc 8 n).toNat else false
theorem wrap_u32m (n : Nat) (h : n < 4294967296) : IntKind.u32.wrap (n : Int) = n := by rw [IntKind.wrap_u32]; omega
set_option maxHeartbeats 1000000 in
theorem igiven_any (m : Mm) (_hok : m.Ok) (q : Nat) (w : World) (hq : q < 8) :
    Calls Tryd.prog 64 #[m.val, .int .i64 q] w fun e w' => e = .returned (.bool (m.given q)) ∧ Below w.heap.size w w' := by
  have c1 := m.at_time
  have c2 := m.at_ran
  have c3 := m.at_fault
  have hb : Below w.heap.size w (w.alloc (.cells m.cells 37)) := (Below.refl _ _).alloc (Nat.le_refl _) _
  obtain ⟨r, hr⟩ : ∃ r : Nat, r = m.time % 1000 := ⟨_, rfl⟩
  have h1 : (m.time : Int).tmod 1000 = (r : Int) := by rw [Int.tmod_eq_emod_of_nonneg (by omega)]; omega
  have h2 : IntKind.u32.wrap (r : Int) = (r : Int) := wrap_u32m r (by omega)
  have HD : Hid (decide (500 ≤ (r : Int)) = decide (500 ≤ m.time % 1000)) := by
    show _ = _
    rw [← hr]
    by_cases h : 500 ≤ r
    · have : (500 : Int) ≤ (r : Int) := by omega
      simp [h, this]
    · have : ¬ (500 : Int) ≤ (r : Int) := by omega
      simp [h, this]
  have HG4 : Hid (m.given 4 = decide (500 ≤ m.time % 1000)) := rfl
  clear hr _hok
  have : q = 0 ∨ q = 2 ∨ q = 3 ∨ q = 4 ∨ (q ≠ 0 ∧ q ≠ 2 ∧ q ≠ 3 ∧ q ≠ 4) := by omega
  unfold Mm.val
  generalize m.time = tm at *
  rcases this with rfl | rfl | rfl | rfl | ⟨n0, n2, n3, n4⟩
  · go_enter Tryd.func64, Tryd.ntmps64
    go_wp2
    go_ret
    exact ⟨rfl, hb⟩
  · go_enter Tryd.func64, Tryd.ntmps64
    go_wp2
    go_ret
    exact ⟨rfl, hb⟩
  · go_enter Tryd.func64, Tryd.ntmps64
    go_wp2
    go_ret
    exact ⟨rfl, hb⟩
  · go_enter Tryd.func64, Tryd.ntmps64
    go_wp2
    go_ret
    exact ⟨ret_bool4 (HD.out.trans HG4.out.symm), hb⟩
  · have HG : Hid (m.given q = false) := by
      show m.given q = false
      unfold Mm.given
      rw [if_neg n0, if_neg n2, if_neg n3, if_neg n4]
    have k0 : ((q : Int) == 0) = false := by simp only [beq_eq_false_iff_ne, ne_eq]; omega
    have k2 : ((q : Int) == 2) = false := by simp only [beq_eq_false_iff_ne, ne_eq]; omega
    have k3 : ((q : Int) == 3) = false := by simp only [beq_eq_false_iff_ne, ne_eq]; omega
    have k4 : ((q : Int) == 4) = false := by simp only [beq_eq_false_iff_ne, ne_eq]; omega
    clear n0 n2 n3 n4
    go_enter Tryd.func64, Tryd.ntmps64
    go_wp2
    go_ret
    exact ⟨ret_bool4 HG.out.symm, hb⟩
/-- The word in which the bits of a kind are packed. -/
def Mm.packed (m : Mm) (k : Int) : Nat := if k = 1 then m.x else if k = 2 then m.y else if k = 3 then m.m else if k = 4 then m.s else if k = 5 then m.e else 0
theorem packed_lt {m : Mm} (h : m.Ok) (k : Int) : m.packed k < 18446744073709551616 := by
  have h1 : m.x < 4294967296 := h.hx
  have h2 : m.y < 4294967296 := h.hy
  have h3 : m.m < 18446744073709551616 := h.hm
  have h4 : m.s < 65536 := h.hs
  have h5 : m.e < 4294967296 := h.he
  unfold Mm.packed
  repeat' split
  all_goals omega
set_option maxHeartbeats 1000000 in
theorem packed_any (m : Mm) (hok : m.Ok) (k : Int) (w : World) :
    Calls Tryd.prog 65 #[m.val, .int .i64 k] w fun e w' => e = .returned (.int .u64 (m.packed k : Nat)) ∧ Below w.heap.size w w' := by
  have hb : Below w.heap.size w (w.alloc (.cells m.cells 37)) := (Below.refl _ _).alloc (Nat.le_refl _) _
  have c0 := m.at_x
  have c1 := m.at_y
  have c2 := m.at_m
  have c3 := m.at_s
  have c4 := m.at_e
  have h1 : m.x < 4294967296 := hok.hx
  have h2 : m.y < 4294967296 := hok.hy
  have h4 : m.s < 65536 := hok.hs
  have h5 : m.e < 4294967296 := hok.he
  have w1 : IntKind.u64.wrap (m.x : Int) = (m.x : Int) := wrap_u64n _ (by omega)
  have w2 : IntKind.u64.wrap (m.y : Int) = (m.y : Int) := wrap_u64n _ (by omega)
  have w4 : IntKind.u64.wrap (m.s : Int) = (m.s : Int) := wrap_u64n _ (by omega)
  have w5 : IntKind.u64.wrap (m.e : Int) = (m.e : Int) := wrap_u64n _ (by omega)
  clear h1 h2 h4 h5 hok
  unfold Mm.val
  have : k = 1 ∨ k = 2 ∨ k = 3 ∨ k = 4 ∨ k = 5 ∨ (k ≠ 1 ∧ k ≠ 2 ∧ k ≠ 3 ∧ k ≠ 4 ∧ k ≠ 5) := by omega
  rcases this with rfl | rfl | rfl | rfl | rfl | ⟨n1, n2, n3, n4, n5⟩
  case inr.inr.inr.inr.inr =>
    have HG : Hid (m.packed k = 0) := by
      show m.packed k = 0
      unfold Mm.packed
      rw [if_neg n1, if_neg n2, if_neg n3, if_neg n4, if_neg n5]
    have k1 : (k == 1) = false := by simpa using n1
    have k2 : (k == 2) = false := by simpa using n2
    have k3 : (k == 3) = false := by simpa using n3
    have k4 : (k == 4) = false := by simpa using n4
    have k5 : (k == 5) = false := by simpa using n5
    clear n1 n2 n3 n4 n5
    rw [HG.out]
    go_enter Tryd.func65, Tryd.ntmps65
    go_wp2
    go_ret
    exact ⟨rfl, hb⟩
  all_goals
    go_enter Tryd.func65, Tryd.ntmps65
    go_wp2
    go_ret
    exact ⟨rfl, hb⟩
end Go.Proofs.YtlflihegadjpdaaDoor

/- Decimal numerals: the document's own. Helper text: no statement is claimed here. -/
namespace Go.Proofs.YtlflihegadjpdaaDoor
open Go.ChangeShapes Go.WideShapes Go.ChangeAt Go.RowKit

/-- The byte of a number. -/
def dgt (z : Int) : UInt8 := UInt8.ofNat z.toNat
theorem dgt_int (z : Int) (h0 : 0 ≤ z) (h1 : z ≤ 255) : ((dgt z).toNat : Int) = z := by unfold dgt; rw [UInt8.toNat_ofNat']; omega
theorem conv1 (w : World) (z : Int) (h0 : 0 ≤ z) (h1 : z ≤ 255) :
    Sem.run Tryd.prog (convert 22 9 (.slice (some ⟨w.heap.size, 0, none⟩) 1 1)) (w.alloc (.cells #[.int .u8 z] 5)) = .ok (.string ⟨#[dgt z]⟩) (w.alloc (.cells #[.int .u8 z] 5)) := by
  have := run_convert_bytes_back (P := Tryd.prog) (w.alloc (.cells #[.int .u8 z] 5)) 22 9 5 ⟨w.heap.size, 0, none⟩ 1 [dgt z] Tryd.underlying22 Tryd.underlying5 Tryd.underlying9 (fun j hj => by
    obtain rfl : j = 0 := by simp at hj; omega
    have e := dgt_int z h0 h1
    simp [Addr.add, e])
  exact this
theorem cat (a b : List UInt8) : (⟨a.toArray⟩ : ByteArray) ++ ⟨b.toArray⟩ = ⟨(a ++ b).toArray⟩ := by
  apply ByteArray.ext
  simp
theorem ret_str {s : ByteArray} {l : List UInt8} (h : s = ⟨l.toArray⟩) : Ending.returned (.string s) = .returned (.string ⟨l.toArray⟩) := by rw [h]
theorem digits_len (u : Nat) (hu : u ≤ 9223372036854775807) : (Lib.decDigits u).length ≤ 21 := by
  have := Lib.itoa_length_le (u : Int) (by omega) (by omega)
  rwa [Lib.itoa_nonneg] at this
theorem digits_step {m : Nat} (h : 9 < m) : Lib.decDigits m = Lib.decDigits (m / 10) ++ [dgt (48 + (m : Int) % 10)] := by
  rw [Lib.decDigits, dif_neg (by omega)]
  unfold dgt
  rw [show (48 + (m : Int) % 10).toNat = 48 + m % 10 by omega]
theorem digits_one {m : Nat} (h : ¬ 9 < m) : Lib.decDigits m = [dgt (48 + (m : Int))] := by
  rw [Lib.decDigits, dif_pos (by omega)]
  unfold dgt
  rw [show (48 + (m : Int)).toNat = 48 + m by omega]

/-! The document's own numerals. -/
set_option maxHeartbeats 400000 in
theorem dec_nat (u : Nat) (w : World) (hu : u ≤ 9223372036854775807) :
    Calls Tryd.prog 25 #[.int .i64 (u : Int)] w fun e w' => e = .returned (.string ⟨(Lib.decDigits u).toArray⟩) ∧ Below w.heap.size w w' := by
  have h1 : ¬ (u : Int) < -9223372036854775807 := by omega
  have h2 : ¬ (u : Int) < 0 := by omega
  have hU := digits_len u hu
  go_enter Tryd.func25, Tryd.ntmps25
  go_wp2
  go_loopw [0, 3] (fun n o w' => ∃ (m : Nat) (l : List UInt8), m ≤ u ∧ n = .int .i64 (m : Int) ∧ o = .string ⟨l.toArray⟩ ∧ Lib.decDigits u = Lib.decDigits m ++ l ∧ Below w.heap.size w w') (fun n _ _ => (intOf n).toNat)
  case atStart => exact ⟨u, [], by omega, rfl, rfl, by simp, Below.refl _ _⟩
  case round =>
    obtain ⟨m, l, hm, rfl, rfl, hd, hB⟩ := hrel
    rename_i wr
    have hl : l.length ≤ 30 := by have := congrArg List.length hd; simp at this; omega
    have HD : Hid (Lib.decDigits u = Lib.decDigits m ++ l) := hd
    clear hd hU
    by_cases h9 : 9 < m
    · have h9' : (9 : Int) < m := by omega
      have hcv := conv1 wr (48 + (m : Int) % 10) (by omega) (by omega)
      go_wp2
      refine ⟨⟨m / 10, [dgt (48 + (m : Int) % 10)] ++ l, by omega, by go_num, congrArg Value.string (cat [_] l), ?_, hB.alloc hB.size _⟩, by simp [intOf]; omega⟩
      rw [HD.out, digits_step h9]; simp
    · have h9' : ¬ (9 : Int) < m := by omega
      have hcv := conv1 wr (48 + (m : Int)) (by omega) (by omega)
      go_wp2
      go_ret
      exact ⟨ret_str ((cat [_] l).trans (by rw [HD.out, digits_one h9])), hB.alloc hB.size _⟩

set_option maxHeartbeats 400000 in
theorem dec_neg (u : Nat) (w : World) (h1 : 1 ≤ u) (hu : u ≤ 9223372036854775807) :
    Calls Tryd.prog 25 #[.int .i64 (-(u : Int))] w fun e w' => e = .returned (.string ⟨(45 :: Lib.decDigits u).toArray⟩) ∧ Below w.heap.size w w' := by
  have h2 : ¬ (-(u : Int)) < -9223372036854775807 := by omega
  have h3 : (-(u : Int)) < 0 := by omega
  have hU := digits_len u hu
  go_enter Tryd.func25, Tryd.ntmps25
  go_wp2_with fail
  refine (dec_nat u _ hu).mono ?_
  rintro e w1 ⟨rfl, hb⟩
  go_wp2
  go_ret
  exact ⟨ret_str (cat [45] _), hb⟩

theorem dec_any (n : Int) (w : World) (h0 : -9223372036854775807 ≤ n) (h1 : n ≤ 9223372036854775807) :
    Calls Tryd.prog 25 #[.int .i64 n] w fun e w' => e = .returned (.string ⟨(Lib.itoa n).toArray⟩) ∧ Below w.heap.size w w' := by
  by_cases h : n < 0
  · obtain ⟨u, hu⟩ : ∃ u : Nat, n = -(u : Int) := ⟨n.natAbs, by omega⟩
    subst hu
    rw [Lib.itoa_neg u (by omega)]
    exact dec_neg u w (by omega) (by omega)
  · obtain ⟨u, rfl⟩ := Int.eq_ofNat_of_zero_le (show 0 ≤ n by omega)
    rw [Lib.itoa_nonneg]
    exact dec_nat u w (by omega)
end Go.Proofs.YtlflihegadjpdaaDoor

/- Real numbers of 64 bits: what is exact. Helper text: no statement is claimed here. -/
namespace Go.Proofs.YtlflihegadjpdaaDoor.Fl
open Ieee

/-- A magnitude as the format keeps it. -/
structure Sc (m k : Nat) : Prop where
  hm : m < 2 ^ 53
  hk : k = 0 ∨ 2 ^ 52 ≤ m

/-- The word of a sign, a significand and a place. -/
def wd (s : Bool) (m k : Nat) : Nat := double.word s (k * 2 ^ 52 + m)

/-- The word of an infinity. -/
def wi (s : Bool) : Nat := double.word s double.infRung

theorem infRung_eq : double.infRung = 2047 * 2 ^ 52 := rfl
theorem binade_eq : double.binade = 2 ^ 52 := rfl
theorem signWeight_eq : double.signWeight = 2 ^ 63 := rfl
theorem leastPlace_eq : double.leastPlace = -1074 := rfl

theorem word_sign (s : Bool) {r : Nat} (h : r < 2 ^ 63) : (double.word s r / double.signWeight % 2 == 1) = s := by
  rw [signWeight_eq]
  cases s <;> simp [Format.word, signWeight_eq] <;> omega

theorem word_rung (s : Bool) {r : Nat} (h : r < 2 ^ 63) : double.word s r % double.signWeight = r := by
  rw [signWeight_eq]
  cases s <;> simp [Format.word, signWeight_eq] <;> omega

theorem read_wd {m k : Nat} (h : Sc m k) (hk : k ≤ 2045) (s : Bool) : double.read (wd s m k) = .number s m ((k : Int) - 1074) := by
  have h1 := h.hm
  have h2 := h.hk
  have hr : k * 2 ^ 52 + m < 2 ^ 63 := by omega
  unfold wd Format.read
  rw [word_sign s hr, word_rung s hr, binade_eq, infRung_eq, leastPlace_eq]
  by_cases hs : m < 2 ^ 52
  · have : k = 0 := by omega
    subst this
    simp [hs]
  · have a1 : ¬ k * 2 ^ 52 + m < 2 ^ 52 := by omega
    have a2 : k * 2 ^ 52 + m < 2047 * 2 ^ 52 := by omega
    have a3 : (k * 2 ^ 52 + m) % 2 ^ 52 = m - 2 ^ 52 := by omega
    have a4 : (k * 2 ^ 52 + m) / 2 ^ 52 = k + 1 := by omega
    have a5 : 2 ^ 52 + (m - 2 ^ 52) = m := by omega
    have a6 : (-1074 : Int) + ((k + 1 - 1 : Nat) : Int) = (k : Int) - 1074 := by omega
    simp only [a1, if_false, a2, if_true, a3, a4, a5, a6]

theorem read_wi (s : Bool) : double.read (wi s) = .infinity s := by
  cases s <;> rfl

theorem pow_lt_pow_iff2 {a b : Nat} : 2 ^ a < 2 ^ b ↔ a < b := Nat.pow_lt_pow_iff_right (by omega)
theorem pow_le_pow_iff2 {a b : Nat} : 2 ^ a ≤ 2 ^ b ↔ a ≤ b := Nat.pow_le_pow_iff_right (by omega)

theorem cut_exact (s : Bool) (m d : Nat) (hm : 0 < m) : Toward.even.cut s (m * 2 ^ d) d = m := by
  have hp : 0 < 2 ^ d := Nat.two_pow_pos d
  have hne : m * 2 ^ d ≠ 0 := Nat.mul_ne_zero (by omega) (by omega)
  have hd : d ≤ (m * 2 ^ d).log2 := (Nat.le_log2 hne).2 (Nat.le_mul_of_pos_left _ hm)
  unfold Toward.cut
  have hmin : min d ((m * 2 ^ d).log2 + 2) = d := by omega
  simp only [hmin, Nat.shiftLeft_eq, Nat.one_mul, Nat.mul_div_cancel _ hp, Nat.mul_mod_left]
  have : (2 ^ d == 2 * 0) = false := by simp
  simp [this]

theorem cut_none (s : Bool) (n : Nat) : Toward.even.cut s n 0 = n := by
  unfold Toward.cut
  simp [Nat.mod_one]

theorem nearest_sc {m k : Nat} (h : Sc m k) (hm : 0 < m) (s : Bool) (mag : Nat) (a b : Nat) (hab : a = 0 ∨ b = 0) (e : mag * 2 ^ a = m * 2 ^ (k + b)) :
    double.nearest s mag ((a : Int) - b - 1074) = double.word s (min (k * 2 ^ 52 + m) double.infRung) := by
  have h1 := h.hm
  have h2 := h.hk
  have pa : 0 < 2 ^ a := Nat.two_pow_pos a
  have pkb : 0 < 2 ^ (k + b) := Nat.two_pow_pos _
  have hne : mag ≠ 0 := by
    rintro rfl
    have : 0 < m * 2 ^ (k + b) := Nat.mul_pos hm pkb
    omega
  have l1 := Nat.log2_self_le hne
  have l2 := @Nat.lt_log2_self mag
  have up : 2 ^ (mag.log2 + a) ≤ m * 2 ^ (k + b) := by
    rw [← e, Nat.pow_add]; exact Nat.mul_le_mul_right _ l1
  have dn : m * 2 ^ (k + b) < 2 ^ (mag.log2 + 1 + a) := by
    rw [← e, Nat.pow_add _ (mag.log2 + 1)]; exact Nat.mul_lt_mul_of_pos_right l2 pa
  have key : max ((a : Int) - b - 1074 + mag.log2 - (52 : Nat)) (-1074) = (k : Int) - 1074 := by
    by_cases hs : m < 2 ^ 52
    · have hk0 : k = 0 := by omega
      subst hk0
      have : m * 2 ^ (0 + b) < 2 ^ (52 + (0 + b)) := by rw [Nat.pow_add 2 52]; exact Nat.mul_lt_mul_of_pos_right hs pkb
      have := pow_lt_pow_iff2.1 (Nat.lt_of_le_of_lt up this)
      omega
    · have t1 : 2 ^ (52 + (k + b)) ≤ m * 2 ^ (k + b) := by rw [Nat.pow_add 2 52]; exact Nat.mul_le_mul_right _ (by omega)
      have t2 : m * 2 ^ (k + b) < 2 ^ (53 + (k + b)) := by rw [Nat.pow_add 2 53]; exact Nat.mul_lt_mul_of_pos_right h1 pkb
      have := pow_lt_pow_iff2.1 (Nat.lt_of_le_of_lt up t2)
      have := pow_lt_pow_iff2.1 (Nat.lt_of_le_of_lt t1 dn)
      omega
  unfold Format.nearest
  rw [if_neg hne]
  have hf : (double.fractionBits : Nat) = 52 := rfl
  rw [leastPlace_eq, hf]
  simp only [key, binade_eq]
  have kept : Toward.even.cut s (mag <<< ((a : Int) - b - 1074 - ((k : Int) - 1074)).toNat) ((k : Int) - 1074 - ((a : Int) - b - 1074)).toNat = m := by
    by_cases hc : b + k ≤ a
    · obtain ⟨c, rfl⟩ := Nat.exists_eq_add_of_le hc
      have e1 : (((b + k + c : Nat) : Int) - b - 1074 - ((k : Int) - 1074)).toNat = c := by omega
      have e2 : ((k : Int) - 1074 - (((b + k + c : Nat) : Int) - b - 1074)).toNat = 0 := by omega
      rw [e1, e2, cut_none, Nat.shiftLeft_eq]
      have : mag * 2 ^ c * 2 ^ (k + b) = m * 2 ^ (k + b) := by
        rw [← e, Nat.mul_assoc, ← Nat.pow_add]; congr 2; omega
      exact Nat.eq_of_mul_eq_mul_right pkb this
    · obtain ⟨d, hd⟩ := Nat.exists_eq_add_of_le (Nat.le_of_not_le hc)
      have e1 : ((a : Int) - b - 1074 - ((k : Int) - 1074)).toNat = 0 := by omega
      have e2 : ((k : Int) - 1074 - ((a : Int) - b - 1074)).toNat = d := by omega
      have : mag * 2 ^ a = m * 2 ^ d * 2 ^ a := by
        rw [e, Nat.mul_assoc, ← Nat.pow_add]; congr 2; omega
      have := Nat.eq_of_mul_eq_mul_right pa this
      rw [e1, e2, Nat.shiftLeft_zero, this, cut_exact s m d hm]
  rw [kept]
  have : ((k : Int) - 1074 - (-1074)).toNat = k := by omega
  rw [this]


/-- Doubling and halving. -/
theorem sc_up {m k : Nat} (h : Sc m k) : ∃ m' k', Sc m' k' ∧ m' * 2 ^ k' = 2 * (m * 2 ^ k) ∧ k' ≤ k + 1 := by
  by_cases hs : 2 ^ 52 ≤ m
  · exact ⟨m, k + 1, ⟨h.hm, .inr hs⟩, by rw [Nat.pow_succ]; rw [← Nat.mul_assoc, Nat.mul_comm], by omega⟩
  · have : k = 0 := by have := h.hk; omega
    subst this
    exact ⟨2 * m, 0, ⟨by omega, .inl rfl⟩, by simp, by omega⟩

def two : Nat := 2 ^ 62
theorem read_two : double.read two = .number false (2 ^ 52) (-51) := rfl

theorem mul_two {m k m' k' : Nat} (h : Sc m k) (hk : k ≤ 2045) (h' : Sc m' k') (hm : 0 < m) (e : m' * 2 ^ k' = 2 * (m * 2 ^ k)) (s : Bool) :
    double.mul (wd s m k) two = some (double.word s (min (k' * 2 ^ 52 + m') double.infRung)) := by
  unfold Format.mul
  rw [read_wd h hk s, read_two]
  have hm' : 0 < m' := by
    rcases Nat.eq_zero_or_pos m' with rfl | h
    · have : 0 < 2 * (m * 2 ^ k) := Nat.mul_pos (by omega) (Nat.mul_pos hm (Nat.two_pow_pos k))
      omega
    · exact h
  simp only [Datum.product, Option.map_some, Format.write, Bool.xor_false]
  congr 1
  by_cases hk51 : 51 ≤ k
  · obtain ⟨c, rfl⟩ := Nat.exists_eq_add_of_le hk51
    have : ((51 + c : Nat) : Int) - 1074 + -51 = (c : Int) - (0 : Nat) - 1074 := by omega
    rw [this]
    refine nearest_sc h' hm' s _ _ _ (.inr rfl) ?_
    rw [Nat.add_zero, e]
    grind
  · have : (k : Int) - 1074 + -51 = ((0 : Nat) : Int) - ((51 - k : Nat) : Int) - 1074 := by omega
    rw [this]
    refine nearest_sc h' hm' s _ _ _ (.inl rfl) ?_
    rw [Nat.pow_add 2 k' (51 - k), ← Nat.mul_assoc, e]
    have : 2 ^ k * 2 ^ (51 - k) = 2 ^ 51 := by rw [← Nat.pow_add]; congr 1; omega
    grind

theorem div_two {m k m' k' : Nat} (h : Sc m k) (hk : k ≤ 2045) (h' : Sc m' k') (hm : 0 < m) (e : 2 * (m' * 2 ^ k') = m * 2 ^ k) (s : Bool) :
    double.div (wd s m k) two = some (double.word s (min (k' * 2 ^ 52 + m') double.infRung)) := by
  unfold Format.div
  rw [read_wd h hk s, read_two]
  have hm' : 0 < m' := by
    rcases Nat.eq_zero_or_pos m' with rfl | h
    · have : 0 < m * 2 ^ k := Nat.mul_pos hm (Nat.two_pow_pos k)
      omega
    · exact h
  have hl : m.log2 ≤ 52 := by
    have := (Nat.log2_lt (Nat.pos_iff_ne_zero.1 hm)).2 h.hm
    omega
  have l52 : (2 ^ 52 : Nat).log2 = 52 := Nat.log2_two_pow
  have hf : (double.fractionBits : Nat) = 52 := rfl
  simp only [Datum.quotient, Bool.xor_false, hf, l52, Nat.shiftLeft_eq]
  obtain ⟨d, hd⟩ : ∃ d, 52 + 2 + 52 - m.log2 = 54 + d := ⟨52 - m.log2, by omega⟩
  rw [hd]
  have hpow : m * 2 ^ (54 + d) = (m * 2 ^ (2 + d)) * 2 ^ 52 := by grind
  have hp : 0 < 2 ^ 52 := by omega
  rw [hpow, Nat.mul_div_cancel _ hp, Nat.mul_mod_left]
  simp only [bne_self_eq_false, Bool.toNat_false, Nat.add_zero]
  have : ¬ (2 ^ 52 = 0) := by omega
  simp only [this, if_false, Option.map_some]
  congr 1
  have hdle : d ≤ 52 := by omega
  by_cases hk1 : 4 + d ≤ k
  · obtain ⟨c, rfl⟩ := Nat.exists_eq_add_of_le hk1
    have : ((4 + d + c : Nat) : Int) - 1074 - -51 - ((54 + d : Nat) : Int) - 1 = (c : Int) - (0 : Nat) - 1074 := by omega
    rw [this]
    refine nearest_sc h' hm' s _ _ _ (.inr rfl) ?_
    rw [Nat.add_zero]
    grind
  · have : (k : Int) - 1074 - -51 - ((54 + d : Nat) : Int) - 1 = ((0 : Nat) : Int) - ((4 + d - k : Nat) : Int) - 1074 := by omega
    rw [this]
    refine nearest_sc h' hm' s _ _ _ (.inl rfl) ?_
    have : 2 ^ k * 2 ^ (4 + d - k) = 2 ^ (4 + d) := by rw [← Nat.pow_add]; congr 1; omega
    have e2 : 2 * (m' * 2 ^ (k' + (4 + d - k))) = m * 2 ^ (4 + d) := by grind
    grind

/-- The value with its sign, in units of the least place. -/
def sg (s : Bool) (v : Nat) : Int := if s then -(v : Int) else (v : Int)

theorem signed_eq (s : Bool) (m u : Nat) : signed s m u = sg s (m * 2 ^ u) := by
  cases s <;> simp [signed, sg, Nat.shiftLeft_eq]

theorem sg_scale (s : Bool) (m c : Nat) : sg s (m * c) = sg s m * c := by
  cases s <;> simp [sg, Int.neg_mul]

theorem compare_scale (x y : Int) (c : Nat) (hc : 0 < c) : compare (x * c) (y * c) = compare x y := by
  have hc' : (0 : Int) < c := by omega
  simp only [compare, compareOfLessAndEq, Int.mul_lt_mul_right hc']
  have : (x * (c : Int) = y * c) ↔ x = y := ⟨fun h => Int.eq_of_mul_eq_mul_right (by omega) h, fun h => by rw [h]⟩
  simp only [this]

theorem order_wd {m k n j : Nat} (h : Sc m k) (hk : k ≤ 2045) (h' : Sc n j) (hj : j ≤ 2045) (s t : Bool) :
    double.order (wd s m k) (wd t n j) = some (compare (sg s (m * 2 ^ k)) (sg t (n * 2 ^ j))) := by
  unfold Format.order
  rw [read_wd h hk s, read_wd h' hj t]
  simp only [Datum.order, signed_eq]
  congr 1
  have hp : 0 < 2 ^ (min k j) := Nat.two_pow_pos _
  have e1 : ((k : Int) - 1074 - min ((k : Int) - 1074) ((j : Int) - 1074)).toNat = k - min k j := by omega
  have e2 : ((j : Int) - 1074 - min ((k : Int) - 1074) ((j : Int) - 1074)).toNat = j - min k j := by omega
  rw [e1, e2, ← compare_scale _ _ _ hp, ← sg_scale, ← sg_scale, Nat.mul_assoc, ← Nat.pow_add, Nat.mul_assoc, ← Nat.pow_add]
  have e3 : k - min k j + min k j = k := by omega
  have e4 : j - min k j + min k j = j := by omega
  rw [e3, e4]

end Go.Proofs.YtlflihegadjpdaaDoor.Fl

/- Real numbers of 64 bits: numbers, infinities, nan; their order. Helper text: no statement is claimed here. -/
namespace Go.Proofs.YtlflihegadjpdaaDoor.Fl
open Ieee

def nan (b : Nat) : Prop := (double.read b).isNaN = true

theorem nan_read {b : Nat} (h : nan b) : ∃ s t, double.read b = .nan s t := by
  unfold nan at h
  cases e : double.read b <;> rw [e] at h <;> simp [Datum.isNaN] at h
  exact ⟨_, _, rfl⟩

theorem word_of {b : Nat} (h : b < 2 ^ 64) : b = double.word (b / 2 ^ 63 % 2 == 1) (b % 2 ^ 63) := by
  unfold Format.word
  rw [signWeight_eq]
  split <;> rename_i hb <;> simp at hb <;> omega

/-- Every word is a number, an infinity or a nan. -/
theorem cases_wd {b : Nat} (h : b < 2 ^ 64) : (∃ s m k, Sc m k ∧ k ≤ 2045 ∧ b = wd s m k) ∨ (∃ s, b = wi s) ∨ nan b := by
  have hb := word_of h
  generalize (b / 2 ^ 63 % 2 == 1) = s at hb
  have hr : b % 2 ^ 63 < 2 ^ 63 := Nat.mod_lt _ (by omega)
  generalize b % 2 ^ 63 = r at hb hr
  subst hb
  by_cases h1 : r < 2047 * 2 ^ 52
  · left
    by_cases h2 : r < 2 ^ 52
    · exact ⟨s, r, 0, ⟨by omega, .inl rfl⟩, by omega, by unfold wd; simp⟩
    · refine ⟨s, 2 ^ 52 + r % 2 ^ 52, r / 2 ^ 52 - 1, ⟨by omega, .inr (by omega)⟩, by omega, ?_⟩
      unfold wd; congr 1; omega
  · right
    by_cases h3 : r = 2047 * 2 ^ 52
    · left; exact ⟨s, by subst h3; rfl⟩
    · right
      unfold nan Format.read
      rw [word_sign s hr, word_rung s hr, binade_eq, infRung_eq]
      have a1 : ¬ r < 2 ^ 52 := by omega
      simp only [a1, if_false, h1, h3, Datum.isNaN]

theorem wd_lt {m k : Nat} (h : Sc m k) (hk : k ≤ 2045) (s : Bool) : wd s m k < 2 ^ 64 := by
  have h1 := h.hm
  unfold wd
  exact Format.word_lt double s (by rw [signWeight_eq]; omega)
theorem wi_lt (s : Bool) : wi s < 2 ^ 64 := Format.word_lt double s double.infRung_lt

theorem not_nan_wd {m k : Nat} (h : Sc m k) (hk : k ≤ 2045) (s : Bool) : ¬ nan (wd s m k) := by
  unfold nan; rw [read_wd h hk]; simp [Datum.isNaN]
theorem not_nan_wi (s : Bool) : ¬ nan (wi s) := by
  unfold nan; rw [read_wi]; simp [Datum.isNaN]

theorem order_nan_left {a : Nat} (h : nan a) (b : Nat) : double.order a b = none := by
  obtain ⟨s, t, e⟩ := nan_read h
  unfold Format.order
  rw [e]; cases double.read b <;> rfl
theorem order_nan_right {b : Nat} (h : nan b) (a : Nat) : double.order a b = none := by
  obtain ⟨s, t, e⟩ := nan_read h
  unfold Format.order
  rw [e]; cases double.read a <;> rfl

theorem order_wi_wd {m k : Nat} (h : Sc m k) (hk : k ≤ 2045) (s t : Bool) : double.order (wi s) (wd t m k) = some (if s then .lt else .gt) := by
  unfold Format.order; rw [read_wi, read_wd h hk]; rfl
theorem order_wd_wi {m k : Nat} (h : Sc m k) (hk : k ≤ 2045) (s t : Bool) : double.order (wd t m k) (wi s) = some (if s then .gt else .lt) := by
  unfold Format.order; rw [read_wi, read_wd h hk]; rfl
theorem order_wi_wi (s t : Bool) : double.order (wi s) (wi t) = some (compare t.toNat s.toNat) := by
  unfold Format.order; rw [read_wi, read_wi]; rfl

theorem order_self {a : Nat} (h : a < 2 ^ 64) (hn : ¬ nan a) : double.order a a = some .eq := by
  rcases cases_wd h with ⟨s, m, k, hs, hk, rfl⟩ | ⟨s, rfl⟩ | hx
  · rw [order_wd hs hk hs hk]; simp
  · rw [order_wi_wi]; simp
  · exact absurd hx hn

theorem wd_inj {m k n j : Nat} (h : Sc m k) (hk : k ≤ 2045) (h' : Sc n j) (hj : j ≤ 2045) {s t : Bool} (e : wd s m k = wd t n j) : s = t ∧ m = n ∧ k = j := by
  have e1 := read_wd h hk s
  rw [e, read_wd h' hj t] at e1
  simp only [Datum.number.injEq] at e1
  refine ⟨e1.1.symm, e1.2.1.symm, ?_⟩
  have := e1.2.2; omega

/-- One value, one place. -/
theorem sc_unique {m k n j : Nat} (h : Sc m k) (h' : Sc n j) (hm : 0 < m) (e : m * 2 ^ k = n * 2 ^ j) : m = n ∧ k = j := by
  have hn : 0 < n := by
    rcases Nat.eq_zero_or_pos n with rfl | h
    · have : 0 < m * 2 ^ k := Nat.mul_pos hm (Nat.two_pow_pos k)
      omega
    · exact h
  have key : ∀ {m k n j : Nat}, Sc m k → Sc n j → m * 2 ^ k = n * 2 ^ j → ¬ k < j := by
    intro m k n j h h' e hlt
    obtain ⟨d, rfl⟩ := Nat.exists_eq_add_of_lt hlt
    have : m * 2 ^ k = n * 2 ^ (d + 1) * 2 ^ k := by rw [e]; grind
    have := Nat.eq_of_mul_eq_mul_right (Nat.two_pow_pos k) this
    have h1 := h.hm
    have h2 : 2 ^ 52 ≤ n := by have := h'.hk; omega
    have h3 : n * 2 ^ 1 ≤ n * 2 ^ (d + 1) := Nat.mul_le_mul_left _ (pow_le_pow_iff2.2 (by omega))
    omega
  have hkj : k = j := by
    have := key h h' e
    have := key h' h e.symm
    omega
  subst hkj
  exact ⟨Nat.eq_of_mul_eq_mul_right (Nat.two_pow_pos k) e, rfl⟩

theorem exists_sc (m : Nat) (h : m < 2 ^ 53) : ∀ k, ∃ m' k', Sc m' k' ∧ m' * 2 ^ k' = m * 2 ^ k ∧ k' ≤ k := by
  intro k
  induction k generalizing m with
  | zero => exact ⟨m, 0, ⟨h, .inl rfl⟩, rfl, by omega⟩
  | succ k ih =>
    by_cases hs : 2 ^ 52 ≤ m
    · exact ⟨m, k + 1, ⟨h, .inr hs⟩, rfl, by omega⟩
    · obtain ⟨m', k', h1, h2, h3⟩ := ih (2 * m) (by omega)
      refine ⟨m', k', h1, ?_, by omega⟩
      rw [h2]; grind

/-- 'x' written as '-x'. -/
theorem negFloat_word (s : Bool) {r : Nat} (h : r < 2 ^ 63) : Go.Op.negFloat .f64 (double.word s r) = double.word (!s) r := by
  unfold Go.Op.negFloat
  show double.word s r ^^^ 2 ^ 63 = double.word (!s) r
  have hbit : ∀ x, x < 2 ^ 63 → x ^^^ 2 ^ 63 = 2 ^ 63 + x := by
    intro x hx
    have e1 : 2 ^ 63 + x = 2 ^ 63 ^^^ x := by
      have := Nat.two_pow_add_eq_or_of_lt hx 1
      rw [Nat.mul_one] at this
      rw [this]
      apply Nat.eq_of_testBit_eq
      intro i
      simp only [Nat.testBit_or, Nat.testBit_xor, Nat.testBit_two_pow]
      by_cases hi : 63 = i
      · subst hi; simp [Nat.testBit_lt_two_pow hx]
      · simp [hi]
    rw [e1, Nat.xor_comm]
  cases s
  · simpa [Format.word, signWeight_eq] using hbit r h
  · have := hbit r h
    simp only [Format.word, signWeight_eq, if_true, Bool.not_true, Bool.false_eq_true, if_false]
    rw [← this, Nat.xor_assoc, Nat.xor_self, Nat.xor_zero]

theorem neg_wd {m k : Nat} (h : Sc m k) (hk : k ≤ 2045) (s : Bool) : Go.Op.negFloat .f64 (wd s m k) = wd (!s) m k :=
  negFloat_word s (by have := h.hm; omega)
theorem neg_wi (s : Bool) : Go.Op.negFloat .f64 (wi s) = wi (!s) := negFloat_word s double.infRung_lt

/-- A whole number as a real one. -/
theorem floatOfInt_sc {n : Int} {m k : Nat} (h : Sc m k) (hm : 0 < m) (e : m * 2 ^ k = n.natAbs * 2 ^ 1074) (hk : k ≤ 2045) :
    Go.floatOfInt .f64 n = wd (n < 0) m k := by
  show double.nearest (n < 0) n.natAbs 0 = _
  have : (0 : Int) = ((1074 : Nat) : Int) - (0 : Nat) - 1074 := by omega
  rw [this, nearest_sc h hm _ _ _ _ (.inr rfl) (by rw [Nat.add_zero, e])]
  unfold wd
  congr 1
  rw [infRung_eq]
  have := h.hm
  omega
theorem floatOfInt_zero : Go.floatOfInt .f64 0 = wd false 0 0 := rfl

end Go.Proofs.YtlflihegadjpdaaDoor.Fl

/- Real numbers of 64 bits: cut to whole ones; the odd part. Helper text: no statement is claimed here. -/
namespace Go.Proofs.YtlflihegadjpdaaDoor.Fl
open Ieee

theorem cut_zero (s : Bool) (n d : Nat) : Toward.zero.cut s n d = n / 2 ^ d := by
  unfold Toward.cut
  simp only [Nat.shiftLeft_eq, Nat.one_mul, Bool.toNat_false, Nat.add_zero]
  by_cases h : d ≤ n.log2 + 2
  · rw [Nat.min_eq_left h]
  · rw [Nat.min_eq_right (by omega)]
    have l := @Nat.lt_log2_self n
    have a : n < 2 ^ (n.log2 + 2) := Nat.lt_trans l (pow_lt_pow_iff2.2 (by omega))
    have b : n < 2 ^ d := Nat.lt_trans a (pow_lt_pow_iff2.2 (by omega))
    rw [Nat.div_eq_of_lt a, Nat.div_eq_of_lt b]

theorem scale_div (m k : Nat) : m * 2 ^ (k - 1074) / 2 ^ (1074 - k) = m * 2 ^ k / 2 ^ 1074 := by
  by_cases h : 1074 ≤ k
  · obtain ⟨c, rfl⟩ := Nat.exists_eq_add_of_le h
    have e1 : 1074 + c - 1074 = c := by omega
    have e2 : 1074 - (1074 + c) = 0 := by omega
    rw [e1, e2, Nat.pow_zero, Nat.div_one, Nat.add_comm, Nat.pow_add, ← Nat.mul_assoc, Nat.mul_div_cancel _ (Nat.two_pow_pos 1074)]
  · obtain ⟨c, hc⟩ := Nat.exists_eq_add_of_le (show k ≤ 1074 by omega)
    have e1 : k - 1074 = 0 := by omega
    have e2 : 1074 - k = c := by omega
    rw [e1, e2, Nat.pow_zero, Nat.mul_one, hc, Nat.add_comm, Nat.pow_add, Nat.mul_div_mul_right _ _ (Nat.two_pow_pos k)]

/-- A real number, cut towards 0. -/
theorem toInt_wd {m k : Nat} (h : Sc m k) (hk : k ≤ 2045) (s : Bool) : (double.read (wd s m k)).toInt .zero = some (sg s (m * 2 ^ k / 2 ^ 1074)) := by
  rw [read_wd h hk]
  simp only [Datum.toInt, Datum.integral, cut_zero, signed_eq, Nat.pow_zero, Nat.mul_one, Nat.shiftLeft_eq]
  have e1 : ((k : Int) - 1074).toNat = k - 1074 := by omega
  have e2 : (-((k : Int) - 1074)).toNat = 1074 - k := by omega
  rw [e1, e2, scale_div]

/-- The odd part, and how often 2 divides. -/
def oddpF : Nat → Nat → Nat × Nat
  | 0, v => (v, 0)
  | n + 1, v => if v % 2 = 0 ∧ 0 < v then ((oddpF n (v / 2)).1, (oddpF n (v / 2)).2 + 1) else (v, 0)
def oddp (v : Nat) : Nat × Nat := oddpF v v
theorem oddpF_zero (n : Nat) : oddpF n 0 = (0, 0) := by
  cases n <;> simp [oddpF]
theorem oddpF_same : ∀ n k v, v ≤ n → v ≤ k → oddpF n v = oddpF k v
  | 0, k, v, h, _ => by
    obtain rfl : v = 0 := by omega
    rw [oddpF_zero, oddpF_zero]
  | n + 1, 0, v, _, h => by
    obtain rfl : v = 0 := by omega
    rw [oddpF_zero, oddpF_zero]
  | n + 1, k + 1, v, h1, h2 => by
    by_cases h : v % 2 = 0 ∧ 0 < v
    · rw [oddpF, oddpF, if_pos h, if_pos h, oddpF_same n k (v / 2) (by omega) (by omega)]
    · rw [oddpF, oddpF, if_neg h, if_neg h]
theorem oddp_odd {v : Nat} (h : v % 2 = 1) : oddp v = (v, 0) := by
  obtain ⟨u, rfl⟩ : ∃ u, v = u + 1 := ⟨v - 1, by omega⟩
  rw [oddp, oddpF, if_neg (by omega)]
theorem oddp_even {v : Nat} (h : v % 2 = 0) (h0 : 0 < v) : oddp v = ((oddp (v / 2)).1, (oddp (v / 2)).2 + 1) := by
  obtain ⟨u, rfl⟩ : ∃ u, v = u + 1 := ⟨v - 1, by omega⟩
  rw [oddp, oddpF, if_pos ⟨h, h0⟩, oddpF_same u ((u + 1) / 2) ((u + 1) / 2) (by omega) (Nat.le_refl _)]
  rfl
theorem oddp_two {v : Nat} (h0 : 0 < v) : oddp (2 * v) = ((oddp v).1, (oddp v).2 + 1) := by
  rw [oddp_even (by omega) (by omega)]
  have : 2 * v / 2 = v := by omega
  rw [this]
theorem oddp_pow {v : Nat} (h0 : 0 < v) : ∀ j, oddp (v * 2 ^ j) = ((oddp v).1, (oddp v).2 + j) := by
  intro j
  induction j with
  | zero => simp
  | succ j ih =>
    have : v * 2 ^ (j + 1) = 2 * (v * 2 ^ j) := by grind
    rw [this, oddp_two (Nat.mul_pos h0 (Nat.two_pow_pos j)), ih]
    rfl
theorem oddp_val (v : Nat) : 0 < v → (oddp v).1 * 2 ^ (oddp v).2 = v ∧ (oddp v).1 % 2 = 1 := by
  induction v using Nat.strongRecOn with
  | _ v ih =>
    intro h0
    by_cases h : v % 2 = 0
    · rw [oddp_even h h0]
      obtain ⟨a, b⟩ := ih (v / 2) (by omega) (by omega)
      refine ⟨?_, b⟩
      show (oddp (v / 2)).1 * 2 ^ ((oddp (v / 2)).2 + 1) = v
      rw [Nat.pow_succ, ← Nat.mul_assoc, a]; omega
    · rw [oddp_odd (by omega)]; simp; omega
theorem oddp_le (v : Nat) (h0 : 0 < v) : (oddp v).1 ≤ v := by
  have := (oddp_val v h0).1
  have h := Nat.le_mul_of_pos_right (oddp v).1 (Nat.two_pow_pos (oddp v).2)
  omega
theorem oddp_of {n t : Nat} (h : n % 2 = 1) : oddp (n * 2 ^ t) = (n, t) := by
  rw [oddp_pow (by omega), oddp_odd h]; simp

theorem lt_pow {m k j : Nat} (h : Sc m k) (hj : 1 ≤ j) : m * 2 ^ k < 2 ^ 52 * 2 ^ j ↔ k < j := by
  constructor
  · intro hl
    by_cases hk : k < j
    · exact hk
    · have h2 : 2 ^ 52 ≤ m := by have := h.hk; omega
      have h3 : 2 ^ 52 * 2 ^ j ≤ m * 2 ^ k := Nat.mul_le_mul h2 (pow_le_pow_iff2.2 (by omega))
      omega
  · intro hk
    obtain ⟨d, rfl⟩ := Nat.exists_eq_add_of_lt hk
    have h1 : m * 2 ^ k < 2 ^ 53 * 2 ^ k := Nat.mul_lt_mul_of_pos_right h.hm (Nat.two_pow_pos k)
    have h2 : 2 ^ 53 * 2 ^ k ≤ 2 ^ 53 * 2 ^ (k + d) := Nat.mul_le_mul_left _ (pow_le_pow_iff2.2 (by omega))
    have h3 : 2 ^ 52 * 2 ^ (k + d + 1) = 2 ^ 53 * 2 ^ (k + d) := by grind
    omega

/-! Comparisons as the walk meets them. -/
theorem cmp_lt (x y : Int) : (some (compare x y) == some Ordering.lt) = decide (x < y) := by
  simp [compare, compareOfLessAndEq]; split
  · rename_i h; simp; omega
  · split <;> simp <;> omega
theorem cmp_eq (x y : Int) : (some (compare x y) == some Ordering.eq) = decide (x = y) := by
  simp [compare, compareOfLessAndEq]; split
  · rename_i h; simp; omega
  · split <;> simp_all
theorem cmp_gt (x y : Int) : (some (compare x y) == some Ordering.gt) = decide (y < x) := by
  simp [compare, compareOfLessAndEq]; split
  · rename_i h; simp; omega
  · split
    · rename_i h; subst h; simp
    · simp; omega

abbrev ord (a b : Nat) : Option Ordering := Go.FloatKind.f64.format.order a b

section
theorem ord_lt {m k n j : Nat} (h : Sc m k) (hk : k ≤ 2045) (h' : Sc n j) (hj : j ≤ 2045) (s t : Bool) : (ord (wd s m k) (wd t n j) == some .lt) = decide (sg s (m * 2 ^ k) < sg t (n * 2 ^ j)) := by
  rw [← cmp_lt, ← order_wd h hk h' hj]; rfl
theorem ord_gt {m k n j : Nat} (h : Sc m k) (hk : k ≤ 2045) (h' : Sc n j) (hj : j ≤ 2045) (s t : Bool) : (ord (wd s m k) (wd t n j) == some .gt) = decide (sg t (n * 2 ^ j) < sg s (m * 2 ^ k)) := by
  rw [← cmp_gt, ← order_wd h hk h' hj]; rfl
theorem ord_eq {m k n j : Nat} (h : Sc m k) (hk : k ≤ 2045) (h' : Sc n j) (hj : j ≤ 2045) (s t : Bool) : (ord (wd s m k) (wd t n j) == some .eq) = decide (sg s (m * 2 ^ k) = sg t (n * 2 ^ j)) := by
  rw [← cmp_eq, ← order_wd h hk h' hj]; rfl
end

theorem sc00 : Sc 0 0 := ⟨by omega, .inl rfl⟩
theorem scMax : Sc (2 ^ 53 - 1) 2045 := ⟨by omega, .inr (by omega)⟩
theorem sc52 : Sc (2 ^ 52) 1074 := ⟨by omega, .inr (by omega)⟩
theorem sc53 : Sc (2 ^ 52) 1075 := ⟨by omega, .inr (by omega)⟩
theorem w0 : wd false 0 0 = 0 := rfl
theorem wMax : wd false (2 ^ 53 - 1) 2045 = 9218868437227405311 := rfl
theorem wMaxN : wd true (2 ^ 53 - 1) 2045 = 18442240474082181119 := rfl
theorem w52 : wd false (2 ^ 52) 1074 = 4841369599423283200 := rfl
theorem w53 : wd false (2 ^ 52) 1075 = 4845873199050653696 := rfl

theorem max_val {m k j : Nat} (h : Sc m k) (hk : k ≤ j) : m * 2 ^ k ≤ (2 ^ 53 - 1) * 2 ^ j :=
  Nat.mul_le_mul (by have := h.hm; omega) (pow_le_pow_iff2.2 hk)
end Go.Proofs.YtlflihegadjpdaaDoor.Fl
