/- The place of a device, counted round, on both sides. Helper text: no statement is claimed here. -/
import Derived.Test.YtmgjngihngddfaaGreatDoorP02
import Derived.Test.YtmgjngihngddfaaGreatDoorP01
import Derived.Laws.BitsLemmas
import Derived.Laws.BitsAllLaws
import Derived.Laws.Bits64
namespace Go.Proofs.YtmgjngihngddfaaGreatDoor
open Go.ChangeShapes Go.WideShapes Go.ChangeAt Go.RowKit

/-- How many there are to count round by. -/
def sz4 (k : Int) : Int := if k = 6 then 8 else rN (kz k)
/-- The place. -/
def plc (k n : Int) : Int := if sz4 k = 0 then 0 else n % sz4 k
theorem sz4_cases (k : Int) : sz4 k = 0 ∨ sz4 k = 8 ∨ sz4 k = 16 ∨ sz4 k = 32 ∨ sz4 k = 64 := by
  unfold sz4
  split
  · exact .inr (.inl rfl)
  · rename_i h6
    unfold kz
    split
    · rename_i h
      have : k = 1 ∨ k = 2 ∨ k = 3 ∨ k = 4 ∨ k = 5 ∨ k = 7 ∨ k = 8 ∨ k = 9 ∨ k = 10 ∨ k = 11 ∨ k = 12 ∨ k = 13 := by omega
      rcases this with rfl | rfl | rfl | rfl | rfl | rfl | rfl | rfl | rfl | rfl | rfl | rfl <;> decide
    · exact .inl rfl
theorem plc_range (k n : Int) : 0 ≤ plc k n ∧ (plc k n < sz4 k ∨ plc k n = 0) := by
  unfold plc
  rcases sz4_cases k with h | h | h | h | h <;> rw [h]
  · simp
  all_goals
    rw [if_neg (by decide)]
    omega
theorem wrap_small {x : Int} (h0 : -9223372036854775808 ≤ x) (h1 : x ≤ 9223372036854775807) : IntKind.i64.wrap x = x := by
  rw [IntKind.wrap_i64]; omega
theorem tmod_neg {n s : Int} (hs : 0 < s) (h : n.tmod s < 0) : n.tmod s + s = n % s := by
  have h1 := Int.tmod_eq_emod (a := n) (b := s)
  have h2 := Int.emod_nonneg n (show s ≠ 0 by omega)
  have h3 := Int.emod_lt_of_pos n hs
  split at h1
  · omega
  · have : (s.natAbs : Int) = s := by omega
    omega
theorem tmod_pos {n s : Int} (hs : 0 < s) (h : ¬ n.tmod s < 0) : n.tmod s = n % s := by
  have h1 := Int.tmod_eq_emod (a := n) (b := s)
  have h2 := Int.emod_nonneg n (show s ≠ 0 by omega)
  have h3 := Int.emod_lt_of_pos n hs
  split at h1
  · omega
  · have : (s.natAbs : Int) = s := by omega
    omega
theorem tmod_small {n s : Int} (hs : 0 < s) : -s ≤ n.tmod s ∧ n.tmod s < s := by
  have h2 := Int.emod_nonneg n (show s ≠ 0 by omega)
  have h3 := Int.emod_lt_of_pos n hs
  by_cases h : n.tmod s < 0
  · have := tmod_neg hs h
    omega
  · have := tmod_pos hs h
    omega

theorem plc_s (k : Int) (h6 : ¬ k = 6) : rN (kz k) = 0 ∨ rN (kz k) = 16 ∨ rN (kz k) = 32 ∨ rN (kz k) = 64 := by
  unfold kz
  split
  · rename_i h
    have : k = 1 ∨ k = 2 ∨ k = 3 ∨ k = 4 ∨ k = 5 ∨ k = 7 ∨ k = 8 ∨ k = 9 ∨ k = 10 ∨ k = 11 ∨ k = 12 ∨ k = 13 := by omega
    rcases this with rfl | rfl | rfl | rfl | rfl | rfl | rfl | rfl | rfl | rfl | rfl | rfl <;> decide
  · exact .inl rfl
set_option maxHeartbeats 1000000 in
theorem place_any (k n p : Int) (w : World) (hT : DevTab w) :
    Calls Tryz.prog 34 #[.agg #[.int .i64 k, .int .i64 n, .int .i64 p]] w fun e w' => e = .returned (.int .i64 (plc k n)) ∧ Below w.heap.size w w' := by
  have HT : Hid (DevTab w) := hT
  clear hT
  go_enter Tryz.func34, Tryz.ntmps34
  go_wp2_with fail
  refine (size_any k _ (HT.out.alloc _)).mono ?_
  rintro e w1 ⟨rfl, hb1⟩
  have HB1 : Hid (Below w.heap.size w w1) := of_one hb1
  have c0 : w1.cell? ⟨w.heap.size, 0, none⟩ = some (.int .i64 k) := (hb1.cell (p := ⟨w.heap.size, 0, none⟩) (by simp)).trans (by rw [World.cell?_alloc_mark]; rfl)
  have c1 : w1.cell? ⟨w.heap.size, 1, none⟩ = some (.int .i64 n) := (hb1.cell (p := ⟨w.heap.size, 1, none⟩) (by simp)).trans (by rw [World.cell?_alloc_mark]; rfl)
  clear hb1
  by_cases h6 : k = 6
  · subst h6
    have hs : (0 : Int) < 8 := by decide
    have hsm := tmod_small (n := n) hs
    have hwr : IntKind.i64.wrap (n.tmod 8) = n.tmod 8 := wrap_small (by omega) (by omega)
    by_cases hn : n.tmod 8 < 0
    · have hw2 : IntKind.i64.wrap (n.tmod 8 + 8) = n.tmod 8 + 8 := wrap_small (by omega) (by omega)
      have HE : Hid (n.tmod 8 + 8 = n % 8) := tmod_neg hs hn
      go_wp2
      go_ret
      refine ⟨?_, HB1.out⟩
      rw [show plc 6 n = n % 8 from rfl, ← HE.out]
      rfl
    · have HE : Hid (n.tmod 8 = n % 8) := tmod_pos hs hn
      go_wp2
      go_ret
      refine ⟨?_, HB1.out⟩
      rw [show plc 6 n = n % 8 from rfl, ← HE.out]
      rfl
  · have hk : (k == 6) = false := by simpa using h6
    have hr : sz4 k = rN (kz k) := if_neg h6
    have HP : Hid (plc k n = if sz4 k = 0 then 0 else n % sz4 k) := rfl
    rw [hr] at HP
    rcases plc_s k h6 with h | h | h | h
    · rw [h] at HP ⊢
      clear hr h
      go_wp2
      go_ret
      exact ⟨by rw [show plc k n = 0 from HP.out]; rfl, HB1.out⟩
    · rw [h] at HP ⊢
      clear hr h
      have hs : (0 : Int) < 16 := by decide
      have hsm := tmod_small (n := n) hs
      have hwr : IntKind.i64.wrap (n.tmod 16) = n.tmod 16 := wrap_small (by omega) (by omega)
      by_cases hn : n.tmod 16 < 0
      · have hw2 : IntKind.i64.wrap (n.tmod 16 + 16) = n.tmod 16 + 16 := wrap_small (by omega) (by omega)
        have HE : Hid (n.tmod 16 + 16 = n % 16) := tmod_neg hs hn
        go_wp2
        go_ret
        refine ⟨?_, HB1.out⟩
        rw [show plc k n = n % 16 from HP.out, ← HE.out]
        rfl
      · have HE : Hid (n.tmod 16 = n % 16) := tmod_pos hs hn
        go_wp2
        go_ret
        refine ⟨?_, HB1.out⟩
        rw [show plc k n = n % 16 from HP.out, ← HE.out]
        rfl
    · rw [h] at HP ⊢
      clear hr h
      have hs : (0 : Int) < 32 := by decide
      have hsm := tmod_small (n := n) hs
      have hwr : IntKind.i64.wrap (n.tmod 32) = n.tmod 32 := wrap_small (by omega) (by omega)
      by_cases hn : n.tmod 32 < 0
      · have hw2 : IntKind.i64.wrap (n.tmod 32 + 32) = n.tmod 32 + 32 := wrap_small (by omega) (by omega)
        have HE : Hid (n.tmod 32 + 32 = n % 32) := tmod_neg hs hn
        go_wp2
        go_ret
        refine ⟨?_, HB1.out⟩
        rw [show plc k n = n % 32 from HP.out, ← HE.out]
        rfl
      · have HE : Hid (n.tmod 32 = n % 32) := tmod_pos hs hn
        go_wp2
        go_ret
        refine ⟨?_, HB1.out⟩
        rw [show plc k n = n % 32 from HP.out, ← HE.out]
        rfl
    · rw [h] at HP ⊢
      clear hr h
      have hs : (0 : Int) < 64 := by decide
      have hsm := tmod_small (n := n) hs
      have hwr : IntKind.i64.wrap (n.tmod 64) = n.tmod 64 := wrap_small (by omega) (by omega)
      by_cases hn : n.tmod 64 < 0
      · have hw2 : IntKind.i64.wrap (n.tmod 64 + 64) = n.tmod 64 + 64 := wrap_small (by omega) (by omega)
        have HE : Hid (n.tmod 64 + 64 = n % 64) := tmod_neg hs hn
        go_wp2
        go_ret
        refine ⟨?_, HB1.out⟩
        rw [show plc k n = n % 64 from HP.out, ← HE.out]
        rfl
      · have HE : Hid (n.tmod 64 = n % 64) := tmod_pos hs hn
        go_wp2
        go_ret
        refine ⟨?_, HB1.out⟩
        rw [show plc k n = n % 64 from HP.out, ← HE.out]
        rfl
end Go.Proofs.YtmgjngihngddfaaGreatDoor

/- Bits of words, as plain mathematics. Helper text: no statement is claimed here. -/
namespace Go.Proofs.YtmgjngihngddfaaGreatDoor

/-- Bit k of a word. -/
def bitN (w k : Nat) : Bool := decide (w / 2 ^ k % 2 = 1)
/-- A word with bit k put. -/
def putN (w k : Nat) (b : Bool) : Nat := if bitN w k = b then w else if b then w + 2 ^ k else w - 2 ^ k
theorem bitN_test (w k : Nat) : bitN w k = w.testBit k := by
  rw [Nat.testBit_eq_decide_div_mod_eq, bitN]
theorem or_pow : ∀ (k w : Nat), w.testBit k = false → w ||| 2 ^ k = w + 2 ^ k
  | 0, w, h => by
    have h0 : w % 2 = 0 := by
      rw [Nat.testBit_zero] at h
      have := of_decide_eq_false h
      omega
    have d : (w ||| 2 ^ 0) / 2 = w / 2 := by rw [Nat.or_div_two]; simp
    have m : (w ||| 2 ^ 0) % 2 = 1 := by rw [Nat.or_mod_two_eq_one]; right; rfl
    have : (2 : Nat) ^ 0 = 1 := rfl
    omega
  | k + 1, w, h => by
    rw [Nat.testBit_add_one] at h
    have ih := or_pow k (w / 2) h
    have e : (2 : Nat) ^ (k + 1) / 2 = 2 ^ k := by rw [Nat.pow_succ]; omega
    have d : (w ||| 2 ^ (k + 1)) / 2 = w / 2 + 2 ^ k := by rw [Nat.or_div_two, e, ih]
    have p : (2 : Nat) ^ (k + 1) = 2 * 2 ^ k := by rw [Nat.pow_succ]; omega
    have m : (w ||| 2 ^ (k + 1)) % 2 = w % 2 := by
      have a := Nat.or_mod_two_eq_one (a := w) (b := 2 ^ (k + 1))
      have b : ¬ 2 ^ (k + 1) % 2 = 1 := by omega
      by_cases hw : w % 2 = 1
      · rw [hw]; exact a.2 (.inl hw)
      · have : ¬ (w ||| 2 ^ (k + 1)) % 2 = 1 := fun hh => by rcases a.1 hh with h | h <;> contradiction
        omega
    omega
theorem putN_true (w k : Nat) : w ||| 2 ^ k = putN w k true := by
  unfold putN
  rw [bitN_test]
  by_cases h : w.testBit k = true
  · rw [if_pos h]
    apply Nat.eq_of_testBit_eq
    intro i
    rw [Nat.testBit_or, Nat.testBit_two_pow]
    by_cases hi : k = i
    · subst hi; simp [h]
    · simp [hi]
  · rw [if_neg h, if_pos rfl]
    have h0 : w.testBit k = false := by simpa using h
    exact or_pow k w h0
theorem two_pow_le_of_test {w k : Nat} (h : w.testBit k = true) : 2 ^ k ≤ w := Nat.ge_two_pow_of_testBit h
theorem putN_false (w k : Nat) (hk : k < 64) (hw : w < 18446744073709551616) : w &&& (18446744073709551615 - 2 ^ k) = putN w k false := by
  have hm : ∀ i, (18446744073709551615 - 2 ^ k).testBit i = (decide (i < 64) && !decide (k = i)) := by
    intro i
    have := Nat.testBit_two_pow_sub_succ (x := 2 ^ k) (n := 64) (Nat.pow_lt_pow_right (by decide) hk) i
    rw [Nat.testBit_two_pow] at this
    rw [← this]
    congr 1
    omega
  have hw' : ∀ i, w.testBit i = true → i < 64 := by
    intro i hi
    have h1 := Nat.ge_two_pow_of_testBit hi
    rcases Nat.lt_or_ge i 64 with h | h
    · exact h
    · have : 2 ^ 64 ≤ 2 ^ i := Nat.pow_le_pow_right (by decide) h
      omega
  have hand : ∀ i, (w &&& (18446744073709551615 - 2 ^ k)).testBit i = (w.testBit i && !decide (k = i)) := by
    intro i
    rw [Nat.testBit_and, hm]
    cases hi : w.testBit i
    · rfl
    · simp [hw' i hi]
  unfold putN
  rw [bitN_test]
  by_cases h : w.testBit k = false
  · rw [if_pos h]
    apply Nat.eq_of_testBit_eq
    intro i
    rw [hand]
    by_cases hi : k = i
    · subst hi; simp [h]
    · simp [hi]
  · have h1 : w.testBit k = true := by simpa using h
    rw [if_neg h, if_neg (by decide)]
    have e : (w &&& (18446744073709551615 - 2 ^ k)) ||| 2 ^ k = w := by
      apply Nat.eq_of_testBit_eq
      intro i
      rw [Nat.testBit_or, hand, Nat.testBit_two_pow]
      by_cases hi : k = i
      · subst hi; simp [h1]
      · simp [hi]
    have := or_pow k (w &&& (18446744073709551615 - 2 ^ k)) (by rw [hand]; simp)
    omega
theorem putN_test (w k : Nat) (b : Bool) (i : Nat) : (putN w k b).testBit i = if i = k then b else w.testBit i := by
  cases b
  · unfold putN
    rw [bitN_test]
    by_cases h : w.testBit k = false
    · rw [if_pos h]
      by_cases hi : i = k
      · subst hi; simp [h]
      · simp [hi]
    · have h1 : w.testBit k = true := by simpa using h
      rw [if_neg h, if_neg (by decide)]
      have e : w - 2 ^ k = w ^^^ 2 ^ k := by
        have hx : (w ^^^ 2 ^ k) ||| 2 ^ k = w := by
          apply Nat.eq_of_testBit_eq
          intro j
          rw [Nat.testBit_or, Nat.testBit_xor, Nat.testBit_two_pow]
          by_cases hj : k = j
          · subst hj; simp [h1]
          · simp [hj]
        have := or_pow k (w ^^^ 2 ^ k) (by rw [Nat.testBit_xor, Nat.testBit_two_pow, h1]; simp)
        omega
      rw [e, Nat.testBit_xor, Nat.testBit_two_pow]
      by_cases hi : i = k
      · subst hi; simp [h1]
      · have : ¬ k = i := fun e => hi e.symm
        simp [hi, this]
  · rw [← putN_true, Nat.testBit_or, Nat.testBit_two_pow]
    by_cases hi : i = k
    · subst hi; simp
    · have : ¬ k = i := fun e => hi e.symm
      simp [hi, this]
theorem putN_lt {w k n : Nat} (b : Bool) (hk : k < n) (hw : w < 2 ^ n) : putN w k b < 2 ^ n := by
  apply Nat.lt_pow_two_of_testBit
  intro i hi
  rw [putN_test, if_neg (by omega)]
  exact Nat.testBit_lt_two_pow (Nat.lt_of_lt_of_le hw (Nat.pow_le_pow_right (by decide) hi))
theorem putN_same (w k : Nat) (b : Bool) : bitN (putN w k b) k = b := by rw [bitN_test, putN_test, if_pos rfl]
theorem putN_other (w k j : Nat) (b : Bool) (h : j ≠ k) : bitN (putN w k b) j = bitN w j := by rw [bitN_test, putN_test, if_neg h, bitN_test]
theorem putN_back (w k : Nat) (b : Bool) : putN (putN w k b) k (bitN w k) = w := by
  apply Nat.eq_of_testBit_eq
  intro i
  rw [putN_test, putN_test, bitN_test]
  by_cases hi : i = k
  · rw [if_pos hi, hi]
  · rw [if_neg hi, if_neg hi]
end Go.Proofs.YtmgjngihngddfaaGreatDoor

/- Small facts on words. Helper text: no statement is claimed here. -/
namespace Go.Proofs.YtmgjngihngddfaaGreatDoor
open Go.ChangeShapes Go.WideShapes Go.ChangeAt Go.RowKit

theorem ret_bool4 {a b : Bool} (h : a = b) : Ending.returned (.bool a) = .returned (.bool b) := by rw [h]
theorem wrap_u64n (n : Nat) (h : n < 18446744073709551616) : IntKind.u64.wrap (n : Int) = n := by rw [IntKind.wrap_u64]; omega
theorem pow_lt64 {k : Nat} (h : k < 64) : 2 ^ k < 18446744073709551616 := Nat.pow_lt_pow_right (a := 2) (n := 64) (by decide) h
end Go.Proofs.YtmgjngihngddfaaGreatDoor

/- The bits that are given, of the program. Helper text: no statement is claimed here. -/
namespace Go.Proofs.YtmgjngihngddfaaGreatDoor
open Go.ChangeShapes Go.WideShapes Go.ChangeAt Go.RowKit

/-- A given bit. -/
def Mm.given (m : Mm) (q : Nat) : Bool := if q = 0 then true else if q = 2 then !m.ran else if q = 3 then m.fault else if q = 4 then decide (500 ≤ m.time % 1000) else false
/-- The bit that an operand asks for. -/
def Mm.bit (m : Mm) (k n : Int) : Bool :=
  if k = 1 then bitN m.x (plc 1 n).toNat else
  if k = 2 then bitN m.y (plc 2 n).toNat else
  if k = 3 then bitN m.m (plc 3 n).toNat else
  if k = 4 then bitN m.s (plc 4 n).toNat else
  if k = 5 then bitN m.e (plc 5 n).toNat else
  if k = 6 then m.given (plc 6 n).toNat else if k = 7 then m.td (plc 7 n).toNat else if k = 8 then m.cd (plc 8 n).toNat else false
theorem wrap_u32m (n : Nat) (h : n < 4294967296) : IntKind.u32.wrap (n : Int) = n := by rw [IntKind.wrap_u32]; omega
set_option maxHeartbeats 1000000 in
theorem igiven_any (m : Mm) (_hok : m.Ok) (q : Nat) (w : World) (hq : q < 8) :
    Calls Tryz.prog 35 #[m.val, .int .i64 q] w fun e w' => e = .returned (.bool (m.given q)) ∧ Below w.heap.size w w' := by
  have c1 := m.at_time
  have c2 := m.at_ran
  have c3 := m.at_fault
  have hb : Below w.heap.size w (w.alloc (.cells m.cells 37)) := (Below.refl _ _).alloc (Nat.le_refl _) _
  obtain ⟨r, hr⟩ : ∃ r : Nat, r = m.time % 1000 := ⟨_, rfl⟩
  have h1 : (m.time : Int).tmod 1000 = (r : Int) := by rw [Int.tmod_eq_emod_of_nonneg (by omega)]; omega
  have h2 : IntKind.u32.wrap (r : Int) = (r : Int) := wrap_u32m r (by omega)
  have HD : Hid (decide (500 ≤ (r : Int)) = decide (500 ≤ m.time % 1000)) := by
    show _ = _
    rw [← hr]
    by_cases h : 500 ≤ r
    · have : (500 : Int) ≤ (r : Int) := by omega
      simp [h, this]
    · have : ¬ (500 : Int) ≤ (r : Int) := by omega
      simp [h, this]
  have HG4 : Hid (m.given 4 = decide (500 ≤ m.time % 1000)) := rfl
  clear hr _hok
  have : q = 0 ∨ q = 2 ∨ q = 3 ∨ q = 4 ∨ (q ≠ 0 ∧ q ≠ 2 ∧ q ≠ 3 ∧ q ≠ 4) := by omega
  unfold Mm.val
  generalize m.time = tm at *
  rcases this with rfl | rfl | rfl | rfl | ⟨n0, n2, n3, n4⟩
  · go_enter Tryz.func35, Tryz.ntmps35
    go_wp2
    go_ret
    exact ⟨rfl, hb⟩
  · go_enter Tryz.func35, Tryz.ntmps35
    go_wp2
    go_ret
    exact ⟨rfl, hb⟩
  · go_enter Tryz.func35, Tryz.ntmps35
    go_wp2
    go_ret
    exact ⟨rfl, hb⟩
  · go_enter Tryz.func35, Tryz.ntmps35
    go_wp2
    go_ret
    exact ⟨ret_bool4 (HD.out.trans HG4.out.symm), hb⟩
  · have HG : Hid (m.given q = false) := by
      show m.given q = false
      unfold Mm.given
      rw [if_neg n0, if_neg n2, if_neg n3, if_neg n4]
    have k0 : ((q : Int) == 0) = false := by simp only [beq_eq_false_iff_ne, ne_eq]; omega
    have k2 : ((q : Int) == 2) = false := by simp only [beq_eq_false_iff_ne, ne_eq]; omega
    have k3 : ((q : Int) == 3) = false := by simp only [beq_eq_false_iff_ne, ne_eq]; omega
    have k4 : ((q : Int) == 4) = false := by simp only [beq_eq_false_iff_ne, ne_eq]; omega
    clear n0 n2 n3 n4
    go_enter Tryz.func35, Tryz.ntmps35
    go_wp2
    go_ret
    exact ⟨ret_bool4 HG.out.symm, hb⟩
/-- The word in which the bits of a kind are packed. -/
def Mm.packed (m : Mm) (k : Int) : Nat := if k = 1 then m.x else if k = 2 then m.y else if k = 3 then m.m else if k = 4 then m.s else if k = 5 then m.e else 0
theorem packed_lt {m : Mm} (h : m.Ok) (k : Int) : m.packed k < 18446744073709551616 := by
  have h1 : m.x < 4294967296 := h.hx
  have h2 : m.y < 4294967296 := h.hy
  have h3 : m.m < 18446744073709551616 := h.hm
  have h4 : m.s < 65536 := h.hs
  have h5 : m.e < 4294967296 := h.he
  unfold Mm.packed
  repeat' split
  all_goals omega
set_option maxHeartbeats 1000000 in
theorem packed_any (m : Mm) (hok : m.Ok) (k : Int) (w : World) :
    Calls Tryz.prog 36 #[m.val, .int .i64 k] w fun e w' => e = .returned (.int .u64 (m.packed k : Nat)) ∧ Below w.heap.size w w' := by
  have hb : Below w.heap.size w (w.alloc (.cells m.cells 37)) := (Below.refl _ _).alloc (Nat.le_refl _) _
  have c0 := m.at_x
  have c1 := m.at_y
  have c2 := m.at_m
  have c3 := m.at_s
  have c4 := m.at_e
  have h1 : m.x < 4294967296 := hok.hx
  have h2 : m.y < 4294967296 := hok.hy
  have h4 : m.s < 65536 := hok.hs
  have h5 : m.e < 4294967296 := hok.he
  have w1 : IntKind.u64.wrap (m.x : Int) = (m.x : Int) := wrap_u64n _ (by omega)
  have w2 : IntKind.u64.wrap (m.y : Int) = (m.y : Int) := wrap_u64n _ (by omega)
  have w4 : IntKind.u64.wrap (m.s : Int) = (m.s : Int) := wrap_u64n _ (by omega)
  have w5 : IntKind.u64.wrap (m.e : Int) = (m.e : Int) := wrap_u64n _ (by omega)
  clear h1 h2 h4 h5 hok
  unfold Mm.val
  have : k = 1 ∨ k = 2 ∨ k = 3 ∨ k = 4 ∨ k = 5 ∨ (k ≠ 1 ∧ k ≠ 2 ∧ k ≠ 3 ∧ k ≠ 4 ∧ k ≠ 5) := by omega
  rcases this with rfl | rfl | rfl | rfl | rfl | ⟨n1, n2, n3, n4, n5⟩
  case inr.inr.inr.inr.inr =>
    have HG : Hid (m.packed k = 0) := by
      show m.packed k = 0
      unfold Mm.packed
      rw [if_neg n1, if_neg n2, if_neg n3, if_neg n4, if_neg n5]
    have k1 : (k == 1) = false := by simpa using n1
    have k2 : (k == 2) = false := by simpa using n2
    have k3 : (k == 3) = false := by simpa using n3
    have k4 : (k == 4) = false := by simpa using n4
    have k5 : (k == 5) = false := by simpa using n5
    clear n1 n2 n3 n4 n5
    rw [HG.out]
    go_enter Tryz.func36, Tryz.ntmps36
    go_wp2
    go_ret
    exact ⟨rfl, hb⟩
  all_goals
    go_enter Tryz.func36, Tryz.ntmps36
    go_wp2
    go_ret
    exact ⟨rfl, hb⟩
end Go.Proofs.YtmgjngihngddfaaGreatDoor

/- The document's DevSize. Helper text: no statement is claimed here. -/
namespace Go.Proofs.YtmgjngihngddfaaGreatDoor
open Go.ChangeShapes Go.WideShapes Go.ChangeAt Go.RowKit

/-! The document's own. -/
theorem kind_cases (k : Int) : k = 1 ∨ k = 2 ∨ k = 3 ∨ k = 4 ∨ k = 5 ∨ k = 6 ∨ k = 7 ∨ k = 8 ∨ k = 9 ∨ k = 10 ∨ ((k == 1) = false ∧ (k == 2) = false ∧ (k == 3) = false ∧ (k == 4) = false ∧ (k == 5) = false ∧ (k == 6) = false ∧ (k == 7) = false ∧ (k == 8) = false ∧ (k == 9) = false ∧ (k == 10) = false ∧ rN (kz k) = 0) := by
  by_cases h : 1 ≤ k ∧ k ≤ 10
  · omega
  · right; right; right; right; right; right; right; right; right; right
    simp only [beq_eq_false_iff_ne, ne_eq]
    refine ⟨by omega, by omega, by omega, by omega, by omega, by omega, by omega, by omega, by omega, by omega, ?_⟩
    by_cases h2 : 1 ≤ k ∧ k ≤ 13
    · have : k = 11 ∨ k = 12 ∨ k = 13 := by omega
      rcases this with rfl | rfl | rfl <;> rfl
    · unfold kz; rw [if_neg h2]; rfl

set_option maxHeartbeats 400000 in
theorem ssize_any (k : Int) (w : World) :
    Calls Tryz.prog 55 #[.int .i64 k] w fun e w' => e = .returned (.int .i64 (rN (kz k))) ∧ w' = w := by
  rcases kind_cases k with rfl | rfl | rfl | rfl | rfl | rfl | rfl | rfl | rfl | rfl | ⟨h1, h2, h3, h4, h5, h6, h7, h8, h9, h10, h0⟩
  case inr.inr.inr.inr.inr.inr.inr.inr.inr.inr =>
    rw [h0]
    clear h0
    go_enter Tryz.func55, Tryz.ntmps55
    go_wp2
    go_ret
    exact ⟨rfl, rfl⟩
  all_goals
    go_enter Tryz.func55, Tryz.ntmps55
    go_wp2
    go_ret
    exact ⟨rfl, rfl⟩
end Go.Proofs.YtmgjngihngddfaaGreatDoor

/- The place of an operand, counted round: the document's side. Helper text: no statement is claimed here. -/
namespace Go.Proofs.YtmgjngihngddfaaGreatDoor
open Go.ChangeShapes Go.WideShapes Go.ChangeAt Go.RowKit

set_option maxHeartbeats 1000000 in
theorem at_any (k n p : Int) (w : World) :
    Calls Tryz.prog 31 #[.agg #[.int .i64 k, .int .i64 n, .int .i64 p]] w fun e w' => e = .returned (.int .i64 (plc k n)) ∧ Below w.heap.size w w' := by
  go_enter Tryz.func31, Tryz.ntmps31
  go_wp2_with fail
  refine (ssize_any k _).mono ?_
  rintro e w1 ⟨rfl, rfl⟩
  have HB1 : Hid (Below w.heap.size w (w.alloc (.cells #[.int .i64 k, .int .i64 n, .int .i64 p] 48))) := one w _
  by_cases h6 : k = 6
  · subst h6
    have hs : (0 : Int) < 8 := by decide
    have hsm := tmod_small (n := n) hs
    have hwr : IntKind.i64.wrap (n.tmod 8) = n.tmod 8 := wrap_small (by omega) (by omega)
    by_cases hn : n.tmod 8 < 0
    · have hw2 : IntKind.i64.wrap (n.tmod 8 + 8) = n.tmod 8 + 8 := wrap_small (by omega) (by omega)
      have HE : Hid (n.tmod 8 + 8 = n % 8) := tmod_neg hs hn
      go_wp2
      go_ret
      refine ⟨?_, HB1.out⟩
      rw [show plc 6 n = n % 8 from rfl, ← HE.out]
      rfl
    · have HE : Hid (n.tmod 8 = n % 8) := tmod_pos hs hn
      go_wp2
      go_ret
      refine ⟨?_, HB1.out⟩
      rw [show plc 6 n = n % 8 from rfl, ← HE.out]
      rfl
  · have hk : (k == 6) = false := by simpa using h6
    have hr : sz4 k = rN (kz k) := if_neg h6
    have HP : Hid (plc k n = if sz4 k = 0 then 0 else n % sz4 k) := rfl
    rw [hr] at HP
    rcases plc_s k h6 with h | h | h | h
    · rw [h] at HP ⊢
      clear hr h
      go_wp2
      go_ret
      exact ⟨by rw [show plc k n = 0 from HP.out]; rfl, HB1.out⟩
    · rw [h] at HP ⊢
      clear hr h
      have hs : (0 : Int) < 16 := by decide
      have hsm := tmod_small (n := n) hs
      have hwr : IntKind.i64.wrap (n.tmod 16) = n.tmod 16 := wrap_small (by omega) (by omega)
      by_cases hn : n.tmod 16 < 0
      · have hw2 : IntKind.i64.wrap (n.tmod 16 + 16) = n.tmod 16 + 16 := wrap_small (by omega) (by omega)
        have HE : Hid (n.tmod 16 + 16 = n % 16) := tmod_neg hs hn
        go_wp2
        go_ret
        refine ⟨?_, HB1.out⟩
        rw [show plc k n = n % 16 from HP.out, ← HE.out]
        rfl
      · have HE : Hid (n.tmod 16 = n % 16) := tmod_pos hs hn
        go_wp2
        go_ret
        refine ⟨?_, HB1.out⟩
        rw [show plc k n = n % 16 from HP.out, ← HE.out]
        rfl
    · rw [h] at HP ⊢
      clear hr h
      have hs : (0 : Int) < 32 := by decide
      have hsm := tmod_small (n := n) hs
      have hwr : IntKind.i64.wrap (n.tmod 32) = n.tmod 32 := wrap_small (by omega) (by omega)
      by_cases hn : n.tmod 32 < 0
      · have hw2 : IntKind.i64.wrap (n.tmod 32 + 32) = n.tmod 32 + 32 := wrap_small (by omega) (by omega)
        have HE : Hid (n.tmod 32 + 32 = n % 32) := tmod_neg hs hn
        go_wp2
        go_ret
        refine ⟨?_, HB1.out⟩
        rw [show plc k n = n % 32 from HP.out, ← HE.out]
        rfl
      · have HE : Hid (n.tmod 32 = n % 32) := tmod_pos hs hn
        go_wp2
        go_ret
        refine ⟨?_, HB1.out⟩
        rw [show plc k n = n % 32 from HP.out, ← HE.out]
        rfl
    · rw [h] at HP ⊢
      clear hr h
      have hs : (0 : Int) < 64 := by decide
      have hsm := tmod_small (n := n) hs
      have hwr : IntKind.i64.wrap (n.tmod 64) = n.tmod 64 := wrap_small (by omega) (by omega)
      by_cases hn : n.tmod 64 < 0
      · have hw2 : IntKind.i64.wrap (n.tmod 64 + 64) = n.tmod 64 + 64 := wrap_small (by omega) (by omega)
        have HE : Hid (n.tmod 64 + 64 = n % 64) := tmod_neg hs hn
        go_wp2
        go_ret
        refine ⟨?_, HB1.out⟩
        rw [show plc k n = n % 64 from HP.out, ← HE.out]
        rfl
      · have HE : Hid (n.tmod 64 = n % 64) := tmod_pos hs hn
        go_wp2
        go_ret
        refine ⟨?_, HB1.out⟩
        rw [show plc k n = n % 64 from HP.out, ← HE.out]
        rfl
end Go.Proofs.YtmgjngihngddfaaGreatDoor

/- One bit of a word, asked and put, on both sides. Helper text: no statement is claimed here. -/
namespace Go.Proofs.YtmgjngihngddfaaGreatDoor
open Go.ChangeShapes Go.WideShapes Go.ChangeAt Go.RowKit

set_option maxHeartbeats 400000 in
theorem sbit_any (W k : Nat) (w : World) (hW : W < 18446744073709551616) (hk : k ≤ 64) :
    Calls Tryz.prog 32 #[.int .u64 W, .int .i64 k] w fun e w' => e = .returned (.bool (bitN W k)) ∧ w' = w := by
  go_enter Tryz.func32, Tryz.ntmps32
  go_wp2
  go_loop [0, 5] (fun t c => ∃ u j : Nat, j ≤ k ∧ t = .int .u64 (u : Int) ∧ c = .int .i64 (j : Int) ∧ Hid (u = W / 2 ^ j)) (fun _ c => k - (intOf c).toNat)
  case atStart => exact ⟨W, 0, by omega, rfl, rfl, by show _ = _; simp⟩
  case round =>
    obtain ⟨u, j, hj, rfl, rfl, HU⟩ := hrel
    have hu : u < 18446744073709551616 := by rw [HU.out]; exact Nat.lt_of_le_of_lt (Nat.div_le_self _ _) hW
    by_cases hlt : j < k
    · have hlt' : (j : Int) < (k : Int) := by omega
      obtain ⟨u2, hu2⟩ : ∃ u2 : Nat, u2 = u / 2 := ⟨_, rfl⟩
      have h1 : (u : Int).tdiv 2 = (u2 : Int) := by rw [Int.tdiv_eq_ediv_of_nonneg (by omega)]; omega
      have h2 : IntKind.u64.wrap (u2 : Int) = (u2 : Int) := wrap_u64n u2 (by omega)
      have HU2 : Hid (u2 = W / 2 ^ (j + 1)) := by show _ = _; rw [hu2, HU.out, Nat.div_div_eq_div_mul, Nat.pow_succ]
      clear hu2 HU
      go_wp2
      exact ⟨⟨u2, j + 1, by omega, rfl, by go_num, HU2⟩, by simp [intOf]; omega⟩
    · obtain rfl : j = k := by omega
      obtain ⟨r, hr⟩ : ∃ r : Nat, r = u % 2 := ⟨_, rfl⟩
      have h1 : (u : Int).tmod 2 = (r : Int) := by rw [Int.tmod_eq_emod_of_nonneg (by omega)]; omega
      have h2 : IntKind.u64.wrap (r : Int) = (r : Int) := wrap_u64n r (by omega)
      have HR : Hid (((r : Int) == 1) = bitN W j) := by
        show _ = _
        rw [bitN, ← HU.out, ← hr]
        by_cases h : r = 1
        · subst h; rfl
        · have : ¬ (r : Int) = 1 := by omega
          simp [h, this]
      clear hr HU
      go_wp2
      go_ret
      exact ⟨ret_bool4 HR.out, rfl⟩

end Go.Proofs.YtmgjngihngddfaaGreatDoor

/- The bits that are given, of the document. Helper text: no statement is claimed here. -/
namespace Go.Proofs.YtmgjngihngddfaaGreatDoor
open Go.ChangeShapes Go.WideShapes Go.ChangeAt Go.RowKit

set_option maxHeartbeats 1000000 in
theorem sgiven_any (m : Mm) (_hok : m.Ok) (q : Nat) (w : World) (hq : q < 8) :
    Calls Tryz.prog 33 #[m.val, .int .i64 q] w fun e w' => e = .returned (.bool (m.given q)) ∧ Below w.heap.size w w' := by
  have c1 := m.at_time
  have c2 := m.at_ran
  have c3 := m.at_fault
  have hb : Below w.heap.size w (w.alloc (.cells m.cells 37)) := (Below.refl _ _).alloc (Nat.le_refl _) _
  obtain ⟨r, hr⟩ : ∃ r : Nat, r = m.time % 1000 := ⟨_, rfl⟩
  have h1 : (m.time : Int).tmod 1000 = (r : Int) := by rw [Int.tmod_eq_emod_of_nonneg (by omega)]; omega
  have h2 : IntKind.u32.wrap (r : Int) = (r : Int) := wrap_u32m r (by omega)
  have HD : Hid (decide (500 ≤ (r : Int)) = decide (500 ≤ m.time % 1000)) := by
    show _ = _
    rw [← hr]
    by_cases h : 500 ≤ r
    · have : (500 : Int) ≤ (r : Int) := by omega
      simp [h, this]
    · have : ¬ (500 : Int) ≤ (r : Int) := by omega
      simp [h, this]
  have HG4 : Hid (m.given 4 = decide (500 ≤ m.time % 1000)) := rfl
  clear hr _hok
  have : q = 0 ∨ q = 2 ∨ q = 3 ∨ q = 4 ∨ (q ≠ 0 ∧ q ≠ 2 ∧ q ≠ 3 ∧ q ≠ 4) := by omega
  unfold Mm.val
  generalize m.time = tm at *
  rcases this with rfl | rfl | rfl | rfl | ⟨n0, n2, n3, n4⟩
  · go_enter Tryz.func33, Tryz.ntmps33
    go_wp2
    go_ret
    exact ⟨rfl, hb⟩
  · go_enter Tryz.func33, Tryz.ntmps33
    go_wp2
    go_ret
    exact ⟨rfl, hb⟩
  · go_enter Tryz.func33, Tryz.ntmps33
    go_wp2
    go_ret
    exact ⟨rfl, hb⟩
  · go_enter Tryz.func33, Tryz.ntmps33
    go_wp2
    go_ret
    exact ⟨ret_bool4 (HD.out.trans HG4.out.symm), hb⟩
  · have HG : Hid (m.given q = false) := by
      show m.given q = false
      unfold Mm.given
      rw [if_neg n0, if_neg n2, if_neg n3, if_neg n4]
    have k0 : ((q : Int) == 0) = false := by simp only [beq_eq_false_iff_ne, ne_eq]; omega
    have k2 : ((q : Int) == 2) = false := by simp only [beq_eq_false_iff_ne, ne_eq]; omega
    have k3 : ((q : Int) == 3) = false := by simp only [beq_eq_false_iff_ne, ne_eq]; omega
    have k4 : ((q : Int) == 4) = false := by simp only [beq_eq_false_iff_ne, ne_eq]; omega
    clear n0 n2 n3 n4
    go_enter Tryz.func33, Tryz.ntmps33
    go_wp2
    go_ret
    exact ⟨ret_bool4 HG.out.symm, hb⟩
end Go.Proofs.YtmgjngihngddfaaGreatDoor
