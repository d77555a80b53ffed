/- The document's ElemIsContact. Helper text: no statement is claimed here. -/
import Derived.Test.YtlddkhhaclfmiaaGreatDoorP07
namespace Go.Proofs.YtlddkhhaclfmiaaGreatDoor
open Go.ChangeShapes Go.WideShapes Go.ChangeAt Go.RowKit

theorem okA_none {i : Nat} (h : fm0 i = []) (ys : List Ar) : okA i ys = false := by
  rw [Bool.eq_false_iff]
  intro h'
  have h1 := okA_len h'
  rw [h] at h1
  have h2 : ys = [] := by simpa using h1
  subst h2
  simp [okA, takeB] at h'
theorem fm0_no (i : Nat) (h : i < 1 ∨ (10 < i ∧ i < 21)) : fm0 i = [] := by
  unfold fm0
  split <;> first | rfl | omega
theorem nm_yes (i : Nat) (h : 21 ≤ i) (h2 : i ≤ 37) : nm i ≠ [] := by
  have : i = 21 ∨ i = 22 ∨ i = 23 ∨ i = 24 ∨ i = 25 ∨ i = 26 ∨ i = 27 ∨ i = 28 ∨ i = 29 ∨ i = 30 ∨ i = 31 ∨ i = 32 ∨ i = 33 ∨ i = 34 ∨ i = 35 ∨ i = 36 ∨ i = 37 := by omega
  rcases this with rfl | rfl | rfl | rfl | rfl | rfl | rfl | rfl | rfl | rfl | rfl | rfl | rfl | rfl | rfl | rfl | rfl <;> decide
theorem conB_no {op : Int} {ys : List Ar} (h : op < 1 ∨ 10 < op) : conB op ys = false := by
  by_cases h2 : 0 ≤ op ∧ op < 38
  · obtain ⟨i, rfl⟩ := Int.eq_ofNat_of_zero_le h2.1
    simp only [conB, ez_nat i (show i < 38 by omega)]
    by_cases h3 : 21 ≤ i
    · simp [nm_yes i h3 (by omega)]
    · simp [okA_none (fm0_no i (by omega)) ys]
  · simp only [conB, ez_no op (by omega)]
    simp [okA_none (show fm0 0 = [] from rfl) ys]
theorem conB_len {op : Int} {ys : List Ar} (h : ys.length ≠ (fm0 (ez op)).length) : conB op ys = false := by simp [conB, okA_no h]
theorem conB_eq (i : Nat) (h : i < 38) (hn : nm i = []) (ys : List Ar) : conB (i : Int) ys = okA i ys := by simp [conB, ez_nat i h, hn]
theorem con_1 (a : Ar) : conB 1 [a] = isB a.1 a.2.1 a.2.2 := by
  rw [show (1 : Int) = ((1 : Nat) : Int) from rfl, conB_eq 1 (by decide) (by decide)]
  simp only [okA, fm0, fm1, takeB_nil, takeB_1, Bool.or_false, fitB]
theorem con_2 (a : Ar) : conB 2 [a] = isB a.1 a.2.1 a.2.2 := by
  rw [show (2 : Int) = ((2 : Nat) : Int) from rfl, conB_eq 2 (by decide) (by decide)]
  simp only [okA, fm0, fm1, takeB_nil, takeB_1, Bool.or_false, fitB]
theorem con_3 (a b : Ar) : conB 3 [a, b] = ((isB a.1 a.2.1 a.2.2 && okB b.1 b.2.1 b.2.2) && b.1 == 5) := by
  rw [show (3 : Int) = ((3 : Nat) : Int) from rfl, conB_eq 3 (by decide) (by decide)]
  simp only [okA, fm0, fm1, takeB_nil, takeB_2, Bool.or_false, fitB, kinB, sk, hasK_cons, hasK_nil, Bool.and_assoc]
theorem con_4 (a b : Ar) : conB 4 [a, b] = ((isB a.1 a.2.1 a.2.2 && okB b.1 b.2.1 b.2.2) && b.1 == 5) := by
  rw [show (4 : Int) = ((4 : Nat) : Int) from rfl, conB_eq 4 (by decide) (by decide)]
  simp only [okA, fm0, fm1, takeB_nil, takeB_2, Bool.or_false, fitB, kinB, sk, hasK_cons, hasK_nil, Bool.and_assoc]
theorem con_5 (a b : Ar) : conB 5 [a, b] = ((isW a.1 a.2.1 a.2.2 && isW b.1 b.2.1 b.2.2) || (isR a.1 a.2.1 a.2.2 && isR b.1 b.2.1 b.2.2)) := by
  rw [show (5 : Int) = ((5 : Nat) : Int) from rfl, conB_eq 5 (by decide) (by decide)]
  simp only [okA, fm0, fm1, takeB_2, fitB]
theorem con_6 (a b : Ar) : conB 6 [a, b] = ((isW a.1 a.2.1 a.2.2 && isW b.1 b.2.1 b.2.2) || (isR a.1 a.2.1 a.2.2 && isR b.1 b.2.1 b.2.2)) := by
  rw [show (6 : Int) = ((6 : Nat) : Int) from rfl, conB_eq 6 (by decide) (by decide)]
  simp only [okA, fm0, fm1, takeB_2, fitB]
theorem con_7 (a b : Ar) : conB 7 [a, b] = ((isW a.1 a.2.1 a.2.2 && isW b.1 b.2.1 b.2.2) || (isR a.1 a.2.1 a.2.2 && isR b.1 b.2.1 b.2.2)) := by
  rw [show (7 : Int) = ((7 : Nat) : Int) from rfl, conB_eq 7 (by decide) (by decide)]
  simp only [okA, fm0, fm1, takeB_2, fitB]
theorem con_8 (a b : Ar) : conB 8 [a, b] = ((isW a.1 a.2.1 a.2.2 && isW b.1 b.2.1 b.2.2) || (isR a.1 a.2.1 a.2.2 && isR b.1 b.2.1 b.2.2)) := by
  rw [show (8 : Int) = ((8 : Nat) : Int) from rfl, conB_eq 8 (by decide) (by decide)]
  simp only [okA, fm0, fm1, takeB_2, fitB]
theorem con_9 (a b : Ar) : conB 9 [a, b] = ((isW a.1 a.2.1 a.2.2 && isW b.1 b.2.1 b.2.2) || (isR a.1 a.2.1 a.2.2 && isR b.1 b.2.1 b.2.2)) := by
  rw [show (9 : Int) = ((9 : Nat) : Int) from rfl, conB_eq 9 (by decide) (by decide)]
  simp only [okA, fm0, fm1, takeB_2, fitB]
theorem con_10 (a b : Ar) : conB 10 [a, b] = ((isW a.1 a.2.1 a.2.2 && isW b.1 b.2.1 b.2.2) || (isR a.1 a.2.1 a.2.2 && isR b.1 b.2.1 b.2.2)) := by
  rw [show (10 : Int) = ((10 : Nat) : Int) from rfl, conB_eq 10 (by decide) (by decide)]
  simp only [okA, fm0, fm1, takeB_2, fitB]
set_option maxHeartbeats 1000000 in
theorem sCon_out (op : Int) (ys : List Ar) (p : Option Addr) (cap : Nat) (w : World) (h : op < 1 ∨ 10 < op) :
    Calls Tryz.prog 28 #[elemV op p ys.length cap] w fun e w' => e = .returned (.bool (conB op ys)) ∧ Below w.heap.size w w' := by
  rw [conB_no h]
  rcases h with h | h
  · have h' : decide (op < 1) = true := by simpa using h
    go_enter Tryz.func28, Tryz.ntmps28
    go_wp2
    go_quiet (fail)
    go_wp2
    go_ret
    exact ⟨rfl, bdn (one _ _) _⟩
  · have h1 : ¬ op < 1 := by omega
    have h1' : decide (op < 1) = false := by simpa using h1
    have h2' : decide (10 < op) = true := by simpa using h
    go_enter Tryz.func28, Tryz.ntmps28
    go_wp2
    go_quiet (fail)
    go_wp2
    go_ret
    exact ⟨rfl, bdn (one _ _) _⟩
set_option maxHeartbeats 1000000 in
theorem sCon_len (op : Int) (ys : List Ar) (p : Option Addr) (cap : Nat) (w : World) (h1 : 1 ≤ op) (h2 : op ≤ 10) (hl : ys.length ≠ (fm0 (ez op)).length) :
    Calls Tryz.prog 28 #[elemV op p ys.length cap] w fun e w' => e = .returned (.bool (conB op ys)) ∧ Below w.heap.size w w' := by
  rw [conB_len hl]
  have q1 : ¬ op < 1 := by omega
  have q1' : decide (op < 1) = false := by simpa using q1
  have q2 : ¬ 10 < op := by omega
  have q2' : decide (10 < op) = false := by simpa using q2
  have HS : Hid (∀ W, Calls Tryz.prog 63 #[.int .i64 op] W fun e w' => e = .returned (.int .i64 ((fm0 (ez op)).length : Nat)) ∧ w' = W) := fun W => sArity_any op W
  generalize (fm0 (ez op)).length = m at *
  have hl' : ((ys.length : Int) == (m : Int)) = false := by
    rw [beq_eq_false_iff_ne]; exact fun h => hl (by exact_mod_cast h)
  have hl2 : ((ys.length : Int) != (m : Int)) = true := by rw [bne, hl']; rfl
  clear hl
  go_enter Tryz.func28, Tryz.ntmps28
  go_wp2
  go_quiet ((go_at_call 63; exact Calls.quiet_of_same (HS.out _)))
  go_wp2
  go_ret
  exact ⟨rfl, bdn (one _ _) _⟩
set_option maxHeartbeats 2000000 in
theorem sCon_1 (a : Ar) (bk cap : Nat) (w : World) (hbl : bk < w.heap.size) (hAt : ArgsAt w bk [a]) (_hlc : 1 ≤ cap) :
    Calls Tryz.prog 28 #[elemV 1 (some ⟨bk, 0, none⟩) 1 cap] w fun e w' => e = .returned (.bool (conB 1 [a])) ∧ Below w.heap.size w w' := by
  rw [con_1]
  obtain ⟨a00, a01, a02⟩ := args_cells hAt 0 a rfl
  simp only [Nat.zero_mul, Nat.zero_add] at a00 a01 a02
  clear hAt
  obtain ⟨k0, n0, p0⟩ := a
  dsimp only at *
  have c1 : (0 : Int) < (1 : Int) := by omega
  have hS : ∀ W, Calls Tryz.prog 63 #[.int .i64 1] W fun e w' => e = .returned (.int .i64 1) ∧ w' = W := fun W => sArity_any 1 W
  have HS : Hid _ := hS
  clear hS
  go_enter Tryz.func28, Tryz.ntmps28
  go_wp2
  go_quiet ((go_at_call 63; exact Calls.quiet_of_same (HS.out _)))
  have HB0 : Hid (Below w.heap.size w _) := bdn (one w (.cells #[.int .i64 1, .slice (some ⟨bk, 0, none⟩) 1 cap] 25)) nq
  obtain ⟨e0, e1⟩ := elem_drew w 1 (.slice (some ⟨bk, 0, none⟩) 1 cap) nq
  replace a00 := keepB HB0.out hbl a00
  replace a01 := keepB HB0.out hbl a01
  replace a02 := keepB HB0.out hbl a02
  generalize (w.alloc (.cells #[.int .i64 1, .slice (some ⟨bk, 0, none⟩) 1 cap] 25)).drewN nq = w0 at *
  clear HS
  go_wp2_with fail
  refine (sIsBit_any k0 n0 p0 _).mono ?_
  rintro e w1 ⟨rfl, hb1⟩
  have HB1 : Hid (Below w.heap.size w w1) := HB0.out.trans (hb1.mono HB0.out.size)
  replace e0 := keep2 hb1 e0
  replace e1 := keep2 hb1 e1
  replace a00 := keep2 hb1 a00
  replace a01 := keep2 hb1 a01
  replace a02 := keep2 hb1 a02
  clear hb1
  go_wp2
  go_ret
  exact ⟨by rfl, HB1.out⟩
set_option maxHeartbeats 2000000 in
theorem sCon_2 (a : Ar) (bk cap : Nat) (w : World) (hbl : bk < w.heap.size) (hAt : ArgsAt w bk [a]) (_hlc : 1 ≤ cap) :
    Calls Tryz.prog 28 #[elemV 2 (some ⟨bk, 0, none⟩) 1 cap] w fun e w' => e = .returned (.bool (conB 2 [a])) ∧ Below w.heap.size w w' := by
  rw [con_2]
  obtain ⟨a00, a01, a02⟩ := args_cells hAt 0 a rfl
  simp only [Nat.zero_mul, Nat.zero_add] at a00 a01 a02
  clear hAt
  obtain ⟨k0, n0, p0⟩ := a
  dsimp only at *
  have c1 : (0 : Int) < (1 : Int) := by omega
  have hS : ∀ W, Calls Tryz.prog 63 #[.int .i64 2] W fun e w' => e = .returned (.int .i64 1) ∧ w' = W := fun W => sArity_any 2 W
  have HS : Hid _ := hS
  clear hS
  go_enter Tryz.func28, Tryz.ntmps28
  go_wp2
  go_quiet ((go_at_call 63; exact Calls.quiet_of_same (HS.out _)))
  have HB0 : Hid (Below w.heap.size w _) := bdn (one w (.cells #[.int .i64 2, .slice (some ⟨bk, 0, none⟩) 1 cap] 25)) nq
  obtain ⟨e0, e1⟩ := elem_drew w 2 (.slice (some ⟨bk, 0, none⟩) 1 cap) nq
  replace a00 := keepB HB0.out hbl a00
  replace a01 := keepB HB0.out hbl a01
  replace a02 := keepB HB0.out hbl a02
  generalize (w.alloc (.cells #[.int .i64 2, .slice (some ⟨bk, 0, none⟩) 1 cap] 25)).drewN nq = w0 at *
  clear HS
  go_wp2_with fail
  refine (sIsBit_any k0 n0 p0 _).mono ?_
  rintro e w1 ⟨rfl, hb1⟩
  have HB1 : Hid (Below w.heap.size w w1) := HB0.out.trans (hb1.mono HB0.out.size)
  replace e0 := keep2 hb1 e0
  replace e1 := keep2 hb1 e1
  replace a00 := keep2 hb1 a00
  replace a01 := keep2 hb1 a01
  replace a02 := keep2 hb1 a02
  clear hb1
  go_wp2
  go_ret
  exact ⟨by rfl, HB1.out⟩
set_option maxHeartbeats 2000000 in
theorem sCon_3 (a b : Ar) (bk cap : Nat) (w : World) (hbl : bk < w.heap.size) (hAt : ArgsAt w bk [a, b]) (_hlc : 2 ≤ cap) :
    Calls Tryz.prog 28 #[elemV 3 (some ⟨bk, 0, none⟩) 2 cap] w fun e w' => e = .returned (.bool (conB 3 [a, b])) ∧ Below w.heap.size w w' := by
  rw [con_3]
  obtain ⟨a00, a01, a02⟩ := args_cells hAt 0 a rfl
  simp only [Nat.zero_mul, Nat.zero_add] at a00 a01 a02
  obtain ⟨a10, a11, a12⟩ := args_cells hAt 1 b rfl
  simp only [Nat.one_mul, Nat.reduceAdd] at a10 a11 a12
  clear hAt
  obtain ⟨k0, n0, p0⟩ := a
  obtain ⟨k1, n1, p1⟩ := b
  dsimp only at *
  have c1 : (0 : Int) < (2 : Int) := by omega
  have hS : ∀ W, Calls Tryz.prog 63 #[.int .i64 3] W fun e w' => e = .returned (.int .i64 2) ∧ w' = W := fun W => sArity_any 3 W
  have HS : Hid _ := hS
  clear hS
  go_enter Tryz.func28, Tryz.ntmps28
  go_wp2
  go_quiet ((go_at_call 63; exact Calls.quiet_of_same (HS.out _)))
  have HB0 : Hid (Below w.heap.size w _) := bdn (one w (.cells #[.int .i64 3, .slice (some ⟨bk, 0, none⟩) 2 cap] 25)) nq
  obtain ⟨e0, e1⟩ := elem_drew w 3 (.slice (some ⟨bk, 0, none⟩) 2 cap) nq
  replace a00 := keepB HB0.out hbl a00
  replace a01 := keepB HB0.out hbl a01
  replace a02 := keepB HB0.out hbl a02
  replace a10 := keepB HB0.out hbl a10
  replace a11 := keepB HB0.out hbl a11
  replace a12 := keepB HB0.out hbl a12
  generalize (w.alloc (.cells #[.int .i64 3, .slice (some ⟨bk, 0, none⟩) 2 cap] 25)).drewN nq = w0 at *
  clear HS
  go_wp2_with fail
  refine (sIsBit_any k0 n0 p0 _).mono ?_
  rintro e w1 ⟨rfl, hb1⟩
  have HB1 : Hid (Below w.heap.size w w1) := HB0.out.trans (hb1.mono HB0.out.size)
  replace e0 := keep2 hb1 e0
  replace e1 := keep2 hb1 e1
  replace a00 := keep2 hb1 a00
  replace a01 := keep2 hb1 a01
  replace a02 := keep2 hb1 a02
  replace a10 := keep2 hb1 a10
  replace a11 := keep2 hb1 a11
  replace a12 := keep2 hb1 a12
  clear hb1
  cases ht1 : isB k0 n0 p0
  · go_wp2
    go_ret
    exact ⟨by rw [ht1]; rfl, HB1.out⟩
  · go_wp2_with fail
    refine (sOk_any k1 n1 p1 _).mono ?_
    rintro e w2 ⟨rfl, hb2⟩
    have HB2 : Hid (Below w.heap.size w w2) := HB1.out.trans (hb2.mono HB1.out.size)
    replace e0 := keep2 hb2 e0
    replace e1 := keep2 hb2 e1
    replace a00 := keep2 hb2 a00
    replace a01 := keep2 hb2 a01
    replace a02 := keep2 hb2 a02
    replace a10 := keep2 hb2 a10
    replace a11 := keep2 hb2 a11
    replace a12 := keep2 hb2 a12
    clear hb2
    cases ht2 : okB k1 n1 p1
    · go_wp2
      go_ret
      exact ⟨by rw [ht1, ht2]; rfl, HB2.out⟩
    · go_wp2
      go_ret
      exact ⟨by rw [ht1, ht2]; rfl, HB2.out⟩
set_option maxHeartbeats 2000000 in
theorem sCon_4 (a b : Ar) (bk cap : Nat) (w : World) (hbl : bk < w.heap.size) (hAt : ArgsAt w bk [a, b]) (_hlc : 2 ≤ cap) :
    Calls Tryz.prog 28 #[elemV 4 (some ⟨bk, 0, none⟩) 2 cap] w fun e w' => e = .returned (.bool (conB 4 [a, b])) ∧ Below w.heap.size w w' := by
  rw [con_4]
  obtain ⟨a00, a01, a02⟩ := args_cells hAt 0 a rfl
  simp only [Nat.zero_mul, Nat.zero_add] at a00 a01 a02
  obtain ⟨a10, a11, a12⟩ := args_cells hAt 1 b rfl
  simp only [Nat.one_mul, Nat.reduceAdd] at a10 a11 a12
  clear hAt
  obtain ⟨k0, n0, p0⟩ := a
  obtain ⟨k1, n1, p1⟩ := b
  dsimp only at *
  have c1 : (0 : Int) < (2 : Int) := by omega
  have hS : ∀ W, Calls Tryz.prog 63 #[.int .i64 4] W fun e w' => e = .returned (.int .i64 2) ∧ w' = W := fun W => sArity_any 4 W
  have HS : Hid _ := hS
  clear hS
  go_enter Tryz.func28, Tryz.ntmps28
  go_wp2
  go_quiet ((go_at_call 63; exact Calls.quiet_of_same (HS.out _)))
  have HB0 : Hid (Below w.heap.size w _) := bdn (one w (.cells #[.int .i64 4, .slice (some ⟨bk, 0, none⟩) 2 cap] 25)) nq
  obtain ⟨e0, e1⟩ := elem_drew w 4 (.slice (some ⟨bk, 0, none⟩) 2 cap) nq
  replace a00 := keepB HB0.out hbl a00
  replace a01 := keepB HB0.out hbl a01
  replace a02 := keepB HB0.out hbl a02
  replace a10 := keepB HB0.out hbl a10
  replace a11 := keepB HB0.out hbl a11
  replace a12 := keepB HB0.out hbl a12
  generalize (w.alloc (.cells #[.int .i64 4, .slice (some ⟨bk, 0, none⟩) 2 cap] 25)).drewN nq = w0 at *
  clear HS
  go_wp2_with fail
  refine (sIsBit_any k0 n0 p0 _).mono ?_
  rintro e w1 ⟨rfl, hb1⟩
  have HB1 : Hid (Below w.heap.size w w1) := HB0.out.trans (hb1.mono HB0.out.size)
  replace e0 := keep2 hb1 e0
  replace e1 := keep2 hb1 e1
  replace a00 := keep2 hb1 a00
  replace a01 := keep2 hb1 a01
  replace a02 := keep2 hb1 a02
  replace a10 := keep2 hb1 a10
  replace a11 := keep2 hb1 a11
  replace a12 := keep2 hb1 a12
  clear hb1
  cases ht1 : isB k0 n0 p0
  · go_wp2
    go_ret
    exact ⟨by rw [ht1]; rfl, HB1.out⟩
  · go_wp2_with fail
    refine (sOk_any k1 n1 p1 _).mono ?_
    rintro e w2 ⟨rfl, hb2⟩
    have HB2 : Hid (Below w.heap.size w w2) := HB1.out.trans (hb2.mono HB1.out.size)
    replace e0 := keep2 hb2 e0
    replace e1 := keep2 hb2 e1
    replace a00 := keep2 hb2 a00
    replace a01 := keep2 hb2 a01
    replace a02 := keep2 hb2 a02
    replace a10 := keep2 hb2 a10
    replace a11 := keep2 hb2 a11
    replace a12 := keep2 hb2 a12
    clear hb2
    cases ht2 : okB k1 n1 p1
    · go_wp2
      go_ret
      exact ⟨by rw [ht1, ht2]; rfl, HB2.out⟩
    · go_wp2
      go_ret
      exact ⟨by rw [ht1, ht2]; rfl, HB2.out⟩
set_option maxHeartbeats 2000000 in
theorem sCon_5 (a b : Ar) (bk cap : Nat) (w : World) (hbl : bk < w.heap.size) (hAt : ArgsAt w bk [a, b]) (_hlc : 2 ≤ cap) :
    Calls Tryz.prog 28 #[elemV 5 (some ⟨bk, 0, none⟩) 2 cap] w fun e w' => e = .returned (.bool (conB 5 [a, b])) ∧ Below w.heap.size w w' := by
  rw [con_5]
  obtain ⟨a00, a01, a02⟩ := args_cells hAt 0 a rfl
  simp only [Nat.zero_mul, Nat.zero_add] at a00 a01 a02
  obtain ⟨a10, a11, a12⟩ := args_cells hAt 1 b rfl
  simp only [Nat.one_mul, Nat.reduceAdd] at a10 a11 a12
  clear hAt
  obtain ⟨k0, n0, p0⟩ := a
  obtain ⟨k1, n1, p1⟩ := b
  dsimp only at *
  have c1 : (0 : Int) < (2 : Int) := by omega
  have hS : ∀ W, Calls Tryz.prog 63 #[.int .i64 5] W fun e w' => e = .returned (.int .i64 2) ∧ w' = W := fun W => sArity_any 5 W
  have HS : Hid _ := hS
  clear hS
  go_enter Tryz.func28, Tryz.ntmps28
  go_wp2
  go_quiet ((go_at_call 63; exact Calls.quiet_of_same (HS.out _)))
  have HB0 : Hid (Below w.heap.size w _) := bdn (one w (.cells #[.int .i64 5, .slice (some ⟨bk, 0, none⟩) 2 cap] 25)) nq
  obtain ⟨e0, e1⟩ := elem_drew w 5 (.slice (some ⟨bk, 0, none⟩) 2 cap) nq
  replace a00 := keepB HB0.out hbl a00
  replace a01 := keepB HB0.out hbl a01
  replace a02 := keepB HB0.out hbl a02
  replace a10 := keepB HB0.out hbl a10
  replace a11 := keepB HB0.out hbl a11
  replace a12 := keepB HB0.out hbl a12
  generalize (w.alloc (.cells #[.int .i64 5, .slice (some ⟨bk, 0, none⟩) 2 cap] 25)).drewN nq = w0 at *
  clear HS
  go_wp2_with fail
  refine (sIsWhole_any k0 n0 p0 _).mono ?_
  rintro e w1 ⟨rfl, hb1⟩
  have HB1 : Hid (Below w.heap.size w w1) := HB0.out.trans (hb1.mono HB0.out.size)
  replace e0 := keep2 hb1 e0
  replace e1 := keep2 hb1 e1
  replace a00 := keep2 hb1 a00
  replace a01 := keep2 hb1 a01
  replace a02 := keep2 hb1 a02
  replace a10 := keep2 hb1 a10
  replace a11 := keep2 hb1 a11
  replace a12 := keep2 hb1 a12
  clear hb1
  cases ht1 : isW k0 n0 p0
  · go_wp2_with fail
    refine (sIsReal_any k0 n0 p0 _).mono ?_
    rintro e w2 ⟨rfl, hb2⟩
    have HB2 : Hid (Below w.heap.size w w2) := HB1.out.trans (hb2.mono HB1.out.size)
    replace e0 := keep2 hb2 e0
    replace e1 := keep2 hb2 e1
    replace a00 := keep2 hb2 a00
    replace a01 := keep2 hb2 a01
    replace a02 := keep2 hb2 a02
    replace a10 := keep2 hb2 a10
    replace a11 := keep2 hb2 a11
    replace a12 := keep2 hb2 a12
    clear hb2
    cases ht2 : isR k0 n0 p0
    · go_wp2
      go_ret
      exact ⟨by rw [ht1, ht2]; rfl, HB2.out⟩
    · go_wp2_with fail
      refine (sIsReal_any k1 n1 p1 _).mono ?_
      rintro e w3 ⟨rfl, hb3⟩
      have HB3 : Hid (Below w.heap.size w w3) := HB2.out.trans (hb3.mono HB2.out.size)
      replace e0 := keep2 hb3 e0
      replace e1 := keep2 hb3 e1
      replace a00 := keep2 hb3 a00
      replace a01 := keep2 hb3 a01
      replace a02 := keep2 hb3 a02
      replace a10 := keep2 hb3 a10
      replace a11 := keep2 hb3 a11
      replace a12 := keep2 hb3 a12
      clear hb3
      cases ht3 : isR k1 n1 p1
      · go_wp2
        go_ret
        exact ⟨by rw [ht1, ht2, ht3]; rfl, HB3.out⟩
      · go_wp2
        go_ret
        exact ⟨by rw [ht1, ht2, ht3]; rfl, HB3.out⟩
  · go_wp2_with fail
    refine (sIsWhole_any k1 n1 p1 _).mono ?_
    rintro e w2 ⟨rfl, hb2⟩
    have HB2 : Hid (Below w.heap.size w w2) := HB1.out.trans (hb2.mono HB1.out.size)
    replace e0 := keep2 hb2 e0
    replace e1 := keep2 hb2 e1
    replace a00 := keep2 hb2 a00
    replace a01 := keep2 hb2 a01
    replace a02 := keep2 hb2 a02
    replace a10 := keep2 hb2 a10
    replace a11 := keep2 hb2 a11
    replace a12 := keep2 hb2 a12
    clear hb2
    cases ht2 : isW k1 n1 p1
    · go_wp2_with fail
      refine (sIsReal_any k0 n0 p0 _).mono ?_
      rintro e w3 ⟨rfl, hb3⟩
      have HB3 : Hid (Below w.heap.size w w3) := HB2.out.trans (hb3.mono HB2.out.size)
      replace e0 := keep2 hb3 e0
      replace e1 := keep2 hb3 e1
      replace a00 := keep2 hb3 a00
      replace a01 := keep2 hb3 a01
      replace a02 := keep2 hb3 a02
      replace a10 := keep2 hb3 a10
      replace a11 := keep2 hb3 a11
      replace a12 := keep2 hb3 a12
      clear hb3
      cases ht3 : isR k0 n0 p0
      · go_wp2
        go_ret
        exact ⟨by rw [ht1, ht2, ht3]; rfl, HB3.out⟩
      · go_wp2_with fail
        refine (sIsReal_any k1 n1 p1 _).mono ?_
        rintro e w4 ⟨rfl, hb4⟩
        have HB4 : Hid (Below w.heap.size w w4) := HB3.out.trans (hb4.mono HB3.out.size)
        replace e0 := keep2 hb4 e0
        replace e1 := keep2 hb4 e1
        replace a00 := keep2 hb4 a00
        replace a01 := keep2 hb4 a01
        replace a02 := keep2 hb4 a02
        replace a10 := keep2 hb4 a10
        replace a11 := keep2 hb4 a11
        replace a12 := keep2 hb4 a12
        clear hb4
        cases ht4 : isR k1 n1 p1
        · go_wp2
          go_ret
          exact ⟨by rw [ht1, ht2, ht3, ht4]; rfl, HB4.out⟩
        · go_wp2
          go_ret
          exact ⟨by rw [ht1, ht2, ht3, ht4]; rfl, HB4.out⟩
    · go_wp2
      go_ret
      exact ⟨by rw [ht1, ht2]; rfl, HB2.out⟩
set_option maxHeartbeats 2000000 in
theorem sCon_6 (a b : Ar) (bk cap : Nat) (w : World) (hbl : bk < w.heap.size) (hAt : ArgsAt w bk [a, b]) (_hlc : 2 ≤ cap) :
    Calls Tryz.prog 28 #[elemV 6 (some ⟨bk, 0, none⟩) 2 cap] w fun e w' => e = .returned (.bool (conB 6 [a, b])) ∧ Below w.heap.size w w' := by
  rw [con_6]
  obtain ⟨a00, a01, a02⟩ := args_cells hAt 0 a rfl
  simp only [Nat.zero_mul, Nat.zero_add] at a00 a01 a02
  obtain ⟨a10, a11, a12⟩ := args_cells hAt 1 b rfl
  simp only [Nat.one_mul, Nat.reduceAdd] at a10 a11 a12
  clear hAt
  obtain ⟨k0, n0, p0⟩ := a
  obtain ⟨k1, n1, p1⟩ := b
  dsimp only at *
  have c1 : (0 : Int) < (2 : Int) := by omega
  have hS : ∀ W, Calls Tryz.prog 63 #[.int .i64 6] W fun e w' => e = .returned (.int .i64 2) ∧ w' = W := fun W => sArity_any 6 W
  have HS : Hid _ := hS
  clear hS
  go_enter Tryz.func28, Tryz.ntmps28
  go_wp2
  go_quiet ((go_at_call 63; exact Calls.quiet_of_same (HS.out _)))
  have HB0 : Hid (Below w.heap.size w _) := bdn (one w (.cells #[.int .i64 6, .slice (some ⟨bk, 0, none⟩) 2 cap] 25)) nq
  obtain ⟨e0, e1⟩ := elem_drew w 6 (.slice (some ⟨bk, 0, none⟩) 2 cap) nq
  replace a00 := keepB HB0.out hbl a00
  replace a01 := keepB HB0.out hbl a01
  replace a02 := keepB HB0.out hbl a02
  replace a10 := keepB HB0.out hbl a10
  replace a11 := keepB HB0.out hbl a11
  replace a12 := keepB HB0.out hbl a12
  generalize (w.alloc (.cells #[.int .i64 6, .slice (some ⟨bk, 0, none⟩) 2 cap] 25)).drewN nq = w0 at *
  clear HS
  go_wp2_with fail
  refine (sIsWhole_any k0 n0 p0 _).mono ?_
  rintro e w1 ⟨rfl, hb1⟩
  have HB1 : Hid (Below w.heap.size w w1) := HB0.out.trans (hb1.mono HB0.out.size)
  replace e0 := keep2 hb1 e0
  replace e1 := keep2 hb1 e1
  replace a00 := keep2 hb1 a00
  replace a01 := keep2 hb1 a01
  replace a02 := keep2 hb1 a02
  replace a10 := keep2 hb1 a10
  replace a11 := keep2 hb1 a11
  replace a12 := keep2 hb1 a12
  clear hb1
  cases ht1 : isW k0 n0 p0
  · go_wp2_with fail
    refine (sIsReal_any k0 n0 p0 _).mono ?_
    rintro e w2 ⟨rfl, hb2⟩
    have HB2 : Hid (Below w.heap.size w w2) := HB1.out.trans (hb2.mono HB1.out.size)
    replace e0 := keep2 hb2 e0
    replace e1 := keep2 hb2 e1
    replace a00 := keep2 hb2 a00
    replace a01 := keep2 hb2 a01
    replace a02 := keep2 hb2 a02
    replace a10 := keep2 hb2 a10
    replace a11 := keep2 hb2 a11
    replace a12 := keep2 hb2 a12
    clear hb2
    cases ht2 : isR k0 n0 p0
    · go_wp2
      go_ret
      exact ⟨by rw [ht1, ht2]; rfl, HB2.out⟩
    · go_wp2_with fail
      refine (sIsReal_any k1 n1 p1 _).mono ?_
      rintro e w3 ⟨rfl, hb3⟩
      have HB3 : Hid (Below w.heap.size w w3) := HB2.out.trans (hb3.mono HB2.out.size)
      replace e0 := keep2 hb3 e0
      replace e1 := keep2 hb3 e1
      replace a00 := keep2 hb3 a00
      replace a01 := keep2 hb3 a01
      replace a02 := keep2 hb3 a02
      replace a10 := keep2 hb3 a10
      replace a11 := keep2 hb3 a11
      replace a12 := keep2 hb3 a12
      clear hb3
      cases ht3 : isR k1 n1 p1
      · go_wp2
        go_ret
        exact ⟨by rw [ht1, ht2, ht3]; rfl, HB3.out⟩
      · go_wp2
        go_ret
        exact ⟨by rw [ht1, ht2, ht3]; rfl, HB3.out⟩
  · go_wp2_with fail
    refine (sIsWhole_any k1 n1 p1 _).mono ?_
    rintro e w2 ⟨rfl, hb2⟩
    have HB2 : Hid (Below w.heap.size w w2) := HB1.out.trans (hb2.mono HB1.out.size)
    replace e0 := keep2 hb2 e0
    replace e1 := keep2 hb2 e1
    replace a00 := keep2 hb2 a00
    replace a01 := keep2 hb2 a01
    replace a02 := keep2 hb2 a02
    replace a10 := keep2 hb2 a10
    replace a11 := keep2 hb2 a11
    replace a12 := keep2 hb2 a12
    clear hb2
    cases ht2 : isW k1 n1 p1
    · go_wp2_with fail
      refine (sIsReal_any k0 n0 p0 _).mono ?_
      rintro e w3 ⟨rfl, hb3⟩
      have HB3 : Hid (Below w.heap.size w w3) := HB2.out.trans (hb3.mono HB2.out.size)
      replace e0 := keep2 hb3 e0
      replace e1 := keep2 hb3 e1
      replace a00 := keep2 hb3 a00
      replace a01 := keep2 hb3 a01
      replace a02 := keep2 hb3 a02
      replace a10 := keep2 hb3 a10
      replace a11 := keep2 hb3 a11
      replace a12 := keep2 hb3 a12
      clear hb3
      cases ht3 : isR k0 n0 p0
      · go_wp2
        go_ret
        exact ⟨by rw [ht1, ht2, ht3]; rfl, HB3.out⟩
      · go_wp2_with fail
        refine (sIsReal_any k1 n1 p1 _).mono ?_
        rintro e w4 ⟨rfl, hb4⟩
        have HB4 : Hid (Below w.heap.size w w4) := HB3.out.trans (hb4.mono HB3.out.size)
        replace e0 := keep2 hb4 e0
        replace e1 := keep2 hb4 e1
        replace a00 := keep2 hb4 a00
        replace a01 := keep2 hb4 a01
        replace a02 := keep2 hb4 a02
        replace a10 := keep2 hb4 a10
        replace a11 := keep2 hb4 a11
        replace a12 := keep2 hb4 a12
        clear hb4
        cases ht4 : isR k1 n1 p1
        · go_wp2
          go_ret
          exact ⟨by rw [ht1, ht2, ht3, ht4]; rfl, HB4.out⟩
        · go_wp2
          go_ret
          exact ⟨by rw [ht1, ht2, ht3, ht4]; rfl, HB4.out⟩
    · go_wp2
      go_ret
      exact ⟨by rw [ht1, ht2]; rfl, HB2.out⟩
set_option maxHeartbeats 2000000 in
theorem sCon_7 (a b : Ar) (bk cap : Nat) (w : World) (hbl : bk < w.heap.size) (hAt : ArgsAt w bk [a, b]) (_hlc : 2 ≤ cap) :
    Calls Tryz.prog 28 #[elemV 7 (some ⟨bk, 0, none⟩) 2 cap] w fun e w' => e = .returned (.bool (conB 7 [a, b])) ∧ Below w.heap.size w w' := by
  rw [con_7]
  obtain ⟨a00, a01, a02⟩ := args_cells hAt 0 a rfl
  simp only [Nat.zero_mul, Nat.zero_add] at a00 a01 a02
  obtain ⟨a10, a11, a12⟩ := args_cells hAt 1 b rfl
  simp only [Nat.one_mul, Nat.reduceAdd] at a10 a11 a12
  clear hAt
  obtain ⟨k0, n0, p0⟩ := a
  obtain ⟨k1, n1, p1⟩ := b
  dsimp only at *
  have c1 : (0 : Int) < (2 : Int) := by omega
  have hS : ∀ W, Calls Tryz.prog 63 #[.int .i64 7] W fun e w' => e = .returned (.int .i64 2) ∧ w' = W := fun W => sArity_any 7 W
  have HS : Hid _ := hS
  clear hS
  go_enter Tryz.func28, Tryz.ntmps28
  go_wp2
  go_quiet ((go_at_call 63; exact Calls.quiet_of_same (HS.out _)))
  have HB0 : Hid (Below w.heap.size w _) := bdn (one w (.cells #[.int .i64 7, .slice (some ⟨bk, 0, none⟩) 2 cap] 25)) nq
  obtain ⟨e0, e1⟩ := elem_drew w 7 (.slice (some ⟨bk, 0, none⟩) 2 cap) nq
  replace a00 := keepB HB0.out hbl a00
  replace a01 := keepB HB0.out hbl a01
  replace a02 := keepB HB0.out hbl a02
  replace a10 := keepB HB0.out hbl a10
  replace a11 := keepB HB0.out hbl a11
  replace a12 := keepB HB0.out hbl a12
  generalize (w.alloc (.cells #[.int .i64 7, .slice (some ⟨bk, 0, none⟩) 2 cap] 25)).drewN nq = w0 at *
  clear HS
  go_wp2_with fail
  refine (sIsWhole_any k0 n0 p0 _).mono ?_
  rintro e w1 ⟨rfl, hb1⟩
  have HB1 : Hid (Below w.heap.size w w1) := HB0.out.trans (hb1.mono HB0.out.size)
  replace e0 := keep2 hb1 e0
  replace e1 := keep2 hb1 e1
  replace a00 := keep2 hb1 a00
  replace a01 := keep2 hb1 a01
  replace a02 := keep2 hb1 a02
  replace a10 := keep2 hb1 a10
  replace a11 := keep2 hb1 a11
  replace a12 := keep2 hb1 a12
  clear hb1
  cases ht1 : isW k0 n0 p0
  · go_wp2_with fail
    refine (sIsReal_any k0 n0 p0 _).mono ?_
    rintro e w2 ⟨rfl, hb2⟩
    have HB2 : Hid (Below w.heap.size w w2) := HB1.out.trans (hb2.mono HB1.out.size)
    replace e0 := keep2 hb2 e0
    replace e1 := keep2 hb2 e1
    replace a00 := keep2 hb2 a00
    replace a01 := keep2 hb2 a01
    replace a02 := keep2 hb2 a02
    replace a10 := keep2 hb2 a10
    replace a11 := keep2 hb2 a11
    replace a12 := keep2 hb2 a12
    clear hb2
    cases ht2 : isR k0 n0 p0
    · go_wp2
      go_ret
      exact ⟨by rw [ht1, ht2]; rfl, HB2.out⟩
    · go_wp2_with fail
      refine (sIsReal_any k1 n1 p1 _).mono ?_
      rintro e w3 ⟨rfl, hb3⟩
      have HB3 : Hid (Below w.heap.size w w3) := HB2.out.trans (hb3.mono HB2.out.size)
      replace e0 := keep2 hb3 e0
      replace e1 := keep2 hb3 e1
      replace a00 := keep2 hb3 a00
      replace a01 := keep2 hb3 a01
      replace a02 := keep2 hb3 a02
      replace a10 := keep2 hb3 a10
      replace a11 := keep2 hb3 a11
      replace a12 := keep2 hb3 a12
      clear hb3
      cases ht3 : isR k1 n1 p1
      · go_wp2
        go_ret
        exact ⟨by rw [ht1, ht2, ht3]; rfl, HB3.out⟩
      · go_wp2
        go_ret
        exact ⟨by rw [ht1, ht2, ht3]; rfl, HB3.out⟩
  · go_wp2_with fail
    refine (sIsWhole_any k1 n1 p1 _).mono ?_
    rintro e w2 ⟨rfl, hb2⟩
    have HB2 : Hid (Below w.heap.size w w2) := HB1.out.trans (hb2.mono HB1.out.size)
    replace e0 := keep2 hb2 e0
    replace e1 := keep2 hb2 e1
    replace a00 := keep2 hb2 a00
    replace a01 := keep2 hb2 a01
    replace a02 := keep2 hb2 a02
    replace a10 := keep2 hb2 a10
    replace a11 := keep2 hb2 a11
    replace a12 := keep2 hb2 a12
    clear hb2
    cases ht2 : isW k1 n1 p1
    · go_wp2_with fail
      refine (sIsReal_any k0 n0 p0 _).mono ?_
      rintro e w3 ⟨rfl, hb3⟩
      have HB3 : Hid (Below w.heap.size w w3) := HB2.out.trans (hb3.mono HB2.out.size)
      replace e0 := keep2 hb3 e0
      replace e1 := keep2 hb3 e1
      replace a00 := keep2 hb3 a00
      replace a01 := keep2 hb3 a01
      replace a02 := keep2 hb3 a02
      replace a10 := keep2 hb3 a10
      replace a11 := keep2 hb3 a11
      replace a12 := keep2 hb3 a12
      clear hb3
      cases ht3 : isR k0 n0 p0
      · go_wp2
        go_ret
        exact ⟨by rw [ht1, ht2, ht3]; rfl, HB3.out⟩
      · go_wp2_with fail
        refine (sIsReal_any k1 n1 p1 _).mono ?_
        rintro e w4 ⟨rfl, hb4⟩
        have HB4 : Hid (Below w.heap.size w w4) := HB3.out.trans (hb4.mono HB3.out.size)
        replace e0 := keep2 hb4 e0
        replace e1 := keep2 hb4 e1
        replace a00 := keep2 hb4 a00
        replace a01 := keep2 hb4 a01
        replace a02 := keep2 hb4 a02
        replace a10 := keep2 hb4 a10
        replace a11 := keep2 hb4 a11
        replace a12 := keep2 hb4 a12
        clear hb4
        cases ht4 : isR k1 n1 p1
        · go_wp2
          go_ret
          exact ⟨by rw [ht1, ht2, ht3, ht4]; rfl, HB4.out⟩
        · go_wp2
          go_ret
          exact ⟨by rw [ht1, ht2, ht3, ht4]; rfl, HB4.out⟩
    · go_wp2
      go_ret
      exact ⟨by rw [ht1, ht2]; rfl, HB2.out⟩
set_option maxHeartbeats 2000000 in
theorem sCon_8 (a b : Ar) (bk cap : Nat) (w : World) (hbl : bk < w.heap.size) (hAt : ArgsAt w bk [a, b]) (_hlc : 2 ≤ cap) :
    Calls Tryz.prog 28 #[elemV 8 (some ⟨bk, 0, none⟩) 2 cap] w fun e w' => e = .returned (.bool (conB 8 [a, b])) ∧ Below w.heap.size w w' := by
  rw [con_8]
  obtain ⟨a00, a01, a02⟩ := args_cells hAt 0 a rfl
  simp only [Nat.zero_mul, Nat.zero_add] at a00 a01 a02
  obtain ⟨a10, a11, a12⟩ := args_cells hAt 1 b rfl
  simp only [Nat.one_mul, Nat.reduceAdd] at a10 a11 a12
  clear hAt
  obtain ⟨k0, n0, p0⟩ := a
  obtain ⟨k1, n1, p1⟩ := b
  dsimp only at *
  have c1 : (0 : Int) < (2 : Int) := by omega
  have hS : ∀ W, Calls Tryz.prog 63 #[.int .i64 8] W fun e w' => e = .returned (.int .i64 2) ∧ w' = W := fun W => sArity_any 8 W
  have HS : Hid _ := hS
  clear hS
  go_enter Tryz.func28, Tryz.ntmps28
  go_wp2
  go_quiet ((go_at_call 63; exact Calls.quiet_of_same (HS.out _)))
  have HB0 : Hid (Below w.heap.size w _) := bdn (one w (.cells #[.int .i64 8, .slice (some ⟨bk, 0, none⟩) 2 cap] 25)) nq
  obtain ⟨e0, e1⟩ := elem_drew w 8 (.slice (some ⟨bk, 0, none⟩) 2 cap) nq
  replace a00 := keepB HB0.out hbl a00
  replace a01 := keepB HB0.out hbl a01
  replace a02 := keepB HB0.out hbl a02
  replace a10 := keepB HB0.out hbl a10
  replace a11 := keepB HB0.out hbl a11
  replace a12 := keepB HB0.out hbl a12
  generalize (w.alloc (.cells #[.int .i64 8, .slice (some ⟨bk, 0, none⟩) 2 cap] 25)).drewN nq = w0 at *
  clear HS
  go_wp2_with fail
  refine (sIsWhole_any k0 n0 p0 _).mono ?_
  rintro e w1 ⟨rfl, hb1⟩
  have HB1 : Hid (Below w.heap.size w w1) := HB0.out.trans (hb1.mono HB0.out.size)
  replace e0 := keep2 hb1 e0
  replace e1 := keep2 hb1 e1
  replace a00 := keep2 hb1 a00
  replace a01 := keep2 hb1 a01
  replace a02 := keep2 hb1 a02
  replace a10 := keep2 hb1 a10
  replace a11 := keep2 hb1 a11
  replace a12 := keep2 hb1 a12
  clear hb1
  cases ht1 : isW k0 n0 p0
  · go_wp2_with fail
    refine (sIsReal_any k0 n0 p0 _).mono ?_
    rintro e w2 ⟨rfl, hb2⟩
    have HB2 : Hid (Below w.heap.size w w2) := HB1.out.trans (hb2.mono HB1.out.size)
    replace e0 := keep2 hb2 e0
    replace e1 := keep2 hb2 e1
    replace a00 := keep2 hb2 a00
    replace a01 := keep2 hb2 a01
    replace a02 := keep2 hb2 a02
    replace a10 := keep2 hb2 a10
    replace a11 := keep2 hb2 a11
    replace a12 := keep2 hb2 a12
    clear hb2
    cases ht2 : isR k0 n0 p0
    · go_wp2
      go_ret
      exact ⟨by rw [ht1, ht2]; rfl, HB2.out⟩
    · go_wp2_with fail
      refine (sIsReal_any k1 n1 p1 _).mono ?_
      rintro e w3 ⟨rfl, hb3⟩
      have HB3 : Hid (Below w.heap.size w w3) := HB2.out.trans (hb3.mono HB2.out.size)
      replace e0 := keep2 hb3 e0
      replace e1 := keep2 hb3 e1
      replace a00 := keep2 hb3 a00
      replace a01 := keep2 hb3 a01
      replace a02 := keep2 hb3 a02
      replace a10 := keep2 hb3 a10
      replace a11 := keep2 hb3 a11
      replace a12 := keep2 hb3 a12
      clear hb3
      cases ht3 : isR k1 n1 p1
      · go_wp2
        go_ret
        exact ⟨by rw [ht1, ht2, ht3]; rfl, HB3.out⟩
      · go_wp2
        go_ret
        exact ⟨by rw [ht1, ht2, ht3]; rfl, HB3.out⟩
  · go_wp2_with fail
    refine (sIsWhole_any k1 n1 p1 _).mono ?_
    rintro e w2 ⟨rfl, hb2⟩
    have HB2 : Hid (Below w.heap.size w w2) := HB1.out.trans (hb2.mono HB1.out.size)
    replace e0 := keep2 hb2 e0
    replace e1 := keep2 hb2 e1
    replace a00 := keep2 hb2 a00
    replace a01 := keep2 hb2 a01
    replace a02 := keep2 hb2 a02
    replace a10 := keep2 hb2 a10
    replace a11 := keep2 hb2 a11
    replace a12 := keep2 hb2 a12
    clear hb2
    cases ht2 : isW k1 n1 p1
    · go_wp2_with fail
      refine (sIsReal_any k0 n0 p0 _).mono ?_
      rintro e w3 ⟨rfl, hb3⟩
      have HB3 : Hid (Below w.heap.size w w3) := HB2.out.trans (hb3.mono HB2.out.size)
      replace e0 := keep2 hb3 e0
      replace e1 := keep2 hb3 e1
      replace a00 := keep2 hb3 a00
      replace a01 := keep2 hb3 a01
      replace a02 := keep2 hb3 a02
      replace a10 := keep2 hb3 a10
      replace a11 := keep2 hb3 a11
      replace a12 := keep2 hb3 a12
      clear hb3
      cases ht3 : isR k0 n0 p0
      · go_wp2
        go_ret
        exact ⟨by rw [ht1, ht2, ht3]; rfl, HB3.out⟩
      · go_wp2_with fail
        refine (sIsReal_any k1 n1 p1 _).mono ?_
        rintro e w4 ⟨rfl, hb4⟩
        have HB4 : Hid (Below w.heap.size w w4) := HB3.out.trans (hb4.mono HB3.out.size)
        replace e0 := keep2 hb4 e0
        replace e1 := keep2 hb4 e1
        replace a00 := keep2 hb4 a00
        replace a01 := keep2 hb4 a01
        replace a02 := keep2 hb4 a02
        replace a10 := keep2 hb4 a10
        replace a11 := keep2 hb4 a11
        replace a12 := keep2 hb4 a12
        clear hb4
        cases ht4 : isR k1 n1 p1
        · go_wp2
          go_ret
          exact ⟨by rw [ht1, ht2, ht3, ht4]; rfl, HB4.out⟩
        · go_wp2
          go_ret
          exact ⟨by rw [ht1, ht2, ht3, ht4]; rfl, HB4.out⟩
    · go_wp2
      go_ret
      exact ⟨by rw [ht1, ht2]; rfl, HB2.out⟩
set_option maxHeartbeats 2000000 in
theorem sCon_9 (a b : Ar) (bk cap : Nat) (w : World) (hbl : bk < w.heap.size) (hAt : ArgsAt w bk [a, b]) (_hlc : 2 ≤ cap) :
    Calls Tryz.prog 28 #[elemV 9 (some ⟨bk, 0, none⟩) 2 cap] w fun e w' => e = .returned (.bool (conB 9 [a, b])) ∧ Below w.heap.size w w' := by
  rw [con_9]
  obtain ⟨a00, a01, a02⟩ := args_cells hAt 0 a rfl
  simp only [Nat.zero_mul, Nat.zero_add] at a00 a01 a02
  obtain ⟨a10, a11, a12⟩ := args_cells hAt 1 b rfl
  simp only [Nat.one_mul, Nat.reduceAdd] at a10 a11 a12
  clear hAt
  obtain ⟨k0, n0, p0⟩ := a
  obtain ⟨k1, n1, p1⟩ := b
  dsimp only at *
  have c1 : (0 : Int) < (2 : Int) := by omega
  have hS : ∀ W, Calls Tryz.prog 63 #[.int .i64 9] W fun e w' => e = .returned (.int .i64 2) ∧ w' = W := fun W => sArity_any 9 W
  have HS : Hid _ := hS
  clear hS
  go_enter Tryz.func28, Tryz.ntmps28
  go_wp2
  go_quiet ((go_at_call 63; exact Calls.quiet_of_same (HS.out _)))
  have HB0 : Hid (Below w.heap.size w _) := bdn (one w (.cells #[.int .i64 9, .slice (some ⟨bk, 0, none⟩) 2 cap] 25)) nq
  obtain ⟨e0, e1⟩ := elem_drew w 9 (.slice (some ⟨bk, 0, none⟩) 2 cap) nq
  replace a00 := keepB HB0.out hbl a00
  replace a01 := keepB HB0.out hbl a01
  replace a02 := keepB HB0.out hbl a02
  replace a10 := keepB HB0.out hbl a10
  replace a11 := keepB HB0.out hbl a11
  replace a12 := keepB HB0.out hbl a12
  generalize (w.alloc (.cells #[.int .i64 9, .slice (some ⟨bk, 0, none⟩) 2 cap] 25)).drewN nq = w0 at *
  clear HS
  go_wp2_with fail
  refine (sIsWhole_any k0 n0 p0 _).mono ?_
  rintro e w1 ⟨rfl, hb1⟩
  have HB1 : Hid (Below w.heap.size w w1) := HB0.out.trans (hb1.mono HB0.out.size)
  replace e0 := keep2 hb1 e0
  replace e1 := keep2 hb1 e1
  replace a00 := keep2 hb1 a00
  replace a01 := keep2 hb1 a01
  replace a02 := keep2 hb1 a02
  replace a10 := keep2 hb1 a10
  replace a11 := keep2 hb1 a11
  replace a12 := keep2 hb1 a12
  clear hb1
  cases ht1 : isW k0 n0 p0
  · go_wp2_with fail
    refine (sIsReal_any k0 n0 p0 _).mono ?_
    rintro e w2 ⟨rfl, hb2⟩
    have HB2 : Hid (Below w.heap.size w w2) := HB1.out.trans (hb2.mono HB1.out.size)
    replace e0 := keep2 hb2 e0
    replace e1 := keep2 hb2 e1
    replace a00 := keep2 hb2 a00
    replace a01 := keep2 hb2 a01
    replace a02 := keep2 hb2 a02
    replace a10 := keep2 hb2 a10
    replace a11 := keep2 hb2 a11
    replace a12 := keep2 hb2 a12
    clear hb2
    cases ht2 : isR k0 n0 p0
    · go_wp2
      go_ret
      exact ⟨by rw [ht1, ht2]; rfl, HB2.out⟩
    · go_wp2_with fail
      refine (sIsReal_any k1 n1 p1 _).mono ?_
      rintro e w3 ⟨rfl, hb3⟩
      have HB3 : Hid (Below w.heap.size w w3) := HB2.out.trans (hb3.mono HB2.out.size)
      replace e0 := keep2 hb3 e0
      replace e1 := keep2 hb3 e1
      replace a00 := keep2 hb3 a00
      replace a01 := keep2 hb3 a01
      replace a02 := keep2 hb3 a02
      replace a10 := keep2 hb3 a10
      replace a11 := keep2 hb3 a11
      replace a12 := keep2 hb3 a12
      clear hb3
      cases ht3 : isR k1 n1 p1
      · go_wp2
        go_ret
        exact ⟨by rw [ht1, ht2, ht3]; rfl, HB3.out⟩
      · go_wp2
        go_ret
        exact ⟨by rw [ht1, ht2, ht3]; rfl, HB3.out⟩
  · go_wp2_with fail
    refine (sIsWhole_any k1 n1 p1 _).mono ?_
    rintro e w2 ⟨rfl, hb2⟩
    have HB2 : Hid (Below w.heap.size w w2) := HB1.out.trans (hb2.mono HB1.out.size)
    replace e0 := keep2 hb2 e0
    replace e1 := keep2 hb2 e1
    replace a00 := keep2 hb2 a00
    replace a01 := keep2 hb2 a01
    replace a02 := keep2 hb2 a02
    replace a10 := keep2 hb2 a10
    replace a11 := keep2 hb2 a11
    replace a12 := keep2 hb2 a12
    clear hb2
    cases ht2 : isW k1 n1 p1
    · go_wp2_with fail
      refine (sIsReal_any k0 n0 p0 _).mono ?_
      rintro e w3 ⟨rfl, hb3⟩
      have HB3 : Hid (Below w.heap.size w w3) := HB2.out.trans (hb3.mono HB2.out.size)
      replace e0 := keep2 hb3 e0
      replace e1 := keep2 hb3 e1
      replace a00 := keep2 hb3 a00
      replace a01 := keep2 hb3 a01
      replace a02 := keep2 hb3 a02
      replace a10 := keep2 hb3 a10
      replace a11 := keep2 hb3 a11
      replace a12 := keep2 hb3 a12
      clear hb3
      cases ht3 : isR k0 n0 p0
      · go_wp2
        go_ret
        exact ⟨by rw [ht1, ht2, ht3]; rfl, HB3.out⟩
      · go_wp2_with fail
        refine (sIsReal_any k1 n1 p1 _).mono ?_
        rintro e w4 ⟨rfl, hb4⟩
        have HB4 : Hid (Below w.heap.size w w4) := HB3.out.trans (hb4.mono HB3.out.size)
        replace e0 := keep2 hb4 e0
        replace e1 := keep2 hb4 e1
        replace a00 := keep2 hb4 a00
        replace a01 := keep2 hb4 a01
        replace a02 := keep2 hb4 a02
        replace a10 := keep2 hb4 a10
        replace a11 := keep2 hb4 a11
        replace a12 := keep2 hb4 a12
        clear hb4
        cases ht4 : isR k1 n1 p1
        · go_wp2
          go_ret
          exact ⟨by rw [ht1, ht2, ht3, ht4]; rfl, HB4.out⟩
        · go_wp2
          go_ret
          exact ⟨by rw [ht1, ht2, ht3, ht4]; rfl, HB4.out⟩
    · go_wp2
      go_ret
      exact ⟨by rw [ht1, ht2]; rfl, HB2.out⟩
set_option maxHeartbeats 2000000 in
theorem sCon_10 (a b : Ar) (bk cap : Nat) (w : World) (hbl : bk < w.heap.size) (hAt : ArgsAt w bk [a, b]) (_hlc : 2 ≤ cap) :
    Calls Tryz.prog 28 #[elemV 10 (some ⟨bk, 0, none⟩) 2 cap] w fun e w' => e = .returned (.bool (conB 10 [a, b])) ∧ Below w.heap.size w w' := by
  rw [con_10]
  obtain ⟨a00, a01, a02⟩ := args_cells hAt 0 a rfl
  simp only [Nat.zero_mul, Nat.zero_add] at a00 a01 a02
  obtain ⟨a10, a11, a12⟩ := args_cells hAt 1 b rfl
  simp only [Nat.one_mul, Nat.reduceAdd] at a10 a11 a12
  clear hAt
  obtain ⟨k0, n0, p0⟩ := a
  obtain ⟨k1, n1, p1⟩ := b
  dsimp only at *
  have c1 : (0 : Int) < (2 : Int) := by omega
  have hS : ∀ W, Calls Tryz.prog 63 #[.int .i64 10] W fun e w' => e = .returned (.int .i64 2) ∧ w' = W := fun W => sArity_any 10 W
  have HS : Hid _ := hS
  clear hS
  go_enter Tryz.func28, Tryz.ntmps28
  go_wp2
  go_quiet ((go_at_call 63; exact Calls.quiet_of_same (HS.out _)))
  have HB0 : Hid (Below w.heap.size w _) := bdn (one w (.cells #[.int .i64 10, .slice (some ⟨bk, 0, none⟩) 2 cap] 25)) nq
  obtain ⟨e0, e1⟩ := elem_drew w 10 (.slice (some ⟨bk, 0, none⟩) 2 cap) nq
  replace a00 := keepB HB0.out hbl a00
  replace a01 := keepB HB0.out hbl a01
  replace a02 := keepB HB0.out hbl a02
  replace a10 := keepB HB0.out hbl a10
  replace a11 := keepB HB0.out hbl a11
  replace a12 := keepB HB0.out hbl a12
  generalize (w.alloc (.cells #[.int .i64 10, .slice (some ⟨bk, 0, none⟩) 2 cap] 25)).drewN nq = w0 at *
  clear HS
  go_wp2_with fail
  refine (sIsWhole_any k0 n0 p0 _).mono ?_
  rintro e w1 ⟨rfl, hb1⟩
  have HB1 : Hid (Below w.heap.size w w1) := HB0.out.trans (hb1.mono HB0.out.size)
  replace e0 := keep2 hb1 e0
  replace e1 := keep2 hb1 e1
  replace a00 := keep2 hb1 a00
  replace a01 := keep2 hb1 a01
  replace a02 := keep2 hb1 a02
  replace a10 := keep2 hb1 a10
  replace a11 := keep2 hb1 a11
  replace a12 := keep2 hb1 a12
  clear hb1
  cases ht1 : isW k0 n0 p0
  · go_wp2_with fail
    refine (sIsReal_any k0 n0 p0 _).mono ?_
    rintro e w2 ⟨rfl, hb2⟩
    have HB2 : Hid (Below w.heap.size w w2) := HB1.out.trans (hb2.mono HB1.out.size)
    replace e0 := keep2 hb2 e0
    replace e1 := keep2 hb2 e1
    replace a00 := keep2 hb2 a00
    replace a01 := keep2 hb2 a01
    replace a02 := keep2 hb2 a02
    replace a10 := keep2 hb2 a10
    replace a11 := keep2 hb2 a11
    replace a12 := keep2 hb2 a12
    clear hb2
    cases ht2 : isR k0 n0 p0
    · go_wp2
      go_ret
      exact ⟨by rw [ht1, ht2]; rfl, HB2.out⟩
    · go_wp2_with fail
      refine (sIsReal_any k1 n1 p1 _).mono ?_
      rintro e w3 ⟨rfl, hb3⟩
      have HB3 : Hid (Below w.heap.size w w3) := HB2.out.trans (hb3.mono HB2.out.size)
      replace e0 := keep2 hb3 e0
      replace e1 := keep2 hb3 e1
      replace a00 := keep2 hb3 a00
      replace a01 := keep2 hb3 a01
      replace a02 := keep2 hb3 a02
      replace a10 := keep2 hb3 a10
      replace a11 := keep2 hb3 a11
      replace a12 := keep2 hb3 a12
      clear hb3
      cases ht3 : isR k1 n1 p1
      · go_wp2
        go_ret
        exact ⟨by rw [ht1, ht2, ht3]; rfl, HB3.out⟩
      · go_wp2
        go_ret
        exact ⟨by rw [ht1, ht2, ht3]; rfl, HB3.out⟩
  · go_wp2_with fail
    refine (sIsWhole_any k1 n1 p1 _).mono ?_
    rintro e w2 ⟨rfl, hb2⟩
    have HB2 : Hid (Below w.heap.size w w2) := HB1.out.trans (hb2.mono HB1.out.size)
    replace e0 := keep2 hb2 e0
    replace e1 := keep2 hb2 e1
    replace a00 := keep2 hb2 a00
    replace a01 := keep2 hb2 a01
    replace a02 := keep2 hb2 a02
    replace a10 := keep2 hb2 a10
    replace a11 := keep2 hb2 a11
    replace a12 := keep2 hb2 a12
    clear hb2
    cases ht2 : isW k1 n1 p1
    · go_wp2_with fail
      refine (sIsReal_any k0 n0 p0 _).mono ?_
      rintro e w3 ⟨rfl, hb3⟩
      have HB3 : Hid (Below w.heap.size w w3) := HB2.out.trans (hb3.mono HB2.out.size)
      replace e0 := keep2 hb3 e0
      replace e1 := keep2 hb3 e1
      replace a00 := keep2 hb3 a00
      replace a01 := keep2 hb3 a01
      replace a02 := keep2 hb3 a02
      replace a10 := keep2 hb3 a10
      replace a11 := keep2 hb3 a11
      replace a12 := keep2 hb3 a12
      clear hb3
      cases ht3 : isR k0 n0 p0
      · go_wp2
        go_ret
        exact ⟨by rw [ht1, ht2, ht3]; rfl, HB3.out⟩
      · go_wp2_with fail
        refine (sIsReal_any k1 n1 p1 _).mono ?_
        rintro e w4 ⟨rfl, hb4⟩
        have HB4 : Hid (Below w.heap.size w w4) := HB3.out.trans (hb4.mono HB3.out.size)
        replace e0 := keep2 hb4 e0
        replace e1 := keep2 hb4 e1
        replace a00 := keep2 hb4 a00
        replace a01 := keep2 hb4 a01
        replace a02 := keep2 hb4 a02
        replace a10 := keep2 hb4 a10
        replace a11 := keep2 hb4 a11
        replace a12 := keep2 hb4 a12
        clear hb4
        cases ht4 : isR k1 n1 p1
        · go_wp2
          go_ret
          exact ⟨by rw [ht1, ht2, ht3, ht4]; rfl, HB4.out⟩
        · go_wp2
          go_ret
          exact ⟨by rw [ht1, ht2, ht3, ht4]; rfl, HB4.out⟩
    · go_wp2
      go_ret
      exact ⟨by rw [ht1, ht2]; rfl, HB2.out⟩
theorem ar_1 : (fm0 (ez 1)).length = 1 := by kernel_rfl
theorem ar_2 : (fm0 (ez 2)).length = 1 := by kernel_rfl
theorem ar_3 : (fm0 (ez 3)).length = 2 := by kernel_rfl
theorem ar_4 : (fm0 (ez 4)).length = 2 := by kernel_rfl
theorem ar_5 : (fm0 (ez 5)).length = 2 := by kernel_rfl
theorem ar_6 : (fm0 (ez 6)).length = 2 := by kernel_rfl
theorem ar_7 : (fm0 (ez 7)).length = 2 := by kernel_rfl
theorem ar_8 : (fm0 (ez 8)).length = 2 := by kernel_rfl
theorem ar_9 : (fm0 (ez 9)).length = 2 := by kernel_rfl
theorem ar_10 : (fm0 (ez 10)).length = 2 := by kernel_rfl
theorem sCon_any (op : Int) (ys : List Ar) (p : Option Addr) (cap : Nat) (w : World) (hA : ArgsIs w p ys) (hlc : ys.length ≤ cap) :
    Calls Tryz.prog 28 #[elemV op p ys.length cap] w fun e w' => e = .returned (.bool (conB op ys)) ∧ Below w.heap.size w w' := by
  by_cases h : op < 1 ∨ 10 < op
  · exact sCon_out op ys p cap w h
  by_cases hl : ys.length = (fm0 (ez op)).length
  · have hc : op = 1 ∨ op = 2 ∨ op = 3 ∨ op = 4 ∨ op = 5 ∨ op = 6 ∨ op = 7 ∨ op = 8 ∨ op = 9 ∨ op = 10 := by omega
    rcases hA with rfl | ⟨bk, rfl, hbl, hAt⟩
    · rcases hc with rfl | rfl | rfl | rfl | rfl | rfl | rfl | rfl | rfl | rfl
      all_goals exact absurd hl (by decide)
    · rcases hc with rfl | rfl | rfl | rfl | rfl | rfl | rfl | rfl | rfl | rfl
      · obtain ⟨a, rfl⟩ := one_of (hl.trans ar_1)
        exact sCon_1 a bk cap w hbl hAt hlc
      · obtain ⟨a, rfl⟩ := one_of (hl.trans ar_2)
        exact sCon_2 a bk cap w hbl hAt hlc
      · obtain ⟨a, b, rfl⟩ := two_of (hl.trans ar_3)
        exact sCon_3 a b bk cap w hbl hAt hlc
      · obtain ⟨a, b, rfl⟩ := two_of (hl.trans ar_4)
        exact sCon_4 a b bk cap w hbl hAt hlc
      · obtain ⟨a, b, rfl⟩ := two_of (hl.trans ar_5)
        exact sCon_5 a b bk cap w hbl hAt hlc
      · obtain ⟨a, b, rfl⟩ := two_of (hl.trans ar_6)
        exact sCon_6 a b bk cap w hbl hAt hlc
      · obtain ⟨a, b, rfl⟩ := two_of (hl.trans ar_7)
        exact sCon_7 a b bk cap w hbl hAt hlc
      · obtain ⟨a, b, rfl⟩ := two_of (hl.trans ar_8)
        exact sCon_8 a b bk cap w hbl hAt hlc
      · obtain ⟨a, b, rfl⟩ := two_of (hl.trans ar_9)
        exact sCon_9 a b bk cap w hbl hAt hlc
      · obtain ⟨a, b, rfl⟩ := two_of (hl.trans ar_10)
        exact sCon_10 a b bk cap w hbl hAt hlc
  · exact sCon_len op ys p cap w (by omega) (by omega) hl
end Go.Proofs.YtlddkhhaclfmiaaGreatDoor
