/- The document's ElemIsCoil, on. Helper text: no statement is claimed here. -/
import Derived.Test.YtlddkhhaclfmiaaGreatDoorP07
namespace Go.Proofs.YtlddkhhaclfmiaaGreatDoor
open Go.ChangeShapes Go.WideShapes Go.ChangeAt Go.RowKit

theorem coilB_no {op : Int} {ys : List Ar} (h : op < 21 ∨ 37 < op) : coilB op ys = false := by simp [coilB, nm_no op h]
theorem coilB_len {op : Int} {ys : List Ar} (h : ys.length ≠ (fm0 (ez op)).length) : coilB op ys = false := by simp [coilB, okA_no h]
set_option maxHeartbeats 1000000 in
theorem sCoil_out (op : Int) (ys : List Ar) (p : Option Addr) (cap : Nat) (w : World) (h : op < 21 ∨ 37 < op) :
    Calls Tryz.prog 25 #[elemV op p ys.length cap] w fun e w' => e = .returned (.bool (coilB op ys)) ∧ Below w.heap.size w w' := by
  rw [coilB_no h]
  rcases h with h | h
  · have h' : decide (op < 21) = true := by simpa using h
    go_enter Tryz.func25, Tryz.ntmps25
    go_wp2
    go_quiet (fail)
    go_wp2
    go_ret
    exact ⟨rfl, bdn (one _ _) _⟩
  · have h1 : ¬ op < 21 := by omega
    have h1' : decide (op < 21) = false := by simpa using h1
    have h2' : decide (37 < op) = true := by simpa using h
    go_enter Tryz.func25, Tryz.ntmps25
    go_wp2
    go_quiet (fail)
    go_wp2
    go_ret
    exact ⟨rfl, bdn (one _ _) _⟩
set_option maxHeartbeats 1000000 in
theorem sCoil_len (op : Int) (ys : List Ar) (p : Option Addr) (cap : Nat) (w : World) (h1 : 21 ≤ op) (h2 : op ≤ 37) (hl : ys.length ≠ (fm0 (ez op)).length) :
    Calls Tryz.prog 25 #[elemV op p ys.length cap] w fun e w' => e = .returned (.bool (coilB op ys)) ∧ Below w.heap.size w w' := by
  rw [coilB_len hl]
  have q1 : ¬ op < 21 := by omega
  have q1' : decide (op < 21) = false := by simpa using q1
  have q2 : ¬ 37 < op := by omega
  have q2' : decide (37 < op) = false := by simpa using q2
  have HS : Hid (∀ W, Calls Tryz.prog 63 #[.int .i64 op] W fun e w' => e = .returned (.int .i64 ((fm0 (ez op)).length : Nat)) ∧ w' = W) := fun W => sArity_any op W
  generalize (fm0 (ez op)).length = m at *
  have hl' : ((ys.length : Int) == (m : Int)) = false := by
    rw [beq_eq_false_iff_ne]; exact fun h => hl (by exact_mod_cast h)
  have hl2 : ((ys.length : Int) != (m : Int)) = true := by rw [bne, hl']; rfl
  clear hl
  go_enter Tryz.func25, Tryz.ntmps25
  go_wp2
  go_quiet ((go_at_call 63; exact Calls.quiet_of_same (HS.out _)))
  go_wp2
  go_ret
  exact ⟨rfl, bdn (one _ _) _⟩
set_option maxHeartbeats 2000000 in
theorem sCoil_21 (a : Ar) (bk cap : Nat) (w : World) (hbl : bk < w.heap.size) (hAt : ArgsAt w bk [a]) (_hlc : 1 ≤ cap) :
    Calls Tryz.prog 25 #[elemV 21 (some ⟨bk, 0, none⟩) 1 cap] w fun e w' => e = .returned (.bool (coilB 21 [a])) ∧ Below w.heap.size w w' := by
  rw [coil_21]
  obtain ⟨a00, a01, a02⟩ := args_cells hAt 0 a rfl
  simp only [Nat.zero_mul, Nat.zero_add] at a00 a01 a02
  clear hAt
  obtain ⟨k0, n0, p0⟩ := a
  dsimp only at *
  have c1 : (0 : Int) < (1 : Int) := by omega
  have hS : ∀ W, Calls Tryz.prog 63 #[.int .i64 21] W fun e w' => e = .returned (.int .i64 1) ∧ w' = W := fun W => sArity_any 21 W
  have HS : Hid _ := hS
  clear hS
  go_enter Tryz.func25, Tryz.ntmps25
  go_wp2
  go_quiet ((go_at_call 63; exact Calls.quiet_of_same (HS.out _)))
  have HB : Hid (Below w.heap.size w _) := bdn (one w (.cells #[.int .i64 21, .slice (some ⟨bk, 0, none⟩) 1 cap] 25)) nq
  obtain ⟨e0, e1⟩ := elem_drew w 21 (.slice (some ⟨bk, 0, none⟩) 1 cap) nq
  replace a00 := keepB HB.out hbl a00
  replace a01 := keepB HB.out hbl a01
  replace a02 := keepB HB.out hbl a02
  generalize (w.alloc (.cells #[.int .i64 21, .slice (some ⟨bk, 0, none⟩) 1 cap] 25)).drewN nq = V at *
  clear HS
  have hz : w.heap.size < V.heap.size := World.block_lt_of_cell? V ⟨w.heap.size, 0, none⟩ e0
  go_wp2_with fail
  refine (kind2_any 2 3 k0 n0 p0 _).mono ?_
  rintro e w1 ⟨rfl, hb1⟩
  have HB1 : Hid (Below w.heap.size w w1) := HB.out.trans ((of_one hb1).mono HB.out.size)
  obtain ⟨b0, b1, b2⟩ := arg_at k0 n0 p0 V
  replace b0 := keep2 hb1 b0
  replace b1 := keep2 hb1 b1
  replace b2 := keep2 hb1 b2
  replace e0 := keep1 hb1 e0
  replace e1 := keep1 hb1 e1
  replace a00 := keep1 hb1 a00
  replace a01 := keep1 hb1 a01
  replace a02 := keep1 hb1 a02
  clear hb1
  go_wp2
  go_ret
  exact ⟨by rfl, HB1.out⟩
set_option maxHeartbeats 2000000 in
theorem sCoil_22 (a : Ar) (bk cap : Nat) (w : World) (hbl : bk < w.heap.size) (hAt : ArgsAt w bk [a]) (_hlc : 1 ≤ cap) :
    Calls Tryz.prog 25 #[elemV 22 (some ⟨bk, 0, none⟩) 1 cap] w fun e w' => e = .returned (.bool (coilB 22 [a])) ∧ Below w.heap.size w w' := by
  rw [coil_22]
  obtain ⟨a00, a01, a02⟩ := args_cells hAt 0 a rfl
  simp only [Nat.zero_mul, Nat.zero_add] at a00 a01 a02
  clear hAt
  obtain ⟨k0, n0, p0⟩ := a
  dsimp only at *
  have c1 : (0 : Int) < (1 : Int) := by omega
  have hS : ∀ W, Calls Tryz.prog 63 #[.int .i64 22] W fun e w' => e = .returned (.int .i64 1) ∧ w' = W := fun W => sArity_any 22 W
  have HS : Hid _ := hS
  clear hS
  go_enter Tryz.func25, Tryz.ntmps25
  go_wp2
  go_quiet ((go_at_call 63; exact Calls.quiet_of_same (HS.out _)))
  have HB : Hid (Below w.heap.size w _) := bdn (one w (.cells #[.int .i64 22, .slice (some ⟨bk, 0, none⟩) 1 cap] 25)) nq
  obtain ⟨e0, e1⟩ := elem_drew w 22 (.slice (some ⟨bk, 0, none⟩) 1 cap) nq
  replace a00 := keepB HB.out hbl a00
  replace a01 := keepB HB.out hbl a01
  replace a02 := keepB HB.out hbl a02
  generalize (w.alloc (.cells #[.int .i64 22, .slice (some ⟨bk, 0, none⟩) 1 cap] 25)).drewN nq = V at *
  clear HS
  have hz : w.heap.size < V.heap.size := World.block_lt_of_cell? V ⟨w.heap.size, 0, none⟩ e0
  go_wp2_with fail
  refine (kind2_any 2 3 k0 n0 p0 _).mono ?_
  rintro e w1 ⟨rfl, hb1⟩
  have HB1 : Hid (Below w.heap.size w w1) := HB.out.trans ((of_one hb1).mono HB.out.size)
  obtain ⟨b0, b1, b2⟩ := arg_at k0 n0 p0 V
  replace b0 := keep2 hb1 b0
  replace b1 := keep2 hb1 b1
  replace b2 := keep2 hb1 b2
  replace e0 := keep1 hb1 e0
  replace e1 := keep1 hb1 e1
  replace a00 := keep1 hb1 a00
  replace a01 := keep1 hb1 a01
  replace a02 := keep1 hb1 a02
  clear hb1
  cases ht0 : k2B 2 3 k0 n0 p0
  · go_wp2_with fail
    refine (kind2_any 4 4 k0 n0 p0 _).mono ?_
    rintro e w2 ⟨rfl, hb2⟩
    have HB2 : Hid (Below w.heap.size w w2) := HB1.out.trans (hb2.mono HB1.out.size)
    replace b0 := keep2 hb2 b0
    replace b1 := keep2 hb2 b1
    replace b2 := keep2 hb2 b2
    replace e0 := keep2 hb2 e0
    replace e1 := keep2 hb2 e1
    replace a00 := keep2 hb2 a00
    replace a01 := keep2 hb2 a01
    replace a02 := keep2 hb2 a02
    clear hb2
    cases ht1 : k2B 4 4 k0 n0 p0
    all_goals
      go_wp2
      go_ret
      exact ⟨by rw [ht0, ht1]; rfl, HB2.out⟩
  · go_wp2
    go_ret
    exact ⟨by rw [ht0]; rfl, HB1.out⟩
set_option maxHeartbeats 2000000 in
theorem sCoil_23 (a : Ar) (bk cap : Nat) (w : World) (hbl : bk < w.heap.size) (hAt : ArgsAt w bk [a]) (_hlc : 1 ≤ cap) :
    Calls Tryz.prog 25 #[elemV 23 (some ⟨bk, 0, none⟩) 1 cap] w fun e w' => e = .returned (.bool (coilB 23 [a])) ∧ Below w.heap.size w w' := by
  rw [coil_23]
  obtain ⟨a00, a01, a02⟩ := args_cells hAt 0 a rfl
  simp only [Nat.zero_mul, Nat.zero_add] at a00 a01 a02
  clear hAt
  obtain ⟨k0, n0, p0⟩ := a
  dsimp only at *
  have c1 : (0 : Int) < (1 : Int) := by omega
  have hS : ∀ W, Calls Tryz.prog 63 #[.int .i64 23] W fun e w' => e = .returned (.int .i64 1) ∧ w' = W := fun W => sArity_any 23 W
  have HS : Hid _ := hS
  clear hS
  go_enter Tryz.func25, Tryz.ntmps25
  go_wp2
  go_quiet ((go_at_call 63; exact Calls.quiet_of_same (HS.out _)))
  have HB : Hid (Below w.heap.size w _) := bdn (one w (.cells #[.int .i64 23, .slice (some ⟨bk, 0, none⟩) 1 cap] 25)) nq
  obtain ⟨e0, e1⟩ := elem_drew w 23 (.slice (some ⟨bk, 0, none⟩) 1 cap) nq
  replace a00 := keepB HB.out hbl a00
  replace a01 := keepB HB.out hbl a01
  replace a02 := keepB HB.out hbl a02
  generalize (w.alloc (.cells #[.int .i64 23, .slice (some ⟨bk, 0, none⟩) 1 cap] 25)).drewN nq = V at *
  clear HS
  have hz : w.heap.size < V.heap.size := World.block_lt_of_cell? V ⟨w.heap.size, 0, none⟩ e0
  go_wp2_with fail
  refine (kind2_any 2 3 k0 n0 p0 _).mono ?_
  rintro e w1 ⟨rfl, hb1⟩
  have HB1 : Hid (Below w.heap.size w w1) := HB.out.trans ((of_one hb1).mono HB.out.size)
  obtain ⟨b0, b1, b2⟩ := arg_at k0 n0 p0 V
  replace b0 := keep2 hb1 b0
  replace b1 := keep2 hb1 b1
  replace b2 := keep2 hb1 b2
  replace e0 := keep1 hb1 e0
  replace e1 := keep1 hb1 e1
  replace a00 := keep1 hb1 a00
  replace a01 := keep1 hb1 a01
  replace a02 := keep1 hb1 a02
  clear hb1
  cases ht0 : k2B 2 3 k0 n0 p0
  · go_wp2_with fail
    refine (kind2_any 4 7 k0 n0 p0 _).mono ?_
    rintro e w2 ⟨rfl, hb2⟩
    have HB2 : Hid (Below w.heap.size w w2) := HB1.out.trans (hb2.mono HB1.out.size)
    replace b0 := keep2 hb2 b0
    replace b1 := keep2 hb2 b1
    replace b2 := keep2 hb2 b2
    replace e0 := keep2 hb2 e0
    replace e1 := keep2 hb2 e1
    replace a00 := keep2 hb2 a00
    replace a01 := keep2 hb2 a01
    replace a02 := keep2 hb2 a02
    clear hb2
    cases ht1 : k2B 4 7 k0 n0 p0
    · go_wp2_with fail
      refine (kind2_any 8 8 k0 n0 p0 _).mono ?_
      rintro e w3 ⟨rfl, hb3⟩
      have HB3 : Hid (Below w.heap.size w w3) := HB2.out.trans (hb3.mono HB2.out.size)
      replace b0 := keep2 hb3 b0
      replace b1 := keep2 hb3 b1
      replace b2 := keep2 hb3 b2
      replace e0 := keep2 hb3 e0
      replace e1 := keep2 hb3 e1
      replace a00 := keep2 hb3 a00
      replace a01 := keep2 hb3 a01
      replace a02 := keep2 hb3 a02
      clear hb3
      cases ht2 : k2B 8 8 k0 n0 p0
      all_goals
        go_wp2
        go_ret
        exact ⟨by rw [ht0, ht1, ht2]; rfl, HB3.out⟩
    · go_wp2
      go_ret
      exact ⟨by rw [ht0, ht1]; rfl, HB2.out⟩
  · go_wp2
    go_ret
    exact ⟨by rw [ht0]; rfl, HB1.out⟩
set_option maxHeartbeats 2000000 in
theorem sCoil_24 (a b : Ar) (bk cap : Nat) (w : World) (hbl : bk < w.heap.size) (hAt : ArgsAt w bk [a, b]) (_hlc : 2 ≤ cap) :
    Calls Tryz.prog 25 #[elemV 24 (some ⟨bk, 0, none⟩) 2 cap] w fun e w' => e = .returned (.bool (coilB 24 [a, b])) ∧ Below w.heap.size w w' := by
  rw [coil_24]
  obtain ⟨a00, a01, a02⟩ := args_cells hAt 0 a rfl
  simp only [Nat.zero_mul, Nat.zero_add] at a00 a01 a02
  obtain ⟨a10, a11, a12⟩ := args_cells hAt 1 b rfl
  simp only [Nat.one_mul, Nat.reduceAdd] at a10 a11 a12
  clear hAt
  obtain ⟨k0, n0, p0⟩ := a
  obtain ⟨k1, n1, p1⟩ := b
  dsimp only at *
  have c1 : (0 : Int) < (2 : Int) := by omega
  have hS : ∀ W, Calls Tryz.prog 63 #[.int .i64 24] W fun e w' => e = .returned (.int .i64 2) ∧ w' = W := fun W => sArity_any 24 W
  have HS : Hid _ := hS
  clear hS
  go_enter Tryz.func25, Tryz.ntmps25
  go_wp2
  go_quiet ((go_at_call 63; exact Calls.quiet_of_same (HS.out _)))
  have HB : Hid (Below w.heap.size w _) := bdn (one w (.cells #[.int .i64 24, .slice (some ⟨bk, 0, none⟩) 2 cap] 25)) nq
  obtain ⟨e0, e1⟩ := elem_drew w 24 (.slice (some ⟨bk, 0, none⟩) 2 cap) nq
  replace a00 := keepB HB.out hbl a00
  replace a01 := keepB HB.out hbl a01
  replace a02 := keepB HB.out hbl a02
  replace a10 := keepB HB.out hbl a10
  replace a11 := keepB HB.out hbl a11
  replace a12 := keepB HB.out hbl a12
  generalize (w.alloc (.cells #[.int .i64 24, .slice (some ⟨bk, 0, none⟩) 2 cap] 25)).drewN nq = V at *
  clear HS
  have hz : w.heap.size < V.heap.size := World.block_lt_of_cell? V ⟨w.heap.size, 0, none⟩ e0
  go_wp2_with fail
  refine (kind2_any 2 3 k0 n0 p0 _).mono ?_
  rintro e w1 ⟨rfl, hb1⟩
  have HB1 : Hid (Below w.heap.size w w1) := HB.out.trans ((of_one hb1).mono HB.out.size)
  obtain ⟨b0, b1, b2⟩ := arg_at k0 n0 p0 V
  replace b0 := keep2 hb1 b0
  replace b1 := keep2 hb1 b1
  replace b2 := keep2 hb1 b2
  replace e0 := keep1 hb1 e0
  replace e1 := keep1 hb1 e1
  replace a00 := keep1 hb1 a00
  replace a01 := keep1 hb1 a01
  replace a02 := keep1 hb1 a02
  replace a10 := keep1 hb1 a10
  replace a11 := keep1 hb1 a11
  replace a12 := keep1 hb1 a12
  clear hb1
  cases ht0 : k2B 2 3 k0 n0 p0
  · go_wp2
    go_ret
    exact ⟨by rw [ht0]; rfl, HB1.out⟩
  · go_wp2_with fail
    refine (kind2_any 5 5 k1 n1 p1 _).mono ?_
    rintro e w2 ⟨rfl, hb2⟩
    have HB2 : Hid (Below w.heap.size w w2) := HB1.out.trans (hb2.mono HB1.out.size)
    replace b0 := keep2 hb2 b0
    replace b1 := keep2 hb2 b1
    replace b2 := keep2 hb2 b2
    replace e0 := keep2 hb2 e0
    replace e1 := keep2 hb2 e1
    replace a00 := keep2 hb2 a00
    replace a01 := keep2 hb2 a01
    replace a02 := keep2 hb2 a02
    replace a10 := keep2 hb2 a10
    replace a11 := keep2 hb2 a11
    replace a12 := keep2 hb2 a12
    clear hb2
    cases ht1 : k2B 5 5 k1 n1 p1
    all_goals
      go_wp2
      go_ret
      exact ⟨by rw [ht0, ht1]; rfl, HB2.out⟩
set_option maxHeartbeats 2000000 in
theorem sCoil_25 (a : Ar) (bk cap : Nat) (w : World) (hbl : bk < w.heap.size) (hAt : ArgsAt w bk [a]) (_hlc : 1 ≤ cap) :
    Calls Tryz.prog 25 #[elemV 25 (some ⟨bk, 0, none⟩) 1 cap] w fun e w' => e = .returned (.bool (coilB 25 [a])) ∧ Below w.heap.size w w' := by
  rw [coil_25]
  obtain ⟨a00, a01, a02⟩ := args_cells hAt 0 a rfl
  simp only [Nat.zero_mul, Nat.zero_add] at a00 a01 a02
  clear hAt
  obtain ⟨k0, n0, p0⟩ := a
  dsimp only at *
  have c1 : (0 : Int) < (1 : Int) := by omega
  have hS : ∀ W, Calls Tryz.prog 63 #[.int .i64 25] W fun e w' => e = .returned (.int .i64 1) ∧ w' = W := fun W => sArity_any 25 W
  have HS : Hid _ := hS
  clear hS
  go_enter Tryz.func25, Tryz.ntmps25
  go_wp2
  go_quiet ((go_at_call 63; exact Calls.quiet_of_same (HS.out _)))
  have HB : Hid (Below w.heap.size w _) := bdn (one w (.cells #[.int .i64 25, .slice (some ⟨bk, 0, none⟩) 1 cap] 25)) nq
  obtain ⟨e0, e1⟩ := elem_drew w 25 (.slice (some ⟨bk, 0, none⟩) 1 cap) nq
  replace a00 := keepB HB.out hbl a00
  replace a01 := keepB HB.out hbl a01
  replace a02 := keepB HB.out hbl a02
  generalize (w.alloc (.cells #[.int .i64 25, .slice (some ⟨bk, 0, none⟩) 1 cap] 25)).drewN nq = V at *
  clear HS
  have hz : w.heap.size < V.heap.size := World.block_lt_of_cell? V ⟨w.heap.size, 0, none⟩ e0
  go_wp2_with fail
  refine (kind2_any 4 4 k0 n0 p0 _).mono ?_
  rintro e w1 ⟨rfl, hb1⟩
  have HB1 : Hid (Below w.heap.size w w1) := HB.out.trans ((of_one hb1).mono HB.out.size)
  obtain ⟨b0, b1, b2⟩ := arg_at k0 n0 p0 V
  replace b0 := keep2 hb1 b0
  replace b1 := keep2 hb1 b1
  replace b2 := keep2 hb1 b2
  replace e0 := keep1 hb1 e0
  replace e1 := keep1 hb1 e1
  replace a00 := keep1 hb1 a00
  replace a01 := keep1 hb1 a01
  replace a02 := keep1 hb1 a02
  clear hb1
  go_wp2
  go_ret
  exact ⟨by rfl, HB1.out⟩
set_option maxHeartbeats 2000000 in
theorem sCoil_26 (a b : Ar) (bk cap : Nat) (w : World) (hbl : bk < w.heap.size) (hAt : ArgsAt w bk [a, b]) (_hlc : 2 ≤ cap) :
    Calls Tryz.prog 25 #[elemV 26 (some ⟨bk, 0, none⟩) 2 cap] w fun e w' => e = .returned (.bool (coilB 26 [a, b])) ∧ Below w.heap.size w w' := by
  rw [coil_26]
  obtain ⟨a00, a01, a02⟩ := args_cells hAt 0 a rfl
  simp only [Nat.zero_mul, Nat.zero_add] at a00 a01 a02
  obtain ⟨a10, a11, a12⟩ := args_cells hAt 1 b rfl
  simp only [Nat.one_mul, Nat.reduceAdd] at a10 a11 a12
  clear hAt
  obtain ⟨k0, n0, p0⟩ := a
  obtain ⟨k1, n1, p1⟩ := b
  dsimp only at *
  have c1 : (0 : Int) < (2 : Int) := by omega
  have hS : ∀ W, Calls Tryz.prog 63 #[.int .i64 26] W fun e w' => e = .returned (.int .i64 2) ∧ w' = W := fun W => sArity_any 26 W
  have HS : Hid _ := hS
  clear hS
  go_enter Tryz.func25, Tryz.ntmps25
  go_wp2
  go_quiet ((go_at_call 63; exact Calls.quiet_of_same (HS.out _)))
  have HB : Hid (Below w.heap.size w _) := bdn (one w (.cells #[.int .i64 26, .slice (some ⟨bk, 0, none⟩) 2 cap] 25)) nq
  obtain ⟨e0, e1⟩ := elem_drew w 26 (.slice (some ⟨bk, 0, none⟩) 2 cap) nq
  replace a00 := keepB HB.out hbl a00
  replace a01 := keepB HB.out hbl a01
  replace a02 := keepB HB.out hbl a02
  replace a10 := keepB HB.out hbl a10
  replace a11 := keepB HB.out hbl a11
  replace a12 := keepB HB.out hbl a12
  generalize (w.alloc (.cells #[.int .i64 26, .slice (some ⟨bk, 0, none⟩) 2 cap] 25)).drewN nq = V at *
  clear HS
  have hz : w.heap.size < V.heap.size := World.block_lt_of_cell? V ⟨w.heap.size, 0, none⟩ e0
  go_wp2_with fail
  refine (kind2_any 7 7 k0 n0 p0 _).mono ?_
  rintro e w1 ⟨rfl, hb1⟩
  have HB1 : Hid (Below w.heap.size w w1) := HB.out.trans ((of_one hb1).mono HB.out.size)
  obtain ⟨b0, b1, b2⟩ := arg_at k0 n0 p0 V
  replace b0 := keep2 hb1 b0
  replace b1 := keep2 hb1 b1
  replace b2 := keep2 hb1 b2
  replace e0 := keep1 hb1 e0
  replace e1 := keep1 hb1 e1
  replace a00 := keep1 hb1 a00
  replace a01 := keep1 hb1 a01
  replace a02 := keep1 hb1 a02
  replace a10 := keep1 hb1 a10
  replace a11 := keep1 hb1 a11
  replace a12 := keep1 hb1 a12
  clear hb1
  cases ht0 : k2B 7 7 k0 n0 p0
  · go_wp2
    go_ret
    exact ⟨by rw [ht0]; rfl, HB1.out⟩
  · go_wp2_with fail
    refine (kind2_any 11 11 k1 n1 p1 _).mono ?_
    rintro e w2 ⟨rfl, hb2⟩
    have HB2 : Hid (Below w.heap.size w w2) := HB1.out.trans (hb2.mono HB1.out.size)
    replace b0 := keep2 hb2 b0
    replace b1 := keep2 hb2 b1
    replace b2 := keep2 hb2 b2
    replace e0 := keep2 hb2 e0
    replace e1 := keep2 hb2 e1
    replace a00 := keep2 hb2 a00
    replace a01 := keep2 hb2 a01
    replace a02 := keep2 hb2 a02
    replace a10 := keep2 hb2 a10
    replace a11 := keep2 hb2 a11
    replace a12 := keep2 hb2 a12
    clear hb2
    cases ht1 : k2B 11 11 k1 n1 p1
    · go_wp2
      go_ret
      exact ⟨by rw [ht0, ht1]; rfl, HB2.out⟩
    · go_wp2
      go_ret
      exact ⟨by rw [ht0, ht1]; rfl, HB2.out⟩
set_option maxHeartbeats 2000000 in
theorem sCoil_27 (a b : Ar) (bk cap : Nat) (w : World) (hbl : bk < w.heap.size) (hAt : ArgsAt w bk [a, b]) (_hlc : 2 ≤ cap) :
    Calls Tryz.prog 25 #[elemV 27 (some ⟨bk, 0, none⟩) 2 cap] w fun e w' => e = .returned (.bool (coilB 27 [a, b])) ∧ Below w.heap.size w w' := by
  rw [coil_27]
  obtain ⟨a00, a01, a02⟩ := args_cells hAt 0 a rfl
  simp only [Nat.zero_mul, Nat.zero_add] at a00 a01 a02
  obtain ⟨a10, a11, a12⟩ := args_cells hAt 1 b rfl
  simp only [Nat.one_mul, Nat.reduceAdd] at a10 a11 a12
  clear hAt
  obtain ⟨k0, n0, p0⟩ := a
  obtain ⟨k1, n1, p1⟩ := b
  dsimp only at *
  have c1 : (0 : Int) < (2 : Int) := by omega
  have hS : ∀ W, Calls Tryz.prog 63 #[.int .i64 27] W fun e w' => e = .returned (.int .i64 2) ∧ w' = W := fun W => sArity_any 27 W
  have HS : Hid _ := hS
  clear hS
  go_enter Tryz.func25, Tryz.ntmps25
  go_wp2
  go_quiet ((go_at_call 63; exact Calls.quiet_of_same (HS.out _)))
  have HB : Hid (Below w.heap.size w _) := bdn (one w (.cells #[.int .i64 27, .slice (some ⟨bk, 0, none⟩) 2 cap] 25)) nq
  obtain ⟨e0, e1⟩ := elem_drew w 27 (.slice (some ⟨bk, 0, none⟩) 2 cap) nq
  replace a00 := keepB HB.out hbl a00
  replace a01 := keepB HB.out hbl a01
  replace a02 := keepB HB.out hbl a02
  replace a10 := keepB HB.out hbl a10
  replace a11 := keepB HB.out hbl a11
  replace a12 := keepB HB.out hbl a12
  generalize (w.alloc (.cells #[.int .i64 27, .slice (some ⟨bk, 0, none⟩) 2 cap] 25)).drewN nq = V at *
  clear HS
  have hz : w.heap.size < V.heap.size := World.block_lt_of_cell? V ⟨w.heap.size, 0, none⟩ e0
  go_wp2_with fail
  refine (kind2_any 7 7 k0 n0 p0 _).mono ?_
  rintro e w1 ⟨rfl, hb1⟩
  have HB1 : Hid (Below w.heap.size w w1) := HB.out.trans ((of_one hb1).mono HB.out.size)
  obtain ⟨b0, b1, b2⟩ := arg_at k0 n0 p0 V
  replace b0 := keep2 hb1 b0
  replace b1 := keep2 hb1 b1
  replace b2 := keep2 hb1 b2
  replace e0 := keep1 hb1 e0
  replace e1 := keep1 hb1 e1
  replace a00 := keep1 hb1 a00
  replace a01 := keep1 hb1 a01
  replace a02 := keep1 hb1 a02
  replace a10 := keep1 hb1 a10
  replace a11 := keep1 hb1 a11
  replace a12 := keep1 hb1 a12
  clear hb1
  cases ht0 : k2B 7 7 k0 n0 p0
  · go_wp2
    go_ret
    exact ⟨by rw [ht0]; rfl, HB1.out⟩
  · go_wp2_with fail
    refine (kind2_any 11 11 k1 n1 p1 _).mono ?_
    rintro e w2 ⟨rfl, hb2⟩
    have HB2 : Hid (Below w.heap.size w w2) := HB1.out.trans (hb2.mono HB1.out.size)
    replace b0 := keep2 hb2 b0
    replace b1 := keep2 hb2 b1
    replace b2 := keep2 hb2 b2
    replace e0 := keep2 hb2 e0
    replace e1 := keep2 hb2 e1
    replace a00 := keep2 hb2 a00
    replace a01 := keep2 hb2 a01
    replace a02 := keep2 hb2 a02
    replace a10 := keep2 hb2 a10
    replace a11 := keep2 hb2 a11
    replace a12 := keep2 hb2 a12
    clear hb2
    cases ht1 : k2B 11 11 k1 n1 p1
    · go_wp2
      go_ret
      exact ⟨by rw [ht0, ht1]; rfl, HB2.out⟩
    · go_wp2
      go_ret
      exact ⟨by rw [ht0, ht1]; rfl, HB2.out⟩
set_option maxHeartbeats 2000000 in
theorem sCoil_28 (a b : Ar) (bk cap : Nat) (w : World) (hbl : bk < w.heap.size) (hAt : ArgsAt w bk [a, b]) (_hlc : 2 ≤ cap) :
    Calls Tryz.prog 25 #[elemV 28 (some ⟨bk, 0, none⟩) 2 cap] w fun e w' => e = .returned (.bool (coilB 28 [a, b])) ∧ Below w.heap.size w w' := by
  rw [coil_28]
  obtain ⟨a00, a01, a02⟩ := args_cells hAt 0 a rfl
  simp only [Nat.zero_mul, Nat.zero_add] at a00 a01 a02
  obtain ⟨a10, a11, a12⟩ := args_cells hAt 1 b rfl
  simp only [Nat.one_mul, Nat.reduceAdd] at a10 a11 a12
  clear hAt
  obtain ⟨k0, n0, p0⟩ := a
  obtain ⟨k1, n1, p1⟩ := b
  dsimp only at *
  have c1 : (0 : Int) < (2 : Int) := by omega
  have hS : ∀ W, Calls Tryz.prog 63 #[.int .i64 28] W fun e w' => e = .returned (.int .i64 2) ∧ w' = W := fun W => sArity_any 28 W
  have HS : Hid _ := hS
  clear hS
  go_enter Tryz.func25, Tryz.ntmps25
  go_wp2
  go_quiet ((go_at_call 63; exact Calls.quiet_of_same (HS.out _)))
  have HB : Hid (Below w.heap.size w _) := bdn (one w (.cells #[.int .i64 28, .slice (some ⟨bk, 0, none⟩) 2 cap] 25)) nq
  obtain ⟨e0, e1⟩ := elem_drew w 28 (.slice (some ⟨bk, 0, none⟩) 2 cap) nq
  replace a00 := keepB HB.out hbl a00
  replace a01 := keepB HB.out hbl a01
  replace a02 := keepB HB.out hbl a02
  replace a10 := keepB HB.out hbl a10
  replace a11 := keepB HB.out hbl a11
  replace a12 := keepB HB.out hbl a12
  generalize (w.alloc (.cells #[.int .i64 28, .slice (some ⟨bk, 0, none⟩) 2 cap] 25)).drewN nq = V at *
  clear HS
  have hz : w.heap.size < V.heap.size := World.block_lt_of_cell? V ⟨w.heap.size, 0, none⟩ e0
  go_wp2_with fail
  refine (kind2_any 7 7 k0 n0 p0 _).mono ?_
  rintro e w1 ⟨rfl, hb1⟩
  have HB1 : Hid (Below w.heap.size w w1) := HB.out.trans ((of_one hb1).mono HB.out.size)
  obtain ⟨b0, b1, b2⟩ := arg_at k0 n0 p0 V
  replace b0 := keep2 hb1 b0
  replace b1 := keep2 hb1 b1
  replace b2 := keep2 hb1 b2
  replace e0 := keep1 hb1 e0
  replace e1 := keep1 hb1 e1
  replace a00 := keep1 hb1 a00
  replace a01 := keep1 hb1 a01
  replace a02 := keep1 hb1 a02
  replace a10 := keep1 hb1 a10
  replace a11 := keep1 hb1 a11
  replace a12 := keep1 hb1 a12
  clear hb1
  cases ht0 : k2B 7 7 k0 n0 p0
  · go_wp2
    go_ret
    exact ⟨by rw [ht0]; rfl, HB1.out⟩
  · go_wp2_with fail
    refine (kind2_any 11 11 k1 n1 p1 _).mono ?_
    rintro e w2 ⟨rfl, hb2⟩
    have HB2 : Hid (Below w.heap.size w w2) := HB1.out.trans (hb2.mono HB1.out.size)
    replace b0 := keep2 hb2 b0
    replace b1 := keep2 hb2 b1
    replace b2 := keep2 hb2 b2
    replace e0 := keep2 hb2 e0
    replace e1 := keep2 hb2 e1
    replace a00 := keep2 hb2 a00
    replace a01 := keep2 hb2 a01
    replace a02 := keep2 hb2 a02
    replace a10 := keep2 hb2 a10
    replace a11 := keep2 hb2 a11
    replace a12 := keep2 hb2 a12
    clear hb2
    cases ht1 : k2B 11 11 k1 n1 p1
    · go_wp2
      go_ret
      exact ⟨by rw [ht0, ht1]; rfl, HB2.out⟩
    · go_wp2
      go_ret
      exact ⟨by rw [ht0, ht1]; rfl, HB2.out⟩
set_option maxHeartbeats 2000000 in
theorem sCoil_29 (a b : Ar) (bk cap : Nat) (w : World) (hbl : bk < w.heap.size) (hAt : ArgsAt w bk [a, b]) (_hlc : 2 ≤ cap) :
    Calls Tryz.prog 25 #[elemV 29 (some ⟨bk, 0, none⟩) 2 cap] w fun e w' => e = .returned (.bool (coilB 29 [a, b])) ∧ Below w.heap.size w w' := by
  rw [coil_29]
  obtain ⟨a00, a01, a02⟩ := args_cells hAt 0 a rfl
  simp only [Nat.zero_mul, Nat.zero_add] at a00 a01 a02
  obtain ⟨a10, a11, a12⟩ := args_cells hAt 1 b rfl
  simp only [Nat.one_mul, Nat.reduceAdd] at a10 a11 a12
  clear hAt
  obtain ⟨k0, n0, p0⟩ := a
  obtain ⟨k1, n1, p1⟩ := b
  dsimp only at *
  have c1 : (0 : Int) < (2 : Int) := by omega
  have hS : ∀ W, Calls Tryz.prog 63 #[.int .i64 29] W fun e w' => e = .returned (.int .i64 2) ∧ w' = W := fun W => sArity_any 29 W
  have HS : Hid _ := hS
  clear hS
  go_enter Tryz.func25, Tryz.ntmps25
  go_wp2
  go_quiet ((go_at_call 63; exact Calls.quiet_of_same (HS.out _)))
  have HB : Hid (Below w.heap.size w _) := bdn (one w (.cells #[.int .i64 29, .slice (some ⟨bk, 0, none⟩) 2 cap] 25)) nq
  obtain ⟨e0, e1⟩ := elem_drew w 29 (.slice (some ⟨bk, 0, none⟩) 2 cap) nq
  replace a00 := keepB HB.out hbl a00
  replace a01 := keepB HB.out hbl a01
  replace a02 := keepB HB.out hbl a02
  replace a10 := keepB HB.out hbl a10
  replace a11 := keepB HB.out hbl a11
  replace a12 := keepB HB.out hbl a12
  generalize (w.alloc (.cells #[.int .i64 29, .slice (some ⟨bk, 0, none⟩) 2 cap] 25)).drewN nq = V at *
  clear HS
  have hz : w.heap.size < V.heap.size := World.block_lt_of_cell? V ⟨w.heap.size, 0, none⟩ e0
  go_wp2_with fail
  refine (kind2_any 8 8 k0 n0 p0 _).mono ?_
  rintro e w1 ⟨rfl, hb1⟩
  have HB1 : Hid (Below w.heap.size w w1) := HB.out.trans ((of_one hb1).mono HB.out.size)
  obtain ⟨b0, b1, b2⟩ := arg_at k0 n0 p0 V
  replace b0 := keep2 hb1 b0
  replace b1 := keep2 hb1 b1
  replace b2 := keep2 hb1 b2
  replace e0 := keep1 hb1 e0
  replace e1 := keep1 hb1 e1
  replace a00 := keep1 hb1 a00
  replace a01 := keep1 hb1 a01
  replace a02 := keep1 hb1 a02
  replace a10 := keep1 hb1 a10
  replace a11 := keep1 hb1 a11
  replace a12 := keep1 hb1 a12
  clear hb1
  cases ht0 : k2B 8 8 k0 n0 p0
  · go_wp2
    go_ret
    exact ⟨by rw [ht0]; rfl, HB1.out⟩
  · go_wp2_with fail
    refine (kind2_any 11 11 k1 n1 p1 _).mono ?_
    rintro e w2 ⟨rfl, hb2⟩
    have HB2 : Hid (Below w.heap.size w w2) := HB1.out.trans (hb2.mono HB1.out.size)
    replace b0 := keep2 hb2 b0
    replace b1 := keep2 hb2 b1
    replace b2 := keep2 hb2 b2
    replace e0 := keep2 hb2 e0
    replace e1 := keep2 hb2 e1
    replace a00 := keep2 hb2 a00
    replace a01 := keep2 hb2 a01
    replace a02 := keep2 hb2 a02
    replace a10 := keep2 hb2 a10
    replace a11 := keep2 hb2 a11
    replace a12 := keep2 hb2 a12
    clear hb2
    cases ht1 : k2B 11 11 k1 n1 p1
    · go_wp2
      go_ret
      exact ⟨by rw [ht0, ht1]; rfl, HB2.out⟩
    · go_wp2
      go_ret
      exact ⟨by rw [ht0, ht1]; rfl, HB2.out⟩
set_option maxHeartbeats 2000000 in
theorem sCoil_30 (a b : Ar) (bk cap : Nat) (w : World) (hbl : bk < w.heap.size) (hAt : ArgsAt w bk [a, b]) (hlc : 2 ≤ cap) :
    Calls Tryz.prog 25 #[elemV 30 (some ⟨bk, 0, none⟩) 2 cap] w fun e w' => e = .returned (.bool (coilB 30 [a, b])) ∧ Below w.heap.size w w' := by
  rw [calc_30]
  obtain ⟨a00, a01, a02⟩ := args_cells hAt 0 a rfl
  simp only [Nat.zero_mul, Nat.zero_add] at a00 a01 a02
  have HK : Hid (∀ W, bk < W.heap.size → ArgsAt W bk [a, b] → Calls Tryz.prog 67 #[elemV 30 (some ⟨bk, 0, none⟩) 2 cap] W fun e w' => e = .returned (.bool (calcB 30 [a, b])) ∧ Below W.heap.size W w') :=
    fun W h1 h2 => calc_any 30 [a, b] bk cap W h1 h2 hlc (by simp) (by simp)
  have HAt : Hid (ArgsAt w bk [a, b]) := hAt
  clear hAt
  generalize calcB 30 [a, b] = res at *
  obtain ⟨k0, n0, p0⟩ := a
  dsimp only at a00 a01 a02
  have c1 : (0 : Int) < (2 : Int) := by omega
  have hS : ∀ W, Calls Tryz.prog 63 #[.int .i64 30] W fun e w' => e = .returned (.int .i64 2) ∧ w' = W := fun W => sArity_any 30 W
  have HS : Hid _ := hS
  clear hS
  go_enter Tryz.func25, Tryz.ntmps25
  go_wp2
  go_quiet ((go_at_call 63; exact Calls.quiet_of_same (HS.out _)))
  have HB : Hid (Below w.heap.size w _) := bdn (one w (.cells #[.int .i64 30, .slice (some ⟨bk, 0, none⟩) 2 cap] 25)) nq
  obtain ⟨e0, e1⟩ := elem_drew w 30 (.slice (some ⟨bk, 0, none⟩) 2 cap) nq
  replace a00 := keepB HB.out hbl a00
  replace a01 := keepB HB.out hbl a01
  replace a02 := keepB HB.out hbl a02
  generalize (w.alloc (.cells #[.int .i64 30, .slice (some ⟨bk, 0, none⟩) 2 cap] 25)).drewN nq = V at *
  clear HS
  have hz : w.heap.size < V.heap.size := World.block_lt_of_cell? V ⟨w.heap.size, 0, none⟩ e0
  have hba : ∀ o, Below w.heap.size w (V.alloc o) := fun o => HB.out.alloc HB.out.size o
  have HBA : Hid (∀ o, Below w.heap.size w (V.alloc o)) := hba
  clear hba
  go_wp2_with fail
  refine (HK.out _ (by simp; omega) (HAt.out.to hbl (HBA.out _))).mono ?_
  rintro e w1 ⟨rfl, hb1⟩
  go_wp2
  go_ret
  exact ⟨rfl, (HBA.out _).trans (hb1.mono (HBA.out _).size)⟩
set_option maxHeartbeats 2000000 in
theorem sCoil_31 (a b x : Ar) (bk cap : Nat) (w : World) (hbl : bk < w.heap.size) (hAt : ArgsAt w bk [a, b, x]) (hlc : 3 ≤ cap) :
    Calls Tryz.prog 25 #[elemV 31 (some ⟨bk, 0, none⟩) 3 cap] w fun e w' => e = .returned (.bool (coilB 31 [a, b, x])) ∧ Below w.heap.size w w' := by
  rw [calc_31]
  obtain ⟨a00, a01, a02⟩ := args_cells hAt 0 a rfl
  simp only [Nat.zero_mul, Nat.zero_add] at a00 a01 a02
  have HK : Hid (∀ W, bk < W.heap.size → ArgsAt W bk [a, b, x] → Calls Tryz.prog 67 #[elemV 31 (some ⟨bk, 0, none⟩) 3 cap] W fun e w' => e = .returned (.bool (calcB 31 [a, b, x])) ∧ Below W.heap.size W w') :=
    fun W h1 h2 => calc_any 31 [a, b, x] bk cap W h1 h2 hlc (by simp) (by simp)
  have HAt : Hid (ArgsAt w bk [a, b, x]) := hAt
  clear hAt
  generalize calcB 31 [a, b, x] = res at *
  obtain ⟨k0, n0, p0⟩ := a
  dsimp only at a00 a01 a02
  have c1 : (0 : Int) < (3 : Int) := by omega
  have hS : ∀ W, Calls Tryz.prog 63 #[.int .i64 31] W fun e w' => e = .returned (.int .i64 3) ∧ w' = W := fun W => sArity_any 31 W
  have HS : Hid _ := hS
  clear hS
  go_enter Tryz.func25, Tryz.ntmps25
  go_wp2
  go_quiet ((go_at_call 63; exact Calls.quiet_of_same (HS.out _)))
  have HB : Hid (Below w.heap.size w _) := bdn (one w (.cells #[.int .i64 31, .slice (some ⟨bk, 0, none⟩) 3 cap] 25)) nq
  obtain ⟨e0, e1⟩ := elem_drew w 31 (.slice (some ⟨bk, 0, none⟩) 3 cap) nq
  replace a00 := keepB HB.out hbl a00
  replace a01 := keepB HB.out hbl a01
  replace a02 := keepB HB.out hbl a02
  generalize (w.alloc (.cells #[.int .i64 31, .slice (some ⟨bk, 0, none⟩) 3 cap] 25)).drewN nq = V at *
  clear HS
  have hz : w.heap.size < V.heap.size := World.block_lt_of_cell? V ⟨w.heap.size, 0, none⟩ e0
  have hba : ∀ o, Below w.heap.size w (V.alloc o) := fun o => HB.out.alloc HB.out.size o
  have HBA : Hid (∀ o, Below w.heap.size w (V.alloc o)) := hba
  clear hba
  go_wp2_with fail
  refine (HK.out _ (by simp; omega) (HAt.out.to hbl (HBA.out _))).mono ?_
  rintro e w1 ⟨rfl, hb1⟩
  go_wp2
  go_ret
  exact ⟨rfl, (HBA.out _).trans (hb1.mono (HBA.out _).size)⟩
set_option maxHeartbeats 2000000 in
theorem sCoil_32 (a b x : Ar) (bk cap : Nat) (w : World) (hbl : bk < w.heap.size) (hAt : ArgsAt w bk [a, b, x]) (hlc : 3 ≤ cap) :
    Calls Tryz.prog 25 #[elemV 32 (some ⟨bk, 0, none⟩) 3 cap] w fun e w' => e = .returned (.bool (coilB 32 [a, b, x])) ∧ Below w.heap.size w w' := by
  rw [calc_32]
  obtain ⟨a00, a01, a02⟩ := args_cells hAt 0 a rfl
  simp only [Nat.zero_mul, Nat.zero_add] at a00 a01 a02
  have HK : Hid (∀ W, bk < W.heap.size → ArgsAt W bk [a, b, x] → Calls Tryz.prog 67 #[elemV 32 (some ⟨bk, 0, none⟩) 3 cap] W fun e w' => e = .returned (.bool (calcB 32 [a, b, x])) ∧ Below W.heap.size W w') :=
    fun W h1 h2 => calc_any 32 [a, b, x] bk cap W h1 h2 hlc (by simp) (by simp)
  have HAt : Hid (ArgsAt w bk [a, b, x]) := hAt
  clear hAt
  generalize calcB 32 [a, b, x] = res at *
  obtain ⟨k0, n0, p0⟩ := a
  dsimp only at a00 a01 a02
  have c1 : (0 : Int) < (3 : Int) := by omega
  have hS : ∀ W, Calls Tryz.prog 63 #[.int .i64 32] W fun e w' => e = .returned (.int .i64 3) ∧ w' = W := fun W => sArity_any 32 W
  have HS : Hid _ := hS
  clear hS
  go_enter Tryz.func25, Tryz.ntmps25
  go_wp2
  go_quiet ((go_at_call 63; exact Calls.quiet_of_same (HS.out _)))
  have HB : Hid (Below w.heap.size w _) := bdn (one w (.cells #[.int .i64 32, .slice (some ⟨bk, 0, none⟩) 3 cap] 25)) nq
  obtain ⟨e0, e1⟩ := elem_drew w 32 (.slice (some ⟨bk, 0, none⟩) 3 cap) nq
  replace a00 := keepB HB.out hbl a00
  replace a01 := keepB HB.out hbl a01
  replace a02 := keepB HB.out hbl a02
  generalize (w.alloc (.cells #[.int .i64 32, .slice (some ⟨bk, 0, none⟩) 3 cap] 25)).drewN nq = V at *
  clear HS
  have hz : w.heap.size < V.heap.size := World.block_lt_of_cell? V ⟨w.heap.size, 0, none⟩ e0
  have hba : ∀ o, Below w.heap.size w (V.alloc o) := fun o => HB.out.alloc HB.out.size o
  have HBA : Hid (∀ o, Below w.heap.size w (V.alloc o)) := hba
  clear hba
  go_wp2_with fail
  refine (HK.out _ (by simp; omega) (HAt.out.to hbl (HBA.out _))).mono ?_
  rintro e w1 ⟨rfl, hb1⟩
  go_wp2
  go_ret
  exact ⟨rfl, (HBA.out _).trans (hb1.mono (HBA.out _).size)⟩
set_option maxHeartbeats 2000000 in
theorem sCoil_33 (a b x : Ar) (bk cap : Nat) (w : World) (hbl : bk < w.heap.size) (hAt : ArgsAt w bk [a, b, x]) (hlc : 3 ≤ cap) :
    Calls Tryz.prog 25 #[elemV 33 (some ⟨bk, 0, none⟩) 3 cap] w fun e w' => e = .returned (.bool (coilB 33 [a, b, x])) ∧ Below w.heap.size w w' := by
  rw [calc_33]
  obtain ⟨a00, a01, a02⟩ := args_cells hAt 0 a rfl
  simp only [Nat.zero_mul, Nat.zero_add] at a00 a01 a02
  have HK : Hid (∀ W, bk < W.heap.size → ArgsAt W bk [a, b, x] → Calls Tryz.prog 67 #[elemV 33 (some ⟨bk, 0, none⟩) 3 cap] W fun e w' => e = .returned (.bool (calcB 33 [a, b, x])) ∧ Below W.heap.size W w') :=
    fun W h1 h2 => calc_any 33 [a, b, x] bk cap W h1 h2 hlc (by simp) (by simp)
  have HAt : Hid (ArgsAt w bk [a, b, x]) := hAt
  clear hAt
  generalize calcB 33 [a, b, x] = res at *
  obtain ⟨k0, n0, p0⟩ := a
  dsimp only at a00 a01 a02
  have c1 : (0 : Int) < (3 : Int) := by omega
  have hS : ∀ W, Calls Tryz.prog 63 #[.int .i64 33] W fun e w' => e = .returned (.int .i64 3) ∧ w' = W := fun W => sArity_any 33 W
  have HS : Hid _ := hS
  clear hS
  go_enter Tryz.func25, Tryz.ntmps25
  go_wp2
  go_quiet ((go_at_call 63; exact Calls.quiet_of_same (HS.out _)))
  have HB : Hid (Below w.heap.size w _) := bdn (one w (.cells #[.int .i64 33, .slice (some ⟨bk, 0, none⟩) 3 cap] 25)) nq
  obtain ⟨e0, e1⟩ := elem_drew w 33 (.slice (some ⟨bk, 0, none⟩) 3 cap) nq
  replace a00 := keepB HB.out hbl a00
  replace a01 := keepB HB.out hbl a01
  replace a02 := keepB HB.out hbl a02
  generalize (w.alloc (.cells #[.int .i64 33, .slice (some ⟨bk, 0, none⟩) 3 cap] 25)).drewN nq = V at *
  clear HS
  have hz : w.heap.size < V.heap.size := World.block_lt_of_cell? V ⟨w.heap.size, 0, none⟩ e0
  have hba : ∀ o, Below w.heap.size w (V.alloc o) := fun o => HB.out.alloc HB.out.size o
  have HBA : Hid (∀ o, Below w.heap.size w (V.alloc o)) := hba
  clear hba
  go_wp2_with fail
  refine (HK.out _ (by simp; omega) (HAt.out.to hbl (HBA.out _))).mono ?_
  rintro e w1 ⟨rfl, hb1⟩
  go_wp2
  go_ret
  exact ⟨rfl, (HBA.out _).trans (hb1.mono (HBA.out _).size)⟩
set_option maxHeartbeats 2000000 in
theorem sCoil_34 (a b x : Ar) (bk cap : Nat) (w : World) (hbl : bk < w.heap.size) (hAt : ArgsAt w bk [a, b, x]) (hlc : 3 ≤ cap) :
    Calls Tryz.prog 25 #[elemV 34 (some ⟨bk, 0, none⟩) 3 cap] w fun e w' => e = .returned (.bool (coilB 34 [a, b, x])) ∧ Below w.heap.size w w' := by
  rw [calc_34]
  obtain ⟨a00, a01, a02⟩ := args_cells hAt 0 a rfl
  simp only [Nat.zero_mul, Nat.zero_add] at a00 a01 a02
  have HK : Hid (∀ W, bk < W.heap.size → ArgsAt W bk [a, b, x] → Calls Tryz.prog 67 #[elemV 34 (some ⟨bk, 0, none⟩) 3 cap] W fun e w' => e = .returned (.bool (calcB 34 [a, b, x])) ∧ Below W.heap.size W w') :=
    fun W h1 h2 => calc_any 34 [a, b, x] bk cap W h1 h2 hlc (by simp) (by simp)
  have HAt : Hid (ArgsAt w bk [a, b, x]) := hAt
  clear hAt
  generalize calcB 34 [a, b, x] = res at *
  obtain ⟨k0, n0, p0⟩ := a
  dsimp only at a00 a01 a02
  have c1 : (0 : Int) < (3 : Int) := by omega
  have hS : ∀ W, Calls Tryz.prog 63 #[.int .i64 34] W fun e w' => e = .returned (.int .i64 3) ∧ w' = W := fun W => sArity_any 34 W
  have HS : Hid _ := hS
  clear hS
  go_enter Tryz.func25, Tryz.ntmps25
  go_wp2
  go_quiet ((go_at_call 63; exact Calls.quiet_of_same (HS.out _)))
  have HB : Hid (Below w.heap.size w _) := bdn (one w (.cells #[.int .i64 34, .slice (some ⟨bk, 0, none⟩) 3 cap] 25)) nq
  obtain ⟨e0, e1⟩ := elem_drew w 34 (.slice (some ⟨bk, 0, none⟩) 3 cap) nq
  replace a00 := keepB HB.out hbl a00
  replace a01 := keepB HB.out hbl a01
  replace a02 := keepB HB.out hbl a02
  generalize (w.alloc (.cells #[.int .i64 34, .slice (some ⟨bk, 0, none⟩) 3 cap] 25)).drewN nq = V at *
  clear HS
  have hz : w.heap.size < V.heap.size := World.block_lt_of_cell? V ⟨w.heap.size, 0, none⟩ e0
  have hba : ∀ o, Below w.heap.size w (V.alloc o) := fun o => HB.out.alloc HB.out.size o
  have HBA : Hid (∀ o, Below w.heap.size w (V.alloc o)) := hba
  clear hba
  go_wp2_with fail
  refine (HK.out _ (by simp; omega) (HAt.out.to hbl (HBA.out _))).mono ?_
  rintro e w1 ⟨rfl, hb1⟩
  go_wp2
  go_ret
  exact ⟨rfl, (HBA.out _).trans (hb1.mono (HBA.out _).size)⟩
set_option maxHeartbeats 2000000 in
theorem sCoil_35 (a b x : Ar) (bk cap : Nat) (w : World) (hbl : bk < w.heap.size) (hAt : ArgsAt w bk [a, b, x]) (hlc : 3 ≤ cap) :
    Calls Tryz.prog 25 #[elemV 35 (some ⟨bk, 0, none⟩) 3 cap] w fun e w' => e = .returned (.bool (coilB 35 [a, b, x])) ∧ Below w.heap.size w w' := by
  rw [calc_35]
  obtain ⟨a00, a01, a02⟩ := args_cells hAt 0 a rfl
  simp only [Nat.zero_mul, Nat.zero_add] at a00 a01 a02
  have HK : Hid (∀ W, bk < W.heap.size → ArgsAt W bk [a, b, x] → Calls Tryz.prog 67 #[elemV 35 (some ⟨bk, 0, none⟩) 3 cap] W fun e w' => e = .returned (.bool (calcB 35 [a, b, x])) ∧ Below W.heap.size W w') :=
    fun W h1 h2 => calc_any 35 [a, b, x] bk cap W h1 h2 hlc (by simp) (by simp)
  have HAt : Hid (ArgsAt w bk [a, b, x]) := hAt
  clear hAt
  generalize calcB 35 [a, b, x] = res at *
  obtain ⟨k0, n0, p0⟩ := a
  dsimp only at a00 a01 a02
  have c1 : (0 : Int) < (3 : Int) := by omega
  have hS : ∀ W, Calls Tryz.prog 63 #[.int .i64 35] W fun e w' => e = .returned (.int .i64 3) ∧ w' = W := fun W => sArity_any 35 W
  have HS : Hid _ := hS
  clear hS
  go_enter Tryz.func25, Tryz.ntmps25
  go_wp2
  go_quiet ((go_at_call 63; exact Calls.quiet_of_same (HS.out _)))
  have HB : Hid (Below w.heap.size w _) := bdn (one w (.cells #[.int .i64 35, .slice (some ⟨bk, 0, none⟩) 3 cap] 25)) nq
  obtain ⟨e0, e1⟩ := elem_drew w 35 (.slice (some ⟨bk, 0, none⟩) 3 cap) nq
  replace a00 := keepB HB.out hbl a00
  replace a01 := keepB HB.out hbl a01
  replace a02 := keepB HB.out hbl a02
  generalize (w.alloc (.cells #[.int .i64 35, .slice (some ⟨bk, 0, none⟩) 3 cap] 25)).drewN nq = V at *
  clear HS
  have hz : w.heap.size < V.heap.size := World.block_lt_of_cell? V ⟨w.heap.size, 0, none⟩ e0
  have hba : ∀ o, Below w.heap.size w (V.alloc o) := fun o => HB.out.alloc HB.out.size o
  have HBA : Hid (∀ o, Below w.heap.size w (V.alloc o)) := hba
  clear hba
  go_wp2_with fail
  refine (HK.out _ (by simp; omega) (HAt.out.to hbl (HBA.out _))).mono ?_
  rintro e w1 ⟨rfl, hb1⟩
  go_wp2
  go_ret
  exact ⟨rfl, (HBA.out _).trans (hb1.mono (HBA.out _).size)⟩
set_option maxHeartbeats 2000000 in
theorem sCoil_36 (a b : Ar) (bk cap : Nat) (w : World) (hbl : bk < w.heap.size) (hAt : ArgsAt w bk [a, b]) (_hlc : 2 ≤ cap) :
    Calls Tryz.prog 25 #[elemV 36 (some ⟨bk, 0, none⟩) 2 cap] w fun e w' => e = .returned (.bool (coilB 36 [a, b])) ∧ Below w.heap.size w w' := by
  rw [coil_36]
  obtain ⟨a00, a01, a02⟩ := args_cells hAt 0 a rfl
  simp only [Nat.zero_mul, Nat.zero_add] at a00 a01 a02
  obtain ⟨a10, a11, a12⟩ := args_cells hAt 1 b rfl
  simp only [Nat.one_mul, Nat.reduceAdd] at a10 a11 a12
  clear hAt
  obtain ⟨k0, n0, p0⟩ := a
  obtain ⟨k1, n1, p1⟩ := b
  dsimp only at *
  have c1 : (0 : Int) < (2 : Int) := by omega
  have hS : ∀ W, Calls Tryz.prog 63 #[.int .i64 36] W fun e w' => e = .returned (.int .i64 2) ∧ w' = W := fun W => sArity_any 36 W
  have HS : Hid _ := hS
  clear hS
  go_enter Tryz.func25, Tryz.ntmps25
  go_wp2
  go_quiet ((go_at_call 63; exact Calls.quiet_of_same (HS.out _)))
  have HB : Hid (Below w.heap.size w _) := bdn (one w (.cells #[.int .i64 36, .slice (some ⟨bk, 0, none⟩) 2 cap] 25)) nq
  obtain ⟨e0, e1⟩ := elem_drew w 36 (.slice (some ⟨bk, 0, none⟩) 2 cap) nq
  replace a00 := keepB HB.out hbl a00
  replace a01 := keepB HB.out hbl a01
  replace a02 := keepB HB.out hbl a02
  replace a10 := keepB HB.out hbl a10
  replace a11 := keepB HB.out hbl a11
  replace a12 := keepB HB.out hbl a12
  generalize (w.alloc (.cells #[.int .i64 36, .slice (some ⟨bk, 0, none⟩) 2 cap] 25)).drewN nq = V at *
  clear HS
  have hz : w.heap.size < V.heap.size := World.block_lt_of_cell? V ⟨w.heap.size, 0, none⟩ e0
  go_wp2_with fail
  refine (kind2_any 10 10 k0 n0 p0 _).mono ?_
  rintro e w1 ⟨rfl, hb1⟩
  have HB1 : Hid (Below w.heap.size w w1) := HB.out.trans ((of_one hb1).mono HB.out.size)
  obtain ⟨b0, b1, b2⟩ := arg_at k0 n0 p0 V
  replace b0 := keep2 hb1 b0
  replace b1 := keep2 hb1 b1
  replace b2 := keep2 hb1 b2
  replace e0 := keep1 hb1 e0
  replace e1 := keep1 hb1 e1
  replace a00 := keep1 hb1 a00
  replace a01 := keep1 hb1 a01
  replace a02 := keep1 hb1 a02
  replace a10 := keep1 hb1 a10
  replace a11 := keep1 hb1 a11
  replace a12 := keep1 hb1 a12
  clear hb1
  cases ht0 : k2B 10 10 k0 n0 p0
  · go_wp2
    go_ret
    exact ⟨by rw [ht0]; rfl, HB1.out⟩
  · go_wp2_with fail
    refine (sIsWhole_any k1 n1 p1 _).mono ?_
    rintro e w2 ⟨rfl, hb2⟩
    have HB2 : Hid (Below w.heap.size w w2) := HB1.out.trans (hb2.mono HB1.out.size)
    replace b0 := keep2 hb2 b0
    replace b1 := keep2 hb2 b1
    replace b2 := keep2 hb2 b2
    replace e0 := keep2 hb2 e0
    replace e1 := keep2 hb2 e1
    replace a00 := keep2 hb2 a00
    replace a01 := keep2 hb2 a01
    replace a02 := keep2 hb2 a02
    replace a10 := keep2 hb2 a10
    replace a11 := keep2 hb2 a11
    replace a12 := keep2 hb2 a12
    clear hb2
    cases ht1 : isW k1 n1 p1
    all_goals
      go_wp2
      go_ret
      exact ⟨by rw [ht0, ht1]; rfl, HB2.out⟩
set_option maxHeartbeats 2000000 in
theorem sCoil_37 (a b : Ar) (bk cap : Nat) (w : World) (hbl : bk < w.heap.size) (hAt : ArgsAt w bk [a, b]) (_hlc : 2 ≤ cap) :
    Calls Tryz.prog 25 #[elemV 37 (some ⟨bk, 0, none⟩) 2 cap] w fun e w' => e = .returned (.bool (coilB 37 [a, b])) ∧ Below w.heap.size w w' := by
  rw [coil_37]
  obtain ⟨a00, a01, a02⟩ := args_cells hAt 0 a rfl
  simp only [Nat.zero_mul, Nat.zero_add] at a00 a01 a02
  obtain ⟨a10, a11, a12⟩ := args_cells hAt 1 b rfl
  simp only [Nat.one_mul, Nat.reduceAdd] at a10 a11 a12
  clear hAt
  obtain ⟨k0, n0, p0⟩ := a
  obtain ⟨k1, n1, p1⟩ := b
  dsimp only at *
  have c1 : (0 : Int) < (2 : Int) := by omega
  have hS : ∀ W, Calls Tryz.prog 63 #[.int .i64 37] W fun e w' => e = .returned (.int .i64 2) ∧ w' = W := fun W => sArity_any 37 W
  have HS : Hid _ := hS
  clear hS
  go_enter Tryz.func25, Tryz.ntmps25
  go_wp2
  go_quiet ((go_at_call 63; exact Calls.quiet_of_same (HS.out _)))
  have HB : Hid (Below w.heap.size w _) := bdn (one w (.cells #[.int .i64 37, .slice (some ⟨bk, 0, none⟩) 2 cap] 25)) nq
  obtain ⟨e0, e1⟩ := elem_drew w 37 (.slice (some ⟨bk, 0, none⟩) 2 cap) nq
  replace a00 := keepB HB.out hbl a00
  replace a01 := keepB HB.out hbl a01
  replace a02 := keepB HB.out hbl a02
  replace a10 := keepB HB.out hbl a10
  replace a11 := keepB HB.out hbl a11
  replace a12 := keepB HB.out hbl a12
  generalize (w.alloc (.cells #[.int .i64 37, .slice (some ⟨bk, 0, none⟩) 2 cap] 25)).drewN nq = V at *
  clear HS
  have hz : w.heap.size < V.heap.size := World.block_lt_of_cell? V ⟨w.heap.size, 0, none⟩ e0
  go_wp2_with fail
  refine (kind2_any 9 9 k0 n0 p0 _).mono ?_
  rintro e w1 ⟨rfl, hb1⟩
  have HB1 : Hid (Below w.heap.size w w1) := HB.out.trans ((of_one hb1).mono HB.out.size)
  obtain ⟨b0, b1, b2⟩ := arg_at k0 n0 p0 V
  replace b0 := keep2 hb1 b0
  replace b1 := keep2 hb1 b1
  replace b2 := keep2 hb1 b2
  replace e0 := keep1 hb1 e0
  replace e1 := keep1 hb1 e1
  replace a00 := keep1 hb1 a00
  replace a01 := keep1 hb1 a01
  replace a02 := keep1 hb1 a02
  replace a10 := keep1 hb1 a10
  replace a11 := keep1 hb1 a11
  replace a12 := keep1 hb1 a12
  clear hb1
  cases ht0 : k2B 9 9 k0 n0 p0
  · go_wp2
    go_ret
    exact ⟨by rw [ht0]; rfl, HB1.out⟩
  · go_wp2_with fail
    refine (sIsReal_any k1 n1 p1 _).mono ?_
    rintro e w2 ⟨rfl, hb2⟩
    have HB2 : Hid (Below w.heap.size w w2) := HB1.out.trans (hb2.mono HB1.out.size)
    replace b0 := keep2 hb2 b0
    replace b1 := keep2 hb2 b1
    replace b2 := keep2 hb2 b2
    replace e0 := keep2 hb2 e0
    replace e1 := keep2 hb2 e1
    replace a00 := keep2 hb2 a00
    replace a01 := keep2 hb2 a01
    replace a02 := keep2 hb2 a02
    replace a10 := keep2 hb2 a10
    replace a11 := keep2 hb2 a11
    replace a12 := keep2 hb2 a12
    clear hb2
    cases ht1 : isR k1 n1 p1
    all_goals
      go_wp2
      go_ret
      exact ⟨by rw [ht0, ht1]; rfl, HB2.out⟩
theorem ar_21 : (fm0 (ez 21)).length = 1 := by kernel_rfl
theorem ar_22 : (fm0 (ez 22)).length = 1 := by kernel_rfl
theorem ar_23 : (fm0 (ez 23)).length = 1 := by kernel_rfl
theorem ar_24 : (fm0 (ez 24)).length = 2 := by kernel_rfl
theorem ar_25 : (fm0 (ez 25)).length = 1 := by kernel_rfl
theorem ar_26 : (fm0 (ez 26)).length = 2 := by kernel_rfl
theorem ar_27 : (fm0 (ez 27)).length = 2 := by kernel_rfl
theorem ar_28 : (fm0 (ez 28)).length = 2 := by kernel_rfl
theorem ar_29 : (fm0 (ez 29)).length = 2 := by kernel_rfl
theorem ar_30 : (fm0 (ez 30)).length = 2 := by kernel_rfl
theorem ar_31 : (fm0 (ez 31)).length = 3 := by kernel_rfl
theorem ar_32 : (fm0 (ez 32)).length = 3 := by kernel_rfl
theorem ar_33 : (fm0 (ez 33)).length = 3 := by kernel_rfl
theorem ar_34 : (fm0 (ez 34)).length = 3 := by kernel_rfl
theorem ar_35 : (fm0 (ez 35)).length = 3 := by kernel_rfl
theorem ar_36 : (fm0 (ez 36)).length = 2 := by kernel_rfl
theorem ar_37 : (fm0 (ez 37)).length = 2 := by kernel_rfl
theorem sCoil_any (op : Int) (ys : List Ar) (p : Option Addr) (cap : Nat) (w : World) (hA : ArgsIs w p ys) (hlc : ys.length ≤ cap) :
    Calls Tryz.prog 25 #[elemV op p ys.length cap] w fun e w' => e = .returned (.bool (coilB op ys)) ∧ Below w.heap.size w w' := by
  by_cases h : op < 21 ∨ 37 < op
  · exact sCoil_out op ys p cap w h
  by_cases hl : ys.length = (fm0 (ez op)).length
  · have hc : op = 21 ∨ op = 22 ∨ op = 23 ∨ op = 24 ∨ op = 25 ∨ op = 26 ∨ op = 27 ∨ op = 28 ∨ op = 29 ∨ op = 30 ∨ op = 31 ∨ op = 32 ∨ op = 33 ∨ op = 34 ∨ op = 35 ∨ op = 36 ∨ op = 37 := by omega
    rcases hA with rfl | ⟨bk, rfl, hbl, hAt⟩
    · rcases hc with rfl | rfl | rfl | rfl | rfl | rfl | rfl | rfl | rfl | rfl | rfl | rfl | rfl | rfl | rfl | rfl | rfl
      all_goals exact absurd hl (by decide)
    · rcases hc with rfl | rfl | rfl | rfl | rfl | rfl | rfl | rfl | rfl | rfl | rfl | rfl | rfl | rfl | rfl | rfl | rfl
      · obtain ⟨a, rfl⟩ := one_of (hl.trans ar_21)
        exact sCoil_21 a bk cap w hbl hAt hlc
      · obtain ⟨a, rfl⟩ := one_of (hl.trans ar_22)
        exact sCoil_22 a bk cap w hbl hAt hlc
      · obtain ⟨a, rfl⟩ := one_of (hl.trans ar_23)
        exact sCoil_23 a bk cap w hbl hAt hlc
      · obtain ⟨a, b, rfl⟩ := two_of (hl.trans ar_24)
        exact sCoil_24 a b bk cap w hbl hAt hlc
      · obtain ⟨a, rfl⟩ := one_of (hl.trans ar_25)
        exact sCoil_25 a bk cap w hbl hAt hlc
      · obtain ⟨a, b, rfl⟩ := two_of (hl.trans ar_26)
        exact sCoil_26 a b bk cap w hbl hAt hlc
      · obtain ⟨a, b, rfl⟩ := two_of (hl.trans ar_27)
        exact sCoil_27 a b bk cap w hbl hAt hlc
      · obtain ⟨a, b, rfl⟩ := two_of (hl.trans ar_28)
        exact sCoil_28 a b bk cap w hbl hAt hlc
      · obtain ⟨a, b, rfl⟩ := two_of (hl.trans ar_29)
        exact sCoil_29 a b bk cap w hbl hAt hlc
      · obtain ⟨a, b, rfl⟩ := two_of (hl.trans ar_30)
        exact sCoil_30 a b bk cap w hbl hAt hlc
      · obtain ⟨a, b, x, rfl⟩ := three_of (hl.trans ar_31)
        exact sCoil_31 a b x bk cap w hbl hAt hlc
      · obtain ⟨a, b, x, rfl⟩ := three_of (hl.trans ar_32)
        exact sCoil_32 a b x bk cap w hbl hAt hlc
      · obtain ⟨a, b, x, rfl⟩ := three_of (hl.trans ar_33)
        exact sCoil_33 a b x bk cap w hbl hAt hlc
      · obtain ⟨a, b, x, rfl⟩ := three_of (hl.trans ar_34)
        exact sCoil_34 a b x bk cap w hbl hAt hlc
      · obtain ⟨a, b, x, rfl⟩ := three_of (hl.trans ar_35)
        exact sCoil_35 a b x bk cap w hbl hAt hlc
      · obtain ⟨a, b, rfl⟩ := two_of (hl.trans ar_36)
        exact sCoil_36 a b bk cap w hbl hAt hlc
      · obtain ⟨a, b, rfl⟩ := two_of (hl.trans ar_37)
        exact sCoil_37 a b bk cap w hbl hAt hlc
  · exact sCoil_len op ys p cap w (by omega) (by omega) hl
end Go.Proofs.YtlddkhhaclfmiaaGreatDoor
