/- The table of devices as a letter: what devRowOf, DevSize, devDecOk answer whatever it holds. Helper text: no statement is claimed here. -/
import Derived.Test.YtjkpingdokkkcaaGreatDoorProg
import Derived.WalkKit
import Derived.ProofKit
import Derived.LaidMore
import Derived.OpenShut
import Derived.Below
import Derived.Deep.QuietTactic
import Derived.BigQuiet
import Derived.Deep.RegionHeld3
import Derived.WalkSmall
import Derived.Lib.QuietBelow
namespace Go.Proofs.YtjkpingdokkkcaaGreatDoor.Tb
open Go.ChangeShapes Go.WideShapes Go.ChangeAt Go.RowKit

/-- What a table of devices says of each kind: letter, size, and what it can be asked for. -/
structure Tab where
  L : Nat → List UInt8
  N : Nat → Int
  B : Nat → Bool
  W : Nat → Bool
  R : Nat → Bool
/-- A kind's row, and the empty one. -/
def rL (T : Tab) (i : Nat) : List UInt8 := if i = 0 then [] else T.L i
def rN (T : Tab) (i : Nat) : Int := if i = 0 then 0 else T.N i
def rB (T : Tab) (i : Nat) : Bool := if i = 0 then false else T.B i
def rW (T : Tab) (i : Nat) : Bool := if i = 0 then false else T.W i
def rR (T : Tab) (i : Nat) : Bool := if i = 0 then false else T.R i
/-- The cells of the table of devices. -/
def DevTab (T : Tab) (w : World) : Prop := ∀ i, i < 14 →
  w.cell? ⟨1, i * 5, none⟩ = some (.string ⟨(T.L i).toArray⟩) ∧ w.cell? ⟨1, i * 5 + 1, none⟩ = some (.int .i64 (T.N i)) ∧
  w.cell? ⟨1, i * 5 + 2, none⟩ = some (.bool (T.B i)) ∧ w.cell? ⟨1, i * 5 + 3, none⟩ = some (.bool (T.W i)) ∧ w.cell? ⟨1, i * 5 + 4, none⟩ = some (.bool (T.R i))
variable {T : Tab}
theorem DevTab.below {w w' : World} (h : DevTab T w) (hb : Below w.heap.size w w') (hs : 1 < w.heap.size) : DevTab T w' := fun i hi => by
  have := h i hi
  simp only [hb.cell (p := ⟨1, _, none⟩) hs]
  exact this
theorem DevTab.lt {w : World} (h : DevTab T w) : 1 < w.heap.size := World.block_lt_of_cell? w ⟨1, _, none⟩ (h 0 (by omega)).1
theorem DevTab.to {w w' : World} (h : DevTab T w) (hb : Below w.heap.size w w') : DevTab T w' := h.below hb h.lt
theorem DevTab.alloc {w : World} (h : DevTab T w) (o : Obj) : DevTab T (w.alloc o) := h.to ((Below.refl _ _).alloc (Nat.le_refl _) o)
theorem DevTab.drew {w : World} (h : DevTab T w) : DevTab T w.drew := h.to (Below.refl _ _).drew
theorem bcell {W w1 : World} (hb : Below W.heap.size W w1) : (∀ b o, b < W.heap.size → w1.cell? ⟨b, o, none⟩ = W.cell? ⟨b, o, none⟩) ∧ (∀ b o, b < W.heap.size → w1.frozen? ⟨b, o, none⟩ = W.frozen? ⟨b, o, none⟩) :=
  ⟨fun b o h => hb.cell (p := ⟨b, o, none⟩) h, fun b o h => hb.frozen (p := ⟨b, o, none⟩) h⟩
theorem ret_bool {a b : Bool} (h : a = b) : Ending.returned (.bool a) = .returned (.bool b) := by rw [h]

def kz (k : Int) : Nat := if 1 ≤ k ∧ k ≤ 13 then k.toNat else 0
theorem kz_nat (i : Nat) (h1 : 1 ≤ i) (h2 : i ≤ 13) : kz (i : Int) = i := by unfold kz; rw [if_pos (by omega)]; omega
theorem kz_no (k : Int) (h : k < 1 ∨ 13 < k) : kz k = 0 := by unfold kz; rw [if_neg (by omega)]
def rowV (T : Tab) (k : Int) : Value := .agg #[.string ⟨(rL T (kz k)).toArray⟩, .int .i64 (rN T (kz k)), .bool (rB T (kz k)), .bool (rW T (kz k)), .bool (rR T (kz k))]

set_option maxHeartbeats 400000 in
theorem rowOf_no (k : Int) (w : World) (h : k < 1 ∨ 13 < k) :
    Calls Tryz.prog 121 #[.int .i64 k] w fun e w' => e = .returned (.agg #[.string ⟨#[]⟩, .int .i64 0, .bool false, .bool false, .bool false]) ∧ Below w.heap.size w w' := by
  rcases h with h | h
  · go_enter Tryz.func121, Tryz.ntmps121
    go_wp2
    exact bodyPost_ret (v := .agg #[.string ⟨#[]⟩, .int .i64 0, .bool false, .bool false, .bool false]) (by simp [results, Tryz.results121, go_sem]) rfl ⟨rfl, (Below.refl _ _).alloc (Nat.le_refl _) _⟩
  · have h' : ¬ k < 1 := by omega
    go_enter Tryz.func121, Tryz.ntmps121
    go_wp2
    exact bodyPost_ret (v := .agg #[.string ⟨#[]⟩, .int .i64 0, .bool false, .bool false, .bool false]) (by simp [results, Tryz.results121, go_sem]) rfl ⟨rfl, (Below.refl _ _).alloc (Nat.le_refl _) _⟩

set_option maxHeartbeats 400000 in
theorem rowOf_yes (i : Nat) (w : World) (h1 : 1 ≤ i) (h2 : i ≤ 13) (hT : DevTab T w) :
    Calls Tryz.prog 121 #[.int .i64 (i : Int)] w fun e w' => e = .returned (.agg #[.string ⟨(rL T i).toArray⟩, .int .i64 (rN T i), .bool (rB T i), .bool (rW T i), .bool (rR T i)]) ∧ Below w.heap.size w w' := by
  have e0 : i ≠ 0 := by omega
  rw [show rL T i = T.L i by simp [rL, e0], show rN T i = T.N i by simp [rN, e0], show rB T i = T.B i by simp [rB, e0], show rW T i = T.W i by simp [rW, e0], show rR T i = T.R i by simp [rR, e0]]
  obtain ⟨t0, t1, t2, t3, t4⟩ := hT i (by omega)
  clear e0
  have a : ¬ (i : Int) < 1 := by omega
  have b : ¬ (13 : Int) < i := by omega
  have hs : 1 < w.heap.size := hT.lt
  clear hT
  go_enter Tryz.func121, Tryz.ntmps121
  go_wp2
  exact bodyPost_ret (v := .agg #[.string ⟨(T.L i).toArray⟩, .int .i64 (T.N i), .bool (T.B i), .bool (T.W i), .bool (T.R i)]) (by simp [results, Tryz.results121, go_sem]) rfl ⟨rfl, (Below.refl _ _).alloc (Nat.le_refl _) _⟩

theorem rowOf_any (k : Int) (w : World) (hT : DevTab T w) :
    Calls Tryz.prog 121 #[.int .i64 k] w fun e w' => e = .returned (.agg #[.string ⟨(rL T (kz k)).toArray⟩, .int .i64 (rN T (kz k)), .bool (rB T (kz k)), .bool (rW T (kz k)), .bool (rR T (kz k))]) ∧ Below w.heap.size w w' := by
  by_cases h : k < 1 ∨ 13 < k
  · rw [kz_no k h]; exact rowOf_no k w h
  · obtain ⟨i, rfl⟩ := Int.eq_ofNat_of_zero_le (show 0 ≤ k by omega)
    rw [kz_nat i (by omega) (by omega)]; exact rowOf_yes i w (by omega) (by omega) hT

theorem field_0 (a b c d e : Value) (w : World) : Sem.run Tryz.prog (Instr.field 165 (.agg #[a, b, c, d, e]) 0) w = .ok a w := by kernel_rfl
theorem field_1 (a b c d e : Value) (w : World) : Sem.run Tryz.prog (Instr.field 165 (.agg #[a, b, c, d, e]) 1) w = .ok b w := by kernel_rfl
theorem field_2 (a b c d e : Value) (w : World) : Sem.run Tryz.prog (Instr.field 165 (.agg #[a, b, c, d, e]) 2) w = .ok c w := by kernel_rfl
theorem field_3 (a b c d e : Value) (w : World) : Sem.run Tryz.prog (Instr.field 165 (.agg #[a, b, c, d, e]) 3) w = .ok d w := by kernel_rfl
theorem field_4 (a b c d e : Value) (w : World) : Sem.run Tryz.prog (Instr.field 165 (.agg #[a, b, c, d, e]) 4) w = .ok e w := by kernel_rfl
attribute [local go_sem] field_0 field_1 field_2 field_3 field_4

set_option maxHeartbeats 400000 in
theorem size_any (k : Int) (w : World) (hT : DevTab T w) :
    Calls Tryz.prog 125 #[.int .i64 k] w fun e w' => e = .returned (.int .i64 (rN T (kz k))) ∧ Below w.heap.size w w' := by
  go_enter Tryz.func125, Tryz.ntmps125
  go_wp2_with fail
  refine (rowOf_any _ _ hT).mono ?_
  rintro e w' ⟨rfl, hb⟩
  go_wp2
  go_ret
  exact ⟨rfl, hb⟩

def decOk (n p : Int) : Bool := decide (-999999999 ≤ n ∧ n ≤ 999999999 ∧ 1 ≤ p ∧ p ≤ 6 ∧ (p = 1 ∨ n.tmod 10 ≠ 0))

set_option maxHeartbeats 400000 in
theorem decOk_any (n p : Int) (w : World) :
    Calls Tryz.prog 124 #[.int .i64 n, .int .i64 p] w fun e w' => e = .returned (.bool (decOk n p)) ∧ w' = w := by
  by_cases h1 : n < -999999999
  · go_enter Tryz.func124, Tryz.ntmps124
    go_wp2
    go_ret
    exact ⟨ret_bool (by simp [decOk]; omega), rfl⟩
  by_cases h2 : 999999999 < n
  · go_enter Tryz.func124, Tryz.ntmps124
    go_wp2
    go_ret
    exact ⟨ret_bool (by simp [decOk]; omega), rfl⟩
  by_cases h3 : p < 1
  · go_enter Tryz.func124, Tryz.ntmps124
    go_wp2
    go_ret
    exact ⟨ret_bool (by simp [decOk]; omega), rfl⟩
  by_cases h4 : 6 < p
  · go_enter Tryz.func124, Tryz.ntmps124
    go_wp2
    go_ret
    exact ⟨ret_bool (by simp [decOk]; omega), rfl⟩
  by_cases h5 : p = 1
  · subst h5
    go_enter Tryz.func124, Tryz.ntmps124
    go_wp2
    go_ret
    exact ⟨ret_bool (by simp [decOk]; omega), rfl⟩
  · have h5' : (p == 1) = false := by simpa using h5
    clear h5
    go_enter Tryz.func124, Tryz.ntmps124
    go_wp2
    go_ret
    have h5 : p ≠ 1 := by simpa using h5'
    exact ⟨ret_bool (by by_cases h6 : n.tmod 10 = 0 <;> simp [decOk, h1, h2, h3, h4, h5, h6]), rfl⟩
end Go.Proofs.YtjkpingdokkkcaaGreatDoor.Tb

/- DevOk, the program's and the document's. Helper text: no statement is claimed here. -/
namespace Go.Proofs.YtjkpingdokkkcaaGreatDoor.Tb
open Go.ChangeShapes Go.WideShapes Go.ChangeAt Go.RowKit
variable {T : Tab}

def okB (T : Tab) (k n p : Int) : Bool := decide ((k = 11 ∧ -32768 ≤ n ∧ n ≤ 32767 ∧ p = 0) ∨ (k = 12 ∧ decOk n p = true) ∨ (k = 13 ∧ 0 ≤ n ∧ n < 4 ∧ p = 0) ∨ (k ≠ 11 ∧ k ≠ 12 ∧ k ≠ 13 ∧ 0 ≤ n ∧ n < rN T (kz k) ∧ p = 0))
theorem okB_11 (n p : Int) : okB T 11 n p = decide (-32768 ≤ n ∧ n ≤ 32767 ∧ p = 0) := by simp [okB]
theorem okB_12 (n p : Int) : okB T 12 n p = decOk n p := by simp [okB]
theorem okB_13 (n p : Int) : okB T 13 n p = decide (0 ≤ n ∧ n < 4 ∧ p = 0) := by simp [okB]
theorem okB_dev (k n p : Int) (h1 : k ≠ 11) (h2 : k ≠ 12) (h3 : k ≠ 13) : okB T k n p = decide (0 ≤ n ∧ n < rN T (kz k) ∧ p = 0) := by simp [okB, h1, h2, h3]

theorem one (w : World) (o : Obj) : Below w.heap.size w (w.alloc o) := (Below.refl _ _).alloc (Nat.le_refl _) _

set_option maxHeartbeats 400000 in
theorem devOk_11 (n p : Int) (w : World) :
    Calls Tryz.prog 120 #[.agg #[.int .i64 11, .int .i64 n, .int .i64 p]] w fun e w' => e = .returned (.bool (okB T 11 n p)) ∧ Below w.heap.size w w' := by
  rw [okB_11]
  go_enter Tryz.func120, Tryz.ntmps120
  go_wp2
  all_goals go_ret
  all_goals exact ⟨ret_bool (by rw [Bool.eq_iff_iff]; simp <;> omega), one _ _⟩

set_option maxHeartbeats 400000 in
theorem devOk_12 (n p : Int) (w : World) :
    Calls Tryz.prog 120 #[.agg #[.int .i64 12, .int .i64 n, .int .i64 p]] w fun e w' => e = .returned (.bool (okB T 12 n p)) ∧ Below w.heap.size w w' := by
  rw [okB_12]
  go_enter Tryz.func120, Tryz.ntmps120
  go_wp2_with fail
  refine (decOk_any _ _ _).mono ?_
  rintro e w' ⟨rfl, rfl⟩
  go_wp2
  go_ret
  exact ⟨rfl, one _ _⟩

set_option maxHeartbeats 400000 in
theorem devOk_13 (n p : Int) (w : World) :
    Calls Tryz.prog 120 #[.agg #[.int .i64 13, .int .i64 n, .int .i64 p]] w fun e w' => e = .returned (.bool (okB T 13 n p)) ∧ Below w.heap.size w w' := by
  rw [okB_13]
  go_enter Tryz.func120, Tryz.ntmps120
  go_wp2
  all_goals go_ret
  all_goals exact ⟨ret_bool (by rw [Bool.eq_iff_iff]; simp <;> omega), one _ _⟩

set_option maxHeartbeats 400000 in
theorem devOk_dev0 (k n p : Int) (w : World) (h1 : (k == 11) = false) (h2 : (k == 12) = false) (h3 : (k == 13) = false) (hn : n < 0) :
    Calls Tryz.prog 120 #[.agg #[.int .i64 k, .int .i64 n, .int .i64 p]] w fun e w' => e = .returned (.bool false) ∧ Below w.heap.size w w' := by
  have hd : decide (0 ≤ n) = false := by simp; omega
  go_enter Tryz.func120, Tryz.ntmps120
  go_wp2
  go_quiet (fail)
  go_wp2
  go_ret
  exact ⟨rfl, Go.below_drewN (one _ _) _⟩
abbrev argO (k n p : Int) : Obj := .cells #[.int .i64 k, .int .i64 n, .int .i64 p] 27
theorem arg_at (k n p : Int) (w : World) : (w.alloc (argO k n p)).cell? ⟨w.heap.size, 0, none⟩ = some (.int .i64 k) ∧ (w.alloc (argO k n p)).cell? ⟨w.heap.size, 1, none⟩ = some (.int .i64 n) ∧ (w.alloc (argO k n p)).cell? ⟨w.heap.size, 2, none⟩ = some (.int .i64 p) := by
  refine ⟨?_, ?_, ?_⟩ <;> simp [go_sem]
theorem size_grown {k n p : Int} {w : World} (hT : DevTab T w) (d : Nat) (os : Array Obj) :
    Calls Tryz.prog 125 #[.int .i64 k] (Sort.grow (redrawn (w.alloc (argO k n p)) d) os) fun e w'' => e = .returned (.int .i64 (rN T (kz k))) ∧ ∃ p' : Regrown, w'' = Sort.grow (redrawn (w.alloc (argO k n p)) p'.d) p'.os :=
  Calls.regrown_of (size_any _ _ ((hT.alloc _).to (below_regrown _ d os)))

set_option maxHeartbeats 400000 in
theorem devOk_dev1 (k n p : Int) (w : World) (hT : DevTab T w) (h1 : (k == 11) = false) (h2 : (k == 12) = false) (h3 : (k == 13) = false) (hn : 0 ≤ n) (hl : n < rN T (kz k)) :
    Calls Tryz.prog 120 #[.agg #[.int .i64 k, .int .i64 n, .int .i64 p]] w fun e w' => e = .returned (.bool (p == 0)) ∧ Below w.heap.size w w' := by
  obtain ⟨c0, c1, c2⟩ := arg_at k n p w
  have k0 := cell_regrown c0
  have k1 := cell_regrown c1
  have k2 := cell_regrown c2
  clear c0 c1 c2
  go_enter Tryz.func120, Tryz.ntmps120
  go_wp2
  refine wp_region_quiet_below (by kernel_rfl) (by kernel_rfl) ?_
  repeat (first | go_big_quiet_step (exact size_grown hT _ _) | quiet_step (exact size_grown hT _ _))
  refine wpQuiet_nil ?_
  intro _ hw'
  obtain ⟨⟨dq, osq⟩, hw''⟩ := hw'
  subst hw''
  go_wp2
  go_ret
  exact ⟨rfl, (one _ _).trans ((below_regrown _ dq osq).mono (by simp))⟩
set_option maxHeartbeats 400000 in
theorem devOk_dev2 (k n p : Int) (w : World) (hT : DevTab T w) (h1 : (k == 11) = false) (h2 : (k == 12) = false) (h3 : (k == 13) = false) (hn : 0 ≤ n) (hl : rN T (kz k) ≤ n) :
    Calls Tryz.prog 120 #[.agg #[.int .i64 k, .int .i64 n, .int .i64 p]] w fun e w' => e = .returned (.bool false) ∧ Below w.heap.size w w' := by
  have hd : decide (n < rN T (kz k)) = false := by simp; omega
  obtain ⟨c0, c1, c2⟩ := arg_at k n p w
  have k0 := cell_regrown c0
  have k1 := cell_regrown c1
  have k2 := cell_regrown c2
  clear c0 c1 c2
  go_enter Tryz.func120, Tryz.ntmps120
  go_wp2
  refine wp_region_quiet_below (by kernel_rfl) (by kernel_rfl) ?_
  repeat (first | go_big_quiet_step (exact size_grown hT _ _) | quiet_step (exact size_grown hT _ _))
  refine wpQuiet_nil ?_
  intro _ hw'
  obtain ⟨⟨dq, osq⟩, hw''⟩ := hw'
  subst hw''
  go_wp2
  go_ret
  exact ⟨rfl, (one _ _).trans ((below_regrown _ dq osq).mono (by simp))⟩

theorem of_one {w w1 : World} {o : Obj} (h : Below (w.alloc o).heap.size (w.alloc o) w1) : Below w.heap.size w w1 := (one w o).trans (h.mono (by simp))
theorem of_two {w w1 w2 : World} {o : Obj} (h : Below (w.alloc o).heap.size (w.alloc o) w1) (h2 : Below w1.heap.size w1 w2) : Below w.heap.size w w2 := (of_one h).trans (h2.mono (of_one h).size)

theorem devOk_any (k n p : Int) (w : World) (hT : DevTab T w) :
    Calls Tryz.prog 120 #[.agg #[.int .i64 k, .int .i64 n, .int .i64 p]] w fun e w' => e = .returned (.bool (okB T k n p)) ∧ Below w.heap.size w w' := by
  by_cases h1 : k = 11
  · subst h1; exact devOk_11 n p w
  by_cases h2 : k = 12
  · subst h2; exact devOk_12 n p w
  by_cases h3 : k = 13
  · subst h3; exact devOk_13 n p w
  rw [okB_dev k n p h1 h2 h3]
  have e1 : (k == 11) = false := by simpa using h1
  have e2 : (k == 12) = false := by simpa using h2
  have e3 : (k == 13) = false := by simpa using h3
  by_cases hn : n < 0
  · rw [show decide (0 ≤ n ∧ n < rN T (kz k) ∧ p = 0) = false by simp; omega]
    exact devOk_dev0 k n p w e1 e2 e3 hn
  by_cases hl : n < rN T (kz k)
  · rw [show decide (0 ≤ n ∧ n < rN T (kz k) ∧ p = 0) = (p == 0) by rw [Bool.eq_iff_iff]; simp; omega]
    exact devOk_dev1 k n p w hT e1 e2 e3 (by omega) hl
  · rw [show decide (0 ≤ n ∧ n < rN T (kz k) ∧ p = 0) = false by simp; omega]
    exact devOk_dev2 k n p w hT e1 e2 e3 (by omega) (by omega)
end Go.Proofs.YtjkpingdokkkcaaGreatDoor.Tb

/- What an operand can be asked for, as mathematics. Helper text: no statement is claimed here. -/
namespace Go.Proofs.YtjkpingdokkkcaaGreatDoor.Tb
open Go.ChangeShapes Go.WideShapes Go.ChangeAt Go.RowKit
variable {T : Tab}

def isB (T : Tab) (k n p : Int) : Bool := okB T k n p && rB T (kz k)
def isW (T : Tab) (k n p : Int) : Bool := okB T k n p && rW T (kz k)
def isR (T : Tab) (k n p : Int) : Bool := okB T k n p && rR T (kz k)
end Go.Proofs.YtjkpingdokkkcaaGreatDoor.Tb

/- What the tables of contacts and coils say, as mathematics; operands in memory. Helper text: no statement is claimed here. -/
namespace Go.Proofs.YtjkpingdokkkcaaGreatDoor.Tb
open Go.ChangeShapes Go.WideShapes Go.ChangeAt Go.RowKit
variable {T : Tab}

def fm0 : Nat → List Nat
  | 1 => [1] | 2 => [1] | 3 => [1, 4] | 4 => [1, 4] | 5 => [2, 2] | 6 => [2, 2] | 7 => [2, 2] | 8 => [2, 2] | 9 => [2, 2] | 10 => [2, 2] | 21 => [10] | 22 => [11] | 23 => [12] | 24 => [10, 4] | 25 => [5] | 26 => [6, 13] | 27 => [6, 13] | 28 => [6, 13] | 29 => [7, 13] | 30 => [8, 2] | 31 => [8, 2, 2] | 32 => [8, 2, 2] | 33 => [8, 2, 2] | 34 => [8, 2, 2] | 35 => [8, 2, 2] | 36 => [9, 2] | 37 => [8, 3] | _ => []
def fm1 : Nat → List Nat
  | 5 => [3, 3] | 6 => [3, 3] | 7 => [3, 3] | 8 => [3, 3] | 9 => [3, 3] | 10 => [3, 3] | 30 => [9, 3] | 31 => [9, 3, 3] | 32 => [9, 3, 3] | 33 => [9, 3, 3] | 34 => [9, 3, 3] | _ => []
def nm : Nat → List UInt8
  | 21 => [111, 117, 116] | 22 => [115, 101, 116] | 23 => [114, 101, 115, 101, 116] | 24 => [112, 117, 108, 115, 101] | 25 => [115, 116, 101, 112] | 26 => [116, 105, 109, 101, 114] | 27 => [104, 111, 108, 100] | 28 => [108, 97, 116, 101] | 29 => [99, 111, 117, 110, 116] | 30 => [109, 111, 118, 101] | 31 => [97, 100, 100] | 32 => [115, 117, 98] | 33 => [109, 117, 108] | 34 => [100, 105, 118] | 35 => [114, 101, 109] | 36 => [114, 101, 97, 108] | 37 => [119, 104, 111, 108, 101] | _ => []
def mk : Nat → Int
  | 2 => 47 | 3 => 43 | 4 => 45 | _ => 0
def ts : Nat → Int
  | 5 => 1 | 6 => 2 | 7 => 3 | 8 => 4 | 9 => 5 | 10 => 6 | _ => 0
def ez (op : Int) : Nat := if 0 ≤ op ∧ op < 38 then op.toNat else 0
theorem ez_nat (i : Nat) (h : i < 38) : ez (i : Int) = i := by unfold ez; rw [if_pos (by omega)]; omega
theorem ez_no (op : Int) (h : op < 0 ∨ 38 ≤ op) : ez op = 0 := by unfold ez; rw [if_neg (by omega)]
/-- A number is among others. -/
def hasK (ks : List Int) (k : Int) : Bool := ks.contains k
def kinB (T : Tab) (ks : List Int) (k n p : Int) : Bool := okB T k n p && hasK ks k
/-- The kinds of a sort of operands. -/
def sk : Nat → List Int
  | 4 => [5] | 5 => [4] | 6 => [7] | 7 => [8] | 8 => [9] | 9 => [10] | 10 => [2, 3] | 11 => [2, 3, 4] | 12 => [2, 3, 4, 7, 8] | 13 => [11] | _ => []
/-- Whether an operand is of a sort. -/
def fitB (T : Tab) : Nat → Int → Int → Int → Bool
  | 1, k, n, p => isB T k n p
  | 2, k, n, p => isW T k n p
  | 3, k, n, p => isR T k n p
  | 13, k, n, p => kinB T [11] k n p && decide (0 ≤ n)
  | c, k, n, p => kinB T (sk c) k n p
/-- An operand: kind, number, places. -/
abbrev Ar := Int × Int × Int
def at3 (ys : List Ar) (i : Nat) : Ar := ys.getD i (0, 0, 0)
def fitA (T : Tab) (fs : List Nat) (ys : List Ar) (i : Nat) : Bool := fitB T (fs.getD i 0) (at3 ys i).1 (at3 ys i).2.1 (at3 ys i).2.2
/-- The operands are ys one row of sorts says. -/
def takeB (T : Tab) (fs : List Nat) (ys : List Ar) : Bool := decide (ys.length ≠ 0) && decide (ys.length = fs.length) && (List.range ys.length).all (fitA T fs ys)
/-- Operands that lie in memory. -/
def ArgsAt (w : World) (b o : Nat) (ys : List Ar) : Prop := ∀ i, i < ys.length → w.cell? ⟨b, o + i * 3, none⟩ = some (.int .i64 (at3 ys i).1) ∧ w.cell? ⟨b, o + i * 3 + 1, none⟩ = some (.int .i64 (at3 ys i).2.1) ∧ w.cell? ⟨b, o + i * 3 + 2, none⟩ = some (.int .i64 (at3 ys i).2.2)
def ArgsIs (w : World) (p : Option Addr) (ys : List Ar) : Prop := ys = [] ∨ ∃ b o, p = some ⟨b, o, none⟩ ∧ b < w.heap.size ∧ ArgsAt w b o ys
theorem ArgsAt.to {w w' : World} {b o : Nat} {ys : List Ar} (h : ArgsAt w b o ys) (hlt : b < w.heap.size) (hb : Below w.heap.size w w') : ArgsAt w' b o ys := fun i hi => by
  rw [hb.cell (p := ⟨b, o + i * 3, none⟩) hlt, hb.cell (p := ⟨b, o + i * 3 + 1, none⟩) hlt, hb.cell (p := ⟨b, o + i * 3 + 2, none⟩) hlt]
  exact h i hi
theorem ArgsIs.to {w w' : World} {p : Option Addr} {ys : List Ar} (h : ArgsIs w p ys) (hb : Below w.heap.size w w') : ArgsIs w' p ys := by
  rcases h with h | ⟨b, o, rfl, hlt, h⟩
  · exact .inl h
  · exact .inr ⟨b, o, rfl, Nat.lt_of_lt_of_le hlt hb.size, h.to hlt hb⟩
/-- The sorts of a form, in range. -/
def FsOk (fs : List Nat) : Prop := fs.length ≤ 3 ∧ ∀ i, i < fs.length → 1 ≤ fs.getD i 0 ∧ fs.getD i 0 ≤ 13
theorem fm0_ok (i : Nat) : FsOk (fm0 i) := by
  unfold fm0; split <;> exact ⟨by decide, by decide⟩
theorem fm1_ok (i : Nat) : FsOk (fm1 i) := by
  unfold fm1; split <;> exact ⟨by decide, by decide⟩
theorem all_upto {fs : List Nat} {ys : List Ar} {j : Nat} (h : ∀ i, i < j → fitA T fs ys i = true) (hj : fitA T fs ys j = true) : ∀ i, i < j + 1 → fitA T fs ys i = true := fun i hi => by
  rcases Nat.lt_or_ge i j with h' | h'
  · exact h i h'
  · obtain rfl : i = j := by omega
    exact hj
theorem take_yes {fs : List Nat} {ys : List Ar} (h0 : ys.length ≠ 0) (hl : ys.length = fs.length) (h : ∀ i, i < ys.length → fitA T fs ys i = true) : takeB T fs ys = true := by
  simp only [takeB, Bool.and_eq_true, decide_eq_true_eq, List.all_eq_true, List.mem_range]
  exact ⟨⟨h0, hl⟩, h⟩
theorem take_no {fs : List Nat} {ys : List Ar} {j : Nat} (hj : j < ys.length) (h : fitA T fs ys j = false) : takeB T fs ys = false := by
  rw [Bool.eq_false_iff]
  intro ht
  simp only [takeB, Bool.and_eq_true, decide_eq_true_eq, List.all_eq_true, List.mem_range] at ht
  rw [ht.2 j hj] at h
  cases h
/-- The operands are as the tables say of a number. -/
def okA (T : Tab) (i : Nat) (ys : List Ar) : Bool := takeB T (fm0 i) ys || takeB T (fm1 i) ys
/-- A contact or coil as a value. -/
abbrev elemV (op : Int) (p : Option Addr) (n cap : Nat) : Value := .agg #[.int .i64 op, .slice p n cap]
def conB (T : Tab) (op : Int) (ys : List Ar) : Bool := decide (nm (ez op) = []) && okA T (ez op) ys
def coilB (T : Tab) (op : Int) (ys : List Ar) : Bool := decide (nm (ez op) ≠ []) && okA T (ez op) ys
theorem elem_at {w w1 : World} {op : Int} {p : Option Addr} {n cap : Nat} (hb : Below (w.alloc (.cells #[.int .i64 op, .slice p n cap] 46)).heap.size (w.alloc (.cells #[.int .i64 op, .slice p n cap] 46)) w1) (o : Obj) :
    (w1.alloc o).cell? ⟨w.heap.size, 1, none⟩ = some (.slice p n cap) := by
  have h := hb.cell (p := ⟨w.heap.size, 1, none⟩) (by simp)
  rw [World.cell?_alloc_lt _ _ _ (Nat.lt_of_lt_of_le (by simp) hb.size), h, World.cell?_alloc_mark]
  rfl
end Go.Proofs.YtjkpingdokkkcaaGreatDoor.Tb
