/- DevOk, the program's and the document's. Helper text: no statement is claimed here. -/
import Derived.Test.YtmgjngihngddfaaGreatDoorP01
import Derived.WalkSmall
import Derived.Lib.QuietBelow
import Derived.Deep.RegionHeld3
import Derived.BigQuiet
namespace Go.Proofs.YtmgjngihngddfaaGreatDoor
open Go.ChangeShapes Go.WideShapes Go.ChangeAt Go.RowKit

def okB (k n p : Int) : Bool := decide ((k = 11 ∧ -32768 ≤ n ∧ n ≤ 32767 ∧ p = 0) ∨ (k = 12 ∧ decOk n p = true) ∨ (k = 13 ∧ 0 ≤ n ∧ n < 4 ∧ p = 0) ∨ (k ≠ 11 ∧ k ≠ 12 ∧ k ≠ 13 ∧ 0 ≤ n ∧ n < rN (kz k) ∧ p = 0))
theorem okB_11 (n p : Int) : okB 11 n p = decide (-32768 ≤ n ∧ n ≤ 32767 ∧ p = 0) := by simp [okB]
theorem okB_12 (n p : Int) : okB 12 n p = decOk n p := by simp [okB]
theorem okB_13 (n p : Int) : okB 13 n p = decide (0 ≤ n ∧ n < 4 ∧ p = 0) := by simp [okB]
theorem okB_dev (k n p : Int) (h1 : k ≠ 11) (h2 : k ≠ 12) (h3 : k ≠ 13) : okB k n p = decide (0 ≤ n ∧ n < rN (kz k) ∧ p = 0) := by simp [okB, h1, h2, h3]
theorem rN_bd (i : Nat) : 0 ≤ rN i ∧ rN i ≤ 64 := by unfold rN; split <;> omega

theorem one (w : World) (o : Obj) : Below w.heap.size w (w.alloc o) := (Below.refl _ _).alloc (Nat.le_refl _) _

set_option maxHeartbeats 400000 in
theorem devOk_11 (n p : Int) (w : World) :
    Calls Tryz.prog 103 #[.agg #[.int .i64 11, .int .i64 n, .int .i64 p]] w fun e w' => e = .returned (.bool (okB 11 n p)) ∧ Below w.heap.size w w' := by
  rw [okB_11]
  go_enter Tryz.func103, Tryz.ntmps103
  go_wp2
  all_goals go_ret
  all_goals exact ⟨ret_bool (by rw [Bool.eq_iff_iff]; simp <;> omega), one _ _⟩

set_option maxHeartbeats 400000 in
theorem devOk_12 (n p : Int) (w : World) :
    Calls Tryz.prog 103 #[.agg #[.int .i64 12, .int .i64 n, .int .i64 p]] w fun e w' => e = .returned (.bool (okB 12 n p)) ∧ Below w.heap.size w w' := by
  rw [okB_12]
  go_enter Tryz.func103, Tryz.ntmps103
  go_wp2_with fail
  refine (decOk_any _ _ _).mono ?_
  rintro e w' ⟨rfl, rfl⟩
  go_wp2
  go_ret
  exact ⟨rfl, one _ _⟩

set_option maxHeartbeats 400000 in
theorem devOk_13 (n p : Int) (w : World) :
    Calls Tryz.prog 103 #[.agg #[.int .i64 13, .int .i64 n, .int .i64 p]] w fun e w' => e = .returned (.bool (okB 13 n p)) ∧ Below w.heap.size w w' := by
  rw [okB_13]
  go_enter Tryz.func103, Tryz.ntmps103
  go_wp2
  all_goals go_ret
  all_goals exact ⟨ret_bool (by rw [Bool.eq_iff_iff]; simp <;> omega), one _ _⟩

set_option maxHeartbeats 400000 in
theorem devOk_dev0 (k n p : Int) (w : World) (h1 : (k == 11) = false) (h2 : (k == 12) = false) (h3 : (k == 13) = false) (hn : n < 0) :
    Calls Tryz.prog 103 #[.agg #[.int .i64 k, .int .i64 n, .int .i64 p]] w fun e w' => e = .returned (.bool false) ∧ Below w.heap.size w w' := by
  have hd : decide (0 ≤ n) = false := by simp; omega
  go_enter Tryz.func103, Tryz.ntmps103
  go_wp2
  go_quiet (fail)
  go_wp2
  go_ret
  exact ⟨rfl, below_drewN (one _ _) _⟩
abbrev argO (k n p : Int) : Obj := .cells #[.int .i64 k, .int .i64 n, .int .i64 p] 48
theorem arg_at (k n p : Int) (w : World) : (w.alloc (argO k n p)).cell? ⟨w.heap.size, 0, none⟩ = some (.int .i64 k) ∧ (w.alloc (argO k n p)).cell? ⟨w.heap.size, 1, none⟩ = some (.int .i64 n) ∧ (w.alloc (argO k n p)).cell? ⟨w.heap.size, 2, none⟩ = some (.int .i64 p) := by
  refine ⟨?_, ?_, ?_⟩ <;> simp [go_sem]
theorem size_grown {k n p : Int} {w : World} (hT : DevTab w) (d : Nat) (os : Array Obj) :
    Calls Tryz.prog 56 #[.int .i64 k] (Sort.grow (redrawn (w.alloc (argO k n p)) d) os) fun e w'' => e = .returned (.int .i64 (rN (kz k))) ∧ ∃ p' : Regrown, w'' = Sort.grow (redrawn (w.alloc (argO k n p)) p'.d) p'.os :=
  Calls.regrown_of (size_any _ _ ((hT.alloc _).to (below_regrown _ d os)))

set_option maxHeartbeats 400000 in
theorem devOk_dev1 (k n p : Int) (w : World) (hT : DevTab w) (h1 : (k == 11) = false) (h2 : (k == 12) = false) (h3 : (k == 13) = false) (hn : 0 ≤ n) (hl : n < rN (kz k)) :
    Calls Tryz.prog 103 #[.agg #[.int .i64 k, .int .i64 n, .int .i64 p]] w fun e w' => e = .returned (.bool (p == 0)) ∧ Below w.heap.size w w' := by
  have hb := rN_bd (kz k)
  obtain ⟨c0, c1, c2⟩ := arg_at k n p w
  have k0 := cell_regrown c0
  have k1 := cell_regrown c1
  have k2 := cell_regrown c2
  clear c0 c1 c2
  go_enter Tryz.func103, Tryz.ntmps103
  go_wp2
  refine wp_region_quiet_below (by kernel_rfl) (by kernel_rfl) ?_
  repeat (first | go_big_quiet_step (exact size_grown hT _ _) | quiet_step (exact size_grown hT _ _))
  refine wpQuiet_nil ?_
  intro _ hw'
  obtain ⟨⟨dq, osq⟩, hw''⟩ := hw'
  subst hw''
  go_wp2
  go_ret
  exact ⟨rfl, (one _ _).trans ((below_regrown _ dq osq).mono (by simp))⟩
set_option maxHeartbeats 400000 in
theorem devOk_dev2 (k n p : Int) (w : World) (hT : DevTab w) (h1 : (k == 11) = false) (h2 : (k == 12) = false) (h3 : (k == 13) = false) (hn : 0 ≤ n) (hl : rN (kz k) ≤ n) :
    Calls Tryz.prog 103 #[.agg #[.int .i64 k, .int .i64 n, .int .i64 p]] w fun e w' => e = .returned (.bool false) ∧ Below w.heap.size w w' := by
  have hb := rN_bd (kz k)
  have hd : decide (n < rN (kz k)) = false := by simp; omega
  obtain ⟨c0, c1, c2⟩ := arg_at k n p w
  have k0 := cell_regrown c0
  have k1 := cell_regrown c1
  have k2 := cell_regrown c2
  clear c0 c1 c2
  go_enter Tryz.func103, Tryz.ntmps103
  go_wp2
  refine wp_region_quiet_below (by kernel_rfl) (by kernel_rfl) ?_
  repeat (first | go_big_quiet_step (exact size_grown hT _ _) | quiet_step (exact size_grown hT _ _))
  refine wpQuiet_nil ?_
  intro _ hw'
  obtain ⟨⟨dq, osq⟩, hw''⟩ := hw'
  subst hw''
  go_wp2
  go_ret
  exact ⟨rfl, (one _ _).trans ((below_regrown _ dq osq).mono (by simp))⟩

theorem of_one {w w1 : World} {o : Obj} (h : Below (w.alloc o).heap.size (w.alloc o) w1) : Below w.heap.size w w1 := (one w o).trans (h.mono (by simp))
theorem of_two {w w1 w2 : World} {o : Obj} (h : Below (w.alloc o).heap.size (w.alloc o) w1) (h2 : Below w1.heap.size w1 w2) : Below w.heap.size w w2 := (of_one h).trans (h2.mono (of_one h).size)

theorem devOk_any (k n p : Int) (w : World) (hT : DevTab w) :
    Calls Tryz.prog 103 #[.agg #[.int .i64 k, .int .i64 n, .int .i64 p]] w fun e w' => e = .returned (.bool (okB k n p)) ∧ Below w.heap.size w w' := by
  by_cases h1 : k = 11
  · subst h1; exact devOk_11 n p w
  by_cases h2 : k = 12
  · subst h2; exact devOk_12 n p w
  by_cases h3 : k = 13
  · subst h3; exact devOk_13 n p w
  rw [okB_dev k n p h1 h2 h3]
  have e1 : (k == 11) = false := by simpa using h1
  have e2 : (k == 12) = false := by simpa using h2
  have e3 : (k == 13) = false := by simpa using h3
  by_cases hn : n < 0
  · rw [show decide (0 ≤ n ∧ n < rN (kz k) ∧ p = 0) = false by simp; omega]
    exact devOk_dev0 k n p w e1 e2 e3 hn
  by_cases hl : n < rN (kz k)
  · rw [show decide (0 ≤ n ∧ n < rN (kz k) ∧ p = 0) = (p == 0) by rw [Bool.eq_iff_iff]; simp; omega]
    exact devOk_dev1 k n p w hT e1 e2 e3 (by omega) hl
  · rw [show decide (0 ≤ n ∧ n < rN (kz k) ∧ p = 0) = false by simp; omega]
    exact devOk_dev2 k n p w hT e1 e2 e3 (by omega) (by omega)
end Go.Proofs.YtmgjngihngddfaaGreatDoor

/- What an operand can be asked for, as mathematics. Helper text: no statement is claimed here. -/
namespace Go.Proofs.YtmgjngihngddfaaGreatDoor
open Go.ChangeShapes Go.WideShapes Go.ChangeAt Go.RowKit

def isB (k n p : Int) : Bool := okB k n p && rB (kz k)
def isW (k n p : Int) : Bool := okB k n p && rW (kz k)
def isR (k n p : Int) : Bool := okB k n p && rR (kz k)
end Go.Proofs.YtmgjngihngddfaaGreatDoor

/- What the tables of contacts and coils say, as mathematics; operands in memory. Helper text: no statement is claimed here. -/
namespace Go.Proofs.YtmgjngihngddfaaGreatDoor
open Go.ChangeShapes Go.WideShapes Go.ChangeAt Go.RowKit

def fm0 : Nat → List Nat
  | 1 => [1] | 2 => [1] | 3 => [1, 4] | 4 => [1, 4] | 5 => [2, 2] | 6 => [2, 2] | 7 => [2, 2] | 8 => [2, 2] | 9 => [2, 2] | 10 => [2, 2] | 21 => [10] | 22 => [11] | 23 => [12] | 24 => [10, 4] | 25 => [5] | 26 => [6, 13] | 27 => [6, 13] | 28 => [6, 13] | 29 => [7, 13] | 30 => [8, 2] | 31 => [8, 2, 2] | 32 => [8, 2, 2] | 33 => [8, 2, 2] | 34 => [8, 2, 2] | 35 => [8, 2, 2] | 36 => [9, 2] | 37 => [8, 3] | _ => []
def fm1 : Nat → List Nat
  | 5 => [3, 3] | 6 => [3, 3] | 7 => [3, 3] | 8 => [3, 3] | 9 => [3, 3] | 10 => [3, 3] | 30 => [9, 3] | 31 => [9, 3, 3] | 32 => [9, 3, 3] | 33 => [9, 3, 3] | 34 => [9, 3, 3] | _ => []
def nm : Nat → List UInt8
  | 21 => [111, 117, 116] | 22 => [115, 101, 116] | 23 => [114, 101, 115, 101, 116] | 24 => [112, 117, 108, 115, 101] | 25 => [115, 116, 101, 112] | 26 => [116, 105, 109, 101, 114] | 27 => [104, 111, 108, 100] | 28 => [108, 97, 116, 101] | 29 => [99, 111, 117, 110, 116] | 30 => [109, 111, 118, 101] | 31 => [97, 100, 100] | 32 => [115, 117, 98] | 33 => [109, 117, 108] | 34 => [100, 105, 118] | 35 => [114, 101, 109] | 36 => [114, 101, 97, 108] | 37 => [119, 104, 111, 108, 101] | _ => []
def mk : Nat → Int
  | 2 => 47 | 3 => 43 | 4 => 45 | _ => 0
def ts : Nat → Int
  | 5 => 1 | 6 => 2 | 7 => 3 | 8 => 4 | 9 => 5 | 10 => 6 | _ => 0
def ez (op : Int) : Nat := if 0 ≤ op ∧ op < 38 then op.toNat else 0
theorem ez_nat (i : Nat) (h : i < 38) : ez (i : Int) = i := by unfold ez; rw [if_pos (by omega)]; omega
theorem ez_no (op : Int) (h : op < 0 ∨ 38 ≤ op) : ez op = 0 := by unfold ez; rw [if_neg (by omega)]
/-- A number is among others. -/
def hasK (ks : List Int) (k : Int) : Bool := ks.contains k
def kinB (ks : List Int) (k n p : Int) : Bool := okB k n p && hasK ks k
/-- The kinds of a sort of operands. -/
def sk : Nat → List Int
  | 4 => [5] | 5 => [4] | 6 => [7] | 7 => [8] | 8 => [9] | 9 => [10] | 10 => [2, 3] | 11 => [2, 3, 4] | 12 => [2, 3, 4, 7, 8] | 13 => [11] | _ => []
/-- Whether an operand is of a sort. -/
def fitB : Nat → Int → Int → Int → Bool
  | 1, k, n, p => isB k n p
  | 2, k, n, p => isW k n p
  | 3, k, n, p => isR k n p
  | 13, k, n, p => kinB [11] k n p && decide (0 ≤ n)
  | c, k, n, p => kinB (sk c) k n p
/-- An operand: kind, number, places. -/
abbrev Ar := Int × Int × Int
def at3 (ys : List Ar) (i : Nat) : Ar := ys.getD i (0, 0, 0)
def fitA (fs : List Nat) (ys : List Ar) (i : Nat) : Bool := fitB (fs.getD i 0) (at3 ys i).1 (at3 ys i).2.1 (at3 ys i).2.2
/-- The operands are ys one row of sorts says. -/
def takeB (fs : List Nat) (ys : List Ar) : Bool := decide (ys.length ≠ 0) && decide (ys.length = fs.length) && (List.range ys.length).all (fitA fs ys)
/-- Operands that lie in memory. -/
def ArgsAt (w : World) (b : Nat) (ys : List Ar) : Prop := ∀ i, i < ys.length → w.cell? ⟨b, i * 3, none⟩ = some (.int .i64 (at3 ys i).1) ∧ w.cell? ⟨b, i * 3 + 1, none⟩ = some (.int .i64 (at3 ys i).2.1) ∧ w.cell? ⟨b, i * 3 + 2, none⟩ = some (.int .i64 (at3 ys i).2.2)
def ArgsIs (w : World) (p : Option Addr) (ys : List Ar) : Prop := ys = [] ∨ ∃ b, p = some ⟨b, 0, none⟩ ∧ b < w.heap.size ∧ ArgsAt w b ys
theorem ArgsAt.to {w w' : World} {b : Nat} {ys : List Ar} (h : ArgsAt w b ys) (hlt : b < w.heap.size) (hb : Below w.heap.size w w') : ArgsAt w' b ys := fun i hi => by
  rw [hb.cell (p := ⟨b, i * 3, none⟩) hlt, hb.cell (p := ⟨b, i * 3 + 1, none⟩) hlt, hb.cell (p := ⟨b, i * 3 + 2, none⟩) hlt]
  exact h i hi
theorem ArgsIs.to {w w' : World} {p : Option Addr} {ys : List Ar} (h : ArgsIs w p ys) (hb : Below w.heap.size w w') : ArgsIs w' p ys := by
  rcases h with h | ⟨b, rfl, hlt, h⟩
  · exact .inl h
  · exact .inr ⟨b, rfl, Nat.lt_of_lt_of_le hlt hb.size, h.to hlt hb⟩
/-- The sorts of a form, in range. -/
def FsOk (fs : List Nat) : Prop := fs.length ≤ 3 ∧ ∀ i, i < fs.length → 1 ≤ fs.getD i 0 ∧ fs.getD i 0 ≤ 13
theorem fm0_ok (i : Nat) : FsOk (fm0 i) := by
  unfold fm0; split <;> exact ⟨by decide, by decide⟩
theorem fm1_ok (i : Nat) : FsOk (fm1 i) := by
  unfold fm1; split <;> exact ⟨by decide, by decide⟩
theorem all_upto {fs : List Nat} {ys : List Ar} {j : Nat} (h : ∀ i, i < j → fitA fs ys i = true) (hj : fitA fs ys j = true) : ∀ i, i < j + 1 → fitA fs ys i = true := fun i hi => by
  rcases Nat.lt_or_ge i j with h' | h'
  · exact h i h'
  · obtain rfl : i = j := by omega
    exact hj
theorem take_yes {fs : List Nat} {ys : List Ar} (h0 : ys.length ≠ 0) (hl : ys.length = fs.length) (h : ∀ i, i < ys.length → fitA fs ys i = true) : takeB fs ys = true := by
  simp only [takeB, Bool.and_eq_true, decide_eq_true_eq, List.all_eq_true, List.mem_range]
  exact ⟨⟨h0, hl⟩, h⟩
theorem take_no {fs : List Nat} {ys : List Ar} {j : Nat} (hj : j < ys.length) (h : fitA fs ys j = false) : takeB fs ys = false := by
  rw [Bool.eq_false_iff]
  intro ht
  simp only [takeB, Bool.and_eq_true, decide_eq_true_eq, List.all_eq_true, List.mem_range] at ht
  rw [ht.2 j hj] at h
  cases h
/-- The operands are as the tables say of a number. -/
def okA (i : Nat) (ys : List Ar) : Bool := takeB (fm0 i) ys || takeB (fm1 i) ys
/-- A contact or coil as a value. -/
abbrev elemV (op : Int) (p : Option Addr) (n cap : Nat) : Value := .agg #[.int .i64 op, .slice p n cap]
def conB (op : Int) (ys : List Ar) : Bool := decide (nm (ez op) = []) && okA (ez op) ys
def coilB (op : Int) (ys : List Ar) : Bool := decide (nm (ez op) ≠ []) && okA (ez op) ys
theorem elem_at {w w1 : World} {op : Int} {p : Option Addr} {n cap : Nat} (hb : Below (w.alloc (.cells #[.int .i64 op, .slice p n cap] 40)).heap.size (w.alloc (.cells #[.int .i64 op, .slice p n cap] 40)) w1) (o : Obj) :
    (w1.alloc o).cell? ⟨w.heap.size, 1, none⟩ = some (.slice p n cap) := by
  have h := hb.cell (p := ⟨w.heap.size, 1, none⟩) (by simp)
  rw [World.cell?_alloc_lt _ _ _ (Nat.lt_of_lt_of_le (by simp) hb.size), h, World.cell?_alloc_mark]
  rfl
end Go.Proofs.YtmgjngihngddfaaGreatDoor

/- An operand in memory of the call's own. Helper text: no statement is claimed here. -/
namespace Go.Proofs.YtmgjngihngddfaaGreatDoor
open Go.ChangeShapes Go.WideShapes Go.ChangeAt Go.RowKit

/-- A result of type DevArg that lies in memory. -/
theorem resArg {fn : Func} {W : World} {b p : Nat} {tmps : Array Value} {x y z : Value} (h : fn.results = #[.cell p 48]) (hp : tmps.getD p undef = .pointer (some ⟨b, 0, none⟩))
    (hc : W.cell? ⟨b, 0, none⟩ = some x ∧ W.cell? ⟨b, 1, none⟩ = some y ∧ W.cell? ⟨b, 2, none⟩ = some z) : (results fn tmps).run Tryz.prog W = .ok (.agg #[x, y, z]) W := by
  obtain ⟨h0, h1, h2⟩ := hc
  simp only [results, h]
  simp [go_sem]
  rw [show tmps[p]?.getD undef = .pointer (some ⟨b, 0, none⟩) by simpa [Array.getD_eq_getD_getElem?] using hp]
  simp [go_sem, h0, h1, h2]
theorem put3 {w1 : World} {b : Nat} {x y z u0 u1 u2 : Value} (hc : w1.cell? ⟨b, 0, none⟩ = some u0 ∧ w1.cell? ⟨b, 1, none⟩ = some u1 ∧ w1.cell? ⟨b, 2, none⟩ = some u2) :
    (((w1.setCell ⟨b, 0, none⟩ x).setCell ⟨b, 1, none⟩ y).setCell ⟨b, 2, none⟩ z).cell? ⟨b, 0, none⟩ = some x ∧ (((w1.setCell ⟨b, 0, none⟩ x).setCell ⟨b, 1, none⟩ y).setCell ⟨b, 2, none⟩ z).cell? ⟨b, 1, none⟩ = some y ∧ (((w1.setCell ⟨b, 0, none⟩ x).setCell ⟨b, 1, none⟩ y).setCell ⟨b, 2, none⟩ z).cell? ⟨b, 2, none⟩ = some z := by
  obtain ⟨h0, h1, h2⟩ := hc
  have e1 : (w1.setCell ⟨b, 0, none⟩ x).cell? ⟨b, 1, none⟩ = some u1 := by rw [World.cell?_setCell_other _ _ _ _ (by simp)]; exact h1
  have e2 : ((w1.setCell ⟨b, 0, none⟩ x).setCell ⟨b, 1, none⟩ y).cell? ⟨b, 2, none⟩ = some u2 := by rw [World.cell?_setCell_other _ _ _ _ (by simp), World.cell?_setCell_other _ _ _ _ (by simp)]; exact h2
  refine ⟨?_, ?_, World.cell?_setCell_same _ _ _ e2⟩
  · rw [World.cell?_setCell_other _ _ _ _ (by simp), World.cell?_setCell_other _ _ _ _ (by simp)]; exact World.cell?_setCell_same _ _ _ h0
  · rw [World.cell?_setCell_other _ _ _ _ (by simp)]; exact World.cell?_setCell_same _ _ _ e1
/-- A DevArg of the call's own lies in block b. -/
def Own (w : World) (b : Nat) (x y z : Value) : Prop :=
  (w.cell? ⟨b, 0, none⟩ = some x ∧ w.cell? ⟨b, 1, none⟩ = some y ∧ w.cell? ⟨b, 2, none⟩ = some z) ∧ w.frozen? ⟨b, 0, none⟩ = false ∧ w.frozen? ⟨b, 1, none⟩ = false ∧ w.frozen? ⟨b, 2, none⟩ = false
theorem Own.new (w : World) (x y z : Value) : Own (w.alloc (.cells #[x, y, z] 48)) w.heap.size x y z := by
  refine ⟨⟨?_, ?_, ?_⟩, ?_, ?_, ?_⟩ <;> simp [go_sem]
theorem Own.lt {w : World} {b : Nat} {x y z : Value} (h : Own w b x y z) : b < w.heap.size := World.block_lt_of_cell? w ⟨b, 0, none⟩ h.1.1
theorem Own.below {w w' : World} {b : Nat} {x y z : Value} (h : Own w b x y z) (hb : Below w.heap.size w w') : Own w' b x y z := by
  have hlt := h.lt
  unfold Own
  rw [hb.cell (p := ⟨b, 0, none⟩) hlt, hb.cell (p := ⟨b, 1, none⟩) hlt, hb.cell (p := ⟨b, 2, none⟩) hlt, hb.frozen (p := ⟨b, 0, none⟩) hlt, hb.frozen (p := ⟨b, 1, none⟩) hlt, hb.frozen (p := ⟨b, 2, none⟩) hlt]
  exact h
theorem Own.alloc {b : Nat} {w : World} {x y z : Value} (h : Own w b x y z) (o : Obj) : Own (w.alloc o) b x y z := h.below (one w o)
theorem Own.put {w : World} {b : Nat} {x y z : Value} (h : Own w b x y z) (x' y' z' : Value) : Own (((w.setCell ⟨b, 0, none⟩ x').setCell ⟨b, 1, none⟩ y').setCell ⟨b, 2, none⟩ z') b x' y' z' :=
  ⟨put3 h.1, by rw [World.frozen?_setCell, World.frozen?_setCell, World.frozen?_setCell]; exact h.2.1, by rw [World.frozen?_setCell, World.frozen?_setCell, World.frozen?_setCell]; exact h.2.2.1, by rw [World.frozen?_setCell, World.frozen?_setCell, World.frozen?_setCell]; exact h.2.2.2⟩
theorem Own.set {w : World} {b c i : Nat} {x y z v : Value} (h : Own w b x y z) (hc : c ≠ b) : Own (w.setCell ⟨c, i, none⟩ v) b x y z := by
  unfold Own
  rw [World.cell?_setCell_other w ⟨c, i, none⟩ ⟨b, 0, none⟩ _ (by simp <;> omega), World.cell?_setCell_other w ⟨c, i, none⟩ ⟨b, 1, none⟩ _ (by simp <;> omega), World.cell?_setCell_other w ⟨c, i, none⟩ ⟨b, 2, none⟩ _ (by simp <;> omega), World.frozen?_setCell, World.frozen?_setCell, World.frozen?_setCell]
  exact h
end Go.Proofs.YtmgjngihngddfaaGreatDoor

/- The document's operands of a contact or coil: l5Arg. Helper text: no statement is claimed here. -/
namespace Go.Proofs.YtmgjngihngddfaaGreatDoor
open Go.ChangeShapes Go.WideShapes Go.ChangeAt Go.RowKit

/-- An operand as a value. -/
abbrev arV (a : Ar) : Value := .agg #[.int .i64 a.1, .int .i64 a.2.1, .int .i64 a.2.2]
theorem at3_no {ys : List Ar} {i : Nat} (h : ys.length ≤ i) : at3 ys i = (0, 0, 0) := by
  unfold at3
  rw [List.getD_eq_getElem?_getD, List.getElem?_eq_none h]
  rfl

set_option maxHeartbeats 1000000 in
set_option maxRecDepth 100000 in
theorem l5Arg_any (op : Int) (ys : List Ar) (p : Option Addr) (cap i : Nat) (w : World) (hA : ArgsIs w p ys) :
    Calls Tryz.prog 19 #[elemV op p ys.length cap, .int .i64 (i : Int)] w fun e w' => e = .returned (arV (at3 ys i)) ∧ Below w.heap.size w w' := by
  by_cases h : i < ys.length
  · obtain ⟨b, rfl, hb, hAt⟩ : ∃ b, p = some ⟨b, 0, none⟩ ∧ b < w.heap.size ∧ ArgsAt w b ys := by
      rcases hA with h0 | h1
      · rw [h0] at h; simp at h
      · exact h1
    have hc := hAt i h
    have hlt : (i : Int) < (ys.length : Int) := by omega
    generalize at3 ys i = y at hc ⊢
    obtain ⟨c0, c1, c2⟩ := hc
    clear hAt hA
    go_enter Tryz.func19, Tryz.ntmps19
    go_wp2_with fail
    exact bodyPost_ret (v := arV y) (resArg Tryz.results19 rfl ⟨by simp [go_sem], by simp [go_sem], by simp [go_sem]⟩) rfl ⟨rfl, ((Below.refl _ _).alloc (Nat.le_refl _) _).alloc (by simp) _⟩
  · rw [at3_no (by omega)]
    have hlt : ¬ (i : Int) < (ys.length : Int) := by omega
    clear hA
    go_enter Tryz.func19, Tryz.ntmps19
    go_wp2_with fail
    exact bodyPost_ret (v := arV (0, 0, 0)) (resArg Tryz.results19 rfl ⟨by simp [go_sem], by simp [go_sem], by simp [go_sem]⟩) rfl ⟨rfl, ((Below.refl _ _).alloc (Nat.le_refl _) _).alloc (by simp) _⟩
end Go.Proofs.YtmgjngihngddfaaGreatDoor

/- The region of ActDo in which a part is made and lets do what it does. Helper text: no statement is claimed here. -/
namespace Go.Proofs.YtmgjngihngddfaaGreatDoor
open Go.ChangeShapes Go.WideShapes Go.ChangeAt Go.RowKit

/-- A call through an interface. -/
theorem wp_callInvoke {o : Oper} {a : Act} {w : World} {K : Act → World → Prop} {Q : Exit → Act → World → Prop} {f : FuncId} {x : Operand} {name : String} {xs : Array Operand} {ts : Array TypeId} {t : TypeId} {dv r v : Value} {R : World → Prop} (hf : ∀ (xs : Array Value) (w : World), (callFunc f xs).run Tryz.prog w = .ok (.enter f xs) w)
    (hme : ∀ w, (method 256 t dv name).run Tryz.prog w = .ok (f, r) w) (ho : o.op = .call { callee := .invoke x name, args := xs, argTypes := ts }) (hx : a.eval x = .iface t dv)
    {args : Array Value} (ha : #[r] ++ xs.map a.eval = args) (hC : Calls Tryz.prog f args w fun e w' => e = .returned v ∧ R w') (hk : ∀ w', R w' → K (a.put o.dst v) w') : o.wp Tryz.prog a w K Q := by
  subst ha
  have hq : ∀ E : Operand → Value, E x = .iface t dv → (execOp E o).run Tryz.prog w = .ok (.enter f (#[r] ++ xs.map E)) w := fun E hE => by
    unfold execOp
    rw [ho]
    have h0 : (#[Value.iface t dv] ++ Array.map E xs)[0]? = some (.iface t dv) := by rw [Array.getElem?_append_left (by simp)]; rfl
    have h1 : (Array.map E xs).extract 0 xs.size = Array.map E xs := by rw [show xs.size = (Array.map E xs).size by simp]; exact Array.extract_size
    simp [go_sem, resolve, hE, h0, h1]
    simp [hme, hf]
  have he := hq a.eval hx
  unfold Oper.wp
  rw [he, Oper.upon_enter]
  refine hC.mono ?_
  rintro e w' ⟨rfl, h⟩
  exact hk w' h

/-- The same, where the walk stands still ahead of the method that is looked up. -/
theorem upon_invoke {o : Oper} {a : Act} {w : World} {K : Act → World → Prop} {Q : Exit → Act → World → Prop} {F : Nat} {f : FuncId} {name : String} {t : TypeId} {dv r v : Value} {R : World → Prop} {g : Value → Array Value} (hme : (method F t dv name).run Tryz.prog w = .ok (f, r) w) (hf : ∀ (xs : Array Value) (w : World), (callFunc f xs).run Tryz.prog w = .ok (.enter f xs) w)
    (hC : Calls Tryz.prog f (g r) w fun e w' => e = .returned v ∧ R w') (hk : ∀ w', R w' → K (a.put o.dst v) w') : o.upon Tryz.prog a K Q ((Sem.run Tryz.prog (method F t dv name) w).andThen fun b w' => Sem.run Tryz.prog (callFunc b.fst (g b.snd)) w') := by
  rw [hme, Result.andThen_ok, hf, Oper.upon_enter]
  refine hC.mono ?_
  rintro e w' ⟨rfl, h⟩
  exact hk w' h

theorem wp_storeMemV {o : Oper} {a : Act} {w : World} {K : Act → World → Prop} {Q : Exit → Act → World → Prop} {b : Nat} {m : Mm} (x y : Operand) (ho : o.op = .store 37 x y) (hx : a.eval x = .pointer (some ⟨b, 0, none⟩)) (hy : a.eval y = m.val) {f : Nat → Value} (hR : RowAt w b 37 136 f)
    (hk : ∀ w2, MemAt w2 b m → (∀ j, j ≠ b → w2.heap[j]? = w.heap[j]?) → (∀ B a, Below B a w → B ≤ b → Below B a w2) → K (a.put o.dst undef) w2) : o.wp Tryz.prog a w K Q := by
  obtain ⟨w2, hs, hR2, hz2, hk2, hb2⟩ := hR.store 0 136 m.cell m.cell (by omega) (fun i _ => cell_one m i) (fun i hi => by rw [if_pos ⟨by omega, by omega⟩, Nat.sub_zero])
  have hv : (storeVar 37 ⟨b, 0, none⟩ m.val).run Tryz.prog w = .ok () w2 := storeVar_row (by kernel_rfl) hs
  unfold Oper.wp execOp
  rw [ho]
  simp only [hx, hy, Instr.storeAt, Instr.sureAddr, Sem.run_bind, Sem.run_pure, Result.andThen_ok, hv]
  exact hk w2 hR2 hk2 hb2

set_option maxHeartbeats 1000000 in
set_option maxRecDepth 100000 in
theorem do_region {id : Nat} {pos name : String} {TP TB TU TD : TypeId} {f1 fm : FuncId} {Q : Exit → Act → World → Prop} {w : World} {t0 t1 t6 t7 t9 t10 t11 t12 t13 t14 t15 v d dv : Value} {b4 b5 b8 n cap : Nat} {p : Option Addr} {op : Int} {m m' : Mm} {D : List _}
    (hf1 : ∀ (xs : Array Value) (w : World), (callFunc f1 xs).run Tryz.prog w = .ok (.enter f1 xs) w) (hfm : ∀ (xs : Array Value) (w : World), (callFunc fm xs).run Tryz.prog w = .ok (.enter fm xs) w) (hme : ∀ w, (method 256 TD dv name).run Tryz.prog w = .ok (fm, dv) w)
    (hM : MemAt w b4 m) (hE : w.rangeAt b5 0 [.int .i64 op, .slice p n cap]) (h5 : b5 < w.heap.size) (hR : MemAt w b8 zeroM) (n4 : b4 ≠ b8) (n5 : b5 ≠ b8)
    (h1 : ∀ W, Below w.heap.size w W → Calls Tryz.prog f1 #[.agg #[.int .i64 op, .slice p n cap]] W fun e w' => e = .returned (.iface TD dv) ∧ Below W.heap.size W w')
    (h2 : ∀ W, Below w.heap.size w W → Calls Tryz.prog fm #[dv, m.val, v, d] W fun e w' => e = .returned m'.val ∧ Below W.heap.size W w')
    (hQ : ∀ w', MemAt w' b8 m' → MemAt w' b4 m → (∀ B a, Below B a w → B ≤ b8 → B ≤ w.heap.size → Below B a w') → Q .normal { tmps := #[t0, t1, v, d, .pointer (some ⟨b4, 0, none⟩), .pointer (some ⟨b5, 0, none⟩), t6, t7, .pointer (some ⟨b8, 0, none⟩), t9, .agg #[.int .i64 op, .slice p n cap], .iface TD dv, m.val, v, d, m'.val], defers := D } w') :
    (Code.region id #[{ dst := some 10, op := .load 40 (.tmp 5), type := 40, pos := pos, after := #[], guard := none }, { dst := some 11, op := .call { callee := .value (.func f1), args := #[.tmp 10], argTypes := #[40] }, type := TP, pos := pos, after := #[{ on := 0, ground := .data }], guard := none }, { dst := some 12, op := .load 37 (.tmp 4), type := 37, pos := pos, after := #[], guard := none }, { dst := some 13, op := .move (.tmp 2), type := TB, pos := pos, after := #[], guard := none }, { dst := some 14, op := .move (.tmp 3), type := TU, pos := pos, after := #[], guard := none }, { dst := some 15, op := .call { callee := .invoke (.tmp 11) name, args := #[.tmp 12, .tmp 13, .tmp 14], argTypes := #[37, TB, TU] }, type := 37, pos := pos, after := #[{ on := 1, ground := .data }, { on := 2, ground := .data }, { on := 3, ground := .data }, { on := 4, ground := .data }, { on := 1, ground := .chain }], guard := none }, { dst := none, op := .store 37 (.tmp 8) (.tmp 15), type := 0, pos := pos, after := #[{ on := 5, ground := .data }, { on := 5, ground := .chain }, { on := 0, ground := .phase }, { on := 1, ground := .phase }, { on := 2, ground := .phase }, { on := 3, ground := .phase }, { on := 4, ground := .phase }, { on := 5, ground := .phase }], guard := none }] true).wp Tryz.prog Q { tmps := #[t0, t1, v, d, .pointer (some ⟨b4, 0, none⟩), .pointer (some ⟨b5, 0, none⟩), t6, t7, .pointer (some ⟨b8, 0, none⟩), t9, t10, t11, t12, t13, t14, t15], defers := D } w := by
  have hEW : ∀ W, Below w.heap.size w W → W.rangeAt b5 0 [.int .i64 op, .slice p n cap] := fun W hb j u hu => by
    rw [hb.cell (p := ⟨b5, 0 + j, none⟩) h5]; exact hE j u hu
  refine wp_region_noPanic ?_
  refine wp_region_held_drew (S := fun W => MemAt W b4 m ∧ W.rangeAt b5 0 [.int .i64 op, .slice p n cap]) (by kernel_rfl) ⟨hM.to (Below.refl _ _).drew, hEW _ (Below.refl _ _).drew⟩ (fun hHeld => ?_)
  refine wpAnyH_take (i := 0) (oi := { dst := some 10, op := .load 40 (.tmp 5), type := 40, pos := pos, after := #[], guard := none }) (v := .agg #[.int .i64 op, .slice p n cap]) rfl (by kernel_rfl) (by kernel_rfl) (by kernel_rfl) (fun _ _ _ h => h) (yieldsIf_load_mid (by rfl) _ _ rfl b5 0 rfl [.int .i64 op, .slice p n cap] _ (fun _ h => h.2) Tryz.underlying40 rfl (by kernel_rfl)) hHeld ?_
  simp only [Act.put, List.setIfInBounds_toArray, List.set_cons_zero, List.set_cons_succ]
  refine wpAnyH_take (i := 2) (oi := { dst := some 12, op := .load 37 (.tmp 4), type := 37, pos := pos, after := #[], guard := none }) (v := m.val) rfl (by kernel_rfl) (by kernel_rfl) (by kernel_rfl) (fun _ _ _ h => h) (yields_row (by rfl) (.tmp 4) rfl rfl (fun W hb => hb.1) Tryz.underlying37 rfl (by kernel_rfl)) hHeld ?_
  simp only [Act.put, List.setIfInBounds_toArray, List.set_cons_zero, List.set_cons_succ]
  refine wpAnyH_take (i := 3) (oi := { dst := some 13, op := .move (.tmp 2), type := TB, pos := pos, after := #[], guard := none }) (v := v) rfl (by kernel_rfl) (by kernel_rfl) (by kernel_rfl) (fun _ _ _ h => h) (.inl ⟨by rfl, fun _ _ => rfl⟩) hHeld ?_
  simp only [Act.put, List.setIfInBounds_toArray, List.set_cons_zero, List.set_cons_succ]
  refine wpAnyH_take (i := 4) (oi := { dst := some 14, op := .move (.tmp 3), type := TU, pos := pos, after := #[], guard := none }) (v := d) rfl (by kernel_rfl) (by kernel_rfl) (by kernel_rfl) (fun _ _ _ h => h) (.inl ⟨by rfl, fun _ _ => rfl⟩) hHeld ?_
  simp only [Act.put, List.setIfInBounds_toArray, List.set_cons_zero, List.set_cons_succ]
  refine wpAnyH_ready (rs := [1]) (by kernel_rfl) (by simp) ?_
  refine AllReadyH.cons (o := { dst := some 11, op := .call { callee := .value (.func f1), args := #[.tmp 10], argTypes := #[40] }, type := TP, pos := pos, after := #[{ on := 0, ground := .data }], guard := none }) rfl (fun K hK => ?_) AllReadyH.nil
  rw [if_pos (by rfl)]
  refine wp_callGo (args := #[.agg #[.int .i64 op, .slice p n cap]]) hf1 rfl (by simp [Act.eval]) (h1 _ (Below.refl _ _).drew) ?_
  intro w1 hb1
  have hl1 : Below w.heap.size w w1 := (Below.refl _ _).drew.trans (hb1.mono (Nat.le_refl _))
  refine hK.out _ _ ⟨hM.to hl1, hEW _ hl1⟩ (fun hHeld => ?_)
  simp only [Act.put, List.setIfInBounds_toArray, List.set_cons_zero, List.set_cons_succ]
  refine wpAnyH_ready (rs := [5]) (by kernel_rfl) (by simp) ?_
  refine AllReadyH.cons (o := { dst := some 15, op := .call { callee := .invoke (.tmp 11) name, args := #[.tmp 12, .tmp 13, .tmp 14], argTypes := #[37, TB, TU] }, type := 37, pos := pos, after := #[{ on := 1, ground := .data }, { on := 2, ground := .data }, { on := 3, ground := .data }, { on := 4, ground := .data }, { on := 1, ground := .chain }], guard := none }) rfl (fun K hK => ?_) AllReadyH.nil
  rw [if_pos (by rfl)]
  refine wp_callInvoke (args := #[dv, m.val, v, d]) hfm hme rfl (by simp [Act.eval]) (by simp [Act.eval]) (h2 _ hl1) ?_
  intro w2 hb2
  have hl2 : Below w.heap.size w w2 := hl1.trans (hb2.mono hl1.size)
  refine hK.out _ _ ⟨hM.to hl2, hEW _ hl2⟩ (fun hHeld => ?_)
  simp only [Act.put, List.setIfInBounds_toArray, List.set_cons_zero, List.set_cons_succ]
  refine wpAnyH_ready (rs := [6]) (by kernel_rfl) (by simp) (AllReadyH.cons (o := { dst := none, op := .store 37 (.tmp 8) (.tmp 15), type := 0, pos := pos, after := #[{ on := 5, ground := .data }, { on := 5, ground := .chain }, { on := 0, ground := .phase }, { on := 1, ground := .phase }, { on := 2, ground := .phase }, { on := 3, ground := .phase }, { on := 4, ground := .phase }, { on := 5, ground := .phase }], guard := none }) rfl (fun K hK => ?_) AllReadyH.nil)
  rw [if_pos (by rfl)]
  with_reducible refine wp_storeMemV (m := m') (b := b8) (.tmp 8) (.tmp 15) ?_ ?_ ?_ (hR.to hl2) ?_
  · rfl
  · simp [Act.eval]
  · simp [Act.eval]
  intro w3 HM3 hk3 hb3
  have h4 : MemAt w3 b4 m := RowAt.by (hM.to hl2) (hk3 b4 n4)
  have h5' : w3.rangeAt b5 0 [.int .i64 op, .slice p n cap] := fun j u hu => by
    rw [World.cell?_of_block (w := w2) (a := ⟨b5, 0 + j, none⟩) (hk3 b5 n5)]; exact hEW _ hl2 j u hu
  refine hK.out _ _ ⟨h4, h5'⟩ (fun hHeld => ?_)
  have hd := hQ w3 HM3 h4 (fun B a hb hB hB' => hb3 _ _ (hb.trans (hl2.mono hB')) hB)
  simp only [Act.put]
  refine wpAnyH_done ?_ ?_ _
  · kernel_rfl
  · exact NoPanic.normal hd
end Go.Proofs.YtmgjngihngddfaaGreatDoor

/- A contact or coil in memory of the call's own. Helper text: no statement is claimed here. -/
namespace Go.Proofs.YtmgjngihngddfaaGreatDoor
open Go.ChangeShapes Go.WideShapes Go.ChangeAt Go.RowKit

theorem resElem {fn : Func} {W : World} {b p : Nat} {tmps : Array Value} {x y : Value} (h : fn.results = #[.cell p 40]) (hp : tmps.getD p undef = .pointer (some ⟨b, 0, none⟩))
    (hc : W.cell? ⟨b, 0, none⟩ = some x ∧ W.cell? ⟨b, 1, none⟩ = some y) : (results fn tmps).run Tryz.prog W = .ok (.agg #[x, y]) W := by
  obtain ⟨h0, h1⟩ := hc
  simp only [results, h]
  simp [go_sem]
  rw [show tmps[p]?.getD undef = .pointer (some ⟨b, 0, none⟩) by simpa [Array.getD_eq_getD_getElem?] using hp]
  simp [go_sem, h0, h1]
theorem put2 {w1 : World} {b : Nat} {x y u0 u1 : Value} (hc : w1.cell? ⟨b, 0, none⟩ = some u0 ∧ w1.cell? ⟨b, 1, none⟩ = some u1) :
    ((w1.setCell ⟨b, 0, none⟩ x).setCell ⟨b, 1, none⟩ y).cell? ⟨b, 0, none⟩ = some x ∧ ((w1.setCell ⟨b, 0, none⟩ x).setCell ⟨b, 1, none⟩ y).cell? ⟨b, 1, none⟩ = some y := by
  obtain ⟨h0, h1⟩ := hc
  have e1 : (w1.setCell ⟨b, 0, none⟩ x).cell? ⟨b, 1, none⟩ = some u1 := by rw [World.cell?_setCell_other _ _ _ _ (by simp)]; exact h1
  refine ⟨?_, World.cell?_setCell_same _ _ _ e1⟩
  rw [World.cell?_setCell_other _ _ _ _ (by simp)]; exact World.cell?_setCell_same _ _ _ h0
/-- An Elem of the call's own lies in block b. -/
def Own2 (w : World) (b : Nat) (x y : Value) : Prop := (w.cell? ⟨b, 0, none⟩ = some x ∧ w.cell? ⟨b, 1, none⟩ = some y) ∧ w.frozen? ⟨b, 0, none⟩ = false ∧ w.frozen? ⟨b, 1, none⟩ = false
theorem Own2.new (w : World) (x y : Value) : Own2 (w.alloc (.cells #[x, y] 40)) w.heap.size x y := by
  refine ⟨⟨?_, ?_⟩, ?_, ?_⟩ <;> simp [go_sem]
theorem Own2.lt {w : World} {b : Nat} {x y : Value} (h : Own2 w b x y) : b < w.heap.size := World.block_lt_of_cell? w ⟨b, 0, none⟩ h.1.1
theorem Own2.below {w w' : World} {b : Nat} {x y : Value} (h : Own2 w b x y) (hb : Below w.heap.size w w') : Own2 w' b x y := by
  have hlt := h.lt
  unfold Own2
  rw [hb.cell (p := ⟨b, 0, none⟩) hlt, hb.cell (p := ⟨b, 1, none⟩) hlt, hb.frozen (p := ⟨b, 0, none⟩) hlt, hb.frozen (p := ⟨b, 1, none⟩) hlt]
  exact h
theorem Own2.alloc {b : Nat} {w : World} {x y : Value} (h : Own2 w b x y) (o : Obj) : Own2 (w.alloc o) b x y := h.below (one w o)
theorem Own2.put {w : World} {b : Nat} {x y : Value} (h : Own2 w b x y) (x' y' : Value) : Own2 ((w.setCell ⟨b, 0, none⟩ x').setCell ⟨b, 1, none⟩ y') b x' y' :=
  ⟨put2 h.1, by rw [World.frozen?_setCell, World.frozen?_setCell]; exact h.2.1, by rw [World.frozen?_setCell, World.frozen?_setCell]; exact h.2.2⟩
theorem Own2.set {w : World} {b c i : Nat} {x y v : Value} (h : Own2 w b x y) (hc : c ≠ b) : Own2 (w.setCell ⟨c, i, none⟩ v) b x y := by
  unfold Own2
  rw [World.cell?_setCell_other w ⟨c, i, none⟩ ⟨b, 0, none⟩ _ (by simp <;> omega), World.cell?_setCell_other w ⟨c, i, none⟩ ⟨b, 1, none⟩ _ (by simp <;> omega), World.frozen?_setCell, World.frozen?_setCell]
  exact h
/-- The cells of operands in a row. -/
def arCells (ys : List Ar) : List Value := ys.flatMap fun a => [.int .i64 a.1, .int .i64 a.2.1, .int .i64 a.2.2]
theorem arCells_at : ∀ (ys : List Ar) (i : Nat), i < ys.length → (arCells ys)[i * 3]? = some (.int .i64 (at3 ys i).1) ∧ (arCells ys)[i * 3 + 1]? = some (.int .i64 (at3 ys i).2.1) ∧ (arCells ys)[i * 3 + 2]? = some (.int .i64 (at3 ys i).2.2)
  | [], i, h => by simp at h
  | a :: l, 0, _ => by simp [arCells, at3]
  | a :: l, i + 1, h => by
    have ih := arCells_at l i (by simpa using h)
    rw [show (i + 1) * 3 = i * 3 + 1 + 1 + 1 by omega]
    simpa [arCells, at3] using ih
theorem arCells_len (ys : List Ar) : (arCells ys).length = ys.length * 3 := by
  induction ys with
  | nil => rfl
  | cons a l ih => simp only [arCells, List.flatMap_cons, List.length_append, List.length_cons, List.length_nil] at ih ⊢; omega
theorem argsAt_new (w : World) (ys : List Ar) (t : TypeId) : ArgsAt (w.alloc (.cells (arCells ys).toArray t)) w.heap.size ys := fun i hi => by
  obtain ⟨a, b, c⟩ := arCells_at ys i hi
  refine ⟨?_, ?_, ?_⟩ <;> rw [World.cell?_alloc_mark] <;> simpa
theorem ArgsAt.set {w : World} {b c i : Nat} {v : Value} {ys : List Ar} (h : ArgsAt w b ys) (hc : c ≠ b) : ArgsAt (w.setCell ⟨c, i, none⟩ v) b ys := fun j hj => by
  rw [World.cell?_setCell_other w ⟨c, i, none⟩ ⟨b, _, none⟩ _ (by simp <;> omega), World.cell?_setCell_other w ⟨c, i, none⟩ ⟨b, _, none⟩ _ (by simp <;> omega), World.cell?_setCell_other w ⟨c, i, none⟩ ⟨b, _, none⟩ _ (by simp <;> omega)]
  exact h j hj
theorem Own.set1 {w : World} {b : Nat} {x y z : Value} (h : Own w b x y z) (v : Value) : Own (w.setCell ⟨b, 1, none⟩ v) b x v z := by
  unfold Own
  rw [World.cell?_setCell_other w ⟨b, 1, none⟩ ⟨b, 0, none⟩ _ (by simp), World.cell?_setCell_other w ⟨b, 1, none⟩ ⟨b, 2, none⟩ _ (by simp), World.cell?_setCell_same w ⟨b, 1, none⟩ _ h.1.2.1, World.frozen?_setCell, World.frozen?_setCell, World.frozen?_setCell]
  exact ⟨⟨h.1.1, rfl, h.1.2.2⟩, h.2⟩
end Go.Proofs.YtmgjngihngddfaaGreatDoor

/- Quiet steps at whole memories. Helper text: no statement is claimed here. -/
namespace Go.Proofs.YtmgjngihngddfaaGreatDoor
open Go.ChangeShapes Go.WideShapes Go.ChangeAt Go.RowKit

theorem loadMemY {W : World} {b : Nat} {m : Mm} (h : MemAt W b m) : (loadVar 37 ⟨b, 0, none⟩).run Tryz.prog W = .ok m.val W := by
  have := run_loadVar_mid (P := Tryz.prog) W b 0 37 m.cells.toList _ h.range Tryz.underlying37 rfl (by rw [Array.length_toList, cells_size]; kernel_rfl)
  rwa [Array.toArray_toList] at this
/-- A whole memory is read, in every world of the class. -/
theorem wpQuiet_memLoad {ops : Array Oper} {C : World → Prop} {Q : Act → Prop} {rest : List Oper} {o : Oper} {a : Act} {b : Nat} {m : Mm} (hw : Region.wanted o (yielded ops a.tmps) = true) (x : Operand) (ho : o.op = .load 37 x) (hx : a.eval x = .pointer (some ⟨b, 0, none⟩))
    (hC : ∀ w', C w' → MemAt w' b m) (h : wpQuiet Tryz.prog ops C Q rest (a.put o.dst m.val)) : wpQuiet Tryz.prog ops C Q (o :: rest) a := by
  unfold wpQuiet
  rw [if_pos hw]
  refine ⟨m.val, fun w hw' => ?_, h⟩
  unfold Oper.quietAt execOp
  rw [ho]
  simp only [hx, Instr.loadAt, Instr.sureAddr, Sem.run_bind, Sem.run_pure, Result.andThen_ok, loadMemY (hC w hw')]
  exact ⟨rfl, rfl⟩
/-- A memory that lay there lies there in every world of the class. -/
theorem memY {w : World} {b : Nat} {m : Mm} (h : MemAt w b m) : ∀ w', (∃ p : Regrown, w' = Sort.grow (redrawn w p.d) p.os) → MemAt w' b m := by
  rintro w' ⟨p, rfl⟩
  exact h.to (below_regrown w p.d p.os)
/-- A contract that ends in Below, in every world of the class. -/
theorem callY {w : World} {f : FuncId} {args : Array Value} {v : Value} (h : ∀ W, Below w.heap.size w W → Calls Tryz.prog f args W fun e w' => e = .returned v ∧ Below W.heap.size W w') (d : Nat) (os : Array Obj) :
    Calls Tryz.prog f args (Sort.grow (redrawn w d) os) fun e w'' => e = .returned v ∧ ∃ p : Regrown, w'' = Sort.grow (redrawn w p.d) p.os :=
  Calls.regrown_of (h _ (below_regrown w d os))
end Go.Proofs.YtmgjngihngddfaaGreatDoor
