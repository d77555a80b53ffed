/- The texts of contacts and coils, as plain lists. Helper text: no statement is claimed here. -/
import Derived.Test.YtlddkhhaclfmiaaGreatDoorP06
import Derived.Lib.Join
import Derived.Test.YtlddkhhaclfmiaaGreatDoorP04
import Derived.Test.YtlddkhhaclfmiaaGreatDoorP03
import Derived.Test.YtlddkhhaclfmiaaGreatDoorP01
import Derived.Test.YtlddkhhaclfmiaaGreatDoorP05
namespace Go.Proofs.YtlddkhhaclfmiaaGreatDoor
open Go.ChangeShapes Go.WideShapes Go.ChangeAt Go.RowKit

/-- The text of an operand, as a triple. -/
def tx (a : Ar) : List UInt8 := txt a.1 a.2.1 a.2.2
/-- The text of a contact or coil. -/
def eT (op : Int) (ys : List Ar) : List UInt8 := if okA (ez op) ys then ah (ez op) ++ Lib.join (ys.map tx) (bt (ez op)) else []

theorem join_len (sep : List UInt8) (hs : sep.length ≤ 2) : ∀ ys : List Ar, (Lib.join (ys.map tx) sep).length ≤ ys.length * 102
  | [] => by simp [Lib.join]
  | [a] => by
    have := txt_len a.1 a.2.1 a.2.2
    simp [Lib.join, tx]; omega
  | a :: b :: l => by
    have h1 := join_len sep hs (b :: l)
    have h2 : (tx a).length ≤ 100 := txt_len a.1 a.2.1 a.2.2
    have e : Lib.join ((a :: b :: l).map tx) sep = tx a ++ sep ++ Lib.join ((b :: l).map tx) sep := by simp [Lib.join, List.intercalate]
    rw [e]
    simp only [List.length_append, List.length_cons] at h1 ⊢
    omega
theorem keepc {V w1 : World} (hb : Below V.heap.size V w1) {b i : Nat} {v : Value} (h : V.cell? ⟨b, i, none⟩ = some v) : w1.cell? ⟨b, i, none⟩ = some v := (hb.cell (p := ⟨b, i, none⟩) (World.block_lt_of_cell? V ⟨b, i, none⟩ h)).trans h

end Go.Proofs.YtlddkhhaclfmiaaGreatDoor

/- ElemArity of the document. Helper text: no statement is claimed here. -/
namespace Go.Proofs.YtlddkhhaclfmiaaGreatDoor
open Go.ChangeShapes Go.WideShapes Go.ChangeAt Go.RowKit

set_option maxHeartbeats 4000000 in
theorem sArity_any (op : Int) (w : World) :
    Calls Tryz.prog 63 #[.int .i64 op] w fun e w' => e = .returned (.int .i64 ((fm0 (ez op)).length : Nat)) ∧ w' = w := by
  by_cases h : 0 ≤ op ∧ op < 38
  · have : op = 0 ∨ op = 1 ∨ op = 2 ∨ op = 3 ∨ op = 4 ∨ op = 5 ∨ op = 6 ∨ op = 7 ∨ op = 8 ∨ op = 9 ∨ op = 10 ∨ op = 11 ∨ op = 12 ∨ op = 13 ∨ op = 14 ∨ op = 15 ∨ op = 16 ∨ op = 17 ∨ op = 18 ∨ op = 19 ∨ op = 20 ∨ op = 21 ∨ op = 22 ∨ op = 23 ∨ op = 24 ∨ op = 25 ∨ op = 26 ∨ op = 27 ∨ op = 28 ∨ op = 29 ∨ op = 30 ∨ op = 31 ∨ op = 32 ∨ op = 33 ∨ op = 34 ∨ op = 35 ∨ op = 36 ∨ op = 37 := by omega
    rcases this with rfl | rfl | rfl | rfl | rfl | rfl | rfl | rfl | rfl | rfl | rfl | rfl | rfl | rfl | rfl | rfl | rfl | rfl | rfl | rfl | rfl | rfl | rfl | rfl | rfl | rfl | rfl | rfl | rfl | rfl | rfl | rfl | rfl | rfl | rfl | rfl | rfl | rfl
    all_goals
      go_enter Tryz.func63, Tryz.ntmps63
      go_wp2
      go_ret
      exact ⟨rfl, rfl⟩
  · rw [ez_no op (by omega)]
    have n1 : (op == 1) = false := by simp; omega
    have n2 : (op == 2) = false := by simp; omega
    have n21 : (op == 21) = false := by simp; omega
    have n22 : (op == 22) = false := by simp; omega
    have n23 : (op == 23) = false := by simp; omega
    have n25 : (op == 25) = false := by simp; omega
    have n31 : (op == 31) = false := by simp; omega
    have n32 : (op == 32) = false := by simp; omega
    have n33 : (op == 33) = false := by simp; omega
    have n34 : (op == 34) = false := by simp; omega
    have n35 : (op == 35) = false := by simp; omega
    by_cases h1 : op < 0
    · have h2 : ¬ 1 ≤ op := by omega
      have h3 : ¬ 21 ≤ op := by omega
      go_enter Tryz.func63, Tryz.ntmps63
      go_wp2
      go_ret
      exact ⟨rfl, rfl⟩
    · have h2 : 1 ≤ op := by omega
      have h3 : 21 ≤ op := by omega
      have h4 : ¬ op ≤ 10 := by omega
      have h5 : ¬ op ≤ 37 := by omega
      go_enter Tryz.func63, Tryz.ntmps63
      go_wp2
      go_ret
      exact ⟨rfl, rfl⟩

end Go.Proofs.YtlddkhhaclfmiaaGreatDoor

/- The document's DevOk, DevIsBit, DevIsWhole. Helper text: no statement is claimed here. -/
namespace Go.Proofs.YtlddkhhaclfmiaaGreatDoor
open Go.ChangeShapes Go.WideShapes Go.ChangeAt Go.RowKit

set_option maxHeartbeats 1000000 in
theorem sIsWhole_any (k n p : Int) (w : World) :
    Calls Tryz.prog 65 #[.agg #[.int .i64 k, .int .i64 n, .int .i64 p]] w fun e w' => e = .returned (.bool (isW k n p)) ∧ Below w.heap.size w w' := by
  cases hok : okB k n p
  · rw [show isW k n p = false by simp [isW, hok]]
    have hk : Hid (okB k n p = false) := hok
    clear hok
    go_enter Tryz.func65, Tryz.ntmps65
    go_wp2_with fail
    refine (sOk_any _ _ _ _).mono ?_
    rintro e w' ⟨rfl, hb⟩
    rw [hk.out]
    go_wp2
    go_ret
    exact ⟨rfl, of_one hb⟩
  · rw [show isW k n p = rW (kz k) by simp [isW, hok]]
    have hk : Hid (okB k n p = true) := hok
    rcases kinds (okB_kind hok) with rfl | rfl | rfl | rfl | rfl | rfl | rfl | rfl | rfl | rfl | rfl | rfl | rfl
    all_goals
      clear hok
      go_enter Tryz.func65, Tryz.ntmps65
      go_wp2_with fail
      refine (sOk_any _ _ _ _).mono ?_
      rintro e w' ⟨rfl, hb⟩
      rw [hk.out]
      obtain ⟨hc, hf⟩ := bcell hb
      go_wp2
      go_ret
      exact ⟨rfl, of_one hb⟩
end Go.Proofs.YtlddkhhaclfmiaaGreatDoor

/- The document's ElemArity, and the sorts of its operands. Helper text: no statement is claimed here. -/
namespace Go.Proofs.YtlddkhhaclfmiaaGreatDoor
open Go.ChangeShapes Go.WideShapes Go.ChangeAt Go.RowKit

set_option maxHeartbeats 1000000 in
theorem sIsReal_any (k n p : Int) (w : World) :
    Calls Tryz.prog 66 #[.agg #[.int .i64 k, .int .i64 n, .int .i64 p]] w fun e w' => e = .returned (.bool (isR k n p)) ∧ Below w.heap.size w w' := by
  cases hok : okB k n p
  · rw [show isR k n p = false by simp [isR, hok]]
    have hk : Hid (okB k n p = false) := hok
    clear hok
    go_enter Tryz.func66, Tryz.ntmps66
    go_wp2_with fail
    refine (sOk_any _ _ _ _).mono ?_
    rintro e w' ⟨rfl, hb⟩
    rw [hk.out]
    go_wp2
    go_ret
    exact ⟨rfl, of_one hb⟩
  · rw [show isR k n p = rR (kz k) by simp [isR, hok]]
    have hk : Hid (okB k n p = true) := hok
    rcases kinds (okB_kind hok) with rfl | rfl | rfl | rfl | rfl | rfl | rfl | rfl | rfl | rfl | rfl | rfl | rfl
    all_goals
      clear hok
      go_enter Tryz.func66, Tryz.ntmps66
      go_wp2_with fail
      refine (sOk_any _ _ _ _).mono ?_
      rintro e w' ⟨rfl, hb⟩
      rw [hk.out]
      obtain ⟨hc, hf⟩ := bcell hb
      go_wp2
      go_ret
      exact ⟨rfl, of_one hb⟩
end Go.Proofs.YtlddkhhaclfmiaaGreatDoor

/- The sorts of operands: l3Kind. Helper text: no statement is claimed here. -/
namespace Go.Proofs.YtlddkhhaclfmiaaGreatDoor
open Go.ChangeShapes Go.WideShapes Go.ChangeAt Go.RowKit

/-- An operand that is ok and of one of two kinds. -/
def k2B (x y k n p : Int) : Bool := okB k n p && (k == x || k == y)
set_option maxHeartbeats 1000000 in
theorem kind2_any (x y k n p : Int) (w : World) :
    Calls Tryz.prog 64 #[.agg #[.int .i64 k, .int .i64 n, .int .i64 p], .int .i64 x, .int .i64 y] w fun e w' => e = .returned (.bool (k2B x y k n p)) ∧ Below w.heap.size w w' := by
  cases hok : okB k n p
  · rw [show k2B x y k n p = false by simp [k2B, hok]]
    have hk : Hid (okB k n p = false) := hok
    clear hok
    go_enter Tryz.func64, Tryz.ntmps64
    go_wp2_with fail
    refine (sOk_any _ _ _ _).mono ?_
    rintro e w' ⟨rfl, hb⟩
    rw [hk.out]
    go_wp2
    go_ret
    exact ⟨rfl, of_one hb⟩
  · rw [show k2B x y k n p = (k == x || k == y) by simp [k2B, hok]]
    have hk : Hid (okB k n p = true) := hok
    clear hok
    cases hx : k == x
    all_goals
      go_enter Tryz.func64, Tryz.ntmps64
      go_wp2_with fail
      refine (sOk_any _ _ _ _).mono ?_
      rintro e w' ⟨rfl, hb⟩
      rw [hk.out]
      have HB : Hid (Below w.heap.size w w') := of_one hb
      obtain ⟨hc, hf⟩ := bcell hb
      go_wp2
      go_ret
      exact ⟨rfl, HB.out⟩
end Go.Proofs.YtlddkhhaclfmiaaGreatDoor

/- What the tables take, on; boxes of contacts and coils. Helper text: no statement is claimed here. -/
namespace Go.Proofs.YtlddkhhaclfmiaaGreatDoor
open Go.ChangeShapes Go.WideShapes Go.ChangeAt Go.RowKit

theorem hasK_nil (k : Int) : hasK [] k = false := rfl
theorem hasK_cons (x : Int) (l : List Int) (k : Int) : hasK (x :: l) k = (k == x || hasK l k) := rfl
theorem takeB_nil (ys : List Ar) : takeB [] ys = false := by
  cases ys <;> simp [takeB]
theorem takeB_1 (c : Nat) (a : Ar) : takeB [c] [a] = fitB c a.1 a.2.1 a.2.2 := by simp [takeB, fitA, at3, List.range_succ]
theorem takeB_2 (c d : Nat) (a b : Ar) : takeB [c, d] [a, b] = (fitB c a.1 a.2.1 a.2.2 && fitB d b.1 b.2.1 b.2.2) := by simp [takeB, fitA, at3, List.range_succ]
theorem takeB_3 (c d e : Nat) (a b x : Ar) : takeB [c, d, e] [a, b, x] = (fitB c a.1 a.2.1 a.2.2 && (fitB d b.1 b.2.1 b.2.2 && fitB e x.1 x.2.1 x.2.2)) := by simp [takeB, fitA, at3, List.range_succ]
theorem takeB_len {fs : List Nat} {ys : List Ar} (h : takeB fs ys = true) : ys.length = fs.length ∧ ys.length ≠ 0 := by
  simp only [takeB, Bool.and_eq_true, decide_eq_true_eq] at h
  exact ⟨h.1.2, h.1.1⟩
theorem fm1_len (i : Nat) : (fm1 i).length = 0 ∨ (fm1 i).length = (fm0 i).length := by
  unfold fm1; split <;> simp [fm0]
theorem okA_len {i : Nat} {ys : List Ar} (h : okA i ys = true) : ys.length = (fm0 i).length := by
  simp only [okA, Bool.or_eq_true] at h
  rcases h with h | h
  · exact (takeB_len h).1
  · have := takeB_len h
    rcases fm1_len i with h' | h' <;> omega
theorem okA_no {i : Nat} {ys : List Ar} (h : ys.length ≠ (fm0 i).length) : okA i ys = false := by
  rw [Bool.eq_false_iff]; exact fun h' => h (okA_len h')
theorem nm_no (op : Int) (h : op < 21 ∨ 37 < op) : nm (ez op) = [] := by
  by_cases h2 : 0 ≤ op ∧ op < 38
  · obtain ⟨i, rfl⟩ := Int.eq_ofNat_of_zero_le h2.1
    rw [ez_nat i (by omega)]
    unfold nm
    split <;> first | rfl | omega
  · rw [ez_no op (by omega)]; rfl
theorem fitB_ok {c : Nat} {k n p : Int} (h : fitB c k n p = true) : okB k n p = true := by
  unfold fitB at h
  split at h
  · simp only [isB, Bool.and_eq_true] at h; exact h.1
  · simp only [isW, Bool.and_eq_true] at h; exact h.1
  · simp only [isR, Bool.and_eq_true] at h; exact h.1
  · simp only [kinB, Bool.and_eq_true] at h; exact h.1.1
  · simp only [kinB, Bool.and_eq_true] at h; exact h.1
theorem takeB_ok {fs : List Nat} {ys : List Ar} (h : takeB fs ys = true) {j : Nat} (hj : j < ys.length) : okB (at3 ys j).1 (at3 ys j).2.1 (at3 ys j).2.2 = true := by
  simp only [takeB, Bool.and_eq_true, decide_eq_true_eq, List.all_eq_true, List.mem_range] at h
  exact fitB_ok (h.2 j hj)
/-- The operands of a contact or coil are ok. -/
theorem okA_ok {i : Nat} {ys : List Ar} (h : okA i ys = true) {j : Nat} (hj : j < ys.length) : okB (at3 ys j).1 (at3 ys j).2.1 (at3 ys j).2.2 = true := by
  simp only [okA, Bool.or_eq_true] at h
  rcases h with h | h
  · exact takeB_ok h hj
  · exact takeB_ok h hj
theorem bdn {B : Nat} {a w : World} (h : Below B a w) (n : Nat) : Below B a (w.drewN n) := h.trans ⟨rfl, rfl, rfl, Nat.le_refl _, fun _ _ => rfl⟩
theorem keep2 {V w1 : World} (hb : Below V.heap.size V w1) {b i : Nat} {v : Value} (h : V.cell? ⟨b, i, none⟩ = some v) : w1.cell? ⟨b, i, none⟩ = some v := (hb.cell (p := ⟨b, i, none⟩) (World.block_lt_of_cell? V ⟨b, i, none⟩ h)).trans h
theorem keep1 {V w1 : World} {o : Obj} (hb : Below (V.alloc o).heap.size (V.alloc o) w1) {b i : Nat} {v : Value} (h : V.cell? ⟨b, i, none⟩ = some v) : w1.cell? ⟨b, i, none⟩ = some v :=
  keep2 hb ((World.cell?_alloc_lt _ _ _ (World.block_lt_of_cell? V ⟨b, i, none⟩ h)).trans h)
theorem keepB {w V : World} (hb : Below w.heap.size w V) {b i : Nat} {v : Value} (hl : b < w.heap.size) (h : w.cell? ⟨b, i, none⟩ = some v) : V.cell? ⟨b, i, none⟩ = some v := (hb.cell (p := ⟨b, i, none⟩) hl).trans h
theorem elem_drew (w : World) (op : Int) (v : Value) (n : Nat) : ((w.alloc (.cells #[.int .i64 op, v] 25)).drewN n).cell? ⟨w.heap.size, 0, none⟩ = some (.int .i64 op) ∧ ((w.alloc (.cells #[.int .i64 op, v] 25)).drewN n).cell? ⟨w.heap.size, 1, none⟩ = some v :=
  ⟨keep2 (bdn (Below.refl _ _) n) (by rw [World.cell?_alloc_mark]; rfl), keep2 (bdn (Below.refl _ _) n) (by rw [World.cell?_alloc_mark]; rfl)⟩
/-- The first operand of a list in memory, and so on. -/
theorem args_cells {w : World} {b : Nat} {ys : List Ar} (h : ArgsAt w b ys) (i : Nat) (a : Ar) (ha : ys[i]? = some a) : w.cell? ⟨b, i * 3, none⟩ = some (.int .i64 a.1) ∧ w.cell? ⟨b, i * 3 + 1, none⟩ = some (.int .i64 a.2.1) ∧ w.cell? ⟨b, i * 3 + 2, none⟩ = some (.int .i64 a.2.2) := by
  have hi : i < ys.length := (List.getElem?_eq_some_iff.1 ha).1
  have := h i hi
  rw [show at3 ys i = a by simp [at3, List.getD, ha]] at this
  exact this
theorem elem_box (w : World) (op : Int) (v : Value) (t : TypeId) (o : Obj) : ((w.alloc (.cells #[.int .i64 op, v] t)).alloc o).cell? ⟨w.heap.size, 0, none⟩ = some (.int .i64 op) ∧ ((w.alloc (.cells #[.int .i64 op, v] t)).alloc o).cell? ⟨w.heap.size, 1, none⟩ = some v := by
  refine ⟨?_, ?_⟩
  · rw [World.cell?_alloc_lt _ _ _ (by simp), World.cell?_alloc_mark]; rfl
  · rw [World.cell?_alloc_lt _ _ _ (by simp), World.cell?_alloc_mark]; rfl
theorem one_of {ys : List Ar} (h : ys.length = 1) : ∃ a, ys = [a] := by
  match ys, h with
  | [a], _ => exact ⟨a, rfl⟩
theorem two_of {ys : List Ar} (h : ys.length = 2) : ∃ a b, ys = [a, b] := by
  match ys, h with
  | [a, b], _ => exact ⟨a, b, rfl⟩
theorem three_of {ys : List Ar} (h : ys.length = 3) : ∃ a b x, ys = [a, b, x] := by
  match ys, h with
  | [a, b, x], _ => exact ⟨a, b, x, rfl⟩
end Go.Proofs.YtlddkhhaclfmiaaGreatDoor

/- The document's ElemIsCoil. Helper text: no statement is claimed here. -/
namespace Go.Proofs.YtlddkhhaclfmiaaGreatDoor
open Go.ChangeShapes Go.WideShapes Go.ChangeAt Go.RowKit

/-! Boolean sums. -/
/-! What a coil is, number by number. -/
theorem coilB_eq (i : Nat) (h : i < 38) (hn : nm i ≠ []) (ys : List Ar) : coilB (i : Int) ys = okA i ys := by simp [coilB, ez_nat i h, hn]
theorem coil_21 (a : Ar) : coilB 21 [a] = k2B 2 3 a.1 a.2.1 a.2.2 := by
  rw [show (21 : Int) = ((21 : Nat) : Int) from rfl, coilB_eq 21 (by decide) (by decide)]
  simp only [okA, fm0, fm1, takeB_nil, takeB_1, Bool.or_false, fitB, kinB, sk, hasK_cons, hasK_nil, Bool.or_false, k2B]
  all_goals (cases okB a.1 a.2.1 a.2.2 <;> simp [Bool.or_assoc, Bool.and_assoc])
theorem coil_22 (a : Ar) : coilB 22 [a] = (k2B 2 3 a.1 a.2.1 a.2.2 || k2B 4 4 a.1 a.2.1 a.2.2) := by
  rw [show (22 : Int) = ((22 : Nat) : Int) from rfl, coilB_eq 22 (by decide) (by decide)]
  simp only [okA, fm0, fm1, takeB_nil, takeB_1, Bool.or_false, fitB, kinB, sk, hasK_cons, hasK_nil, Bool.or_false, k2B]
  all_goals (cases okB a.1 a.2.1 a.2.2 <;> simp [Bool.or_assoc])
theorem coil_23 (a : Ar) : coilB 23 [a] = ((k2B 2 3 a.1 a.2.1 a.2.2 || k2B 4 7 a.1 a.2.1 a.2.2) || k2B 8 8 a.1 a.2.1 a.2.2) := by
  rw [show (23 : Int) = ((23 : Nat) : Int) from rfl, coilB_eq 23 (by decide) (by decide)]
  simp only [okA, fm0, fm1, takeB_nil, takeB_1, Bool.or_false, fitB, kinB, sk, hasK_cons, hasK_nil, Bool.or_false, k2B]
  all_goals (cases okB a.1 a.2.1 a.2.2 <;> simp [Bool.or_assoc])
theorem coil_24 (a b : Ar) : coilB 24 [a, b] = (k2B 2 3 a.1 a.2.1 a.2.2 && k2B 5 5 b.1 b.2.1 b.2.2) := by
  rw [show (24 : Int) = ((24 : Nat) : Int) from rfl, coilB_eq 24 (by decide) (by decide)]
  simp only [okA, fm0, fm1, takeB_nil, takeB_2, Bool.or_false, fitB, kinB, sk, hasK_cons, hasK_nil, Bool.or_false, k2B]
  all_goals (cases okB a.1 a.2.1 a.2.2 <;> cases okB b.1 b.2.1 b.2.2 <;> simp)
theorem coil_25 (a : Ar) : coilB 25 [a] = k2B 4 4 a.1 a.2.1 a.2.2 := by
  rw [show (25 : Int) = ((25 : Nat) : Int) from rfl, coilB_eq 25 (by decide) (by decide)]
  simp only [okA, fm0, fm1, takeB_nil, takeB_1, Bool.or_false, fitB, kinB, sk, hasK_cons, hasK_nil, Bool.or_false, k2B]
  all_goals (cases okB a.1 a.2.1 a.2.2 <;> simp)
theorem coil_26 (a b : Ar) : coilB 26 [a, b] = ((k2B 7 7 a.1 a.2.1 a.2.2 && k2B 11 11 b.1 b.2.1 b.2.2) && decide (0 ≤ b.2.1)) := by
  rw [show (26 : Int) = ((26 : Nat) : Int) from rfl, coilB_eq 26 (by decide) (by decide)]
  simp only [okA, fm0, fm1, takeB_nil, takeB_2, Bool.or_false, fitB, kinB, sk, hasK_cons, hasK_nil, Bool.or_false, k2B]
  all_goals (cases okB a.1 a.2.1 a.2.2 <;> cases okB b.1 b.2.1 b.2.2 <;> simp [Bool.and_assoc])
theorem coil_27 (a b : Ar) : coilB 27 [a, b] = ((k2B 7 7 a.1 a.2.1 a.2.2 && k2B 11 11 b.1 b.2.1 b.2.2) && decide (0 ≤ b.2.1)) := by
  rw [show (27 : Int) = ((27 : Nat) : Int) from rfl, coilB_eq 27 (by decide) (by decide)]
  simp only [okA, fm0, fm1, takeB_nil, takeB_2, Bool.or_false, fitB, kinB, sk, hasK_cons, hasK_nil, Bool.or_false, k2B]
  all_goals (cases okB a.1 a.2.1 a.2.2 <;> cases okB b.1 b.2.1 b.2.2 <;> simp [Bool.and_assoc])
theorem coil_28 (a b : Ar) : coilB 28 [a, b] = ((k2B 7 7 a.1 a.2.1 a.2.2 && k2B 11 11 b.1 b.2.1 b.2.2) && decide (0 ≤ b.2.1)) := by
  rw [show (28 : Int) = ((28 : Nat) : Int) from rfl, coilB_eq 28 (by decide) (by decide)]
  simp only [okA, fm0, fm1, takeB_nil, takeB_2, Bool.or_false, fitB, kinB, sk, hasK_cons, hasK_nil, Bool.or_false, k2B]
  all_goals (cases okB a.1 a.2.1 a.2.2 <;> cases okB b.1 b.2.1 b.2.2 <;> simp [Bool.and_assoc])
theorem coil_29 (a b : Ar) : coilB 29 [a, b] = ((k2B 8 8 a.1 a.2.1 a.2.2 && k2B 11 11 b.1 b.2.1 b.2.2) && decide (0 ≤ b.2.1)) := by
  rw [show (29 : Int) = ((29 : Nat) : Int) from rfl, coilB_eq 29 (by decide) (by decide)]
  simp only [okA, fm0, fm1, takeB_nil, takeB_2, Bool.or_false, fitB, kinB, sk, hasK_cons, hasK_nil, Bool.or_false, k2B]
  all_goals (cases okB a.1 a.2.1 a.2.2 <;> cases okB b.1 b.2.1 b.2.2 <;> simp [Bool.and_assoc])
theorem coil_30 (a b : Ar) : coilB 30 [a, b] = (k2B 9 10 a.1 a.2.1 a.2.2 && (if a.1 == 9 then isW b.1 b.2.1 b.2.2 else isR b.1 b.2.1 b.2.2)) := by
  rw [show (30 : Int) = ((30 : Nat) : Int) from rfl, coilB_eq 30 (by decide) (by decide)]
  simp only [okA, fm0, fm1, takeB_2, Bool.or_false, fitB, kinB, sk, hasK_cons, hasK_nil, Bool.or_false, k2B]
  all_goals (cases okB a.1 a.2.1 a.2.2 <;> simp)
  by_cases h9 : a.1 = 9
  · simp [h9]
  · have h9' : (a.1 == 9) = false := by simpa using h9
    simp [h9, h9']
theorem coil_31 (a b x : Ar) : coilB 31 [a, b, x] = (k2B 9 10 a.1 a.2.1 a.2.2 && (if a.1 == 9 then isW b.1 b.2.1 b.2.2 && isW x.1 x.2.1 x.2.2 else isR b.1 b.2.1 b.2.2 && isR x.1 x.2.1 x.2.2)) := by
  rw [show (31 : Int) = ((31 : Nat) : Int) from rfl, coilB_eq 31 (by decide) (by decide)]
  simp only [okA, fm0, fm1, takeB_3, Bool.or_false, fitB, kinB, sk, hasK_cons, hasK_nil, Bool.or_false, k2B]
  all_goals (cases okB a.1 a.2.1 a.2.2 <;> simp)
  by_cases h9 : a.1 = 9
  · simp [h9]
  · have h9' : (a.1 == 9) = false := by simpa using h9
    simp [h9, h9']
theorem coil_32 (a b x : Ar) : coilB 32 [a, b, x] = (k2B 9 10 a.1 a.2.1 a.2.2 && (if a.1 == 9 then isW b.1 b.2.1 b.2.2 && isW x.1 x.2.1 x.2.2 else isR b.1 b.2.1 b.2.2 && isR x.1 x.2.1 x.2.2)) := by
  rw [show (32 : Int) = ((32 : Nat) : Int) from rfl, coilB_eq 32 (by decide) (by decide)]
  simp only [okA, fm0, fm1, takeB_3, Bool.or_false, fitB, kinB, sk, hasK_cons, hasK_nil, Bool.or_false, k2B]
  all_goals (cases okB a.1 a.2.1 a.2.2 <;> simp)
  by_cases h9 : a.1 = 9
  · simp [h9]
  · have h9' : (a.1 == 9) = false := by simpa using h9
    simp [h9, h9']
theorem coil_33 (a b x : Ar) : coilB 33 [a, b, x] = (k2B 9 10 a.1 a.2.1 a.2.2 && (if a.1 == 9 then isW b.1 b.2.1 b.2.2 && isW x.1 x.2.1 x.2.2 else isR b.1 b.2.1 b.2.2 && isR x.1 x.2.1 x.2.2)) := by
  rw [show (33 : Int) = ((33 : Nat) : Int) from rfl, coilB_eq 33 (by decide) (by decide)]
  simp only [okA, fm0, fm1, takeB_3, Bool.or_false, fitB, kinB, sk, hasK_cons, hasK_nil, Bool.or_false, k2B]
  all_goals (cases okB a.1 a.2.1 a.2.2 <;> simp)
  by_cases h9 : a.1 = 9
  · simp [h9]
  · have h9' : (a.1 == 9) = false := by simpa using h9
    simp [h9, h9']
theorem coil_34 (a b x : Ar) : coilB 34 [a, b, x] = (k2B 9 10 a.1 a.2.1 a.2.2 && (if a.1 == 9 then isW b.1 b.2.1 b.2.2 && isW x.1 x.2.1 x.2.2 else isR b.1 b.2.1 b.2.2 && isR x.1 x.2.1 x.2.2)) := by
  rw [show (34 : Int) = ((34 : Nat) : Int) from rfl, coilB_eq 34 (by decide) (by decide)]
  simp only [okA, fm0, fm1, takeB_3, Bool.or_false, fitB, kinB, sk, hasK_cons, hasK_nil, Bool.or_false, k2B]
  all_goals (cases okB a.1 a.2.1 a.2.2 <;> simp)
  by_cases h9 : a.1 = 9
  · simp [h9]
  · have h9' : (a.1 == 9) = false := by simpa using h9
    simp [h9, h9']
theorem coil_35 (a b x : Ar) : coilB 35 [a, b, x] = (k2B 9 10 a.1 a.2.1 a.2.2 && (if a.1 == 9 then isW b.1 b.2.1 b.2.2 && isW x.1 x.2.1 x.2.2 else false)) := by
  rw [show (35 : Int) = ((35 : Nat) : Int) from rfl, coilB_eq 35 (by decide) (by decide)]
  simp only [okA, fm0, fm1, takeB_nil, takeB_3, Bool.or_false, fitB, kinB, sk, hasK_cons, hasK_nil, Bool.or_false, k2B]
  all_goals (cases okB a.1 a.2.1 a.2.2 <;> simp)
  by_cases h9 : a.1 = 9
  · simp [h9]
  · have h9' : (a.1 == 9) = false := by simpa using h9
    simp [h9, h9']
theorem coil_36 (a b : Ar) : coilB 36 [a, b] = (k2B 10 10 a.1 a.2.1 a.2.2 && isW b.1 b.2.1 b.2.2) := by
  rw [show (36 : Int) = ((36 : Nat) : Int) from rfl, coilB_eq 36 (by decide) (by decide)]
  simp only [okA, fm0, fm1, takeB_nil, takeB_2, Bool.or_false, fitB, kinB, sk, hasK_cons, hasK_nil, Bool.or_false, k2B]
  all_goals (cases okB a.1 a.2.1 a.2.2 <;> simp)
theorem coil_37 (a b : Ar) : coilB 37 [a, b] = (k2B 9 9 a.1 a.2.1 a.2.2 && isR b.1 b.2.1 b.2.2) := by
  rw [show (37 : Int) = ((37 : Nat) : Int) from rfl, coilB_eq 37 (by decide) (by decide)]
  simp only [okA, fm0, fm1, takeB_nil, takeB_2, Bool.or_false, fitB, kinB, sk, hasK_cons, hasK_nil, Bool.or_false, k2B]
  all_goals (cases okB a.1 a.2.1 a.2.2 <;> simp)
/-- What the document's l3Calc says. -/
def calcA (ys : List Ar) (i : Nat) : Bool := if (at3 ys 0).1 == 9 then isW (at3 ys i).1 (at3 ys i).2.1 (at3 ys i).2.2 else isR (at3 ys i).1 (at3 ys i).2.1 (at3 ys i).2.2
def calcB (op : Int) (ys : List Ar) : Bool := k2B 9 10 (at3 ys 0).1 (at3 ys 0).2.1 (at3 ys 0).2.2 && ((List.range (ys.length - 1)).all (fun i => calcA ys (i + 1)) && ((at3 ys 0).1 == 9 || op != 35))
theorem calc_30 (a b : Ar) : coilB 30 [a, b] = calcB 30 [a, b] := by
  rw [coil_30]; simp [calcB, calcA, at3, List.range_succ]
theorem calc_31 (a b x : Ar) : coilB 31 [a, b, x] = calcB 31 [a, b, x] := by
  rw [coil_31]; simp [calcB, calcA, at3, List.range_succ]
  split <;> simp
theorem calc_32 (a b x : Ar) : coilB 32 [a, b, x] = calcB 32 [a, b, x] := by
  rw [coil_32]; simp [calcB, calcA, at3, List.range_succ]
  split <;> simp
theorem calc_33 (a b x : Ar) : coilB 33 [a, b, x] = calcB 33 [a, b, x] := by
  rw [coil_33]; simp [calcB, calcA, at3, List.range_succ]
  split <;> simp
theorem calc_34 (a b x : Ar) : coilB 34 [a, b, x] = calcB 34 [a, b, x] := by
  rw [coil_34]; simp [calcB, calcA, at3, List.range_succ]
  split <;> simp
theorem calc_35 (a b x : Ar) : coilB 35 [a, b, x] = calcB 35 [a, b, x] := by
  rw [coil_35]
  by_cases h9 : a.1 = 9
  · simp [calcB, calcA, at3, List.range_succ, h9]
  · have h9' : (a.1 == 9) = false := by simpa using h9
    simp [calcB, calcA, at3, List.range_succ, h9]
theorem calc_no {op : Int} {ys : List Ar} {j : Nat} (h1 : 1 ≤ j) (hj : j < ys.length) (h : calcA ys j = false) : calcB op ys = false := by
  rw [Bool.eq_false_iff]
  intro ht
  simp only [calcB, Bool.and_eq_true, List.all_eq_true, List.mem_range] at ht
  have := ht.2.1 (j - 1) (by omega)
  rw [show j - 1 + 1 = j by omega, h] at this
  cases this
theorem calc_yes {op : Int} {ys : List Ar} (h0 : k2B 9 10 (at3 ys 0).1 (at3 ys 0).2.1 (at3 ys 0).2.2 = true) (h : ∀ i, 1 ≤ i → i < ys.length → calcA ys i = true) : calcB op ys = ((at3 ys 0).1 == 9 || op != 35) := by
  have : (List.range (ys.length - 1)).all (fun i => calcA ys (i + 1)) = true := by
    simp only [List.all_eq_true, List.mem_range]
    exact fun i hi => h (i + 1) (by omega) (by omega)
  simp [calcB, h0, this]
set_option maxHeartbeats 1000000 in
theorem calc_any (op : Int) (ys : List Ar) (b cap : Nat) (w : World) (hbl : b < w.heap.size) (hAt : ArgsAt w b ys) (_hlc : ys.length ≤ cap) (h1 : 1 ≤ ys.length) (hbd : ys.length ≤ 2000000) :
    Calls Tryz.prog 67 #[elemV op (some ⟨b, 0, none⟩) ys.length cap] w fun e w' => e = .returned (.bool (calcB op ys)) ∧ Below w.heap.size w w' := by
  have HA : Hid (ArgsAt w b ys) := hAt
  have c1 : (0 : Int) < (ys.length : Int) := by omega
  obtain ⟨a0, a1, a2⟩ := hAt 0 (by omega)
  simp only [Nat.zero_mul, Nat.zero_add] at a0 a1 a2
  have HX : Hid (∀ o, k2B 9 10 (at3 ys 0).1 (at3 ys 0).2.1 (at3 ys 0).2.2 = false → calcB o ys = false) := fun o h => by simp [calcB, h]
  have HY : Hid (∀ o, k2B 9 10 (at3 ys 0).1 (at3 ys 0).2.1 (at3 ys 0).2.2 = true → (∀ i, 1 ≤ i → i < ys.length → calcA ys i = true) → calcB o ys = ((at3 ys 0).1 == 9 || o != 35)) := fun o h0 h => calc_yes h0 h
  have HC : Hid (∀ i, calcA ys i = if (at3 ys 0).1 == 9 then isW (at3 ys i).1 (at3 ys i).2.1 (at3 ys i).2.2 else isR (at3 ys i).1 (at3 ys i).2.1 (at3 ys i).2.2) := fun i => rfl
  clear hAt
  generalize (at3 ys 0).1 = k0 at *
  generalize (at3 ys 0).2.1 = n0 at *
  generalize (at3 ys 0).2.2 = p0 at *
  have z0 : (w.alloc (.cells #[.int .i64 op, .slice (some ⟨b, 0, none⟩) ys.length cap] 25)).cell? ⟨b, 0, none⟩ = some (.int .i64 k0) := by rw [World.cell?_alloc_lt _ _ _ hbl]; exact a0
  have z1 : (w.alloc (.cells #[.int .i64 op, .slice (some ⟨b, 0, none⟩) ys.length cap] 25)).cell? ⟨b, 1, none⟩ = some (.int .i64 n0) := by rw [World.cell?_alloc_lt _ _ _ hbl]; exact a1
  have z2 : (w.alloc (.cells #[.int .i64 op, .slice (some ⟨b, 0, none⟩) ys.length cap] 25)).cell? ⟨b, 2, none⟩ = some (.int .i64 p0) := by rw [World.cell?_alloc_lt _ _ _ hbl]; exact a2
  go_enter Tryz.func67, Tryz.ntmps67
  go_wp2_with fail
  refine (kind2_any 9 10 k0 n0 p0 _).mono ?_
  rintro e w1 ⟨rfl, hb1⟩
  have HB1 : Hid (Below w.heap.size w w1) := of_one hb1
  have e0 : w1.cell? ⟨w.heap.size, 0, none⟩ = some (.int .i64 op) := (hb1.cell (p := ⟨w.heap.size, 0, none⟩) (by simp)).trans (by rw [World.cell?_alloc_mark]; rfl)
  have e1 : w1.cell? ⟨w.heap.size, 1, none⟩ = some (.slice (some ⟨b, 0, none⟩) ys.length cap) := (hb1.cell (p := ⟨w.heap.size, 1, none⟩) (by simp)).trans (by rw [World.cell?_alloc_mark]; rfl)
  have e2 : w1.cell? ⟨b, 0, none⟩ = some (.int .i64 k0) := (HB1.out.cell (p := ⟨b, 0, none⟩) hbl).trans a0
  have hw1 : w.heap.size < w1.heap.size := World.block_lt_of_cell? w1 ⟨w.heap.size, 0, none⟩ e0
  clear hb1 z0 z1 z2 a0 a1 a2
  cases hk : k2B 9 10 k0 n0 p0
  · have HR : Hid (calcB op ys = false) := HX.out op hk
    go_wp2
    go_ret
    exact ⟨by rw [HR.out]; rfl, HB1.out⟩
  · have HK : Hid (∀ o, (∀ i, 1 ≤ i → i < ys.length → calcA ys i = true) → calcB o ys = (k0 == 9 || o != 35)) := fun o h => HY.out o hk h
    clear hk HX HY
    have HE0 : Hid (w1.cell? ⟨w.heap.size, 0, none⟩ = some (.int .i64 op)) := e0
    have HE1 : Hid (w1.cell? ⟨w.heap.size, 1, none⟩ = some (.slice (some ⟨b, 0, none⟩) ys.length cap)) := e1
    go_wp2
    go_loopw [4] (fun c w' => ∃ j : Nat, 1 ≤ j ∧ j ≤ ys.length ∧ c = .int .i64 (j : Int) ∧ Hid (Below w1.heap.size w1 w') ∧ Hid (∀ i, 1 ≤ i → i < j → calcA ys i = true)) (fun c _ => ys.length - (intOf c).toNat)
    case atStart => exact ⟨1, by omega, by omega, rfl, Below.refl _ _, fun i _ _ => by omega⟩
    case round =>
      obtain ⟨j, hj1, hj, rfl, HBr, HD⟩ := hrel
      rename_i wr
      have e0r : wr.cell? ⟨w.heap.size, 0, none⟩ = some (.int .i64 op) := (HBr.out.cell (p := ⟨w.heap.size, 0, none⟩) hw1).trans HE0.out
      have e1r : wr.cell? ⟨w.heap.size, 1, none⟩ = some (.slice (some ⟨b, 0, none⟩) ys.length cap) := (HBr.out.cell (p := ⟨w.heap.size, 1, none⟩) hw1).trans HE1.out
      have HBw : Hid (Below w.heap.size w wr) := HB1.out.trans (HBr.out.mono HB1.out.size)
      clear e0 e1 e2
      by_cases hlt : j < ys.length
      · have hlt' : (j : Int) < (ys.length : Int) := by omega
        obtain ⟨c0, c1', c2⟩ := (HA.out.to hbl HBw.out) j hlt
        have HCj := HC.out j
        generalize (at3 ys j).1 = k at *
        generalize (at3 ys j).2.1 = n at *
        generalize (at3 ys j).2.2 = p at *
        have HCJ : Hid (calcA ys j = if k0 == 9 then isW k n p else isR k n p) := HCj
        clear HCj
        have up : calcA ys j = true → Hid (∀ i, 1 ≤ i → i < j + 1 → calcA ys i = true) := fun h i hi hi2 => by
          rcases Nat.lt_or_ge i j with h' | h'
          · exact HD.out i hi h'
          · obtain rfl : i = j := by omega
            exact h
        have UP : Hid (calcA ys j = true → Hid (∀ i, 1 ≤ i → i < j + 1 → calcA ys i = true)) := up
        clear up
        cases hk9 : k0 == 9
        · go_wp2_with fail
          refine (sIsReal_any k n p _).mono ?_
          rintro e w2 ⟨rfl, hb2⟩
          have HB2 : Hid (Below w1.heap.size w1 w2) := HBr.out.trans (hb2.mono HBr.out.size)
          clear hb2
          cases hv : isR k n p
          · have HR : Hid (calcB op ys = false) := calc_no hj1 hlt (HCJ.out.trans (by rw [hk9, hv]; rfl))
            go_wp2
            go_ret
            exact ⟨by rw [HR.out]; rfl, HB1.out.trans (HB2.out.mono HB1.out.size)⟩
          · have HU := UP.out (HCJ.out.trans (by rw [hk9, hv]; rfl))
            go_wp2
            exact ⟨⟨j + 1, by omega, by omega, by go_num, HB2, HU⟩, by simp [intOf]; omega⟩
        · go_wp2_with fail
          refine (sIsWhole_any k n p _).mono ?_
          rintro e w2 ⟨rfl, hb2⟩
          have HB2 : Hid (Below w1.heap.size w1 w2) := HBr.out.trans (hb2.mono HBr.out.size)
          clear hb2
          cases hv : isW k n p
          · have HR : Hid (calcB op ys = false) := calc_no hj1 hlt (HCJ.out.trans (by rw [hk9, hv]; rfl))
            go_wp2
            go_ret
            exact ⟨by rw [HR.out]; rfl, HB1.out.trans (HB2.out.mono HB1.out.size)⟩
          · have HU := UP.out (HCJ.out.trans (by rw [hk9, hv]; rfl))
            go_wp2
            exact ⟨⟨j + 1, by omega, by omega, by go_num, HB2, HU⟩, by simp [intOf]; omega⟩
      · obtain rfl : j = ys.length := by omega
        have HR : Hid (calcB op ys = (k0 == 9 || op != 35)) := HK.out op HD.out
        cases hk9 : k0 == 9
        all_goals
          go_wp2
          go_ret
          exact ⟨by rw [HR.out, hk9]; rfl, HBw.out⟩
end Go.Proofs.YtlddkhhaclfmiaaGreatDoor

/- Plain mathematics of the texts of contacts and coils: which bytes an operand's text bears, and how a text is cut. Helper text: no statement is claimed here. -/
namespace Go.Proofs.YtlddkhhaclfmiaaGreatDoor
open Go.RowKit

/-- The bytes of operands' texts: digits, letters, a point, a minus. -/
def tame (x : UInt8) : Bool := decide (x.toNat = 45 ∨ x.toNat = 46 ∨ (48 ≤ x.toNat ∧ x.toNat ≤ 57) ∨ (65 ≤ x.toNat ∧ x.toNat ≤ 90) ∨ (97 ≤ x.toNat ∧ x.toNat ≤ 122))
theorem tame_digit {x : UInt8} (h : isD x = true) : tame x = true := by
  simp only [isD, decide_eq_true_eq] at h
  simp only [tame, decide_eq_true_eq]; omega
theorem tame_sgn {sg : List UInt8} {u : Nat} {N : Int} (h : Sgn sg u N) : ∀ x ∈ sg, tame x = true := by
  rcases h with ⟨rfl, -⟩ | ⟨rfl, -⟩
  · simp
  · intro x hx
    obtain rfl : x = 45 := by simpa using hx
    decide
theorem tame_word (i : Nat) : ∀ x ∈ wordL i, tame x = true := by
  unfold wordL
  split <;> (intro x hx; simp only [List.mem_cons, List.not_mem_nil, or_false] at hx)
  all_goals first
    | (rcases hx with rfl | rfl | rfl | rfl <;> decide)
    | (rcases hx with rfl | rfl | rfl <;> decide)
theorem tame_letter {k : Nat} : ∀ x ∈ rL k, tame x = true := by
  unfold rL
  split <;> (intro x hx; simp only [List.mem_cons, List.not_mem_nil, or_false] at hx)
  all_goals (rcases hx with rfl; decide)
theorem txt_tame {k n p : Int} (h : okB k n p = true) : ∀ x ∈ txt k n p, tame x = true := by
  rcases shape_of h with ⟨-, -, i, -, -, e⟩ | ⟨-, c, u, -, -, -, -, -, e⟩ | ⟨-, -, sg, u, -, hs, e⟩ | ⟨-, sg, l1, l2, u, -, -, -, hs, e, -, hd, -⟩
  · rw [e]; exact tame_word i
  · rw [e]
    intro x hx
    rcases List.mem_append.1 hx with hx | hx
    · exact tame_letter x hx
    · exact tame_digit (digits_all u x hx)
  · rw [e]
    intro x hx
    rcases List.mem_append.1 hx with hx | hx
    · exact tame_sgn hs x hx
    · exact tame_digit (digits_all u x hx)
  · rw [e]
    intro x hx
    rcases List.mem_append.1 hx with hx | hx
    · exact tame_sgn hs x hx
    · rcases List.mem_append.1 hx with hx | hx
      · exact tame_digit (hd x (by simp [hx]))
      · rcases List.mem_cons.1 hx with rfl | hx
        · decide
        · exact tame_digit (hd x (by simp [hx]))
theorem tx_tame {a : Ar} (h : okB a.1 a.2.1 a.2.2 = true) : ∀ x ∈ tx a, tame x = true := txt_tame h
theorem tx_not {a : Ar} {c : UInt8} (h : okB a.1 a.2.1 a.2.2 = true) (hc : tame c = false) : ∀ x ∈ tx a, x ≠ c := fun x hx e => by
  have := tx_tame h x hx
  rw [e, hc] at this; cases this
/-- All operands are ok. -/
def AllOk (ys : List Ar) : Prop := ∀ a ∈ ys, okB a.1 a.2.1 a.2.2 = true

theorem join_one (sep x : List UInt8) : Lib.join [x] sep = x := by simp [Lib.join]
theorem join_two (sep x y : List UInt8) (l : List (List UInt8)) : Lib.join (x :: y :: l) sep = x ++ (sep ++ Lib.join (y :: l) sep) := by simp [Lib.join, List.intercalate]
theorem cut_join {c : UInt8} (hc : tame c = false) : ∀ {ys : List Ar}, ys ≠ [] → AllOk ys → cutL c (Lib.join (ys.map tx) [c]) = ys.map tx
  | [], h, _ => absurd rfl h
  | [a], _, ho => by
    rw [List.map_cons, List.map_nil, join_one]
    exact cutL_none (tx_not (ho a (by simp)) hc)
  | a :: b :: l, _, ho => by
    have ih := cut_join hc (ys := b :: l) (by simp) (fun x hx => ho x (List.mem_cons_of_mem _ hx))
    rw [List.map_cons, List.map_cons, join_two, List.singleton_append, cutL_hit (tx_not (ho a (by simp)) hc)]
    rw [List.map_cons] at ih
    rw [ih]

theorem reads_one {a : Ar} {k n p : Int} {b : Bool} (h : okB a.1 a.2.1 a.2.2 = true) (hr : RdOk (tx a) k n p b) : (k, n, p) = a := by
  rcases hr with ⟨-, -, -, h3⟩ | ⟨-, -, -, -, h4⟩
  · obtain ⟨rfl, rfl, rfl⟩ := h3 _ _ _ h rfl
    rfl
  · exact absurd rfl (h4 _ _ _ h)
theorem reads_eq {ys ys0 : List Ar} (ho : AllOk ys0) (h : ReadsAs (ys0.map tx) ys) (hl : ys.length = ys0.length) : ys = ys0 := by
  apply List.ext_getElem hl
  intro i h1 h2
  obtain ⟨b, hb⟩ := h i h1
  have e : (ys0.map tx).getD i [] = tx ys0[i] := by simp [List.getD, h2]
  have e2 : at3 ys i = ys[i] := by simp [at3, List.getD, h1]
  rw [e, e2] at hb
  exact reads_one (ho _ (List.getElem_mem h2)) hb
end Go.Proofs.YtlddkhhaclfmiaaGreatDoor

/- The document's DevIsBit. Helper text: no statement is claimed here. -/
namespace Go.Proofs.YtlddkhhaclfmiaaGreatDoor
open Go.ChangeShapes Go.WideShapes Go.ChangeAt Go.RowKit

set_option maxHeartbeats 1000000 in
theorem sIsBit_any (k n p : Int) (w : World) :
    Calls Tryz.prog 73 #[.agg #[.int .i64 k, .int .i64 n, .int .i64 p]] w fun e w' => e = .returned (.bool (isB k n p)) ∧ Below w.heap.size w w' := by
  cases hok : okB k n p
  · rw [show isB k n p = false by simp [isB, hok]]
    have hk : Hid (okB k n p = false) := hok
    clear hok
    go_enter Tryz.func73, Tryz.ntmps73
    go_wp2_with fail
    refine (sOk_any _ _ _ _).mono ?_
    rintro e w' ⟨rfl, hb⟩
    rw [hk.out]
    go_wp2
    go_ret
    exact ⟨rfl, of_one hb⟩
  · rw [show isB k n p = rB (kz k) by simp [isB, hok]]
    have hk : Hid (okB k n p = true) := hok
    rcases kinds (okB_kind hok) with rfl | rfl | rfl | rfl | rfl | rfl | rfl | rfl | rfl | rfl | rfl | rfl | rfl
    all_goals
      clear hok
      go_enter Tryz.func73, Tryz.ntmps73
      go_wp2_with fail
      refine (sOk_any _ _ _ _).mono ?_
      rintro e w' ⟨rfl, hb⟩
      rw [hk.out]
      obtain ⟨hc, hf⟩ := bcell hb
      go_wp2
      go_ret
      exact ⟨rfl, of_one hb⟩
end Go.Proofs.YtlddkhhaclfmiaaGreatDoor
