/- A row of operands of the call's own, appended to. Helper text: no statement is claimed here. -/
import Derived.Test.YtlddkhhaclfmiaaGreatDoorP04
import Derived.Deep.AppendLies
import Derived.Laws.AppendOwnNone
import Derived.OwnWalk
import Derived.Test.YtlddkhhaclfmiaaGreatDoorP01
import Derived.Test.YtlddkhhaclfmiaaGreatDoorProg
import Derived.WalkKit
import Derived.Great.Walk
import Derived.Deep.WholeRow
import Derived.Below
namespace Go.Proofs.YtlddkhhaclfmiaaGreatDoor
open Go.ChangeShapes Go.WideShapes Go.ChangeAt Go.RowKit

theorem iDev : (Tryz.prog.info? 51).map (fun i => (i.zero, i.size, i.bytes)) = some (some (.agg #[.int .i64 0, .int .i64 0, .int .i64 0]), 3, 24) := by kernel_rfl
theorem arCells_one (ys : List Ar) : ∀ u ∈ arCells ys, u.oneCell' = true := by
  intro u hu
  simp only [arCells, List.mem_flatMap] at hu
  obtain ⟨a, -, ha⟩ := hu
  simp only [List.mem_cons, List.not_mem_nil, or_false] at ha
  rcases ha with rfl | rfl | rfl <;> rfl
theorem ArgsAt.news {w : World} {B : Nat} {ys : List Ar} (h : ArgsAt w B ys) : ∀ j u, (arCells ys)[j]? = some u → w.cell? ((⟨B, 0, none⟩ : Addr).add j) = some u := by
  intro j u hu
  have hadd : (⟨B, 0, none⟩ : Addr).add j = ⟨B, j, none⟩ := by unfold Addr.add; split <;> simp_all
  rw [hadd]
  have hj : j < ys.length * 3 := by
    have := (List.getElem?_eq_some_iff.1 hu).1
    rwa [arCells_len] at this
  obtain ⟨a, b, c⟩ := arCells_at ys (j / 3) (by omega)
  obtain ⟨h0, h1, h2⟩ := h (j / 3) (by omega)
  have hm : j % 3 = 0 ∨ j % 3 = 1 ∨ j % 3 = 2 := by omega
  rcases hm with hm | hm | hm
  · rw [show j / 3 * 3 = j by omega] at a h0
    rw [a] at hu; rw [h0, hu]
  · rw [show j / 3 * 3 + 1 = j by omega] at b h1
    rw [b] at hu; rw [h1, hu]
  · rw [show j / 3 * 3 + 2 = j by omega] at c h2
    rw [c] at hu; rw [h2, hu]

/-- append to a row of operands that is the call's own. -/
theorem wpList_app {ops : Array Oper} {rest : List Oper} {o : Oper} {a : Act} {Q : Exit → Act → World → Prop} (w : World) (hgd : o.guard = none) (s x : Operand)
    (ho : o.op = .call { callee := .builtin .append, args := #[s, x], argTypes := #[23, 23] }) (base : Nat)
    (v : Value) (n : Nat) (xs : List Value) (hs : a.eval s = v) (hown : w.ownsRow base 51 3 v n xs)
    (ad : Addr) (m c : Nat) (news : List Value) (hx : a.eval x = .slice (some ad) m c) (hl : news.length = m * 3) (hnews : ∀ j u, news[j]? = some u → w.cell? (ad.add j) = some u) (h1 : ∀ u ∈ news, u.oneCell' = true)
    (hb : n + m ≤ 1000) (hbase : base ≤ w.heap.size)
    (h : ∀ v' w', w'.ownsRow base 51 3 v' (n + m) (xs ++ news) → w.grownBy w' v.ownBlock → (v' = .slice none 0 0 ↔ v = .slice none 0 0 ∧ m = 0) → wpList Tryz.prog ops Q rest (a.put o.dst v') w') : wpList Tryz.prog ops Q (o :: rest) a w := by
  obtain ⟨i0, hi, hz0, hz1, hz2⟩ := info_parts iDev
  exact wpList_append_own w hgd s x _ ho base _ i0 _ 3 24 Tryz.underlying23 hi hz0 hz1 hz2 rfl (by decide) v n xs hs hown ad m c news hx hl hnews h1 (by unfold maxLen; omega) (by omega) hbase h
theorem wpList_copy {ops : Array Oper} {rest : List Oper} {o : Oper} {a : Act} {Q : Exit → Act → World → Prop} (w : World) (hgd : o.guard = none) (s x : Operand)
    (ho : o.op = .call { callee := .builtin .append, args := #[s, x], argTypes := #[23, 23] }) (base : Nat)
    (g0 : Nat) (hs : a.eval s = .slice (some ⟨g0, 0, none⟩) 0 0) (hown : w.ownsRow base 51 3 (.slice (some ⟨g0, 0, none⟩) 0 0) 0 [])
    (ad : Addr) (m c : Nat) (news : List Value) (hx : a.eval x = .slice (some ad) m c) (hl : news.length = m * 3) (hnews : ∀ j u, news[j]? = some u → w.cell? (ad.add j) = some u) (h1 : ∀ u ∈ news, u.oneCell' = true)
    (hb : m ≤ 1000) (hbase : base ≤ w.heap.size)
    (h : ∀ v' w', Hid (w'.ownsRow base 51 3 v' m news) → Hid (w.grownBy w' (some g0)) → Hid (v' ≠ .slice none 0 0) → wpList Tryz.prog ops Q rest (a.put o.dst v') w') : wpList Tryz.prog ops Q (o :: rest) a w :=
  wpList_app w hgd s x ho base _ 0 [] hs hown ad m c news hx hl hnews h1 (by omega) hbase (fun v' w' h1 h2 h3 => h v' w' (by rw [Nat.zero_add, List.nil_append] at h1; exact h1) h2 (fun e => by have := (h3.1 e).1; simp at this))
theorem wpList_app0 {ops : Array Oper} {rest : List Oper} {o : Oper} {a : Act} {Q : Exit → Act → World → Prop} {w : World} (hgd : o.guard = none) (s x : Operand)
    (ho : o.op = .call { callee := .builtin .append, args := #[s, x], argTypes := #[23, 23] }) (base : Nat)
    (v : Value) (n : Nat) (xs : List Value) (hs : a.eval s = v) (hown : w.ownsRow base 51 3 v n xs) (hx : a.eval x = .slice none 0 0)
    (h : wpList Tryz.prog ops Q rest (a.put o.dst v) w) : wpList Tryz.prog ops Q (o :: rest) a w := by
  obtain ⟨i0, hi, hz0, hz1, hz2⟩ := info_parts iDev
  exact wpList_append_own_none hgd s x _ ho base _ i0 3 Tryz.underlying23 hi v n xs hs hown hx h

theorem step_app {ops : Array Oper} {o : Oper} {a : Act} {K : Act → World → Prop} {Q : Exit → Act → World → Prop} {E : Prop} (w : World) (hgd : o.guard = none) (s x : Operand)
    (ho : o.op = .call { callee := .builtin .append, args := #[s, x], argTypes := #[23, 23] }) (base : Nat)
    (v : Value) (n : Nat) (xs : List Value) (hs : a.eval s = v) (hown : w.ownsRow base 51 3 v n xs)
    (ad : Addr) (m c : Nat) (news : List Value) (hx : a.eval x = .slice (some ad) m c) (hl : news.length = m * 3) (hnews : ∀ j u, news[j]? = some u → w.cell? (ad.add j) = some u) (h1 : ∀ u ∈ news, u.oneCell' = true)
    (hm : 0 < m) (hb : n + m ≤ 1000) (hbase : base ≤ w.heap.size)
    (h : ∀ g cap w', Hid (w'.ownsRow base 51 3 (.slice (some ⟨g, 0, none⟩) (n + m) cap) (n + m) (xs ++ news)) → Hid (w.grownBy w' v.ownBlock) → g < w'.heap.size → K (a.put o.dst (.slice (some ⟨g, 0, none⟩) (n + m) cap)) w') :
    if Region.wanted o (yielded ops a.tmps) = true then Oper.wp Tryz.prog o a w K Q else E := by
  obtain ⟨i0, hi, hz0, hz1, hz2⟩ := info_parts iDev
  exact step_append_lies w hgd s x _ ho base _ i0 _ 3 24 Tryz.underlying23 hi hz0 hz1 hz2 rfl (by decide) v n xs hs hown ad m c news hx hl hnews h1 hm (by unfold maxLen; omega) (by omega) hbase _ rfl (fun g cap w' a b _ d => h g cap w' a b d)
theorem arCells_snoc (ys : List Ar) (a : Ar) : arCells ys ++ [.int .i64 a.1, .int .i64 a.2.1, .int .i64 a.2.2] = arCells (ys ++ [a]) := by simp [arCells]
theorem Own2.in {w w' : World} {b B : Nat} {x y : Value} (h : Own2 w b x y) (hb : Below B w w') (hlt : b < B) : Own2 w' b x y := by
  unfold Own2
  rw [hb.cell (p := ⟨b, 0, none⟩) hlt, hb.cell (p := ⟨b, 1, none⟩) hlt, hb.frozen (p := ⟨b, 0, none⟩) hlt, hb.frozen (p := ⟨b, 1, none⟩) hlt]
  exact h
/-- A row of operands in a block of the call's own, with room. -/
def ARow (W : World) (g cp : Nat) (ys : List Ar) : Prop := ∃ cur : Array Value, W.heap[g]? = some (.cells cur 51 (0, 0)) ∧ ys.length ≤ cp ∧ cp ≤ maxLen ∧ cur.size = cp * 3 ∧ cur.toList.take (ys.length * 3) = arCells ys
theorem ARow.lt {W : World} {g cp : Nat} {ys : List Ar} (h : ARow W g cp ys) : g < W.heap.size := by
  obtain ⟨cur, h1, _⟩ := h
  exact (Array.getElem?_eq_some_iff.1 h1).1
theorem ARow.args {W : World} {g cp : Nat} {ys : List Ar} (h : ARow W g cp ys) : ArgsAt W g ys := by
  obtain ⟨cur, h1, h2, _, h3, h4⟩ := h
  intro i hi
  obtain ⟨a, b, c⟩ := arCells_at ys i hi
  rw [← h4, List.getElem?_take] at a b c
  rw [if_pos (by omega)] at a b c
  exact ⟨(cell_of_row _ _ _ _ _ _ h1).trans (by simpa using a), (cell_of_row _ _ _ _ _ _ h1).trans (by simpa using b), (cell_of_row _ _ _ _ _ _ h1).trans (by simpa using c)⟩
theorem ARow.room {W : World} {g cp : Nat} {ys : List Ar} (h : ARow W g cp ys) : ys.length ≤ cp := by
  obtain ⟨cur, h1, h2, _⟩ := h
  exact h2
theorem ARow.free {W : World} {g cp : Nat} {ys : List Ar} (h : ARow W g cp ys) (k : Nat) : W.frozen? ⟨g, k, none⟩ = false := by
  obtain ⟨cur, h1, _⟩ := h
  exact frozen_of_row _ _ _ _ _ h1
theorem ARow.owns {W : World} {g cp base : Nat} {ys : List Ar} (h : ARow W g cp ys) (hb : base ≤ g) : W.ownsRow base 51 3 (.slice (some ⟨g, 0, none⟩) ys.length cp) ys.length (arCells ys) := by
  obtain ⟨cur, h1, h2, h2', h3, h4⟩ := h
  exact ⟨arCells_len ys, .inr ⟨g, cp, cur, rfl, hb, h1, h2, h2', h3, h4⟩⟩
theorem ARow.set {W : World} {g cp c i : Nat} {v : Value} {ys : List Ar} (h : ARow W g cp ys) (hc : g ≠ c) : ARow (W.setCell ⟨c, i, none⟩ v) g cp ys := by
  obtain ⟨cur, h1, h2⟩ := h
  exact ⟨cur, (heap_setCell_other W ⟨c, i, none⟩ g v hc).trans h1, h2⟩
theorem arCells_set : ∀ (ys : List Ar) (k : Nat) (x y z : Int), k < ys.length → (((arCells ys).set (k * 3) (.int .i64 x)).set (k * 3 + 1) (.int .i64 y)).set (k * 3 + 2) (.int .i64 z) = arCells (ys.set k (x, y, z))
  | [], k, _, _, _, h => by simp at h
  | a :: l, 0, x, y, z, _ => by simp [arCells]
  | a :: l, k + 1, x, y, z, h => by
    have ih := arCells_set l k x y z (by simpa using h)
    rw [show (k + 1) * 3 = k * 3 + 1 + 1 + 1 by omega]
    simpa [arCells] using ih
theorem ARow.put {W : World} {g cp : Nat} {ys : List Ar} (h : ARow W g cp ys) {k : Nat} (hk : k < ys.length) (x y z : Int) :
    ARow (((W.setCell ⟨g, k * 3, none⟩ (.int .i64 x)).setCell ⟨g, k * 3 + 1, none⟩ (.int .i64 y)).setCell ⟨g, k * 3 + 2, none⟩ (.int .i64 z)) g cp (ys.set k (x, y, z)) := by
  obtain ⟨cur, h1, h2, h2', h3, h4⟩ := h
  refine ⟨_, heap_setCell_same _ _ _ _ _ _ (heap_setCell_same _ _ _ _ _ _ (heap_setCell_same _ _ _ _ _ _ h1)), by simpa using h2, h2', by simpa using h3, ?_⟩
  rw [← arCells_set ys k x y z hk, ← h4]
  simp [List.take_set]
theorem at3_set {ys : List Ar} {k : Nat} {a : Ar} (hk : k < ys.length) : at3 (ys.set k a) k = a := by simp [at3, List.getD, hk]
theorem arow_of {W : World} {base n : Nat} {v : Value} {ys : List Ar} (h : W.ownsRow base 51 3 v n (arCells ys)) (hn : n = ys.length) (hv : v ≠ .slice none 0 0) : ∃ g cp, v = .slice (some ⟨g, 0, none⟩) ys.length cp ∧ base ≤ g ∧ ARow W g cp ys := by
  subst hn
  rcases h.2 with h' | ⟨g, cap, cur, hv, hb, h1, h2, h3, h4, h5⟩
  · exact absurd h'.1 hv
  · exact ⟨g, cap, hv, hb, cur, h1, h2, h3, h4, h5⟩

theorem ARow.to {W W' : World} {g cp : Nat} {ys : List Ar} (h : ARow W g cp ys) (hb : Below W.heap.size W W') : ARow W' g cp ys := by
  have hl := h.lt
  obtain ⟨cur, h1, h2⟩ := h
  exact ⟨cur, (hb.block g hl).trans h1, h2⟩
end Go.Proofs.YtlddkhhaclfmiaaGreatDoor

/- The document's reading of operands between bytes: l3Args. Helper text: no statement is claimed here. -/
namespace Go.Proofs.YtlddkhhaclfmiaaGreatDoor
open Go.ChangeShapes Go.WideShapes Go.ChangeAt Go.RowKit

/-- Operands as they are read from texts, one by one. -/
def ReadsAs (ps : List (List UInt8)) (ys : List Ar) : Prop := ∀ i, i < ys.length → ∃ b, RdOk (ps.getD i []) (at3 ys i).1 (at3 ys i).2.1 (at3 ys i).2.2 b
theorem ReadsAs.snoc {ps : List (List UInt8)} {ys : List Ar} {k n p : Int} {b : Bool} (h : ReadsAs ps ys) (hr : RdOk (ps.getD ys.length []) k n p b) : ReadsAs ps (ys ++ [(k, n, p)]) := by
  intro i hi
  by_cases hl : i < ys.length
  · have := h i hl
    rwa [show at3 (ys ++ [(k, n, p)]) i = at3 ys i by simp [at3, List.getD, List.getElem?_append, hl]]
  · obtain rfl : i = ys.length := by simp at hi; omega
    rw [show at3 (ys ++ [(k, n, p)]) ys.length = (k, n, p) by simp [at3, List.getD]]
    exact ⟨b, hr⟩
theorem row_cell {W : World} {base g cap : Nat} {ps : List (List UInt8)} (h : W.ownsRow base 9 1 (.slice (some ⟨g, 0, none⟩) ps.length cap) ps.length (ps.map strV)) {i : Nat} (hi : i < ps.length) :
    W.cell? ⟨g, i, none⟩ = some (strV (ps.getD i [])) ∧ g < W.heap.size := by
  rcases h.2 with ⟨h, -⟩ | ⟨g', cp', cur, e, hb, h1, h2, h3, h4, h5⟩
  · simp at h
  · simp only [Value.slice.injEq, Option.some.injEq, Addr.mk.injEq] at e
    obtain ⟨⟨rfl, -, -⟩, -, rfl⟩ := e
    refine ⟨(cell_of_row _ _ _ _ _ _ h1).trans ?_, (Array.getElem?_eq_some_iff.1 h1).1⟩
    have : (ps.map strV)[i]? = some (strV (ps.getD i [])) := by simp [List.getD, hi]
    rw [← h5, List.getElem?_take, if_pos (by omega)] at this
    simpa using this
theorem arow_new (w : World) : ARow (w.alloc (.cells #[] 51)) w.heap.size 0 [] := ⟨#[], heap_alloc_last _ _, Nat.le_refl _, by unfold maxLen; omega, rfl, rfl⟩

theorem cutL_piece (c : UInt8) : ∀ (l p : List UInt8), p ∈ cutL c l → p.length ≤ l.length
  | [], p, h => by simp [cutL] at h; simp [h]
  | x :: l, p, h => by
    unfold cutL at h
    split at h
    · rcases List.mem_cons.1 h with rfl | h
      · simp
      · have := cutL_piece c l p h; simp; omega
    · split at h
      · simp at h; simp [h]
      · rename_i q qs hq
        rcases List.mem_cons.1 h with rfl | h
        · have := cutL_piece c l q (by rw [hq]; simp); simp; omega
        · have := cutL_piece c l p (by rw [hq]; simp [h]); simp; omega
theorem cutL_getD (c : UInt8) (l : List UInt8) (i : Nat) : ((cutL c l).getD i []).length ≤ l.length := by
  by_cases h : i < (cutL c l).length
  · exact cutL_piece c l _ (by simp [List.getD, h])
  · simp [List.getD, List.getElem?_eq_none (Nat.le_of_not_lt h)]
/-- append of one operand to a row of operands that is the call's own. -/
theorem wpList_app1 {ops : Array Oper} {rest : List Oper} {o : Oper} {a : Act} {Q : Exit → Act → World → Prop} (w : World) (hgd : o.guard = none) (s x : Operand)
    (ho : o.op = .call { callee := .builtin .append, args := #[s, x], argTypes := #[23, 23] })
    (g cap : Nat) (ys : List Ar) (hs : a.eval s = .slice (some ⟨g, 0, none⟩) ys.length cap) (hrow : ARow w g cap ys)
    (B : Nat) (k n p : Int) (hx : a.eval x = .slice (some ⟨B, 0, none⟩) 1 1) (hB : w.heap[B]? = some (.cells #[.int .i64 k, .int .i64 n, .int .i64 p] 51 (0, 0)))
    (hb : ys.length ≤ 3000000) (base : Nat) (hbase : base ≤ g)
    (h : ∀ g2 cap2 w', Hid (ARow w' g2 cap2 (ys ++ [(k, n, p)])) → base ≤ g2 → Hid (w.grownBy w' (some g)) → wpList Tryz.prog ops Q rest (a.put o.dst (.slice (some ⟨g2, 0, none⟩) (ys.length + 1) cap2)) w') : wpList Tryz.prog ops Q (o :: rest) a w := by
  obtain ⟨i0, hi, hz0, hz1, hz2⟩ := info_parts iDev
  have hlt := hrow.lt
  refine wpList_append_lies w hgd s x _ ho base _ i0 _ 3 24 Tryz.underlying23 hi hz0 hz1 hz2 rfl (by decide) _ ys.length (arCells ys) hs (hrow.owns hbase) ⟨B, 0, none⟩ 1 1 [.int .i64 k, .int .i64 n, .int .i64 p] hx rfl (World.news_of_block (cs := #[.int .i64 k, .int .i64 n, .int .i64 p]) (t := 51) (fr := (0, 0)) hB) (by simp [Value.oneCell']) (by decide) (by unfold maxLen; omega) (by omega) (by omega) _ rfl (fun g2 cap2 w' h1 h2 _ _ => ?_)
  obtain ⟨g5, cp5, e5, hg5, row5⟩ := arow_of (ys := ys ++ [(k, n, p)]) (n := ys.length + 1) (by rw [← arCells_snoc]; exact h1) (by simp) (by simp)
  simp only [Value.slice.injEq, Option.some.injEq, Addr.mk.injEq] at e5
  obtain ⟨⟨rfl, -, -⟩, -, rfl⟩ := e5
  exact h g2 cap2 w' row5 hg5 h2

set_option maxHeartbeats 1000000 in
theorem args_any (s : ByteArray) (c : UInt8) (w : World) (hs : s.size ≤ 2000000) :
    Calls Tryz.prog 81 #[.string s, .int .u8 (c.toNat : Int)] w fun e w' => ∃ (ys : List Ar) (g cap : Nat), e = .returned (.slice (some ⟨g, 0, none⟩) ys.length cap) ∧ ARow w' g cap ys ∧ w.heap.size ≤ g ∧ Below w.heap.size w w' ∧
      ys.length = min 4 (cutL c s.data.toList).length ∧ ReadsAs (cutL c s.data.toList) ys := by
  have hlen := cutL_len c s.data.toList
  simp only [Array.length_toList] at hlen
  have hlen2 : (cutL c s.data.toList).length ≤ 2000001 := by have : s.data.size = s.size := rfl; omega
  have hne : 1 ≤ (cutL c s.data.toList).length := by
    have := cutL_ne c s.data.toList
    cases h : cutL c s.data.toList with
    | nil => exact absurd h this
    | cons a l => simp
  have HP : Hid (∀ W, Calls Tryz.prog 108 #[.string s, .int .u8 (c.toNat : Int)] W fun e w' => ∃ g cap, e = .returned (.slice (some ⟨g, 0, none⟩) (cutL c s.data.toList).length cap) ∧
      w'.ownsRow W.heap.size 9 1 (.slice (some ⟨g, 0, none⟩) (cutL c s.data.toList).length cap) (cutL c s.data.toList).length ((cutL c s.data.toList).map strV) ∧ Below W.heap.size W w') := fun W => cutw_any s c W hs
  have HS : Hid (∀ i, ((cutL c s.data.toList).getD i []).length ≤ 2000000) := fun i => Nat.le_trans (cutL_getD c s.data.toList i) (by simpa using hs)
  generalize cutL c s.data.toList = ps at *
  clear hlen
  go_enter Tryz.func81, Tryz.ntmps81
  go_wp2_with fail
  refine (HP.out _).mono ?_
  rintro e w1 ⟨g1, cap1, rfl, hrow, hb1⟩
  have HR : Hid (w1.ownsRow w.heap.size 9 1 (.slice (some ⟨g1, 0, none⟩) ps.length cap1) ps.length (ps.map strV)) := hrow
  have HB1 : Hid (Below w.heap.size w w1) := hb1
  have hz1 := hb1.size
  clear hrow hb1 HP
  have HN : Hid (ARow (w1.alloc (.cells #[] 51)) w1.heap.size 0 []) := arow_new w1
  go_wp2
  go_loopw [6, 7] (fun o i w' => ∃ (ys : List Ar) (g cap : Nat), i = .int .i64 (ys.length : Int) ∧ o = .slice (some ⟨g, 0, none⟩) ys.length cap ∧ ys.length ≤ 4 ∧ ys.length ≤ ps.length ∧ w1.heap.size ≤ g ∧ Hid (ARow w' g cap ys) ∧ Hid (ReadsAs ps ys) ∧ Hid (Below w1.heap.size w1 w'))
    (fun _ i _ => 4 - (intOf i).toNat)
  case atStart => exact ⟨[], w1.heap.size, 0, rfl, rfl, by simp, by simp, Nat.le_refl _, HN, fun i hi => by simp at hi, one _ _⟩
  case round =>
    obtain ⟨ys, g, cap, rfl, rfl, hy4, hyp, hgw, HA, HRd, HBr⟩ := hrel
    rename_i wr
    clear HN
    have HBw : Hid (Below w.heap.size w wr) := HB1.out.trans (HBr.out.mono HB1.out.size)
    have hzr := HBr.out.size
    by_cases hlt : ys.length < ps.length
    · have hlt' : (ys.length : Int) < (ps.length : Int) := by omega
      by_cases h4 : ys.length < 4
      · have h4' : (ys.length : Int) < 4 := by omega
        obtain ⟨hc1, hg1⟩ := row_cell HR.out hlt
        have hcell : wr.cell? ⟨g1, ys.length, none⟩ = some (strV (ps.getD ys.length [])) := (HBr.out.cell (p := ⟨g1, ys.length, none⟩) hg1).trans hc1
        have hpl := HS.out ys.length
        have HQ : Hid (∀ k n q b, RdOk (ps.getD ys.length []) k n q b → ReadsAs ps (ys ++ [(k, n, q)])) := fun k n q b h => HRd.out.snoc h
        clear hc1
        generalize ps.getD ys.length [] = pt at *
        unfold strV at hcell
        have hps : (⟨pt.toArray⟩ : ByteArray).size ≤ 2000000 := by simpa [ByteArray.size] using hpl
        go_wp2_with fail
        refine (sread_any ⟨pt.toArray⟩ _ hps).mono ?_
        rintro e w2 ⟨k, n, q, b, rfl, hrd, hb2⟩
        have HRd2 : Hid (ReadsAs ps (ys ++ [(k, n, q)])) := HQ.out k n q b (by simpa using hrd)
        have HA2 : Hid (ARow w2 g cap ys) := HA.out.to hb2
        have HB2 : Hid (Below w1.heap.size w1 w2) := HBr.out.trans (hb2.mono HBr.out.size)
        have hz2 := HB2.out.size
        clear hrd hb2 HQ
        have HN1 : Hid (∀ o o', ((w2.alloc o).alloc o').heap[w2.heap.size + 1]? = some o') := fun o o' => by
          have := heap_alloc_last (w2.alloc o) o'
          rwa [World.size_alloc] at this
        have HA3 : Hid (∀ o o', ARow ((w2.alloc o).alloc o') g cap ys) := fun o o' => (HA2.out.to (one _ _)).to (one _ _)
        go_wp2_with (at_builtin; refine wpList_app1 _ rfl (.tmp 32) (.tmp 34) rfl g cap ys rfl (HA3.out _ _) (w2.heap.size + 1) k n q rfl (HN1.out _ _) (by omega) w1.heap.size hgw ?_; intro g2 cap2 w3 HR3 hg2 HG3)
        have bel : Below w1.heap.size w1 w3 := ((HB2.out.alloc HB2.out.size (.cells #[.int .i64 k, .int .i64 n, .int .i64 q] 51)).alloc (by simp; omega) (.cells #[.int .i64 k, .int .i64 n, .int .i64 q] 51)).trans ((Below.refl _ _).grown HG3.out (by simp; omega) (fun k e => by cases e; exact hgw))
        go_roundw
        case rel => exact ⟨ys ++ [(k, n, q)], g2, cap2, by simp, by simp, by simp; omega, by simp; omega, hg2, HR3, HRd2, bel⟩
        case measure => simp [intOf]; omega
      · have h4' : ¬ (ys.length : Int) < 4 := by omega
        go_wp2
        go_ret
        exact ⟨ys, g, cap, rfl, HA.out, by omega, HBw.out, by omega, HRd.out⟩
    · have hlt' : ¬ (ys.length : Int) < (ps.length : Int) := by omega
      go_wp2
      go_ret
      exact ⟨ys, g, cap, rfl, HA.out, by omega, HBw.out, by omega, HRd.out⟩
end Go.Proofs.YtlddkhhaclfmiaaGreatDoor

/- The table of contacts and coils, as elemRowOf lays it. Helper text: no statement is claimed here. -/
namespace Go.Proofs.YtlddkhhaclfmiaaGreatDoor
open Go.RowKit Go.Great

/-- A frame without deferred calls. -/
def actOf (t : Array Value) : Act := { tmps := t, defers := [] }
/-- A row of operations that build values out of temporaries and read whole variables that are known. -/
def runB (P : Program) (ld : List (Nat × TypeId × Array Value)) : List Oper → Array Value → Option (Array Value)
  | [], t => some t
  | o :: l, t =>
    match o.guard, o.op, o.dst with
    | none, .build ty parts, some d =>
      if ld.any (fun x => x.1 == d) then none else
      (P.built ty (parts.map fun (i, x) => (i, (actOf t).eval x)).toList).bind fun cells => runB P ld l (t.setIfInBounds d (.agg cells))
    | none, .load ty (.tmp j), some d =>
      if ld.any (fun x => x.1 == d) then none else
      (ld.find? (fun x => x.1 == j && x.2.1 == ty)).bind fun x => runB P ld l (t.setIfInBounds d (.agg x.2.2))
    | _, _, _ => none
theorem put_actOf (t : Array Value) (d : Tmp) (v : Value) : (actOf t).put (some d) v = actOf (t.setIfInBounds d v) := rfl
theorem runB_ok {P : Program} {ops : Array Oper} {rest : List Oper} {Q : Exit → Act → World → Prop} {w : World} (ld : List (Nat × TypeId × Array Value)) (g : Nat → Nat)
    (hw : ∀ x ∈ ld, ∃ tt fr d, w.heap[g x.1]? = some (.cells x.2.2 tt fr) ∧ P.underlying x.2.1 = some d ∧ (match d with | .struct _ | .array _ _ => true | _ => false) = true ∧ (P.info? x.2.1).map (·.size) = some x.2.2.size) {t' : Array Value}
    (hr : wpList P ops Q rest (actOf t') w) : ∀ (l : List Oper) (t : Array Value), (∀ x ∈ ld, (actOf t).eval (.tmp x.1) = .pointer (some ⟨g x.1, 0, none⟩)) →
    runB P ld l t = some t' → wpList P ops Q (l ++ rest) (actOf t) w
  | [], t, _, h => by
    simp only [runB, Option.some.injEq] at h
    subst h
    exact hr
  | o :: l, t, hp, h => by
    have keep : ∀ (d : Nat) (v : Value), (ld.any fun x => x.1 == d) = false → ∀ x ∈ ld, (actOf (t.setIfInBounds d v)).eval (.tmp x.1) = .pointer (some ⟨g x.1, 0, none⟩) := by
      intro d v hd x hx
      rw [← hp x hx, ← put_actOf]
      refine Act.eval_put_ne _ _ _ _ ?_
      intro e
      subst e
      have := List.any_eq_false.1 hd x hx
      simp at this
    unfold runB at h
    split at h
    next hg ho hd =>
      rename_i ty parts d
      split at h
      · cases h
      next hn =>
        obtain ⟨cells, hb, hc⟩ := Option.bind_eq_some_iff.1 h
        exact wpList_buildTo hg ty parts ho (some d) hd cells hb (runB_ok ld g hw hr l _ (keep d _ (Bool.eq_false_iff.2 hn)) hc)
    next hg ho hd =>
      rename_i ty j d
      split at h
      · cases h
      next hn =>
        obtain ⟨x, hf, hc⟩ := Option.bind_eq_some_iff.1 h
        have hx := List.mem_of_find?_eq_some hf
        have hj := List.find?_some hf
        simp only [Bool.and_eq_true, beq_iff_eq] at hj
        obtain ⟨tt, fr, dd, h1, h2, h3, h4⟩ := hw x hx
        have e1 := hp x hx
        rw [hj.1] at e1 h1
        rw [hj.2] at h2 h4
        refine wpList_load_row hg ty (.tmp j) ho (g j) e1 tt x.2.2 fr dd h1 h2 (by cases dd <;> simp_all) h4 ?_
        rw [hd]
        exact runB_ok ld g hw hr l _ (keep d _ (Bool.eq_false_iff.2 hn)) hc
    · cases h
theorem store_func (P : Program) (w : World) (a : Addr) (f : Fn) (x y : Array Value) (m : Mode) : (store a (.func f x y) m).run P w = stored P w a (.func f x y) m := run_store P w a _ m rfl
theorem store_nilFunc (P : Program) (w : World) (a : Addr) (m : Mode) : (store a .nilFunc m).run P w = stored P w a .nilFunc m := run_store P w a _ m rfl
attribute [local go_sem] store_func store_nilFunc
/-! What the document's two tables say of each number. The sorts of operands: 1 a bit, 2 a whole, 3 a real, 4 an E, 5 an S, 6 a T, 7 a C, 8 a D, 9 an R, 10 a Y or M, 11 a Y, M or S, 12 a Y, M, S, T or C, 13 a DevInt of 0 or more. -/
/-- The function that looks whether an operand is of a sort. -/
def fid : Nat → Nat
  | 1 => 47 | 2 => 41 | 3 => 42 | 4 => 48 | 5 => 52 | 6 => 43 | 7 => 53 | 8 => 45 | 9 => 46 | 10 => 49 | 11 => 50 | 12 => 51 | _ => 44
def fv : Nat → Value
  | 0 => .nilFunc
  | n + 1 => .func (.func (fid (n + 1))) #[] #[]
def fmv (fs : List Nat) : List Value := [fv (fs.getD 0 0), fv (fs.getD 1 0), fv (fs.getD 2 0)]
def ecells (op : Nat) : List Value := [.string ⟨(nm op).toArray⟩, .int .i32 (mk op), .int .i64 (ts op)] ++ fmv (fm0 op) ++ fmv (fm1 op)
def erows : Array Value := ((List.range 38).flatMap ecells).toArray
def ezeros : Array Value := ((List.range 38).flatMap fun _ => ecells 0).toArray
def ag (l : List Value) : Value := .agg l.toArray
/-- What the temporaries hold behind the building of the table. -/
def tz : Nat → Value
  | 7 => ag (fmv [2, 2]) | 8 => ag (fmv [3, 3]) | 9 => ag (fmv [2, 2] ++ fmv [3, 3]) | 10 => ag (fmv [6, 13]) | 11 => ag (fmv [6, 13] ++ fmv []) | 12 => ag (fmv [8, 2, 2]) | 13 => ag (fmv [9, 3, 3]) | 14 => ag (fmv [8, 2, 2] ++ fmv [9, 3, 3]) | 15 => ag (fmv [1]) | 16 => ag (fmv [1] ++ fmv []) | 17 => ag (ecells 1) | 18 => ag (fmv [1]) | 19 => ag (fmv [1] ++ fmv []) | 20 => ag (ecells 2) | 21 => ag (fmv [1, 4]) | 22 => ag (fmv [1, 4] ++ fmv []) | 23 => ag (ecells 3) | 24 => ag (fmv [1, 4]) | 25 => ag (fmv [1, 4] ++ fmv []) | 26 => ag (ecells 4) | 27 => ag (fmv [2, 2] ++ fmv [3, 3]) | 28 => ag (ecells 5) | 29 => ag (fmv [2, 2] ++ fmv [3, 3]) | 30 => ag (ecells 6) | 31 => ag (fmv [2, 2] ++ fmv [3, 3]) | 32 => ag (ecells 7) | 33 => ag (fmv [2, 2] ++ fmv [3, 3]) | 34 => ag (ecells 8) | 35 => ag (fmv [2, 2] ++ fmv [3, 3]) | 36 => ag (ecells 9) | 37 => ag (fmv [2, 2] ++ fmv [3, 3]) | 38 => ag (ecells 10) | 39 => ag (fmv [10]) | 40 => ag (fmv [10] ++ fmv []) | 41 => ag (ecells 21) | 42 => ag (fmv [11]) | 43 => ag (fmv [11] ++ fmv []) | 44 => ag (ecells 22) | 45 => ag (fmv [12]) | 46 => ag (fmv [12] ++ fmv []) | 47 => ag (ecells 23) | 48 => ag (fmv [10, 4]) | 49 => ag (fmv [10, 4] ++ fmv []) | 50 => ag (ecells 24) | 51 => ag (fmv [5]) | 52 => ag (fmv [5] ++ fmv []) | 53 => ag (ecells 25) | 54 => ag (fmv [6, 13] ++ fmv []) | 55 => ag (ecells 26) | 56 => ag (fmv [6, 13] ++ fmv []) | 57 => ag (ecells 27) | 58 => ag (fmv [6, 13] ++ fmv []) | 59 => ag (ecells 28) | 60 => ag (fmv [7, 13]) | 61 => ag (fmv [7, 13] ++ fmv []) | 62 => ag (ecells 29) | 63 => ag (fmv [8, 2]) | 64 => ag (fmv [9, 3]) | 65 => ag (fmv [8, 2] ++ fmv [9, 3]) | 66 => ag (ecells 30) | 67 => ag (fmv [8, 2, 2] ++ fmv [9, 3, 3]) | 68 => ag (ecells 31) | 69 => ag (fmv [8, 2, 2] ++ fmv [9, 3, 3]) | 70 => ag (ecells 32) | 71 => ag (fmv [8, 2, 2] ++ fmv [9, 3, 3]) | 72 => ag (ecells 33) | 73 => ag (fmv [8, 2, 2] ++ fmv [9, 3, 3]) | 74 => ag (ecells 34) | 75 => ag (fmv [8, 2, 2]) | 76 => ag (fmv [8, 2, 2] ++ fmv []) | 77 => ag (ecells 35) | 78 => ag (fmv [9, 2]) | 79 => ag (fmv [9, 2] ++ fmv []) | 80 => ag (ecells 36) | 81 => ag (fmv [8, 3]) | 82 => ag (fmv [8, 3] ++ fmv []) | 83 => ag (ecells 37) | _ => .agg erows
def tzs (x : Int) (n : Nat) : Array Value := #[.int .i64 x, undef, .pointer (some ⟨n, 0, none⟩), .pointer (some ⟨n + 1, 0, none⟩), .pointer (some ⟨n + 1 + 1, 0, none⟩), .pointer (some ⟨n + 1 + 1 + 1, 0, none⟩), undef, tz 7, tz 8, tz 9, tz 10, tz 11, tz 12, tz 13, tz 14, undef, undef, undef, undef, undef, undef, undef, undef, undef, undef, undef, undef, undef, undef, undef, undef, undef, undef, undef, undef, undef, undef, undef, undef, undef, undef, undef, undef, undef, undef, undef, undef, undef, undef, undef, undef, undef, undef, undef, undef, undef, undef, undef, undef, undef, undef, undef, undef, undef, undef, undef, undef, undef, undef, undef, undef, undef, undef, undef, undef, undef, undef, undef, undef, undef, undef, undef, undef, undef, undef, undef, undef, undef, undef, undef, undef, undef, undef, undef, undef]
def tze (x : Int) (n : Nat) : Array Value := #[.int .i64 x, undef, .pointer (some ⟨n, 0, none⟩), .pointer (some ⟨n + 1, 0, none⟩), .pointer (some ⟨n + 1 + 1, 0, none⟩), .pointer (some ⟨n + 1 + 1 + 1, 0, none⟩), undef, tz 7, tz 8, tz 9, tz 10, tz 11, tz 12, tz 13, tz 14, tz 15, tz 16, tz 17, tz 18, tz 19, tz 20, tz 21, tz 22, tz 23, tz 24, tz 25, tz 26, tz 27, tz 28, tz 29, tz 30, tz 31, tz 32, tz 33, tz 34, tz 35, tz 36, tz 37, tz 38, tz 39, tz 40, tz 41, tz 42, tz 43, tz 44, tz 45, tz 46, tz 47, tz 48, tz 49, tz 50, tz 51, tz 52, tz 53, tz 54, tz 55, tz 56, tz 57, tz 58, tz 59, tz 60, tz 61, tz 62, tz 63, tz 64, tz 65, tz 66, tz 67, tz 68, tz 69, tz 70, tz 71, tz 72, tz 73, tz 74, tz 75, tz 76, tz 77, tz 78, tz 79, tz 80, tz 81, tz 82, tz 83, tz 84, undef, undef, undef, undef, undef, undef, undef, undef, undef, undef]
theorem heap_at (w : World) (o : Obj) (n : Nat) (h : n = w.heap.size) : (w.alloc o).heap[n]? = some o := by subst h; exact heap_alloc_last w o
theorem wpList_part {P : Program} {ops : Array Oper} {l : List Oper} {Q : Exit → Act → World → Prop} {a : Act} {w : World} (n : Nat) (h : wpList P ops Q (l.take n ++ l.drop n) a w) : wpList P ops Q l a w := by
  rwa [List.take_append_drop] at h
def eld : List (Nat × TypeId × Array Value) := [(3, 44, (fmv [2, 2] ++ fmv [3, 3]).toArray), (4, 44, (fmv [6, 13] ++ fmv []).toArray), (5, 44, (fmv [8, 2, 2] ++ fmv [9, 3, 3]).toArray)]
theorem eld_ok {W : World} {n : Nat} (h3 : W.heap[n + 1]? = some (.cells (fmv [2, 2] ++ fmv [3, 3]).toArray 44 (0, 0))) (h4 : W.heap[n + 1 + 1]? = some (.cells (fmv [6, 13] ++ fmv []).toArray 44 (0, 0)))
    (h5 : W.heap[n + 1 + 1 + 1]? = some (.cells (fmv [8, 2, 2] ++ fmv [9, 3, 3]).toArray 44 (0, 0))) :
    ∀ x ∈ eld, ∃ tt fr d, W.heap[n + (x.1 - 2)]? = some (.cells x.2.2 tt fr) ∧ Tryz.prog.underlying x.2.1 = some d ∧ (match d with | .struct _ | .array _ _ => true | _ => false) = true ∧ (Tryz.prog.info? x.2.1).map (·.size) = some x.2.2.size := by
  intro x hx
  simp only [eld, List.mem_cons, List.not_mem_nil, or_false] at hx
  rcases hx with rfl | rfl | rfl
  · exact ⟨_, _, _, h3, Tryz.underlying44, rfl, by kernel_rfl⟩
  · exact ⟨_, _, _, h4, Tryz.underlying44, rfl, by kernel_rfl⟩
  · exact ⟨_, _, _, h5, Tryz.underlying44, rfl, by kernel_rfl⟩
theorem eld_at (x : Int) (n : Nat) : ∀ y ∈ eld, (actOf (tzs x n)).eval (.tmp y.1) = .pointer (some ⟨n + (y.1 - 2), 0, none⟩) := by
  intro y hy
  simp only [eld, List.mem_cons, List.not_mem_nil, or_false] at hy
  rcases hy with rfl | rfl | rfl <;> rfl
theorem tz84 (x : Int) (n : Nat) (v : Value) : ((actOf (tze x n)).put (some 6) v).eval (.tmp 84) = .agg erows := by kernel_rfl
theorem tz6 (x : Int) (n : Nat) (v : Value) : ((actOf (tze x n)).put (some 6) v).eval (.tmp 6) = v := by kernel_rfl
theorem tzf (x : Int) (n m : Nat) : (actOf (tze x n)).put (some 6) (.pointer (some ⟨m, 0, none⟩)) = { tmps := #[.int .i64 x, undef, .pointer (some ⟨n, 0, none⟩), .pointer (some ⟨n + 1, 0, none⟩), .pointer (some ⟨n + 1 + 1, 0, none⟩), .pointer (some ⟨n + 1 + 1 + 1, 0, none⟩), .pointer (some ⟨m, 0, none⟩), tz 7, tz 8, tz 9, tz 10, tz 11, tz 12, tz 13, tz 14, tz 15, tz 16, tz 17, tz 18, tz 19, tz 20, tz 21, tz 22, tz 23, tz 24, tz 25, tz 26, tz 27, tz 28, tz 29, tz 30, tz 31, tz 32, tz 33, tz 34, tz 35, tz 36, tz 37, tz 38, tz 39, tz 40, tz 41, tz 42, tz 43, tz 44, tz 45, tz 46, tz 47, tz 48, tz 49, tz 50, tz 51, tz 52, tz 53, tz 54, tz 55, tz 56, tz 57, tz 58, tz 59, tz 60, tz 61, tz 62, tz 63, tz 64, tz 65, tz 66, tz 67, tz 68, tz 69, tz 70, tz 71, tz 72, tz 73, tz 74, tz 75, tz 76, tz 77, tz 78, tz 79, tz 80, tz 81, tz 82, tz 83, tz 84, undef, undef, undef, undef, undef, undef, undef, undef, undef, undef], defers := [] } := by kernel_rfl
theorem erows_at : ∀ i, i < 38 → erows[i * 9]? = some (.string ⟨(nm i).toArray⟩) ∧ erows[i * 9 + 1]? = some (.int .i32 (mk i)) ∧ erows[i * 9 + 2]? = some (.int .i64 (ts i)) ∧
    erows[i * 9 + 3]? = some (fv ((fm0 i).getD 0 0)) ∧ erows[i * 9 + 4]? = some (fv ((fm0 i).getD 1 0)) ∧ erows[i * 9 + 5]? = some (fv ((fm0 i).getD 2 0)) ∧
    erows[i * 9 + 6]? = some (fv ((fm1 i).getD 0 0)) ∧ erows[i * 9 + 7]? = some (fv ((fm1 i).getD 1 0)) ∧ erows[i * 9 + 8]? = some (fv ((fm1 i).getD 2 0))
  | 0, _ => by refine ⟨?_, ?_, ?_, ?_, ?_, ?_, ?_, ?_, ?_⟩ <;> kernel_rfl
  | 1, _ => by refine ⟨?_, ?_, ?_, ?_, ?_, ?_, ?_, ?_, ?_⟩ <;> kernel_rfl
  | 2, _ => by refine ⟨?_, ?_, ?_, ?_, ?_, ?_, ?_, ?_, ?_⟩ <;> kernel_rfl
  | 3, _ => by refine ⟨?_, ?_, ?_, ?_, ?_, ?_, ?_, ?_, ?_⟩ <;> kernel_rfl
  | 4, _ => by refine ⟨?_, ?_, ?_, ?_, ?_, ?_, ?_, ?_, ?_⟩ <;> kernel_rfl
  | 5, _ => by refine ⟨?_, ?_, ?_, ?_, ?_, ?_, ?_, ?_, ?_⟩ <;> kernel_rfl
  | 6, _ => by refine ⟨?_, ?_, ?_, ?_, ?_, ?_, ?_, ?_, ?_⟩ <;> kernel_rfl
  | 7, _ => by refine ⟨?_, ?_, ?_, ?_, ?_, ?_, ?_, ?_, ?_⟩ <;> kernel_rfl
  | 8, _ => by refine ⟨?_, ?_, ?_, ?_, ?_, ?_, ?_, ?_, ?_⟩ <;> kernel_rfl
  | 9, _ => by refine ⟨?_, ?_, ?_, ?_, ?_, ?_, ?_, ?_, ?_⟩ <;> kernel_rfl
  | 10, _ => by refine ⟨?_, ?_, ?_, ?_, ?_, ?_, ?_, ?_, ?_⟩ <;> kernel_rfl
  | 11, _ => by refine ⟨?_, ?_, ?_, ?_, ?_, ?_, ?_, ?_, ?_⟩ <;> kernel_rfl
  | 12, _ => by refine ⟨?_, ?_, ?_, ?_, ?_, ?_, ?_, ?_, ?_⟩ <;> kernel_rfl
  | 13, _ => by refine ⟨?_, ?_, ?_, ?_, ?_, ?_, ?_, ?_, ?_⟩ <;> kernel_rfl
  | 14, _ => by refine ⟨?_, ?_, ?_, ?_, ?_, ?_, ?_, ?_, ?_⟩ <;> kernel_rfl
  | 15, _ => by refine ⟨?_, ?_, ?_, ?_, ?_, ?_, ?_, ?_, ?_⟩ <;> kernel_rfl
  | 16, _ => by refine ⟨?_, ?_, ?_, ?_, ?_, ?_, ?_, ?_, ?_⟩ <;> kernel_rfl
  | 17, _ => by refine ⟨?_, ?_, ?_, ?_, ?_, ?_, ?_, ?_, ?_⟩ <;> kernel_rfl
  | 18, _ => by refine ⟨?_, ?_, ?_, ?_, ?_, ?_, ?_, ?_, ?_⟩ <;> kernel_rfl
  | 19, _ => by refine ⟨?_, ?_, ?_, ?_, ?_, ?_, ?_, ?_, ?_⟩ <;> kernel_rfl
  | 20, _ => by refine ⟨?_, ?_, ?_, ?_, ?_, ?_, ?_, ?_, ?_⟩ <;> kernel_rfl
  | 21, _ => by refine ⟨?_, ?_, ?_, ?_, ?_, ?_, ?_, ?_, ?_⟩ <;> kernel_rfl
  | 22, _ => by refine ⟨?_, ?_, ?_, ?_, ?_, ?_, ?_, ?_, ?_⟩ <;> kernel_rfl
  | 23, _ => by refine ⟨?_, ?_, ?_, ?_, ?_, ?_, ?_, ?_, ?_⟩ <;> kernel_rfl
  | 24, _ => by refine ⟨?_, ?_, ?_, ?_, ?_, ?_, ?_, ?_, ?_⟩ <;> kernel_rfl
  | 25, _ => by refine ⟨?_, ?_, ?_, ?_, ?_, ?_, ?_, ?_, ?_⟩ <;> kernel_rfl
  | 26, _ => by refine ⟨?_, ?_, ?_, ?_, ?_, ?_, ?_, ?_, ?_⟩ <;> kernel_rfl
  | 27, _ => by refine ⟨?_, ?_, ?_, ?_, ?_, ?_, ?_, ?_, ?_⟩ <;> kernel_rfl
  | 28, _ => by refine ⟨?_, ?_, ?_, ?_, ?_, ?_, ?_, ?_, ?_⟩ <;> kernel_rfl
  | 29, _ => by refine ⟨?_, ?_, ?_, ?_, ?_, ?_, ?_, ?_, ?_⟩ <;> kernel_rfl
  | 30, _ => by refine ⟨?_, ?_, ?_, ?_, ?_, ?_, ?_, ?_, ?_⟩ <;> kernel_rfl
  | 31, _ => by refine ⟨?_, ?_, ?_, ?_, ?_, ?_, ?_, ?_, ?_⟩ <;> kernel_rfl
  | 32, _ => by refine ⟨?_, ?_, ?_, ?_, ?_, ?_, ?_, ?_, ?_⟩ <;> kernel_rfl
  | 33, _ => by refine ⟨?_, ?_, ?_, ?_, ?_, ?_, ?_, ?_, ?_⟩ <;> kernel_rfl
  | 34, _ => by refine ⟨?_, ?_, ?_, ?_, ?_, ?_, ?_, ?_, ?_⟩ <;> kernel_rfl
  | 35, _ => by refine ⟨?_, ?_, ?_, ?_, ?_, ?_, ?_, ?_, ?_⟩ <;> kernel_rfl
  | 36, _ => by refine ⟨?_, ?_, ?_, ?_, ?_, ?_, ?_, ?_, ?_⟩ <;> kernel_rfl
  | 37, _ => by refine ⟨?_, ?_, ?_, ?_, ?_, ?_, ?_, ?_, ?_⟩ <;> kernel_rfl
  | n + 38, h => absurd h (by omega)
def putL (w : World) (b : Nat) : List Value → Nat → World
  | [], _ => w
  | v :: l, i => putL (w.setCell ⟨b, i, none⟩ v) b l (i + 1)
theorem putL_row (b : Nat) (t : TypeId) : ∀ (l : List Value) (i : Nat) (w : World) (cs : Array Value), w.heap[b]? = some (.cells cs t (0, 0)) → i + l.length = cs.size → (putL w b l i).heap[b]? = some (.cells (cs.toList.take i ++ l).toArray t (0, 0))
  | [], i, w, cs, h, hl => by
    simp only [List.length_nil, Nat.add_zero] at hl
    rw [putL, h, hl, show cs.size = cs.toList.length by simp, List.take_length]
    simp
  | v :: l, i, w, cs, h, hl => by
    simp only [List.length_cons] at hl
    have h1 : (w.setCell ⟨b, i, none⟩ v).heap[b]? = some (.cells (cs.setIfInBounds i v) t (0, 0)) := heap_setCell_same w b i cs t v h
    rw [putL, putL_row b t l (i + 1) _ _ h1 (by simp; omega)]
    congr 3
    apply List.ext_getElem?
    intro k
    simp only [Array.toList_setIfInBounds, List.getElem?_append, List.length_take, List.length_set, Array.length_toList]
    by_cases hk : k < i
    · simp [show i ≠ k by omega, show k < min (i + 1) cs.size by omega, show k < min i cs.size by omega]
    · by_cases hk2 : k = i
      · subst hk2
        simp [show k < min (k + 1) cs.size by omega, show ¬ k < min k cs.size by omega, show k - min k cs.size = 0 by omega]
      · rw [if_neg (by omega), if_neg (by omega), show min (i + 1) cs.size = i + 1 by omega, show min i cs.size = i by omega, show k - i = (k - (i + 1)) + 1 by omega]
        simp
theorem putL_below {W : World} {b : Nat} (hb : W.heap.size ≤ b) : ∀ (l : List Value) (i : Nat) (w : World), Below W.heap.size W w → Below W.heap.size W (putL w b l i)
  | [], _, _, h => h
  | v :: l, i, _, h => putL_below hb l (i + 1) _ (h.setCell (p := ⟨b, i, none⟩) hb v)
theorem row9 {V : World} {b : Nat} (h : V.heap[b]? = some (.cells (ecells 0).toArray 46 (0, 0))) :
    V.cell? ⟨b, 0, none⟩ = some (.string ⟨#[]⟩) ∧ V.cell? ⟨b, 1, none⟩ = some (.int .i32 0) ∧ V.cell? ⟨b, 2, none⟩ = some (.int .i64 0) ∧ V.cell? ⟨b, 3, none⟩ = some .nilFunc ∧ V.cell? ⟨b, 4, none⟩ = some .nilFunc ∧ V.cell? ⟨b, 5, none⟩ = some .nilFunc ∧
    V.cell? ⟨b, 6, none⟩ = some .nilFunc ∧ V.cell? ⟨b, 7, none⟩ = some .nilFunc ∧ V.cell? ⟨b, 8, none⟩ = some .nilFunc :=
  ⟨cell_of_row _ _ 0 _ _ _ h, cell_of_row _ _ 1 _ _ _ h, cell_of_row _ _ 2 _ _ _ h, cell_of_row _ _ 3 _ _ _ h, cell_of_row _ _ 4 _ _ _ h, cell_of_row _ _ 5 _ _ _ h, cell_of_row _ _ 6 _ _ _ h, cell_of_row _ _ 7 _ _ _ h, cell_of_row _ _ 8 _ _ _ h⟩
theorem fv_store (P : Program) (w : World) (a : Addr) (k : Nat) (m : Mode) : (store a (fv k) m).run P w = stored P w a (fv k) m := run_store P w a _ m (by cases k <;> rfl)
attribute [local go_sem] fv_store
theorem resRow {fn : Func} {V : World} {b p : Nat} {tmps : Array Value} {l : List Value} (h : fn.results = #[.cell p 46]) (hp : tmps.getD p undef = .pointer (some ⟨b, 0, none⟩))
    (hr : V.heap[b]? = some (.cells (ecells 0).toArray 46 (0, 0))) (hl : l.length = 9) : (results fn tmps).run Tryz.prog (putL V b l 0) = .ok (.agg l.toArray) (putL V b l 0) := by
  refine results_cell_row h tmps _ b 46 l.toArray (0, 0) _ hp ?_ Tryz.underlying46 rfl (by rw [show l.toArray.size = 9 by simpa using hl]; kernel_rfl)
  have := putL_row b 46 l 0 V _ hr (by rw [hl]; rfl)
  simpa using this
set_option maxHeartbeats 1000000 in
theorem erow_any (op : Int) (w : World) :
    Calls Tryz.prog 19 #[.int .i64 op] w fun e w' => e = .returned (.agg (ecells (ez op)).toArray) ∧ Below w.heap.size w w' := by
  go_enter Tryz.func19, Tryz.ntmps19
  apply wp_seq_k; intro K0 hK0
  have hk : Hid _ := hK0
  clear hK0
  go_wp2
  refine hk.out _ _ ?_
  clear hk K0
  apply wp_seq_k; intro K0 hK0
  have hk : Hid _ := hK0
  clear hK0
  go_wp2
  refine hk.out _ _ ?_
  clear hk K0
  apply wp_seq_k; intro K0 hK0
  have hk : Hid _ := hK0
  clear hK0
  go_wp2
  refine hk.out _ _ ?_
  clear hk K0
  apply wp_seq_k; intro K0 hK0
  have hk : Hid _ := hK0
  clear hK0
  go_wp2
  refine hk.out _ _ ?_
  clear hk K0
  apply wp_seq_k; intro K0 hK0
  have hk : Hid _ := hK0
  clear hK0
  apply wp_region_lit
  refine wpList_frame (a' := actOf (tzs op w.heap.size)) (by kernel_rfl) ?_
  refine wpList_part 70 ?_
  refine runB_ok (t' := tze op w.heap.size) eld (fun j => w.heap.size + (j - 2)) (eld_ok ?_ ?_ ?_) ?_ _ _ (eld_at _ _) (by kernel_rfl)
  · exact (heap_alloc_old _ _ (by simp)).trans ((heap_alloc_old _ _ (by simp)).trans ((heap_at _ _ _ (by simp)).trans (by kernel_rfl)))
  · exact (heap_alloc_old _ _ (by simp)).trans ((heap_at _ _ _ (by simp)).trans (by kernel_rfl))
  · exact (heap_at _ _ _ (by simp)).trans (by kernel_rfl)
  generalize hW : (((w.alloc _).alloc _).alloc _).alloc _ = W at hk ⊢
  refine wpList_allocTo rfl (some 6) rfl (.pointer (some ⟨W.heap.size, 0, none⟩)) (.cells ezeros 72) (by kernel_rfl) ?_
  refine wpList_store_rowTo rfl 72 (.tmp 6) (.tmp 84) rfl rfl W.heap.size erows (tz6 _ _ _) (tz84 _ _ _) 72 ezeros (heap_alloc_last W _) (by kernel_rfl) (by kernel_rfl) (by kernel_rfl) ?_
  apply wpList_nil
  rw [World.setRow_alloc_new]
  refine hk.out _ _ ?_
  clear hk K0
  have hb : Below w.heap.size w W := by
    rw [← hW]
    exact (((((Below.refl _ _).alloc (Nat.le_refl _) _).alloc (by simp) _).alloc (by simp; omega) _).alloc (by simp; omega) _)
  have hr : W.heap[w.heap.size]? = some (.cells (ecells 0).toArray 46 (0, 0)) := by
    rw [← hW]
    exact (heap_alloc_old _ _ (by simp; omega)).trans ((heap_alloc_old _ _ (by simp; omega)).trans ((heap_alloc_old _ _ (by simp)).trans ((heap_at _ _ _ rfl).trans (by kernel_rfl))))
  clear hW
  have hlt : w.heap.size < W.heap.size := (Array.getElem?_eq_some_iff.1 hr).1
  generalize hV : W.alloc (.cells erows 72) = V
  have hbV : Below w.heap.size w V := by rw [← hV]; exact hb.alloc hb.size _
  have hrV : V.heap[w.heap.size]? = some (.cells (ecells 0).toArray 46 (0, 0)) := by rw [← hV]; exact (heap_alloc_old _ _ hlt).trans hr
  have hcV : ∀ j : Nat, V.cell? ⟨W.heap.size, j, none⟩ = erows[j]? := fun j => by rw [← hV]; exact cell_of_row _ _ _ _ _ _ (heap_alloc_last W _)
  clear hV hb hr
  generalize W.heap.size = N at hlt hcV ⊢
  rw [tzf]
  obtain ⟨z0, z1, z2, z3, z4, z5, z6, z7, z8⟩ := row9 hrV
  have f0 := fun j => frozen_of_row V w.heap.size j _ _ hrV
  have y0 := f0 0
  have y1 := f0 1
  have y2 := f0 2
  have y3 := f0 3
  have y4 := f0 4
  have y5 := f0 5
  have y6 := f0 6
  have y7 := f0 7
  have y8 := f0 8
  have hrH : Hid (V.heap[w.heap.size]? = some (.cells (ecells 0).toArray 46 (0, 0))) := hrV
  clear f0 hrV
  by_cases h0 : op < 0
  · rw [ez_no op (.inl h0)]
    go_wp2
    exact bodyPost_ret (v := .agg (ecells 0).toArray) (resRow (l := ecells 0) Tryz.results19 rfl hrH.out rfl) rfl ⟨rfl, putL_below (Nat.le_refl _) (ecells 0) 0 V hbV⟩
  by_cases h1 : 38 ≤ op
  · rw [ez_no op (.inr h1)]
    have h2 : ¬ op < 38 := by omega
    go_wp2
    exact bodyPost_ret (v := .agg (ecells 0).toArray) (resRow (l := ecells 0) Tryz.results19 rfl hrH.out rfl) rfl ⟨rfl, putL_below (Nat.le_refl _) (ecells 0) 0 V hbV⟩
  · obtain ⟨i, rfl⟩ := Int.eq_ofNat_of_zero_le (show 0 ≤ op by omega)
    rw [ez_nat i (by omega)]
    have h2 : (i : Int) < 38 := by omega
    obtain ⟨e0, e1, e2, e3, e4, e5, e6, e7, e8⟩ := erows_at i (by omega)
    have d0 := (hcV _).trans e0
    have d1 := (hcV _).trans e1
    have d2 := (hcV _).trans e2
    have d3 := (hcV _).trans e3
    have d4 := (hcV _).trans e4
    have d5 := (hcV _).trans e5
    have d6 := (hcV _).trans e6
    have d7 := (hcV _).trans e7
    have d8 := (hcV _).trans e8
    clear hcV e0 e1 e2 e3 e4 e5 e6 e7 e8
    go_wp2
    exact bodyPost_ret (v := .agg (ecells i).toArray) (resRow (l := ecells i) Tryz.results19 rfl hrH.out rfl) rfl ⟨rfl, putL_below (Nat.le_refl _) (ecells i) 0 V hbV⟩
end Go.Proofs.YtlddkhhaclfmiaaGreatDoor
