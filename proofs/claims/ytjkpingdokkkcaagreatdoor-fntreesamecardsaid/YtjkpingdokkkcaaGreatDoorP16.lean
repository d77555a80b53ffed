/- A row of operands of the call's own, appended to. Helper text: no statement is claimed here. -/
import Derived.Test.YtjkpingdokkkcaaGreatDoorP14
import Derived.Deep.AppendLies
import Derived.Laws.AppendOwnNone
import Derived.OwnWalk
import Derived.Deep.RegionHeld3
import Derived.Deep.WholeRow
import Derived.Deep.CutRange
import Derived.Test.YtjkpingdokkkcaaGreatDoorP12
import Derived.Test.YtjkpingdokkkcaaGreatDoorP15
namespace Go.Proofs.YtjkpingdokkkcaaGreatDoor
open Go.ChangeShapes Go.WideShapes Go.ChangeAt Go.RowKit

theorem iDev : (Tryz.prog.info? 27).map (fun i => (i.zero, i.size, i.bytes)) = some (some (.agg #[.int .i64 0, .int .i64 0, .int .i64 0]), 3, 24) := by kernel_rfl
theorem arCells_one (ys : List Ar) : ∀ u ∈ arCells ys, u.oneCell' = true := by
  intro u hu
  simp only [arCells, List.mem_flatMap] at hu
  obtain ⟨a, -, ha⟩ := hu
  simp only [List.mem_cons, List.not_mem_nil, or_false] at ha
  rcases ha with rfl | rfl | rfl <;> rfl
theorem ArgsAt.news {w : World} {B : Nat} {ys : List Ar} (h : ArgsAt w B ys) : ∀ j u, (arCells ys)[j]? = some u → w.cell? ((⟨B, 0, none⟩ : Addr).add j) = some u := by
  intro j u hu
  have hadd : (⟨B, 0, none⟩ : Addr).add j = ⟨B, j, none⟩ := by unfold Addr.add; split <;> simp_all
  rw [hadd]
  have hj : j < ys.length * 3 := by
    have := (List.getElem?_eq_some_iff.1 hu).1
    rwa [arCells_len] at this
  obtain ⟨a, b, c⟩ := arCells_at ys (j / 3) (by omega)
  obtain ⟨h0, h1, h2⟩ := h (j / 3) (by omega)
  have hm : j % 3 = 0 ∨ j % 3 = 1 ∨ j % 3 = 2 := by omega
  rcases hm with hm | hm | hm
  · rw [show j / 3 * 3 = j by omega] at a h0
    rw [a] at hu; rw [h0, hu]
  · rw [show j / 3 * 3 + 1 = j by omega] at b h1
    rw [b] at hu; rw [h1, hu]
  · rw [show j / 3 * 3 + 2 = j by omega] at c h2
    rw [c] at hu; rw [h2, hu]

/-- append to a row of operands that is the call's own. -/
theorem wpList_app {ops : Array Oper} {rest : List Oper} {o : Oper} {a : Act} {Q : Exit → Act → World → Prop} (w : World) (hgd : o.guard = none) (s x : Operand)
    (ho : o.op = .call { callee := .builtin .append, args := #[s, x], argTypes := #[44, 44] }) (base : Nat)
    (v : Value) (n : Nat) (xs : List Value) (hs : a.eval s = v) (hown : w.ownsRow base 27 3 v n xs)
    (ad : Addr) (m c : Nat) (news : List Value) (hx : a.eval x = .slice (some ad) m c) (hl : news.length = m * 3) (hnews : ∀ j u, news[j]? = some u → w.cell? (ad.add j) = some u) (h1 : ∀ u ∈ news, u.oneCell' = true)
    (hb : n + m ≤ 1000) (hbase : base ≤ w.heap.size)
    (h : ∀ v' w', w'.ownsRow base 27 3 v' (n + m) (xs ++ news) → w.grownBy w' v.ownBlock → (v' = .slice none 0 0 ↔ v = .slice none 0 0 ∧ m = 0) → wpList Tryz.prog ops Q rest (a.put o.dst v') w') : wpList Tryz.prog ops Q (o :: rest) a w := by
  obtain ⟨i0, hi, hz0, hz1, hz2⟩ := info_parts iDev
  exact wpList_append_own w hgd s x _ ho base _ i0 _ 3 24 Tryz.underlying44 hi hz0 hz1 hz2 rfl (by decide) v n xs hs hown ad m c news hx hl hnews h1 (by unfold maxLen; omega) (by omega) hbase h
theorem wpList_copy {ops : Array Oper} {rest : List Oper} {o : Oper} {a : Act} {Q : Exit → Act → World → Prop} (w : World) (hgd : o.guard = none) (s x : Operand)
    (ho : o.op = .call { callee := .builtin .append, args := #[s, x], argTypes := #[44, 44] }) (base : Nat)
    (g0 : Nat) (hs : a.eval s = .slice (some ⟨g0, 0, none⟩) 0 0) (hown : w.ownsRow base 27 3 (.slice (some ⟨g0, 0, none⟩) 0 0) 0 [])
    (ad : Addr) (m c : Nat) (news : List Value) (hx : a.eval x = .slice (some ad) m c) (hl : news.length = m * 3) (hnews : ∀ j u, news[j]? = some u → w.cell? (ad.add j) = some u) (h1 : ∀ u ∈ news, u.oneCell' = true)
    (hb : m ≤ 1000) (hbase : base ≤ w.heap.size)
    (h : ∀ v' w', Hid (w'.ownsRow base 27 3 v' m news) → Hid (w.grownBy w' (some g0)) → Hid (v' ≠ .slice none 0 0) → wpList Tryz.prog ops Q rest (a.put o.dst v') w') : wpList Tryz.prog ops Q (o :: rest) a w :=
  wpList_app w hgd s x ho base _ 0 [] hs hown ad m c news hx hl hnews h1 (by omega) hbase (fun v' w' h1 h2 h3 => h v' w' (by rw [Nat.zero_add, List.nil_append] at h1; exact h1) h2 (fun e => by have := (h3.1 e).1; simp at this))
theorem wpList_app0 {ops : Array Oper} {rest : List Oper} {o : Oper} {a : Act} {Q : Exit → Act → World → Prop} {w : World} (hgd : o.guard = none) (s x : Operand)
    (ho : o.op = .call { callee := .builtin .append, args := #[s, x], argTypes := #[44, 44] }) (base : Nat)
    (v : Value) (n : Nat) (xs : List Value) (hs : a.eval s = v) (hown : w.ownsRow base 27 3 v n xs) (hx : a.eval x = .slice none 0 0)
    (h : wpList Tryz.prog ops Q rest (a.put o.dst v) w) : wpList Tryz.prog ops Q (o :: rest) a w := by
  obtain ⟨i0, hi, hz0, hz1, hz2⟩ := info_parts iDev
  exact wpList_append_own_none hgd s x _ ho base _ i0 3 Tryz.underlying44 hi v n xs hs hown hx h

theorem step_app {ops : Array Oper} {o : Oper} {a : Act} {K : Act → World → Prop} {Q : Exit → Act → World → Prop} {E : Prop} (w : World) (hgd : o.guard = none) (s x : Operand)
    (ho : o.op = .call { callee := .builtin .append, args := #[s, x], argTypes := #[44, 44] }) (base : Nat)
    (v : Value) (n : Nat) (xs : List Value) (hs : a.eval s = v) (hown : w.ownsRow base 27 3 v n xs)
    (ad : Addr) (m c : Nat) (news : List Value) (hx : a.eval x = .slice (some ad) m c) (hl : news.length = m * 3) (hnews : ∀ j u, news[j]? = some u → w.cell? (ad.add j) = some u) (h1 : ∀ u ∈ news, u.oneCell' = true)
    (hm : 0 < m) (hb : n + m ≤ 1000) (hbase : base ≤ w.heap.size)
    (h : ∀ g cap w', Hid (w'.ownsRow base 27 3 (.slice (some ⟨g, 0, none⟩) (n + m) cap) (n + m) (xs ++ news)) → Hid (w.grownBy w' v.ownBlock) → g < w'.heap.size → K (a.put o.dst (.slice (some ⟨g, 0, none⟩) (n + m) cap)) w') :
    if Region.wanted o (yielded ops a.tmps) = true then Oper.wp Tryz.prog o a w K Q else E := by
  obtain ⟨i0, hi, hz0, hz1, hz2⟩ := info_parts iDev
  exact step_append_lies w hgd s x _ ho base _ i0 _ 3 24 Tryz.underlying44 hi hz0 hz1 hz2 rfl (by decide) v n xs hs hown ad m c news hx hl hnews h1 hm (by unfold maxLen; omega) (by omega) hbase _ rfl (fun g cap w' a b _ d => h g cap w' a b d)
theorem arCells_snoc (ys : List Ar) (a : Ar) : arCells ys ++ [.int .i64 a.1, .int .i64 a.2.1, .int .i64 a.2.2] = arCells (ys ++ [a]) := by simp [arCells]
theorem Own2.in {w w' : World} {b B : Nat} {x y : Value} (h : Own2 w b x y) (hb : Below B w w') (hlt : b < B) : Own2 w' b x y := by
  unfold Own2
  rw [hb.cell (p := ⟨b, 0, none⟩) hlt, hb.cell (p := ⟨b, 1, none⟩) hlt, hb.frozen (p := ⟨b, 0, none⟩) hlt, hb.frozen (p := ⟨b, 1, none⟩) hlt]
  exact h
/-- A row of operands in a block of the call's own, with room. -/
def ARow (W : World) (g cp : Nat) (ys : List Ar) : Prop := ∃ cur : Array Value, W.heap[g]? = some (.cells cur 27 (0, 0)) ∧ ys.length ≤ cp ∧ cp ≤ maxLen ∧ cur.size = cp * 3 ∧ cur.toList.take (ys.length * 3) = arCells ys
theorem ARow.lt {W : World} {g cp : Nat} {ys : List Ar} (h : ARow W g cp ys) : g < W.heap.size := by
  obtain ⟨cur, h1, _⟩ := h
  exact (Array.getElem?_eq_some_iff.1 h1).1
theorem ARow.args {W : World} {g cp : Nat} {ys : List Ar} (h : ARow W g cp ys) : ArgsAt W g ys := by
  obtain ⟨cur, h1, h2, _, h3, h4⟩ := h
  intro i hi
  obtain ⟨a, b, c⟩ := arCells_at ys i hi
  rw [← h4, List.getElem?_take] at a b c
  rw [if_pos (by omega)] at a b c
  exact ⟨(cell_of_row _ _ _ _ _ _ h1).trans (by simpa using a), (cell_of_row _ _ _ _ _ _ h1).trans (by simpa using b), (cell_of_row _ _ _ _ _ _ h1).trans (by simpa using c)⟩
theorem ARow.room {W : World} {g cp : Nat} {ys : List Ar} (h : ARow W g cp ys) : ys.length ≤ cp := by
  obtain ⟨cur, h1, h2, _⟩ := h
  exact h2
theorem ARow.free {W : World} {g cp : Nat} {ys : List Ar} (h : ARow W g cp ys) (k : Nat) : W.frozen? ⟨g, k, none⟩ = false := by
  obtain ⟨cur, h1, _⟩ := h
  exact frozen_of_row _ _ _ _ _ h1
theorem ARow.owns {W : World} {g cp base : Nat} {ys : List Ar} (h : ARow W g cp ys) (hb : base ≤ g) : W.ownsRow base 27 3 (.slice (some ⟨g, 0, none⟩) ys.length cp) ys.length (arCells ys) := by
  obtain ⟨cur, h1, h2, h2', h3, h4⟩ := h
  exact ⟨arCells_len ys, .inr ⟨g, cp, cur, rfl, hb, h1, h2, h2', h3, h4⟩⟩
theorem ARow.set {W : World} {g cp c i : Nat} {v : Value} {ys : List Ar} (h : ARow W g cp ys) (hc : g ≠ c) : ARow (W.setCell ⟨c, i, none⟩ v) g cp ys := by
  obtain ⟨cur, h1, h2⟩ := h
  exact ⟨cur, (heap_setCell_other W ⟨c, i, none⟩ g v hc).trans h1, h2⟩
theorem arCells_set : ∀ (ys : List Ar) (k : Nat) (x y z : Int), k < ys.length → (((arCells ys).set (k * 3) (.int .i64 x)).set (k * 3 + 1) (.int .i64 y)).set (k * 3 + 2) (.int .i64 z) = arCells (ys.set k (x, y, z))
  | [], k, _, _, _, h => by simp at h
  | a :: l, 0, x, y, z, _ => by simp [arCells]
  | a :: l, k + 1, x, y, z, h => by
    have ih := arCells_set l k x y z (by simpa using h)
    rw [show (k + 1) * 3 = k * 3 + 1 + 1 + 1 by omega]
    simpa [arCells] using ih
theorem ARow.put {W : World} {g cp : Nat} {ys : List Ar} (h : ARow W g cp ys) {k : Nat} (hk : k < ys.length) (x y z : Int) :
    ARow (((W.setCell ⟨g, k * 3, none⟩ (.int .i64 x)).setCell ⟨g, k * 3 + 1, none⟩ (.int .i64 y)).setCell ⟨g, k * 3 + 2, none⟩ (.int .i64 z)) g cp (ys.set k (x, y, z)) := by
  obtain ⟨cur, h1, h2, h2', h3, h4⟩ := h
  refine ⟨_, heap_setCell_same _ _ _ _ _ _ (heap_setCell_same _ _ _ _ _ _ (heap_setCell_same _ _ _ _ _ _ h1)), by simpa using h2, h2', by simpa using h3, ?_⟩
  rw [← arCells_set ys k x y z hk, ← h4]
  simp [List.take_set]
theorem at3_set {ys : List Ar} {k : Nat} {a : Ar} (hk : k < ys.length) : at3 (ys.set k a) k = a := by simp [at3, List.getD, hk]
theorem arow_of {W : World} {base n : Nat} {v : Value} {ys : List Ar} (h : W.ownsRow base 27 3 v n (arCells ys)) (hn : n = ys.length) (hv : v ≠ .slice none 0 0) : ∃ g cp, v = .slice (some ⟨g, 0, none⟩) ys.length cp ∧ base ≤ g ∧ ARow W g cp ys := by
  subst hn
  rcases h.2 with h' | ⟨g, cap, cur, hv, hb, h1, h2, h3, h4, h5⟩
  · exact absurd h'.1 hv
  · exact ⟨g, cap, hv, hb, cur, h1, h2, h3, h4, h5⟩

theorem ARow.to {W W' : World} {g cp : Nat} {ys : List Ar} (h : ARow W g cp ys) (hb : Below W.heap.size W W') : ARow W' g cp ys := by
  have hl := h.lt
  obtain ⟨cur, h1, h2⟩ := h
  exact ⟨cur, (hb.block g hl).trans h1, h2⟩
end Go.Proofs.YtjkpingdokkkcaaGreatDoor

/- The spoiling of contacts and coils: l3Spoil. Helper text: no statement is claimed here. -/
namespace Go.Proofs.YtjkpingdokkkcaaGreatDoor
open Go.ChangeShapes Go.WideShapes Go.ChangeAt Go.RowKit

/-- The operands of a contact or coil, in memory that is not the reader's. -/
def ElsB (rb : Nat) (w : World) (p : Option Addr) (ys : List Ar) (cap : Nat) : Prop :=
  (p = none ∧ ys = [] ∧ cap = 0) ∨ ∃ B, p = some ⟨B, 0, none⟩ ∧ B ≠ rb ∧ B < w.heap.size ∧ ArgsAt w B ys
/-- The operands of a contact or coil, wherever they lie. -/
def ElsG (w : World) (p : Option Addr) (ys : List Ar) : Prop :=
  (p = none ∧ ys = []) ∨ ∃ ad, p = some ad ∧ ∀ W, Below w.heap.size w W → ∀ j u, (arCells ys)[j]? = some u → W.cell? (ad.add j) = some u
theorem ElsB.g {rb : Nat} {w : World} {p : Option Addr} {ys : List Ar} {cap : Nat} (h : ElsB rb w p ys cap) : ElsG w p ys := by
  rcases h with ⟨rfl, rfl, rfl⟩ | ⟨B, rfl, hB1, hB2, hA⟩
  · exact .inl ⟨rfl, rfl⟩
  · exact .inr ⟨⟨B, 0, none⟩, rfl, fun W hW => (hA.to hB2 hW).news⟩
theorem run_append_no {P : Program} {w : World} (base : Nat) (t ty e : TypeId) (i : TypeInfo) (size c : Nat) (ht : P.underlying t = some (.slice e)) (hi : P.info? e = some i) (v : Value) (n : Nat) (xs : List Value) (hown : w.ownsRow base e size v n xs) : (Builtin.append_ #[t, t] ty #[v, .slice none 0 c]).run P w = .ok v w := by
  rcases hown.2 with ⟨rfl, rfl⟩ | ⟨g, cap, cur, rfl, _, _, hnc, _⟩
  · simp [Builtin.append_, run_underlying ht, sizeOf, typeInfo, hi, Builtin.lenOf, Builtin.firstCells]
  · simp [Builtin.append_, run_underlying ht, sizeOf, typeInfo, hi, Builtin.lenOf, Builtin.firstCells, hnc, storeCells]
theorem wpList_appNo {ops : Array Oper} {rest : List Oper} {o : Oper} {a : Act} {Q : Exit → Act → World → Prop} {w : World} (hgd : o.guard = none) (s x : Operand)
    (ho : o.op = .call { callee := .builtin .append, args := #[s, x], argTypes := #[44, 44] }) (base : Nat)
    (v : Value) (n : Nat) (xs : List Value) (hs : a.eval s = v) (hown : w.ownsRow base 27 3 v n xs) (c : Nat) (hx : a.eval x = .slice none 0 c)
    (h : wpList Tryz.prog ops Q rest (a.put o.dst v) w) : wpList Tryz.prog ops Q (o :: rest) a w := by
  obtain ⟨i0, hi, hz0, hz1, hz2⟩ := info_parts iDev
  refine wpList_plain hgd fun K hK => ?_
  have hrun := run_append_no (P := Tryz.prog) base 44 o.type _ i0 3 c Tryz.underlying44 hi v n xs hown
  unfold Oper.wp
  simp [execOp, ho, resolve, invoke, builtin, hs, hx, hrun, Result.andThen]
  exact hK _ _ h
theorem sm_snoc {ys : List Ar} (h : ∀ a ∈ ys, Sm a.1 ∧ Sm a.2.1 ∧ Sm a.2.2) {b : Ar} (hb : Sm b.1 ∧ Sm b.2.1 ∧ Sm b.2.2) : ∀ a ∈ ys ++ [b], Sm a.1 ∧ Sm a.2.1 ∧ Sm a.2.2 := fun a ha => by
  rcases List.mem_append.1 ha with h' | h'
  · exact h a h'
  · rw [List.mem_singleton.1 h']; exact hb
theorem Rd.in {w w' : World} {rb m B : Nat} (h : Rd w rb m) (hb : Below B w w') (hB : rb < B) : Rd w' rb m := by
  obtain ⟨a, len, cap, p, h0, h1, hf, hp, hl, hr⟩ := h.rd
  refine ⟨a, len, cap, p, ?_, ?_, ?_, hp, hl, ?_⟩
  · rw [hb.cell (p := ⟨rb, 0, none⟩) hB]; exact h0
  · rw [hb.cell (p := ⟨rb, 1, none⟩) hB]; exact h1
  · rw [hb.frozen (p := ⟨rb, 1, none⟩) hB]; exact hf
  · rcases hr with hr | ⟨b, off, f, ha, hbr, hc⟩
    · exact .inl hr
    · refine .inr ⟨b, off, f, ha, hbr, fun i hi => ?_⟩
      rw [hb.cell (p := ⟨b, off + i, none⟩) (show b < B by omega)]
      exact hc i hi
theorem Step.in {rb B : Nat} {w W W' : World} (h : Step rb w W) (hb : Below B W W') (hB : w.heap.size ≤ B) : Step rb w W' :=
  ⟨hb.os.trans h.os, hb.tape.trans h.tape, hb.output.trans h.output, Nat.le_trans h.size hb.size, fun k hk hr => (hb.block k (by omega)).trans (h.block k hk hr)⟩
theorem ARow.step {rb : Nat} {W W' : World} {g cp : Nat} {ys : List Ar} (h : ARow W g cp ys) (st : Step rb W W') (hr : g ≠ rb) : ARow W' g cp ys := by
  have hl := h.lt
  obtain ⟨cur, h1, h2⟩ := h
  exact ⟨cur, (st.block g hl hr).trans h1, h2⟩
theorem sm_at {ys : List Ar} (h : ∀ a ∈ ys, Sm a.1 ∧ Sm a.2.1 ∧ Sm a.2.2) {k : Nat} (hk : k < ys.length) : Sm (at3 ys k).1 ∧ Sm (at3 ys k).2.1 ∧ Sm (at3 ys k).2.2 := h _ (by simp [at3, List.getD, hk])
theorem sm_set {ys : List Ar} (h : ∀ a ∈ ys, Sm a.1 ∧ Sm a.2.1 ∧ Sm a.2.2) (k : Nat) {b : Ar} (hb : Sm b.1 ∧ Sm b.2.1 ∧ Sm b.2.2) : ∀ a ∈ ys.set k b, Sm a.1 ∧ Sm a.2.1 ∧ Sm a.2.2 := fun a ha => by
  rcases List.mem_or_eq_of_mem_set ha with h' | h'
  · exact h a h'
  · rw [h']; exact hb
theorem edrawn_row {L rb m m' : Nat} {w W : World} {op : Int} {ys : List Ar} {g cp : Nat} (hlt : rb < w.heap.size) (hr : Rd W rb m') (hm : m' ≤ m) (sw : Step rb w W) (row : ARow W g cp ys) (hg : w.heap.size + 1 + 1 ≤ g) (hop : Sm op)
    (hys : ∀ a ∈ ys, Sm a.1 ∧ Sm a.2.1 ∧ Sm a.2.2) (hl : ys.length ≤ L) :
    EDrawn L rb m w (.returned (.agg #[.int .i64 op, .slice (some ⟨g, 0, none⟩) ys.length cp]))
      ((W.setCell ⟨w.heap.size + 1, 0, none⟩ (.int .i64 op)).setCell ⟨w.heap.size + 1, 1, none⟩ (.slice (some ⟨g, 0, none⟩) ys.length cp)) := by
  have h2 := row.lt
  refine ⟨op, ys, _, cp, rfl, hop, hys, hl, row.room, .inr ⟨g, rfl, by omega, by simpa using h2, ((row.set (by omega)).set (by omega)).args⟩, ((hr.mono hm).set _ _ _ (by omega)).set _ _ _ (by omega), (sw.setNew _ _ _ (by omega)).setNew _ _ _ (by omega)⟩

theorem nums_10 (w : World) : Nums (w.alloc (.cells #[.int .i64 (-1), .int .i64 0, .int .i64 1, .int .i64 5, .int .i64 11, .int .i64 20, .int .i64 21, .int .i64 26, .int .i64 37, .int .i64 38] 3)) w.heap.size 10 := by
  have := nums_mk w [-1, 0, 1, 5, 11, 20, 21, 26, 37, 38] 3 (by simp)
  simpa using this
/-- What stands behind the copying of the operands. -/
def Copied (w : World) (op : Int) (p : Option Addr) (ys : List Ar) (cap : Nat) (s : Value) (W : World) : Prop := ∃ g cp, s = .slice (some ⟨g, 0, none⟩) ys.length cp ∧ w.heap.size + 1 + 1 ≤ g ∧ ARow W g cp ys ∧
  Own2 W w.heap.size (.int .i64 op) (.slice p ys.length cap) ∧ Own2 W (w.heap.size + 1) (.int .i64 0) (.slice none 0 0) ∧ Below w.heap.size w W
set_option maxRecDepth 100000 in
set_option maxHeartbeats 4000000 in
theorem spoilG_any (L rb m : Nat) (op : Int) (ys : List Ar) (p : Option Addr) (cap : Nat) (w : World) (hr : Rd w rb m) (hm : m ≤ 690000) (hE : ElsG w p ys) (hop : Sm op) (hys : ∀ a ∈ ys, Sm a.1 ∧ Sm a.2.1 ∧ Sm a.2.2) (hl : ys.length ≤ L) (hL : L ≤ 10) :
    Calls Tryz.prog 56 #[.pointer (some ⟨rb, 0, none⟩), elemV op p ys.length cap] w (EDrawn (L + 1) rb (m + 20) w) := by
  have hlt := hr.lt
  have hne : w.heap.size ≠ rb := by omega
  have HE : Hid (ElsG w p ys) := hE
  clear hE
  have HO : Hid ((((w.alloc (.cells #[.int .i64 op, .slice p ys.length cap] 46)).alloc (.cells #[.int .i64 0, .slice none 0 0] 46)).alloc (.cells #[] 27)).ownsRow (w.heap.size + 1 + 1) 27 3 (.slice (some ⟨w.heap.size + 1 + 1, 0, none⟩) 0 0) 0 []) :=
    ⟨rfl, .inr ⟨w.heap.size + 1 + 1, 0, #[], rfl, Nat.le_refl _, by have := heap_alloc_last ((w.alloc (.cells #[.int .i64 op, .slice p ys.length cap] 46)).alloc (.cells #[.int .i64 0, .slice none 0 0] 46)) (.cells #[] 27); simpa using this, Nat.le_refl _, by unfold maxLen; omega, rfl, rfl⟩⟩
  have HB0 : Hid (Below w.heap.size w (((w.alloc (.cells #[.int .i64 op, .slice p ys.length cap] 46)).alloc (.cells #[.int .i64 0, .slice none 0 0] 46)).alloc (.cells #[] 27))) := ((one _ _).alloc (by simp) _).alloc (by simp; omega) _
  have HX : Hid (Own2 _ _ _ _) := ((Own2.new w (.int .i64 op) (.slice p ys.length cap)).alloc (.cells #[.int .i64 0, .slice none 0 0] 46)).alloc (.cells #[] 27)
  have hR0 := (Own2.new (w.alloc (.cells #[.int .i64 op, .slice p ys.length cap] 46)) (.int .i64 0) (.slice none 0 0)).alloc (.cells #[] 27)
  rw [World.size_alloc] at hR0
  have HR : Hid (Own2 _ _ _ _) := hR0
  clear hR0
  have HS : Hid ((((w.alloc (.cells #[.int .i64 op, .slice p ys.length cap] 46)).alloc (.cells #[.int .i64 0, .slice none 0 0] 46)).alloc (.cells #[] 27)).heap.size = w.heap.size + 3) := by
    show _ = _
    simp
  have HA1 : Hid (∀ u ∈ arCells ys, u.oneCell' = true) := arCells_one ys
  have HA2 : Hid ((arCells ys).length = ys.length * 3) := arCells_len ys
  go_enter Tryz.func56, Tryz.ntmps56
  go_upto_region 1 with fail
  go_cut [5] from 7 to 10 (fun s5 wx => Copied w op p ys cap s5 wx)
  case first =>
    rcases HE.out with ⟨rfl, rfl⟩ | ⟨ad, rfl, hA⟩
    · go_wp2_with (at_builtin; refine wpList_appNo rfl (.tmp 7) (.tmp 9) rfl (w.heap.size + 1 + 1) _ 0 [] rfl HO.out cap rfl ?_)
      go_meet
      obtain ⟨g, cp, hv, hg, row⟩ := arow_of (ys := []) HO.out rfl (by simp)
      exact ⟨g, cp, hv, hg, row, HX.out, HR.out, HB0.out⟩
    · have HN : Hid _ := hA _ HB0.out
      clear hA
      go_wp2_with (at_builtin; refine wpList_copy _ rfl (.tmp 7) (.tmp 9) rfl (w.heap.size + 1 + 1) (w.heap.size + 1 + 1) rfl HO.out ad ys.length cap (arCells ys) rfl HA2.out HN.out HA1.out (by omega) (by simp) ?_; intro v' w1 HW HG HI)
      go_meet
      obtain ⟨g, cp, hv, hg, row⟩ := arow_of HW.out rfl HI.out
      have bel : Below (w.heap.size + 1 + 1) _ w1 := (Below.refl _ _).grown HG.out (by have := HS.out; omega) (fun k e => by cases e; exact Nat.le_refl _)
      exact ⟨g, cp, hv, hg, row, HX.out.in bel (by omega), HR.out.in bel (by omega), HB0.out.trans (bel.mono (by omega))⟩
  case rest =>
  clear HE HO HB0 HX HR HS HA1 HA2
  obtain ⟨g, cp, rfl, hg, row, ox, o1, hb⟩ := hcut
  have hr1 := hr.to hb
  have sw1 : Step rb w wc := Step.of hb
  clear hb
  go_wp2_with fail
  refine (pick_any rb m 6 _ (by omega) hr1 (by omega)).mono ?_
  rintro e w2 ⟨t, rfl, t0, t1, -, hr2, st2⟩
  have t1 : t < 6 := t1 (by omega)
  have row2 := row.step st2 (by omega)
  have ox2 := ox.step st2 hne
  have o2 := o1.step st2 (by omega)
  have sw2 := sw1.trans st2
  have hz2 := o2.lt
  have hzx := ox2.lt
  have hzg := row2.lt
  clear row ox o1 sw1 st2 hr1
  have ht : t = 0 ∨ t = 1 ∨ t = 2 ∨ 3 ≤ t := by omega
  rcases ht with rfl | rfl | rfl | ht
  · go_wp2_with fail
    refine (num_any rb (m + 1) w2.heap.size 10 _ (by omega) (by omega) (hr2.alloc _) (by omega) (nums_10 w2) (by omega)).mono ?_
    rintro e w3 ⟨v, rfl, v0, v1, hr3, st3⟩
    have st3 : Step rb w2 w3 := (Step.alloc rb w2 _).trans st3
    have o3 := o2.step st3 (by omega)
    have o3c := o3
    obtain ⟨⟨o30, o31⟩, z30, z31⟩ := o3c
    go_wp2
    exact bodyPost_ret (v := .agg #[.int .i64 v, .slice (some ⟨g, 0, none⟩) ys.length cp]) (resElem (b := w.heap.size + 1) Tryz.results56 rfl (o3.put _ _).1) rfl (edrawn_row hlt hr3 (by omega) (sw2.trans st3) (row2.step st3 (by omega)) hg ⟨v0, v1⟩ hys (by omega))
  · have x0 := ox2.1.1
    have hown := row2.owns (base := w.heap.size + 1 + 1) hg
    have HOW : Hid (w2.ownsRow (w.heap.size + 1 + 1) 27 3 (.slice (some ⟨g, 0, none⟩) ys.length cp) ys.length (arCells ys)) := hown
    clear hown
    go_wp2
    go_region_held3 (fun w' => w'.cell? ⟨w.heap.size, 0, none⟩ = some (.int .i64 op)) (first | go_keep | assumption)
      (first
        | (go_at_call 15; refine (argAny_any rb (m + 1) _ ?_ (by omega)).mono ?_; exact hr2.drew; rintro e w3 ⟨k, n, q, rfl, hk, hn, hq, hr3, st3⟩; have st3' : Step rb w2 w3 := (Step.drew rb w2).trans st3; have x3 := (st3'.cell w.heap.size 0 (by omega) hne).trans x0; have row3 := row2.step st3' (by omega); have hz3 := row3.lt; have o3 := o2.step st3' (by omega); have HO3 : Hid (World.ownsRow (w3.alloc (.cells #[.int .i64 k, .int .i64 n, .int .i64 q] 27)) (w.heap.size + 1 + 1) 27 3 (.slice (some ⟨g, 0, none⟩) ys.length cp) ys.length (arCells ys)) := (row3.owns hg).alloc _)
        | (refine step_app _ (by rfl) (.tmp 24) (.tmp 27) (by rfl) (w.heap.size + 1 + 1) _ ys.length (arCells ys) (by rfl) HO3.out ⟨w3.heap.size, 0, none⟩ 1 1 [.int .i64 k, .int .i64 n, .int .i64 q] (by rfl) (by rfl) (World.news_of_block (cs := #[.int .i64 k, .int .i64 n, .int .i64 q]) (t := 27) (fr := (0, 0)) (heap_alloc_new w3 _)) (by simp [Value.oneCell']) (by omega) (by omega) (by simp; omega) ?_; intro g4 cp4 w4 HW4 HG4 hl4; have x4 := (HG4.out.cell_far ⟨w.heap.size, 0, none⟩ (by simp; omega) (by simp [Value.ownBlock]; omega)).trans ((World.cell?_alloc_lt _ _ ⟨w.heap.size, 0, none⟩ (show w.heap.size < w3.heap.size by omega)).trans x3); have HBL : Hid (Below (w.heap.size + 1 + 1) (w3.alloc (.cells #[.int .i64 k, .int .i64 n, .int .i64 q] 27)) w4) := (Below.refl _ _).grown HG4.out (by simp; omega) (fun k e => by cases e; exact hg); have o4 := (o3.alloc (.cells #[.int .i64 k, .int .i64 n, .int .i64 q] 27)).in HBL.out (by omega); have o4c := o4; obtain ⟨⟨o40, o41⟩, z40, z41⟩ := o4c))
    all_goals (try go_wp2)
    obtain ⟨g5, cp5, e5, hg5, row5⟩ := arow_of (ys := ys ++ [(k, n, q)]) (n := ys.length + 1) (by rw [← arCells_snoc]; exact HW4.out) (by simp) (by simp)
    simp only [Value.slice.injEq, Option.some.injEq, Addr.mk.injEq] at e5
    obtain ⟨⟨rfl, -, -⟩, -, rfl⟩ := e5
    have hF := edrawn_row (L := L + 1) (m := m + 20) (op := op) hlt ((hr3.alloc _).in HBL.out (by omega)) (by omega) (((sw2.trans st3').trans (Step.alloc rb w3 _)).in HBL.out (by omega)) row5 hg5 hop (sm_snoc hys (b := (k, n, q)) ⟨hk, hn, hq⟩) (by simp; omega)
    rw [show (ys ++ [(k, n, q)]).length = ys.length + 1 by simp] at hF
    exact bodyPost_ret (v := .agg #[.int .i64 op, .slice (some ⟨g4, 0, none⟩) (ys.length + 1) cp4]) (resElem (b := w.heap.size + 1) Tryz.results56 rfl (o4.put _ _).1) rfl hF
  · have oxc := ox2
    obtain ⟨⟨x0, x1⟩, y0, y1⟩ := oxc
    have o2c := o2
    obtain ⟨⟨o20, o21⟩, z20, z21⟩ := o2c
    go_wp2
    exact bodyPost_ret (v := .agg #[.int .i64 op, .slice none 0 0]) (resElem (b := w.heap.size + 1) Tryz.results56 rfl (o2.put _ _).1) rfl ⟨op, [], none, 0, rfl, hop, smN, by simp, by simp, .inl ⟨rfl, rfl, rfl⟩, ((hr2.mono (by omega)).set _ _ _ (by omega)).set _ _ _ (by omega), (sw2.setNew _ _ _ (by omega)).setNew _ _ _ (by omega)⟩
  · have e0 : (t == 0) = false := by simp; omega
    have e1 : (t == 1) = false := by simp; omega
    have e2 : (t == 2) = false := by simp; omega
    clear ht t0 t1
    by_cases hn0 : ys.length = 0
    · have HL : Hid (ys.length = 0) := hn0
      have hn0' : ¬ (0 : Int) < (ys.length : Int) := by omega
      clear hn0
      have oxc := ox2
      obtain ⟨⟨x0, x1⟩, y0, y1⟩ := oxc
      have o2c := o2
      obtain ⟨⟨o20, o21⟩, z20, z21⟩ := o2c
      go_wp2
      exact bodyPost_ret (v := .agg #[.int .i64 op, .slice (some ⟨g, 0, none⟩) ys.length cp]) (resElem (b := w.heap.size + 1) Tryz.results56 rfl (o2.put _ _).1) rfl (edrawn_row hlt hr2 (by omega) sw2 row2 hg hop hys (by omega))
    · have hn1 : (0 : Int) < (ys.length : Int) := by omega
      go_wp2_with fail
      refine (pick_any rb (m + 1) ys.length _ (by omega) hr2 (by omega)).mono ?_
      rintro e w3 ⟨k', rfl, k0, k1, -, hr3, st3⟩
      obtain ⟨k, rfl⟩ := Int.eq_ofNat_of_zero_le k0
      have hk1 : (k : Int) < (ys.length : Int) := k1 (by omega)
      have hk : k < ys.length := by omega
      have row3 := row2.step st3 (by omega)
      have ox3 := ox2.step st3 hne
      have o3 := o2.step st3 (by omega)
      have sw3 := sw2.trans st3
      clear row2 ox2 o2 sw2 st3 k1 hn0
      obtain ⟨a0, a1, a2⟩ := row3.args k hk
      have hsm := sm_at hys hk
      generalize hqx : (at3 ys k).1 = qx at *
      generalize hqy : (at3 ys k).2.1 = qy at *
      generalize hqz : (at3 ys k).2.2 = qz at *
      clear hqx hqy hqz
      go_wp2_with fail
      refine (spoilt_any rb (m + 2) qx qy qz _ hr3 (by omega) hsm.1 hsm.2.1 hsm.2.2).mono ?_
      rintro e w4 ⟨kk, nn, pp, rfl, hkk, hnn, hpp, hr4, st4⟩
      have row4 := row3.step st4 (by omega)
      have ox4 := ox3.step st4 hne
      have o4 := o3.step st4 (by omega)
      have sw4 := sw3.trans st4
      clear row3 ox3 o3 sw3 st4 a0 a1 a2
      obtain ⟨a0, a1, a2⟩ := row4.args k hk
      have f0 := row4.free (k * 3)
      have f1 := row4.free (k * 3 + 1)
      have f2 := row4.free (k * 3 + 2)
      go_wp2_with fail
      refine (pick_any rb (m + 4) 2 _ (by omega) (((hr4.set _ _ _ (by omega)).set _ _ _ (by omega)).set _ _ _ (by omega)) (by omega)).mono ?_
      rintro e w5 ⟨v, rfl, v0, v1, -, hr5, st5⟩
      have row5 := (row4.put hk kk nn pp).step st5 (by omega)
      have ox5 := (((ox4.set (c := g) (i := k * 3) (v := .int .i64 kk) (by omega)).set (c := g) (i := k * 3 + 1) (v := .int .i64 nn) (by omega)).set (c := g) (i := k * 3 + 2) (v := .int .i64 pp) (by omega)).step st5 hne
      have o5 := (((o4.set (c := g) (i := k * 3) (v := .int .i64 kk) (by omega)).set (c := g) (i := k * 3 + 1) (v := .int .i64 nn) (by omega)).set (c := g) (i := k * 3 + 2) (v := .int .i64 pp) (by omega)).step st5 (by omega)
      have sw5 := (((sw4.setNew g (k * 3) (.int .i64 kk) (by omega)).setNew g (k * 3 + 1) (.int .i64 nn) (by omega)).setNew g (k * 3 + 2) (.int .i64 pp) (by omega)).trans st5
      have hys5 := sm_set hys k (b := (kk, nn, pp)) ⟨hkk, hnn, hpp⟩
      clear row4 ox4 o4 sw4 st5 a0 a1 a2 f0 f1 f2 v1
      have hln : (ys.set k (kk, nn, pp)).length = ys.length := by simp
      by_cases hv : v = 0
      · subst hv
        go_wp2_with fail
        refine (argAny_any rb (m + 5) _ hr5 (by omega)).mono ?_
        rintro e w6 ⟨k6, n6, p6, rfl, hk6, hn6, hp6, hr6, st6⟩
        have row6 := row5.step st6 (by omega)
        have ox6 := ox5.step st6 hne
        have o6 := o5.step st6 (by omega)
        have sw6 := sw5.trans st6
        obtain ⟨a0, a1, a2⟩ := row6.args k (by omega)
        have f0 := row6.free (k * 3)
        have f1 := row6.free (k * 3 + 1)
        have f2 := row6.free (k * 3 + 2)
        have oxc := ox6
        obtain ⟨⟨x0, x1⟩, y0, y1⟩ := oxc
        have o6c := o6
        obtain ⟨⟨o20, o21⟩, z20, z21⟩ := o6c
        have HL : Hid (((ys.set k (kk, nn, pp)).set k (k6, n6, p6)).length = ys.length) := by show _ = _; simp
        have hF := edrawn_row (L := L + 1) (m := m + 20) (op := op) hlt (((hr6.set g (k * 3) (.int .i64 k6) (by omega)).set g (k * 3 + 1) (.int .i64 n6) (by omega)).set g (k * 3 + 2) (.int .i64 p6) (by omega)) (by omega) (((sw6.setNew g (k * 3) (.int .i64 k6) (by omega)).setNew g (k * 3 + 1) (.int .i64 n6) (by omega)).setNew g (k * 3 + 2) (.int .i64 p6) (by omega)) (row6.put (by omega) k6 n6 p6) hg hop (sm_set hys5 k (b := (k6, n6, p6)) ⟨hk6, hn6, hp6⟩) (by rw [HL.out]; omega)
        rw [HL.out] at hF
        have HF : Hid (EDrawn _ _ _ _ _ _) := hF
        clear hF
        have HO6 : Hid _ := ((((o6.set (c := g) (i := k * 3) (v := .int .i64 k6) (by omega)).set (c := g) (i := k * 3 + 1) (v := .int .i64 n6) (by omega)).set (c := g) (i := k * 3 + 2) (v := .int .i64 p6) (by omega)).put (.int .i64 op) (.slice (some ⟨g, 0, none⟩) ys.length cp)).1
        clear hln
        go_wp2
        exact bodyPost_ret (v := .agg #[.int .i64 op, .slice (some ⟨g, 0, none⟩) ys.length cp]) (resElem (b := w.heap.size + 1) Tryz.results56 rfl HO6.out) rfl HF.out
      · have hv' : (v == 0) = false := by simpa using hv
        clear hv
        have oxc := ox5
        obtain ⟨⟨x0, x1⟩, y0, y1⟩ := oxc
        have o5c := o5
        obtain ⟨⟨o20, o21⟩, z20, z21⟩ := o5c
        have hF := edrawn_row (L := L + 1) (m := m + 20) (op := op) hlt hr5 (by omega) sw5 row5 hg hop hys5 (by omega)
        rw [hln] at hF
        have HF : Hid (EDrawn _ _ _ _ _ _) := hF
        clear hF
        clear hln
        go_wp2
        exact bodyPost_ret (v := .agg #[.int .i64 op, .slice (some ⟨g, 0, none⟩) ys.length cp]) (resElem (b := w.heap.size + 1) Tryz.results56 rfl (o5.put _ _).1) rfl HF.out
theorem spoilE_any (L rb m : Nat) (op : Int) (ys : List Ar) (p : Option Addr) (cap : Nat) (w : World) (hr : Rd w rb m) (hm : m ≤ 690000) (hE : ElsB rb w p ys cap) (hop : Sm op) (hys : ∀ a ∈ ys, Sm a.1 ∧ Sm a.2.1 ∧ Sm a.2.2) (hl : ys.length ≤ L) (hL : L ≤ 10) :
    Calls Tryz.prog 56 #[.pointer (some ⟨rb, 0, none⟩), elemV op p ys.length cap] w (EDrawn (L + 1) rb (m + 20) w) := spoilG_any L rb m op ys p cap w hr hm hE.g hop hys hl hL
end Go.Proofs.YtjkpingdokkkcaaGreatDoor

/- A drawn contact or coil, as the trees' texts say it; a net of the call's own. Helper text: no statement is claimed here. -/
namespace Go.Proofs.YtjkpingdokkkcaaGreatDoor.Tr
open Go.ChangeShapes Go.WideShapes Go.ChangeAt Go.RowKit

/-- No block. -/
def Non (_ : Nat) : Prop := False
theorem out_step {O : Nat → Prop} {rb base : Nat} {w w' : World} (h : Step rb w w') (hb : rb < base) (hO : ∀ b, O b → b < w.heap.size ∧ b ≠ rb) : Out O base w w' := ⟨h.size, fun b hb' => h.block b (hO b hb').1 (hO b hb').2, fun b hb' hl => h.block b hl (by omega)⟩
theorem non_lt {B : Nat} : ∀ b, Non b → b < B := fun _ h => h.elim
/-- Numbers that are small, and operands that are few. -/
def okEl (L : Nat) (e : El) : Prop := e.2.length ≤ L ∧ Sm e.1 ∧ ∀ a ∈ e.2, Sm a.1 ∧ Sm a.2.1 ∧ Sm a.2.2
/-- A contact or coil is drawn: its blocks are new. -/
def EDr (L rb m : Nat) (w : World) (e : Ending) (w' : World) : Prop := ∃ (op : Int) (ys : List Ar) (p : Option Addr) (cap : Nat), e = .returned (.agg #[.int .i64 op, .slice p ys.length cap]) ∧ SlOf (Frs Non w.heap.size w') (ArE w') 3 p cap ys ∧ okEl L (op, ys) ∧ Rd w' rb m ∧ Step rb w w'
theorem edr_of {L rb m : Nat} {w : World} {e : Ending} {w' : World} (h : EDrawn L rb m w e w') (hL : L ≤ 1000) : EDr L rb m w e w' := by
  obtain ⟨op, ys, p, cap, rfl, hop, hys, hl, hc, hE, hr, st⟩ := h
  refine ⟨op, ys, p, cap, rfl, ⟨⟨hc, by omega⟩, ?_⟩, ⟨hl, hop, hys⟩, hr, st⟩
  rcases hE with ⟨rfl, rfl, rfl⟩ | ⟨B, rfl, h1, h2, hA⟩
  · exact .inl rfl
  · refine .inr ⟨B, 0, rfl, .inr ⟨h1, h2⟩, fun i t ht => ?_⟩
    obtain ⟨hi, rfl⟩ := List.getElem?_eq_some_iff.1 ht
    have := hA i hi
    rw [show at3 ys i = ys[i] by simp [at3, List.getD, hi]] at this
    rw [Nat.zero_add]
    exact this
theorem contact_dr (rb m : Nat) (w : World) (hr : Rd w rb m) (hm : m ≤ 650000) : Calls Tryz.prog 26 #[.pointer (some ⟨rb, 0, none⟩)] w (EDr 3 rb (m + 30) w) := (l3Contact_any rb m w hr hm).mono fun _ _ h => edr_of h (by omega)
theorem coil_dr (rb m : Nat) (w : World) (hr : Rd w rb m) (hm : m ≤ 650000) : Calls Tryz.prog 27 #[.pointer (some ⟨rb, 0, none⟩)] w (EDr 3 rb (m + 40) w) := (l3Coil_any rb m w hr hm).mono fun _ _ h => edr_of h (by omega)

theorem resNet {fn : Func} {W : World} {b p : Nat} {tmps : Array Value} {x0 x1 x2 x3 : Value} (h : fn.results = #[.cell p 49]) (hp : tmps.getD p undef = .pointer (some ⟨b, 0, none⟩))
    (hc : W.cell? ⟨b, 0, none⟩ = some x0 ∧ W.cell? ⟨b, 1, none⟩ = some x1 ∧ W.cell? ⟨b, 2, none⟩ = some x2 ∧ W.cell? ⟨b, 3, none⟩ = some x3) : (results fn tmps).run Tryz.prog W = .ok (.agg #[x0, x1, x2, x3]) W := by
  obtain ⟨h0, h1, h2, h3⟩ := hc
  simp only [results, h]
  simp [go_sem]
  rw [show tmps[p]?.getD undef = .pointer (some ⟨b, 0, none⟩) by simpa [Array.getD_eq_getD_getElem?] using hp]
  simp [go_sem, h0, h1, h2, h3]
/-- A net of the call's own. -/
structure Own4 (w : World) (b : Nat) (x0 x1 x2 x3 : Value) : Prop where
  row : w.heap[b]? = some (.cells #[x0, x1, x2, x3] 49 (0, 0))
theorem Own4.cells {w : World} {b : Nat} {x0 x1 x2 x3 : Value} (h : Own4 w b x0 x1 x2 x3) : w.cell? ⟨b, 0, none⟩ = some x0 ∧ w.cell? ⟨b, 1, none⟩ = some x1 ∧ w.cell? ⟨b, 2, none⟩ = some x2 ∧ w.cell? ⟨b, 3, none⟩ = some x3 :=
  ⟨cell_of_row _ _ 0 _ _ _ h.row, cell_of_row _ _ 1 _ _ _ h.row, cell_of_row _ _ 2 _ _ _ h.row, cell_of_row _ _ 3 _ _ _ h.row⟩
theorem Own4.free {w : World} {b : Nat} {x0 x1 x2 x3 : Value} (h : Own4 w b x0 x1 x2 x3) : w.frozen? ⟨b, 0, none⟩ = false ∧ w.frozen? ⟨b, 1, none⟩ = false ∧ w.frozen? ⟨b, 2, none⟩ = false ∧ w.frozen? ⟨b, 3, none⟩ = false :=
  ⟨frozen_of_row _ _ 0 _ _ h.row, frozen_of_row _ _ 1 _ _ h.row, frozen_of_row _ _ 2 _ _ h.row, frozen_of_row _ _ 3 _ _ h.row⟩
theorem Own4.lt {w : World} {b : Nat} {x0 x1 x2 x3 : Value} (h : Own4 w b x0 x1 x2 x3) : b < w.heap.size := (Array.getElem?_eq_some_iff.1 h.row).1
theorem Own4.new (w : World) (x0 x1 x2 x3 : Value) : Own4 (w.alloc (.cells #[x0, x1, x2, x3] 49)) w.heap.size x0 x1 x2 x3 := ⟨last _ _⟩
theorem Own4.to {w w' : World} {b : Nat} {x0 x1 x2 x3 : Value} (h : Own4 w b x0 x1 x2 x3) (hb : w'.heap[b]? = w.heap[b]?) : Own4 w' b x0 x1 x2 x3 := ⟨hb.trans h.row⟩
theorem Own4.step {rb : Nat} {w w' : World} {b : Nat} {x0 x1 x2 x3 : Value} (h : Own4 w b x0 x1 x2 x3) (st : Step rb w w') (hr : b ≠ rb) : Own4 w' b x0 x1 x2 x3 := h.to (st.block b h.lt hr)
theorem Own4.alloc {w : World} {b : Nat} {x0 x1 x2 x3 : Value} (h : Own4 w b x0 x1 x2 x3) (o : Obj) : Own4 (w.alloc o) b x0 x1 x2 x3 := h.to ((one w o).block b h.lt)
theorem Own4.set {w : World} {b c i : Nat} {x0 x1 x2 x3 v : Value} (h : Own4 w b x0 x1 x2 x3) (hc : b ≠ c) : Own4 (w.setCell ⟨c, i, none⟩ v) b x0 x1 x2 x3 := h.to (Below.heap_setCell _ _ _ _ hc)
theorem Own4.put {w : World} {b : Nat} {x0 x1 x2 x3 : Value} (h : Own4 w b x0 x1 x2 x3) (y0 y1 y2 y3 : Value) : Own4 ((((w.setCell ⟨b, 0, none⟩ y0).setCell ⟨b, 1, none⟩ y1).setCell ⟨b, 2, none⟩ y2).setCell ⟨b, 3, none⟩ y3) b y0 y1 y2 y3 := by
  have h0 := heap_setCell_same w b 0 _ 49 y0 h.row
  have h1 := heap_setCell_same _ b 1 _ 49 y1 h0
  have h2 := heap_setCell_same _ b 2 _ 49 y2 h1
  have h3 := heap_setCell_same _ b 3 _ 49 y3 h2
  exact ⟨by simpa using h3⟩
theorem Own4.put3 {w : World} {b : Nat} {x0 x1 x2 x3 : Value} (h : Own4 w b x0 x1 x2 x3) (y3 : Value) : Own4 (w.setCell ⟨b, 3, none⟩ y3) b x0 x1 x2 y3 := by
  have h0 := heap_setCell_same w b 3 _ 49 y3 h.row
  exact ⟨by simpa using h0⟩
end Go.Proofs.YtjkpingdokkkcaaGreatDoor.Tr

/- The drawing of nets: l6Net. Helper text: no statement is claimed here. -/
namespace Go.Proofs.YtjkpingdokkkcaaGreatDoor.Tr
open Go.ChangeShapes Go.WideShapes Go.ChangeAt Go.RowKit

/-- All contacts of a net have small numbers and few operands. -/
def okN (L : Nat) : (n : Nat) → NT n → Prop
  | 0, _ => True
  | n + 1, t => okEl L t.el ∧ ∀ u ∈ t.kids, okN L n u
def Zn : Nat → Nat
  | 0 => 3
  | d + 1 => 6 + 3 * Zn d
def Mn : Nat → Nat
  | 0 => 31
  | d + 1 => 33 + 3 * Mn d
theorem Zn_3 (d : Nat) : 3 ≤ Zn d := by cases d <;> simp [Zn] <;> omega
theorem Mn_31 (d : Nat) : 31 ≤ Mn d := by cases d <;> simp [Mn]; omega
/-- A net is drawn: its blocks are new. -/
def NDr (d z rb m : Nat) (w : World) (e : Ending) (w' : World) : Prop := ∃ (v : Value) (t : NT (d + 1)), e = .returned v ∧ NtV (Frs Non w.heap.size w') w' (d + 1) v t ∧ okN 3 (d + 1) t ∧ zN (d + 1) t ≤ z ∧ Rd w' rb m ∧ Step rb w w'
theorem out4 {O : Nat → Prop} {base c : Nat} {w : World} {y0 y1 y2 y3 : Value} (hc : c < base) (hO : ¬ O c) : Out O base w ((((w.setCell ⟨c, 0, none⟩ y0).setCell ⟨c, 1, none⟩ y1).setCell ⟨c, 2, none⟩ y2).setCell ⟨c, 3, none⟩ y3) :=
  ((((Out.refl O base w).set hc hO).set hc hO).set hc hO).set hc hO
theorem rd4 {rb m c : Nat} {w : World} {y0 y1 y2 y3 : Value} (h : Rd w rb m) (hc : rb < c) : Rd ((((w.setCell ⟨c, 0, none⟩ y0).setCell ⟨c, 1, none⟩ y1).setCell ⟨c, 2, none⟩ y2).setCell ⟨c, 3, none⟩ y3) rb m :=
  (((h.set _ _ _ hc).set _ _ _ hc).set _ _ _ hc).set _ _ _ hc
theorem step4 {rb c : Nat} {w w' : World} {y0 y1 y2 y3 : Value} (h : Step rb w w') (hc : w.heap.size ≤ c) : Step rb w ((((w'.setCell ⟨c, 0, none⟩ y0).setCell ⟨c, 1, none⟩ y1).setCell ⟨c, 2, none⟩ y2).setCell ⟨c, 3, none⟩ y3) :=
  (((h.setNew _ _ _ hc).setNew _ _ _ hc).setNew _ _ _ hc).setNew _ _ _ hc
/-- A net that is one contact. -/
theorem net_contact {d rb m m' : Nat} {w w2 w3 : World} {op : Int} {ys : List Ar} {p : Option Addr} {cap : Nat} (hA : SlOf (Frs Non w2.heap.size w3) (ArE w3) 3 p cap ys) (hok : okEl 3 (op, ys)) (hr : Rd w3 rb m') (hm : m' ≤ m) (st : Step rb w w3) (hlt : rb < w.heap.size) (h2 : w.heap.size < w2.heap.size) :
    NDr d (Zn d) rb m w (.returned (.agg #[.int .i64 1, .int .i64 op, .slice p ys.length cap, .slice none 0 0])) ((((w3.setCell ⟨w.heap.size, 0, none⟩ (.int .i64 1)).setCell ⟨w.heap.size, 1, none⟩ (.int .i64 op)).setCell ⟨w.heap.size, 2, none⟩ (.slice p ys.length cap)).setCell ⟨w.heap.size, 3, none⟩ (.slice none 0 0)) := by
  have o := out4 (O := Non) (base := w2.heap.size) (w := w3) (y0 := .int .i64 1) (y1 := .int .i64 op) (y2 := .slice p ys.length cap) (y3 := .slice none 0 0) h2 (fun h => h.elim)
  refine ⟨_, ((1, (op, ys), []) : NT (d + 1)), rfl, ⟨p, cap, none, 0, rfl, args_to o.keep (Frs.mono (by omega) o.size) hA, ⟨⟨Nat.le_refl _, Nat.zero_le _⟩, .inl rfl⟩⟩, ⟨hok, fun u hu => (by cases hu)⟩, ?_, rd4 (hr.mono hm) hlt, step4 st (Nat.le_refl _)⟩
  show ys.length + (0 + 0) ≤ _
  have := hok.1
  have : ys.length ≤ 3 := this
  have := Zn_3 d
  omega
def NetDr (d : Nat) : Prop := ∀ (rb m : Nat) (w : World) (_ : Rd w rb m) (_ : m + Mn d ≤ 600000), Calls Tryz.prog 65 #[.pointer (some ⟨rb, 0, none⟩), .int .i64 (d : Int)] w (NDr d (Zn d) rb (m + Mn d) w)

theorem Mn_d : ∀ d : Nat, d ≤ Mn d
  | 0 => Nat.zero_le _
  | d + 1 => by
    have := Mn_d d
    show d + 1 ≤ 33 + 3 * Mn d
    omega

set_option maxHeartbeats 4000000 in
set_option maxRecDepth 100000 in
theorem l6Net_0 : NetDr 0 := by
  intro rb m w hr hm
  have hlt := hr.lt
  have hM : Mn 0 = 31 := rfl
  go_enter Tryz.func65, Tryz.ntmps65
  go_wp2_with fail
  refine (pick_any rb m 7 _ (by omega) (hr.alloc _) (by omega)).mono ?_
  rintro e w2 ⟨k, rfl, k0, k1, -, hr2, st2⟩
  have st2' : Step rb w w2 := (Step.alloc rb w _).trans st2
  have o2 : Own4 w2 w.heap.size (.int .i64 0) (.int .i64 0) (.slice none 0 0) (.slice none 0 0) := (Own4.new w _ _ _ _).step st2 (by omega)
  have hl2 := o2.lt
  clear st2 k1
  go_wp2_with fail
  refine (contact_dr rb (m + 1) w2 hr2 (by omega)).mono ?_
  rintro e w3 ⟨op, ys, p, cap, rfl, hA, hok, hr3, st3⟩
  have o3 := o2.step st3 (by omega)
  obtain ⟨c0, c1, c2, c3⟩ := o3.cells
  obtain ⟨f0, f1, f2, f3⟩ := o3.free
  go_wp2
  exact bodyPost_ret (v := .agg #[.int .i64 1, .int .i64 op, .slice p ys.length cap, .slice none 0 0]) (resNet (b := w.heap.size) Tryz.results65 rfl (o3.put _ _ _ _).cells) rfl (net_contact (d := 0) hA hok hr3 (by omega) (st2'.trans st3) hlt hl2)
end Go.Proofs.YtjkpingdokkkcaaGreatDoor.Tr
