/- A row of operands of the call's own, appended to. Helper text: no statement is claimed here. -/
import Derived.Test.YtmgjngihngddfaaGreatDoorP02
import Derived.Deep.AppendLies
import Derived.Laws.AppendOwnNone
import Derived.OwnWalk
import Derived.Test.YtmgjngihngddfaaGreatDoorP26
import Derived.Deep.RegionHeld3
import Derived.Deep.WholeRow
import Derived.Deep.CutRange
import Derived.Test.YtmgjngihngddfaaGreatDoorP27
import Derived.Test.YtmgjngihngddfaaGreatDoorP04
import Derived.Test.YtmgjngihngddfaaGreatDoorP06
namespace Go.Proofs.YtmgjngihngddfaaGreatDoor
open Go.ChangeShapes Go.WideShapes Go.ChangeAt Go.RowKit

theorem iDev : (Tryz.prog.info? 48).map (fun i => (i.zero, i.size, i.bytes)) = some (some (.agg #[.int .i64 0, .int .i64 0, .int .i64 0]), 3, 24) := by kernel_rfl
theorem arCells_one (ys : List Ar) : ∀ u ∈ arCells ys, u.oneCell' = true := by
  intro u hu
  simp only [arCells, List.mem_flatMap] at hu
  obtain ⟨a, -, ha⟩ := hu
  simp only [List.mem_cons, List.not_mem_nil, or_false] at ha
  rcases ha with rfl | rfl | rfl <;> rfl
theorem ArgsAt.news {w : World} {B : Nat} {ys : List Ar} (h : ArgsAt w B ys) : ∀ j u, (arCells ys)[j]? = some u → w.cell? ((⟨B, 0, none⟩ : Addr).add j) = some u := by
  intro j u hu
  have hadd : (⟨B, 0, none⟩ : Addr).add j = ⟨B, j, none⟩ := by unfold Addr.add; split <;> simp_all
  rw [hadd]
  have hj : j < ys.length * 3 := by
    have := (List.getElem?_eq_some_iff.1 hu).1
    rwa [arCells_len] at this
  obtain ⟨a, b, c⟩ := arCells_at ys (j / 3) (by omega)
  obtain ⟨h0, h1, h2⟩ := h (j / 3) (by omega)
  have hm : j % 3 = 0 ∨ j % 3 = 1 ∨ j % 3 = 2 := by omega
  rcases hm with hm | hm | hm
  · rw [show j / 3 * 3 = j by omega] at a h0
    rw [a] at hu; rw [h0, hu]
  · rw [show j / 3 * 3 + 1 = j by omega] at b h1
    rw [b] at hu; rw [h1, hu]
  · rw [show j / 3 * 3 + 2 = j by omega] at c h2
    rw [c] at hu; rw [h2, hu]

/-- append to a row of operands that is the call's own. -/
theorem wpList_app {ops : Array Oper} {rest : List Oper} {o : Oper} {a : Act} {Q : Exit → Act → World → Prop} (w : World) (hgd : o.guard = none) (s x : Operand)
    (ho : o.op = .call { callee := .builtin .append, args := #[s, x], argTypes := #[38, 38] }) (base : Nat)
    (v : Value) (n : Nat) (xs : List Value) (hs : a.eval s = v) (hown : w.ownsRow base 48 3 v n xs)
    (ad : Addr) (m c : Nat) (news : List Value) (hx : a.eval x = .slice (some ad) m c) (hl : news.length = m * 3) (hnews : ∀ j u, news[j]? = some u → w.cell? (ad.add j) = some u) (h1 : ∀ u ∈ news, u.oneCell' = true)
    (hb : n + m ≤ 1000) (hbase : base ≤ w.heap.size)
    (h : ∀ v' w', w'.ownsRow base 48 3 v' (n + m) (xs ++ news) → w.grownBy w' v.ownBlock → (v' = .slice none 0 0 ↔ v = .slice none 0 0 ∧ m = 0) → wpList Tryz.prog ops Q rest (a.put o.dst v') w') : wpList Tryz.prog ops Q (o :: rest) a w := by
  obtain ⟨i0, hi, hz0, hz1, hz2⟩ := info_parts iDev
  exact wpList_append_own w hgd s x _ ho base _ i0 _ 3 24 Tryz.underlying38 hi hz0 hz1 hz2 rfl (by decide) v n xs hs hown ad m c news hx hl hnews h1 (by unfold maxLen; omega) (by omega) hbase h
theorem wpList_copy {ops : Array Oper} {rest : List Oper} {o : Oper} {a : Act} {Q : Exit → Act → World → Prop} (w : World) (hgd : o.guard = none) (s x : Operand)
    (ho : o.op = .call { callee := .builtin .append, args := #[s, x], argTypes := #[38, 38] }) (base : Nat)
    (g0 : Nat) (hs : a.eval s = .slice (some ⟨g0, 0, none⟩) 0 0) (hown : w.ownsRow base 48 3 (.slice (some ⟨g0, 0, none⟩) 0 0) 0 [])
    (ad : Addr) (m c : Nat) (news : List Value) (hx : a.eval x = .slice (some ad) m c) (hl : news.length = m * 3) (hnews : ∀ j u, news[j]? = some u → w.cell? (ad.add j) = some u) (h1 : ∀ u ∈ news, u.oneCell' = true)
    (hb : m ≤ 1000) (hbase : base ≤ w.heap.size)
    (h : ∀ v' w', Hid (w'.ownsRow base 48 3 v' m news) → Hid (w.grownBy w' (some g0)) → Hid (v' ≠ .slice none 0 0) → wpList Tryz.prog ops Q rest (a.put o.dst v') w') : wpList Tryz.prog ops Q (o :: rest) a w :=
  wpList_app w hgd s x ho base _ 0 [] hs hown ad m c news hx hl hnews h1 (by omega) hbase (fun v' w' h1 h2 h3 => h v' w' (by rw [Nat.zero_add, List.nil_append] at h1; exact h1) h2 (fun e => by have := (h3.1 e).1; simp at this))
theorem wpList_app0 {ops : Array Oper} {rest : List Oper} {o : Oper} {a : Act} {Q : Exit → Act → World → Prop} {w : World} (hgd : o.guard = none) (s x : Operand)
    (ho : o.op = .call { callee := .builtin .append, args := #[s, x], argTypes := #[38, 38] }) (base : Nat)
    (v : Value) (n : Nat) (xs : List Value) (hs : a.eval s = v) (hown : w.ownsRow base 48 3 v n xs) (hx : a.eval x = .slice none 0 0)
    (h : wpList Tryz.prog ops Q rest (a.put o.dst v) w) : wpList Tryz.prog ops Q (o :: rest) a w := by
  obtain ⟨i0, hi, hz0, hz1, hz2⟩ := info_parts iDev
  exact wpList_append_own_none hgd s x _ ho base _ i0 3 Tryz.underlying38 hi v n xs hs hown hx h

theorem step_app {ops : Array Oper} {o : Oper} {a : Act} {K : Act → World → Prop} {Q : Exit → Act → World → Prop} {E : Prop} (w : World) (hgd : o.guard = none) (s x : Operand)
    (ho : o.op = .call { callee := .builtin .append, args := #[s, x], argTypes := #[38, 38] }) (base : Nat)
    (v : Value) (n : Nat) (xs : List Value) (hs : a.eval s = v) (hown : w.ownsRow base 48 3 v n xs)
    (ad : Addr) (m c : Nat) (news : List Value) (hx : a.eval x = .slice (some ad) m c) (hl : news.length = m * 3) (hnews : ∀ j u, news[j]? = some u → w.cell? (ad.add j) = some u) (h1 : ∀ u ∈ news, u.oneCell' = true)
    (hm : 0 < m) (hb : n + m ≤ 1000) (hbase : base ≤ w.heap.size)
    (h : ∀ g cap w', Hid (w'.ownsRow base 48 3 (.slice (some ⟨g, 0, none⟩) (n + m) cap) (n + m) (xs ++ news)) → Hid (w.grownBy w' v.ownBlock) → g < w'.heap.size → K (a.put o.dst (.slice (some ⟨g, 0, none⟩) (n + m) cap)) w') :
    if Region.wanted o (yielded ops a.tmps) = true then Oper.wp Tryz.prog o a w K Q else E := by
  obtain ⟨i0, hi, hz0, hz1, hz2⟩ := info_parts iDev
  exact step_append_lies w hgd s x _ ho base _ i0 _ 3 24 Tryz.underlying38 hi hz0 hz1 hz2 rfl (by decide) v n xs hs hown ad m c news hx hl hnews h1 hm (by unfold maxLen; omega) (by omega) hbase _ rfl (fun g cap w' a b _ d => h g cap w' a b d)
theorem arCells_snoc (ys : List Ar) (a : Ar) : arCells ys ++ [.int .i64 a.1, .int .i64 a.2.1, .int .i64 a.2.2] = arCells (ys ++ [a]) := by simp [arCells]
theorem Own2.in {w w' : World} {b B : Nat} {x y : Value} (h : Own2 w b x y) (hb : Below B w w') (hlt : b < B) : Own2 w' b x y := by
  unfold Own2
  rw [hb.cell (p := ⟨b, 0, none⟩) hlt, hb.cell (p := ⟨b, 1, none⟩) hlt, hb.frozen (p := ⟨b, 0, none⟩) hlt, hb.frozen (p := ⟨b, 1, none⟩) hlt]
  exact h
/-- A row of operands in a block of the call's own, with room. -/
def ARow (W : World) (g cp : Nat) (ys : List Ar) : Prop := ∃ cur : Array Value, W.heap[g]? = some (.cells cur 48 (0, 0)) ∧ ys.length ≤ cp ∧ cp ≤ maxLen ∧ cur.size = cp * 3 ∧ cur.toList.take (ys.length * 3) = arCells ys
theorem ARow.lt {W : World} {g cp : Nat} {ys : List Ar} (h : ARow W g cp ys) : g < W.heap.size := by
  obtain ⟨cur, h1, _⟩ := h
  exact (Array.getElem?_eq_some_iff.1 h1).1
theorem ARow.args {W : World} {g cp : Nat} {ys : List Ar} (h : ARow W g cp ys) : ArgsAt W g ys := by
  obtain ⟨cur, h1, h2, _, h3, h4⟩ := h
  intro i hi
  obtain ⟨a, b, c⟩ := arCells_at ys i hi
  rw [← h4, List.getElem?_take] at a b c
  rw [if_pos (by omega)] at a b c
  exact ⟨(cell_of_row _ _ _ _ _ _ h1).trans (by simpa using a), (cell_of_row _ _ _ _ _ _ h1).trans (by simpa using b), (cell_of_row _ _ _ _ _ _ h1).trans (by simpa using c)⟩
theorem ARow.room {W : World} {g cp : Nat} {ys : List Ar} (h : ARow W g cp ys) : ys.length ≤ cp := by
  obtain ⟨cur, h1, h2, _⟩ := h
  exact h2
theorem ARow.free {W : World} {g cp : Nat} {ys : List Ar} (h : ARow W g cp ys) (k : Nat) : W.frozen? ⟨g, k, none⟩ = false := by
  obtain ⟨cur, h1, _⟩ := h
  exact frozen_of_row _ _ _ _ _ h1
theorem ARow.owns {W : World} {g cp base : Nat} {ys : List Ar} (h : ARow W g cp ys) (hb : base ≤ g) : W.ownsRow base 48 3 (.slice (some ⟨g, 0, none⟩) ys.length cp) ys.length (arCells ys) := by
  obtain ⟨cur, h1, h2, h2', h3, h4⟩ := h
  exact ⟨arCells_len ys, .inr ⟨g, cp, cur, rfl, hb, h1, h2, h2', h3, h4⟩⟩
theorem ARow.set {W : World} {g cp c i : Nat} {v : Value} {ys : List Ar} (h : ARow W g cp ys) (hc : g ≠ c) : ARow (W.setCell ⟨c, i, none⟩ v) g cp ys := by
  obtain ⟨cur, h1, h2⟩ := h
  exact ⟨cur, (heap_setCell_other W ⟨c, i, none⟩ g v hc).trans h1, h2⟩
theorem arCells_set : ∀ (ys : List Ar) (k : Nat) (x y z : Int), k < ys.length → (((arCells ys).set (k * 3) (.int .i64 x)).set (k * 3 + 1) (.int .i64 y)).set (k * 3 + 2) (.int .i64 z) = arCells (ys.set k (x, y, z))
  | [], k, _, _, _, h => by simp at h
  | a :: l, 0, x, y, z, _ => by simp [arCells]
  | a :: l, k + 1, x, y, z, h => by
    have ih := arCells_set l k x y z (by simpa using h)
    rw [show (k + 1) * 3 = k * 3 + 1 + 1 + 1 by omega]
    simpa [arCells] using ih
theorem ARow.put {W : World} {g cp : Nat} {ys : List Ar} (h : ARow W g cp ys) {k : Nat} (hk : k < ys.length) (x y z : Int) :
    ARow (((W.setCell ⟨g, k * 3, none⟩ (.int .i64 x)).setCell ⟨g, k * 3 + 1, none⟩ (.int .i64 y)).setCell ⟨g, k * 3 + 2, none⟩ (.int .i64 z)) g cp (ys.set k (x, y, z)) := by
  obtain ⟨cur, h1, h2, h2', h3, h4⟩ := h
  refine ⟨_, heap_setCell_same _ _ _ _ _ _ (heap_setCell_same _ _ _ _ _ _ (heap_setCell_same _ _ _ _ _ _ h1)), by simpa using h2, h2', by simpa using h3, ?_⟩
  rw [← arCells_set ys k x y z hk, ← h4]
  simp [List.take_set]
theorem at3_set {ys : List Ar} {k : Nat} {a : Ar} (hk : k < ys.length) : at3 (ys.set k a) k = a := by simp [at3, List.getD, hk]
theorem arow_of {W : World} {base n : Nat} {v : Value} {ys : List Ar} (h : W.ownsRow base 48 3 v n (arCells ys)) (hn : n = ys.length) (hv : v ≠ .slice none 0 0) : ∃ g cp, v = .slice (some ⟨g, 0, none⟩) ys.length cp ∧ base ≤ g ∧ ARow W g cp ys := by
  subst hn
  rcases h.2 with h' | ⟨g, cap, cur, hv, hb, h1, h2, h3, h4, h5⟩
  · exact absurd h'.1 hv
  · exact ⟨g, cap, hv, hb, cur, h1, h2, h3, h4, h5⟩

theorem ARow.to {W W' : World} {g cp : Nat} {ys : List Ar} (h : ARow W g cp ys) (hb : Below W.heap.size W W') : ARow W' g cp ys := by
  have hl := h.lt
  obtain ⟨cur, h1, h2⟩ := h
  exact ⟨cur, (hb.block g hl).trans h1, h2⟩
end Go.Proofs.YtmgjngihngddfaaGreatDoor

/- The spoiling of contacts and coils: l3Spoil. Helper text: no statement is claimed here. -/
namespace Go.Proofs.YtmgjngihngddfaaGreatDoor
open Go.ChangeShapes Go.WideShapes Go.ChangeAt Go.RowKit

/-- The operands of a contact or coil, in memory that is not the reader's. -/
def ElsB (rb : Nat) (w : World) (p : Option Addr) (ys : List Ar) (cap : Nat) : Prop :=
  (p = none ∧ ys = [] ∧ cap = 0) ∨ ∃ B, p = some ⟨B, 0, none⟩ ∧ B ≠ rb ∧ B < w.heap.size ∧ ArgsAt w B ys
theorem sm_snoc {ys : List Ar} (h : ∀ a ∈ ys, Sm a.1 ∧ Sm a.2.1 ∧ Sm a.2.2) {b : Ar} (hb : Sm b.1 ∧ Sm b.2.1 ∧ Sm b.2.2) : ∀ a ∈ ys ++ [b], Sm a.1 ∧ Sm a.2.1 ∧ Sm a.2.2 := fun a ha => by
  rcases List.mem_append.1 ha with h' | h'
  · exact h a h'
  · rw [List.mem_singleton.1 h']; exact hb
theorem Rd.in {w w' : World} {rb m B : Nat} (h : Rd w rb m) (hb : Below B w w') (hB : rb < B) : Rd w' rb m := by
  obtain ⟨a, len, cap, p, h0, h1, hf, hp, hl, hr⟩ := h.rd
  refine ⟨a, len, cap, p, ?_, ?_, ?_, hp, hl, ?_⟩
  · rw [hb.cell (p := ⟨rb, 0, none⟩) hB]; exact h0
  · rw [hb.cell (p := ⟨rb, 1, none⟩) hB]; exact h1
  · rw [hb.frozen (p := ⟨rb, 1, none⟩) hB]; exact hf
  · rcases hr with hr | ⟨b, off, f, ha, hbr, hc⟩
    · exact .inl hr
    · refine .inr ⟨b, off, f, ha, hbr, fun i hi => ?_⟩
      rw [hb.cell (p := ⟨b, off + i, none⟩) (show b < B by omega)]
      exact hc i hi
theorem Step.in {rb B : Nat} {w W W' : World} (h : Step rb w W) (hb : Below B W W') (hB : w.heap.size ≤ B) : Step rb w W' :=
  ⟨hb.os.trans h.os, hb.tape.trans h.tape, hb.output.trans h.output, Nat.le_trans h.size hb.size, fun k hk hr => (hb.block k (by omega)).trans (h.block k hk hr)⟩
theorem ARow.step {rb : Nat} {W W' : World} {g cp : Nat} {ys : List Ar} (h : ARow W g cp ys) (st : Step rb W W') (hr : g ≠ rb) : ARow W' g cp ys := by
  have hl := h.lt
  obtain ⟨cur, h1, h2⟩ := h
  exact ⟨cur, (st.block g hl hr).trans h1, h2⟩
theorem sm_at {ys : List Ar} (h : ∀ a ∈ ys, Sm a.1 ∧ Sm a.2.1 ∧ Sm a.2.2) {k : Nat} (hk : k < ys.length) : Sm (at3 ys k).1 ∧ Sm (at3 ys k).2.1 ∧ Sm (at3 ys k).2.2 := h _ (by simp [at3, List.getD, hk])
theorem sm_set {ys : List Ar} (h : ∀ a ∈ ys, Sm a.1 ∧ Sm a.2.1 ∧ Sm a.2.2) (k : Nat) {b : Ar} (hb : Sm b.1 ∧ Sm b.2.1 ∧ Sm b.2.2) : ∀ a ∈ ys.set k b, Sm a.1 ∧ Sm a.2.1 ∧ Sm a.2.2 := fun a ha => by
  rcases List.mem_or_eq_of_mem_set ha with h' | h'
  · exact h a h'
  · rw [h']; exact hb
theorem edrawn_row {L rb m m' : Nat} {w W : World} {op : Int} {ys : List Ar} {g cp : Nat} (hlt : rb < w.heap.size) (hr : Rd W rb m') (hm : m' ≤ m) (sw : Step rb w W) (row : ARow W g cp ys) (hg : w.heap.size + 1 + 1 ≤ g) (hop : Sm op)
    (hys : ∀ a ∈ ys, Sm a.1 ∧ Sm a.2.1 ∧ Sm a.2.2) (hl : ys.length ≤ L) :
    EDrawn L rb m w (.returned (.agg #[.int .i64 op, .slice (some ⟨g, 0, none⟩) ys.length cp]))
      ((W.setCell ⟨w.heap.size + 1, 0, none⟩ (.int .i64 op)).setCell ⟨w.heap.size + 1, 1, none⟩ (.slice (some ⟨g, 0, none⟩) ys.length cp)) := by
  have h2 := row.lt
  refine ⟨op, ys, _, cp, rfl, hop, hys, hl, row.room, .inr ⟨g, rfl, by omega, by simpa using h2, ((row.set (by omega)).set (by omega)).args⟩, ((hr.mono hm).set _ _ _ (by omega)).set _ _ _ (by omega), (sw.setNew _ _ _ (by omega)).setNew _ _ _ (by omega)⟩

theorem nums_10 (w : World) : Nums (w.alloc (.cells #[.int .i64 (-1), .int .i64 0, .int .i64 1, .int .i64 5, .int .i64 11, .int .i64 20, .int .i64 21, .int .i64 26, .int .i64 37, .int .i64 38] 3)) w.heap.size 10 := by
  have := nums_mk w [-1, 0, 1, 5, 11, 20, 21, 26, 37, 38] 3 (by simp)
  simpa using this
/-- What stands behind the copying of the operands. -/
def Copied (w : World) (op : Int) (p : Option Addr) (ys : List Ar) (cap : Nat) (s : Value) (W : World) : Prop := ∃ g cp, s = .slice (some ⟨g, 0, none⟩) ys.length cp ∧ w.heap.size + 1 + 1 ≤ g ∧ ARow W g cp ys ∧
  Own2 W w.heap.size (.int .i64 op) (.slice p ys.length cap) ∧ Own2 W (w.heap.size + 1) (.int .i64 0) (.slice none 0 0) ∧ Below w.heap.size w W
set_option maxRecDepth 100000 in
set_option maxHeartbeats 4000000 in
theorem spoilE_any (L rb m : Nat) (op : Int) (ys : List Ar) (p : Option Addr) (cap : Nat) (w : World) (hr : Rd w rb m) (hm : m ≤ 850) (hE : ElsB rb w p ys cap) (hop : Sm op) (hys : ∀ a ∈ ys, Sm a.1 ∧ Sm a.2.1 ∧ Sm a.2.2) (hl : ys.length ≤ L) (hL : L ≤ 10) :
    Calls Tryz.prog 16 #[.pointer (some ⟨rb, 0, none⟩), elemV op p ys.length cap] w (EDrawn (L + 1) rb (m + 20) w) := by
  have hlt := hr.lt
  have hne : w.heap.size ≠ rb := by omega
  have HE : Hid (ElsB rb w p ys cap) := hE
  clear hE
  have HO : Hid ((((w.alloc (.cells #[.int .i64 op, .slice p ys.length cap] 40)).alloc (.cells #[.int .i64 0, .slice none 0 0] 40)).alloc (.cells #[] 48)).ownsRow (w.heap.size + 1 + 1) 48 3 (.slice (some ⟨w.heap.size + 1 + 1, 0, none⟩) 0 0) 0 []) :=
    ⟨rfl, .inr ⟨w.heap.size + 1 + 1, 0, #[], rfl, Nat.le_refl _, by have := heap_alloc_last ((w.alloc (.cells #[.int .i64 op, .slice p ys.length cap] 40)).alloc (.cells #[.int .i64 0, .slice none 0 0] 40)) (.cells #[] 48); simpa using this, Nat.le_refl _, by unfold maxLen; omega, rfl, rfl⟩⟩
  have HB0 : Hid (Below w.heap.size w (((w.alloc (.cells #[.int .i64 op, .slice p ys.length cap] 40)).alloc (.cells #[.int .i64 0, .slice none 0 0] 40)).alloc (.cells #[] 48))) := ((one _ _).alloc (by simp) _).alloc (by simp; omega) _
  have HX : Hid (Own2 _ _ _ _) := ((Own2.new w (.int .i64 op) (.slice p ys.length cap)).alloc (.cells #[.int .i64 0, .slice none 0 0] 40)).alloc (.cells #[] 48)
  have hR0 := (Own2.new (w.alloc (.cells #[.int .i64 op, .slice p ys.length cap] 40)) (.int .i64 0) (.slice none 0 0)).alloc (.cells #[] 48)
  rw [World.size_alloc] at hR0
  have HR : Hid (Own2 _ _ _ _) := hR0
  clear hR0
  have HS : Hid ((((w.alloc (.cells #[.int .i64 op, .slice p ys.length cap] 40)).alloc (.cells #[.int .i64 0, .slice none 0 0] 40)).alloc (.cells #[] 48)).heap.size = w.heap.size + 3) := by
    show _ = _
    simp
  have HA1 : Hid (∀ u ∈ arCells ys, u.oneCell' = true) := arCells_one ys
  have HA2 : Hid ((arCells ys).length = ys.length * 3) := arCells_len ys
  go_enter Tryz.func16, Tryz.ntmps16
  go_upto_region 1 with fail
  go_cut [5] from 7 to 10 (fun s5 wx => Copied w op p ys cap s5 wx)
  case first =>
    rcases HE.out with ⟨rfl, rfl, rfl⟩ | ⟨B, rfl, hB1, hB2, hA⟩
    · go_wp2_with (at_builtin; refine wpList_app0 rfl (.tmp 7) (.tmp 9) rfl (w.heap.size + 1 + 1) _ 0 [] rfl HO.out rfl ?_)
      go_meet
      obtain ⟨g, cp, hv, hg, row⟩ := arow_of (ys := []) HO.out rfl (by simp)
      exact ⟨g, cp, hv, hg, row, HX.out, HR.out, HB0.out⟩
    · have HN : Hid _ := ((hA.to hB2 HB0.out).news)
      clear hA
      go_wp2_with (at_builtin; refine wpList_copy _ rfl (.tmp 7) (.tmp 9) rfl (w.heap.size + 1 + 1) (w.heap.size + 1 + 1) rfl HO.out ⟨B, 0, none⟩ ys.length cap (arCells ys) rfl HA2.out HN.out HA1.out (by omega) (by simp) ?_; intro v' w1 HW HG HI)
      go_meet
      obtain ⟨g, cp, hv, hg, row⟩ := arow_of HW.out rfl HI.out
      have bel : Below (w.heap.size + 1 + 1) _ w1 := (Below.refl _ _).grown HG.out (by have := HS.out; omega) (fun k e => by cases e; exact Nat.le_refl _)
      exact ⟨g, cp, hv, hg, row, HX.out.in bel (by omega), HR.out.in bel (by omega), HB0.out.trans (bel.mono (by omega))⟩
  case rest =>
  clear HE HO HB0 HX HR HS HA1 HA2
  obtain ⟨g, cp, rfl, hg, row, ox, o1, hb⟩ := hcut
  have hr1 := hr.to hb
  have sw1 : Step rb w wc := Step.of hb
  clear hb
  go_wp2_with fail
  refine (pick_any rb m 6 _ (by omega) hr1 (by omega)).mono ?_
  rintro e w2 ⟨t, rfl, t0, t1, -, hr2, st2⟩
  have t1 : t < 6 := t1 (by omega)
  have row2 := row.step st2 (by omega)
  have ox2 := ox.step st2 hne
  have o2 := o1.step st2 (by omega)
  have sw2 := sw1.trans st2
  have hz2 := o2.lt
  have hzx := ox2.lt
  have hzg := row2.lt
  clear row ox o1 sw1 st2 hr1
  have ht : t = 0 ∨ t = 1 ∨ t = 2 ∨ 3 ≤ t := by omega
  rcases ht with rfl | rfl | rfl | ht
  · go_wp2_with fail
    refine (num_any rb (m + 1) w2.heap.size 10 _ (by omega) (by omega) (hr2.alloc _) (by omega) (nums_10 w2) (by omega)).mono ?_
    rintro e w3 ⟨v, rfl, v0, v1, hr3, st3⟩
    have st3 : Step rb w2 w3 := (Step.alloc rb w2 _).trans st3
    have o3 := o2.step st3 (by omega)
    have o3c := o3
    obtain ⟨⟨o30, o31⟩, z30, z31⟩ := o3c
    go_wp2
    exact bodyPost_ret (v := .agg #[.int .i64 v, .slice (some ⟨g, 0, none⟩) ys.length cp]) (resElem (b := w.heap.size + 1) Tryz.results16 rfl (o3.put _ _).1) rfl (edrawn_row hlt hr3 (by omega) (sw2.trans st3) (row2.step st3 (by omega)) hg ⟨v0, v1⟩ hys (by omega))
  · have x0 := ox2.1.1
    have hown := row2.owns (base := w.heap.size + 1 + 1) hg
    have HOW : Hid (w2.ownsRow (w.heap.size + 1 + 1) 48 3 (.slice (some ⟨g, 0, none⟩) ys.length cp) ys.length (arCells ys)) := hown
    clear hown
    go_wp2
    go_region_held3 (fun w' => w'.cell? ⟨w.heap.size, 0, none⟩ = some (.int .i64 op)) (first | go_keep | assumption)
      (first
        | (go_at_call 44; refine (argAny_any rb (m + 1) _ ?_ (by omega)).mono ?_; exact hr2.drew; rintro e w3 ⟨k, n, q, rfl, hk, hn, hq, hr3, st3⟩; have st3' : Step rb w2 w3 := (Step.drew rb w2).trans st3; have x3 := (st3'.cell w.heap.size 0 (by omega) hne).trans x0; have row3 := row2.step st3' (by omega); have hz3 := row3.lt; have o3 := o2.step st3' (by omega); have HO3 : Hid (World.ownsRow (w3.alloc (.cells #[.int .i64 k, .int .i64 n, .int .i64 q] 48)) (w.heap.size + 1 + 1) 48 3 (.slice (some ⟨g, 0, none⟩) ys.length cp) ys.length (arCells ys)) := (row3.owns hg).alloc _)
        | (refine step_app _ (by rfl) (.tmp 24) (.tmp 27) (by rfl) (w.heap.size + 1 + 1) _ ys.length (arCells ys) (by rfl) HO3.out ⟨w3.heap.size, 0, none⟩ 1 1 [.int .i64 k, .int .i64 n, .int .i64 q] (by rfl) (by rfl) (World.news_of_block (cs := #[.int .i64 k, .int .i64 n, .int .i64 q]) (t := 48) (fr := (0, 0)) (heap_alloc_new w3 _)) (by simp [Value.oneCell']) (by omega) (by omega) (by simp; omega) ?_; intro g4 cp4 w4 HW4 HG4 hl4; have x4 := (HG4.out.cell_far ⟨w.heap.size, 0, none⟩ (by simp; omega) (by simp [Value.ownBlock]; omega)).trans ((World.cell?_alloc_lt _ _ ⟨w.heap.size, 0, none⟩ (show w.heap.size < w3.heap.size by omega)).trans x3); have HBL : Hid (Below (w.heap.size + 1 + 1) (w3.alloc (.cells #[.int .i64 k, .int .i64 n, .int .i64 q] 48)) w4) := (Below.refl _ _).grown HG4.out (by simp; omega) (fun k e => by cases e; exact hg); have o4 := (o3.alloc (.cells #[.int .i64 k, .int .i64 n, .int .i64 q] 48)).in HBL.out (by omega); have o4c := o4; obtain ⟨⟨o40, o41⟩, z40, z41⟩ := o4c))
    all_goals (try go_wp2)
    obtain ⟨g5, cp5, e5, hg5, row5⟩ := arow_of (ys := ys ++ [(k, n, q)]) (n := ys.length + 1) (by rw [← arCells_snoc]; exact HW4.out) (by simp) (by simp)
    simp only [Value.slice.injEq, Option.some.injEq, Addr.mk.injEq] at e5
    obtain ⟨⟨rfl, -, -⟩, -, rfl⟩ := e5
    have hF := edrawn_row (L := L + 1) (m := m + 20) (op := op) hlt ((hr3.alloc _).in HBL.out (by omega)) (by omega) (((sw2.trans st3').trans (Step.alloc rb w3 _)).in HBL.out (by omega)) row5 hg5 hop (sm_snoc hys (b := (k, n, q)) ⟨hk, hn, hq⟩) (by simp; omega)
    rw [show (ys ++ [(k, n, q)]).length = ys.length + 1 by simp] at hF
    exact bodyPost_ret (v := .agg #[.int .i64 op, .slice (some ⟨g4, 0, none⟩) (ys.length + 1) cp4]) (resElem (b := w.heap.size + 1) Tryz.results16 rfl (o4.put _ _).1) rfl hF
  · have oxc := ox2
    obtain ⟨⟨x0, x1⟩, y0, y1⟩ := oxc
    have o2c := o2
    obtain ⟨⟨o20, o21⟩, z20, z21⟩ := o2c
    go_wp2
    exact bodyPost_ret (v := .agg #[.int .i64 op, .slice none 0 0]) (resElem (b := w.heap.size + 1) Tryz.results16 rfl (o2.put _ _).1) rfl ⟨op, [], none, 0, rfl, hop, smN, by simp, by simp, .inl ⟨rfl, rfl, rfl⟩, ((hr2.mono (by omega)).set _ _ _ (by omega)).set _ _ _ (by omega), (sw2.setNew _ _ _ (by omega)).setNew _ _ _ (by omega)⟩
  · have e0 : (t == 0) = false := by simp; omega
    have e1 : (t == 1) = false := by simp; omega
    have e2 : (t == 2) = false := by simp; omega
    clear ht t0 t1
    by_cases hn0 : ys.length = 0
    · have HL : Hid (ys.length = 0) := hn0
      have hn0' : ¬ (0 : Int) < (ys.length : Int) := by omega
      clear hn0
      have oxc := ox2
      obtain ⟨⟨x0, x1⟩, y0, y1⟩ := oxc
      have o2c := o2
      obtain ⟨⟨o20, o21⟩, z20, z21⟩ := o2c
      go_wp2
      exact bodyPost_ret (v := .agg #[.int .i64 op, .slice (some ⟨g, 0, none⟩) ys.length cp]) (resElem (b := w.heap.size + 1) Tryz.results16 rfl (o2.put _ _).1) rfl (edrawn_row hlt hr2 (by omega) sw2 row2 hg hop hys (by omega))
    · have hn1 : (0 : Int) < (ys.length : Int) := by omega
      go_wp2_with fail
      refine (pick_any rb (m + 1) ys.length _ (by omega) hr2 (by omega)).mono ?_
      rintro e w3 ⟨k', rfl, k0, k1, -, hr3, st3⟩
      obtain ⟨k, rfl⟩ := Int.eq_ofNat_of_zero_le k0
      have hk1 : (k : Int) < (ys.length : Int) := k1 (by omega)
      have hk : k < ys.length := by omega
      have row3 := row2.step st3 (by omega)
      have ox3 := ox2.step st3 hne
      have o3 := o2.step st3 (by omega)
      have sw3 := sw2.trans st3
      clear row2 ox2 o2 sw2 st3 k1 hn0
      obtain ⟨a0, a1, a2⟩ := row3.args k hk
      have hsm := sm_at hys hk
      generalize hqx : (at3 ys k).1 = qx at *
      generalize hqy : (at3 ys k).2.1 = qy at *
      generalize hqz : (at3 ys k).2.2 = qz at *
      clear hqx hqy hqz
      go_wp2_with fail
      refine (spoilt_any rb (m + 2) qx qy qz _ hr3 (by omega) hsm.1 hsm.2.1 hsm.2.2).mono ?_
      rintro e w4 ⟨kk, nn, pp, rfl, hkk, hnn, hpp, hr4, st4⟩
      have row4 := row3.step st4 (by omega)
      have ox4 := ox3.step st4 hne
      have o4 := o3.step st4 (by omega)
      have sw4 := sw3.trans st4
      clear row3 ox3 o3 sw3 st4 a0 a1 a2
      obtain ⟨a0, a1, a2⟩ := row4.args k hk
      have f0 := row4.free (k * 3)
      have f1 := row4.free (k * 3 + 1)
      have f2 := row4.free (k * 3 + 2)
      go_wp2_with fail
      refine (pick_any rb (m + 4) 2 _ (by omega) (((hr4.set _ _ _ (by omega)).set _ _ _ (by omega)).set _ _ _ (by omega)) (by omega)).mono ?_
      rintro e w5 ⟨v, rfl, v0, v1, -, hr5, st5⟩
      have row5 := (row4.put hk kk nn pp).step st5 (by omega)
      have ox5 := (((ox4.set (c := g) (i := k * 3) (v := .int .i64 kk) (by omega)).set (c := g) (i := k * 3 + 1) (v := .int .i64 nn) (by omega)).set (c := g) (i := k * 3 + 2) (v := .int .i64 pp) (by omega)).step st5 hne
      have o5 := (((o4.set (c := g) (i := k * 3) (v := .int .i64 kk) (by omega)).set (c := g) (i := k * 3 + 1) (v := .int .i64 nn) (by omega)).set (c := g) (i := k * 3 + 2) (v := .int .i64 pp) (by omega)).step st5 (by omega)
      have sw5 := (((sw4.setNew g (k * 3) (.int .i64 kk) (by omega)).setNew g (k * 3 + 1) (.int .i64 nn) (by omega)).setNew g (k * 3 + 2) (.int .i64 pp) (by omega)).trans st5
      have hys5 := sm_set hys k (b := (kk, nn, pp)) ⟨hkk, hnn, hpp⟩
      clear row4 ox4 o4 sw4 st5 a0 a1 a2 f0 f1 f2 v1
      have hln : (ys.set k (kk, nn, pp)).length = ys.length := by simp
      by_cases hv : v = 0
      · subst hv
        go_wp2_with fail
        refine (argAny_any rb (m + 5) _ hr5 (by omega)).mono ?_
        rintro e w6 ⟨k6, n6, p6, rfl, hk6, hn6, hp6, hr6, st6⟩
        have row6 := row5.step st6 (by omega)
        have ox6 := ox5.step st6 hne
        have o6 := o5.step st6 (by omega)
        have sw6 := sw5.trans st6
        obtain ⟨a0, a1, a2⟩ := row6.args k (by omega)
        have f0 := row6.free (k * 3)
        have f1 := row6.free (k * 3 + 1)
        have f2 := row6.free (k * 3 + 2)
        have oxc := ox6
        obtain ⟨⟨x0, x1⟩, y0, y1⟩ := oxc
        have o6c := o6
        obtain ⟨⟨o20, o21⟩, z20, z21⟩ := o6c
        have HL : Hid (((ys.set k (kk, nn, pp)).set k (k6, n6, p6)).length = ys.length) := by show _ = _; simp
        have hF := edrawn_row (L := L + 1) (m := m + 20) (op := op) hlt (((hr6.set g (k * 3) (.int .i64 k6) (by omega)).set g (k * 3 + 1) (.int .i64 n6) (by omega)).set g (k * 3 + 2) (.int .i64 p6) (by omega)) (by omega) (((sw6.setNew g (k * 3) (.int .i64 k6) (by omega)).setNew g (k * 3 + 1) (.int .i64 n6) (by omega)).setNew g (k * 3 + 2) (.int .i64 p6) (by omega)) (row6.put (by omega) k6 n6 p6) hg hop (sm_set hys5 k (b := (k6, n6, p6)) ⟨hk6, hn6, hp6⟩) (by rw [HL.out]; omega)
        rw [HL.out] at hF
        have HF : Hid (EDrawn _ _ _ _ _ _) := hF
        clear hF
        have HO6 : Hid _ := ((((o6.set (c := g) (i := k * 3) (v := .int .i64 k6) (by omega)).set (c := g) (i := k * 3 + 1) (v := .int .i64 n6) (by omega)).set (c := g) (i := k * 3 + 2) (v := .int .i64 p6) (by omega)).put (.int .i64 op) (.slice (some ⟨g, 0, none⟩) ys.length cp)).1
        clear hln
        go_wp2
        exact bodyPost_ret (v := .agg #[.int .i64 op, .slice (some ⟨g, 0, none⟩) ys.length cp]) (resElem (b := w.heap.size + 1) Tryz.results16 rfl HO6.out) rfl HF.out
      · have hv' : (v == 0) = false := by simpa using hv
        clear hv
        have oxc := ox5
        obtain ⟨⟨x0, x1⟩, y0, y1⟩ := oxc
        have o5c := o5
        obtain ⟨⟨o20, o21⟩, z20, z21⟩ := o5c
        have hF := edrawn_row (L := L + 1) (m := m + 20) (op := op) hlt hr5 (by omega) sw5 row5 hg hop hys5 (by omega)
        rw [hln] at hF
        have HF : Hid (EDrawn _ _ _ _ _ _) := hF
        clear hF
        clear hln
        go_wp2
        exact bodyPost_ret (v := .agg #[.int .i64 op, .slice (some ⟨g, 0, none⟩) ys.length cp]) (resElem (b := w.heap.size + 1) Tryz.results16 rfl (o5.put _ _).1) rfl HF.out
end Go.Proofs.YtmgjngihngddfaaGreatDoor

/- The drawing of contacts and coils: where their operands lie. Helper text: no statement is claimed here. -/
namespace Go.Proofs.YtmgjngihngddfaaGreatDoor
open Go.ChangeShapes Go.WideShapes Go.ChangeAt Go.RowKit

/-- Operands of a contact or coil in memory made behind w, not in block E. -/
def Far (b E : Nat) (W : World) (p : Option Addr) (ys : List Ar) (cap : Nat) : Prop := (p = none ∧ ys = [] ∧ cap = 0) ∨ ∃ B, p = some ⟨B, 0, none⟩ ∧ b < B ∧ B ≠ E ∧ B < W.heap.size ∧ ArgsAt W B ys
theorem Far.of {b E : Nat} {W : World} {p : Option Addr} {ys : List Ar} {cap base : Nat} (h : Els base W p ys cap) (hb : b < base) (hE : E < base ∨ W.heap.size ≤ E) : Far b E W p ys cap := by
  rcases h with h | ⟨B, rfl, h1, h2, h3⟩
  · exact .inl h
  · exact .inr ⟨B, rfl, by omega, by omega, h2, h3⟩
theorem Far.step {rb b E : Nat} {W W' : World} {p : Option Addr} {ys : List Ar} {cap : Nat} (h : Far b E W p ys cap) (st : Step rb W W') (hr : rb ≤ b) : Far b E W' p ys cap := by
  rcases h with h | ⟨B, rfl, h1, h2, h3, h4⟩
  · exact .inl h
  · exact .inr ⟨B, rfl, h1, h2, Nat.lt_of_lt_of_le h3 st.size, h4.step st h3 (by omega)⟩
theorem Far.setE {b E i : Nat} {v : Value} {W : World} {p : Option Addr} {ys : List Ar} {cap : Nat} (h : Far b E W p ys cap) : Far b E (W.setCell ⟨E, i, none⟩ v) p ys cap := by
  rcases h with h | ⟨B, rfl, h1, h2, h3, h4⟩
  · exact .inl h
  · exact .inr ⟨B, rfl, h1, h2, by simpa using h3, h4.set (by omega)⟩
theorem Far.elsB {rb b E : Nat} {W : World} {p : Option Addr} {ys : List Ar} {cap : Nat} (h : Far b E W p ys cap) (hr : rb ≤ b) : ElsB rb W p ys cap := by
  rcases h with h | ⟨B, rfl, h1, h2, h3, h4⟩
  · exact .inl h
  · exact .inr ⟨B, rfl, by omega, h3, h4⟩
theorem Far.els {b E c i j base : Nat} {x y : Value} {W : World} {p : Option Addr} {ys : List Ar} {cap : Nat} (h : Far b E W p ys cap) (hc : c ≤ b) (hb : base ≤ b) : Els base ((W.setCell ⟨c, i, none⟩ x).setCell ⟨c, j, none⟩ y) p ys cap := by
  rcases h with h | ⟨B, rfl, h1, h2, h3, h4⟩
  · exact .inl h
  · exact .inr ⟨B, rfl, by omega, by simpa using h3, (h4.set (by omega)).set (by omega)⟩

/-- A drawn contact or coil in a variable of the call's own. -/
def EBox (w : World) (L rb m E : Nat) (W : World) : Prop := ∃ (op : Int) (ys : List Ar) (p : Option Addr) (cap : Nat), Sm op ∧ (∀ a ∈ ys, Sm a.1 ∧ Sm a.2.1 ∧ Sm a.2.2) ∧ ys.length ≤ L ∧ ys.length ≤ cap ∧
  Own2 W E (.int .i64 op) (.slice p ys.length cap) ∧ Far w.heap.size E W p ys cap ∧ Own2 W w.heap.size (.int .i64 0) (.slice none 0 0) ∧ Rd W rb m ∧ Step rb w W

/-- What the drawing of a contact or coil out of bytes ends in. -/
def EDrawnNew (L : Nat) (w : World) (e : Ending) (w' : World) : Prop := ∃ (op : Int) (ys : List Ar) (p : Option Addr) (cap : Nat), e = .returned (elemV op p ys.length cap) ∧
  Sm op ∧ (∀ a ∈ ys, Sm a.1 ∧ Sm a.2.1 ∧ Sm a.2.2) ∧ ys.length ≤ L ∧ ys.length ≤ cap ∧ Els w.heap.size w' p ys cap ∧ Below w.heap.size w w'
theorem Els.is {base : Nat} {W : World} {p : Option Addr} {ys : List Ar} {cap : Nat} (h : Els base W p ys cap) : ArgsIs W p ys := by
  rcases h with ⟨-, h, -⟩ | ⟨B, rfl, -, h2, h3⟩
  · exact .inl h
  · exact .inr ⟨B, rfl, h2, h3⟩
theorem Els.mono {base base' : Nat} {W : World} {p : Option Addr} {ys : List Ar} {cap : Nat} (h : Els base W p ys cap) (hb : base' ≤ base) : Els base' W p ys cap := by
  rcases h with h | ⟨B, rfl, h1, h2⟩
  · exact .inl h
  · exact .inr ⟨B, rfl, by omega, h2⟩
end Go.Proofs.YtmgjngihngddfaaGreatDoor

/- The drawing of whole numbers: l2Op, l2Whole. Helper text: no statement is claimed here. -/
namespace Go.Proofs.YtmgjngihngddfaaGreatDoor
open Go.ChangeShapes Go.WideShapes Go.ChangeAt Go.RowKit

theorem nums_of (w : World) (cs : List Int) (t : TypeId) (h : ∀ z ∈ cs, -2000000000 ≤ z ∧ z ≤ 2000000000) : Nums (w.alloc (.cells (cs.map fun z => Value.int .i64 z).toArray t)) w.heap.size cs.length := by
  intro i hi
  refine ⟨cs[i], ?_, h _ (List.getElem_mem hi)⟩
  rw [World.cell?_alloc_new]
  simp [hi]
theorem w16_in (n : Int) : -32768 ≤ w16 n ∧ w16 n ≤ 32767 := by unfold w16; omega
theorem wrap_in (n : Int) : -32768 ≤ IntKind.i16.wrap n ∧ IntKind.i16.wrap n ≤ 32767 := by rw [w16_wrap]; exact w16_in n

/-- What the drawing of a small number ends in. -/
def DrawnW (rb m : Nat) (w : World) (e : Ending) (w' : World) : Prop := ∃ v : Int, e = .returned (.int .i16 v) ∧ -32768 ≤ v ∧ v ≤ 32767 ∧ Rd w' rb m ∧ Step rb w w'

set_option maxHeartbeats 400000 in
theorem whole_any (rb m : Nat) (w : World) (hr : Rd w rb m) (hm : m ≤ 1000) :
    Calls Tryz.prog 47 #[.pointer (some ⟨rb, 0, none⟩)] w (DrawnW rb (m + 2) w) := by
  go_enter Tryz.func47, Tryz.ntmps47
  go_wp2_with fail
  refine (pick_any rb m 4 _ (by omega) hr (by omega)).mono ?_
  rintro e w1 ⟨q, rfl, q0, q1, -, hr1, st1⟩
  have hlt := hr1.lt
  by_cases h0 : q = 0
  · subst h0
    go_wp2_with fail
    refine (num_any rb (m + 1) w1.heap.size 10 _ (by omega) (by omega) (hr1.alloc _) (by omega) ?_ (by omega)).mono ?_
    · have := nums_of w1 [32767, -32768, 0, -1, 1, 32766, -32767, 181, 182, -182] 3 (by simp)
      simpa using this
    rintro e w2 ⟨v, rfl, v0, v1, hr2, st2⟩
    go_wp2
    go_ret
    exact ⟨_, rfl, (wrap_in _).1, (wrap_in _).2, hr2, (st1.trans (Step.alloc rb _ _)).trans st2⟩
  · have h0' : (q == 0) = false := by simpa using h0
    clear h0 q1
    go_wp2_with fail
    refine (pick_any rb (m + 1) 65536 _ (by omega) hr1 (by omega)).mono ?_
    rintro e w2 ⟨v, rfl, v0, v1, -, hr2, st2⟩
    have v1 : v < 65536 := v1 (by omega)
    go_wp2
    go_ret
    exact ⟨_, rfl, by omega, by omega, hr2, st1.trans st2⟩
end Go.Proofs.YtmgjngihngddfaaGreatDoor

/- The drawing of real numbers: word, l2Nan, l2Inf, l2Real. Helper text: no statement is claimed here. -/
namespace Go.Proofs.YtmgjngihngddfaaGreatDoor
open Go.ChangeShapes Go.WideShapes Go.ChangeAt Go.RowKit Fl

theorem run_somR {op : BinOp} {x y r : Nat} (h : floatBits op .f64 x y = some r) (t : TypeId) (w : World) : (binOp op t (.float .f64 x) (.float .f64 y)).run Tryz.prog w = .ok (.float .f64 r) w := run_float_arith w op t .f64 x y r h
theorem bits_ltR {o : BinOp} {x y r : Nat} (h : floatBits o .f64 x y = some r) : r < 2 ^ 64 := by
  have := floatBits_wf h
  simpa [Lit.wf] using this
/-- Whatever is reckoned of two real numbers: something comes, and nothing else has turned. -/
theorem run_real (op : BinOp) (ho : arith op) (x y : Nat) (w : World) : ∃ (r : Nat) (w' : World), (binOp op 34 (.float .f64 x) (.float .f64 y)).run Tryz.prog w = .ok (.float .f64 r) w' ∧ r < 2 ^ 64 ∧ w'.heap = w.heap ∧ Below w.heap.size w w' := by
  cases h : floatBits op .f64 x y with
  | some r => exact ⟨r, w, run_somR h _ w, bits_ltR h, rfl, Below.refl _ _⟩
  | none =>
    obtain ⟨r, hr, hn, hl⟩ := run_nan op ho 34 x y w h
    exact ⟨r, drewW w, hr, hl, rfl, drewW_below (Below.refl _ _)⟩
def DrawnR (rb m : Nat) (w : World) (e : Ending) (w' : World) : Prop := ∃ x : Nat, e = .returned (.float .f64 x) ∧ x < 2 ^ 64 ∧ Rd w' rb m ∧ Step rb w w'
def IsNanR (w : World) (e : Ending) (w' : World) : Prop := ∃ r, e = .returned (.float .f64 r) ∧ nan r ∧ r < 2 ^ 64 ∧ Below w.heap.size w w'
set_option maxHeartbeats 400000 in
theorem nanR_any (w : World) : Calls Tryz.prog 59 #[] w (IsNanR w) := by
  obtain ⟨r, hr, hn, hl⟩ := run_nan .quo (by simp [arith]) 34 0 0 w (by rfl)
  go_enter Tryz.func59, Tryz.ntmps59
  go_wp2
  go_ret
  exact ⟨r, rfl, hn, hl, drewW_below (Below.refl _ _)⟩
set_option maxHeartbeats 400000 in
theorem infR_any (w : World) : Calls Tryz.prog 60 #[] w fun e w' => e = .returned (.float .f64 (wi false)) ∧ w' = w := by
  have h := run_somR (show floatBits .quo .f64 4607182418800017408 0 = some (wi false) from one_by_zero false)
  go_enter Tryz.func60, Tryz.ntmps60
  go_wp2
  go_ret
  exact ⟨rfl, rfl⟩
theorem u64_in (n : Int) : 0 ≤ IntKind.u64.wrap n ∧ IntKind.u64.wrap n < 18446744073709551616 := by
  have e : IntKind.u64.wrap n = n % 18446744073709551616 := by simp [IntKind.wrap, IntKind.bits, IntKind.signed]
  rw [e]; omega
set_option maxHeartbeats 400000 in
theorem word_any (rb m : Nat) (w : World) (hr : Rd w rb m) (hm : m ≤ 1000) :
    Calls Tryz.prog 46 #[.pointer (some ⟨rb, 0, none⟩)] w fun e w' => ∃ v : Int, e = .returned (.int .u64 v) ∧ 0 ≤ v ∧ v < 18446744073709551616 ∧ Rd w' rb (m + 8) ∧ Step rb w w' := by
  go_enter Tryz.func46, Tryz.ntmps46
  go_wp2
  go_loopw [3, 4] (fun x c w' => ∃ (v : Int) (j : Nat), j ≤ 8 ∧ x = .int .u64 v ∧ c = .int .i64 (j : Int) ∧ 0 ≤ v ∧ v < 18446744073709551616 ∧ Rd w' rb (m + j) ∧ Step rb w w') (fun _ c _ => 8 - (intOf c).toNat)
  case atStart => exact ⟨0, 0, by omega, rfl, rfl, by omega, by omega, hr, Step.refl _ _⟩
  case round =>
    obtain ⟨v, j, hj, rfl, rfl, v0, v1, hr1, st1⟩ := hrel
    by_cases hlt : j < 8
    · have hlt' : (j : Int) < 8 := by omega
      go_wp2_with fail
      refine (pick_any rb (m + j) 256 _ (by omega) hr1 (by omega)).mono ?_
      rintro e w2 ⟨u, rfl, u0, u1, -, hr2, st2⟩
      have u1 : u < 256 := u1 (by omega)
      go_wp2
      exact ⟨⟨_, j + 1, by omega, rfl, by go_num, (u64_in _).1, (u64_in _).2, hr2, st1.trans st2⟩, by simp [intOf]; omega⟩
    · have hlt' : ¬ (j : Int) < 8 := by omega
      go_wp2
      go_ret
      exact ⟨v, rfl, v0, v1, hr1.mono (by omega), st1⟩
end Go.Proofs.YtmgjngihngddfaaGreatDoor
