/- append of one thing again and again. Helper text: no statement is claimed here. -/
import Derived.Test.YtjkpingdokkkcaaGreatDoorEl
namespace Go.Proofs.YtjkpingdokkkcaaGreatDoor.Tr
open Go.ChangeShapes Go.WideShapes Go.ChangeAt Go.RowKit

section
variable {α : Type} {T ST : TypeId} {O : Nat → Prop} {sz bt base : Nat} {z : Value} {V : (Nat → Prop) → World → Value → α → Prop}
/-- One more element; what was not the row's own stays, and stays so. -/
theorem wl_again (hT : TyI T ST sz bt z) (hV : KeptV V) {ops : Array Oper} {rest : List Oper} {o : Oper} {a : Act} {Q : Exit → Act → World → Prop} (w : World) (hgd : o.guard = none) (s x : Operand) (ho : o.op = .call { callee := .builtin .append, args := #[s, x], argTypes := #[ST, ST] })
    (v : Value) (ts : List α) (hs : a.eval s = v) (hrow : ∃ xs, GRow O T sz V base w v xs ts) (cs : List Value) (hcs : cs.length = sz) (h1 : ∀ u ∈ cs, u.oneCell' = true) (B : Nat) (hx : a.eval x = .slice (some ⟨B, 0, none⟩) 1 1) (hB : w.heap[B]? = some (.cells cs.toArray T (0, 0))) (t : α) (ht : V (Inn O base w v) w (.agg cs.toArray) t) (hb : ts.length ≤ 100000) (hbase : base ≤ w.heap.size) (hO : ∀ b, O b → b < base)
    (h : ∀ g cap w', Hid (∃ xs, GRow O T sz V base w' (.slice (some ⟨g, 0, none⟩) (ts.length + 1) cap) xs (ts ++ [t])) → Hid (w.grownBy w' v.ownBlock) → Hid (Keep (Inn O base w v) w w') → Hid (∀ b, Inn O base w v b → Inn O base w' (.slice (some ⟨g, 0, none⟩) (ts.length + 1) cap) b) → wpList Tryz.prog ops Q rest (a.put o.dst (.slice (some ⟨g, 0, none⟩) (ts.length + 1) cap)) w') : wpList Tryz.prog ops Q (o :: rest) a w := by
  refine wpList_plain hgd fun _ hK => ?_
  obtain ⟨i0, hi, hz0, hz1, hz2⟩ := info_parts hT.info
  obtain ⟨xs, hrow⟩ := hrow
  refine wp_append_lies w s x ST ho base T i0 z sz bt hT.und hi hz0 hz1 hz2 hT.zs hT.pos v ts.length xs hs hrow.1 ⟨B, 0, none⟩ 1 1 cs hx (by omega) (World.news_of_block (cs := cs.toArray) hB) h1 (by omega) (by unfold maxLen; omega) (by have := Nat.mul_le_mul (show ts.length + 1 ≤ 100001 by omega) hT.bl; omega) hbase _ rfl ?_
  intro g cap w' k1 k2 k3 k4
  refine hK _ _ (h g cap w' ⟨_, hrow.app hV hO hcs k1 k2 k3 hbase ht⟩ k2 (fun b hb => ?_) (fun b hb => hb.elim .inl fun hb => .inr ⟨hb.1, Nat.lt_of_lt_of_le hb.2.1 k2.size, fun e => ?_⟩))
  · rcases hb with hb | hb
    · exact k2.block b (Nat.lt_of_lt_of_le (hO b hb) hbase) (fun e => by have := (hrow.1.lt b e.symm).1; have := hO b hb; omega)
    · exact k2.block b hb.2.1 hb.2.2
  · have e' : b = g := by simpa [Value.ownBlock] using e
    subst e'
    rcases k3 with h' | h'
    · exact hb.2.2 h'.symm
    · have := hb.2.1; omega
end
theorem Inn.al {O : Nat → Prop} {base : Nat} {W : World} {v : Value} {b : Nat} (o : Obj) (h : Inn O base W v b) : Inn O base (W.alloc o) v b := h.elim .inl fun h => .inr ⟨h.1, Nat.lt_of_lt_of_le h.2.1 (one W o).size, h.2.2⟩
theorem Inn.st {O : Nat → Prop} {base rb : Nat} {W W' : World} {v : Value} {b : Nat} (st : Step rb W W') (h : Inn O base W v b) : Inn O base W' v b := h.elim .inl fun h => .inr ⟨h.1, Nat.lt_of_lt_of_le h.2.1 st.size, h.2.2⟩
theorem Inn.lt {O : Nat → Prop} {base : Nat} {W : World} {v : Value} {b : Nat} (hO : ∀ b, O b → b < W.heap.size) (h : Inn O base W v b) : b < W.heap.size := h.elim (hO b) fun h => h.2.1
section
variable {α : Type} {T : TypeId} {O : Nat → Prop} {sz base : Nat} {V : (Nat → Prop) → World → Value → α → Prop}
/-- A row, and beside it a variable that is appended again and again. -/
structure OL (O : Nat → Prop) (T : TypeId) (sz : Nat) (V : (Nat → Prop) → World → Value → α → Prop) (base : Nat) (w : World) (N1 : Nat) (cs : List Value) (t : α) (s : Value) (ts : List α) : Prop where
  row : ∃ xs, GRow O T sz V base w s xs ts
  box : w.heap[N1]? = some (.cells cs.toArray T (0, 0))
  inn : Inn O base w s N1
  val : V (Inn O base w s) w (.agg cs.toArray) t
  size : base ≤ w.heap.size
theorem OL.step (hV : KeptV V) {rb N1 : Nat} {w w5 : World} {cs : List Value} {t : α} {s : Value} {ts : List α} (h : OL O T sz V base w N1 cs t s ts) (st : Step rb w w5) (hb : rb < base) (hO : ∀ b, O b → b < base ∧ b ≠ rb) : OL O T sz V base w5 N1 cs t s ts := by
  have hlt : ∀ b, Inn O base w s b → b < w.heap.size ∧ b ≠ rb := fun b hb' => by
    rcases hb' with hb' | hb'
    · exact ⟨by have := (hO b hb').1; have := h.size; omega, (hO b hb').2⟩
    · exact ⟨hb'.2.1, by have := hb'.1; omega⟩
  refine ⟨?_, (st.block N1 (hlt N1 h.inn).1 (hlt N1 h.inn).2).trans h.box, h.inn.st st, hV _ _ _ _ _ _ (Keep.ofStep st hlt) (fun _ hb' => Inn.st st hb') h.val, Nat.le_trans h.size st.size⟩
  obtain ⟨xs, hx⟩ := h.row
  exact ⟨xs, hx.to hV (out_step st hb (fun b hb' => ⟨by have := (hO b hb').1; have := h.size; omega, (hO b hb').2⟩))⟩
theorem OL.al (hV : KeptV V) {N1 : Nat} {w : World} {cs : List Value} {t : α} {s : Value} {ts : List α} (h : OL O T sz V base w N1 cs t s ts) (hO : ∀ b, O b → b < base) (o : Obj) : OL O T sz V base (w.alloc o) N1 cs t s ts := by
  have hlt : ∀ b, Inn O base w s b → b < w.heap.size := fun b hb' => hb'.elim (fun hb' => Nat.lt_of_lt_of_le (hO b hb') h.size) fun hb' => hb'.2.1
  exact ⟨row_al hV h.row hO h.size o, ((one w o).block N1 (hlt N1 h.inn)).trans h.box, h.inn.al o, hV _ _ _ _ _ _ (Keep.of (one w o) hlt) (fun _ hb' => Inn.al o hb') h.val, Nat.le_trans h.size (one w o).size⟩
theorem OL.next (hV : KeptV V) {N1 g cap : Nat} {w w7 : World} {cs : List Value} {t : α} {s : Value} {ts : List α} (h : OL O T sz V base w N1 cs t s ts) (hr : ∃ xs, GRow O T sz V base w7 (.slice (some ⟨g, 0, none⟩) (ts.length + 1) cap) xs (ts ++ [t])) (hg : w.grownBy w7 s.ownBlock) (hk : Keep (Inn O base w s) w w7) (hi : ∀ b, Inn O base w s b → Inn O base w7 (.slice (some ⟨g, 0, none⟩) (ts.length + 1) cap) b) : OL O T sz V base w7 N1 cs t (.slice (some ⟨g, 0, none⟩) (ts.length + 1) cap) (ts ++ [t]) :=
  ⟨hr, (hk N1 h.inn).trans h.box, hi N1 h.inn, hV _ _ _ _ _ _ hk hi h.val, Nat.le_trans h.size hg.size⟩
end
end Go.Proofs.YtjkpingdokkkcaaGreatDoor.Tr
