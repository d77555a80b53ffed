/- The drawing of forks: l6Forks. Helper text: no statement is claimed here. -/
import Derived.Test.YtjkpingdokkkcaaGreatDoorCv
namespace Go.Proofs.YtjkpingdokkkcaaGreatDoor.Tr
open Go.ChangeShapes Go.WideShapes Go.ChangeAt Go.RowKit

theorem Keep.trans0 {S : Nat → Prop} {a b c : World} (h : Keep S a b) (k : Keep S b c) : Keep S a c := fun i hi => (k i hi).trans (h i hi)
theorem ADr.mono {k n z z' rb m m' : Nat} {w : World} {e : Ending} {w' : World} (h : ADr k n z rb m w e w') (hz : z ≤ z') (hm : m ≤ m') : ADr k n z' rb m' w e w' := by
  obtain ⟨v, t, h1, h2, h3, h4, h5, h6⟩ := h
  exact ⟨v, t, h1, h2, h3, Nat.le_trans h4 hz, h5.mono hm, h6⟩
theorem l6Arm_all : ∀ d, ArmDr d
  | 0 => fun rb m root w hr hm => (l6Arm_of 0 (fun d h => by omega) 0 0 (fun d h => by omega) (fun d h => by omega) rb m root w hr hm (by omega)).mono fun _ _ h => h.mono (Nat.le_refl _) (Nat.le_refl _)
  | d + 1 => fun rb m root w hr hm => by
    have hM : Mar (d + 1) = 600 + 3 * Mar d := rfl
    have hd := Mar_d (d + 1)
    have := l6Arm_of (d + 1) (fun e h => by have he : e = d := by omega
                                            rw [he]; exact l6Arm_all d) (3 * Za d) (3 * Mar d) (fun e h => by have he : e = d := by omega
                                                                                                              rw [he]) (fun e h => by have he : e = d := by omega
                                                                                                                                      rw [he]) rb m root w hr (by omega) (by omega)
    exact this.mono fun _ _ h => h.mono (show 62 + 3 * Za d ≤ 65 + 3 * Za d by omega) (show m + 600 + 3 * Mar d ≤ m + (600 + 3 * Mar d) by omega)

abbrev inl (w : World) (N0 : Nat) (b : Nat) : Prop := w.heap.size < b ∧ b < N0
/-- What stands behind j rounds of l6Forks' loop. -/
def FLoop (rb M z : Nat) (w : World) (N0 j : Nat) (w' : World) : Prop := ∃ (kd op : Int) (pa : Option Addr) (la ca : Nat) (pk : Option Addr) (lk ck : Nat) (pc : Option Addr) (lc cc : Nat) (pq : Option Addr) (lq cq : Nat) (t : AT 0 (j + 1)), Own6 w' N0 (.int .i64 kd) (.int .i64 op) (.slice pa la ca) (.slice pk lk ck) (.slice pc lc cc) (.slice pq lq cq) ∧ Zero6 w' w.heap.size ∧
  AmV (Frs (inl w N0) (N0 + 1) w') w' 0 (j + 1) (.agg #[.int .i64 kd, .int .i64 op, .slice pa la ca, .slice pk lk ck, .slice pc lc cc, .slice pq lq cq]) t ∧ okAm 3 0 (j + 1) t ∧ zA 0 (j + 1) t ≤ z ∧ Rd w' rb M ∧ Step rb w w'

/-- A contact alone as a net. -/
theorem contactV {S : Nat → Prop} {w : World} {n : Nat} {op : Int} {ys : List Ar} {p : Option Addr} {cap : Nat} (h : SlOf S (ArE w) 3 p cap ys) : NtV S w (n + 1) (.agg #[.int .i64 1, .int .i64 op, .slice p ys.length cap, .slice none 0 0]) ((1, (op, ys), []) : NT (n + 1)) := ⟨p, cap, none, 0, rfl, h, sl_nil⟩
theorem contact_ok {L n : Nat} {op : Int} {ys : List Ar} (h : okEl L (op, ys)) : okN L (n + 1) ((1, (op, ys), []) : NT (n + 1)) := ⟨h, fun u hu => (by cases hu)⟩
theorem contact_z {n : Nat} {op : Int} {ys : List Ar} (h : okEl 3 (op, ys)) : zN (n + 1) ((1, (op, ys), []) : NT (n + 1)) ≤ 3 := by
  have h3 : ys.length ≤ 3 := h.1
  show ys.length + (0 + 0) ≤ 3
  omega
theorem none_ok {L n : Nat} : okN L (n + 1) ((0, (0, []), []) : NT (n + 1)) := ⟨⟨Nat.zero_le _, show Sm 0 from ⟨by omega, by omega⟩, fun a ha => (by cases ha)⟩, fun u hu => (by cases hu)⟩
/-- A coil alone in a row. -/
theorem one_coil {S : Nat → Prop} {W : World} {B : Nat} {op : Int} {ys : List Ar} {p : Option Addr} {cap : Nat} (hB : W.heap[B]? = some (.cells #[.int .i64 op, .slice p ys.length cap] 46 (0, 0))) (h : SlOf S (ArE W) 3 p cap ys) (hS : S B) : SlOf S (ElE S W) 2 (some ⟨B, 0, none⟩) 1 [(op, ys)] := by
  refine ⟨⟨Nat.le_refl _, by simp⟩, .inr ⟨B, 0, rfl, hS, fun i u hu => ?_⟩⟩
  match i, hu with
  | 0, hu =>
    obtain rfl : u = (op, ys) := by simpa using hu.symm
    exact ⟨p, cap, cell_of_row _ _ 0 _ _ _ hB, cell_of_row _ _ 1 _ _ _ hB, h⟩
  | i + 1, hu => simp at hu
/-- A contact's net and one coil. -/
theorem leafV {S : Nat → Prop} {w : World} {k n B : Nat} {op op' : Int} {ys ys' : List Ar} {p p' : Option Addr} {cap cap' : Nat} (h : SlOf S (ArE w) 3 p cap ys) (hB : w.heap[B]? = some (.cells #[.int .i64 op', .slice p' ys'.length cap'] 46 (0, 0))) (h' : SlOf S (ArE w) 3 p' cap' ys') (hS : S B) :
    AmV S w k (n + 1) (.agg #[.int .i64 1, .int .i64 op, .slice p ys.length cap, .slice none 0 0, .slice (some ⟨B, 0, none⟩) 1 1, .slice none 0 0]) (((1, (op, ys), []), [(op', ys')], []) : NT (k + 1) × List El × List (AT k n)) :=
  ⟨1, op, p, ys.length, cap, none, 0, 0, some ⟨B, 0, none⟩, 1, none, 0, rfl, contactV h, one_coil hB h' hS, sl_nil⟩
theorem leaf_ok {k n : Nat} {op op' : Int} {ys ys' : List Ar} (h : okEl 3 (op, ys)) (h' : okEl 3 (op', ys')) : okAm 3 k (n + 1) (((1, (op, ys), []), [(op', ys')], []) : NT (k + 1) × List El × List (AT k n)) :=
  ⟨contact_ok h, fun e he => by rw [List.mem_singleton.1 he]; exact h', fun u hu => (by cases hu)⟩
theorem leaf_z {k n : Nat} {op op' : Int} {ys ys' : List Ar} (h : okEl 3 (op, ys)) (h' : okEl 3 (op', ys')) : zA k (n + 1) (((1, (op, ys), []), [(op', ys')], []) : NT (k + 1) × List El × List (AT k n)) ≤ 7 := by
  have h1 := contact_z (n := k) h
  have h3 : ys'.length ≤ 3 := h'.1
  show zN (k + 1) ((1, (op, ys), []) : NT (k + 1)) + (1 + (ys'.length + 0)) + (0 + 0) ≤ 7
  omega
/-- Two arms side by side. -/
theorem two_arms {S : Nat → Prop} {k n B : Nat} {W : World} {k1 o1 k2 o2 : Int} {p1 p2 q1 q2 r1 r2 s1 s2 : Option Addr} {l1 c1 m1 d1 e1 f1 g1 h1 l2 c2 m2 d2 e2 f2 g2 h2 : Nat} {t1 t2 : AT k n} (hB : W.heap[B]? = some (.cells #[.int .i64 k1, .int .i64 o1, .slice p1 l1 c1, .slice q1 m1 d1, .slice r1 e1 f1, .slice s1 g1 h1, .int .i64 k2, .int .i64 o2, .slice p2 l2 c2, .slice q2 m2 d2, .slice r2 e2 f2, .slice s2 g2 h2] 52 (0, 0)))
    (ha : AmV S W k n (.agg #[.int .i64 k1, .int .i64 o1, .slice p1 l1 c1, .slice q1 m1 d1, .slice r1 e1 f1, .slice s1 g1 h1]) t1) (hb : AmV S W k n (.agg #[.int .i64 k2, .int .i64 o2, .slice p2 l2 c2, .slice q2 m2 d2, .slice r2 e2 f2, .slice s2 g2 h2]) t2) (hS : S B) :
    SlOf S (AmE S W k n) 6 (some ⟨B, 0, none⟩) 2 [t1, t2] := by
  refine ⟨⟨Nat.le_refl _, by simp⟩, .inr ⟨B, 0, rfl, hS, fun i u hu => ?_⟩⟩
  match i, hu with
  | 0, hu =>
    obtain rfl : u = t1 := by simpa using hu.symm
    exact AmE.make ha (cell_of_row _ _ 0 _ _ _ hB) (cell_of_row _ _ 1 _ _ _ hB) (cell_of_row _ _ 2 _ _ _ hB) (cell_of_row _ _ 3 _ _ _ hB) (cell_of_row _ _ 4 _ _ _ hB) (cell_of_row _ _ 5 _ _ _ hB)
  | 1, hu =>
    obtain rfl : u = t2 := by simpa using hu.symm
    exact AmE.make hb (cell_of_row _ _ 6 _ _ _ hB) (cell_of_row _ _ 7 _ _ _ hB) (cell_of_row _ _ 8 _ _ _ hB) (cell_of_row _ _ 9 _ _ _ hB) (cell_of_row _ _ 10 _ _ _ hB) (cell_of_row _ _ 11 _ _ _ hB)
  | i + 2, hu => simp at hu
theorem Hid.mk0 {p : Prop} (h : p) : Hid p := h
theorem FLoop.rd {rb M z N0 j : Nat} {w W : World} (h : FLoop rb M z w N0 j W) : Rd W rb M := by
  obtain ⟨_, _, _, _, _, _, _, _, _, _, _, _, _, _, _, -, -, -, -, -, h, -⟩ := h
  exact h
/-- The net of the arm, drawn anew. -/
theorem floop_net {rb M M' z z' N0 j cap' : Nat} {w wr w6 : World} {kd op : Int} {pa : Option Addr} {la ca : Nat} {pk : Option Addr} {lk ck : Nat} {pc : Option Addr} {lc cc : Nat} {pq : Option Addr} {lq cq : Nat} {op' : Int} {p' : Option Addr} {ys' : List Ar} {t : AT 0 (j + 1)} (hbox : Own6 wr N0 (.int .i64 kd) (.int .i64 op) (.slice pa la ca) (.slice pk lk ck) (.slice pc lc cc) (.slice pq lq cq)) (hres : Zero6 wr w.heap.size) (hV : AmV (Frs (inl w N0) (N0 + 1) wr) wr 0 (j + 1) (.agg #[.int .i64 kd, .int .i64 op, .slice pa la ca, .slice pk lk ck, .slice pc lc cc, .slice pq lq cq]) t) (hokT : okAm 3 0 (j + 1) t) (hzT : zA 0 (j + 1) t ≤ z') (hst : Step rb w wr)
    (st6 : Step rb wr w6) (hA : SlOf (Frs Non wr.heap.size w6) (ArE w6) 3 p' cap' ys') (hok6 : okEl 3 (op', ys')) (hr6 : Rd w6 rb M') (hM : M' ≤ M) (hrb : rb < w.heap.size) (hN : w.heap.size < N0) (hz : z' + 3 ≤ z) :
    FLoop rb M z w N0 j ((((w6.setCell ⟨N0, 0, none⟩ (.int .i64 1)).setCell ⟨N0, 1, none⟩ (.int .i64 op')).setCell ⟨N0, 2, none⟩ (.slice p' ys'.length cap')).setCell ⟨N0, 3, none⟩ (.slice none 0 0)) := by
  have hbl := hbox.lt
  have hs6 := st6.size
  have hb6 := hbox.step st6 (by omega)
  have hres6 := hres.step st6 (by omega)
  have oA := out_step (O := inl w N0) (base := N0 + 1) st6 (by omega) (fun b hb => ⟨by omega, by omega⟩)
  have oB := out4 (O := inl w N0) (base := N0 + 1) (w := w6) (y0 := .int .i64 1) (y1 := .int .i64 op') (y2 := .slice p' ys'.length cap') (y3 := .slice none 0 0) (c := N0) (by omega) (fun h => by omega)
  have oC := out4 (O := Non) (base := wr.heap.size) (w := w6) (y0 := .int .i64 1) (y1 := .int .i64 op') (y2 := .slice p' ys'.length cap') (y3 := .slice none 0 0) (c := N0) hbl (fun h => h.elim)
  have hP := hb6.putN (.int .i64 1) (.int .i64 op') (.slice p' ys'.length cap') (.slice none 0 0)
  have hQ := (((hres6.set (c := N0) (i := 0) (v := .int .i64 1) (by omega)).set (c := N0) (i := 1) (v := .int .i64 op') (by omega)).set (c := N0) (i := 2) (v := .slice p' ys'.length cap') (by omega)).set (c := N0) (i := 3) (v := .slice none 0 0) (by omega)
  have hrV := rd4 (c := N0) (y0 := .int .i64 1) (y1 := .int .i64 op') (y2 := .slice p' ys'.length cap') (y3 := .slice none 0 0) hr6 (by omega)
  have hsV := step4 (c := N0) (y0 := .int .i64 1) (y1 := .int .i64 op') (y2 := .slice p' ys'.length cap') (y3 := .slice none 0 0) (hst.trans st6) (by omega)
  generalize ((((w6.setCell ⟨N0, 0, none⟩ (.int .i64 1)).setCell ⟨N0, 1, none⟩ (.int .i64 op')).setCell ⟨N0, 2, none⟩ (.slice p' ys'.length cap')).setCell ⟨N0, 3, none⟩ (.slice none 0 0)) = W at *
  have ht := hV.to (oA.trans oB).keep (Frs.mono (Nat.le_refl _) (oA.trans oB).size)
  obtain ⟨kd1, op1, pa1, la1, ca1, pk1, lk1, ck1, pc1, cc1, pq1, cq1, he, h3, h4, h5⟩ := ht
  simp only [Value.agg.injEq, Array.mk.injEq, List.cons.injEq, Value.int.injEq, Value.slice.injEq, true_and, and_true] at he
  obtain ⟨rfl, rfl, ⟨rfl, rfl, rfl⟩, ⟨rfl, rfl, rfl⟩, ⟨rfl, rfl, rfl⟩, rfl, rfl, rfl⟩ := he
  have hzn : zN 1 ((1, (op', ys'), []) : NT 1) ≤ 3 := contact_z (n := 0) hok6
  refine ⟨1, op', p', ys'.length, cap', none, 0, 0, pc, _, cc, pq, _, cq, (((1, (op', ys'), []), t.coils, t.kids) : NT 1 × List El × List (AT 0 j)), hP, hQ, ⟨1, op', p', ys'.length, cap', none, 0, 0, pc, cc, pq, cq, rfl, contactV (args_to oC.keep (frs_non (by omega) oC.size) hA), h4, h5⟩, ⟨contact_ok hok6, hokT.2.1, hokT.2.2⟩, ?_, hrV.mono hM, hsV⟩
  have : zA 0 (j + 1) t = zN 1 t.net + zEls t.coils + (t.kids.length + tot (zA 0 j) t.kids) := rfl
  show zN 1 ((1, (op', ys'), []) : NT 1) + zEls t.coils + (t.kids.length + tot (zA 0 j) t.kids) ≤ z
  omega
theorem FLoop.step {rb M M' z z' N0 j : Nat} {w W w8 : World} (h : FLoop rb M' z' w N0 j W) (st : Step rb W w8) (hr : Rd w8 rb M) (hrb : rb < w.heap.size) (hN : w.heap.size < N0) (hz : z' ≤ z) : FLoop rb M z w N0 j w8 := by
  obtain ⟨kd, op, pa, la, ca, pk, lk, ck, pc, lc, cc, pq, lq, cq, t, hbox, hres, hV, hokT, hzT, -, hst⟩ := h
  have hbl := hbox.lt
  have o := out_step (O := inl w N0) (base := N0 + 1) st (by omega) (fun b hb => ⟨by omega, by omega⟩)
  exact ⟨kd, op, pa, la, ca, pk, lk, ck, pc, lc, cc, pq, lq, cq, t, hbox.step st (by omega), hres.step st (by omega), hV.to o.keep (Frs.mono (Nat.le_refl _) o.size), hokT, Nat.le_trans hzT hz, hr, hst.trans st⟩
/-- The fork around the arm. -/
theorem floop_two {rb M M' z z' N0 j cap' cap7 : Nat} {w wr w6 w7 : World} {kd op : Int} {pa : Option Addr} {la ca : Nat} {pk : Option Addr} {lk ck : Nat} {pc : Option Addr} {lc cc : Nat} {pq : Option Addr} {lq cq : Nat} {op' op7 : Int} {p' p7 : Option Addr} {ys' ys7 : List Ar} {t : AT 0 (j + 1)} (hbox : Own6 wr N0 (.int .i64 kd) (.int .i64 op) (.slice pa la ca) (.slice pk lk ck) (.slice pc lc cc) (.slice pq lq cq)) (hres : Zero6 wr w.heap.size) (hV : AmV (Frs (inl w N0) (N0 + 1) wr) wr 0 (j + 1) (.agg #[.int .i64 kd, .int .i64 op, .slice pa la ca, .slice pk lk ck, .slice pc lc cc, .slice pq lq cq]) t) (hokT : okAm 3 0 (j + 1) t) (hzT : zA 0 (j + 1) t ≤ z') (hst : Step rb w wr)
    (st6 : Step rb wr w6) (hA : SlOf (Frs Non wr.heap.size w6) (ArE w6) 3 p' cap' ys') (hok6 : okEl 3 (op', ys')) (st7 : Step rb w6 w7) (hA7 : SlOf (Frs Non w6.heap.size w7) (ArE w7) 3 p7 cap7 ys7) (hok7 : okEl 3 (op7, ys7)) (hr7 : Rd w7 rb M') (hM : M' ≤ M) (hrb : rb < w.heap.size) (hN : w.heap.size < N0) (hz : z' + 9 ≤ z) :
    FLoop rb M z w N0 (j + 1) ((((((((w7.setCell ⟨N0, 0, none⟩ (.int .i64 0)).setCell ⟨N0, 1, none⟩ (.int .i64 0)).setCell ⟨N0, 2, none⟩ (.slice none 0 0)).setCell ⟨N0, 3, none⟩ (.slice none 0 0)).setCell ⟨N0, 4, none⟩ (.slice none 0 0)).setCell ⟨N0, 5, none⟩ (.slice (some ⟨w7.heap.size + 1, 0, none⟩) 2 2)).alloc (.cells #[.int .i64 op7, .slice p7 ys7.length cap7] 46)).alloc (.cells #[.int .i64 kd, .int .i64 op, .slice pa la ca, .slice pk lk ck, .slice pc lc cc, .slice pq lq cq, .int .i64 1, .int .i64 op', .slice p' ys'.length cap', .slice none 0 0, .slice (some ⟨w7.heap.size, 0, none⟩) 1 1, .slice none 0 0] 52)) := by
  have hbl := hbox.lt
  have hs6 := st6.size
  have hs7 := st7.size
  have hb7 := (hbox.step st6 (by omega)).step st7 (by omega)
  have hres7 := (hres.step st6 (by omega)).step st7 (by omega)
  have oA := (out_step (O := inl w N0) (base := N0 + 1) st6 (by omega) (fun b hb => ⟨by omega, by omega⟩)).trans (out_step st7 (by omega) (fun b hb => ⟨by omega, by omega⟩))
  have oS := out_step (O := Non) (base := wr.heap.size) st7 (by omega) (fun _ h => h.elim)
  have oB := out6 (O := inl w N0) (base := N0 + 1) (w := w7) (y0 := .int .i64 0) (y1 := .int .i64 0) (y2 := .slice none 0 0) (y3 := .slice none 0 0) (y4 := .slice none 0 0) (y5 := .slice (some ⟨w7.heap.size + 1, 0, none⟩) 2 2) (c := N0) (by omega) (fun h => by omega)
  have oC := out6 (O := Non) (base := wr.heap.size) (w := w7) (y0 := .int .i64 0) (y1 := .int .i64 0) (y2 := .slice none 0 0) (y3 := .slice none 0 0) (y4 := .slice none 0 0) (y5 := .slice (some ⟨w7.heap.size + 1, 0, none⟩) 2 2) (c := N0) hbl (fun h => h.elim)
  have hP := hb7.put (.int .i64 0) (.int .i64 0) (.slice none 0 0) (.slice none 0 0) (.slice none 0 0) (.slice (some ⟨w7.heap.size + 1, 0, none⟩) 2 2)
  have hQ := (((((hres7.set (c := N0) (i := 0) (v := .int .i64 0) (by omega)).set (c := N0) (i := 1) (v := .int .i64 0) (by omega)).set (c := N0) (i := 2) (v := .slice none 0 0) (by omega)).set (c := N0) (i := 3) (v := .slice none 0 0) (by omega)).set (c := N0) (i := 4) (v := .slice none 0 0) (by omega)).set (c := N0) (i := 5) (v := .slice (some ⟨w7.heap.size + 1, 0, none⟩) 2 2) (by omega)
  have hrV := rd6 (c := N0) (y0 := .int .i64 0) (y1 := .int .i64 0) (y2 := .slice none 0 0) (y3 := .slice none 0 0) (y4 := .slice none 0 0) (y5 := .slice (some ⟨w7.heap.size + 1, 0, none⟩) 2 2) hr7 (by omega)
  have hsV := step6 (c := N0) (y0 := .int .i64 0) (y1 := .int .i64 0) (y2 := .slice none 0 0) (y3 := .slice none 0 0) (y4 := .slice none 0 0) (y5 := .slice (some ⟨w7.heap.size + 1, 0, none⟩) 2 2) ((hst.trans st6).trans st7) (by omega)
  have hs : ((((((w7.setCell ⟨N0, 0, none⟩ (.int .i64 0)).setCell ⟨N0, 1, none⟩ (.int .i64 0)).setCell ⟨N0, 2, none⟩ (.slice none 0 0)).setCell ⟨N0, 3, none⟩ (.slice none 0 0)).setCell ⟨N0, 4, none⟩ (.slice none 0 0)).setCell ⟨N0, 5, none⟩ (.slice (some ⟨w7.heap.size + 1, 0, none⟩) 2 2)).heap.size = w7.heap.size := by simp [World.setCell]
  generalize ((((((w7.setCell ⟨N0, 0, none⟩ (.int .i64 0)).setCell ⟨N0, 1, none⟩ (.int .i64 0)).setCell ⟨N0, 2, none⟩ (.slice none 0 0)).setCell ⟨N0, 3, none⟩ (.slice none 0 0)).setCell ⟨N0, 4, none⟩ (.slice none 0 0)).setCell ⟨N0, 5, none⟩ (.slice (some ⟨w7.heap.size + 1, 0, none⟩) 2 2)) = V at *
  have hB1 := last V (.cells #[.int .i64 op7, .slice p7 ys7.length cap7] 46)
  rw [hs] at hB1
  have hs1 : (V.alloc (.cells #[.int .i64 op7, .slice p7 ys7.length cap7] 46)).heap.size = w7.heap.size + 1 := by simp [hs]
  have hB2 := last (V.alloc (.cells #[.int .i64 op7, .slice p7 ys7.length cap7] 46)) (.cells #[.int .i64 kd, .int .i64 op, .slice pa la ca, .slice pk lk ck, .slice pc lc cc, .slice pq lq cq, .int .i64 1, .int .i64 op', .slice p' ys'.length cap', .slice none 0 0, .slice (some ⟨w7.heap.size, 0, none⟩) 1 1, .slice none 0 0] 52)
  rw [hs1] at hB2
  have hB1' := ((one (V.alloc (.cells #[.int .i64 op7, .slice p7 ys7.length cap7] 46)) (.cells #[.int .i64 kd, .int .i64 op, .slice pa la ca, .slice pk lk ck, .slice pc lc cc, .slice pq lq cq, .int .i64 1, .int .i64 op', .slice p' ys'.length cap', .slice none 0 0, .slice (some ⟨w7.heap.size, 0, none⟩) 1 1, .slice none 0 0] 52)).block w7.heap.size (by omega)).trans hB1
  have oB' := (oB.trans (Out.of (base := N0 + 1) (one V (.cells #[.int .i64 op7, .slice p7 ys7.length cap7] 46)) (fun b hb => by omega))).trans (Out.of (base := N0 + 1) (one (V.alloc (.cells #[.int .i64 op7, .slice p7 ys7.length cap7] 46)) (.cells #[.int .i64 kd, .int .i64 op, .slice pa la ca, .slice pk lk ck, .slice pc lc cc, .slice pq lq cq, .int .i64 1, .int .i64 op', .slice p' ys'.length cap', .slice none 0 0, .slice (some ⟨w7.heap.size, 0, none⟩) 1 1, .slice none 0 0] 52)) (fun b hb => by omega))
  have oC' := (oC.trans (Out.of (base := wr.heap.size) (one V (.cells #[.int .i64 op7, .slice p7 ys7.length cap7] 46)) non_lt)).trans (Out.of (base := wr.heap.size) (one (V.alloc (.cells #[.int .i64 op7, .slice p7 ys7.length cap7] 46)) (.cells #[.int .i64 kd, .int .i64 op, .slice pa la ca, .slice pk lk ck, .slice pc lc cc, .slice pq lq cq, .int .i64 1, .int .i64 op', .slice p' ys'.length cap', .slice none 0 0, .slice (some ⟨w7.heap.size, 0, none⟩) 1 1, .slice none 0 0] 52)) non_lt)
  have hP' := (hP.alloc (.cells #[.int .i64 op7, .slice p7 ys7.length cap7] 46)).alloc (.cells #[.int .i64 kd, .int .i64 op, .slice pa la ca, .slice pk lk ck, .slice pc lc cc, .slice pq lq cq, .int .i64 1, .int .i64 op', .slice p' ys'.length cap', .slice none 0 0, .slice (some ⟨w7.heap.size, 0, none⟩) 1 1, .slice none 0 0] 52)
  have hQ' := (hQ.alloc (.cells #[.int .i64 op7, .slice p7 ys7.length cap7] 46)).alloc (.cells #[.int .i64 kd, .int .i64 op, .slice pa la ca, .slice pk lk ck, .slice pc lc cc, .slice pq lq cq, .int .i64 1, .int .i64 op', .slice p' ys'.length cap', .slice none 0 0, .slice (some ⟨w7.heap.size, 0, none⟩) 1 1, .slice none 0 0] 52)
  have hrW := (hrV.alloc (.cells #[.int .i64 op7, .slice p7 ys7.length cap7] 46)).alloc (.cells #[.int .i64 kd, .int .i64 op, .slice pa la ca, .slice pk lk ck, .slice pc lc cc, .slice pq lq cq, .int .i64 1, .int .i64 op', .slice p' ys'.length cap', .slice none 0 0, .slice (some ⟨w7.heap.size, 0, none⟩) 1 1, .slice none 0 0] 52)
  have hsW := (hsV.trans (Step.alloc rb V (.cells #[.int .i64 op7, .slice p7 ys7.length cap7] 46))).trans (Step.alloc rb (V.alloc (.cells #[.int .i64 op7, .slice p7 ys7.length cap7] 46)) (.cells #[.int .i64 kd, .int .i64 op, .slice pa la ca, .slice pk lk ck, .slice pc lc cc, .slice pq lq cq, .int .i64 1, .int .i64 op', .slice p' ys'.length cap', .slice none 0 0, .slice (some ⟨w7.heap.size, 0, none⟩) 1 1, .slice none 0 0] 52))
  have hsz : ((V.alloc (.cells #[.int .i64 op7, .slice p7 ys7.length cap7] 46)).alloc (.cells #[.int .i64 kd, .int .i64 op, .slice pa la ca, .slice pk lk ck, .slice pc lc cc, .slice pq lq cq, .int .i64 1, .int .i64 op', .slice p' ys'.length cap', .slice none 0 0, .slice (some ⟨w7.heap.size, 0, none⟩) 1 1, .slice none 0 0] 52)).heap.size = w7.heap.size + 2 := by simp [hs]
  generalize (V.alloc (.cells #[.int .i64 op7, .slice p7 ys7.length cap7] 46)).alloc (.cells #[.int .i64 kd, .int .i64 op, .slice pa la ca, .slice pk lk ck, .slice pc lc cc, .slice pq lq cq, .int .i64 1, .int .i64 op', .slice p' ys'.length cap', .slice none 0 0, .slice (some ⟨w7.heap.size, 0, none⟩) 1 1, .slice none 0 0] 52) = W at *
  have ht := hV.to (oA.trans oB').keep (Frs.mono (Nat.le_refl _) (oA.trans oB').size)
  have hl := leafV (S := Frs (inl w N0) (N0 + 1) W) (k := 0) (n := j) (op := op') (ys := ys') (args_to (oS.trans oC').keep (frs_non (by omega) (oS.trans oC').size) hA) hB1' (args_to (oC'.keepF (fun b hb => hb.elim (fun h => h.elim) fun h => .inr ⟨by omega, h.2⟩)) (frs_non (by omega) oC'.size) hA7) (.inr ⟨by omega, by omega⟩)
  refine ⟨0, 0, none, 0, 0, none, 0, 0, none, 0, 0, some ⟨w7.heap.size + 1, 0, none⟩, 2, 2, (((0, (0, []), []), [], [t, (((1, (op', ys'), []), [(op7, ys7)], []) : NT 1 × List El × List (AT 0 j))]) : NT 1 × List El × List (AT 0 (j + 1))), hP', hQ', ⟨0, 0, none, 0, 0, none, 0, 0, none, 0, _, 2, rfl, ⟨none, 0, none, 0, rfl, sl_nil, sl_nil⟩, sl_nil, two_arms hB2 ht hl (.inr ⟨by omega, by omega⟩)⟩, ⟨none_ok, fun e he => (by cases he), fun u hu => ?_⟩, ?_, hrW.mono hM, hsW⟩
  · rcases List.mem_cons.1 (show u ∈ [t, (((1, (op', ys'), []), [(op7, ys7)], []) : NT 1 × List El × List (AT 0 j))] from hu) with h | h
    · rw [h]; exact hokT
    · rw [List.mem_singleton.1 h]; exact leaf_ok hok6 hok7
  · have h1 := leaf_z (k := 0) (n := j) hok6 hok7
    show 0 + 0 + (2 + (zA 0 (j + 1) t + (zA 0 (j + 1) (((1, (op', ys'), []), [(op7, ys7)], []) : NT 1 × List El × List (AT 0 j)) + 0))) ≤ z
    omega

theorem fork_done {K Nn rb M z N0 j : Nat} {w W : World} {kd op : Int} {pa : Option Addr} {la ca : Nat} {pk : Option Addr} {lk ck : Nat} {pc : Option Addr} {lc cc : Nat} {pq : Option Addr} {lq cq : Nat} (h : FLoop rb M z w N0 j W) (hb : Own6 W N0 (.int .i64 kd) (.int .i64 op) (.slice pa la ca) (.slice pk lk ck) (.slice pc lc cc) (.slice pq lq cq)) (hj : j ≤ Nn) (hz : z ≤ 800) (hrb : rb < w.heap.size) (hN : w.heap.size < N0) : ADr K Nn 800 rb M w (.returned (.agg #[.int .i64 kd, .int .i64 op, .slice pa la ca, .slice pk lk ck, .slice pc lc cc, .slice pq lq cq])) ((((((W.setCell ⟨w.heap.size, 0, none⟩ (.int .i64 kd)).setCell ⟨w.heap.size, 1, none⟩ (.int .i64 op)).setCell ⟨w.heap.size, 2, none⟩ (.slice pa la ca)).setCell ⟨w.heap.size, 3, none⟩ (.slice pk lk ck)).setCell ⟨w.heap.size, 4, none⟩ (.slice pc lc cc)).setCell ⟨w.heap.size, 5, none⟩ (.slice pq lq cq)) := by
  obtain ⟨kd', op', pa', la', ca', pk', lk', ck', pc', lc', cc', pq', lq', cq', t, hbox, -, hV, hokT, hzT, hrd, hst⟩ := h
  have e := hb.row.symm.trans hbox.row
  simp only [Option.some.injEq, Obj.cells.injEq, Array.mk.injEq, List.cons.injEq, Value.int.injEq, Value.slice.injEq, true_and, and_true] at e
  obtain ⟨rfl, rfl, ⟨rfl, rfl, rfl⟩, ⟨rfl, rfl, rfl⟩, ⟨rfl, rfl, rfl⟩, rfl, rfl, rfl⟩ := e
  have hbl := hb.lt
  have o := out6 (O := inl w N0) (base := N0 + 1) (w := W) (y0 := .int .i64 kd) (y1 := .int .i64 op) (y2 := .slice pa la ca) (y3 := .slice pk lk ck) (y4 := .slice pc lc cc) (y5 := .slice pq lq cq) (c := w.heap.size) (by omega) (fun h => by omega)
  have hV' := hV.to (S' := Frs Non w.heap.size ((((((W.setCell ⟨w.heap.size, 0, none⟩ (.int .i64 kd)).setCell ⟨w.heap.size, 1, none⟩ (.int .i64 op)).setCell ⟨w.heap.size, 2, none⟩ (.slice pa la ca)).setCell ⟨w.heap.size, 3, none⟩ (.slice pk lk ck)).setCell ⟨w.heap.size, 4, none⟩ (.slice pc lc cc)).setCell ⟨w.heap.size, 5, none⟩ (.slice pq lq cq))) o.keep (fun b hb => .inr (by have := o.size; rcases hb with hb | hb <;> exact ⟨by omega, by omega⟩))
  obtain ⟨t', h1, h2, h3⟩ := raiseA (k' := K) (n' := Nn + 1) (by omega) (by omega) ⟨t, hV', hokT, hzT⟩
  exact ⟨_, t', rfl, h1, h2, Nat.le_trans h3 hz, rd6 hrd hrb, step6 hst (Nat.le_refl _)⟩

set_option maxHeartbeats 2000000 in
set_option maxRecDepth 100000 in
theorem l6Forks_any (K Nn : Nat) (hNn : 61 ≤ Nn) (rb m : Nat) (n : Int) (w : World) (hr : Rd w rb m) (hm : m ≤ 400000) (hn : n ≤ 60) : Calls Tryz.prog 49 #[.pointer (some ⟨rb, 0, none⟩), .int .i64 n] w (ADr K Nn 800 rb (m + 7000) w) := by
  have hlt := hr.lt
  go_enter Tryz.func49, Tryz.ntmps49
  go_wp2_with fail
  refine (contact_dr rb m _ (hr.alloc _) (by omega)).mono ?_
  rintro e w3 ⟨op, ys, p, cap, rfl, hA, hok, hr3, st3⟩
  have HR3 : Hid (Zero6 w3 w.heap.size) := (Own6.new w (.int .i64 0) (.int .i64 0) (.slice none 0 0) (.slice none 0 0) (.slice none 0 0) (.slice none 0 0)).step st3 (by omega)
  have hl3 := HR3.out.lt
  have st3' : Step rb w w3 := (Step.alloc rb w _).trans st3
  clear st3
  go_wp2_with fail
  refine (coil_dr rb _ _ hr3 (by omega)).mono ?_
  rintro e w4 ⟨op', ys', p', cap', rfl, hA4, hok4, hr4, st4⟩
  have HR4 : Hid (Zero6 w4 w.heap.size) := HR3.out.step st4 (by omega)
  go_wp2
  go_loopw [6] (fun d8 w' => ∃ j : Nat, (j : Int) ≤ 60 ∧ d8 = .int .i64 (j : Int) ∧ Hid (FLoop rb (m + 70 + 101 * j) (7 + 12 * j) w (w4.heap.size + 1) j w')) (fun d8 _ => (n - intOf d8).toNat)
  case atStart =>
    have hs4 := st4.size
    have hB1 := ((one (w4.alloc (.cells #[.int .i64 op', .slice p' ys'.length cap'] 46)) (.cells #[.int .i64 1, .int .i64 op, .slice p ys.length cap, .slice none 0 0, .slice (some ⟨w4.heap.size, 0, none⟩) 1 1, .slice none 0 0] 52)).block w4.heap.size (by simp)).trans (last w4 (.cells #[.int .i64 op', .slice p' ys'.length cap'] 46))
    have hb : Below w4.heap.size w4 ((w4.alloc (.cells #[.int .i64 op', .slice p' ys'.length cap'] 46)).alloc (.cells #[.int .i64 1, .int .i64 op, .slice p ys.length cap, .slice none 0 0, .slice (some ⟨w4.heap.size, 0, none⟩) 1 1, .slice none 0 0] 52)) := (one w4 _).trans ((one _ _).mono (by simp))
    have hNb := Own6.new (w4.alloc (.cells #[.int .i64 op', .slice p' ys'.length cap'] 46)) (.int .i64 1) (.int .i64 op) (.slice p ys.length cap) (.slice none 0 0) (.slice (some ⟨w4.heap.size, 0, none⟩) 1 1) (.slice none 0 0)
    rw [show (w4.alloc (.cells #[.int .i64 op', .slice p' ys'.length cap'] 46)).heap.size = w4.heap.size + 1 by simp] at hNb
    have hrW := (hr4.alloc (.cells #[.int .i64 op', .slice p' ys'.length cap'] 46)).alloc (.cells #[.int .i64 1, .int .i64 op, .slice p ys.length cap, .slice none 0 0, .slice (some ⟨w4.heap.size, 0, none⟩) 1 1, .slice none 0 0] 52)
    have hsW : Step rb w ((w4.alloc (.cells #[.int .i64 op', .slice p' ys'.length cap'] 46)).alloc (.cells #[.int .i64 1, .int .i64 op, .slice p ys.length cap, .slice none 0 0, .slice (some ⟨w4.heap.size, 0, none⟩) 1 1, .slice none 0 0] 52)) := (st3'.trans st4).trans (.of hb)
    have hRW := (HR4.out.alloc (.cells #[.int .i64 op', .slice p' ys'.length cap'] 46)).alloc (.cells #[.int .i64 1, .int .i64 op, .slice p ys.length cap, .slice none 0 0, .slice (some ⟨w4.heap.size, 0, none⟩) 1 1, .slice none 0 0] 52)
    generalize (w4.alloc (.cells #[.int .i64 op', .slice p' ys'.length cap'] 46)).alloc (.cells #[.int .i64 1, .int .i64 op, .slice p ys.length cap, .slice none 0 0, .slice (some ⟨w4.heap.size, 0, none⟩) 1 1, .slice none 0 0] 52) = W at *
    have hA' : SlOf (Frs (inl w (w4.heap.size + 1)) (w4.heap.size + 1 + 1) W) (ArE W) 3 p cap ys := by
      refine args_to (Keep.trans0 (Keep.ofStep st4 ?_) (Keep.of hb ?_)) ?_ hA
      · intro b hb
        rcases hb with hb | hb
        · exact hb.elim
        · exact ⟨hb.2, by have := hb.1; simp at this; omega⟩
      · intro b hb
        rcases hb with hb | hb
        · exact hb.elim
        · omega
      · intro b hb
        rcases hb with hb | hb
        · exact hb.elim
        · exact .inl ⟨by have := hb.1; simp at this; omega, by omega⟩
    have hA4' : SlOf (Frs (inl w (w4.heap.size + 1)) (w4.heap.size + 1 + 1) W) (ArE W) 3 p' cap' ys' := by
      refine args_to (Keep.of hb ?_) ?_ hA4
      · intro b hb
        rcases hb with hb | hb
        · exact hb.elim
        · exact hb.2
      · intro b hb
        rcases hb with hb | hb
        · exact hb.elim
        · exact .inl ⟨by omega, by omega⟩
    exact ⟨0, by omega, rfl, 1, op, p, ys.length, cap, none, 0, 0, some ⟨w4.heap.size, 0, none⟩, 1, 1, none, 0, 0, (((1, (op, ys), []), [(op', ys')], []) : NT 1 × List El × List (AT 0 0)), hNb, hRW, leafV hA' hB1 hA4' (.inl ⟨by omega, by omega⟩), leaf_ok hok hok4, leaf_z (k := 0) (n := 0) hok hok4, hrW.mono (by omega), hsW⟩
  case round =>
    obtain ⟨j, hj, rfl, HL⟩ := hrel
    rename_i wr
    obtain ⟨kd, op1, pa, la, ca, pk, lk, ck, pc, lc, cc, pq, lq, cq, t, hbox, hres, hV, hokT, hzT, hrd, hst⟩ := HL.out
    have hbl := hbox.lt
    have hrl := hres.lt
    by_cases hlt8 : (j : Int) < n
    · obtain ⟨x0, x1, x2, x3, x4, x5⟩ := hbox.cells
      have HV : Hid (AmV (Frs (inl w (w4.heap.size + 1)) (w4.heap.size + 1 + 1) wr) wr 0 (j + 1) (.agg #[.int .i64 kd, .int .i64 op1, .slice pa la ca, .slice pk lk ck, .slice pc lc cc, .slice pq lq cq]) t) := hV
      have HBOX : Hid (Own6 wr (w4.heap.size + 1) (.int .i64 kd) (.int .i64 op1) (.slice pa la ca) (.slice pk lk ck) (.slice pc lc cc) (.slice pq lq cq)) := hbox
      have HRES : Hid (Zero6 wr w.heap.size) := hres
      have HST : Hid (Step rb w wr) := hst
      have hs4 := st4.size
      clear hV hbox hres hst HL hA hok hr3 st3' hr HR3 HR4 hr4 hA4 hok4 st4
      go_wp2
      go_region_law
        (first
          | (rw [if_pos (by rfl)]; go_simp; go_at_call 26; refine (contact_dr rb _ _ hrd.drew (by omega)).mono ?_; rintro e w6 ⟨op', ys', p', cap', rfl, hA6, hok6, hr6, st6⟩; have st6' : Step rb wr w6 := (Step.drew rb wr).trans st6; have HB6 : Hid (Own6 w6 (w4.heap.size + 1) (.int .i64 kd) (.int .i64 op1) (.slice pa la ca) (.slice pk lk ck) (.slice pc lc cc) (.slice pq lq cq)) := HBOX.out.step st6' (by omega); obtain ⟨c0, c1, c2, c3, c4, c5⟩ := HB6.out.cells; have hbl6 := HB6.out.lt; have HA6 : Hid (SlOf (Frs Non wr.heap.size w6) (ArE w6) 3 p' cap' ys') := hA6; have HST6 : Hid (Step rb wr w6) := st6'; clear hA6 st6 st6'; dsimp only)
          | (rw [if_pos (by rfl)]; go_simp; go_at_call 27; refine (coil_dr rb _ _ hr6 (by omega)).mono ?_; rintro e w7 ⟨op7, ys7, p7, cap7, rfl, hA7, hok7, hr7, st7⟩; have HB7 : Hid (Own6 w7 (w4.heap.size + 1) (.int .i64 kd) (.int .i64 op1) (.slice pa la ca) (.slice pk lk ck) (.slice pc lc cc) (.slice pq lq cq)) := HB6.out.step st7 (by omega); obtain ⟨g0, g1, g2, g3, g4, g5⟩ := HB7.out.cells; obtain ⟨f0, f1, f2, f3, f4, f5⟩ := HB7.out.free; have hbl7 := HB7.out.lt; have hbl8 : w4.heap.size < w7.heap.size := (by omega); have HA7 : Hid (SlOf (Frs Non w6.heap.size w7) (ArE w7) 3 p7 cap7 ys7) := hA7; have HST7 : Hid (Step rb w6 w7) := st7; clear hA7 st7; dsimp only))
      all_goals (try go_wp2_with fail)
      all_goals have HF := Hid.mk0 (floop_two (M := m + 70 + 101 * j + 70) (z := 16 + 12 * j) HBOX.out HRES.out HV.out hokT hzT HST.out HST6.out HA6.out hok6 HST7.out HA7.out hok7 hr7 (by omega) hlt (by omega) (by omega))
      all_goals have hrW := FLoop.rd HF.out
      all_goals refine (pick_any rb _ 2 _ (by omega) hrW (by omega)).mono ?_
      all_goals rintro e w8 ⟨k, rfl, k0, k1, -, hr8, st8⟩
      all_goals have HF8 : Hid (FLoop rb (m + 70 + 101 * j + 70 + 1) (16 + 12 * j) w (w4.heap.size + 1) (j + 1) w8) := HF.out.step st8 hr8 hlt (by omega) (Nat.le_refl _)
      all_goals clear HF hrW st8
      all_goals by_cases hk : k = 0
      all_goals (try (have hk' : (k == 0) = false := by simp [hk]))
      all_goals (first
        | (obtain rfl := hk
           obtain ⟨kd9, op9, pa9, la9, ca9, pk9, lk9, ck9, pc9, lc9, cc9, pq9, lq9, cq9, t9, hbox9, hres9, hV9, hok9, hz9, hrd9, hst9⟩ := HF8.out
           go_wp2_with fail
           refine (contact_dr rb _ _ hrd9 (by omega)).mono ?_
           rintro e w9 ⟨op2, ys2, p2, cap2, rfl, hA9, hokc, hr9, st9⟩
           have HB9 := hbox9.step st9 (by omega)
           obtain ⟨a0, a1, a2, a3, a4, a5⟩ := HB9.cells
           obtain ⟨b0, b1, b2, b3, b4, b5⟩ := HB9.free
           have HFIN : Hid (FLoop rb (m + 70 + 101 * (j + 1)) (7 + 12 * (j + 1)) w (w4.heap.size + 1) (j + 1) _) := floop_net hbox9 hres9 hV9 hok9 hz9 hst9 st9 hA9 hokc hr9 (by omega) hlt (by omega) (by omega)
           clear hbox9 hres9 hV9 hok9 hz9 hst9 hA9 hokc HB9 HF8
           go_wp2
           exact ⟨⟨j + 1, by omega, by go_num, HFIN⟩, by simp [intOf]; omega⟩)
        | (go_wp2
           exact ⟨⟨j + 1, by omega, by go_num, HF8.out.step (Step.refl _ _) (hr8.mono (by omega)) hlt (by omega) (by omega)⟩, by simp [intOf]; omega⟩))
    · have hs4 := st4.size
      have HRES : Hid (Zero6 wr w.heap.size) := hres
      go_wp2_with fail
      refine (contact_dr rb _ _ hrd (by omega)).mono ?_
      rintro e w9 ⟨op2, ys2, p2, cap2, rfl, hA9, hokc, hr9, st9⟩
      have HB9 := hbox.step st9 (by omega)
      have HR9 : Hid (Zero6 w9 w.heap.size) := HRES.out.step st9 (by omega)
      obtain ⟨a0, a1, a2, a3, a4, a5⟩ := HB9.cells
      obtain ⟨b0, b1, b2, b3, b4, b5⟩ := HB9.free
      obtain ⟨d0, d1, d2, d3, d4, d5⟩ := HR9.out.cells
      obtain ⟨e0, e1, e2, e3, e4, e5⟩ := HR9.out.free
      have HFIN : Hid (FLoop rb (m + 6300) (10 + 12 * j) w (w4.heap.size + 1) j _) := floop_net hbox hres hV hokT hzT hst st9 hA9 hokc hr9 (by omega) hlt (by omega) (by omega)
      clear hbox hres hV hokT hzT hst hA9 HL
      go_wp2
      refine bodyPost_ret (v := .agg #[.int .i64 1, .int .i64 op2, .slice p2 ys2.length cap2, .slice none 0 0, .slice pc lc cc, .slice pq lq cq]) (resArm (b := w.heap.size) Tryz.results49 rfl (((((HR9.out.set (by omega)).set (by omega)).set (by omega)).set (by omega)).put _ _ _ _ _ _).cells) rfl ?_
      exact (fork_done HFIN.out (HB9.putN _ _ _ _) (by omega) (by omega) hlt (by omega)).mono (Nat.le_refl _) (by omega)
end Go.Proofs.YtjkpingdokkkcaaGreatDoor.Tr
