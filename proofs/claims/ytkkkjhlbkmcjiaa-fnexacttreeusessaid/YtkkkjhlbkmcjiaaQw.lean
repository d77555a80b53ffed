/- What is shown to a look of a ladder: the walk over arms. Helper text: no statement is claimed here. -/
import Derived.Test.YtkkkjhlbkmcjiaaQv
namespace Go.Proofs.Ytkkkjhlbkmcjiaa.Tr
open Go.ChangeShapes Go.WideShapes Go.ChangeAt Go.RowKit
attribute [local go_sem] store_func

/-- The cells that the walk over arms has captured, and the one that its show has. -/
structure ClosA (L : Lk) (w : World) (P5 P7 P4 PL : Nat) : Prop where
  h5 : w.cell? ⟨P5, 0, none⟩ = some (.func (.func 35) #[] #[.pointer (some ⟨PL, 0, none⟩)])
  h7 : w.cell? ⟨P7, 0, none⟩ = some (.func (.func 53) #[] #[.pointer (some ⟨P5, 0, none⟩), .pointer (some ⟨P7, 0, none⟩), .pointer (some ⟨P4, 0, none⟩)])
  h4 : w.cell? ⟨P4, 0, none⟩ = some (.func (.func 39) #[] #[])
  hL : w.cell? ⟨PL, 0, none⟩ = some L.val
  n5 : P5 ≠ L.C
  n7 : P7 ≠ L.C
  n4 : P4 ≠ L.C
  nL : PL ≠ L.C
theorem ClosA.to {L : Lk} {w w' : World} {P5 P7 P4 PL : Nat} (h : ClosA L w P5 P7 P4 PL) (hb : But L.C w w') : ClosA L w' P5 P7 P4 PL :=
  ⟨hb.cell h.n5 h.h5, hb.cell h.n7 h.h7, hb.cell h.n4 h.h4, hb.cell h.nL h.hL, h.n5, h.n7, h.n4, h.nL⟩
def KidsA (L : Lk) (k n : Nat) : Prop := ∀ (S : Nat → Prop) (w : World) (_ : Apart L.C S w) (kd op : Int) (pa : Option Addr) (la ca : Nat) (pk : Option Addr) (lk ck : Nat) (pc : Option Addr) (lc cc : Nat) (pq : Option Addr) (lq cq : Nat) (t : AT k n) (_ : AmV S w k n (.agg #[.int .i64 kd, .int .i64 op, .slice pa la ca, .slice pk lk ck, .slice pc lc cc, .slice pq lq cq]) t)
    (P5 P7 P4 PL : Nat) (_ : ClosA L w P5 P7 P4 PL) (s : Nat) (_ : L.cnt w s) (_ : s + L.gQ k n t ≤ 9223372036854775807),
    Calls Try.prog 53 #[.slice pq lq cq, .pointer (some ⟨P5, 0, none⟩), .pointer (some ⟨P7, 0, none⟩), .pointer (some ⟨P4, 0, none⟩)] w fun r w' => r = .returned .nilIface ∧ L.cnt w' (s + L.gQ k n t) ∧ But L.C w w'
def WalkA (L : Lk) (k n : Nat) : Prop := ∀ (S : Nat → Prop) (w : World) (_ : Apart L.C S w) (p : Option Addr) (cap : Nat) (es : List (AT k n)) (_ : SlOf S (AmE S w k n) 6 p cap es)
    (P5 P7 P4 PL : Nat) (_ : ClosA L w P5 P7 P4 PL) (s : Nat) (_ : L.cnt w s) (_ : s + tot (L.gA k n) es ≤ 9223372036854775807),
    Calls Try.prog 53 #[.slice p es.length cap, .pointer (some ⟨P5, 0, none⟩), .pointer (some ⟨P7, 0, none⟩), .pointer (some ⟨P4, 0, none⟩)] w fun r w' => r = .returned .nilIface ∧ L.cnt w' (s + tot (L.gA k n) es) ∧ But L.C w w'
theorem kidsA_of (L : Lk) (k n : Nat) (h : WalkA L k n) : KidsA L k (n + 1) := by
  intro S w hS kd op pa la ca pk lk ck pc lc cc pq lq cq t hV P5 P7 P4 PL hC s hs hbd
  obtain ⟨kd', op', pa', la', ca', pk', lk', ck', pc', cc', pq', cq', he, _, _, h5⟩ := hV
  simp only [Value.agg.injEq, Array.mk.injEq, List.cons.injEq, Value.int.injEq, Value.slice.injEq, true_and, and_true] at he
  obtain ⟨rfl, rfl, ⟨rfl, rfl, rfl⟩, ⟨rfl, rfl, rfl⟩, ⟨rfl, rfl, rfl⟩, rfl, rfl, rfl⟩ := he
  exact h S w hS pq cq t.kids h5 P5 P7 P4 PL hC s hs hbd

set_option maxHeartbeats 2000000 in
set_option maxRecDepth 100000 in
theorem walkA_of (L : Lk) (ok : L.Ok) (k n : Nat) (IH : KidsA L k n) : WalkA L k n := by
  intro S w hS p cap es hV P5 P7 P4 PL hC s hs hbd
  have HS : Hid (Apart L.C S w) := hS
  have HV : Hid (SlOf S (AmE S w k n) 6 p cap es) := hV
  have HC : Hid (ClosA L w P5 P7 P4 PL) := hC
  have HN : Hid (L.cnt w s) := hs
  have HI : Hid (KidsA L k n) := IH
  have HO : Hid L.Ok := ok
  have HD : Hid (s + tot (L.gA k n) es ≤ 9223372036854775807) := hbd
  obtain ⟨⟨hl1, hl2⟩, -⟩ := hV
  clear hS hC hs IH ok hbd
  go_enter Try.func53, Try.ntmps53
  go_wp2
  go_loopw [12] (fun d w' => ∃ j : Nat, j ≤ es.length ∧ d = .int .i64 (j : Int) ∧ Hid (L.cnt w' (s + tot (L.gA k n) (es.take j))) ∧ Hid (But L.C w w')) (fun d _ => es.length - (intOf d).toNat)
  case atStart => exact ⟨0, by omega, rfl, HN, But.refl _ _⟩
  case round =>
    obtain ⟨j, hj, rfl, HNj, HB⟩ := hrel
    rename_i wr
    by_cases hlt : j < es.length
    · have hlt' : (j : Int) < (es.length : Int) := by omega
      obtain ⟨t, ht⟩ := get_lt hlt
      have HT1 : Hid (tot (L.gA k n) (es.take (j + 1)) = tot (L.gA k n) (es.take j) + (L.hA k n t + L.gQ k n t)) := (tot_next (L.gA k n) ht).trans (by rw [L.gA_eq k n t])
      have HT2 : Hid (tot (L.gA k n) (es.take (j + 1)) ≤ tot (L.gA k n) es) := tot_le (L.gA k n) es (j + 1)
      have hAr : Apart L.C S wr := HS.out.to HB.out.size
      obtain ⟨b, off, rfl, hb, hE⟩ := (arms_to (HB.out.keep HS.out) (fun _ h => h) HV.out).get ht
      obtain ⟨kd, op, pa, la, ca, pk, lk, ck, pc, lc, cc, pq, lq, cq, c0, c1, c2, c3, c4, c5, hNv⟩ := hE.out
      have hbl : b < wr.heap.size := World.block_lt_of_cell? _ _ c0
      have HCl : Hid (ClosA L wr P5 P7 P4 PL) := HC.out.to HB.out
      have g5 := HCl.out.h5
      have g5l : P5 < wr.heap.size := World.block_lt_of_cell? _ _ g5
      have HA : Hid (Apart L.C S wr) := hAr
      have HNv : Hid (AmV S wr k n (.agg #[.int .i64 kd, .int .i64 op, .slice pa la ca, .slice pk lk ck, .slice pc lc cc, .slice pq lq cq]) t) := hNv
      clear hE hNv hAr ht
      go_wp2_with fail
      have HBa : Hid (But L.C wr (wr.alloc (.cells #[.int .i64 kd, .int .i64 op, .slice pa la ca, .slice pk lk ck, .slice pc lc cc, .slice pq lq cq] 55))) := But.of (one _ _)
      have HNa : Hid (L.cnt (wr.alloc (.cells #[.int .i64 kd, .int .i64 op, .slice pa la ca, .slice pk lk ck, .slice pc lc cc, .slice pq lq cq] 55)) (s + tot (L.gA k n) (es.take j))) := HO.out.to _ _ _ HNj.out (one _ _)
      have HOw : Hid (OwnR (wr.alloc (.cells #[.int .i64 kd, .int .i64 op, .slice pa la ca, .slice pk lk ck, .slice pc lc cc, .slice pq lq cq] 55)) wr.heap.size #[.int .i64 kd, .int .i64 op, .slice pa la ca, .slice pk lk ck, .slice pc lc cc, .slice pq lq cq]) := OwnR.new _ _
      generalize wr.alloc (.cells #[.int .i64 kd, .int .i64 op, .slice pa la ca, .slice pk lk ck, .slice pc lc cc, .slice pq lq cq] 55) = V at *
      have hnC : wr.heap.size ≠ L.C := by have := HO.out.lt _ _ HNj.out; omega
      refine (show_any L HO.out k n S V (HA.out.to HBa.out.size) _ t (HNv.out.to (HBa.out.keep HA.out) (fun _ h => h)) PL (HCl.out.to HBa.out).hL HCl.out.nL _ HNa.out (by have := HT1.out; have := HT2.out; have := HD.out; omega)).mono ?_
      rintro r w1 ⟨rfl, hn1, hb1⟩
      have HN1 : Hid (L.cnt w1 (s + tot (L.gA k n) (es.take j) + L.hA k n t)) := hn1
      have HB1 : Hid (But L.C wr w1) := HBa.out.trans hb1
      have HO1 : Hid (OwnR w1 wr.heap.size #[.int .i64 kd, .int .i64 op, .slice pa la ca, .slice pk lk ck, .slice pc lc cc, .slice pq lq cq]) := (hb1.block _ (Array.getElem?_eq_some_iff.1 HOw.out).1 hnC).trans HOw.out
      have HC1 : Hid (ClosA L w1 P5 P7 P4 PL) := HCl.out.to HB1.out
      have q0 : w1.cell? ⟨wr.heap.size, 0, none⟩ = some (.int .i64 kd) := cell_of_row _ _ 0 _ _ _ HO1.out
      have q1 : w1.cell? ⟨wr.heap.size, 1, none⟩ = some (.int .i64 op) := cell_of_row _ _ 1 _ _ _ HO1.out
      have q2 : w1.cell? ⟨wr.heap.size, 2, none⟩ = some (.slice pa la ca) := cell_of_row _ _ 2 _ _ _ HO1.out
      have q3 : w1.cell? ⟨wr.heap.size, 3, none⟩ = some (.slice pk lk ck) := cell_of_row _ _ 3 _ _ _ HO1.out
      have q4 : w1.cell? ⟨wr.heap.size, 4, none⟩ = some (.slice pc lc cc) := cell_of_row _ _ 4 _ _ _ HO1.out
      have q5 : w1.cell? ⟨wr.heap.size, 5, none⟩ = some (.slice pq lq cq) := cell_of_row _ _ 5 _ _ _ HO1.out
      have q7 := HC1.out.h7
      have q8 := HC1.out.h4
      clear hn1 hb1 c0 c1 c2 c3 c4 c5 g5 g5l HBa HNa HOw
      go_wp2
      go_region_held3 (fun W => W.cell? ⟨P7, 0, none⟩ = some (.func (.func 53) #[] #[.pointer (some ⟨P5, 0, none⟩), .pointer (some ⟨P7, 0, none⟩), .pointer (some ⟨P4, 0, none⟩)]) ∧ W.cell? ⟨P4, 0, none⟩ = some (.func (.func 39) #[] #[]) ∧ W.cell? ⟨wr.heap.size, 0, none⟩ = some (.int .i64 kd) ∧ W.cell? ⟨wr.heap.size, 1, none⟩ = some (.int .i64 op) ∧ W.cell? ⟨wr.heap.size, 2, none⟩ = some (.slice pa la ca) ∧ W.cell? ⟨wr.heap.size, 3, none⟩ = some (.slice pk lk ck) ∧ W.cell? ⟨wr.heap.size, 4, none⟩ = some (.slice pc lc cc) ∧ W.cell? ⟨wr.heap.size, 5, none⟩ = some (.slice pq lq cq)) (first | go_keep | assumption)
        (first
          | (go_at_call 39; refine (kidsA_any kd op pa la ca pk lk ck pc lc cc pq lq cq _).mono ?_; rintro e w2 ⟨rfl, hb2⟩; have HB2 : Hid (Below w1.heap.size w1 w2) := (Below.refl _ _).drew.trans hb2; have r0 := keep2 HB2.out q0; have r1 := keep2 HB2.out q1; have r2 := keep2 HB2.out q2; have r3 := keep2 HB2.out q3; have r4 := keep2 HB2.out q4; have r5 := keep2 HB2.out q5; have r7 := keep2 HB2.out q7; have r8 := keep2 HB2.out q8; clear hb2)
          | (go_at_call 53; refine (HI.out S w2 ((HA.out.to HB1.out.size).to HB2.out.size) kd op pa la ca pk lk ck pc lc cc pq lq cq t (HNv.out.to ((HB1.out.trans (But.of HB2.out)).keep HA.out) (fun _ h => h)) P5 P7 P4 PL (HC1.out.to (But.of HB2.out)) (s + tot (L.gA k n) (es.take j) + L.hA k n t) (HO.out.to _ _ _ HN1.out HB2.out) ?_).mono ?_; (have := HT1.out; have := HT2.out; have := HD.out; omega); rintro e w3 ⟨rfl, hn3, hb3⟩; have HN3 : Hid (L.cnt w3 (s + tot (L.gA k n) (es.take j) + L.hA k n t + L.gQ k n t)) := hn3; have HB3 : Hid (But L.C w w3) := (HB.out.trans HB1.out).trans ((But.of HB2.out).trans hb3); have u0 := hb3.cell hnC r0; have u1 := hb3.cell hnC r1; have u2 := hb3.cell hnC r2; have u3 := hb3.cell hnC r3; have u4 := hb3.cell hnC r4; have u5 := hb3.cell hnC r5; have u7 := hb3.cell HC1.out.n7 r7; have u8 := hb3.cell HC1.out.n4 r8; clear hn3 hb3))
      all_goals (try go_wp2)
      all_goals exact ⟨⟨j + 1, by omega, by go_num, (by have h := HN3.out; have e : s + tot (L.gA k n) (es.take (j + 1)) = s + tot (L.gA k n) (es.take j) + L.hA k n t + L.gQ k n t := by { have := HT1.out; omega }; show L.cnt w3 _; rw [e]; exact h), HB3⟩, by simp [intOf]; omega⟩
    · obtain rfl : j = es.length := by omega
      have HNe : Hid (L.cnt wr (s + tot (L.gA k n) es)) := by
        have := HNj.out
        rw [List.take_length] at this
        exact this
      go_wp2
      go_ret
      exact ⟨rfl, HNe.out, HB.out⟩
theorem walkA_any (L : Lk) (ok : L.Ok) (k : Nat) : ∀ n, WalkA L k n
  | 0 => walkA_of L ok k 0 (fun _ _ _ _ _ _ _ _ _ _ _ _ _ _ _ _ _ _ h => h.elim)
  | n + 1 => walkA_of L ok k (n + 1) (kidsA_of L k n (walkA_any L ok k n))

set_option maxHeartbeats 1000000 in
set_option maxRecDepth 100000 in
theorem treeWalkA_any (L : Lk) (ok : L.Ok) (k n : Nat) (S : Nat → Prop) (w : World) (hS : Apart L.C S w) (p : Option Addr) (cap : Nat) (es : List (AT k n)) (hV : SlOf S (AmE S w k n) 6 p cap es) (PL : Nat) (hPL : w.cell? ⟨PL, 0, none⟩ = some L.val) (hPC : PL ≠ L.C) (s : Nat) (hs : L.cnt w s) (hbd : s + tot (L.gA k n) es ≤ 9223372036854775807) :
    Calls Try.prog 38 #[.slice p es.length cap, .func (.func 39) #[] #[], .func (.func 35) #[] #[.pointer (some ⟨PL, 0, none⟩)]] w fun r w' => r = .returned .nilIface ∧ L.cnt w' (s + tot (L.gA k n) es) ∧ But L.C w w' := by
  have hlt := ok.lt _ _ hs
  have HC : Hid (∀ W, Below w.heap.size w W → ∀ P5 P7 P4, ClosA L W P5 P7 P4 PL → Calls Try.prog 53 #[.slice p es.length cap, .pointer (some ⟨P5, 0, none⟩), .pointer (some ⟨P7, 0, none⟩), .pointer (some ⟨P4, 0, none⟩)] W fun r w' => r = .returned .nilIface ∧ L.cnt w' (s + tot (L.gA k n) es) ∧ But L.C W w') :=
    fun W hW P5 P7 P4 hc => walkA_any L ok k n S W (hS.to hW.size) p cap es (arms_to (Keep.of hW (fun b hb => (hS b hb).1)) (fun _ h => h) hV) P5 P7 P4 PL hc s (ok.to _ _ _ hs hW) hbd
  have HPL : Hid (w.cell? ⟨PL, 0, none⟩ = some L.val) := hPL
  have hmf' := hmf
  clear hS hV hs hbd ok hPL
  go_enter Try.func38, Try.ntmps38
  go_wp2_with fail
  refine (HC.out _ (two' _ _ _ |>.alloc (by simp; omega) _) (w.heap.size + 1) (w.heap.size + 1 + 1) w.heap.size ⟨?_, ?_, ?_, ?_, by omega, by omega, by omega, hPC⟩).mono ?_
  · exact cell_of_row _ _ 0 _ _ _ (h3b w _ _ _)
  · exact cell_of_row _ _ 0 _ _ _ (h3c w _ _ _)
  · exact cell_of_row _ _ 0 _ _ _ (h3a w _ _ _)
  · exact keep2 ((two' _ _ _).alloc (by simp; omega) _) HPL.out
  rintro r w1 ⟨rfl, h1, hb1⟩
  have H1 : Hid (L.cnt w1 (s + tot (L.gA k n) es)) := h1
  have HB1 : Hid (But L.C w w1) := (But.of ((two' _ _ _).alloc (by simp; omega) _)).trans hb1
  clear h1 hb1
  go_wp2
  go_ret
  exact ⟨rfl, H1.out, HB1.out⟩

set_option maxHeartbeats 1000000 in
set_option maxRecDepth 100000 in
theorem treeArms_any (L : Lk) (ok : L.Ok) (k n : Nat) (S : Nat → Prop) (w : World) (hS : Apart L.C S w) (p : Option Addr) (cap : Nat) (es : List (AT k n)) (hV : SlOf S (AmE S w k n) 6 p cap es) (s : Nat) (hs : L.cnt w s) (hbd : s + tot (L.gA k n) es ≤ 9223372036854775807) :
    Calls Try.prog 19 #[.slice p es.length cap, L.val] w fun r w' => r = .returned .nilIface ∧ L.cnt w' (s + tot (L.gA k n) es) ∧ But L.C w w' := by
  have hlt := ok.lt _ _ hs
  have HC : Hid (∀ W PL, Below w.heap.size w W → W.cell? ⟨PL, 0, none⟩ = some L.val → PL ≠ L.C → Calls Try.prog 38 #[.slice p es.length cap, .func (.func 39) #[] #[], .func (.func 35) #[] #[.pointer (some ⟨PL, 0, none⟩)]] W fun r w' => r = .returned .nilIface ∧ L.cnt w' (s + tot (L.gA k n) es) ∧ But L.C W w') :=
    fun W PL hW hPL hPC => treeWalkA_any L ok k n S W (hS.to hW.size) p cap es (arms_to (Keep.of hW (fun b hb => (hS b hb).1)) (fun _ h => h) hV) PL hPL hPC s (ok.to _ _ _ hs hW) hbd
  have hmf' := hmf
  clear hS hV hs hbd ok
  obtain ⟨TL, hTL⟩ : ∃ TL, TL = L.T := ⟨_, rfl⟩
  obtain ⟨C, hCC⟩ : ∃ C, C = L.C := ⟨_, rfl⟩
  rw [show L.val = .iface TL (.pointer (some ⟨C, 0, none⟩)) by rw [hTL, hCC]; rfl] at HC ⊢
  clear hTL hCC
  go_enter Try.func19, Try.ntmps19
  go_wp2_with fail
  refine (HC.out _ w.heap.size (one _ _) ?_ (by omega)).mono ?_
  · rw [World.cell?_alloc_mark]; rfl
  rintro r w1 ⟨rfl, h1, hb1⟩
  have H1 : Hid (L.cnt w1 (s + tot (L.gA k n) es)) := h1
  have HB1 : Hid (But L.C w w1) := (But.of (one _ _)).trans hb1
  clear h1 hb1
  go_wp2
  go_ret
  exact ⟨rfl, H1.out, HB1.out⟩
end Go.Proofs.Ytkkkjhlbkmcjiaa.Tr
