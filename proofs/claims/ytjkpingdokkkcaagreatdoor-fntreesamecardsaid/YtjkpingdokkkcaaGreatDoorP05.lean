/- What is shown to a look of a ladder: the walk over arms. Helper text: no statement is claimed here. -/
import Derived.Test.YtjkpingdokkkcaaGreatDoorP04
namespace Go.Proofs.YtjkpingdokkkcaaGreatDoor.Tr
open Go.ChangeShapes Go.WideShapes Go.ChangeAt Go.RowKit
attribute [local go_sem] store_func

/-- The cells that the walk over arms has captured, and the one that its show has. -/
structure ClosA (L : Lk) (w : World) (P5 P7 P4 PL : Nat) : Prop where
  h5 : w.cell? ⟨P5, 0, none⟩ = some (.func (.func 37) #[] #[.pointer (some ⟨PL, 0, none⟩)])
  h7 : w.cell? ⟨P7, 0, none⟩ = some (.func (.func 61) #[] #[.pointer (some ⟨P5, 0, none⟩), .pointer (some ⟨P7, 0, none⟩), .pointer (some ⟨P4, 0, none⟩)])
  h4 : w.cell? ⟨P4, 0, none⟩ = some (.func (.func 41) #[] #[])
  hL : w.cell? ⟨PL, 0, none⟩ = some L.val
  n5 : P5 ≠ L.C
  n7 : P7 ≠ L.C
  n4 : P4 ≠ L.C
  nL : PL ≠ L.C
theorem ClosA.to {L : Lk} {w w' : World} {P5 P7 P4 PL : Nat} (h : ClosA L w P5 P7 P4 PL) (hb : But L.C w w') : ClosA L w' P5 P7 P4 PL :=
  ⟨hb.cell h.n5 h.h5, hb.cell h.n7 h.h7, hb.cell h.n4 h.h4, hb.cell h.nL h.hL, h.n5, h.n7, h.n4, h.nL⟩
def KidsA (L : Lk) (k n : Nat) : Prop := ∀ (S : Nat → Prop) (w : World) (_ : Apart L.C S w) (kd op : Int) (pa : Option Addr) (la ca : Nat) (pk : Option Addr) (lk ck : Nat) (pc : Option Addr) (lc cc : Nat) (pq : Option Addr) (lq cq : Nat) (t : AT k n) (_ : AmV S w k n (.agg #[.int .i64 kd, .int .i64 op, .slice pa la ca, .slice pk lk ck, .slice pc lc cc, .slice pq lq cq]) t)
    (P5 P7 P4 PL : Nat) (_ : ClosA L w P5 P7 P4 PL) (s : Nat) (_ : L.cnt w s) (_ : s + L.gQ k n t ≤ 9223372036854775807),
    Calls Tryz.prog 61 #[.slice pq lq cq, .pointer (some ⟨P5, 0, none⟩), .pointer (some ⟨P7, 0, none⟩), .pointer (some ⟨P4, 0, none⟩)] w fun r w' => r = .returned .nilIface ∧ L.cnt w' (s + L.gQ k n t) ∧ But L.C w w'
def WalkA (L : Lk) (k n : Nat) : Prop := ∀ (S : Nat → Prop) (w : World) (_ : Apart L.C S w) (p : Option Addr) (cap : Nat) (es : List (AT k n)) (_ : SlOf S (AmE S w k n) 6 p cap es)
    (P5 P7 P4 PL : Nat) (_ : ClosA L w P5 P7 P4 PL) (s : Nat) (_ : L.cnt w s) (_ : s + tot (L.gA k n) es ≤ 9223372036854775807),
    Calls Tryz.prog 61 #[.slice p es.length cap, .pointer (some ⟨P5, 0, none⟩), .pointer (some ⟨P7, 0, none⟩), .pointer (some ⟨P4, 0, none⟩)] w fun r w' => r = .returned .nilIface ∧ L.cnt w' (s + tot (L.gA k n) es) ∧ But L.C w w'
theorem kidsA_of (L : Lk) (k n : Nat) (h : WalkA L k n) : KidsA L k (n + 1) := by
  intro S w hS kd op pa la ca pk lk ck pc lc cc pq lq cq t hV P5 P7 P4 PL hC s hs hbd
  obtain ⟨kd', op', pa', la', ca', pk', lk', ck', pc', cc', pq', cq', he, _, _, h5⟩ := hV
  simp only [Value.agg.injEq, Array.mk.injEq, List.cons.injEq, Value.int.injEq, Value.slice.injEq, true_and, and_true] at he
  obtain ⟨rfl, rfl, ⟨rfl, rfl, rfl⟩, ⟨rfl, rfl, rfl⟩, ⟨rfl, rfl, rfl⟩, rfl, rfl, rfl⟩ := he
  exact h S w hS pq cq t.kids h5 P5 P7 P4 PL hC s hs hbd

set_option maxHeartbeats 2000000 in
set_option maxRecDepth 100000 in
theorem walkA_of (L : Lk) (ok : L.Ok) (k n : Nat) (IH : KidsA L k n) : WalkA L k n := by
  intro S w hS p cap es hV P5 P7 P4 PL hC s hs hbd
  have HS : Hid (Apart L.C S w) := hS
  have HV : Hid (SlOf S (AmE S w k n) 6 p cap es) := hV
  have HC : Hid (ClosA L w P5 P7 P4 PL) := hC
  have HN : Hid (L.cnt w s) := hs
  have HI : Hid (KidsA L k n) := IH
  have HO : Hid L.Ok := ok
  have HD : Hid (s + tot (L.gA k n) es ≤ 9223372036854775807) := hbd
  obtain ⟨⟨hl1, hl2⟩, -⟩ := hV
  clear hS hC hs IH ok hbd
  go_enter Tryz.func61, Tryz.ntmps61
  go_wp2
  go_loopw [12] (fun d w' => ∃ j : Nat, j ≤ es.length ∧ d = .int .i64 (j : Int) ∧ Hid (L.cnt w' (s + tot (L.gA k n) (es.take j))) ∧ Hid (But L.C w w')) (fun d _ => es.length - (intOf d).toNat)
  case atStart => exact ⟨0, by omega, rfl, HN, But.refl _ _⟩
  case round =>
    obtain ⟨j, hj, rfl, HNj, HB⟩ := hrel
    rename_i wr
    by_cases hlt : j < es.length
    · have hlt' : (j : Int) < (es.length : Int) := by omega
      obtain ⟨t, ht⟩ := get_lt hlt
      have HT1 : Hid (tot (L.gA k n) (es.take (j + 1)) = tot (L.gA k n) (es.take j) + (L.hA k n t + L.gQ k n t)) := (tot_next (L.gA k n) ht).trans (by rw [L.gA_eq k n t])
      have HT2 : Hid (tot (L.gA k n) (es.take (j + 1)) ≤ tot (L.gA k n) es) := tot_le (L.gA k n) es (j + 1)
      have hAr : Apart L.C S wr := HS.out.to HB.out.size
      obtain ⟨b, off, rfl, hb, hE⟩ := (arms_to (HB.out.keep HS.out) (fun _ h => h) HV.out).get ht
      obtain ⟨kd, op, pa, la, ca, pk, lk, ck, pc, lc, cc, pq, lq, cq, c0, c1, c2, c3, c4, c5, hNv⟩ := hE.out
      have hbl : b < wr.heap.size := World.block_lt_of_cell? _ _ c0
      have HCl : Hid (ClosA L wr P5 P7 P4 PL) := HC.out.to HB.out
      have g5 := HCl.out.h5
      have g5l : P5 < wr.heap.size := World.block_lt_of_cell? _ _ g5
      have HA : Hid (Apart L.C S wr) := hAr
      have HNv : Hid (AmV S wr k n (.agg #[.int .i64 kd, .int .i64 op, .slice pa la ca, .slice pk lk ck, .slice pc lc cc, .slice pq lq cq]) t) := hNv
      clear hE hNv hAr ht
      go_wp2_with fail
      have HBa : Hid (But L.C wr (wr.alloc (.cells #[.int .i64 kd, .int .i64 op, .slice pa la ca, .slice pk lk ck, .slice pc lc cc, .slice pq lq cq] 52))) := But.of (one _ _)
      have HNa : Hid (L.cnt (wr.alloc (.cells #[.int .i64 kd, .int .i64 op, .slice pa la ca, .slice pk lk ck, .slice pc lc cc, .slice pq lq cq] 52)) (s + tot (L.gA k n) (es.take j))) := HO.out.to _ _ _ HNj.out (one _ _)
      have HOw : Hid (OwnR (wr.alloc (.cells #[.int .i64 kd, .int .i64 op, .slice pa la ca, .slice pk lk ck, .slice pc lc cc, .slice pq lq cq] 52)) wr.heap.size #[.int .i64 kd, .int .i64 op, .slice pa la ca, .slice pk lk ck, .slice pc lc cc, .slice pq lq cq]) := OwnR.new _ _
      generalize wr.alloc (.cells #[.int .i64 kd, .int .i64 op, .slice pa la ca, .slice pk lk ck, .slice pc lc cc, .slice pq lq cq] 52) = V at *
      have hnC : wr.heap.size ≠ L.C := by have := HO.out.lt _ _ HNj.out; omega
      refine (show_any L HO.out k n S V (HA.out.to HBa.out.size) _ t (HNv.out.to (HBa.out.keep HA.out) (fun _ h => h)) PL (HCl.out.to HBa.out).hL HCl.out.nL _ HNa.out (by have := HT1.out; have := HT2.out; have := HD.out; omega)).mono ?_
      rintro r w1 ⟨rfl, hn1, hb1⟩
      have HN1 : Hid (L.cnt w1 (s + tot (L.gA k n) (es.take j) + L.hA k n t)) := hn1
      have HB1 : Hid (But L.C wr w1) := HBa.out.trans hb1
      have HO1 : Hid (OwnR w1 wr.heap.size #[.int .i64 kd, .int .i64 op, .slice pa la ca, .slice pk lk ck, .slice pc lc cc, .slice pq lq cq]) := (hb1.block _ (Array.getElem?_eq_some_iff.1 HOw.out).1 hnC).trans HOw.out
      have HC1 : Hid (ClosA L w1 P5 P7 P4 PL) := HCl.out.to HB1.out
      have q0 : w1.cell? ⟨wr.heap.size, 0, none⟩ = some (.int .i64 kd) := cell_of_row _ _ 0 _ _ _ HO1.out
      have q1 : w1.cell? ⟨wr.heap.size, 1, none⟩ = some (.int .i64 op) := cell_of_row _ _ 1 _ _ _ HO1.out
      have q2 : w1.cell? ⟨wr.heap.size, 2, none⟩ = some (.slice pa la ca) := cell_of_row _ _ 2 _ _ _ HO1.out
      have q3 : w1.cell? ⟨wr.heap.size, 3, none⟩ = some (.slice pk lk ck) := cell_of_row _ _ 3 _ _ _ HO1.out
      have q4 : w1.cell? ⟨wr.heap.size, 4, none⟩ = some (.slice pc lc cc) := cell_of_row _ _ 4 _ _ _ HO1.out
      have q5 : w1.cell? ⟨wr.heap.size, 5, none⟩ = some (.slice pq lq cq) := cell_of_row _ _ 5 _ _ _ HO1.out
      have q7 := HC1.out.h7
      have q8 := HC1.out.h4
      clear hn1 hb1 c0 c1 c2 c3 c4 c5 g5 g5l HBa HNa HOw
      go_wp2
      go_region_held3 (fun W => W.cell? ⟨P7, 0, none⟩ = some (.func (.func 61) #[] #[.pointer (some ⟨P5, 0, none⟩), .pointer (some ⟨P7, 0, none⟩), .pointer (some ⟨P4, 0, none⟩)]) ∧ W.cell? ⟨P4, 0, none⟩ = some (.func (.func 41) #[] #[]) ∧ W.cell? ⟨wr.heap.size, 0, none⟩ = some (.int .i64 kd) ∧ W.cell? ⟨wr.heap.size, 1, none⟩ = some (.int .i64 op) ∧ W.cell? ⟨wr.heap.size, 2, none⟩ = some (.slice pa la ca) ∧ W.cell? ⟨wr.heap.size, 3, none⟩ = some (.slice pk lk ck) ∧ W.cell? ⟨wr.heap.size, 4, none⟩ = some (.slice pc lc cc) ∧ W.cell? ⟨wr.heap.size, 5, none⟩ = some (.slice pq lq cq)) (first | go_keep | assumption)
        (first
          | (go_at_call 41; refine (kidsA_any kd op pa la ca pk lk ck pc lc cc pq lq cq _).mono ?_; rintro e w2 ⟨rfl, hb2⟩; have HB2 : Hid (Below w1.heap.size w1 w2) := (Below.refl _ _).drew.trans hb2; have r0 := keep2 HB2.out q0; have r1 := keep2 HB2.out q1; have r2 := keep2 HB2.out q2; have r3 := keep2 HB2.out q3; have r4 := keep2 HB2.out q4; have r5 := keep2 HB2.out q5; have r7 := keep2 HB2.out q7; have r8 := keep2 HB2.out q8; clear hb2)
          | (go_at_call 61; refine (HI.out S w2 ((HA.out.to HB1.out.size).to HB2.out.size) kd op pa la ca pk lk ck pc lc cc pq lq cq t (HNv.out.to ((HB1.out.trans (But.of HB2.out)).keep HA.out) (fun _ h => h)) P5 P7 P4 PL (HC1.out.to (But.of HB2.out)) (s + tot (L.gA k n) (es.take j) + L.hA k n t) (HO.out.to _ _ _ HN1.out HB2.out) ?_).mono ?_; (have := HT1.out; have := HT2.out; have := HD.out; omega); rintro e w3 ⟨rfl, hn3, hb3⟩; have HN3 : Hid (L.cnt w3 (s + tot (L.gA k n) (es.take j) + L.hA k n t + L.gQ k n t)) := hn3; have HB3 : Hid (But L.C w w3) := (HB.out.trans HB1.out).trans ((But.of HB2.out).trans hb3); have u0 := hb3.cell hnC r0; have u1 := hb3.cell hnC r1; have u2 := hb3.cell hnC r2; have u3 := hb3.cell hnC r3; have u4 := hb3.cell hnC r4; have u5 := hb3.cell hnC r5; have u7 := hb3.cell HC1.out.n7 r7; have u8 := hb3.cell HC1.out.n4 r8; clear hn3 hb3))
      all_goals (try go_wp2)
      all_goals exact ⟨⟨j + 1, by omega, by go_num, (by have h := HN3.out; have e : s + tot (L.gA k n) (es.take (j + 1)) = s + tot (L.gA k n) (es.take j) + L.hA k n t + L.gQ k n t := by { have := HT1.out; omega }; show L.cnt w3 _; rw [e]; exact h), HB3⟩, by simp [intOf]; omega⟩
    · obtain rfl : j = es.length := by omega
      have HNe : Hid (L.cnt wr (s + tot (L.gA k n) es)) := by
        have := HNj.out
        rw [List.take_length] at this
        exact this
      go_wp2
      go_ret
      exact ⟨rfl, HNe.out, HB.out⟩
theorem walkA_any (L : Lk) (ok : L.Ok) (k : Nat) : ∀ n, WalkA L k n
  | 0 => walkA_of L ok k 0 (fun _ _ _ _ _ _ _ _ _ _ _ _ _ _ _ _ _ _ h => h.elim)
  | n + 1 => walkA_of L ok k (n + 1) (kidsA_of L k n (walkA_any L ok k n))

set_option maxHeartbeats 1000000 in
set_option maxRecDepth 100000 in
theorem treeWalkA_any (L : Lk) (ok : L.Ok) (k n : Nat) (S : Nat → Prop) (w : World) (hS : Apart L.C S w) (p : Option Addr) (cap : Nat) (es : List (AT k n)) (hV : SlOf S (AmE S w k n) 6 p cap es) (PL : Nat) (hPL : w.cell? ⟨PL, 0, none⟩ = some L.val) (hPC : PL ≠ L.C) (s : Nat) (hs : L.cnt w s) (hbd : s + tot (L.gA k n) es ≤ 9223372036854775807) :
    Calls Tryz.prog 40 #[.slice p es.length cap, .func (.func 41) #[] #[], .func (.func 37) #[] #[.pointer (some ⟨PL, 0, none⟩)]] w fun r w' => r = .returned .nilIface ∧ L.cnt w' (s + tot (L.gA k n) es) ∧ But L.C w w' := by
  have hlt := ok.lt _ _ hs
  have HC : Hid (∀ W, Below w.heap.size w W → ∀ P5 P7 P4, ClosA L W P5 P7 P4 PL → Calls Tryz.prog 61 #[.slice p es.length cap, .pointer (some ⟨P5, 0, none⟩), .pointer (some ⟨P7, 0, none⟩), .pointer (some ⟨P4, 0, none⟩)] W fun r w' => r = .returned .nilIface ∧ L.cnt w' (s + tot (L.gA k n) es) ∧ But L.C W w') :=
    fun W hW P5 P7 P4 hc => walkA_any L ok k n S W (hS.to hW.size) p cap es (arms_to (Keep.of hW (fun b hb => (hS b hb).1)) (fun _ h => h) hV) P5 P7 P4 PL hc s (ok.to _ _ _ hs hW) hbd
  have HPL : Hid (w.cell? ⟨PL, 0, none⟩ = some L.val) := hPL
  have hmf' := hmf
  clear hS hV hs hbd ok hPL
  go_enter Tryz.func40, Tryz.ntmps40
  go_wp2_with fail
  refine (HC.out _ (two' _ _ _ |>.alloc (by simp; omega) _) (w.heap.size + 1) (w.heap.size + 1 + 1) w.heap.size ⟨?_, ?_, ?_, ?_, by omega, by omega, by omega, hPC⟩).mono ?_
  · exact cell_of_row _ _ 0 _ _ _ (h3b w _ _ _)
  · exact cell_of_row _ _ 0 _ _ _ (h3c w _ _ _)
  · exact cell_of_row _ _ 0 _ _ _ (h3a w _ _ _)
  · exact keep2 ((two' _ _ _).alloc (by simp; omega) _) HPL.out
  rintro r w1 ⟨rfl, h1, hb1⟩
  have H1 : Hid (L.cnt w1 (s + tot (L.gA k n) es)) := h1
  have HB1 : Hid (But L.C w w1) := (But.of ((two' _ _ _).alloc (by simp; omega) _)).trans hb1
  clear h1 hb1
  go_wp2
  go_ret
  exact ⟨rfl, H1.out, HB1.out⟩

set_option maxHeartbeats 1000000 in
set_option maxRecDepth 100000 in
theorem treeArms_any (L : Lk) (ok : L.Ok) (k n : Nat) (S : Nat → Prop) (w : World) (hS : Apart L.C S w) (p : Option Addr) (cap : Nat) (es : List (AT k n)) (hV : SlOf S (AmE S w k n) 6 p cap es) (s : Nat) (hs : L.cnt w s) (hbd : s + tot (L.gA k n) es ≤ 9223372036854775807) :
    Calls Tryz.prog 22 #[.slice p es.length cap, L.val] w fun r w' => r = .returned .nilIface ∧ L.cnt w' (s + tot (L.gA k n) es) ∧ But L.C w w' := by
  have hlt := ok.lt _ _ hs
  have HC : Hid (∀ W PL, Below w.heap.size w W → W.cell? ⟨PL, 0, none⟩ = some L.val → PL ≠ L.C → Calls Tryz.prog 40 #[.slice p es.length cap, .func (.func 41) #[] #[], .func (.func 37) #[] #[.pointer (some ⟨PL, 0, none⟩)]] W fun r w' => r = .returned .nilIface ∧ L.cnt w' (s + tot (L.gA k n) es) ∧ But L.C W w') :=
    fun W PL hW hPL hPC => treeWalkA_any L ok k n S W (hS.to hW.size) p cap es (arms_to (Keep.of hW (fun b hb => (hS b hb).1)) (fun _ h => h) hV) PL hPL hPC s (ok.to _ _ _ hs hW) hbd
  have hmf' := hmf
  clear hS hV hs hbd ok
  obtain ⟨TL, hTL⟩ : ∃ TL, TL = L.T := ⟨_, rfl⟩
  obtain ⟨C, hCC⟩ : ∃ C, C = L.C := ⟨_, rfl⟩
  rw [show L.val = .iface TL (.pointer (some ⟨C, 0, none⟩)) by rw [hTL, hCC]; rfl] at HC ⊢
  clear hTL hCC
  go_enter Tryz.func22, Tryz.ntmps22
  go_wp2_with fail
  refine (HC.out _ w.heap.size (one _ _) ?_ (by omega)).mono ?_
  · rw [World.cell?_alloc_mark]; rfl
  rintro r w1 ⟨rfl, h1, hb1⟩
  have H1 : Hid (L.cnt w1 (s + tot (L.gA k n) es)) := h1
  have HB1 : Hid (But L.C w w1) := (But.of (one _ _)).trans hb1
  clear h1 hb1
  go_wp2
  go_ret
  exact ⟨rfl, H1.out, HB1.out⟩
end Go.Proofs.YtjkpingdokkkcaaGreatDoor.Tr

/- What is shown of a ladder to a look that may stop: the walk over arms. Helper text: no statement is claimed here. -/
namespace Go.Proofs.YtjkpingdokkkcaaGreatDoor.Tr
open Go.ChangeShapes Go.WideShapes Go.ChangeAt Go.RowKit
attribute [local go_sem] store_func

/-- The cells that the walk over arms has captured, and the one that its show has. -/
structure SlosA (L : Sk) (w : World) (P5 P7 P4 PL : Nat) : Prop where
  h5 : w.cell? ⟨P5, 0, none⟩ = some (.func (.func 37) #[] #[.pointer (some ⟨PL, 0, none⟩)])
  h7 : w.cell? ⟨P7, 0, none⟩ = some (.func (.func 61) #[] #[.pointer (some ⟨P5, 0, none⟩), .pointer (some ⟨P7, 0, none⟩), .pointer (some ⟨P4, 0, none⟩)])
  h4 : w.cell? ⟨P4, 0, none⟩ = some (.func (.func 41) #[] #[])
  hL : w.cell? ⟨PL, 0, none⟩ = some L.val
  n5 : P5 ≠ L.C
  n7 : P7 ≠ L.C
  n4 : P4 ≠ L.C
  nL : PL ≠ L.C
theorem SlosA.to {L : Sk} {w w' : World} {P5 P7 P4 PL : Nat} (h : SlosA L w P5 P7 P4 PL) (hb : But L.C w w') : SlosA L w' P5 P7 P4 PL :=
  ⟨hb.cell h.n5 h.h5, hb.cell h.n7 h.h7, hb.cell h.n4 h.h4, hb.cell h.nL h.hL, h.n5, h.n7, h.n4, h.nL⟩
def SkQ (L : Sk) (k n : Nat) : Prop := ∀ (S : Nat → Prop) (w : World) (_ : Apart L.C S w) (kd op : Int) (pa : Option Addr) (la ca : Nat) (pk : Option Addr) (lk ck : Nat) (pc : Option Addr) (lc cc : Nat) (pq : Option Addr) (lq cq : Nat) (t : AT k n) (_ : AmV S w k n (.agg #[.int .i64 kd, .int .i64 op, .slice pa la ca, .slice pk lk ck, .slice pc lc cc, .slice pq lq cq]) t) (_ : zA k n t ≤ 1048575)
    (P5 P7 P4 PL : Nat) (_ : SlosA L w P5 P7 P4 PL) (s : Nat) (_ : L.cnt w s),
    Calls Tryz.prog 61 #[.slice pq lq cq, .pointer (some ⟨P5, 0, none⟩), .pointer (some ⟨P7, 0, none⟩), .pointer (some ⟨P4, 0, none⟩)] w fun r w' => r = .returned (errV (L.rQ k n t s).2) ∧ ((L.rQ k n t s).2 = none → L.cnt w' (L.rQ k n t s).1) ∧ But L.C w w'
def SkA (L : Sk) (k n : Nat) : Prop := ∀ (S : Nat → Prop) (w : World) (_ : Apart L.C S w) (p : Option Addr) (cap : Nat) (es : List (AT k n)) (_ : SlOf S (AmE S w k n) 6 p cap es) (_ : zAs k n es ≤ 1048576)
    (P5 P7 P4 PL : Nat) (_ : SlosA L w P5 P7 P4 PL) (s : Nat) (_ : L.cnt w s),
    Calls Tryz.prog 61 #[.slice p es.length cap, .pointer (some ⟨P5, 0, none⟩), .pointer (some ⟨P7, 0, none⟩), .pointer (some ⟨P4, 0, none⟩)] w fun r w' => r = .returned (errV (runL (L.rA k n) es s).2) ∧ ((runL (L.rA k n) es s).2 = none → L.cnt w' (runL (L.rA k n) es s).1) ∧ But L.C w w'
theorem skQ_of (L : Sk) (k n : Nat) (h : SkA L k n) : SkQ L k (n + 1) := by
  intro S w hS kd op pa la ca pk lk ck pc lc cc pq lq cq t hV hz P5 P7 P4 PL hC s hs
  obtain ⟨kd', op', pa', la', ca', pk', lk', ck', pc', cc', pq', cq', he, _, _, h5⟩ := hV
  simp only [Value.agg.injEq, Array.mk.injEq, List.cons.injEq, Value.int.injEq, Value.slice.injEq, true_and, and_true] at he
  obtain ⟨rfl, rfl, ⟨rfl, rfl, rfl⟩, ⟨rfl, rfl, rfl⟩, ⟨rfl, rfl, rfl⟩, rfl, rfl, rfl⟩ := he
  exact h S w hS pq cq t.kids h5 (by have := zA_succ k n t; omega) P5 P7 P4 PL hC s hs
theorem zA_in {k n : Nat} {es : List (AT k n)} {j : Nat} {t : AT k n} (h : es[j]? = some t) : zA k n t + 1 ≤ zAs k n es := by
  have := tot_get (zA k n) h
  have := (List.getElem?_eq_some_iff.1 h).1
  unfold zAs; omega

set_option maxHeartbeats 4000000 in
set_option maxRecDepth 100000 in
theorem skA_of (L : Sk) (ok : L.Ok) (k n : Nat) (IH : SkQ L k n) : SkA L k n := by
  intro S w hS p cap es hV hz P5 P7 P4 PL hC s hs
  have HS : Hid (Apart L.C S w) := hS
  have HV : Hid (SlOf S (AmE S w k n) 6 p cap es) := hV
  have HC : Hid (SlosA L w P5 P7 P4 PL) := hC
  have HN : Hid (L.cnt w s) := hs
  have HI : Hid (SkQ L k n) := IH
  have HO : Hid L.Ok := ok
  have HZ : Hid (zAs k n es ≤ 1048576) := hz
  obtain ⟨⟨hl1, hl2⟩, -⟩ := hV
  have hne := neq_err
  have hnn := neq_non
  clear hS hC hs IH ok hz
  generalize hR : runL (L.rA k n) es s = R
  have HR : Hid (runL (L.rA k n) es s = R) := hR
  clear hR
  go_enter Tryz.func61, Tryz.ntmps61
  go_wp2
  go_loopw [12] (fun d w' => ∃ (j sj : Nat), j ≤ es.length ∧ d = .int .i64 (j : Int) ∧ Hid (L.cnt w' sj) ∧ Hid (runL (L.rA k n) (es.drop j) sj = R) ∧ Hid (But L.C w w')) (fun d _ => es.length - (intOf d).toNat)
  case atStart => exact ⟨0, s, by omega, rfl, HN, HR, But.refl _ _⟩
  case round =>
    obtain ⟨j, sj, hj, rfl, HNj, HRj, HB⟩ := hrel
    rename_i wr
    by_cases hlt : j < es.length
    · have hlt' : (j : Int) < (es.length : Int) := by omega
      obtain ⟨t, ht⟩ := get_lt hlt
      have HT : Hid (es[j]? = some t) := ht
      have HZt : Hid (zA k n t ≤ 1048575) := by
        show _ ≤ _
        have := zA_in ht
        have := HZ.out
        omega
      have hAr : Apart L.C S wr := HS.out.to HB.out.size
      obtain ⟨b, off, rfl, hb, hE⟩ := (arms_to (HB.out.keep HS.out) (fun _ h => h) HV.out).get ht
      obtain ⟨kd, op, pa, la, ca, pk, lk, ck, pc, lc, cc, pq, lq, cq, c0, c1, c2, c3, c4, c5, hNv⟩ := hE.out
      have hbl : b < wr.heap.size := World.block_lt_of_cell? _ _ c0
      have HCl : Hid (SlosA L wr P5 P7 P4 PL) := HC.out.to HB.out
      have g5 := HCl.out.h5
      have g5l : P5 < wr.heap.size := World.block_lt_of_cell? _ _ g5
      have HA : Hid (Apart L.C S wr) := hAr
      have HNv : Hid (AmV S wr k n (.agg #[.int .i64 kd, .int .i64 op, .slice pa la ca, .slice pk lk ck, .slice pc lc cc, .slice pq lq cq]) t) := hNv
      clear hE hNv hAr ht
      go_wp2_with fail
      have HBa : Hid (But L.C wr (wr.alloc (.cells #[.int .i64 kd, .int .i64 op, .slice pa la ca, .slice pk lk ck, .slice pc lc cc, .slice pq lq cq] 52))) := But.of (one _ _)
      have HNa : Hid (L.cnt (wr.alloc (.cells #[.int .i64 kd, .int .i64 op, .slice pa la ca, .slice pk lk ck, .slice pc lc cc, .slice pq lq cq] 52)) sj) := HO.out.to _ _ _ HNj.out (one _ _)
      have HOw : Hid (OwnR (wr.alloc (.cells #[.int .i64 kd, .int .i64 op, .slice pa la ca, .slice pk lk ck, .slice pc lc cc, .slice pq lq cq] 52)) wr.heap.size #[.int .i64 kd, .int .i64 op, .slice pa la ca, .slice pk lk ck, .slice pc lc cc, .slice pq lq cq]) := OwnR.new _ _
      generalize wr.alloc (.cells #[.int .i64 kd, .int .i64 op, .slice pa la ca, .slice pk lk ck, .slice pc lc cc, .slice pq lq cq] 52) = V at *
      have hnC : wr.heap.size ≠ L.C := by have := HO.out.lt _ _ HNj.out; omega
      refine (skShow_any L HO.out k n S V (HA.out.to HBa.out.size) _ t (HNv.out.to (HBa.out.keep HA.out) (fun _ h => h)) HZt.out PL (HCl.out.to HBa.out).hL HCl.out.nL _ HNa.out).mono ?_
      rintro r w1 ⟨rfl, hn1, hb1⟩
      have HB1 : Hid (But L.C wr w1) := HBa.out.trans hb1
      have HO1 : Hid (OwnR w1 wr.heap.size #[.int .i64 kd, .int .i64 op, .slice pa la ca, .slice pk lk ck, .slice pc lc cc, .slice pq lq cq]) := (hb1.block _ (Array.getElem?_eq_some_iff.1 HOw.out).1 hnC).trans HOw.out
      cases hg : (L.hA k n t sj).2 with
      | some c =>
        have HRe : Hid (R.2 = some c) := by
          show R.2 = _
          rw [← HRj.out, runL_stop HT.out (by rw [L.rA_stop k n t sj (by rw [hg]; simp), hg]; simp), L.rA_stop k n t sj (by rw [hg]; simp), hg]
        rw [errV_some]
        clear hn1 hb1 c0 c1 c2 c3 c4 c5 g5 g5l HBa HNa HOw hg
        go_wp2
        go_ret
        rw [HRe.out]
        exact ⟨rfl, fun h => (by cases h), HB.out.trans HB1.out⟩
      | none =>
        have HN1 : Hid (L.cnt w1 (L.hA k n t sj).1) := hn1 hg
        have HRN : Hid (L.rA k n t sj = L.rQ k n t (L.hA k n t sj).1) := L.rA_go k n t sj hg
        have HC1 : Hid (SlosA L w1 P5 P7 P4 PL) := HCl.out.to HB1.out
        have q0 : w1.cell? ⟨wr.heap.size, 0, none⟩ = some (.int .i64 kd) := cell_of_row _ _ 0 _ _ _ HO1.out
        have q1 : w1.cell? ⟨wr.heap.size, 1, none⟩ = some (.int .i64 op) := cell_of_row _ _ 1 _ _ _ HO1.out
        have q2 : w1.cell? ⟨wr.heap.size, 2, none⟩ = some (.slice pa la ca) := cell_of_row _ _ 2 _ _ _ HO1.out
        have q3 : w1.cell? ⟨wr.heap.size, 3, none⟩ = some (.slice pk lk ck) := cell_of_row _ _ 3 _ _ _ HO1.out
        have q4 : w1.cell? ⟨wr.heap.size, 4, none⟩ = some (.slice pc lc cc) := cell_of_row _ _ 4 _ _ _ HO1.out
        have q5 : w1.cell? ⟨wr.heap.size, 5, none⟩ = some (.slice pq lq cq) := cell_of_row _ _ 5 _ _ _ HO1.out
        have q7 := HC1.out.h7
        have q8 := HC1.out.h4
        rw [errV_none]
        clear hn1 hb1 c0 c1 c2 c3 c4 c5 g5 g5l HBa HNa HOw hg
        generalize (L.hA k n t sj).1 = s1 at *
        cases hk : (L.rQ k n t s1).2 with
        | some c =>
          have HK : Hid (∀ S' W, Apart L.C S' W → AmV S' W k n (.agg #[.int .i64 kd, .int .i64 op, .slice pa la ca, .slice pk lk ck, .slice pc lc cc, .slice pq lq cq]) t → SlosA L W P5 P7 P4 PL → L.cnt W s1 → Calls Tryz.prog 61 #[.slice pq lq cq, .pointer (some ⟨P5, 0, none⟩), .pointer (some ⟨P7, 0, none⟩), .pointer (some ⟨P4, 0, none⟩)] W fun r w' => r = .returned (.iface 65 (.agg #[.int .i64 c])) ∧ True ∧ But L.C W w') := fun S' W h1 h2 h3 h4 => by
            have := HI.out S' W h1 kd op pa la ca pk lk ck pc lc cc pq lq cq t h2 HZt.out P5 P7 P4 PL h3 s1 h4
            rw [hk] at this
            refine this.mono ?_
            rintro r w' ⟨h5, h6, h7⟩
            exact ⟨h5, trivial, h7⟩
          have HRe : Hid (R.2 = some c) := by
            show R.2 = _
            rw [← HRj.out, runL_stop HT.out (by rw [HRN.out, hk]; simp), HRN.out, hk]
          clear hk HI
          go_wp2
          go_region_held3 (fun W => W.cell? ⟨P7, 0, none⟩ = some (.func (.func 61) #[] #[.pointer (some ⟨P5, 0, none⟩), .pointer (some ⟨P7, 0, none⟩), .pointer (some ⟨P4, 0, none⟩)]) ∧ W.cell? ⟨P4, 0, none⟩ = some (.func (.func 41) #[] #[]) ∧ W.cell? ⟨wr.heap.size, 0, none⟩ = some (.int .i64 kd) ∧ W.cell? ⟨wr.heap.size, 1, none⟩ = some (.int .i64 op) ∧ W.cell? ⟨wr.heap.size, 2, none⟩ = some (.slice pa la ca) ∧ W.cell? ⟨wr.heap.size, 3, none⟩ = some (.slice pk lk ck) ∧ W.cell? ⟨wr.heap.size, 4, none⟩ = some (.slice pc lc cc) ∧ W.cell? ⟨wr.heap.size, 5, none⟩ = some (.slice pq lq cq)) (first | go_keep | assumption)
            (first
              | (go_at_call 41; refine (kidsA_any kd op pa la ca pk lk ck pc lc cc pq lq cq _).mono ?_; rintro e w2 ⟨rfl, hb2⟩; have HB2 : Hid (Below w1.heap.size w1 w2) := (Below.refl _ _).drew.trans hb2; have r0 := keep2 HB2.out q0; have r1 := keep2 HB2.out q1; have r2 := keep2 HB2.out q2; have r3 := keep2 HB2.out q3; have r4 := keep2 HB2.out q4; have r5 := keep2 HB2.out q5; have r7 := keep2 HB2.out q7; have r8 := keep2 HB2.out q8; clear hb2)
              | (go_at_call 61; refine (HK.out S w2 ((HA.out.to HB1.out.size).to HB2.out.size) (HNv.out.to ((HB1.out.trans (But.of HB2.out)).keep HA.out) (fun _ h => h)) (HC1.out.to (But.of HB2.out)) (HO.out.to _ _ _ HN1.out HB2.out)).mono ?_; rintro e w3 ⟨rfl, hn3, hb3⟩; have HB3 : Hid (But L.C w w3) := (HB.out.trans HB1.out).trans ((But.of HB2.out).trans hb3); have u0 := hb3.cell hnC r0; have u1 := hb3.cell hnC r1; have u2 := hb3.cell hnC r2; have u3 := hb3.cell hnC r3; have u4 := hb3.cell hnC r4; have u5 := hb3.cell hnC r5; have u7 := hb3.cell HC1.out.n7 r7; have u8 := hb3.cell HC1.out.n4 r8; clear hn3 hb3))
          all_goals (try go_wp2)
          all_goals go_ret
          all_goals rw [HRe.out]
          all_goals exact ⟨rfl, fun h => (by cases h), HB3.out⟩
        | none =>
          have HK : Hid (∀ S' W, Apart L.C S' W → AmV S' W k n (.agg #[.int .i64 kd, .int .i64 op, .slice pa la ca, .slice pk lk ck, .slice pc lc cc, .slice pq lq cq]) t → SlosA L W P5 P7 P4 PL → L.cnt W s1 → Calls Tryz.prog 61 #[.slice pq lq cq, .pointer (some ⟨P5, 0, none⟩), .pointer (some ⟨P7, 0, none⟩), .pointer (some ⟨P4, 0, none⟩)] W fun r w' => r = .returned .nilIface ∧ L.cnt w' (L.rQ k n t s1).1 ∧ But L.C W w') := fun S' W h1 h2 h3 h4 => by
            have := HI.out S' W h1 kd op pa la ca pk lk ck pc lc cc pq lq cq t h2 HZt.out P5 P7 P4 PL h3 s1 h4
            rw [hk] at this
            refine this.mono ?_
            rintro r w' ⟨h5, h6, h7⟩
            exact ⟨h5, h6 rfl, h7⟩
          have HRe : Hid (runL (L.rA k n) (es.drop (j + 1)) (L.rQ k n t s1).1 = R) := by
            show _ = R
            rw [← HRj.out, runL_go HT.out (by rw [HRN.out, hk]), HRN.out]
          clear hk HI
          generalize (L.rQ k n t s1).1 = s2 at *
          go_wp2
          go_region_held3 (fun W => W.cell? ⟨P7, 0, none⟩ = some (.func (.func 61) #[] #[.pointer (some ⟨P5, 0, none⟩), .pointer (some ⟨P7, 0, none⟩), .pointer (some ⟨P4, 0, none⟩)]) ∧ W.cell? ⟨P4, 0, none⟩ = some (.func (.func 41) #[] #[]) ∧ W.cell? ⟨wr.heap.size, 0, none⟩ = some (.int .i64 kd) ∧ W.cell? ⟨wr.heap.size, 1, none⟩ = some (.int .i64 op) ∧ W.cell? ⟨wr.heap.size, 2, none⟩ = some (.slice pa la ca) ∧ W.cell? ⟨wr.heap.size, 3, none⟩ = some (.slice pk lk ck) ∧ W.cell? ⟨wr.heap.size, 4, none⟩ = some (.slice pc lc cc) ∧ W.cell? ⟨wr.heap.size, 5, none⟩ = some (.slice pq lq cq)) (first | go_keep | assumption)
            (first
              | (go_at_call 41; refine (kidsA_any kd op pa la ca pk lk ck pc lc cc pq lq cq _).mono ?_; rintro e w2 ⟨rfl, hb2⟩; have HB2 : Hid (Below w1.heap.size w1 w2) := (Below.refl _ _).drew.trans hb2; have r0 := keep2 HB2.out q0; have r1 := keep2 HB2.out q1; have r2 := keep2 HB2.out q2; have r3 := keep2 HB2.out q3; have r4 := keep2 HB2.out q4; have r5 := keep2 HB2.out q5; have r7 := keep2 HB2.out q7; have r8 := keep2 HB2.out q8; clear hb2)
              | (go_at_call 61; refine (HK.out S w2 ((HA.out.to HB1.out.size).to HB2.out.size) (HNv.out.to ((HB1.out.trans (But.of HB2.out)).keep HA.out) (fun _ h => h)) (HC1.out.to (But.of HB2.out)) (HO.out.to _ _ _ HN1.out HB2.out)).mono ?_; rintro e w3 ⟨rfl, hn3, hb3⟩; have HN3 : Hid (L.cnt w3 s2) := hn3; have HB3 : Hid (But L.C w w3) := (HB.out.trans HB1.out).trans ((But.of HB2.out).trans hb3); have u0 := hb3.cell hnC r0; have u1 := hb3.cell hnC r1; have u2 := hb3.cell hnC r2; have u3 := hb3.cell hnC r3; have u4 := hb3.cell hnC r4; have u5 := hb3.cell hnC r5; have u7 := hb3.cell HC1.out.n7 r7; have u8 := hb3.cell HC1.out.n4 r8; clear hn3 hb3))
          all_goals (try go_wp2)
          all_goals exact ⟨⟨j + 1, s2, by omega, by go_num, HN3, HRe, HB3⟩, by simp [intOf]; omega⟩
    · obtain rfl : j = es.length := by omega
      have HRe : Hid (R = (sj, none)) := by
        have := HRj.out
        rw [List.drop_length] at this
        exact this.symm
      go_wp2
      go_ret
      rw [HRe.out]
      exact ⟨rfl, fun _ => HNj.out, HB.out⟩
theorem skA_any (L : Sk) (ok : L.Ok) (k : Nat) : ∀ n, SkA L k n
  | 0 => skA_of L ok k 0 (fun _ _ _ _ _ _ _ _ _ _ _ _ _ _ _ _ _ _ h => h.elim)
  | n + 1 => skA_of L ok k (n + 1) (skQ_of L k n (skA_any L ok k n))

set_option maxHeartbeats 1000000 in
set_option maxRecDepth 100000 in
theorem skWalkA_any (L : Sk) (ok : L.Ok) (k n : Nat) (S : Nat → Prop) (w : World) (hS : Apart L.C S w) (p : Option Addr) (cap : Nat) (es : List (AT k n)) (hV : SlOf S (AmE S w k n) 6 p cap es) (hz : zAs k n es ≤ 1048576) (PL : Nat) (hPL : w.cell? ⟨PL, 0, none⟩ = some L.val) (hPC : PL ≠ L.C) (s : Nat) (hs : L.cnt w s) :
    Calls Tryz.prog 40 #[.slice p es.length cap, .func (.func 41) #[] #[], .func (.func 37) #[] #[.pointer (some ⟨PL, 0, none⟩)]] w fun r w' => r = .returned (errV (runL (L.rA k n) es s).2) ∧ ((runL (L.rA k n) es s).2 = none → L.cnt w' (runL (L.rA k n) es s).1) ∧ But L.C w w' := by
  have hlt := ok.lt _ _ hs
  have HC : Hid (∀ W, Below w.heap.size w W → ∀ P5 P7 P4, SlosA L W P5 P7 P4 PL → Calls Tryz.prog 61 #[.slice p es.length cap, .pointer (some ⟨P5, 0, none⟩), .pointer (some ⟨P7, 0, none⟩), .pointer (some ⟨P4, 0, none⟩)] W fun r w' => r = .returned (errV (runL (L.rA k n) es s).2) ∧ ((runL (L.rA k n) es s).2 = none → L.cnt w' (runL (L.rA k n) es s).1) ∧ But L.C W w') :=
    fun W hW P5 P7 P4 hc => skA_any L ok k n S W (hS.to hW.size) p cap es (arms_to (Keep.of hW (fun b hb => (hS b hb).1)) (fun _ h => h) hV) hz P5 P7 P4 PL hc s (ok.to _ _ _ hs hW)
  have HPL : Hid (w.cell? ⟨PL, 0, none⟩ = some L.val) := hPL
  have hmf' := hmf
  clear hS hV hs hz ok hPL
  generalize (runL (L.rA k n) es s) = R at *
  go_enter Tryz.func40, Tryz.ntmps40
  go_wp2_with fail
  refine (HC.out _ (two' _ _ _ |>.alloc (by simp; omega) _) (w.heap.size + 1) (w.heap.size + 1 + 1) w.heap.size ⟨?_, ?_, ?_, ?_, by omega, by omega, by omega, hPC⟩).mono ?_
  · exact cell_of_row _ _ 0 _ _ _ (h3b w _ _ _)
  · exact cell_of_row _ _ 0 _ _ _ (h3c w _ _ _)
  · exact cell_of_row _ _ 0 _ _ _ (h3a w _ _ _)
  · exact keep2 ((two' _ _ _).alloc (by simp; omega) _) HPL.out
  rintro r w1 ⟨rfl, h1, hb1⟩
  have H1 : Hid (R.2 = none → L.cnt w1 R.1) := h1
  have HB1 : Hid (But L.C w w1) := (But.of ((two' _ _ _).alloc (by simp; omega) _)).trans hb1
  clear h1 hb1
  go_wp2
  go_ret
  exact ⟨rfl, H1.out, HB1.out⟩

set_option maxHeartbeats 1000000 in
set_option maxRecDepth 100000 in
theorem skArms_any (L : Sk) (ok : L.Ok) (k n : Nat) (S : Nat → Prop) (w : World) (hS : Apart L.C S w) (p : Option Addr) (cap : Nat) (es : List (AT k n)) (hV : SlOf S (AmE S w k n) 6 p cap es) (hz : zAs k n es ≤ 1048576) (s : Nat) (hs : L.cnt w s) :
    Calls Tryz.prog 22 #[.slice p es.length cap, L.val] w fun r w' => r = .returned (errV (runL (L.rA k n) es s).2) ∧ ((runL (L.rA k n) es s).2 = none → L.cnt w' (runL (L.rA k n) es s).1) ∧ But L.C w w' := by
  have hlt := ok.lt _ _ hs
  have HC : Hid (∀ W PL, Below w.heap.size w W → W.cell? ⟨PL, 0, none⟩ = some L.val → PL ≠ L.C → Calls Tryz.prog 40 #[.slice p es.length cap, .func (.func 41) #[] #[], .func (.func 37) #[] #[.pointer (some ⟨PL, 0, none⟩)]] W fun r w' => r = .returned (errV (runL (L.rA k n) es s).2) ∧ ((runL (L.rA k n) es s).2 = none → L.cnt w' (runL (L.rA k n) es s).1) ∧ But L.C W w') :=
    fun W PL hW hPL hPC => skWalkA_any L ok k n S W (hS.to hW.size) p cap es (arms_to (Keep.of hW (fun b hb => (hS b hb).1)) (fun _ h => h) hV) hz PL hPL hPC s (ok.to _ _ _ hs hW)
  have hmf' := hmf
  clear hS hV hs hz ok
  obtain ⟨TL, hTL⟩ : ∃ TL, TL = L.T := ⟨_, rfl⟩
  obtain ⟨dv, hdv⟩ : ∃ dv, dv = L.dv := ⟨_, rfl⟩
  rw [show L.val = .iface TL dv by rw [hTL, hdv]; rfl] at HC ⊢
  clear hTL hdv
  generalize (runL (L.rA k n) es s) = R at *
  go_enter Tryz.func22, Tryz.ntmps22
  go_wp2_with fail
  refine (HC.out _ w.heap.size (one _ _) ?_ (by omega)).mono ?_
  · rw [World.cell?_alloc_mark]; rfl
  rintro r w1 ⟨rfl, h1, hb1⟩
  have H1 : Hid (R.2 = none → L.cnt w1 R.1) := h1
  have HB1 : Hid (But L.C w w1) := (But.of (one _ _)).trans hb1
  clear h1 hb1
  go_wp2
  go_ret
  exact ⟨rfl, H1.out, HB1.out⟩
end Go.Proofs.YtjkpingdokkkcaaGreatDoor.Tr

/- The counting of parts up to 400: treeCount as a look that may stop. Helper text: no statement is claimed here. -/
namespace Go.Proofs.YtjkpingdokkkcaaGreatDoor.Tr
open Go.ChangeShapes Go.WideShapes Go.ChangeAt Go.RowKit

/-- The count of at most 400. -/
def CntM (C : Nat) (w : World) (s : Nat) : Prop := w.heap[C]? = some (.cells #[.int .i64 (s : Int), .int .i64 400] 59 (0, 0)) ∧ s ≤ 400
theorem CntM.lt {C : Nat} {w : World} {s : Nat} (h : CntM C w s) : C < w.heap.size := (Array.getElem?_eq_some_iff.1 h.1).1
theorem CntM.to {C : Nat} {w w' : World} {s : Nat} (h : CntM C w s) (hb : Below w.heap.size w w') : CntM C w' s := ⟨(hb.block C h.lt).trans h.1, h.2⟩
/-- Some parts more: a count, or too many. -/
def addM (d s : Nat) : Nat × Option Int := (s + d, if s + d ≤ 400 then none else some 1)
set_option maxHeartbeats 1000000 in
theorem addM_any (C s d : Nat) (w : World) (h : CntM C w s) (hbd : d ≤ 9000000) :
    Calls Tryz.prog 87 #[.pointer (some ⟨C, 0, none⟩), .int .i64 (d : Int)] w fun r w' => r = .returned (errV (addM d s).2) ∧ ((addM d s).2 = none → CntM C w' (addM d s).1) ∧ But C w w' := by
  obtain ⟨h, h400⟩ := h
  have c0 : w.cell? ⟨C, 0, none⟩ = some (.int .i64 (s : Int)) := cell_of_row _ _ 0 _ _ _ h
  have c1 : w.cell? ⟨C, 1, none⟩ = some (.int .i64 400) := cell_of_row _ _ 1 _ _ _ h
  have f0 := frozen_of_row _ _ 0 _ _ h
  have H2 : Hid ((w.setCell ⟨C, 0, none⟩ (.int .i64 ((s : Int) + (d : Int)))).heap[C]? = some (.cells #[.int .i64 ((s + d : Nat) : Int), .int .i64 400] 59 (0, 0))) := by
    have := heap_setCell_same w C 0 _ 59 (.int .i64 ((s : Int) + (d : Int))) h
    show _ = _
    simpa using this
  have HB : Hid (But C w (w.setCell ⟨C, 0, none⟩ (.int .i64 ((s : Int) + (d : Int))))) := (But.refl C w).set
  have d0 : (w.setCell ⟨C, 0, none⟩ (.int .i64 ((s : Int) + (d : Int)))).cell? ⟨C, 0, none⟩ = some (.int .i64 ((s : Int) + (d : Int))) := World.cell?_setCell_same _ _ _ c0
  have d1 : (w.setCell ⟨C, 0, none⟩ (.int .i64 ((s : Int) + (d : Int)))).cell? ⟨C, 1, none⟩ = some (.int .i64 400) := (World.cell?_setCell_other _ _ _ _ (by simp)).trans c1
  clear h
  by_cases hle : s + d ≤ 400
  · have hle' : ¬ (400 : Int) < (s : Int) + (d : Int) := by omega
    have e : addM d s = (s + d, none) := by simp [addM, hle]
    rw [e]
    clear e
    go_enter Tryz.func87, Tryz.ntmps87
    go_wp2
    generalize w.setCell ⟨C, 0, none⟩ (.int .i64 ((s : Int) + (d : Int))) = V at *
    have k0 := cell_regrown d0
    have k1 := cell_regrown d1
    refine wp_region_quiet_below (by kernel_rfl) (by kernel_rfl) ?_
    repeat (first | go_big_quiet_step (fail) | quiet_step (fail))
    refine wpQuiet_nil ?_
    intro _ hw'
    obtain ⟨⟨dq, osq⟩, hw''⟩ := hw'
    subst hw''
    have hbq := below_regrown V dq osq
    have H3 : Hid (CntM C (Sort.grow (redrawn V dq) osq) (s + d)) := ⟨(hbq.block C (Array.getElem?_eq_some_iff.1 H2.out).1).trans H2.out, hle⟩
    have HB3 : Hid (But C w (Sort.grow (redrawn V dq) osq)) := HB.out.trans (But.of hbq)
    clear k0 k1 d0 d1 hbq
    generalize Sort.grow (redrawn V dq) osq = wq at *
    go_wp2
    go_ret
    exact ⟨rfl, fun _ => H3.out, HB3.out⟩
  · have hle' : (400 : Int) < (s : Int) + (d : Int) := by omega
    have e : addM d s = (s + d, some 1) := by simp [addM, hle]
    rw [e]
    clear e
    go_enter Tryz.func87, Tryz.ntmps87
    go_wp2
    generalize w.setCell ⟨C, 0, none⟩ (.int .i64 ((s : Int) + (d : Int))) = V at *
    have k0 := cell_regrown d0
    have k1 := cell_regrown d1
    refine wp_region_quiet_below (by kernel_rfl) (by kernel_rfl) ?_
    repeat (first | go_big_quiet_step (fail) | quiet_step (fail))
    refine wpQuiet_nil ?_
    intro _ hw'
    obtain ⟨⟨dq, osq⟩, hw''⟩ := hw'
    subst hw''
    have hbq := below_regrown V dq osq
    have HB3 : Hid (But C w (Sort.grow (redrawn V dq) osq)) := HB.out.trans (But.of hbq)
    clear k0 k1 d0 d1 hbq
    generalize Sort.grow (redrawn V dq) osq = wq at *
    go_wp2
    go_ret
    first
      | exact ⟨rfl, fun h => (by cases h), HB3.out⟩
      | exact ⟨rfl, fun h => (by cases h), HB3.out.trans (But.of (one _ _))⟩
theorem mnet_any (C s : Nat) (kd op : Int) (pa : Option Addr) (la ca : Nat) (pk : Option Addr) (lk ck : Nat) (w : World) (h : CntM C w s) :
    Calls Tryz.prog 89 #[.pointer (some ⟨C, 0, none⟩), .agg #[.int .i64 kd, .int .i64 op, .slice pa la ca, .slice pk lk ck]] w fun r w' => r = .returned (errV (addM 1 s).2) ∧ ((addM 1 s).2 = none → CntM C w' (addM 1 s).1) ∧ But C w w' := by
  have HC : Hid (∀ W, Below w.heap.size w W → Calls Tryz.prog 87 #[.pointer (some ⟨C, 0, none⟩), .int .i64 1] W fun r w' => r = .returned (errV (addM 1 s).2) ∧ ((addM 1 s).2 = none → CntM C w' (addM 1 s).1) ∧ But C W w') := fun W hW => addM_any C s 1 W (h.to hW) (by omega)
  clear h
  generalize addM 1 s = R at *
  go_enter Tryz.func89, Tryz.ntmps89
  go_wp2_with fail
  refine (HC.out _ (one _ _)).mono ?_
  rintro r w1 ⟨rfl, h1, hb1⟩
  have H1 : Hid (R.2 = none → CntM C w1 R.1) := h1
  have HB1 : Hid (But C w w1) := (But.of (one _ _)).trans hb1
  clear h1 hb1
  go_wp2
  go_ret
  exact ⟨rfl, H1.out, HB1.out⟩
theorem marm_any (C s : Nat) (kd op : Int) (pa : Option Addr) (la ca : Nat) (pk : Option Addr) (lk ck : Nat) (pc : Option Addr) (lc cc : Nat) (pq : Option Addr) (lq cq : Nat) (w : World) (h : CntM C w s) (hlc : lc ≤ 8000000) :
    Calls Tryz.prog 88 #[.pointer (some ⟨C, 0, none⟩), .agg #[.int .i64 kd, .int .i64 op, .slice pa la ca, .slice pk lk ck, .slice pc lc cc, .slice pq lq cq]] w fun r w' => r = .returned (errV (addM (1 + lc) s).2) ∧ ((addM (1 + lc) s).2 = none → CntM C w' (addM (1 + lc) s).1) ∧ But C w w' := by
  have HC : Hid (∀ W, Below w.heap.size w W → Calls Tryz.prog 87 #[.pointer (some ⟨C, 0, none⟩), .int .i64 (1 + (lc : Int))] W fun r w' => r = .returned (errV (addM (1 + lc) s).2) ∧ ((addM (1 + lc) s).2 = none → CntM C w' (addM (1 + lc) s).1) ∧ But C W w') := fun W hW => by
    have := addM_any C s (1 + lc) W (h.to hW) (by omega)
    rwa [show ((1 + lc : Nat) : Int) = 1 + (lc : Int) by omega] at this
  clear h
  generalize addM (1 + lc) s = R at *
  go_enter Tryz.func88, Tryz.ntmps88
  go_wp2_with fail
  refine (HC.out _ (one _ _)).mono ?_
  rintro r w1 ⟨rfl, h1, hb1⟩
  have H1 : Hid (R.2 = none → CntM C w1 R.1) := h1
  have HB1 : Hid (But C w w1) := (But.of (one _ _)).trans hb1
  clear h1 hb1
  go_wp2
  go_ret
  exact ⟨rfl, H1.out, HB1.out⟩
def armM (k : Nat) : (n : Nat) → AT k n → Nat → Nat × Option Int
  | 0, _, s => (s, none)
  | _ + 1, a, s => addM (1 + a.coils.length) s
/-- The look that counts up to 400 parts. -/
def mSk (C : Nat) : Sk := { C := C, T := 57, dv := .pointer (some ⟨C, 0, none⟩), fn := 89, fa := 88, cnt := CntM C, gN := fun _ _ s => addM 1 s, gA := armM }
theorem mSk_ok (C : Nat) : (mSk C).Ok where
  lt := fun _ _ h => CntM.lt h
  to := fun _ _ _ h hb => CntM.to h hb
  me := fun _ h w => (h _ w).1
  call := Tryz.call89
  net := fun S W n v t s _ hV _ hs => by
    obtain ⟨kd, op, pa, la, ca, pk, lk, ck, rfl⟩ := hV.parts
    exact mnet_any C s kd op pa la ca pk lk ck W hs
  meA := fun _ h w => (h _ w).1
  callA := Tryz.call88
  arm := fun S W k n v t s _ hV hz hs => by
    cases n with
    | zero => exact hV.elim
    | succ n =>
      have := zA_succ k n t
      have hlc : t.coils.length ≤ 8000000 := by unfold zEls at this; omega
      obtain ⟨kd, op, pa, la, ca, pk, lk, ck, pc, cc, pq, cq, rfl, -, -, -⟩ := hV
      exact marm_any C s kd op pa la ca pk lk ck pc _ cc pq _ cq W hs hlc
end Go.Proofs.YtjkpingdokkkcaaGreatDoor.Tr
