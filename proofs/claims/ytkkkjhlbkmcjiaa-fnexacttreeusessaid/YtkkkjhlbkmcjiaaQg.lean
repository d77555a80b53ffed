/- How the exact laws count the values of an arm. Helper text: no statement is claimed here. -/
import Derived.Test.YtkkkjhlbkmcjiaaQf
namespace Go.Proofs.Ytkkkjhlbkmcjiaa.Tr
open Go.ChangeShapes Go.WideShapes Go.ChangeAt Go.RowKit

/-- The three counts of an arm, whatever they find. -/
def ArmCalls (w : World) (kd op : Int) (pa : Option Addr) (la ca : Nat) (pk : Option Addr) (lk ck : Nat) (pc : Option Addr) (lc cc : Nat) (pq : Option Addr) (lq cq : Nat) (z1 z2 z3 : Nat) : Prop :=
  (∀ L, 0 ≤ L → L ≤ 1048576 → ∀ W, Below w.heap.size w W → Calls Try.prog 29 #[.agg #[.int .i64 kd, .int .i64 op, .slice pa la ca, .slice pk lk ck], .int .i64 L] W fun r w' => r = .returned (.int .i64 (szR L z1)) ∧ Below W.heap.size W w') ∧
  (∀ L, 0 ≤ L → L ≤ 1048576 → ∀ W, Below w.heap.size w W → Calls Try.prog 30 #[.slice pc lc cc, .int .i64 L] W fun r w' => r = .returned (.int .i64 (szR L z2)) ∧ Below W.heap.size W w') ∧
  (∀ L, 0 ≤ L → L ≤ 1048576 → ∀ W, Below w.heap.size w W → Calls Try.prog 6 #[.slice pq lq cq, .int .i64 L] W fun r w' => r = .returned (.int .i64 (szR L z3)) ∧ Below W.heap.size W w')

set_option maxHeartbeats 1000000 in
theorem szArm_1 (w : World) (kd op : Int) (pa : Option Addr) (la ca : Nat) (pk : Option Addr) (lk ck : Nat) (pc : Option Addr) (lc cc : Nat) (pq : Option Addr) (lq cq : Nat) (z1 z2 z3 : Nat) (left : Int) (h0 : 0 ≤ left) (h1 : left ≤ 1048576) (hC : ArmCalls w kd op pa la ca pk lk ck pc lc cc pq lq cq z1 z2 z3) (g1 : ¬ (z1 : Int) ≤ left) :
    Calls Try.prog 16 #[.agg #[.int .i64 kd, .int .i64 op, .slice pa la ca, .slice pk lk ck, .slice pc lc cc, .slice pq lq cq], .int .i64 left] w fun r w' => r = .returned (.int .i64 (-1)) ∧ Below w.heap.size w w' := by
  have H1 : Hid (∀ W, Below w.heap.size w W → Calls Try.prog 29 #[.agg #[.int .i64 kd, .int .i64 op, .slice pa la ca, .slice pk lk ck], .int .i64 (left)] W fun r w' => r = .returned (.int .i64 (-1)) ∧ Below W.heap.size W w') := fun W hW => by
    have := hC.1 (left) (by omega) (by omega) W hW
    rwa [szR_neg g1] at this
  clear g1
  clear hC
  go_enter Try.func16, Try.ntmps16
  go_wp2_with fail
  refine (H1.out _ (one _ _)).mono ?_
  rintro e w1 ⟨rfl, hb1⟩
  have HB1 : Hid (Below w.heap.size w w1) := of_one hb1
  have c4 : w1.cell? ⟨w.heap.size, 4, none⟩ = some (.slice pc lc cc) := bl hb1 (by rw [World.cell?_alloc_mark]; rfl)
  have c5 : w1.cell? ⟨w.heap.size, 5, none⟩ = some (.slice pq lq cq) := bl hb1 (by rw [World.cell?_alloc_mark]; rfl)
  clear hb1
  go_wp2
  go_ret
  exact ⟨rfl, HB1.out⟩

set_option maxHeartbeats 1000000 in
theorem szArm_2 (w : World) (kd op : Int) (pa : Option Addr) (la ca : Nat) (pk : Option Addr) (lk ck : Nat) (pc : Option Addr) (lc cc : Nat) (pq : Option Addr) (lq cq : Nat) (z1 z2 z3 : Nat) (left : Int) (h0 : 0 ≤ left) (h1 : left ≤ 1048576) (hC : ArmCalls w kd op pa la ca pk lk ck pc lc cc pq lq cq z1 z2 z3) (g1 : (z1 : Int) ≤ left) (g2 : ¬ (z2 : Int) ≤ left - (z1 : Int)) :
    Calls Try.prog 16 #[.agg #[.int .i64 kd, .int .i64 op, .slice pa la ca, .slice pk lk ck, .slice pc lc cc, .slice pq lq cq], .int .i64 left] w fun r w' => r = .returned (.int .i64 (-1)) ∧ Below w.heap.size w w' := by
  have H1 : Hid (∀ W, Below w.heap.size w W → Calls Try.prog 29 #[.agg #[.int .i64 kd, .int .i64 op, .slice pa la ca, .slice pk lk ck], .int .i64 (left)] W fun r w' => r = .returned (.int .i64 (left - (z1 : Int))) ∧ Below W.heap.size W w') := fun W hW => by
    have := hC.1 (left) (by omega) (by omega) W hW
    rwa [szR_pos g1] at this
  have H2 : Hid (∀ W, Below w.heap.size w W → Calls Try.prog 30 #[.slice pc lc cc, .int .i64 (left - (z1 : Int))] W fun r w' => r = .returned (.int .i64 (-1)) ∧ Below W.heap.size W w') := fun W hW => by
    have := hC.2.1 (left - (z1 : Int)) (by omega) (by omega) W hW
    rwa [szR_neg g2] at this
  have p1 : ¬ (left - (z1 : Int)) < 0 := by omega
  generalize left - (z1 : Int) = L1 at *
  clear g1
  clear g2
  clear hC
  go_enter Try.func16, Try.ntmps16
  go_wp2_with fail
  refine (H1.out _ (one _ _)).mono ?_
  rintro e w1 ⟨rfl, hb1⟩
  have HB1 : Hid (Below w.heap.size w w1) := of_one hb1
  have c4 : w1.cell? ⟨w.heap.size, 4, none⟩ = some (.slice pc lc cc) := bl hb1 (by rw [World.cell?_alloc_mark]; rfl)
  have c5 : w1.cell? ⟨w.heap.size, 5, none⟩ = some (.slice pq lq cq) := bl hb1 (by rw [World.cell?_alloc_mark]; rfl)
  clear hb1
  go_wp2_with fail
  refine (H2.out _ HB1.out).mono ?_
  rintro e w2 ⟨rfl, hb2⟩
  have HB2 : Hid (Below w.heap.size w w2) := HB1.out.trans (hb2.mono HB1.out.size)
  replace c5 := keep2 hb2 c5
  clear hb2
  go_wp2
  go_ret
  exact ⟨rfl, HB2.out⟩

set_option maxHeartbeats 1000000 in
theorem szArm_3 (w : World) (kd op : Int) (pa : Option Addr) (la ca : Nat) (pk : Option Addr) (lk ck : Nat) (pc : Option Addr) (lc cc : Nat) (pq : Option Addr) (lq cq : Nat) (z1 z2 z3 : Nat) (left : Int) (h0 : 0 ≤ left) (h1 : left ≤ 1048576) (hC : ArmCalls w kd op pa la ca pk lk ck pc lc cc pq lq cq z1 z2 z3) (g1 : (z1 : Int) ≤ left) (g2 : (z2 : Int) ≤ left - (z1 : Int)) (g3 : ¬ (z3 : Int) ≤ left - (z1 : Int) - (z2 : Int)) :
    Calls Try.prog 16 #[.agg #[.int .i64 kd, .int .i64 op, .slice pa la ca, .slice pk lk ck, .slice pc lc cc, .slice pq lq cq], .int .i64 left] w fun r w' => r = .returned (.int .i64 (-1)) ∧ Below w.heap.size w w' := by
  have H1 : Hid (∀ W, Below w.heap.size w W → Calls Try.prog 29 #[.agg #[.int .i64 kd, .int .i64 op, .slice pa la ca, .slice pk lk ck], .int .i64 (left)] W fun r w' => r = .returned (.int .i64 (left - (z1 : Int))) ∧ Below W.heap.size W w') := fun W hW => by
    have := hC.1 (left) (by omega) (by omega) W hW
    rwa [szR_pos g1] at this
  have H2 : Hid (∀ W, Below w.heap.size w W → Calls Try.prog 30 #[.slice pc lc cc, .int .i64 (left - (z1 : Int))] W fun r w' => r = .returned (.int .i64 (left - (z1 : Int) - (z2 : Int))) ∧ Below W.heap.size W w') := fun W hW => by
    have := hC.2.1 (left - (z1 : Int)) (by omega) (by omega) W hW
    rwa [szR_pos g2] at this
  have H3 : Hid (∀ W, Below w.heap.size w W → Calls Try.prog 6 #[.slice pq lq cq, .int .i64 (left - (z1 : Int) - (z2 : Int))] W fun r w' => r = .returned (.int .i64 (-1)) ∧ Below W.heap.size W w') := fun W hW => by
    have := hC.2.2 (left - (z1 : Int) - (z2 : Int)) (by omega) (by omega) W hW
    rwa [szR_neg g3] at this
  have p1 : ¬ (left - (z1 : Int)) < 0 := by omega
  have p2 : ¬ (left - (z1 : Int) - (z2 : Int)) < 0 := by omega
  generalize left - (z1 : Int) - (z2 : Int) = L2 at *
  generalize left - (z1 : Int) = L1 at *
  clear g1
  clear g2
  clear g3
  clear hC
  go_enter Try.func16, Try.ntmps16
  go_wp2_with fail
  refine (H1.out _ (one _ _)).mono ?_
  rintro e w1 ⟨rfl, hb1⟩
  have HB1 : Hid (Below w.heap.size w w1) := of_one hb1
  have c4 : w1.cell? ⟨w.heap.size, 4, none⟩ = some (.slice pc lc cc) := bl hb1 (by rw [World.cell?_alloc_mark]; rfl)
  have c5 : w1.cell? ⟨w.heap.size, 5, none⟩ = some (.slice pq lq cq) := bl hb1 (by rw [World.cell?_alloc_mark]; rfl)
  clear hb1
  go_wp2_with fail
  refine (H2.out _ HB1.out).mono ?_
  rintro e w2 ⟨rfl, hb2⟩
  have HB2 : Hid (Below w.heap.size w w2) := HB1.out.trans (hb2.mono HB1.out.size)
  replace c5 := keep2 hb2 c5
  clear hb2
  go_wp2_with fail
  refine (H3.out _ HB2.out).mono ?_
  rintro e w3 ⟨rfl, hb3⟩
  have HB3 : Hid (Below w.heap.size w w3) := HB2.out.trans (hb3.mono HB2.out.size)
  clear hb3
  go_wp2
  go_ret
  exact ⟨rfl, HB3.out⟩

set_option maxHeartbeats 1000000 in
theorem szArm_4 (w : World) (kd op : Int) (pa : Option Addr) (la ca : Nat) (pk : Option Addr) (lk ck : Nat) (pc : Option Addr) (lc cc : Nat) (pq : Option Addr) (lq cq : Nat) (z1 z2 z3 : Nat) (left : Int) (h0 : 0 ≤ left) (h1 : left ≤ 1048576) (hC : ArmCalls w kd op pa la ca pk lk ck pc lc cc pq lq cq z1 z2 z3) (g1 : (z1 : Int) ≤ left) (g2 : (z2 : Int) ≤ left - (z1 : Int)) (g3 : (z3 : Int) ≤ left - (z1 : Int) - (z2 : Int)) :
    Calls Try.prog 16 #[.agg #[.int .i64 kd, .int .i64 op, .slice pa la ca, .slice pk lk ck, .slice pc lc cc, .slice pq lq cq], .int .i64 left] w fun r w' => r = .returned (.int .i64 (left - (z1 : Int) - (z2 : Int) - (z3 : Int))) ∧ Below w.heap.size w w' := by
  have H1 : Hid (∀ W, Below w.heap.size w W → Calls Try.prog 29 #[.agg #[.int .i64 kd, .int .i64 op, .slice pa la ca, .slice pk lk ck], .int .i64 (left)] W fun r w' => r = .returned (.int .i64 (left - (z1 : Int))) ∧ Below W.heap.size W w') := fun W hW => by
    have := hC.1 (left) (by omega) (by omega) W hW
    rwa [szR_pos g1] at this
  have H2 : Hid (∀ W, Below w.heap.size w W → Calls Try.prog 30 #[.slice pc lc cc, .int .i64 (left - (z1 : Int))] W fun r w' => r = .returned (.int .i64 (left - (z1 : Int) - (z2 : Int))) ∧ Below W.heap.size W w') := fun W hW => by
    have := hC.2.1 (left - (z1 : Int)) (by omega) (by omega) W hW
    rwa [szR_pos g2] at this
  have H3 : Hid (∀ W, Below w.heap.size w W → Calls Try.prog 6 #[.slice pq lq cq, .int .i64 (left - (z1 : Int) - (z2 : Int))] W fun r w' => r = .returned (.int .i64 (left - (z1 : Int) - (z2 : Int) - (z3 : Int))) ∧ Below W.heap.size W w') := fun W hW => by
    have := hC.2.2 (left - (z1 : Int) - (z2 : Int)) (by omega) (by omega) W hW
    rwa [szR_pos g3] at this
  have p1 : ¬ (left - (z1 : Int)) < 0 := by omega
  have p2 : ¬ (left - (z1 : Int) - (z2 : Int)) < 0 := by omega
  have p3 : ¬ (left - (z1 : Int) - (z2 : Int) - (z3 : Int)) < 0 := by omega
  generalize left - (z1 : Int) - (z2 : Int) - (z3 : Int) = L3 at *
  generalize left - (z1 : Int) - (z2 : Int) = L2 at *
  generalize left - (z1 : Int) = L1 at *
  clear g1
  clear g2
  clear g3
  clear hC
  go_enter Try.func16, Try.ntmps16
  go_wp2_with fail
  refine (H1.out _ (one _ _)).mono ?_
  rintro e w1 ⟨rfl, hb1⟩
  have HB1 : Hid (Below w.heap.size w w1) := of_one hb1
  have c4 : w1.cell? ⟨w.heap.size, 4, none⟩ = some (.slice pc lc cc) := bl hb1 (by rw [World.cell?_alloc_mark]; rfl)
  have c5 : w1.cell? ⟨w.heap.size, 5, none⟩ = some (.slice pq lq cq) := bl hb1 (by rw [World.cell?_alloc_mark]; rfl)
  clear hb1
  go_wp2_with fail
  refine (H2.out _ HB1.out).mono ?_
  rintro e w2 ⟨rfl, hb2⟩
  have HB2 : Hid (Below w.heap.size w w2) := HB1.out.trans (hb2.mono HB1.out.size)
  replace c5 := keep2 hb2 c5
  clear hb2
  go_wp2_with fail
  refine (H3.out _ HB2.out).mono ?_
  rintro e w3 ⟨rfl, hb3⟩
  have HB3 : Hid (Below w.heap.size w w3) := HB2.out.trans (hb3.mono HB2.out.size)
  clear hb3
  go_wp2
  go_ret
  exact ⟨rfl, HB3.out⟩

theorem szArm_next (k n : Nat) (IH : SzA k n) : SzA k (n + 1) := by
  intro S w hSw v a hV left h0 h1
  obtain ⟨kd, op, pa, la, ca, pk, lk, ck, pc, cc, pq, cq, rfl, hN, hC, hK⟩ := hV
  have hAll : ArmCalls w kd op pa la ca pk lk ck pc a.coils.length cc pq a.kids.length cq (zN (k + 1) a.net) (zEls a.coils) (zAs k n a.kids) :=
    ⟨fun L hL0 hL1 W hW => szNet_any (k + 1) S W (le1 hSw hW.size) _ a.net (hN.to (Keep.of hW hSw) (fun _ h => h)) L hL0 hL1,
      fun L hL0 hL1 W hW => szElems_any (S := S) (le1 hSw hW.size) pc cc a.coils (els_to (Keep.of hW hSw) (fun _ h => h) hC) L hL0 hL1,
      fun L hL0 hL1 W hW => szArms_any (S := S) (le1 hSw hW.size) k n IH pq cq a.kids (arms_to (Keep.of hW hSw) (fun _ h => h) hK) L hL0 hL1⟩
  rw [zA_succ]
  generalize zN (k + 1) a.net = z1 at *
  generalize zEls a.coils = z2 at *
  generalize zAs k n a.kids = z3 at *
  by_cases g1 : (z1 : Int) ≤ left
  · by_cases g2 : (z2 : Int) ≤ left - (z1 : Int)
    · by_cases g3 : (z3 : Int) ≤ left - (z1 : Int) - (z2 : Int)
      · rw [show szR left (z1 + z2 + z3) = left - (z1 : Int) - (z2 : Int) - (z3 : Int) by rw [szR_pos (by omega)]; omega]
        exact szArm_4 w kd op pa la ca pk lk ck pc _ cc pq _ cq z1 z2 z3 left h0 h1 hAll g1 g2 g3
      · rw [szR_neg (by omega)]
        exact szArm_3 w kd op pa la ca pk lk ck pc _ cc pq _ cq z1 z2 z3 left h0 h1 hAll g1 g2 g3
    · rw [szR_neg (by omega)]
      exact szArm_2 w kd op pa la ca pk lk ck pc _ cc pq _ cq z1 z2 z3 left h0 h1 hAll g1 g2
  · rw [szR_neg (by omega)]
    exact szArm_1 w kd op pa la ca pk lk ck pc _ cc pq _ cq z1 z2 z3 left h0 h1 hAll g1
theorem szArm_any (k : Nat) : ∀ n, SzA k n
  | 0 => fun _ _ _ _ _ h => h.elim
  | n + 1 => szArm_next k n (szArm_any k n)
end Go.Proofs.Ytkkkjhlbkmcjiaa.Tr
