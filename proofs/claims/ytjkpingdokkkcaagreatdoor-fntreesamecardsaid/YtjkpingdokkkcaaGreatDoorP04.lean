/- The document's TreeSize: arms and ladders. Helper text: no statement is claimed here. -/
import Derived.Test.YtjkpingdokkkcaaGreatDoorP01
import Derived.Test.YtjkpingdokkkcaaGreatDoorP03
namespace Go.Proofs.YtjkpingdokkkcaaGreatDoor.Tr
open Go.ChangeShapes Go.WideShapes Go.ChangeAt Go.RowKit

theorem NtV.none {S : Nat → Prop} {w : World} {n : Nat} {kd op : Int} {pa pk : Option Addr} {la ca lk ck : Nat} {t : NT (n + 1)} (h : NtV S w (n + 1) (.agg #[.int .i64 kd, .int .i64 op, .slice pa la ca, .slice pk lk ck]) t) :
    isNone t = (decide (kd = 0) && decide (op = 0) && decide (la = 0) && decide (lk = 0)) := by
  obtain ⟨pa', ca', pk', ck', he, _, _⟩ := h
  simp only [Value.agg.injEq, Array.mk.injEq, List.cons.injEq, Value.int.injEq, Value.slice.injEq, true_and, and_true] at he
  obtain ⟨rfl, rfl, ⟨rfl, rfl, rfl⟩, rfl, rfl, rfl⟩ := he
  rfl
def SpA (k n : Nat) : Prop := ∀ (S : Nat → Prop) (w : World) (_ : ∀ b, S b → b < w.heap.size) (v : Value) (t : AT k n) (_ : AmV S w k n v t) (_ : zA k n t ≤ 1048576),
    Calls Tryz.prog 55 #[v] w fun r w' => r = .returned (.int .i64 (pA k n t)) ∧ Below w.heap.size w w'
/-- The loop over the kids of an arm, from a number on. -/
def LoopA (k n : Nat) : Prop := ∀ (S : Nat → Prop) (w V : World) (_ : ∀ b, S b → b < w.heap.size) (_ : Below w.heap.size w V) (pq : Option Addr) (cq : Nat) (es : List (AT k n)) (_ : SlOf S (AmE S w k n) 6 pq cq es) (_ : zAs k n es ≤ 1048576) (j : Nat) (u : AT k n) (_ : es[j]? = some u) (wr : World) (_ : Below V.heap.size V wr),
    ∃ b off kd op pa la ca pk lk ck pc lc cc pq' lq cq', pq = some ⟨b, off, none⟩ ∧ wr.cell? ⟨b, off + j * 6, none⟩ = some (.int .i64 kd) ∧ wr.cell? ⟨b, off + j * 6 + 1, none⟩ = some (.int .i64 op) ∧ wr.cell? ⟨b, off + j * 6 + 2, none⟩ = some (.slice pa la ca) ∧ wr.cell? ⟨b, off + j * 6 + 3, none⟩ = some (.slice pk lk ck) ∧
      wr.cell? ⟨b, off + j * 6 + 4, none⟩ = some (.slice pc lc cc) ∧ wr.cell? ⟨b, off + j * 6 + 5, none⟩ = some (.slice pq' lq cq') ∧
      Calls Tryz.prog 55 #[.agg #[.int .i64 kd, .int .i64 op, .slice pa la ca, .slice pk lk ck, .slice pc lc cc, .slice pq' lq cq']] wr fun r w' => r = .returned (.int .i64 (pA k n u)) ∧ Below wr.heap.size wr w'
theorem loopA (k n : Nat) (IH : SpA k n) : LoopA k n := by
  intro S w V hSw hV pq cq es hK hz j u hu wr hB
  have hBw : Below w.heap.size w wr := hV.trans (hB.mono hV.size)
  obtain ⟨b, off, rfl, hb, hE⟩ := (arms_to (Keep.of hBw hSw) (fun _ h => h) hK).get hu
  obtain ⟨kd, op, pa, la, ca, pk, lk, ck, pc, lc, cc, pq', lq, cq', c0, c1, c2, c3, c4, c5, hN⟩ := hE.out
  exact ⟨b, off, kd, op, pa, la, ca, pk, lk, ck, pc, lc, cc, pq', lq, cq', rfl, c0, c1, c2, c3, c4, c5, IH S wr (fun b hb => Nat.lt_of_lt_of_le (hSw b hb) hBw.size) _ u hN (by have := tot_get (zA k n) hu; unfold zAs at hz; omega)⟩
theorem totA_le (k n : Nat) (es : List (AT k n)) : tot (pA k n) es ≤ 2 * zAs k n es := by
  have h := tot_mono es (f := pA k n) (g := fun u => 2 + 2 * zA k n u) (fun u _ => pA_le k n u)
  rw [tot_two] at h
  unfold zAs
  omega
set_option maxHeartbeats 2000000 in
theorem sArm_yes (k n : Nat) (IH : SpA k n) (S : Nat → Prop) (w : World) (hSw : ∀ b, S b → b < w.heap.size) (kd op : Int) (pa : Option Addr) (la ca : Nat) (pk : Option Addr) (lk ck : Nat) (pc : Option Addr) (lc cc : Nat) (pq : Option Addr) (cq : Nat) (es : List (AT k n))
    (hK : SlOf S (AmE S w k n) 6 pq cq es) (hz : zAs k n es ≤ 1048576) (hlc : lc ≤ 1048576) (hle : es.length ≤ 1048576) (z : Nat) (_hzz : z ≤ 1048577)
    (h1 : ∀ W, Calls Tryz.prog 66 #[.agg #[.int .i64 kd, .int .i64 op, .slice pa la ca, .slice pk lk ck]] W fun r w' => r = .returned (.bool true) ∧ Below W.heap.size W w')
    (h2 : true = false → ∀ W, Below w.heap.size w W → Calls Tryz.prog 67 #[.agg #[.int .i64 kd, .int .i64 op, .slice pa la ca, .slice pk lk ck]] W fun r w' => r = .returned (.int .i64 z) ∧ Below W.heap.size W w') :
    Calls Tryz.prog 55 #[.agg #[.int .i64 kd, .int .i64 op, .slice pa la ca, .slice pk lk ck, .slice pc lc cc, .slice pq es.length cq]] w fun r w' => r = .returned (.int .i64 ((1 + lc + 0 + tot (pA k n) es : Nat) : Int)) ∧ Below w.heap.size w w' := by
  have htp : tot (pA k n) es ≤ 2097152 := Nat.le_trans (totA_le k n es) (by omega)
  have HV : Hid (SlOf S (AmE S w k n) 6 pq cq es) := hK
  have HSw : Hid (∀ b, S b → b < w.heap.size) := hSw
  have HI : Hid (LoopA k n) := loopA k n IH
  have HZ : Hid (zAs k n es ≤ 1048576) := hz
  have H1 : Hid (∀ W, Calls Tryz.prog 66 #[.agg #[.int .i64 kd, .int .i64 op, .slice pa la ca, .slice pk lk ck]] W fun r w' => r = .returned (.bool true) ∧ Below W.heap.size W w') := h1
  have H2 : Hid (true = false → ∀ W, Below w.heap.size w W → Calls Tryz.prog 67 #[.agg #[.int .i64 kd, .int .i64 op, .slice pa la ca, .slice pk lk ck]] W fun r w' => r = .returned (.int .i64 z) ∧ Below W.heap.size W w') := h2
  obtain ⟨R, hR⟩ : ∃ R : Int, R = ((1 + lc + 0 + tot (pA k n) es : Nat) : Int) := ⟨_, rfl⟩
  rw [← hR]
  have HR : Hid (R = ((1 + lc + 0 + tot (pA k n) es : Nat) : Int)) := hR
  clear hR hSw hK hz h1 h2 IH
  go_enter Tryz.func55, Tryz.ntmps55
  go_wp2_with fail
  have HBa : Hid (Below w.heap.size w (w.alloc (.cells #[.int .i64 kd, .int .i64 op, .slice pa la ca, .slice pk lk ck, .slice pc lc cc, .slice pq es.length cq] 52))) := one _ _
  have HLa : Hid ((w.alloc (.cells #[.int .i64 kd, .int .i64 op, .slice pa la ca, .slice pk lk ck, .slice pc lc cc, .slice pq es.length cq] 52)).heap[w.heap.size]? = some (.cells #[.int .i64 kd, .int .i64 op, .slice pa la ca, .slice pk lk ck, .slice pc lc cc, .slice pq es.length cq] 52 (0, 0))) := last _ _
  generalize w.alloc (.cells #[.int .i64 kd, .int .i64 op, .slice pa la ca, .slice pk lk ck, .slice pc lc cc, .slice pq es.length cq] 52) = V at *
  have hsz : w.heap.size < V.heap.size := (Array.getElem?_eq_some_iff.1 HLa.out).1
  refine (H1.out V).mono ?_
  rintro r w1 ⟨rfl, hb1⟩
  have HB1 : Hid (Below V.heap.size V w1) := hb1
  have HB1w : Hid (Below w.heap.size w w1) := HBa.out.trans (hb1.mono HBa.out.size)
  have HL1 : Hid (w1.heap[w.heap.size]? = some (.cells #[.int .i64 kd, .int .i64 op, .slice pa la ca, .slice pk lk ck, .slice pc lc cc, .slice pq es.length cq] 52 (0, 0))) := (hb1.block _ hsz).trans HLa.out
  have q0 : w1.cell? ⟨w.heap.size, 0, none⟩ = some (.int .i64 kd) := cell_of_row _ _ 0 _ _ _ HL1.out
  have q1 : w1.cell? ⟨w.heap.size, 1, none⟩ = some (.int .i64 op) := cell_of_row _ _ 1 _ _ _ HL1.out
  have q2 : w1.cell? ⟨w.heap.size, 2, none⟩ = some (.slice pa la ca) := cell_of_row _ _ 2 _ _ _ HL1.out
  have q3 : w1.cell? ⟨w.heap.size, 3, none⟩ = some (.slice pk lk ck) := cell_of_row _ _ 3 _ _ _ HL1.out
  have q5 : w1.cell? ⟨w.heap.size, 5, none⟩ = some (.slice pq es.length cq) := cell_of_row _ _ 5 _ _ _ HL1.out
  clear hb1
  go_wp2
  go_loopw [3, 4] (fun c d w' => ∃ j : Nat, j ≤ es.length ∧ c = .int .i64 ((1 + lc + 0 + tot (pA k n) (es.take j) : Nat) : Int) ∧ d = .int .i64 (j : Int) ∧ Hid (Below V.heap.size V w')) (fun _ d _ => es.length - (intOf d).toNat)
  case atStart => exact ⟨0, by omega, by simp [tot], rfl, HB1⟩
  case round =>
    obtain ⟨j, hj, rfl, rfl, HB⟩ := hrel
    rename_i wr
    clear q0 q1 q2 q3 q5
    have q5 : wr.cell? ⟨w.heap.size, 5, none⟩ = some (.slice pq es.length cq) := keep2 HB.out (cell_of_row _ _ 5 _ _ _ HLa.out)
    have HBw : Hid (Below w.heap.size w wr) := HBa.out.trans (HB.out.mono HBa.out.size)
    by_cases hlt : j < es.length
    · have hlt' : (j : Int) < (es.length : Int) := by omega
      obtain ⟨u, hu⟩ := get_lt hlt
      have hbd := tot_next (pA k n) hu
      have hle := tot_le (pA k n) es (j + 1)
      obtain ⟨b, off, kd', op', pa', la', ca', pk', lk', ck', pc', lc', cc', pq', lq', cq', rfl, c0, c1, c2, c3, c4, c5, hC⟩ := HI.out S w V HSw.out HBa.out pq cq es HV.out HZ.out j u hu wr HB.out
      have HC : Hid (Calls Tryz.prog 55 #[.agg #[.int .i64 kd', .int .i64 op', .slice pa' la' ca', .slice pk' lk' ck', .slice pc' lc' cc', .slice pq' lq' cq']] wr fun r w' => r = .returned (.int .i64 (pA k n u)) ∧ Below wr.heap.size wr w') := hC
      clear hC HR HI
      generalize hZ : pA k n u = z' at *
      generalize hT : tot (pA k n) (es.take j) = T at *
      go_wp2_with fail
      refine HC.out.mono ?_
      rintro e w2 ⟨rfl, hb2⟩
      have HB2 : Hid (Below V.heap.size V w2) := HB.out.trans (hb2.mono HB.out.size)
      clear hb2
      go_wp2
      exact ⟨⟨j + 1, by omega, by congr 1; omega, by go_num, HB2⟩, by simp [intOf]; omega⟩
    · obtain rfl : j = es.length := by omega
      have HR1 : Hid (R = ((1 + lc + 0 + tot (pA k n) (es.take es.length) : Nat) : Int)) := by
        rw [List.take_length]
        exact HR.out
      generalize ((1 + lc + 0 + tot (pA k n) (es.take es.length) : Nat) : Int) = L at *
      go_wp2
      go_ret
      exact ⟨by rw [HR1.out]; rfl, HBw.out⟩
set_option maxHeartbeats 2000000 in
theorem sArm_no (k n : Nat) (IH : SpA k n) (S : Nat → Prop) (w : World) (hSw : ∀ b, S b → b < w.heap.size) (kd op : Int) (pa : Option Addr) (la ca : Nat) (pk : Option Addr) (lk ck : Nat) (pc : Option Addr) (lc cc : Nat) (pq : Option Addr) (cq : Nat) (es : List (AT k n))
    (hK : SlOf S (AmE S w k n) 6 pq cq es) (hz : zAs k n es ≤ 1048576) (hlc : lc ≤ 1048576) (hle : es.length ≤ 1048576) (z : Nat) (_hzz : z ≤ 1048577)
    (h1 : ∀ W, Calls Tryz.prog 66 #[.agg #[.int .i64 kd, .int .i64 op, .slice pa la ca, .slice pk lk ck]] W fun r w' => r = .returned (.bool false) ∧ Below W.heap.size W w')
    (h2 : false = false → ∀ W, Below w.heap.size w W → Calls Tryz.prog 67 #[.agg #[.int .i64 kd, .int .i64 op, .slice pa la ca, .slice pk lk ck]] W fun r w' => r = .returned (.int .i64 z) ∧ Below W.heap.size W w') :
    Calls Tryz.prog 55 #[.agg #[.int .i64 kd, .int .i64 op, .slice pa la ca, .slice pk lk ck, .slice pc lc cc, .slice pq es.length cq]] w fun r w' => r = .returned (.int .i64 ((1 + lc + z + tot (pA k n) es : Nat) : Int)) ∧ Below w.heap.size w w' := by
  have htp : tot (pA k n) es ≤ 2097152 := Nat.le_trans (totA_le k n es) (by omega)
  have HV : Hid (SlOf S (AmE S w k n) 6 pq cq es) := hK
  have HSw : Hid (∀ b, S b → b < w.heap.size) := hSw
  have HI : Hid (LoopA k n) := loopA k n IH
  have HZ : Hid (zAs k n es ≤ 1048576) := hz
  have H1 : Hid (∀ W, Calls Tryz.prog 66 #[.agg #[.int .i64 kd, .int .i64 op, .slice pa la ca, .slice pk lk ck]] W fun r w' => r = .returned (.bool false) ∧ Below W.heap.size W w') := h1
  have H2 : Hid (false = false → ∀ W, Below w.heap.size w W → Calls Tryz.prog 67 #[.agg #[.int .i64 kd, .int .i64 op, .slice pa la ca, .slice pk lk ck]] W fun r w' => r = .returned (.int .i64 z) ∧ Below W.heap.size W w') := h2
  obtain ⟨R, hR⟩ : ∃ R : Int, R = ((1 + lc + z + tot (pA k n) es : Nat) : Int) := ⟨_, rfl⟩
  rw [← hR]
  have HR : Hid (R = ((1 + lc + z + tot (pA k n) es : Nat) : Int)) := hR
  clear hR hSw hK hz h1 h2 IH
  go_enter Tryz.func55, Tryz.ntmps55
  go_wp2_with fail
  have HBa : Hid (Below w.heap.size w (w.alloc (.cells #[.int .i64 kd, .int .i64 op, .slice pa la ca, .slice pk lk ck, .slice pc lc cc, .slice pq es.length cq] 52))) := one _ _
  have HLa : Hid ((w.alloc (.cells #[.int .i64 kd, .int .i64 op, .slice pa la ca, .slice pk lk ck, .slice pc lc cc, .slice pq es.length cq] 52)).heap[w.heap.size]? = some (.cells #[.int .i64 kd, .int .i64 op, .slice pa la ca, .slice pk lk ck, .slice pc lc cc, .slice pq es.length cq] 52 (0, 0))) := last _ _
  generalize w.alloc (.cells #[.int .i64 kd, .int .i64 op, .slice pa la ca, .slice pk lk ck, .slice pc lc cc, .slice pq es.length cq] 52) = V at *
  have hsz : w.heap.size < V.heap.size := (Array.getElem?_eq_some_iff.1 HLa.out).1
  refine (H1.out V).mono ?_
  rintro r w1 ⟨rfl, hb1⟩
  have HB1 : Hid (Below V.heap.size V w1) := hb1
  have HB1w : Hid (Below w.heap.size w w1) := HBa.out.trans (hb1.mono HBa.out.size)
  have HL1 : Hid (w1.heap[w.heap.size]? = some (.cells #[.int .i64 kd, .int .i64 op, .slice pa la ca, .slice pk lk ck, .slice pc lc cc, .slice pq es.length cq] 52 (0, 0))) := (hb1.block _ hsz).trans HLa.out
  have q0 : w1.cell? ⟨w.heap.size, 0, none⟩ = some (.int .i64 kd) := cell_of_row _ _ 0 _ _ _ HL1.out
  have q1 : w1.cell? ⟨w.heap.size, 1, none⟩ = some (.int .i64 op) := cell_of_row _ _ 1 _ _ _ HL1.out
  have q2 : w1.cell? ⟨w.heap.size, 2, none⟩ = some (.slice pa la ca) := cell_of_row _ _ 2 _ _ _ HL1.out
  have q3 : w1.cell? ⟨w.heap.size, 3, none⟩ = some (.slice pk lk ck) := cell_of_row _ _ 3 _ _ _ HL1.out
  have q5 : w1.cell? ⟨w.heap.size, 5, none⟩ = some (.slice pq es.length cq) := cell_of_row _ _ 5 _ _ _ HL1.out
  clear hb1
  go_wp2_with fail
  refine (H2.out (by first | rfl | trivial) w1 HB1w.out).mono ?_
  rintro r w1' ⟨rfl, hb1'⟩
  have HB1' : Hid (Below V.heap.size V w1') := HB1.out.trans (hb1'.mono HB1.out.size)
  clear hb1'
  go_wp2
  go_loopw [3, 4] (fun c d w' => ∃ j : Nat, j ≤ es.length ∧ c = .int .i64 ((1 + lc + z + tot (pA k n) (es.take j) : Nat) : Int) ∧ d = .int .i64 (j : Int) ∧ Hid (Below V.heap.size V w')) (fun _ d _ => es.length - (intOf d).toNat)
  case atStart => exact ⟨0, by omega, by simp [tot], rfl, HB1'⟩
  case round =>
    obtain ⟨j, hj, rfl, rfl, HB⟩ := hrel
    rename_i wr
    clear q0 q1 q2 q3 q5
    have q5 : wr.cell? ⟨w.heap.size, 5, none⟩ = some (.slice pq es.length cq) := keep2 HB.out (cell_of_row _ _ 5 _ _ _ HLa.out)
    have HBw : Hid (Below w.heap.size w wr) := HBa.out.trans (HB.out.mono HBa.out.size)
    by_cases hlt : j < es.length
    · have hlt' : (j : Int) < (es.length : Int) := by omega
      obtain ⟨u, hu⟩ := get_lt hlt
      have hbd := tot_next (pA k n) hu
      have hle := tot_le (pA k n) es (j + 1)
      obtain ⟨b, off, kd', op', pa', la', ca', pk', lk', ck', pc', lc', cc', pq', lq', cq', rfl, c0, c1, c2, c3, c4, c5, hC⟩ := HI.out S w V HSw.out HBa.out pq cq es HV.out HZ.out j u hu wr HB.out
      have HC : Hid (Calls Tryz.prog 55 #[.agg #[.int .i64 kd', .int .i64 op', .slice pa' la' ca', .slice pk' lk' ck', .slice pc' lc' cc', .slice pq' lq' cq']] wr fun r w' => r = .returned (.int .i64 (pA k n u)) ∧ Below wr.heap.size wr w') := hC
      clear hC HR HI
      generalize hZ : pA k n u = z' at *
      generalize hT : tot (pA k n) (es.take j) = T at *
      go_wp2_with fail
      refine HC.out.mono ?_
      rintro e w2 ⟨rfl, hb2⟩
      have HB2 : Hid (Below V.heap.size V w2) := HB.out.trans (hb2.mono HB.out.size)
      clear hb2
      go_wp2
      exact ⟨⟨j + 1, by omega, by congr 1; omega, by go_num, HB2⟩, by simp [intOf]; omega⟩
    · obtain rfl : j = es.length := by omega
      have HR1 : Hid (R = ((1 + lc + z + tot (pA k n) (es.take es.length) : Nat) : Int)) := by
        rw [List.take_length]
        exact HR.out
      generalize ((1 + lc + z + tot (pA k n) (es.take es.length) : Nat) : Int) = L at *
      go_wp2
      go_ret
      exact ⟨by rw [HR1.out]; rfl, HBw.out⟩
theorem sArm_next (k n : Nat) (IH : SpA k n) : SpA k (n + 1) := by
  intro S w hSw v t hV hbd
  obtain ⟨kd, op, pa, la, ca, pk, lk, ck, pc, cc, pq, cq, rfl, hN, hC, hK⟩ := hV
  rw [zA_succ] at hbd
  have hlc : t.coils.length ≤ 1048576 := by unfold zEls at hbd; omega
  have hno := hN.none
  have hp1 : ∀ W, Calls Tryz.prog 66 #[.agg #[.int .i64 kd, .int .i64 op, .slice pa la ca, .slice pk lk ck]] W fun r w' => r = .returned (.bool (isNone t.net)) ∧ Below W.heap.size W w' := fun W => by
    rw [hno]; exact sNone_any kd op pa la ca pk lk ck W
  have hp2 : ∀ W, Below w.heap.size w W → Calls Tryz.prog 67 #[.agg #[.int .i64 kd, .int .i64 op, .slice pa la ca, .slice pk lk ck]] W fun r w' => r = .returned (.int .i64 (pN (k + 1) t.net)) ∧ Below W.heap.size W w' :=
    fun W hW => sNet_any (k + 1) S W (fun b hb => Nat.lt_of_lt_of_le (hSw b hb) hW.size) _ t.net (hN.to (Keep.of hW hSw) (fun _ h => h)) (by omega)
  have hpn := pN_le (k + 1) t.net
  have hl : t.kids.length ≤ 1048576 := by unfold zAs at hbd; omega
  rw [pA_succ]
  cases hn : isNone t.net with
  | true =>
    rw [hn] at hp1
    rw [if_pos rfl]
    exact sArm_yes k n IH S w hSw kd op pa la ca pk lk ck pc t.coils.length cc pq cq t.kids hK (by omega) hlc hl 0 (by omega) hp1 (fun h => by cases h)
  | false =>
    rw [hn] at hp1
    rw [if_neg (by simp)]
    exact sArm_no k n IH S w hSw kd op pa la ca pk lk ck pc t.coils.length cc pq cq t.kids hK (by omega) hlc hl (pN (k + 1) t.net) (by omega) hp1 (fun _ => hp2)
theorem sArm_any (k : Nat) : ∀ n, SpA k n
  | 0 => fun _ _ _ _ _ h => h.elim
  | n + 1 => sArm_next k n (sArm_any k n)

set_option maxHeartbeats 1000000 in
theorem sTreeSize_any (k n : Nat) (S : Nat → Prop) (w : World) (hSw : ∀ b, S b → b < w.heap.size) (pq : Option Addr) (cq : Nat) (es : List (AT k n)) (hK : SlOf S (AmE S w k n) 6 pq cq es) (hz : zAs k n es ≤ 1048576) :
    Calls Tryz.prog 28 #[.slice pq es.length cq] w fun r w' => r = .returned (.int .i64 (tot (pA k n) es)) ∧ Below w.heap.size w w' := by
  have HL : Hid (∀ (j : Nat) (u : AT k n), es[j]? = some u → ∀ wr : World, Below w.heap.size w wr → _) := fun j u hu wr hB => loopA k n (sArm_any k n) S w w hSw (Below.refl _ _) pq cq es hK hz j u hu wr hB
  have htp := totA_le k n es
  obtain ⟨⟨hl1, hl2⟩, -⟩ := hK
  obtain ⟨R, hR⟩ : ∃ R : Int, R = ((tot (pA k n) es : Nat) : Int) := ⟨_, rfl⟩
  rw [← hR]
  have HR : Hid (R = ((tot (pA k n) es : Nat) : Int)) := hR
  clear hR hSw
  go_enter Tryz.func28, Tryz.ntmps28
  go_wp2
  go_loopw [3, 4] (fun c d w' => ∃ j : Nat, j ≤ es.length ∧ c = .int .i64 ((tot (pA k n) (es.take j) : Nat) : Int) ∧ d = .int .i64 (j : Int) ∧ Hid (Below w.heap.size w w')) (fun _ d _ => es.length - (intOf d).toNat)
  case atStart => exact ⟨0, by omega, rfl, rfl, Below.refl _ _⟩
  case round =>
    obtain ⟨j, hj, rfl, rfl, HB⟩ := hrel
    rename_i wr
    by_cases hlt : j < es.length
    · have hlt' : (j : Int) < (es.length : Int) := by omega
      obtain ⟨u, hu⟩ := get_lt hlt
      have hbd := tot_next (pA k n) hu
      have hle := tot_le (pA k n) es (j + 1)
      obtain ⟨b, off, kd, op, pa, la, ca, pk, lk, ck, pc, lc, cc, pq', lq, cq', rfl, c0, c1, c2, c3, c4, c5, hC⟩ := HL.out j u hu wr HB.out
      have HC : Hid (Calls Tryz.prog 55 #[.agg #[.int .i64 kd, .int .i64 op, .slice pa la ca, .slice pk lk ck, .slice pc lc cc, .slice pq' lq cq']] wr fun r w' => r = .returned (.int .i64 (pA k n u)) ∧ Below wr.heap.size wr w') := hC
      clear hC HR HL
      generalize hZ : pA k n u = z at *
      generalize hT : tot (pA k n) (es.take j) = T at *
      go_wp2_with fail
      refine HC.out.mono ?_
      rintro e w1 ⟨rfl, hb1⟩
      have HB1 : Hid (Below w.heap.size w w1) := HB.out.trans (hb1.mono HB.out.size)
      clear hb1
      go_wp2
      exact ⟨⟨j + 1, by omega, by congr 1; omega, by go_num, HB1⟩, by simp [intOf]; omega⟩
    · obtain rfl : j = es.length := by omega
      have HR1 : Hid (R = ((tot (pA k n) (es.take es.length) : Nat) : Int)) := by
        rw [List.take_length]
        exact HR.out
      generalize ((tot (pA k n) (es.take es.length) : Nat) : Int) = L at *
      go_wp2
      go_ret
      exact ⟨by rw [HR1.out]; rfl, HB.out⟩
end Go.Proofs.YtjkpingdokkkcaaGreatDoor.Tr

/- What is shown to a look of one arm. Helper text: no statement is claimed here. -/
namespace Go.Proofs.YtjkpingdokkkcaaGreatDoor.Tr
open Go.ChangeShapes Go.WideShapes Go.ChangeAt Go.RowKit
attribute [local go_sem] store_func

/-- What a look counts of an arm, its kids left aside. -/
def Lk.hA (L : Lk) (k : Nat) : (n : Nat) → AT k n → Nat
  | 0, _ => 0
  | n + 1, a => (if isNone a.net then 0 else L.gN (k + 1) a.net) + L.fA k (n + 1) a
def Lk.gA (L : Lk) (k : Nat) : (n : Nat) → AT k n → Nat
  | 0, _ => 0
  | n + 1, a => L.hA k (n + 1) a + tot (L.gA k n) a.kids
def Lk.gQ (L : Lk) (k : Nat) : (n : Nat) → AT k n → Nat
  | 0, _ => 0
  | n + 1, a => tot (L.gA k n) a.kids
theorem Lk.gA_eq (L : Lk) (k : Nat) : ∀ (n : Nat) (t : AT k n), L.gA k n t = L.hA k n t + L.gQ k n t
  | 0, t => Empty.elim t
  | _ + 1, _ => rfl
theorem kidsA_any (kd op : Int) (pa : Option Addr) (la ca : Nat) (pk : Option Addr) (lk ck : Nat) (pc : Option Addr) (lc cc : Nat) (pq : Option Addr) (lq cq : Nat) (w : World) :
    Calls Tryz.prog 41 #[.agg #[.int .i64 kd, .int .i64 op, .slice pa la ca, .slice pk lk ck, .slice pc lc cc, .slice pq lq cq]] w fun r w' => r = .returned (.slice pq lq cq) ∧ Below w.heap.size w w' := by
  go_enter Tryz.func41, Tryz.ntmps41
  go_wp2
  go_ret
  exact ⟨rfl, one _ _⟩
/-- A box of an arm. -/
def OwnR (w : World) (b : Nat) (cs : Array Value) : Prop := w.heap[b]? = some (.cells cs 52 (0, 0))
theorem OwnR.new (w : World) (cs : Array Value) : OwnR (w.alloc (.cells cs 52)) w.heap.size cs := last _ _
theorem OwnR.to {w w' : World} {b : Nat} {cs : Array Value} (h : OwnR w b cs) (hb : Below w.heap.size w w') : OwnR w' b cs := (hb.block b (Array.getElem?_eq_some_iff.1 h).1).trans h
theorem neq_nil (w : World) : (binOp .neq 61 .nilIface .nilIface).run Tryz.prog w = .ok (.bool false) w := by kernel_rfl

set_option maxHeartbeats 2000000 in
set_option maxRecDepth 100000 in
theorem show_any (L : Lk) (ok : L.Ok) (k n : Nat) (S : Nat → Prop) (w : World) (hS : Apart L.C S w) (v : Value) (t : AT k n) (hV : AmV S w k n v t) (PL : Nat) (hPL : w.cell? ⟨PL, 0, none⟩ = some L.val) (hPC : PL ≠ L.C) (s : Nat) (hs : L.cnt w s) (hbd0 : s + L.hA k n t ≤ 9223372036854775807) :
    Calls Tryz.prog 37 #[v, .pointer (some ⟨PL, 0, none⟩)] w fun r w' => r = .returned .nilIface ∧ L.cnt w' (s + L.hA k n t) ∧ But L.C w w' := by
  cases n with
  | zero => exact hV.elim
  | succ n =>
  have HV : Hid (AmV S w k (n + 1) v t) := hV
  obtain ⟨kd, op, pa, la, ca, pk, lk, ck, pc, cc, pq, cq, rfl, hN, -, -⟩ := hV
  have hlt := ok.lt _ _ hs
  have hnC : w.heap.size ≠ L.C := by omega
  have hbd : s + ((if isNone t.net then 0 else L.gN (k + 1) t.net) + L.fA k (n + 1) t) ≤ 9223372036854775807 := hbd0
  clear hbd0
  have HC1 : Hid (∀ W, Below w.heap.size w W → Calls Tryz.prog 38 #[.agg #[.int .i64 kd, .int .i64 op, .slice pa la ca, .slice pk lk ck]] W fun r w' => r = .returned (.bool (isNone t.net)) ∧ Below W.heap.size W w') :=
    fun W hW => iNone_any k S W (fun b hb => Nat.lt_of_lt_of_le (hS b hb).1 hW.size) _ t.net (hN.to (Keep.of hW (fun b hb => (hS b hb).1)) (fun _ h => h))
  have HC2 : Hid (∀ W, Below w.heap.size w W → ∀ s', L.cnt W s' → s' + L.gN (k + 1) t.net ≤ 9223372036854775807 → Calls Tryz.prog 39 #[.agg #[.int .i64 kd, .int .i64 op, .slice pa la ca, .slice pk lk ck], L.val] W fun r w' => r = .returned .nilIface ∧ L.cnt w' (s' + L.gN (k + 1) t.net) ∧ But L.C W w') :=
    fun W hW s' hs' hb' => treeNets_any L ok (k + 1) S W (hS.to hW.size) _ t.net (hN.to (Keep.of hW (fun b hb => (hS b hb).1)) (fun _ h => h)) s' hs' hb'
  have HC3 : Hid (∀ W, But L.C w W → ∀ s', L.cnt W s' → s' + L.fA k (n + 1) t ≤ 9223372036854775807 → Calls Tryz.prog L.fa #[.pointer (some ⟨L.C, 0, none⟩), .agg #[.int .i64 kd, .int .i64 op, .slice pa la ca, .slice pk lk ck, .slice pc t.coils.length cc, .slice pq t.kids.length cq]] W fun r w' => r = .returned .nilIface ∧ L.cnt w' (s' + L.fA k (n + 1) t) ∧ But L.C W w') :=
    fun W hW s' hs' hb' => ok.arm S W k (n + 1) _ t s' (hS.to hW.size) (HV.out.to (hW.keep hS) (fun _ h => h)) hs' hb'
  show Calls _ _ _ _ fun r w' => _ ∧ L.cnt w' (s + ((if isNone t.net then 0 else L.gN (k + 1) t.net) + L.fA k (n + 1) t)) ∧ _
  have HN : Hid (L.cnt w s) := hs
  have HO : Hid L.Ok := ok
  obtain ⟨TL, hTL⟩ : ∃ TL, TL = L.T := ⟨_, rfl⟩
  obtain ⟨C, hCC⟩ : ∃ C, C = L.C := ⟨_, rfl⟩
  rw [show L.val = .iface TL (.pointer (some ⟨C, 0, none⟩)) by rw [hTL, hCC]; rfl] at HC2 hPL
  have HTL : Hid (TL = L.T) := hTL
  have HCC : Hid (C = L.C) := hCC
  have hPLl : PL < w.heap.size := World.block_lt_of_cell? _ _ hPL
  have hnn := neq_nil
  clear hTL hCC hS hN hs ok HV
  generalize t.coils.length = lc at *
  generalize t.kids.length = lq at *
  have HD : Hid (s + ((if isNone t.net then 0 else L.gN (k + 1) t.net) + L.fA k (n + 1) t) ≤ 9223372036854775807) := hbd
  clear hbd
  generalize L.fA k (n + 1) t = zA at *
  generalize L.gN (k + 1) t.net = zN at *
  cases hb : isNone t.net with
  | true =>
    rw [hb] at HC1
    rw [hb, if_pos rfl, Nat.zero_add] at HD
    rw [if_pos rfl, Nat.zero_add]
    clear hb HC2
    go_enter Tryz.func37, Tryz.ntmps37
    go_wp2_with fail
    have HBa : Hid (Below w.heap.size w (w.alloc (.cells #[.int .i64 kd, .int .i64 op, .slice pa la ca, .slice pk lk ck, .slice pc lc cc, .slice pq lq cq] 52))) := one _ _
    have HOw : Hid (OwnR (w.alloc (.cells #[.int .i64 kd, .int .i64 op, .slice pa la ca, .slice pk lk ck, .slice pc lc cc, .slice pq lq cq] 52)) w.heap.size #[.int .i64 kd, .int .i64 op, .slice pa la ca, .slice pk lk ck, .slice pc lc cc, .slice pq lq cq]) := OwnR.new _ _
    generalize w.alloc (.cells #[.int .i64 kd, .int .i64 op, .slice pa la ca, .slice pk lk ck, .slice pc lc cc, .slice pq lq cq] 52) = V at *
    refine (HC1.out V HBa.out).mono ?_
    rintro r w1 ⟨rfl, hb1⟩
    have HB1 : Hid (Below w.heap.size w w1) := HBa.out.trans (hb1.mono HBa.out.size)
    have HO1 : Hid (OwnR w1 w.heap.size #[.int .i64 kd, .int .i64 op, .slice pa la ca, .slice pk lk ck, .slice pc lc cc, .slice pq lq cq]) := HOw.out.to hb1
    have HN1 : Hid (L.cnt w1 s) := HO.out.to _ _ _ HN.out HB1.out
    have q0 : w1.cell? ⟨w.heap.size, 0, none⟩ = some (.int .i64 kd) := cell_of_row _ _ 0 _ _ _ HO1.out
    have q1 : w1.cell? ⟨w.heap.size, 1, none⟩ = some (.int .i64 op) := cell_of_row _ _ 1 _ _ _ HO1.out
    have q2 : w1.cell? ⟨w.heap.size, 2, none⟩ = some (.slice pa la ca) := cell_of_row _ _ 2 _ _ _ HO1.out
    have q3 : w1.cell? ⟨w.heap.size, 3, none⟩ = some (.slice pk lk ck) := cell_of_row _ _ 3 _ _ _ HO1.out
    have q4 : w1.cell? ⟨w.heap.size, 4, none⟩ = some (.slice pc lc cc) := cell_of_row _ _ 4 _ _ _ HO1.out
    have q5 : w1.cell? ⟨w.heap.size, 5, none⟩ = some (.slice pq lq cq) := cell_of_row _ _ 5 _ _ _ HO1.out
    have qL := keep2 HB1.out hPL
    clear hb1 HOw
    go_wp2_with fail
    refine upon_method (f := L.fa) (r := .pointer (some ⟨C, 0, none⟩)) (v := .nilIface) (g := fun z => #[z, .agg #[.int .i64 kd, .int .i64 op, .slice pa la ca, .slice pk lk ck, .slice pc lc cc, .slice pq lq cq]]) (R := fun w' => L.cnt w' (s + zA) ∧ But L.C w1 w') ?_ HO.out.callA ?_ ?_
    · rw [HTL.out, HCC.out]; exact HO.out.meA _ (fun p w => ⟨by kernel_rfl, by kernel_rfl⟩) w1
    · show Calls _ _ #[.pointer (some ⟨C, 0, none⟩), _] _ _
      rw [HCC.out]
      exact HC3.out w1 (But.of HB1.out) s HN1.out HD.out
    · rintro w2 ⟨hn2, hb2⟩
      have HN2 : Hid (L.cnt w2 (s + zA)) := hn2
      have HB2 : Hid (But L.C w w2) := (But.of HB1.out).trans hb2
      clear hn2 hb2
      go_wp2
      go_ret
      exact ⟨rfl, HN2.out, HB2.out⟩
  | false =>
    rw [hb] at HC1
    rw [hb, if_neg (by simp)] at HD
    rw [if_neg (by simp)]
    clear hb
    go_enter Tryz.func37, Tryz.ntmps37
    go_wp2_with fail
    have HBa : Hid (Below w.heap.size w (w.alloc (.cells #[.int .i64 kd, .int .i64 op, .slice pa la ca, .slice pk lk ck, .slice pc lc cc, .slice pq lq cq] 52))) := one _ _
    have HOw : Hid (OwnR (w.alloc (.cells #[.int .i64 kd, .int .i64 op, .slice pa la ca, .slice pk lk ck, .slice pc lc cc, .slice pq lq cq] 52)) w.heap.size #[.int .i64 kd, .int .i64 op, .slice pa la ca, .slice pk lk ck, .slice pc lc cc, .slice pq lq cq]) := OwnR.new _ _
    generalize w.alloc (.cells #[.int .i64 kd, .int .i64 op, .slice pa la ca, .slice pk lk ck, .slice pc lc cc, .slice pq lq cq] 52) = V at *
    refine (HC1.out V HBa.out).mono ?_
    rintro r w1 ⟨rfl, hb1⟩
    have HB1 : Hid (Below w.heap.size w w1) := HBa.out.trans (hb1.mono HBa.out.size)
    have HO1 : Hid (OwnR w1 w.heap.size #[.int .i64 kd, .int .i64 op, .slice pa la ca, .slice pk lk ck, .slice pc lc cc, .slice pq lq cq]) := HOw.out.to hb1
    have HN1 : Hid (L.cnt w1 s) := HO.out.to _ _ _ HN.out HB1.out
    have q0 : w1.cell? ⟨w.heap.size, 0, none⟩ = some (.int .i64 kd) := cell_of_row _ _ 0 _ _ _ HO1.out
    have q1 : w1.cell? ⟨w.heap.size, 1, none⟩ = some (.int .i64 op) := cell_of_row _ _ 1 _ _ _ HO1.out
    have q2 : w1.cell? ⟨w.heap.size, 2, none⟩ = some (.slice pa la ca) := cell_of_row _ _ 2 _ _ _ HO1.out
    have q3 : w1.cell? ⟨w.heap.size, 3, none⟩ = some (.slice pk lk ck) := cell_of_row _ _ 3 _ _ _ HO1.out
    have q4 : w1.cell? ⟨w.heap.size, 4, none⟩ = some (.slice pc lc cc) := cell_of_row _ _ 4 _ _ _ HO1.out
    have q5 : w1.cell? ⟨w.heap.size, 5, none⟩ = some (.slice pq lq cq) := cell_of_row _ _ 5 _ _ _ HO1.out
    have qL := keep2 HB1.out hPL
    clear hb1 HOw
    go_wp2_with fail
    refine (HC2.out w1 HB1.out s HN1.out (by have := HD.out; omega)).mono ?_
    rintro r w2 ⟨rfl, hn2, hb2⟩
    have HN2 : Hid (L.cnt w2 (s + zN)) := hn2
    have HB2 : Hid (But L.C w w2) := (But.of HB1.out).trans hb2
    replace q0 := hb2.cell hnC q0
    replace q1 := hb2.cell hnC q1
    replace q2 := hb2.cell hnC q2
    replace q3 := hb2.cell hnC q3
    replace q4 := hb2.cell hnC q4
    replace q5 := hb2.cell hnC q5
    replace qL := hb2.cell hPC qL
    clear hn2 hb2
    go_wp2_with fail
    refine upon_method (f := L.fa) (r := .pointer (some ⟨C, 0, none⟩)) (v := .nilIface) (g := fun z => #[z, .agg #[.int .i64 kd, .int .i64 op, .slice pa la ca, .slice pk lk ck, .slice pc lc cc, .slice pq lq cq]]) (R := fun w' => L.cnt w' (s + zN + zA) ∧ But L.C w2 w') ?_ HO.out.callA ?_ ?_
    · rw [HTL.out, HCC.out]; exact HO.out.meA _ (fun p w => ⟨by kernel_rfl, by kernel_rfl⟩) w2
    · show Calls _ _ #[.pointer (some ⟨C, 0, none⟩), _] _ _
      rw [HCC.out]
      exact HC3.out w2 HB2.out (s + zN) HN2.out (by have := HD.out; omega)
    · rintro w3 ⟨hn3, hb3⟩
      have HN3 : Hid (L.cnt w3 (s + (zN + zA))) := by rw [← Nat.add_assoc]; exact hn3
      have HB3 : Hid (But L.C w w3) := HB2.out.trans hb3
      clear hn3 hb3
      go_wp2
      go_ret
      exact ⟨rfl, HN3.out, HB3.out⟩
end Go.Proofs.YtjkpingdokkkcaaGreatDoor.Tr

/- What is shown of one arm to a look that may stop. Helper text: no statement is claimed here. -/
namespace Go.Proofs.YtjkpingdokkkcaaGreatDoor.Tr
open Go.ChangeShapes Go.WideShapes Go.ChangeAt Go.RowKit
attribute [local go_sem] store_func

/-- What a look makes of an arm, its kids left aside. -/
def Sk.hA (L : Sk) (k : Nat) : (n : Nat) → AT k n → Nat → Nat × Option Int
  | 0, _, s => (s, none)
  | n + 1, a, s => if isNone a.net then L.gA k (n + 1) a s else if (L.rN (k + 1) a.net s).2 = none then L.gA k (n + 1) a (L.rN (k + 1) a.net s).1 else L.rN (k + 1) a.net s
/-- What a look makes of an arm and all within it. -/
def Sk.rA (L : Sk) (k : Nat) : (n : Nat) → AT k n → Nat → Nat × Option Int
  | 0, _, s => (s, none)
  | n + 1, a, s => if (L.hA k (n + 1) a s).2 = none then runL (L.rA k n) a.kids (L.hA k (n + 1) a s).1 else L.hA k (n + 1) a s
def Sk.rQ (L : Sk) (k : Nat) : (n : Nat) → AT k n → Nat → Nat × Option Int
  | 0, _, s => (s, none)
  | n + 1, a, s => runL (L.rA k n) a.kids s
theorem Sk.rA_go (L : Sk) (k : Nat) : ∀ (n : Nat) (t : AT k n) (s : Nat), (L.hA k n t s).2 = none → L.rA k n t s = L.rQ k n t (L.hA k n t s).1
  | 0, t, _, _ => Empty.elim t
  | n + 1, t, s, h => by
    show (if _ then _ else _) = _
    rw [if_pos h]; rfl
theorem Sk.rA_stop (L : Sk) (k : Nat) : ∀ (n : Nat) (t : AT k n) (s : Nat), (L.hA k n t s).2 ≠ none → L.rA k n t s = L.hA k n t s
  | 0, t, _, _ => Empty.elim t
  | n + 1, t, s, h => by
    show (if _ then _ else _) = _
    rw [if_neg h]

set_option maxHeartbeats 4000000 in
set_option maxRecDepth 100000 in
theorem skShow_any (L : Sk) (ok : L.Ok) (k n : Nat) (S : Nat → Prop) (w : World) (hS : Apart L.C S w) (v : Value) (t : AT k n) (hV : AmV S w k n v t) (hz : zA k n t ≤ 1048575) (PL : Nat) (hPL : w.cell? ⟨PL, 0, none⟩ = some L.val) (hPC : PL ≠ L.C) (s : Nat) (hs : L.cnt w s) :
    Calls Tryz.prog 37 #[v, .pointer (some ⟨PL, 0, none⟩)] w fun r w' => r = .returned (errV (L.hA k n t s).2) ∧ ((L.hA k n t s).2 = none → L.cnt w' (L.hA k n t s).1) ∧ But L.C w w' := by
  cases n with
  | zero => exact hV.elim
  | succ n =>
  have HV : Hid (AmV S w k (n + 1) v t) := hV
  obtain ⟨kd, op, pa, la, ca, pk, lk, ck, pc, cc, pq, cq, rfl, hN, -, -⟩ := hV
  have hlt := ok.lt _ _ hs
  have hnC : w.heap.size ≠ L.C := by omega
  have hzN : zN (k + 1) t.net ≤ 1048575 := by have := zA_succ k n t; omega
  have hzA : zA k (n + 1) t ≤ 1048576 := by omega
  have HC1 : Hid (∀ W, Below w.heap.size w W → Calls Tryz.prog 38 #[.agg #[.int .i64 kd, .int .i64 op, .slice pa la ca, .slice pk lk ck]] W fun r w' => r = .returned (.bool (isNone t.net)) ∧ Below W.heap.size W w') :=
    fun W hW => iNone_any k S W (fun b hb => Nat.lt_of_lt_of_le (hS b hb).1 hW.size) _ t.net (hN.to (Keep.of hW (fun b hb => (hS b hb).1)) (fun _ h => h))
  have HC2 : Hid (∀ W, Below w.heap.size w W → L.cnt W s → Calls Tryz.prog 39 #[.agg #[.int .i64 kd, .int .i64 op, .slice pa la ca, .slice pk lk ck], L.val] W fun r w' => r = .returned (errV (L.rN (k + 1) t.net s).2) ∧ ((L.rN (k + 1) t.net s).2 = none → L.cnt w' (L.rN (k + 1) t.net s).1) ∧ But L.C W w') :=
    fun W hW hs' => skNets_any L ok (k + 1) S W (hS.to hW.size) _ t.net (hN.to (Keep.of hW (fun b hb => (hS b hb).1)) (fun _ h => h)) hzN s hs'
  have HC3 : Hid (∀ W, But L.C w W → ∀ s', L.cnt W s' → Calls Tryz.prog L.fa #[L.dv, .agg #[.int .i64 kd, .int .i64 op, .slice pa la ca, .slice pk lk ck, .slice pc t.coils.length cc, .slice pq t.kids.length cq]] W fun r w' => r = .returned (errV (L.gA k (n + 1) t s').2) ∧ ((L.gA k (n + 1) t s').2 = none → L.cnt w' (L.gA k (n + 1) t s').1) ∧ But L.C W w') :=
    fun W hW s' hs' => ok.arm S W k (n + 1) _ t s' (hS.to hW.size) (HV.out.to (hW.keep hS) (fun _ h => h)) hzA hs'
  have HN : Hid (L.cnt w s) := hs
  have HO : Hid L.Ok := ok
  obtain ⟨TL, hTL⟩ : ∃ TL, TL = L.T := ⟨_, rfl⟩
  obtain ⟨dv, hdv⟩ : ∃ dv, dv = L.dv := ⟨_, rfl⟩
  rw [show L.val = .iface TL dv by rw [hTL, hdv]; rfl] at HC2 hPL
  have HTL : Hid (TL = L.T) := hTL
  have HDV : Hid (dv = L.dv) := hdv
  have hPLl : PL < w.heap.size := World.block_lt_of_cell? _ _ hPL
  have hne := neq_err
  have hnn := neq_non
  clear hTL hdv hS hN hs ok HV hz hzN hzA
  have HRt : Hid (isNone t.net = true → L.hA k (n + 1) t s = L.gA k (n + 1) t s) := fun h => by
    show (if _ then _ else _) = _
    rw [if_pos h]
  have HRs : Hid (isNone t.net = false → (L.rN (k + 1) t.net s).2 ≠ none → L.hA k (n + 1) t s = L.rN (k + 1) t.net s) := fun h h2 => by
    show (if _ then _ else _) = _
    rw [if_neg (by rw [h]; simp), if_neg h2]
  have HRg : Hid (isNone t.net = false → (L.rN (k + 1) t.net s).2 = none → L.hA k (n + 1) t s = L.gA k (n + 1) t (L.rN (k + 1) t.net s).1) := fun h h2 => by
    show (if _ then _ else _) = _
    rw [if_neg (by rw [h]; simp), if_pos h2]
  generalize t.coils.length = lc at *
  generalize t.kids.length = lq at *
  generalize L.rN (k + 1) t.net s = RN at *
  generalize L.hA k (n + 1) t s = R at *
  cases hb : isNone t.net with
  | true =>
    rw [hb] at HC1
    have HE : Hid (R = L.gA k (n + 1) t s) := HRt.out hb
    clear hb HC2 HRt HRs HRg
    go_enter Tryz.func37, Tryz.ntmps37
    go_wp2_with fail
    have HBa : Hid (Below w.heap.size w (w.alloc (.cells #[.int .i64 kd, .int .i64 op, .slice pa la ca, .slice pk lk ck, .slice pc lc cc, .slice pq lq cq] 52))) := one _ _
    have HOw : Hid (OwnR (w.alloc (.cells #[.int .i64 kd, .int .i64 op, .slice pa la ca, .slice pk lk ck, .slice pc lc cc, .slice pq lq cq] 52)) w.heap.size #[.int .i64 kd, .int .i64 op, .slice pa la ca, .slice pk lk ck, .slice pc lc cc, .slice pq lq cq]) := OwnR.new _ _
    generalize w.alloc (.cells #[.int .i64 kd, .int .i64 op, .slice pa la ca, .slice pk lk ck, .slice pc lc cc, .slice pq lq cq] 52) = V at *
    refine (HC1.out V HBa.out).mono ?_
    rintro r w1 ⟨rfl, hb1⟩
    have HB1 : Hid (Below w.heap.size w w1) := HBa.out.trans (hb1.mono HBa.out.size)
    have HO1 : Hid (OwnR w1 w.heap.size #[.int .i64 kd, .int .i64 op, .slice pa la ca, .slice pk lk ck, .slice pc lc cc, .slice pq lq cq]) := HOw.out.to hb1
    have HN1 : Hid (L.cnt w1 s) := HO.out.to _ _ _ HN.out HB1.out
    have q0 : w1.cell? ⟨w.heap.size, 0, none⟩ = some (.int .i64 kd) := cell_of_row _ _ 0 _ _ _ HO1.out
    have q1 : w1.cell? ⟨w.heap.size, 1, none⟩ = some (.int .i64 op) := cell_of_row _ _ 1 _ _ _ HO1.out
    have q2 : w1.cell? ⟨w.heap.size, 2, none⟩ = some (.slice pa la ca) := cell_of_row _ _ 2 _ _ _ HO1.out
    have q3 : w1.cell? ⟨w.heap.size, 3, none⟩ = some (.slice pk lk ck) := cell_of_row _ _ 3 _ _ _ HO1.out
    have q4 : w1.cell? ⟨w.heap.size, 4, none⟩ = some (.slice pc lc cc) := cell_of_row _ _ 4 _ _ _ HO1.out
    have q5 : w1.cell? ⟨w.heap.size, 5, none⟩ = some (.slice pq lq cq) := cell_of_row _ _ 5 _ _ _ HO1.out
    have qL := keep2 HB1.out hPL
    clear hb1 HOw
    go_wp2_with fail
    refine upon_method (f := L.fa) (r := dv) (v := errV (L.gA k (n + 1) t s).2) (g := fun z => #[z, .agg #[.int .i64 kd, .int .i64 op, .slice pa la ca, .slice pk lk ck, .slice pc lc cc, .slice pq lq cq]]) (R := fun w' => ((L.gA k (n + 1) t s).2 = none → L.cnt w' (L.gA k (n + 1) t s).1) ∧ But L.C w1 w') ?_ HO.out.callA ?_ ?_
    · rw [HTL.out, HDV.out]; exact HO.out.meA _ (fun p w => ⟨by kernel_rfl, by kernel_rfl⟩) w1
    · show Calls _ _ #[dv, _] _ _
      rw [HDV.out]
      exact HC3.out w1 (But.of HB1.out) s HN1.out
    · rintro w3 ⟨hn3, hb3⟩
      have HN3 : Hid ((L.gA k (n + 1) t s).2 = none → L.cnt w3 (L.gA k (n + 1) t s).1) := hn3
      have HB3 : Hid (But L.C w w3) := (But.of HB1.out).trans hb3
      clear hn3 hb3
      generalize L.gA k (n + 1) t s = RA at *
      go_wp2
      go_ret
      rw [HE.out]
      exact ⟨rfl, HN3.out, HB3.out⟩
  | false =>
    rw [hb] at HC1
    have HEs : Hid (RN.2 ≠ none → R = RN) := HRs.out hb
    have HEg : Hid (RN.2 = none → R = L.gA k (n + 1) t RN.1) := HRg.out hb
    clear hb HRt HRs HRg
    go_enter Tryz.func37, Tryz.ntmps37
    go_wp2_with fail
    have HBa : Hid (Below w.heap.size w (w.alloc (.cells #[.int .i64 kd, .int .i64 op, .slice pa la ca, .slice pk lk ck, .slice pc lc cc, .slice pq lq cq] 52))) := one _ _
    have HOw : Hid (OwnR (w.alloc (.cells #[.int .i64 kd, .int .i64 op, .slice pa la ca, .slice pk lk ck, .slice pc lc cc, .slice pq lq cq] 52)) w.heap.size #[.int .i64 kd, .int .i64 op, .slice pa la ca, .slice pk lk ck, .slice pc lc cc, .slice pq lq cq]) := OwnR.new _ _
    generalize w.alloc (.cells #[.int .i64 kd, .int .i64 op, .slice pa la ca, .slice pk lk ck, .slice pc lc cc, .slice pq lq cq] 52) = V at *
    refine (HC1.out V HBa.out).mono ?_
    rintro r w1 ⟨rfl, hb1⟩
    have HB1 : Hid (Below w.heap.size w w1) := HBa.out.trans (hb1.mono HBa.out.size)
    have HO1 : Hid (OwnR w1 w.heap.size #[.int .i64 kd, .int .i64 op, .slice pa la ca, .slice pk lk ck, .slice pc lc cc, .slice pq lq cq]) := HOw.out.to hb1
    have HN1 : Hid (L.cnt w1 s) := HO.out.to _ _ _ HN.out HB1.out
    have q0 : w1.cell? ⟨w.heap.size, 0, none⟩ = some (.int .i64 kd) := cell_of_row _ _ 0 _ _ _ HO1.out
    have q1 : w1.cell? ⟨w.heap.size, 1, none⟩ = some (.int .i64 op) := cell_of_row _ _ 1 _ _ _ HO1.out
    have q2 : w1.cell? ⟨w.heap.size, 2, none⟩ = some (.slice pa la ca) := cell_of_row _ _ 2 _ _ _ HO1.out
    have q3 : w1.cell? ⟨w.heap.size, 3, none⟩ = some (.slice pk lk ck) := cell_of_row _ _ 3 _ _ _ HO1.out
    have q4 : w1.cell? ⟨w.heap.size, 4, none⟩ = some (.slice pc lc cc) := cell_of_row _ _ 4 _ _ _ HO1.out
    have q5 : w1.cell? ⟨w.heap.size, 5, none⟩ = some (.slice pq lq cq) := cell_of_row _ _ 5 _ _ _ HO1.out
    have qL := keep2 HB1.out hPL
    clear hb1 HOw
    go_wp2_with fail
    refine (HC2.out w1 HB1.out HN1.out).mono ?_
    rintro r w2 ⟨rfl, hn2, hb2⟩
    have HB2 : Hid (But L.C w w2) := (But.of HB1.out).trans hb2
    replace q0 := hb2.cell hnC q0
    replace q1 := hb2.cell hnC q1
    replace q2 := hb2.cell hnC q2
    replace q3 := hb2.cell hnC q3
    replace q4 := hb2.cell hnC q4
    replace q5 := hb2.cell hnC q5
    replace qL := hb2.cell hPC qL
    obtain ⟨sN, eN⟩ := RN
    cases eN with
    | some c =>
      have HE : Hid (R = (sN, some c)) := HEs.out (by simp)
      clear hn2 hb2 HEs HEg
      rw [errV_some]
      go_wp2
      go_ret
      rw [HE.out]
      exact ⟨rfl, fun h => (by cases h), HB2.out⟩
    | none =>
      have HE : Hid (R = L.gA k (n + 1) t sN) := HEg.out rfl
      have HN2 : Hid (L.cnt w2 sN) := hn2 rfl
      clear hn2 hb2 HEs HEg
      rw [errV_none]
      go_wp2_with fail
      refine upon_method (f := L.fa) (r := dv) (v := errV (L.gA k (n + 1) t sN).2) (g := fun z => #[z, .agg #[.int .i64 kd, .int .i64 op, .slice pa la ca, .slice pk lk ck, .slice pc lc cc, .slice pq lq cq]]) (R := fun w' => ((L.gA k (n + 1) t sN).2 = none → L.cnt w' (L.gA k (n + 1) t sN).1) ∧ But L.C w2 w') ?_ HO.out.callA ?_ ?_
      · rw [HTL.out, HDV.out]; exact HO.out.meA _ (fun p w => ⟨by kernel_rfl, by kernel_rfl⟩) w2
      · show Calls _ _ #[dv, _] _ _
        rw [HDV.out]
        exact HC3.out w2 (HB2.out) sN HN2.out
      · rintro w3 ⟨hn3, hb3⟩
        have HN3 : Hid ((L.gA k (n + 1) t sN).2 = none → L.cnt w3 (L.gA k (n + 1) t sN).1) := hn3
        have HB3 : Hid (But L.C w w3) := (HB2.out).trans hb3
        clear hn3 hb3
        generalize L.gA k (n + 1) t sN = RA at *
        go_wp2
        go_ret
        rw [HE.out]
        exact ⟨rfl, HN3.out, HB3.out⟩
end Go.Proofs.YtjkpingdokkkcaaGreatDoor.Tr
