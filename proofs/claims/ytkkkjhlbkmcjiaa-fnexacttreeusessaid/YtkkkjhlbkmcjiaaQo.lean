/- The document's TreeSize: arms and ladders. Helper text: no statement is claimed here. -/
import Derived.Test.YtkkkjhlbkmcjiaaQn
namespace Go.Proofs.Ytkkkjhlbkmcjiaa.Tr
open Go.ChangeShapes Go.WideShapes Go.ChangeAt Go.RowKit

theorem NtV.none {S : Nat → Prop} {w : World} {n : Nat} {kd op : Int} {pa pk : Option Addr} {la ca lk ck : Nat} {t : NT (n + 1)} (h : NtV S w (n + 1) (.agg #[.int .i64 kd, .int .i64 op, .slice pa la ca, .slice pk lk ck]) t) :
    isNone t = (decide (kd = 0) && decide (op = 0) && decide (la = 0) && decide (lk = 0)) := by
  obtain ⟨pa', ca', pk', ck', he, _, _⟩ := h
  simp only [Value.agg.injEq, Array.mk.injEq, List.cons.injEq, Value.int.injEq, Value.slice.injEq, true_and, and_true] at he
  obtain ⟨rfl, rfl, ⟨rfl, rfl, rfl⟩, rfl, rfl, rfl⟩ := he
  rfl
def SpA (k n : Nat) : Prop := ∀ (S : Nat → Prop) (w : World) (_ : ∀ b, S b → b < w.heap.size) (v : Value) (t : AT k n) (_ : AmV S w k n v t) (_ : zA k n t ≤ 1048576),
    Calls Try.prog 17 #[v] w fun r w' => r = .returned (.int .i64 (pA k n t)) ∧ Below w.heap.size w w'
/-- The loop over the kids of an arm, from a number on. -/
def LoopA (k n : Nat) : Prop := ∀ (S : Nat → Prop) (w V : World) (_ : ∀ b, S b → b < w.heap.size) (_ : Below w.heap.size w V) (pq : Option Addr) (cq : Nat) (es : List (AT k n)) (_ : SlOf S (AmE S w k n) 6 pq cq es) (_ : zAs k n es ≤ 1048576) (j : Nat) (u : AT k n) (_ : es[j]? = some u) (wr : World) (_ : Below V.heap.size V wr),
    ∃ b off kd op pa la ca pk lk ck pc lc cc pq' lq cq', pq = some ⟨b, off, none⟩ ∧ wr.cell? ⟨b, off + j * 6, none⟩ = some (.int .i64 kd) ∧ wr.cell? ⟨b, off + j * 6 + 1, none⟩ = some (.int .i64 op) ∧ wr.cell? ⟨b, off + j * 6 + 2, none⟩ = some (.slice pa la ca) ∧ wr.cell? ⟨b, off + j * 6 + 3, none⟩ = some (.slice pk lk ck) ∧
      wr.cell? ⟨b, off + j * 6 + 4, none⟩ = some (.slice pc lc cc) ∧ wr.cell? ⟨b, off + j * 6 + 5, none⟩ = some (.slice pq' lq cq') ∧
      Calls Try.prog 17 #[.agg #[.int .i64 kd, .int .i64 op, .slice pa la ca, .slice pk lk ck, .slice pc lc cc, .slice pq' lq cq']] wr fun r w' => r = .returned (.int .i64 (pA k n u)) ∧ Below wr.heap.size wr w'
theorem loopA (k n : Nat) (IH : SpA k n) : LoopA k n := by
  intro S w V hSw hV pq cq es hK hz j u hu wr hB
  have hBw : Below w.heap.size w wr := hV.trans (hB.mono hV.size)
  obtain ⟨b, off, rfl, hb, hE⟩ := (arms_to (Keep.of hBw hSw) (fun _ h => h) hK).get hu
  obtain ⟨kd, op, pa, la, ca, pk, lk, ck, pc, lc, cc, pq', lq, cq', c0, c1, c2, c3, c4, c5, hN⟩ := hE.out
  exact ⟨b, off, kd, op, pa, la, ca, pk, lk, ck, pc, lc, cc, pq', lq, cq', rfl, c0, c1, c2, c3, c4, c5, IH S wr (fun b hb => Nat.lt_of_lt_of_le (hSw b hb) hBw.size) _ u hN (by have := tot_get (zA k n) hu; unfold zAs at hz; omega)⟩
theorem totA_le (k n : Nat) (es : List (AT k n)) : tot (pA k n) es ≤ 2 * zAs k n es := by
  have h := tot_mono es (f := pA k n) (g := fun u => 2 + 2 * zA k n u) (fun u _ => pA_le k n u)
  rw [tot_two] at h
  unfold zAs
  omega
set_option maxHeartbeats 2000000 in
theorem sArm_yes (k n : Nat) (IH : SpA k n) (S : Nat → Prop) (w : World) (hSw : ∀ b, S b → b < w.heap.size) (kd op : Int) (pa : Option Addr) (la ca : Nat) (pk : Option Addr) (lk ck : Nat) (pc : Option Addr) (lc cc : Nat) (pq : Option Addr) (cq : Nat) (es : List (AT k n))
    (hK : SlOf S (AmE S w k n) 6 pq cq es) (hz : zAs k n es ≤ 1048576) (hlc : lc ≤ 1048576) (hle : es.length ≤ 1048576) (z : Nat) (_hzz : z ≤ 1048577)
    (h1 : ∀ W, Calls Try.prog 31 #[.agg #[.int .i64 kd, .int .i64 op, .slice pa la ca, .slice pk lk ck]] W fun r w' => r = .returned (.bool true) ∧ Below W.heap.size W w')
    (h2 : true = false → ∀ W, Below w.heap.size w W → Calls Try.prog 32 #[.agg #[.int .i64 kd, .int .i64 op, .slice pa la ca, .slice pk lk ck]] W fun r w' => r = .returned (.int .i64 z) ∧ Below W.heap.size W w') :
    Calls Try.prog 17 #[.agg #[.int .i64 kd, .int .i64 op, .slice pa la ca, .slice pk lk ck, .slice pc lc cc, .slice pq es.length cq]] w fun r w' => r = .returned (.int .i64 ((1 + lc + 0 + tot (pA k n) es : Nat) : Int)) ∧ Below w.heap.size w w' := by
  have htp : tot (pA k n) es ≤ 2097152 := Nat.le_trans (totA_le k n es) (by omega)
  have HV : Hid (SlOf S (AmE S w k n) 6 pq cq es) := hK
  have HSw : Hid (∀ b, S b → b < w.heap.size) := hSw
  have HI : Hid (LoopA k n) := loopA k n IH
  have HZ : Hid (zAs k n es ≤ 1048576) := hz
  have H1 : Hid (∀ W, Calls Try.prog 31 #[.agg #[.int .i64 kd, .int .i64 op, .slice pa la ca, .slice pk lk ck]] W fun r w' => r = .returned (.bool true) ∧ Below W.heap.size W w') := h1
  have H2 : Hid (true = false → ∀ W, Below w.heap.size w W → Calls Try.prog 32 #[.agg #[.int .i64 kd, .int .i64 op, .slice pa la ca, .slice pk lk ck]] W fun r w' => r = .returned (.int .i64 z) ∧ Below W.heap.size W w') := h2
  obtain ⟨R, hR⟩ : ∃ R : Int, R = ((1 + lc + 0 + tot (pA k n) es : Nat) : Int) := ⟨_, rfl⟩
  rw [← hR]
  have HR : Hid (R = ((1 + lc + 0 + tot (pA k n) es : Nat) : Int)) := hR
  clear hR hSw hK hz h1 h2 IH
  go_enter Try.func17, Try.ntmps17
  go_wp2_with fail
  have HBa : Hid (Below w.heap.size w (w.alloc (.cells #[.int .i64 kd, .int .i64 op, .slice pa la ca, .slice pk lk ck, .slice pc lc cc, .slice pq es.length cq] 55))) := one _ _
  have HLa : Hid ((w.alloc (.cells #[.int .i64 kd, .int .i64 op, .slice pa la ca, .slice pk lk ck, .slice pc lc cc, .slice pq es.length cq] 55)).heap[w.heap.size]? = some (.cells #[.int .i64 kd, .int .i64 op, .slice pa la ca, .slice pk lk ck, .slice pc lc cc, .slice pq es.length cq] 55 (0, 0))) := last _ _
  generalize w.alloc (.cells #[.int .i64 kd, .int .i64 op, .slice pa la ca, .slice pk lk ck, .slice pc lc cc, .slice pq es.length cq] 55) = V at *
  have hsz : w.heap.size < V.heap.size := (Array.getElem?_eq_some_iff.1 HLa.out).1
  refine (H1.out V).mono ?_
  rintro r w1 ⟨rfl, hb1⟩
  have HB1 : Hid (Below V.heap.size V w1) := hb1
  have HB1w : Hid (Below w.heap.size w w1) := HBa.out.trans (hb1.mono HBa.out.size)
  have HL1 : Hid (w1.heap[w.heap.size]? = some (.cells #[.int .i64 kd, .int .i64 op, .slice pa la ca, .slice pk lk ck, .slice pc lc cc, .slice pq es.length cq] 55 (0, 0))) := (hb1.block _ hsz).trans HLa.out
  have q0 : w1.cell? ⟨w.heap.size, 0, none⟩ = some (.int .i64 kd) := cell_of_row _ _ 0 _ _ _ HL1.out
  have q1 : w1.cell? ⟨w.heap.size, 1, none⟩ = some (.int .i64 op) := cell_of_row _ _ 1 _ _ _ HL1.out
  have q2 : w1.cell? ⟨w.heap.size, 2, none⟩ = some (.slice pa la ca) := cell_of_row _ _ 2 _ _ _ HL1.out
  have q3 : w1.cell? ⟨w.heap.size, 3, none⟩ = some (.slice pk lk ck) := cell_of_row _ _ 3 _ _ _ HL1.out
  have q5 : w1.cell? ⟨w.heap.size, 5, none⟩ = some (.slice pq es.length cq) := cell_of_row _ _ 5 _ _ _ HL1.out
  clear hb1
  go_wp2
  go_loopw [3, 4] (fun c d w' => ∃ j : Nat, j ≤ es.length ∧ c = .int .i64 ((1 + lc + 0 + tot (pA k n) (es.take j) : Nat) : Int) ∧ d = .int .i64 (j : Int) ∧ Hid (Below V.heap.size V w')) (fun _ d _ => es.length - (intOf d).toNat)
  case atStart => exact ⟨0, by omega, by simp [tot], rfl, HB1⟩
  case round =>
    obtain ⟨j, hj, rfl, rfl, HB⟩ := hrel
    rename_i wr
    clear q0 q1 q2 q3 q5
    have q5 : wr.cell? ⟨w.heap.size, 5, none⟩ = some (.slice pq es.length cq) := keep2 HB.out (cell_of_row _ _ 5 _ _ _ HLa.out)
    have HBw : Hid (Below w.heap.size w wr) := HBa.out.trans (HB.out.mono HBa.out.size)
    by_cases hlt : j < es.length
    · have hlt' : (j : Int) < (es.length : Int) := by omega
      obtain ⟨u, hu⟩ := get_lt hlt
      have hbd := tot_next (pA k n) hu
      have hle := tot_le (pA k n) es (j + 1)
      obtain ⟨b, off, kd', op', pa', la', ca', pk', lk', ck', pc', lc', cc', pq', lq', cq', rfl, c0, c1, c2, c3, c4, c5, hC⟩ := HI.out S w V HSw.out HBa.out pq cq es HV.out HZ.out j u hu wr HB.out
      have HC : Hid (Calls Try.prog 17 #[.agg #[.int .i64 kd', .int .i64 op', .slice pa' la' ca', .slice pk' lk' ck', .slice pc' lc' cc', .slice pq' lq' cq']] wr fun r w' => r = .returned (.int .i64 (pA k n u)) ∧ Below wr.heap.size wr w') := hC
      clear hC HR HI
      generalize hZ : pA k n u = z' at *
      generalize hT : tot (pA k n) (es.take j) = T at *
      go_wp2_with fail
      refine HC.out.mono ?_
      rintro e w2 ⟨rfl, hb2⟩
      have HB2 : Hid (Below V.heap.size V w2) := HB.out.trans (hb2.mono HB.out.size)
      clear hb2
      go_wp2
      exact ⟨⟨j + 1, by omega, by congr 1; omega, by go_num, HB2⟩, by simp [intOf]; omega⟩
    · obtain rfl : j = es.length := by omega
      have HR1 : Hid (R = ((1 + lc + 0 + tot (pA k n) (es.take es.length) : Nat) : Int)) := by
        rw [List.take_length]
        exact HR.out
      generalize ((1 + lc + 0 + tot (pA k n) (es.take es.length) : Nat) : Int) = L at *
      go_wp2
      go_ret
      exact ⟨by rw [HR1.out]; rfl, HBw.out⟩
set_option maxHeartbeats 2000000 in
theorem sArm_no (k n : Nat) (IH : SpA k n) (S : Nat → Prop) (w : World) (hSw : ∀ b, S b → b < w.heap.size) (kd op : Int) (pa : Option Addr) (la ca : Nat) (pk : Option Addr) (lk ck : Nat) (pc : Option Addr) (lc cc : Nat) (pq : Option Addr) (cq : Nat) (es : List (AT k n))
    (hK : SlOf S (AmE S w k n) 6 pq cq es) (hz : zAs k n es ≤ 1048576) (hlc : lc ≤ 1048576) (hle : es.length ≤ 1048576) (z : Nat) (_hzz : z ≤ 1048577)
    (h1 : ∀ W, Calls Try.prog 31 #[.agg #[.int .i64 kd, .int .i64 op, .slice pa la ca, .slice pk lk ck]] W fun r w' => r = .returned (.bool false) ∧ Below W.heap.size W w')
    (h2 : false = false → ∀ W, Below w.heap.size w W → Calls Try.prog 32 #[.agg #[.int .i64 kd, .int .i64 op, .slice pa la ca, .slice pk lk ck]] W fun r w' => r = .returned (.int .i64 z) ∧ Below W.heap.size W w') :
    Calls Try.prog 17 #[.agg #[.int .i64 kd, .int .i64 op, .slice pa la ca, .slice pk lk ck, .slice pc lc cc, .slice pq es.length cq]] w fun r w' => r = .returned (.int .i64 ((1 + lc + z + tot (pA k n) es : Nat) : Int)) ∧ Below w.heap.size w w' := by
  have htp : tot (pA k n) es ≤ 2097152 := Nat.le_trans (totA_le k n es) (by omega)
  have HV : Hid (SlOf S (AmE S w k n) 6 pq cq es) := hK
  have HSw : Hid (∀ b, S b → b < w.heap.size) := hSw
  have HI : Hid (LoopA k n) := loopA k n IH
  have HZ : Hid (zAs k n es ≤ 1048576) := hz
  have H1 : Hid (∀ W, Calls Try.prog 31 #[.agg #[.int .i64 kd, .int .i64 op, .slice pa la ca, .slice pk lk ck]] W fun r w' => r = .returned (.bool false) ∧ Below W.heap.size W w') := h1
  have H2 : Hid (false = false → ∀ W, Below w.heap.size w W → Calls Try.prog 32 #[.agg #[.int .i64 kd, .int .i64 op, .slice pa la ca, .slice pk lk ck]] W fun r w' => r = .returned (.int .i64 z) ∧ Below W.heap.size W w') := h2
  obtain ⟨R, hR⟩ : ∃ R : Int, R = ((1 + lc + z + tot (pA k n) es : Nat) : Int) := ⟨_, rfl⟩
  rw [← hR]
  have HR : Hid (R = ((1 + lc + z + tot (pA k n) es : Nat) : Int)) := hR
  clear hR hSw hK hz h1 h2 IH
  go_enter Try.func17, Try.ntmps17
  go_wp2_with fail
  have HBa : Hid (Below w.heap.size w (w.alloc (.cells #[.int .i64 kd, .int .i64 op, .slice pa la ca, .slice pk lk ck, .slice pc lc cc, .slice pq es.length cq] 55))) := one _ _
  have HLa : Hid ((w.alloc (.cells #[.int .i64 kd, .int .i64 op, .slice pa la ca, .slice pk lk ck, .slice pc lc cc, .slice pq es.length cq] 55)).heap[w.heap.size]? = some (.cells #[.int .i64 kd, .int .i64 op, .slice pa la ca, .slice pk lk ck, .slice pc lc cc, .slice pq es.length cq] 55 (0, 0))) := last _ _
  generalize w.alloc (.cells #[.int .i64 kd, .int .i64 op, .slice pa la ca, .slice pk lk ck, .slice pc lc cc, .slice pq es.length cq] 55) = V at *
  have hsz : w.heap.size < V.heap.size := (Array.getElem?_eq_some_iff.1 HLa.out).1
  refine (H1.out V).mono ?_
  rintro r w1 ⟨rfl, hb1⟩
  have HB1 : Hid (Below V.heap.size V w1) := hb1
  have HB1w : Hid (Below w.heap.size w w1) := HBa.out.trans (hb1.mono HBa.out.size)
  have HL1 : Hid (w1.heap[w.heap.size]? = some (.cells #[.int .i64 kd, .int .i64 op, .slice pa la ca, .slice pk lk ck, .slice pc lc cc, .slice pq es.length cq] 55 (0, 0))) := (hb1.block _ hsz).trans HLa.out
  have q0 : w1.cell? ⟨w.heap.size, 0, none⟩ = some (.int .i64 kd) := cell_of_row _ _ 0 _ _ _ HL1.out
  have q1 : w1.cell? ⟨w.heap.size, 1, none⟩ = some (.int .i64 op) := cell_of_row _ _ 1 _ _ _ HL1.out
  have q2 : w1.cell? ⟨w.heap.size, 2, none⟩ = some (.slice pa la ca) := cell_of_row _ _ 2 _ _ _ HL1.out
  have q3 : w1.cell? ⟨w.heap.size, 3, none⟩ = some (.slice pk lk ck) := cell_of_row _ _ 3 _ _ _ HL1.out
  have q5 : w1.cell? ⟨w.heap.size, 5, none⟩ = some (.slice pq es.length cq) := cell_of_row _ _ 5 _ _ _ HL1.out
  clear hb1
  go_wp2_with fail
  refine (H2.out (by first | rfl | trivial) w1 HB1w.out).mono ?_
  rintro r w1' ⟨rfl, hb1'⟩
  have HB1' : Hid (Below V.heap.size V w1') := HB1.out.trans (hb1'.mono HB1.out.size)
  clear hb1'
  go_wp2
  go_loopw [3, 4] (fun c d w' => ∃ j : Nat, j ≤ es.length ∧ c = .int .i64 ((1 + lc + z + tot (pA k n) (es.take j) : Nat) : Int) ∧ d = .int .i64 (j : Int) ∧ Hid (Below V.heap.size V w')) (fun _ d _ => es.length - (intOf d).toNat)
  case atStart => exact ⟨0, by omega, by simp [tot], rfl, HB1'⟩
  case round =>
    obtain ⟨j, hj, rfl, rfl, HB⟩ := hrel
    rename_i wr
    clear q0 q1 q2 q3 q5
    have q5 : wr.cell? ⟨w.heap.size, 5, none⟩ = some (.slice pq es.length cq) := keep2 HB.out (cell_of_row _ _ 5 _ _ _ HLa.out)
    have HBw : Hid (Below w.heap.size w wr) := HBa.out.trans (HB.out.mono HBa.out.size)
    by_cases hlt : j < es.length
    · have hlt' : (j : Int) < (es.length : Int) := by omega
      obtain ⟨u, hu⟩ := get_lt hlt
      have hbd := tot_next (pA k n) hu
      have hle := tot_le (pA k n) es (j + 1)
      obtain ⟨b, off, kd', op', pa', la', ca', pk', lk', ck', pc', lc', cc', pq', lq', cq', rfl, c0, c1, c2, c3, c4, c5, hC⟩ := HI.out S w V HSw.out HBa.out pq cq es HV.out HZ.out j u hu wr HB.out
      have HC : Hid (Calls Try.prog 17 #[.agg #[.int .i64 kd', .int .i64 op', .slice pa' la' ca', .slice pk' lk' ck', .slice pc' lc' cc', .slice pq' lq' cq']] wr fun r w' => r = .returned (.int .i64 (pA k n u)) ∧ Below wr.heap.size wr w') := hC
      clear hC HR HI
      generalize hZ : pA k n u = z' at *
      generalize hT : tot (pA k n) (es.take j) = T at *
      go_wp2_with fail
      refine HC.out.mono ?_
      rintro e w2 ⟨rfl, hb2⟩
      have HB2 : Hid (Below V.heap.size V w2) := HB.out.trans (hb2.mono HB.out.size)
      clear hb2
      go_wp2
      exact ⟨⟨j + 1, by omega, by congr 1; omega, by go_num, HB2⟩, by simp [intOf]; omega⟩
    · obtain rfl : j = es.length := by omega
      have HR1 : Hid (R = ((1 + lc + z + tot (pA k n) (es.take es.length) : Nat) : Int)) := by
        rw [List.take_length]
        exact HR.out
      generalize ((1 + lc + z + tot (pA k n) (es.take es.length) : Nat) : Int) = L at *
      go_wp2
      go_ret
      exact ⟨by rw [HR1.out]; rfl, HBw.out⟩
theorem sArm_next (k n : Nat) (IH : SpA k n) : SpA k (n + 1) := by
  intro S w hSw v t hV hbd
  obtain ⟨kd, op, pa, la, ca, pk, lk, ck, pc, cc, pq, cq, rfl, hN, hC, hK⟩ := hV
  rw [zA_succ] at hbd
  have hlc : t.coils.length ≤ 1048576 := by unfold zEls at hbd; omega
  have hno := hN.none
  have hp1 : ∀ W, Calls Try.prog 31 #[.agg #[.int .i64 kd, .int .i64 op, .slice pa la ca, .slice pk lk ck]] W fun r w' => r = .returned (.bool (isNone t.net)) ∧ Below W.heap.size W w' := fun W => by
    rw [hno]; exact sNone_any kd op pa la ca pk lk ck W
  have hp2 : ∀ W, Below w.heap.size w W → Calls Try.prog 32 #[.agg #[.int .i64 kd, .int .i64 op, .slice pa la ca, .slice pk lk ck]] W fun r w' => r = .returned (.int .i64 (pN (k + 1) t.net)) ∧ Below W.heap.size W w' :=
    fun W hW => sNet_any (k + 1) S W (fun b hb => Nat.lt_of_lt_of_le (hSw b hb) hW.size) _ t.net (hN.to (Keep.of hW hSw) (fun _ h => h)) (by omega)
  have hpn := pN_le (k + 1) t.net
  have hl : t.kids.length ≤ 1048576 := by unfold zAs at hbd; omega
  rw [pA_succ]
  cases hn : isNone t.net with
  | true =>
    rw [hn] at hp1
    rw [if_pos rfl]
    exact sArm_yes k n IH S w hSw kd op pa la ca pk lk ck pc t.coils.length cc pq cq t.kids hK (by omega) hlc hl 0 (by omega) hp1 (fun h => by cases h)
  | false =>
    rw [hn] at hp1
    rw [if_neg (by simp)]
    exact sArm_no k n IH S w hSw kd op pa la ca pk lk ck pc t.coils.length cc pq cq t.kids hK (by omega) hlc hl (pN (k + 1) t.net) (by omega) hp1 (fun _ => hp2)
theorem sArm_any (k : Nat) : ∀ n, SpA k n
  | 0 => fun _ _ _ _ _ h => h.elim
  | n + 1 => sArm_next k n (sArm_any k n)

set_option maxHeartbeats 1000000 in
theorem sTreeSize_any (k n : Nat) (S : Nat → Prop) (w : World) (hSw : ∀ b, S b → b < w.heap.size) (pq : Option Addr) (cq : Nat) (es : List (AT k n)) (hK : SlOf S (AmE S w k n) 6 pq cq es) (hz : zAs k n es ≤ 1048576) :
    Calls Try.prog 7 #[.slice pq es.length cq] w fun r w' => r = .returned (.int .i64 (tot (pA k n) es)) ∧ Below w.heap.size w w' := by
  have HL : Hid (∀ (j : Nat) (u : AT k n), es[j]? = some u → ∀ wr : World, Below w.heap.size w wr → _) := fun j u hu wr hB => loopA k n (sArm_any k n) S w w hSw (Below.refl _ _) pq cq es hK hz j u hu wr hB
  have htp := totA_le k n es
  obtain ⟨⟨hl1, hl2⟩, -⟩ := hK
  obtain ⟨R, hR⟩ : ∃ R : Int, R = ((tot (pA k n) es : Nat) : Int) := ⟨_, rfl⟩
  rw [← hR]
  have HR : Hid (R = ((tot (pA k n) es : Nat) : Int)) := hR
  clear hR hSw
  go_enter Try.func7, Try.ntmps7
  go_wp2
  go_loopw [3, 4] (fun c d w' => ∃ j : Nat, j ≤ es.length ∧ c = .int .i64 ((tot (pA k n) (es.take j) : Nat) : Int) ∧ d = .int .i64 (j : Int) ∧ Hid (Below w.heap.size w w')) (fun _ d _ => es.length - (intOf d).toNat)
  case atStart => exact ⟨0, by omega, rfl, rfl, Below.refl _ _⟩
  case round =>
    obtain ⟨j, hj, rfl, rfl, HB⟩ := hrel
    rename_i wr
    by_cases hlt : j < es.length
    · have hlt' : (j : Int) < (es.length : Int) := by omega
      obtain ⟨u, hu⟩ := get_lt hlt
      have hbd := tot_next (pA k n) hu
      have hle := tot_le (pA k n) es (j + 1)
      obtain ⟨b, off, kd, op, pa, la, ca, pk, lk, ck, pc, lc, cc, pq', lq, cq', rfl, c0, c1, c2, c3, c4, c5, hC⟩ := HL.out j u hu wr HB.out
      have HC : Hid (Calls Try.prog 17 #[.agg #[.int .i64 kd, .int .i64 op, .slice pa la ca, .slice pk lk ck, .slice pc lc cc, .slice pq' lq cq']] wr fun r w' => r = .returned (.int .i64 (pA k n u)) ∧ Below wr.heap.size wr w') := hC
      clear hC HR HL
      generalize hZ : pA k n u = z at *
      generalize hT : tot (pA k n) (es.take j) = T at *
      go_wp2_with fail
      refine HC.out.mono ?_
      rintro e w1 ⟨rfl, hb1⟩
      have HB1 : Hid (Below w.heap.size w w1) := HB.out.trans (hb1.mono HB.out.size)
      clear hb1
      go_wp2
      exact ⟨⟨j + 1, by omega, by congr 1; omega, by go_num, HB1⟩, by simp [intOf]; omega⟩
    · obtain rfl : j = es.length := by omega
      have HR1 : Hid (R = ((tot (pA k n) (es.take es.length) : Nat) : Int)) := by
        rw [List.take_length]
        exact HR.out
      generalize ((tot (pA k n) (es.take es.length) : Nat) : Int) = L at *
      go_wp2
      go_ret
      exact ⟨by rw [HR1.out]; rfl, HB.out⟩
end Go.Proofs.Ytkkkjhlbkmcjiaa.Tr
