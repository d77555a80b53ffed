/- The program's TreeSame. Helper text: no statement is claimed here. -/
import Derived.Test.YtkkkjhlbkmcjiaaQr
namespace Go.Proofs.Ytkkkjhlbkmcjiaa.Tr
open Go.ChangeShapes Go.WideShapes Go.ChangeAt Go.RowKit
attribute [local go_sem] store_func

set_option maxHeartbeats 1000000 in
theorem iEls_any {S S2 : Nat → Prop} {w : World} (hSw : ∀ b, S b → b < w.heap.size) (hSw2 : ∀ b, S2 b → b < w.heap.size) (p p2 : Option Addr) (cap cap2 : Nat) (es fs : List El) (hV : SlOf S (ElE S w) 2 p cap es) (hV2 : SlOf S2 (ElE S2 w) 2 p2 cap2 fs) :
    Calls Try.prog 24 #[.slice p es.length cap, .slice p2 fs.length cap2, .func (.func 25) #[] #[]] w
      fun r w' => r = .returned (.bool (eqL eqE es fs)) ∧ Below w.heap.size w w' := by
  have HV : Hid (SlOf S (ElE S w) 2 p cap es) := hV
  have HV2 : Hid (SlOf S2 (ElE S2 w) 2 p2 cap2 fs) := hV2
  have HSw : Hid (∀ b, S b → b < w.heap.size) := hSw
  have HSw2 : Hid (∀ b, S2 b → b < w.heap.size) := hSw2
  obtain ⟨⟨hl1, hl2⟩, -⟩ := hV
  obtain ⟨⟨hl3, hl4⟩, -⟩ := hV2
  clear hSw hSw2
  obtain ⟨R, hR⟩ : ∃ R : Bool, R = eqL eqE es fs := ⟨_, rfl⟩
  rw [← hR]
  have HR : Hid (R = eqL eqE es fs) := hR
  clear hR
  by_cases hlen : es.length = fs.length
  · have HL : Hid (es.length = fs.length) := hlen
    rw [← hlen]
    rw [← hlen] at hl3
    clear hlen hl4
    go_enter Try.func24, Try.ntmps24
    go_wp2
    go_loopw [17] (fun d w' => ∃ j : Nat, j ≤ es.length ∧ d = .int .i64 (j : Int) ∧ Hid (UpTo eqE es fs j) ∧ Hid (Below w.heap.size w w')) (fun d _ => es.length - (intOf d).toNat)
    case atStart => exact ⟨0, by omega, rfl, UpTo.zero, Below.refl _ _⟩
    case round =>
      obtain ⟨j, hj, rfl, HP, HB⟩ := hrel
      rename_i wr
      by_cases hlt : j < es.length
      · have hlt' : (j : Int) < (es.length : Int) := by omega
        obtain ⟨t, ht⟩ := get_lt hlt
        obtain ⟨u, hu⟩ := get_lt (ts := fs) (j := j) (HL.out ▸ hlt)
        obtain ⟨b, off, rfl, hb, pa, ca, c0, c1, hN⟩ := (els_to (Keep.of HB.out HSw.out) (fun _ h => h) HV.out).get ht
        obtain ⟨b', off', rfl, hb', pa2, ca2, d0, d1, hN2⟩ := (els_to (Keep.of HB.out HSw2.out) (fun _ h => h) HV2.out).get hu
        have hbl : b < wr.heap.size := World.block_lt_of_cell? _ _ c0
        have hbl2 : b' < wr.heap.size := World.block_lt_of_cell? _ _ d0
        have HC : Hid (∀ W, Below wr.heap.size wr W → Calls Try.prog 25 #[.agg #[.int .i64 t.1, .slice pa t.2.length ca], .agg #[.int .i64 u.1, .slice pa2 u.2.length ca2]] W
            fun r w' => r = .returned (.bool (eqE t u)) ∧ Below W.heap.size W w') := fun W hW => by
          have hS1 : ∀ b, S b → b < wr.heap.size := fun b hb => Nat.lt_of_lt_of_le (HSw.out b hb) HB.out.size
          have hS2 : ∀ b, S2 b → b < wr.heap.size := fun b hb => Nat.lt_of_lt_of_le (HSw2.out b hb) HB.out.size
          exact iElem_any (S := S) (S2 := S2) (fun b hb => Nat.lt_of_lt_of_le (hS1 b hb) hW.size) (fun b hb => Nat.lt_of_lt_of_le (hS2 b hb) hW.size) _ _ t u ⟨pa, ca, rfl, args_to (Keep.of hW hS1) (fun _ h => h) hN⟩ ⟨pa2, ca2, rfl, args_to (Keep.of hW hS2) (fun _ h => h) hN2⟩
        have HT : Hid (es[j]? = some t) := ht
        have HU : Hid (fs[j]? = some u) := hu
        clear ht hu hN hN2
        cases hq : eqE t u with
        | true =>
          have HQ : Hid (eqE t u = true) := hq
          rw [hq] at HC
          clear hq HR
          go_wp2_with fail
          refine (HC.out _ (two' _ _ _)).mono ?_
          rintro r w1 ⟨rfl, hb1⟩
          have HBq : Hid (Below w.heap.size w w1) := HB.out.trans ((of_two' hb1).mono HB.out.size)
          clear hb1 c0 c1 d0 d1 HC
          go_wp2
          exact ⟨⟨j + 1, by omega, by go_num, HP.out.next HT.out HU.out HQ.out, HBq⟩, by simp [intOf]; omega⟩
        | false =>
          have HR1 : Hid (R = false) := HR.out.trans (eqL_no j HT.out HU.out hq)
          rw [hq] at HC
          clear hq
          go_wp2_with fail
          refine (HC.out _ (two' _ _ _)).mono ?_
          rintro r w1 ⟨rfl, hb1⟩
          have HBq : Hid (Below w.heap.size w w1) := HB.out.trans ((of_two' hb1).mono HB.out.size)
          clear hb1 c0 c1 d0 d1 HC
          go_wp2
          go_ret
          exact ⟨by rw [HR1.out]; rfl, HBq.out⟩
      · obtain rfl : j = es.length := by omega
        have HR1 : Hid (R = true) := HR.out.trans (HP.out.all HL.out)
        go_wp2
        go_ret
        exact ⟨by rw [HR1.out]; rfl, HB.out⟩
  · have hlen' : ¬ (es.length : Int) = (fs.length : Int) := by omega
    have HR1 : Hid (R = false) := HR.out.trans (eqL_len hlen)
    go_enter Try.func24, Try.ntmps24
    go_wp2
    go_ret
    exact ⟨by rw [HR1.out]; rfl, Below.refl _ _⟩

/-- The cell in which TreeSame keeps its own function. -/
def CloA (B : Nat) (w : World) : Prop := w.heap[B]? = some (.cells #[.func (.func 22) #[] #[.pointer (some ⟨B, 0, none⟩)]] 63 (0, 0))
theorem CloA.lt {B : Nat} {w : World} (h : CloA B w) : B < w.heap.size := (Array.getElem?_eq_some_iff.1 h).1
theorem CloA.to {B : Nat} {w w' : World} (h : CloA B w) (hb : Below w.heap.size w w') : CloA B w' := (hb.block B h.lt).trans h
def SameA (k n : Nat) : Prop := ∀ (S S2 : Nat → Prop) (w : World) (_ : ∀ b, S b → b < w.heap.size) (_ : ∀ b, S2 b → b < w.heap.size) (B : Nat) (_ : CloA B w) (v v2 : Value) (t t2 : AT k n) (_ : AmV S w k n v t) (_ : AmV S2 w k n v2 t2),
    Calls Try.prog 22 #[v, v2, .pointer (some ⟨B, 0, none⟩)] w fun r w' => r = .returned (.bool (eqA k n t t2)) ∧ Below w.heap.size w w'

set_option maxHeartbeats 1000000 in
theorem iArms_any {S S2 : Nat → Prop} {w : World} (hSw : ∀ b, S b → b < w.heap.size) (hSw2 : ∀ b, S2 b → b < w.heap.size) (k n : Nat) (IH : Hid (SameA k n)) (B : Nat) (hB : CloA B w) (p p2 : Option Addr) (cap cap2 : Nat) (es fs : List (AT k n)) (hV : SlOf S (AmE S w k n) 6 p cap es) (hV2 : SlOf S2 (AmE S2 w k n) 6 p2 cap2 fs) :
    Calls Try.prog 26 #[.slice p es.length cap, .slice p2 fs.length cap2, .func (.func 22) #[] #[.pointer (some ⟨B, 0, none⟩)]] w
      fun r w' => r = .returned (.bool (eqL (eqA k n) es fs)) ∧ Below w.heap.size w w' := by
  have HV : Hid (SlOf S (AmE S w k n) 6 p cap es) := hV
  have HV2 : Hid (SlOf S2 (AmE S2 w k n) 6 p2 cap2 fs) := hV2
  have HSw : Hid (∀ b, S b → b < w.heap.size) := hSw
  have HSw2 : Hid (∀ b, S2 b → b < w.heap.size) := hSw2
  have HCl : Hid (CloA B w) := hB
  obtain ⟨⟨hl1, hl2⟩, -⟩ := hV
  obtain ⟨⟨hl3, hl4⟩, -⟩ := hV2
  clear hSw hSw2 hB
  obtain ⟨R, hR⟩ : ∃ R : Bool, R = eqL (eqA k n) es fs := ⟨_, rfl⟩
  rw [← hR]
  have HR : Hid (R = eqL (eqA k n) es fs) := hR
  clear hR
  by_cases hlen : es.length = fs.length
  · have HL : Hid (es.length = fs.length) := hlen
    rw [← hlen]
    rw [← hlen] at hl3
    clear hlen hl4
    go_enter Try.func26, Try.ntmps26
    go_wp2
    go_loopw [17] (fun d w' => ∃ j : Nat, j ≤ es.length ∧ d = .int .i64 (j : Int) ∧ Hid (UpTo (eqA k n) es fs j) ∧ Hid (Below w.heap.size w w')) (fun d _ => es.length - (intOf d).toNat)
    case atStart => exact ⟨0, by omega, rfl, UpTo.zero, Below.refl _ _⟩
    case round =>
      obtain ⟨j, hj, rfl, HP, HB⟩ := hrel
      rename_i wr
      by_cases hlt : j < es.length
      · have hlt' : (j : Int) < (es.length : Int) := by omega
        obtain ⟨t, ht⟩ := get_lt hlt
        obtain ⟨u, hu⟩ := get_lt (ts := fs) (j := j) (HL.out ▸ hlt)
        obtain ⟨b, off, rfl, hb, hE⟩ := (arms_to (Keep.of HB.out HSw.out) (fun _ h => h) HV.out).get ht
        obtain ⟨b', off', rfl, hb', hE2⟩ := (arms_to (Keep.of HB.out HSw2.out) (fun _ h => h) HV2.out).get hu
        obtain ⟨kd, op, pa, la, ca, pk, lk, ck, pc, lc, cc, pq, lq, cq, c0, c1, c2, c3, c4, c5, hN⟩ := hE.out
        obtain ⟨kd2, op2, pa2, la2, ca2, pk2, lk2, ck2, pc2, lc2, cc2, pq2, lq2, cq2, d0, d1, d2, d3, d4, d5, hN2⟩ := hE2.out
        have hbl : b < wr.heap.size := World.block_lt_of_cell? _ _ c0
        have hbl2 : b' < wr.heap.size := World.block_lt_of_cell? _ _ d0
        have HC : Hid (∀ W, Below wr.heap.size wr W → Calls Try.prog 22 #[.agg #[.int .i64 kd, .int .i64 op, .slice pa la ca, .slice pk lk ck, .slice pc lc cc, .slice pq lq cq], .agg #[.int .i64 kd2, .int .i64 op2, .slice pa2 la2 ca2, .slice pk2 lk2 ck2, .slice pc2 lc2 cc2, .slice pq2 lq2 cq2], .pointer (some ⟨B, 0, none⟩)] W
            fun r w' => r = .returned (.bool (eqA k n t u)) ∧ Below W.heap.size W w') := fun W hW => by
          have hS1 : ∀ b, S b → b < wr.heap.size := fun b hb => Nat.lt_of_lt_of_le (HSw.out b hb) HB.out.size
          have hS2 : ∀ b, S2 b → b < wr.heap.size := fun b hb => Nat.lt_of_lt_of_le (HSw2.out b hb) HB.out.size
          exact IH.out S S2 W (fun b hb => Nat.lt_of_lt_of_le (hS1 b hb) hW.size) (fun b hb => Nat.lt_of_lt_of_le (hS2 b hb) hW.size) B ((HCl.out.to HB.out).to hW) _ _ t u (hN.to (Keep.of hW hS1) (fun _ h => h)) (hN2.to (Keep.of hW hS2) (fun _ h => h))
        have HT : Hid (es[j]? = some t) := ht
        have HU : Hid (fs[j]? = some u) := hu
        clear ht hu hN hN2 hE hE2
        cases hq : eqA k n t u with
        | true =>
          have HQ : Hid (eqA k n t u = true) := hq
          rw [hq] at HC
          clear hq HR
          go_wp2_with fail
          refine (HC.out _ (two' _ _ _)).mono ?_
          rintro r w1 ⟨rfl, hb1⟩
          have HBq : Hid (Below w.heap.size w w1) := HB.out.trans ((of_two' hb1).mono HB.out.size)
          clear hb1 c0 c1 c2 c3 c4 c5 d0 d1 d2 d3 d4 d5 HC
          go_wp2
          exact ⟨⟨j + 1, by omega, by go_num, HP.out.next HT.out HU.out HQ.out, HBq⟩, by simp [intOf]; omega⟩
        | false =>
          have HR1 : Hid (R = false) := HR.out.trans (eqL_no j HT.out HU.out hq)
          rw [hq] at HC
          clear hq
          go_wp2_with fail
          refine (HC.out _ (two' _ _ _)).mono ?_
          rintro r w1 ⟨rfl, hb1⟩
          have HBq : Hid (Below w.heap.size w w1) := HB.out.trans ((of_two' hb1).mono HB.out.size)
          clear hb1 c0 c1 c2 c3 c4 c5 d0 d1 d2 d3 d4 d5 HC
          go_wp2
          go_ret
          exact ⟨by rw [HR1.out]; rfl, HBq.out⟩
      · obtain rfl : j = es.length := by omega
        have HR1 : Hid (R = true) := HR.out.trans (HP.out.all HL.out)
        go_wp2
        go_ret
        exact ⟨by rw [HR1.out]; rfl, HB.out⟩
  · have hlen' : ¬ (es.length : Int) = (fs.length : Int) := by omega
    have HR1 : Hid (R = false) := HR.out.trans (eqL_len hlen)
    go_enter Try.func26, Try.ntmps26
    go_wp2
    go_ret
    exact ⟨by rw [HR1.out]; rfl, Below.refl _ _⟩

set_option maxHeartbeats 2000000 in
theorem iSameA_next (k n : Nat) (IH : SameA k n) : SameA k (n + 1) := by
  intro S S2 w hSw hSw2 B hB v v2 t t2 hV hV2
  obtain ⟨kd, op, pa, la, ca, pk, lk, ck, pc, cc, pq, cq, rfl, hN, hC, hK⟩ := hV
  obtain ⟨kd2, op2, pa2, la2, ca2, pk2, lk2, ck2, pc2, cc2, pq2, cq2, rfl, hN2, hC2, hK2⟩ := hV2
  have HC1 : Hid (∀ W, Below w.heap.size w W → Calls Try.prog 23 #[.agg #[.int .i64 kd, .int .i64 op, .slice pa la ca, .slice pk lk ck], .agg #[.int .i64 kd2, .int .i64 op2, .slice pa2 la2 ca2, .slice pk2 lk2 ck2]] W fun r w' => r = .returned (.bool (eqN (k + 1) t.net t2.net)) ∧ Below W.heap.size W w') :=
    fun W hW => iSameNet_any (k + 1) S S2 W (fun b hb => Nat.lt_of_lt_of_le (hSw b hb) hW.size) (fun b hb => Nat.lt_of_lt_of_le (hSw2 b hb) hW.size) _ _ t.net t2.net (hN.to (Keep.of hW hSw) (fun _ h => h)) (hN2.to (Keep.of hW hSw2) (fun _ h => h))
  have HC2 : Hid (∀ W, Below w.heap.size w W → Calls Try.prog 24 #[.slice pc t.coils.length cc, .slice pc2 t2.coils.length cc2, .func (.func 25) #[] #[]] W
      fun r w' => r = .returned (.bool (eqL eqE t.coils t2.coils)) ∧ Below W.heap.size W w') :=
    fun W hW => iEls_any (S := S) (S2 := S2) (fun b hb => Nat.lt_of_lt_of_le (hSw b hb) hW.size) (fun b hb => Nat.lt_of_lt_of_le (hSw2 b hb) hW.size) pc pc2 cc cc2 t.coils t2.coils (els_to (Keep.of hW hSw) (fun _ h => h) hC) (els_to (Keep.of hW hSw2) (fun _ h => h) hC2)
  have HC3 : Hid (∀ W, Below w.heap.size w W → Calls Try.prog 26 #[.slice pq t.kids.length cq, .slice pq2 t2.kids.length cq2, .func (.func 22) #[] #[.pointer (some ⟨B, 0, none⟩)]] W
      fun r w' => r = .returned (.bool (eqL (eqA k n) t.kids t2.kids)) ∧ Below W.heap.size W w') :=
    fun W hW => iArms_any (S := S) (S2 := S2) (fun b hb => Nat.lt_of_lt_of_le (hSw b hb) hW.size) (fun b hb => Nat.lt_of_lt_of_le (hSw2 b hb) hW.size) k n IH B (hB.to hW) pq pq2 cq cq2 t.kids t2.kids (arms_to (Keep.of hW hSw) (fun _ h => h) hK) (arms_to (Keep.of hW hSw2) (fun _ h => h) hK2)
  show Calls _ _ _ _ fun r w' => r = .returned (.bool (eqN (k + 1) t.net t2.net && eqL eqE t.coils t2.coils && eqL (eqA k n) t.kids t2.kids)) ∧ _
  have cB : w.cell? ⟨B, 0, none⟩ = some (.func (.func 22) #[] #[.pointer (some ⟨B, 0, none⟩)]) := cell_of_row _ _ 0 _ _ _ hB
  have hBl : B < w.heap.size := hB.lt
  clear hSw hSw2 hN hC hK hN2 hC2 hK2 IH hB
  generalize eqL (eqA k n) t.kids t2.kids = R3 at *
  generalize eqL eqE t.coils t2.coils = R2 at *
  generalize eqN (k + 1) t.net t2.net = R1 at *
  generalize t.coils.length = lc at *
  generalize t.kids.length = lq at *
  generalize t2.coils.length = lc2 at *
  generalize t2.kids.length = lq2 at *
  cases R1 with
  | true =>
    rw [Bool.true_and]
    cases R2 with
    | true =>
      rw [Bool.true_and]
      go_enter Try.func22, Try.ntmps22
      go_wp2_with fail
      refine (HC1.out _ (two' _ _ _)).mono ?_
      rintro r w1 ⟨rfl, hb1⟩
      have HB1 : Hid (Below w.heap.size w w1) := of_two' hb1
      have c4 : w1.cell? ⟨w.heap.size, 4, none⟩ = some (.slice pc lc cc) := cell2' hb1 (by rw [World.cell?_alloc_mark]; rfl)
      have d4 : w1.cell? ⟨w.heap.size + 1, 4, none⟩ = some (.slice pc2 lc2 cc2) := cell3' hb1 (by rw [World.cell?_alloc_mark]; rfl)
      have c5 : w1.cell? ⟨w.heap.size, 5, none⟩ = some (.slice pq lq cq) := cell2' hb1 (by rw [World.cell?_alloc_mark]; rfl)
      have d5 : w1.cell? ⟨w.heap.size + 1, 5, none⟩ = some (.slice pq2 lq2 cq2) := cell3' hb1 (by rw [World.cell?_alloc_mark]; rfl)
      replace cB := keep2 HB1.out cB
      clear hb1
      go_wp2_with fail
      refine (HC2.out _ HB1.out).mono ?_
      rintro r w2 ⟨rfl, hb2⟩
      have HB2 : Hid (Below w.heap.size w w2) := HB1.out.trans (hb2.mono HB1.out.size)
      replace c5 := keep2 hb2 c5
      replace d5 := keep2 hb2 d5
      replace cB := keep2 hb2 cB
      clear hb2
      go_wp2_with fail
      refine (HC3.out _ HB2.out).mono ?_
      rintro r w3 ⟨rfl, hb3⟩
      have HB3 : Hid (Below w.heap.size w w3) := HB2.out.trans (hb3.mono HB2.out.size)
      clear hb3
      go_wp2
      go_ret
      exact ⟨rfl, HB3.out⟩
    | false =>
      rw [Bool.false_and]
      go_enter Try.func22, Try.ntmps22
      go_wp2_with fail
      refine (HC1.out _ (two' _ _ _)).mono ?_
      rintro r w1 ⟨rfl, hb1⟩
      have HB1 : Hid (Below w.heap.size w w1) := of_two' hb1
      have c4 : w1.cell? ⟨w.heap.size, 4, none⟩ = some (.slice pc lc cc) := cell2' hb1 (by rw [World.cell?_alloc_mark]; rfl)
      have d4 : w1.cell? ⟨w.heap.size + 1, 4, none⟩ = some (.slice pc2 lc2 cc2) := cell3' hb1 (by rw [World.cell?_alloc_mark]; rfl)
      have c5 : w1.cell? ⟨w.heap.size, 5, none⟩ = some (.slice pq lq cq) := cell2' hb1 (by rw [World.cell?_alloc_mark]; rfl)
      have d5 : w1.cell? ⟨w.heap.size + 1, 5, none⟩ = some (.slice pq2 lq2 cq2) := cell3' hb1 (by rw [World.cell?_alloc_mark]; rfl)
      replace cB := keep2 HB1.out cB
      clear hb1
      go_wp2_with fail
      refine (HC2.out _ HB1.out).mono ?_
      rintro r w2 ⟨rfl, hb2⟩
      have HB2 : Hid (Below w.heap.size w w2) := HB1.out.trans (hb2.mono HB1.out.size)
      replace c5 := keep2 hb2 c5
      replace d5 := keep2 hb2 d5
      replace cB := keep2 hb2 cB
      clear hb2
      go_wp2
      go_ret
      exact ⟨rfl, HB2.out⟩
  | false =>
      rw [Bool.false_and, Bool.false_and]
      go_enter Try.func22, Try.ntmps22
      go_wp2_with fail
      refine (HC1.out _ (two' _ _ _)).mono ?_
      rintro r w1 ⟨rfl, hb1⟩
      have HB1 : Hid (Below w.heap.size w w1) := of_two' hb1
      have c4 : w1.cell? ⟨w.heap.size, 4, none⟩ = some (.slice pc lc cc) := cell2' hb1 (by rw [World.cell?_alloc_mark]; rfl)
      have d4 : w1.cell? ⟨w.heap.size + 1, 4, none⟩ = some (.slice pc2 lc2 cc2) := cell3' hb1 (by rw [World.cell?_alloc_mark]; rfl)
      have c5 : w1.cell? ⟨w.heap.size, 5, none⟩ = some (.slice pq lq cq) := cell2' hb1 (by rw [World.cell?_alloc_mark]; rfl)
      have d5 : w1.cell? ⟨w.heap.size + 1, 5, none⟩ = some (.slice pq2 lq2 cq2) := cell3' hb1 (by rw [World.cell?_alloc_mark]; rfl)
      replace cB := keep2 HB1.out cB
      clear hb1
      go_wp2
      go_ret
      exact ⟨rfl, HB1.out⟩
theorem iSameA_any (k : Nat) : ∀ n, SameA k n
  | 0 => fun _ _ _ _ _ _ _ _ _ _ _ h => h.elim
  | n + 1 => iSameA_next k n (iSameA_any k n)
set_option maxHeartbeats 1000000 in
theorem iTreeSame_any (k n : Nat) (S S2 : Nat → Prop) (w : World) (hSw : ∀ b, S b → b < w.heap.size) (hSw2 : ∀ b, S2 b → b < w.heap.size) (p p2 : Option Addr) (cap cap2 : Nat) (es fs : List (AT k n)) (hV : SlOf S (AmE S w k n) 6 p cap es) (hV2 : SlOf S2 (AmE S2 w k n) 6 p2 cap2 fs) :
    Calls Try.prog 12 #[.slice p es.length cap, .slice p2 fs.length cap2] w fun r w' => r = .returned (.bool (eqL (eqA k n) es fs)) ∧ Below w.heap.size w w' := by
  have HC : Hid (∀ W B, Below w.heap.size w W → CloA B W → Calls Try.prog 26 #[.slice p es.length cap, .slice p2 fs.length cap2, .func (.func 22) #[] #[.pointer (some ⟨B, 0, none⟩)]] W
      fun r w' => r = .returned (.bool (eqL (eqA k n) es fs)) ∧ Below W.heap.size W w') :=
    fun W B hW hB => iArms_any (S := S) (S2 := S2) (fun b hb => Nat.lt_of_lt_of_le (hSw b hb) hW.size) (fun b hb => Nat.lt_of_lt_of_le (hSw2 b hb) hW.size) k n (iSameA_any k n) B hB p p2 cap cap2 es fs (arms_to (Keep.of hW hSw) (fun _ h => h) hV) (arms_to (Keep.of hW hSw2) (fun _ h => h) hV2)
  clear hV hV2 hSw hSw2
  generalize eqL (eqA k n) es fs = R at *
  have hmf' := hmf
  go_enter Try.func12, Try.ntmps12
  go_wp2_with fail
  refine (HC.out _ w.heap.size (one _ _) (last _ _)).mono ?_
  rintro r w1 ⟨rfl, hb1⟩
  have HB1 : Hid (Below w.heap.size w w1) := of_one hb1
  clear hb1
  go_wp2
  go_ret
  exact ⟨rfl, HB1.out⟩
end Go.Proofs.Ytkkkjhlbkmcjiaa.Tr
