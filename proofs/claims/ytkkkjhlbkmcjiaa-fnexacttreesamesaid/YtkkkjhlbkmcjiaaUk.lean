/- The document's l6ArmSame, TreeSame. Helper text: no statement is claimed here. -/
import Derived.Test.YtkkkjhlbkmcjiaaUj
namespace Go.Proofs.Ytkkkjhlbkmcjiaa.Tr
open Go.ChangeShapes Go.WideShapes Go.ChangeAt Go.RowKit

def SsA (k n : Nat) : Prop := ∀ (S S2 : Nat → Prop) (w : World) (_ : ∀ b, S b → b < w.heap.size) (_ : ∀ b, S2 b → b < w.heap.size) (v v2 : Value) (t t2 : AT k n) (_ : AmV S w k n v t) (_ : AmV S2 w k n v2 t2),
    Calls Try.prog 21 #[v, v2] w fun r w' => r = .returned (.bool (eqA k n t t2)) ∧ Below w.heap.size w w'
def SsT (k n : Nat) : Prop := ∀ (S S2 : Nat → Prop) (w : World) (_ : ∀ b, S b → b < w.heap.size) (_ : ∀ b, S2 b → b < w.heap.size) (p p2 : Option Addr) (cap cap2 : Nat) (es fs : List (AT k n)) (_ : SlOf S (AmE S w k n) 6 p cap es) (_ : SlOf S2 (AmE S2 w k n) 6 p2 cap2 fs),
    Calls Try.prog 11 #[.slice p es.length cap, .slice p2 fs.length cap2] w fun r w' => r = .returned (.bool (eqL (eqA k n) es fs)) ∧ Below w.heap.size w w'
set_option maxHeartbeats 3000000 in
theorem sTree_of (k n : Nat) (IH : SsA k n) : SsT k n := by
  intro S S2 w hSw hSw2 p p2 cap cap2 es fs hV hV2
  have HV : Hid (SlOf S (AmE S w k n) 6 p cap es) := hV
  have HV2 : Hid (SlOf S2 (AmE S2 w k n) 6 p2 cap2 fs) := hV2
  have HSw : Hid (∀ b, S b → b < w.heap.size) := hSw
  have HSw2 : Hid (∀ b, S2 b → b < w.heap.size) := hSw2
  have HI : Hid (SsA k n) := IH
  obtain ⟨⟨hl1, hl2⟩, -⟩ := hV
  obtain ⟨⟨hl3, hl4⟩, -⟩ := hV2
  clear hSw hSw2 IH
  obtain ⟨R, hR⟩ : ∃ R : Bool, R = eqL (eqA k n) es fs := ⟨_, rfl⟩
  rw [← hR]
  have HR : Hid (R = eqL (eqA k n) es fs) := hR
  clear hR
  by_cases hlen : es.length = fs.length
  · have HL : Hid (es.length = fs.length) := hlen
    rw [← hlen]
    rw [← hlen] at hl3
    clear hlen hl4
    go_enter Try.func11, Try.ntmps11
    go_wp2
    go_loopw [5] (fun d w' => ∃ j : Nat, j ≤ es.length ∧ d = .int .i64 (j : Int) ∧ Hid (UpTo (eqA k n) es fs j) ∧ Hid (Below w.heap.size w w')) (fun d _ => es.length - (intOf d).toNat)
    case atStart => exact ⟨0, by omega, rfl, UpTo.zero, Below.refl _ _⟩
    case round =>
      obtain ⟨j, hj, rfl, HP, HB⟩ := hrel
      rename_i wr
      by_cases hlt : j < es.length
      · have hlt' : (j : Int) < (es.length : Int) := by omega
        obtain ⟨t, ht⟩ := get_lt hlt
        obtain ⟨u, hu⟩ := get_lt (ts := fs) (j := j) (HL.out ▸ hlt)
        obtain ⟨b, off, rfl, hb, hE⟩ := (arms_to (Keep.of HB.out HSw.out) (fun _ h => h) HV.out).get ht
        obtain ⟨b', off', rfl, hb', hE2⟩ := (arms_to (Keep.of HB.out HSw2.out) (fun _ h => h) HV2.out).get hu
        obtain ⟨kd1, op1, pa1, la1, ca1, pk1, lk1, ck1, pc1, lc1, cc1, pq1, lq1, cq1, c0, c1, c2, c3, c4, c5, hN⟩ := hE.out
        obtain ⟨kd3, op3, pa3, la3, ca3, pk3, lk3, ck3, pc3, lc3, cc3, pq3, lq3, cq3, d0, d1, d2, d3, d4, d5, hN2⟩ := hE2.out
        have HE : Hid (AmV S wr k n (.agg #[.int .i64 kd1, .int .i64 op1, .slice pa1 la1 ca1, .slice pk1 lk1 ck1, .slice pc1 lc1 cc1, .slice pq1 lq1 cq1]) t) := hN
        have HE2 : Hid (AmV S2 wr k n (.agg #[.int .i64 kd3, .int .i64 op3, .slice pa3 la3 ca3, .slice pk3 lk3 ck3, .slice pc3 lc3 cc3, .slice pq3 lq3 cq3]) u) := hN2
        have HT : Hid (es[j]? = some t) := ht
        have HU : Hid (fs[j]? = some u) := hu
        clear ht hu hN hN2 hE hE2
        have HG : Hid (∀ (d : Nat) (os : Array Obj), Calls Try.prog 21 #[.agg #[.int .i64 kd1, .int .i64 op1, .slice pa1 la1 ca1, .slice pk1 lk1 ck1, .slice pc1 lc1 cc1, .slice pq1 lq1 cq1], .agg #[.int .i64 kd3, .int .i64 op3, .slice pa3 la3 ca3, .slice pk3 lk3 ck3, .slice pc3 lc3 cc3, .slice pq3 lq3 cq3]] (Sort.grow (redrawn wr d) os) fun e w'' => e = .returned (.bool (eqA k n t u)) ∧ ∃ p' : Regrown, w'' = Sort.grow (redrawn wr p'.d) p'.os) := fun d os =>
          Calls.regrown_of (HI.out S S2 _ (fun b hb => Nat.lt_of_lt_of_le (HSw.out b hb) (Nat.le_trans HB.out.size (below_regrown wr d os).size)) (fun b hb => Nat.lt_of_lt_of_le (HSw2.out b hb) (Nat.le_trans HB.out.size (below_regrown wr d os).size)) _ _ t u
            (HE.out.to (Keep.of (below_regrown wr d os) (fun b hb => Nat.lt_of_lt_of_le (HSw.out b hb) HB.out.size)) (fun _ h => h)) (HE2.out.to (Keep.of (below_regrown wr d os) (fun b hb => Nat.lt_of_lt_of_le (HSw2.out b hb) HB.out.size)) (fun _ h => h)))
        have k0 := cell_regrown c0
        have q0 := cell_regrown d0
        have k1 := cell_regrown c1
        have q1 := cell_regrown d1
        have k2 := cell_regrown c2
        have q2 := cell_regrown d2
        have k3 := cell_regrown c3
        have q3 := cell_regrown d3
        have k4 := cell_regrown c4
        have q4 := cell_regrown d4
        have k5 := cell_regrown c5
        have q5 := cell_regrown d5
        cases hq : eqA k n t u with
        | true =>
          have HQ : Hid (eqA k n t u = true) := hq
          rw [hq] at HG
          clear hq HR
          go_wp2
          refine wp_region_quiet_below (by kernel_rfl) (by kernel_rfl) ?_
          repeat (first | go_big_quiet_step (exact HG.out _ _) | quiet_step (exact HG.out _ _))
          refine wpQuiet_nil ?_
          intro _ hw'
          obtain ⟨⟨dq, osq⟩, hw''⟩ := hw'
          subst hw''
          have HBq : Hid (Below w.heap.size w (Sort.grow (redrawn wr dq) osq)) := HB.out.trans ((below_regrown _ dq osq).mono HB.out.size)
          clear k0 q0 c0 d0 k1 q1 c1 d1 k2 q2 c2 d2 k3 q3 c3 d3 k4 q4 c4 d4 k5 q5 c5 d5 HG
          generalize Sort.grow (redrawn wr dq) osq = wq at *
          go_wp2
          exact ⟨⟨j + 1, by omega, by go_num, HP.out.next HT.out HU.out HQ.out, HBq⟩, by simp [intOf]; omega⟩
        | false =>
          have HR1 : Hid (R = false) := HR.out.trans (eqL_no j HT.out HU.out hq)
          rw [hq] at HG
          clear hq
          go_wp2
          refine wp_region_quiet_below (by kernel_rfl) (by kernel_rfl) ?_
          repeat (first | go_big_quiet_step (exact HG.out _ _) | quiet_step (exact HG.out _ _))
          refine wpQuiet_nil ?_
          intro _ hw'
          obtain ⟨⟨dq, osq⟩, hw''⟩ := hw'
          subst hw''
          have HBq : Hid (Below w.heap.size w (Sort.grow (redrawn wr dq) osq)) := HB.out.trans ((below_regrown _ dq osq).mono HB.out.size)
          clear k0 q0 c0 d0 k1 q1 c1 d1 k2 q2 c2 d2 k3 q3 c3 d3 k4 q4 c4 d4 k5 q5 c5 d5 HG
          generalize Sort.grow (redrawn wr dq) osq = wq at *
          go_wp2
          go_ret
          exact ⟨by rw [HR1.out]; rfl, HBq.out⟩
      · obtain rfl : j = es.length := by omega
        have HR1 : Hid (R = true) := HR.out.trans (HP.out.all HL.out)
        go_wp2
        go_ret
        exact ⟨by rw [HR1.out]; rfl, HB.out⟩
  · have hlen' : ¬ (es.length : Int) = (fs.length : Int) := by omega
    have HR1 : Hid (R = false) := HR.out.trans (eqL_len hlen)
    go_enter Try.func11, Try.ntmps11
    go_wp2
    go_ret
    exact ⟨by rw [HR1.out]; rfl, Below.refl _ _⟩
set_option maxHeartbeats 3000000 in
theorem sArmSame_next (k n : Nat) (IH : SsT k n) : SsA k (n + 1) := by
  intro S S2 w hSw hSw2 v v2 t t2 hV hV2
  obtain ⟨kd, op, pa, la, ca, pk, lk, ck, pc, cc, pq, cq, rfl, hN, hC, hK⟩ := hV
  obtain ⟨kd2, op2, pa2, la2, ca2, pk2, lk2, ck2, pc2, cc2, pq2, cq2, rfl, hN2, hC2, hK2⟩ := hV2
  have HC1 : Hid (∀ W, Below w.heap.size w W → Calls Try.prog 42 #[.agg #[.int .i64 kd, .int .i64 op, .slice pa la ca, .slice pk lk ck], .agg #[.int .i64 kd2, .int .i64 op2, .slice pa2 la2 ca2, .slice pk2 lk2 ck2]] W fun r w' => r = .returned (.bool (eqN (k + 1) t.net t2.net)) ∧ Below W.heap.size W w') :=
    fun W hW => sNetSame_any (k + 1) S S2 W (fun b hb => Nat.lt_of_lt_of_le (hSw b hb) hW.size) (fun b hb => Nat.lt_of_lt_of_le (hSw2 b hb) hW.size) _ _ t.net t2.net (hN.to (Keep.of hW hSw) (fun _ h => h)) (hN2.to (Keep.of hW hSw2) (fun _ h => h))
  have HC3 : Hid (∀ W, Below w.heap.size w W → Calls Try.prog 11 #[.slice pq t.kids.length cq, .slice pq2 t2.kids.length cq2] W
      fun r w' => r = .returned (.bool (eqL (eqA k n) t.kids t2.kids)) ∧ Below W.heap.size W w') :=
    fun W hW => IH S S2 W (fun b hb => Nat.lt_of_lt_of_le (hSw b hb) hW.size) (fun b hb => Nat.lt_of_lt_of_le (hSw2 b hb) hW.size) pq pq2 cq cq2 t.kids t2.kids (arms_to (Keep.of hW hSw) (fun _ h => h) hK) (arms_to (Keep.of hW hSw2) (fun _ h => h) hK2)
  have HV : Hid (SlOf S (ElE S w) 2 pc cc t.coils) := hC
  have HV2 : Hid (SlOf S2 (ElE S2 w) 2 pc2 cc2 t2.coils) := hC2
  have HSw : Hid (∀ b, S b → b < w.heap.size) := hSw
  have HSw2 : Hid (∀ b, S2 b → b < w.heap.size) := hSw2
  obtain ⟨⟨hl1, hl2⟩, -⟩ := hC
  obtain ⟨⟨hl3, hl4⟩, -⟩ := hC2
  show Calls _ _ _ _ fun r w' => r = .returned (.bool (eqN (k + 1) t.net t2.net && eqL eqE t.coils t2.coils && eqL (eqA k n) t.kids t2.kids)) ∧ _
  clear hSw hSw2 hN hK hN2 hK2 IH
  generalize eqL (eqA k n) t.kids t2.kids = R3 at *
  generalize eqN (k + 1) t.net t2.net = R1 at *
  generalize t.coils = es at *
  generalize t2.coils = fs at *
  generalize t.kids.length = lq at *
  generalize t2.kids.length = lq2 at *
  obtain ⟨R, hR⟩ : ∃ R : Bool, R = eqL eqE es fs := ⟨_, rfl⟩
  rw [← hR]
  have HR : Hid (R = eqL eqE es fs) := hR
  clear hR
  cases R1 with
  | true =>
    rw [Bool.true_and]
    by_cases hlen : es.length = fs.length
    · have HL : Hid (es.length = fs.length) := hlen
      rw [← hlen]
      rw [← hlen] at hl3
      clear hlen hl4
      go_enter Try.func21, Try.ntmps21
      go_wp2_with fail
      refine (HC1.out _ (two' _ _ _)).mono ?_
      rintro r V ⟨rfl, hb1⟩
      have HBa : Hid (Below w.heap.size w V) := of_two' hb1
      have HL1 : Hid (V.cell? ⟨w.heap.size, 4, none⟩ = some (.slice pc es.length cc)) := cell2' hb1 (by rw [World.cell?_alloc_mark]; rfl)
      have HL2 : Hid (V.cell? ⟨w.heap.size + 1, 4, none⟩ = some (.slice pc2 es.length cc2)) := cell3' hb1 (by rw [World.cell?_alloc_mark]; rfl)
      have HL3 : Hid (V.cell? ⟨w.heap.size, 5, none⟩ = some (.slice pq lq cq)) := cell2' hb1 (by rw [World.cell?_alloc_mark]; rfl)
      have HL4 : Hid (V.cell? ⟨w.heap.size + 1, 5, none⟩ = some (.slice pq2 lq2 cq2)) := cell3' hb1 (by rw [World.cell?_alloc_mark]; rfl)
      have b1 := HL1.out
      have b2 := HL2.out
      clear hb1
      go_wp2
      go_loopw [5] (fun d w' => ∃ j : Nat, j ≤ es.length ∧ d = .int .i64 (j : Int) ∧ Hid (UpTo eqE es fs j) ∧ Hid (Below V.heap.size V w')) (fun d _ => es.length - (intOf d).toNat)
      case atStart => exact ⟨0, by omega, rfl, UpTo.zero, Below.refl _ _⟩
      case round =>
        obtain ⟨j, hj, rfl, HP, HB⟩ := hrel
        rename_i wr
        have HBw : Hid (Below w.heap.size w wr) := HBa.out.trans (HB.out.mono HBa.out.size)
        clear b1 b2
        have b1 := keep2 HB.out HL1.out
        have b2 := keep2 HB.out HL2.out
        by_cases hlt : j < es.length
        · have hlt' : (j : Int) < (es.length : Int) := by omega
          obtain ⟨t, ht⟩ := get_lt hlt
          obtain ⟨u, hu⟩ := get_lt (ts := fs) (j := j) (HL.out ▸ hlt)
          obtain ⟨b, off, rfl, hb, pa1, ca1, c0, c1, hN⟩ := (els_to (Keep.of HBw.out HSw.out) (fun _ h => h) HV.out).get ht
          obtain ⟨b', off', rfl, hb', pa3, ca3, d0, d1, hN2⟩ := (els_to (Keep.of HBw.out HSw2.out) (fun _ h => h) HV2.out).get hu
          have HE : Hid (ElV S wr (.agg #[.int .i64 t.1, .slice pa1 t.2.length ca1]) t) := ⟨pa1, ca1, rfl, hN⟩
          have HE2 : Hid (ElV S2 wr (.agg #[.int .i64 u.1, .slice pa3 u.2.length ca3]) u) := ⟨pa3, ca3, rfl, hN2⟩
          have HT : Hid (es[j]? = some t) := ht
          have HU : Hid (fs[j]? = some u) := hu
          clear ht hu hN hN2
          have HG : Hid (∀ (d : Nat) (os : Array Obj), Calls Try.prog 43 #[.agg #[.int .i64 t.1, .slice pa1 t.2.length ca1], .agg #[.int .i64 u.1, .slice pa3 u.2.length ca3]] (Sort.grow (redrawn wr d) os) fun e w'' => e = .returned (.bool (eqE t u)) ∧ ∃ p' : Regrown, w'' = Sort.grow (redrawn wr p'.d) p'.os) := fun d os =>
            Calls.regrown_of (sElemSame_any (S := S) (S2 := S2) (fun b hb => Nat.lt_of_lt_of_le (HSw.out b hb) (Nat.le_trans HBw.out.size (below_regrown wr d os).size)) (fun b hb => Nat.lt_of_lt_of_le (HSw2.out b hb) (Nat.le_trans HBw.out.size (below_regrown wr d os).size)) _ _ t u
              (HE.out.to (Keep.of (below_regrown wr d os) (fun b hb => Nat.lt_of_lt_of_le (HSw.out b hb) HBw.out.size)) (fun _ h => h)) (HE2.out.to (Keep.of (below_regrown wr d os) (fun b hb => Nat.lt_of_lt_of_le (HSw2.out b hb) HBw.out.size)) (fun _ h => h)))
          have k0 := cell_regrown c0
          have q0 := cell_regrown d0
          have k1 := cell_regrown c1
          have q1 := cell_regrown d1
          have k8 := cell_regrown b1
          have q8 := cell_regrown b2
          cases hq : eqE t u with
          | true =>
            have HQ : Hid (eqE t u = true) := hq
            rw [hq] at HG
            clear hq HR
            go_wp2
            refine wp_region_quiet_below (by kernel_rfl) (by kernel_rfl) ?_
            repeat (first | go_big_quiet_step (exact HG.out _ _) | quiet_step (exact HG.out _ _))
            refine wpQuiet_nil ?_
            intro _ hw'
            obtain ⟨⟨dq, osq⟩, hw''⟩ := hw'
            subst hw''
            have HBq : Hid (Below V.heap.size V (Sort.grow (redrawn wr dq) osq)) := HB.out.trans ((below_regrown _ dq osq).mono HB.out.size)
            clear k0 q0 c0 d0 k1 q1 c1 d1 k8 q8 b1 b2 HG
            generalize Sort.grow (redrawn wr dq) osq = wq at *
            go_wp2
            exact ⟨⟨j + 1, by omega, by go_num, HP.out.next HT.out HU.out HQ.out, HBq⟩, by simp [intOf]; omega⟩
          | false =>
            have HR1 : Hid (R = false) := HR.out.trans (eqL_no j HT.out HU.out hq)
            rw [hq] at HG
            clear hq
            go_wp2
            refine wp_region_quiet_below (by kernel_rfl) (by kernel_rfl) ?_
            repeat (first | go_big_quiet_step (exact HG.out _ _) | quiet_step (exact HG.out _ _))
            refine wpQuiet_nil ?_
            intro _ hw'
            obtain ⟨⟨dq, osq⟩, hw''⟩ := hw'
            subst hw''
            have HBq : Hid (Below w.heap.size w (Sort.grow (redrawn wr dq) osq)) := HBw.out.trans ((below_regrown _ dq osq).mono HBw.out.size)
            clear k0 q0 c0 d0 k1 q1 c1 d1 k8 q8 b1 b2 HG
            generalize Sort.grow (redrawn wr dq) osq = wq at *
            go_wp2
            go_ret
            exact ⟨by rw [HR1.out, Bool.false_and]; rfl, HBq.out⟩
        · obtain rfl : j = es.length := by omega
          have HR1 : Hid (R = true) := HR.out.trans (HP.out.all HL.out)
          have b3 := keep2 HB.out HL3.out
          have b4 := keep2 HB.out HL4.out
          go_wp2_with fail
          refine (HC3.out _ HBw.out).mono ?_
          rintro r w3 ⟨rfl, hb3⟩
          have HB3 : Hid (Below w.heap.size w w3) := HBw.out.trans (hb3.mono HBw.out.size)
          clear hb3
          go_wp2
          go_ret
          exact ⟨by rw [HR1.out, Bool.true_and]; rfl, HB3.out⟩
    · have hlen' : ¬ (es.length : Int) = (fs.length : Int) := by omega
      have HR1 : Hid (R = false) := HR.out.trans (eqL_len hlen)
      go_enter Try.func21, Try.ntmps21
      go_wp2_with fail
      refine (HC1.out _ (two' _ _ _)).mono ?_
      rintro r V ⟨rfl, hb1⟩
      have HBa : Hid (Below w.heap.size w V) := of_two' hb1
      have b1 : V.cell? ⟨w.heap.size, 4, none⟩ = some (.slice pc es.length cc) := cell2' hb1 (by rw [World.cell?_alloc_mark]; rfl)
      have b2 : V.cell? ⟨w.heap.size + 1, 4, none⟩ = some (.slice pc2 fs.length cc2) := cell3' hb1 (by rw [World.cell?_alloc_mark]; rfl)
      clear hb1
      go_wp2
      go_ret
      exact ⟨by rw [HR1.out, Bool.false_and]; rfl, HBa.out⟩
  | false =>
    rw [Bool.false_and, Bool.false_and]
    go_enter Try.func21, Try.ntmps21
    go_wp2_with fail
    refine (HC1.out _ (two' _ _ _)).mono ?_
    rintro r V ⟨rfl, hb1⟩
    have HBa : Hid (Below w.heap.size w V) := of_two' hb1
    clear hb1
    go_wp2
    go_ret
    exact ⟨rfl, HBa.out⟩
theorem sArmSame_any (k : Nat) : ∀ n, SsA k n
  | 0 => fun _ _ _ _ _ _ _ _ _ h => h.elim
  | n + 1 => sArmSame_next k n (sTree_of k n (sArmSame_any k n))
theorem sTreeSame_any (k n : Nat) : SsT k n := sTree_of k n (sArmSame_any k n)
end Go.Proofs.Ytkkkjhlbkmcjiaa.Tr
