/- The document's l6ElemSame, l6NetSame. Helper text: no statement is claimed here. -/
import Derived.Test.YtjkpingdokkkcaaGreatDoorP02
import Derived.Test.YtjkpingdokkkcaaGreatDoorP01
namespace Go.Proofs.YtjkpingdokkkcaaGreatDoor.Tr
open Go.ChangeShapes Go.WideShapes Go.ChangeAt Go.RowKit

theorem box1 {w V : World} {o1 o2 : Obj} {i : Nat} {v : Value} (hV : V = (w.alloc o1).alloc o2) (h : (w.alloc o1).cell? ⟨w.heap.size, i, none⟩ = some v) : V.cell? ⟨w.heap.size, i, none⟩ = some v := by
  subst hV; exact cell2' (Below.refl _ _) h
theorem box2 {w V : World} {o1 o2 : Obj} {i : Nat} {v : Value} (hV : V = (w.alloc o1).alloc o2) (h : ((w.alloc o1).alloc o2).cell? ⟨(w.alloc o1).heap.size, i, none⟩ = some v) : V.cell? ⟨w.heap.size + 1, i, none⟩ = some v := by
  subst hV; exact cell3' (Below.refl _ _) h
set_option maxHeartbeats 2000000 in
theorem sElemSame_any {S S2 : Nat → Prop} {w : World} (hSw : ∀ b, S b → b < w.heap.size) (hSw2 : ∀ b, S2 b → b < w.heap.size) (v v2 : Value) (e e2 : El) (hV : ElV S w v e) (hV2 : ElV S2 w v2 e2) :
    Calls Tryz.prog 36 #[v, v2] w fun r w' => r = .returned (.bool (eqE e e2)) ∧ Below w.heap.size w w' := by
  obtain ⟨pa, ca, rfl, hA⟩ := hV
  obtain ⟨pb, cb, rfl, hA2⟩ := hV2
  obtain ⟨op, es⟩ := e
  obtain ⟨op2, fs⟩ := e2
  show Calls _ _ #[.agg #[.int .i64 op, .slice pa es.length ca], .agg #[.int .i64 op2, .slice pb fs.length cb]] _ _
  by_cases hop : op = op2
  · subst hop
    have hR0 : eqE (op, es) (op, fs) = eqL eqAr es fs := by unfold eqE; rw [decide_eq_true rfl, Bool.true_and]
    rw [hR0]
    clear hR0
    have HV : Hid (SlOf S (ArE w) 3 pa ca es) := hA
    have HV2 : Hid (SlOf S2 (ArE w) 3 pb cb fs) := hA2
    have HSw : Hid (∀ b, S b → b < w.heap.size) := hSw
    have HSw2 : Hid (∀ b, S2 b → b < w.heap.size) := hSw2
    replace hA : SlOf S (ArE w) 3 pa ca es := hA
    replace hA2 : SlOf S2 (ArE w) 3 pb cb fs := hA2
    obtain ⟨⟨hl1, hl2⟩, -⟩ := hA
    obtain ⟨⟨hl3, hl4⟩, -⟩ := hA2
    clear hSw hSw2
    obtain ⟨R, hR⟩ : ∃ R : Bool, R = eqL eqAr es fs := ⟨_, rfl⟩
    rw [← hR]
    have HR : Hid (R = eqL eqAr es fs) := hR
    clear hR
    by_cases hlen : es.length = fs.length
    · have HL : Hid (es.length = fs.length) := hlen
      rw [← hlen]
      rw [← hlen] at hl3
      clear hlen hl4
      go_enter Tryz.func36, Tryz.ntmps36
      go_wp2
      obtain ⟨V, hVe⟩ : ∃ V, V = (w.alloc (.cells #[.int .i64 op, .slice pa es.length ca] 46)).alloc (.cells #[.int .i64 op, .slice pb es.length cb] 46) := ⟨_, rfl⟩
      have HBa : Hid (Below w.heap.size w V) := hVe ▸ two' _ _ _
      have HL1 : Hid (V.cell? ⟨w.heap.size, 1, none⟩ = some (.slice pa es.length ca)) := box1 hVe (by rw [World.cell?_alloc_mark]; rfl)
      have HL2 : Hid (V.cell? ⟨w.heap.size + 1, 1, none⟩ = some (.slice pb es.length cb)) := box2 hVe (by rw [World.cell?_alloc_mark]; rfl)
      rw [← hVe]
      clear hVe
      go_loopw [5] (fun d w' => ∃ j : Nat, j ≤ es.length ∧ d = .int .i64 (j : Int) ∧ Hid (UpTo eqAr es fs j) ∧ Hid (Below V.heap.size V w')) (fun d _ => es.length - (intOf d).toNat)
      case atStart => exact ⟨0, by omega, rfl, UpTo.zero, Below.refl _ _⟩
      case round =>
        obtain ⟨j, hj, rfl, HP, HB⟩ := hrel
        rename_i wr
        have HBw : Hid (Below w.heap.size w wr) := HBa.out.trans (HB.out.mono HBa.out.size)
        have b1 := keep2 HB.out HL1.out
        have b2 := keep2 HB.out HL2.out
        by_cases hlt : j < es.length
        · have hlt' : (j : Int) < (es.length : Int) := by omega
          obtain ⟨t, ht⟩ := get_lt hlt
          obtain ⟨u, hu⟩ := get_lt (ts := fs) (j := j) (HL.out ▸ hlt)
          obtain ⟨b, off, rfl, hb, c0, c1, c2⟩ := (args_to (Keep.of HBw.out HSw.out) (fun _ h => h) HV.out).get ht
          obtain ⟨b', off', rfl, hb', d0, d1, d2⟩ := (args_to (Keep.of HBw.out HSw2.out) (fun _ h => h) HV2.out).get hu
          obtain ⟨t0, t1, t2⟩ := t
          obtain ⟨u0, u1, u2⟩ := u
          have k0 := cell_regrown c0
          have k1 := cell_regrown c1
          have k2 := cell_regrown c2
          have q0 := cell_regrown d0
          have q1 := cell_regrown d1
          have q2 := cell_regrown d2
          have k3 := cell_regrown b1
          have q3 := cell_regrown b2
          have hnq := neq_arg t0 t1 t2 u0 u1 u2
          have HT : Hid (es[j]? = some (t0, t1, t2)) := ht
          have HU : Hid (fs[j]? = some (u0, u1, u2)) := hu
          clear ht hu
          cases hq : eqAr (t0, t1, t2) (u0, u1, u2) with
          | true =>
            have HQ : Hid (eqAr (t0, t1, t2) (u0, u1, u2) = true) := hq
            rw [hq] at hnq
            clear hq
            go_wp2
            refine wp_region_quiet_below (by kernel_rfl) (by kernel_rfl) ?_
            repeat (first | go_big_quiet_step (fail) | quiet_step (fail))
            refine wpQuiet_nil ?_
            intro _ hw'
            obtain ⟨⟨dq, osq⟩, hw''⟩ := hw'
            subst hw''
            have HBq : Hid (Below V.heap.size V (Sort.grow (redrawn wr dq) osq)) := HB.out.trans ((below_regrown _ dq osq).mono HB.out.size)
            clear k0 k1 k2 q0 q1 q2 c0 c1 c2 d0 d1 d2 hnq k3 q3 b1 b2
            generalize Sort.grow (redrawn wr dq) osq = wq at *
            go_wp2
            exact ⟨⟨j + 1, by omega, by go_num, HP.out.next HT.out HU.out HQ.out, HBq⟩, by simp [intOf]; omega⟩
          | false =>
            have HR1 : Hid (R = false) := HR.out.trans (eqL_no j HT.out HU.out hq)
            rw [hq] at hnq
            clear hq
            go_wp2
            refine wp_region_quiet_below (by kernel_rfl) (by kernel_rfl) ?_
            repeat (first | go_big_quiet_step (fail) | quiet_step (fail))
            refine wpQuiet_nil ?_
            intro _ hw'
            obtain ⟨⟨dq, osq⟩, hw''⟩ := hw'
            subst hw''
            have HBq : Hid (Below w.heap.size w (Sort.grow (redrawn wr dq) osq)) := HBw.out.trans ((below_regrown _ dq osq).mono HBw.out.size)
            clear k0 k1 k2 q0 q1 q2 c0 c1 c2 d0 d1 d2 hnq k3 q3 b1 b2
            generalize Sort.grow (redrawn wr dq) osq = wq at *
            go_wp2
            go_ret
            exact ⟨by rw [HR1.out]; rfl, HBq.out⟩
        · obtain rfl : j = es.length := by omega
          have HR1 : Hid (R = true) := HR.out.trans (HP.out.all HL.out)
          go_wp2
          go_ret
          exact ⟨by rw [HR1.out]; rfl, HBw.out⟩
    · have hlen' : ¬ (es.length : Int) = (fs.length : Int) := by omega
      have HR1 : Hid (R = false) := HR.out.trans (eqL_len hlen)
      go_enter Tryz.func36, Tryz.ntmps36
      go_wp2
      go_ret
      exact ⟨by rw [HR1.out]; rfl, two' _ _ _⟩
  · have hR : eqE (op, es) (op2, fs) = false := by unfold eqE; rw [decide_eq_false hop, Bool.false_and]
    rw [hR]
    clear hA hA2 hR
    go_enter Tryz.func36, Tryz.ntmps36
    go_wp2
    go_ret
    exact ⟨rfl, two' _ _ _⟩

def SsN (n : Nat) : Prop := ∀ (S S2 : Nat → Prop) (w : World) (_ : ∀ b, S b → b < w.heap.size) (_ : ∀ b, S2 b → b < w.heap.size) (v v2 : Value) (t t2 : NT n) (_ : NtV S w n v t) (_ : NtV S2 w n v2 t2),
    Calls Tryz.prog 35 #[v, v2] w fun r w' => r = .returned (.bool (eqN n t t2)) ∧ Below w.heap.size w w'
set_option maxHeartbeats 3000000 in
theorem sNetSame_next (n : Nat) (IH : SsN n) : SsN (n + 1) := by
  intro S S2 w hSw hSw2 v v2 t t2 hV hV2
  obtain ⟨pa, ca, pk, ck, rfl, hA, hK⟩ := hV
  obtain ⟨pb, cb, pq, cq, rfl, hA2, hK2⟩ := hV2
  have HC1 : Hid (∀ W, Below w.heap.size w W → Calls Tryz.prog 36 #[.agg #[.int .i64 t.el.1, .slice pa t.el.2.length ca], .agg #[.int .i64 t2.el.1, .slice pb t2.el.2.length cb]] W fun r w' => r = .returned (.bool (eqE t.el t2.el)) ∧ Below W.heap.size W w') :=
    fun W hW => sElemSame_any (S := S) (S2 := S2) (fun b hb => Nat.lt_of_lt_of_le (hSw b hb) hW.size) (fun b hb => Nat.lt_of_lt_of_le (hSw2 b hb) hW.size) _ _ t.el t2.el ⟨pa, ca, rfl, args_to (Keep.of hW hSw) (fun _ h => h) hA⟩ ⟨pb, cb, rfl, args_to (Keep.of hW hSw2) (fun _ h => h) hA2⟩
  have HV : Hid (SlOf S (NtE S w n) 4 pk ck t.kids) := hK
  have HV2 : Hid (SlOf S2 (NtE S2 w n) 4 pq cq t2.kids) := hK2
  have HSw : Hid (∀ b, S b → b < w.heap.size) := hSw
  have HSw2 : Hid (∀ b, S2 b → b < w.heap.size) := hSw2
  have HI : Hid (SsN n) := IH
  obtain ⟨⟨hl1, hl2⟩, -⟩ := hK
  obtain ⟨⟨hl3, hl4⟩, -⟩ := hK2
  show Calls _ _ _ _ fun r w' => r = .returned (.bool (decide (t.kind = t2.kind) && eqE t.el t2.el && eqL (eqN n) t.kids t2.kids)) ∧ _
  clear hSw hSw2 hA hA2 IH
  generalize eqE t.el t2.el = R1 at *
  generalize t.kids = es at *
  generalize t2.kids = fs at *
  generalize t.kind = kd at *
  generalize t.el.1 = op at *
  generalize t.el.2.length = la at *
  generalize t2.kind = kd2 at *
  generalize t2.el.1 = op2 at *
  generalize t2.el.2.length = la2 at *
  by_cases hk : kd = kd2
  · subst hk
    rw [decide_eq_true rfl, Bool.true_and]
    cases R1 with
    | true =>
      rw [Bool.true_and]
      obtain ⟨R, hR⟩ : ∃ R : Bool, R = eqL (eqN n) es fs := ⟨_, rfl⟩
      rw [← hR]
      have HR : Hid (R = eqL (eqN n) es fs) := hR
      clear hR
      by_cases hlen : es.length = fs.length
      · have HL : Hid (es.length = fs.length) := hlen
        rw [← hlen]
        rw [← hlen] at hl3
        clear hlen hl4
        go_enter Tryz.func35, Tryz.ntmps35
        go_wp2_with fail
        refine (HC1.out _ (two' _ _ _)).mono ?_
        rintro r V ⟨rfl, hb1⟩
        have HBa : Hid (Below w.heap.size w V) := of_two' hb1
        have HL1 : Hid (V.cell? ⟨w.heap.size, 3, none⟩ = some (.slice pk es.length ck)) := cell2' hb1 (by rw [World.cell?_alloc_mark]; rfl)
        have HL2 : Hid (V.cell? ⟨w.heap.size + 1, 3, none⟩ = some (.slice pq es.length cq)) := cell3' hb1 (by rw [World.cell?_alloc_mark]; rfl)
        have b1 := HL1.out
        have b2 := HL2.out
        clear hb1
        go_wp2
        go_loopw [5] (fun d w' => ∃ j : Nat, j ≤ es.length ∧ d = .int .i64 (j : Int) ∧ Hid (UpTo (eqN n) es fs j) ∧ Hid (Below V.heap.size V w')) (fun d _ => es.length - (intOf d).toNat)
        case atStart => exact ⟨0, by omega, rfl, UpTo.zero, Below.refl _ _⟩
        case round =>
          obtain ⟨j, hj, rfl, HP, HB⟩ := hrel
          rename_i wr
          have HBw : Hid (Below w.heap.size w wr) := HBa.out.trans (HB.out.mono HBa.out.size)
          clear b1 b2
          have b1 := keep2 HB.out HL1.out
          have b2 := keep2 HB.out HL2.out
          by_cases hlt : j < es.length
          · have hlt' : (j : Int) < (es.length : Int) := by omega
            obtain ⟨t, ht⟩ := get_lt hlt
            obtain ⟨u, hu⟩ := get_lt (ts := fs) (j := j) (HL.out ▸ hlt)
            obtain ⟨b, off, rfl, hb, hE⟩ := (nets_to (Keep.of HBw.out HSw.out) (fun _ h => h) HV.out).get ht
            obtain ⟨b', off', rfl, hb', hE2⟩ := (nets_to (Keep.of HBw.out HSw2.out) (fun _ h => h) HV2.out).get hu
            obtain ⟨kd1, op1, pa1, la1, ca1, pk1, lk1, ck1, c0, c1, c2, c3, hN⟩ := hE.out
            obtain ⟨kd3, op3, pa3, la3, ca3, pk3, lk3, ck3, d0, d1, d2, d3, hN2⟩ := hE2.out
            have HE : Hid (NtV S wr n (.agg #[.int .i64 kd1, .int .i64 op1, .slice pa1 la1 ca1, .slice pk1 lk1 ck1]) t) := hN
            have HE2 : Hid (NtV S2 wr n (.agg #[.int .i64 kd3, .int .i64 op3, .slice pa3 la3 ca3, .slice pk3 lk3 ck3]) u) := hN2
            have HT : Hid (es[j]? = some t) := ht
            have HU : Hid (fs[j]? = some u) := hu
            clear ht hu hN hN2 hE hE2
            have HG : Hid (∀ (d : Nat) (os : Array Obj), Calls Tryz.prog 35 #[.agg #[.int .i64 kd1, .int .i64 op1, .slice pa1 la1 ca1, .slice pk1 lk1 ck1], .agg #[.int .i64 kd3, .int .i64 op3, .slice pa3 la3 ca3, .slice pk3 lk3 ck3]] (Sort.grow (redrawn wr d) os) fun e w'' => e = .returned (.bool (eqN n t u)) ∧ ∃ p' : Regrown, w'' = Sort.grow (redrawn wr p'.d) p'.os) := fun d os =>
              Calls.regrown_of (HI.out S S2 _ (fun b hb => Nat.lt_of_lt_of_le (HSw.out b hb) (Nat.le_trans HBw.out.size (below_regrown wr d os).size)) (fun b hb => Nat.lt_of_lt_of_le (HSw2.out b hb) (Nat.le_trans HBw.out.size (below_regrown wr d os).size)) _ _ t u
                (HE.out.to (Keep.of (below_regrown wr d os) (fun b hb => Nat.lt_of_lt_of_le (HSw.out b hb) HBw.out.size)) (fun _ h => h)) (HE2.out.to (Keep.of (below_regrown wr d os) (fun b hb => Nat.lt_of_lt_of_le (HSw2.out b hb) HBw.out.size)) (fun _ h => h)))
            have k0 := cell_regrown c0
            have k1 := cell_regrown c1
            have k2 := cell_regrown c2
            have k3 := cell_regrown c3
            have q0 := cell_regrown d0
            have q1 := cell_regrown d1
            have q2 := cell_regrown d2
            have q3 := cell_regrown d3
            have k4 := cell_regrown b1
            have q4 := cell_regrown b2
            cases hq : eqN n t u with
            | true =>
              have HQ : Hid (eqN n t u = true) := hq
              rw [hq] at HG
              clear hq HR
              go_wp2
              refine wp_region_quiet_below (by kernel_rfl) (by kernel_rfl) ?_
              repeat (first | go_big_quiet_step (exact HG.out _ _) | quiet_step (exact HG.out _ _))
              refine wpQuiet_nil ?_
              intro _ hw'
              obtain ⟨⟨dq, osq⟩, hw''⟩ := hw'
              subst hw''
              have HBq : Hid (Below V.heap.size V (Sort.grow (redrawn wr dq) osq)) := HB.out.trans ((below_regrown _ dq osq).mono HB.out.size)
              clear k0 k1 k2 k3 k4 q0 q1 q2 q3 q4 c0 c1 c2 c3 d0 d1 d2 d3 HG b1 b2
              generalize Sort.grow (redrawn wr dq) osq = wq at *
              go_wp2
              exact ⟨⟨j + 1, by omega, by go_num, HP.out.next HT.out HU.out HQ.out, HBq⟩, by simp [intOf]; omega⟩
            | false =>
              have HR1 : Hid (R = false) := HR.out.trans (eqL_no j HT.out HU.out hq)
              rw [hq] at HG
              clear hq
              go_wp2
              refine wp_region_quiet_below (by kernel_rfl) (by kernel_rfl) ?_
              repeat (first | go_big_quiet_step (exact HG.out _ _) | quiet_step (exact HG.out _ _))
              refine wpQuiet_nil ?_
              intro _ hw'
              obtain ⟨⟨dq, osq⟩, hw''⟩ := hw'
              subst hw''
              have HBq : Hid (Below w.heap.size w (Sort.grow (redrawn wr dq) osq)) := HBw.out.trans ((below_regrown _ dq osq).mono HBw.out.size)
              clear k0 k1 k2 k3 k4 q0 q1 q2 q3 q4 c0 c1 c2 c3 d0 d1 d2 d3 HG b1 b2
              generalize Sort.grow (redrawn wr dq) osq = wq at *
              go_wp2
              go_ret
              exact ⟨by rw [HR1.out]; rfl, HBq.out⟩
          · obtain rfl : j = es.length := by omega
            have HR1 : Hid (R = true) := HR.out.trans (HP.out.all HL.out)
            go_wp2
            go_ret
            exact ⟨by rw [HR1.out]; rfl, HBw.out⟩
      · have hlen' : ¬ (es.length : Int) = (fs.length : Int) := by omega
        have HR1 : Hid (R = false) := HR.out.trans (eqL_len hlen)
        go_enter Tryz.func35, Tryz.ntmps35
        go_wp2_with fail
        refine (HC1.out _ (two' _ _ _)).mono ?_
        rintro r V ⟨rfl, hb1⟩
        have HBa : Hid (Below w.heap.size w V) := of_two' hb1
        have b1 : V.cell? ⟨w.heap.size, 3, none⟩ = some (.slice pk es.length ck) := cell2' hb1 (by rw [World.cell?_alloc_mark]; rfl)
        have b2 : V.cell? ⟨w.heap.size + 1, 3, none⟩ = some (.slice pq fs.length cq) := cell3' hb1 (by rw [World.cell?_alloc_mark]; rfl)
        clear hb1
        go_wp2
        go_ret
        exact ⟨by rw [HR1.out]; rfl, HBa.out⟩
    | false =>
      rw [Bool.false_and]
      go_enter Tryz.func35, Tryz.ntmps35
      go_wp2_with fail
      refine (HC1.out _ (two' _ _ _)).mono ?_
      rintro r V ⟨rfl, hb1⟩
      have HBa : Hid (Below w.heap.size w V) := of_two' hb1
      clear hb1
      go_wp2
      go_ret
      exact ⟨rfl, HBa.out⟩
  · rw [decide_eq_false hk, Bool.false_and, Bool.false_and]
    go_enter Tryz.func35, Tryz.ntmps35
    go_wp2
    go_ret
    exact ⟨rfl, two' _ _ _⟩
theorem sNetSame_any : ∀ n, SsN n
  | 0 => fun _ _ _ _ _ _ _ _ _ h => h.elim
  | n + 1 => sNetSame_next n (sNetSame_any n)
end Go.Proofs.YtjkpingdokkkcaaGreatDoor.Tr

/- The document's l6ArmSame, TreeSame. Helper text: no statement is claimed here. -/
namespace Go.Proofs.YtjkpingdokkkcaaGreatDoor.Tr
open Go.ChangeShapes Go.WideShapes Go.ChangeAt Go.RowKit

def SsA (k n : Nat) : Prop := ∀ (S S2 : Nat → Prop) (w : World) (_ : ∀ b, S b → b < w.heap.size) (_ : ∀ b, S2 b → b < w.heap.size) (v v2 : Value) (t t2 : AT k n) (_ : AmV S w k n v t) (_ : AmV S2 w k n v2 t2),
    Calls Tryz.prog 21 #[v, v2] w fun r w' => r = .returned (.bool (eqA k n t t2)) ∧ Below w.heap.size w w'
def SsT (k n : Nat) : Prop := ∀ (S S2 : Nat → Prop) (w : World) (_ : ∀ b, S b → b < w.heap.size) (_ : ∀ b, S2 b → b < w.heap.size) (p p2 : Option Addr) (cap cap2 : Nat) (es fs : List (AT k n)) (_ : SlOf S (AmE S w k n) 6 p cap es) (_ : SlOf S2 (AmE S2 w k n) 6 p2 cap2 fs),
    Calls Tryz.prog 7 #[.slice p es.length cap, .slice p2 fs.length cap2] w fun r w' => r = .returned (.bool (eqL (eqA k n) es fs)) ∧ Below w.heap.size w w'
set_option maxHeartbeats 3000000 in
theorem sTree_of (k n : Nat) (IH : SsA k n) : SsT k n := by
  intro S S2 w hSw hSw2 p p2 cap cap2 es fs hV hV2
  have HV : Hid (SlOf S (AmE S w k n) 6 p cap es) := hV
  have HV2 : Hid (SlOf S2 (AmE S2 w k n) 6 p2 cap2 fs) := hV2
  have HSw : Hid (∀ b, S b → b < w.heap.size) := hSw
  have HSw2 : Hid (∀ b, S2 b → b < w.heap.size) := hSw2
  have HI : Hid (SsA k n) := IH
  obtain ⟨⟨hl1, hl2⟩, -⟩ := hV
  obtain ⟨⟨hl3, hl4⟩, -⟩ := hV2
  clear hSw hSw2 IH
  obtain ⟨R, hR⟩ : ∃ R : Bool, R = eqL (eqA k n) es fs := ⟨_, rfl⟩
  rw [← hR]
  have HR : Hid (R = eqL (eqA k n) es fs) := hR
  clear hR
  by_cases hlen : es.length = fs.length
  · have HL : Hid (es.length = fs.length) := hlen
    rw [← hlen]
    rw [← hlen] at hl3
    clear hlen hl4
    go_enter Tryz.func7, Tryz.ntmps7
    go_wp2
    go_loopw [5] (fun d w' => ∃ j : Nat, j ≤ es.length ∧ d = .int .i64 (j : Int) ∧ Hid (UpTo (eqA k n) es fs j) ∧ Hid (Below w.heap.size w w')) (fun d _ => es.length - (intOf d).toNat)
    case atStart => exact ⟨0, by omega, rfl, UpTo.zero, Below.refl _ _⟩
    case round =>
      obtain ⟨j, hj, rfl, HP, HB⟩ := hrel
      rename_i wr
      by_cases hlt : j < es.length
      · have hlt' : (j : Int) < (es.length : Int) := by omega
        obtain ⟨t, ht⟩ := get_lt hlt
        obtain ⟨u, hu⟩ := get_lt (ts := fs) (j := j) (HL.out ▸ hlt)
        obtain ⟨b, off, rfl, hb, hE⟩ := (arms_to (Keep.of HB.out HSw.out) (fun _ h => h) HV.out).get ht
        obtain ⟨b', off', rfl, hb', hE2⟩ := (arms_to (Keep.of HB.out HSw2.out) (fun _ h => h) HV2.out).get hu
        obtain ⟨kd1, op1, pa1, la1, ca1, pk1, lk1, ck1, pc1, lc1, cc1, pq1, lq1, cq1, c0, c1, c2, c3, c4, c5, hN⟩ := hE.out
        obtain ⟨kd3, op3, pa3, la3, ca3, pk3, lk3, ck3, pc3, lc3, cc3, pq3, lq3, cq3, d0, d1, d2, d3, d4, d5, hN2⟩ := hE2.out
        have HE : Hid (AmV S wr k n (.agg #[.int .i64 kd1, .int .i64 op1, .slice pa1 la1 ca1, .slice pk1 lk1 ck1, .slice pc1 lc1 cc1, .slice pq1 lq1 cq1]) t) := hN
        have HE2 : Hid (AmV S2 wr k n (.agg #[.int .i64 kd3, .int .i64 op3, .slice pa3 la3 ca3, .slice pk3 lk3 ck3, .slice pc3 lc3 cc3, .slice pq3 lq3 cq3]) u) := hN2
        have HT : Hid (es[j]? = some t) := ht
        have HU : Hid (fs[j]? = some u) := hu
        clear ht hu hN hN2 hE hE2
        have HG : Hid (∀ (d : Nat) (os : Array Obj), Calls Tryz.prog 21 #[.agg #[.int .i64 kd1, .int .i64 op1, .slice pa1 la1 ca1, .slice pk1 lk1 ck1, .slice pc1 lc1 cc1, .slice pq1 lq1 cq1], .agg #[.int .i64 kd3, .int .i64 op3, .slice pa3 la3 ca3, .slice pk3 lk3 ck3, .slice pc3 lc3 cc3, .slice pq3 lq3 cq3]] (Sort.grow (redrawn wr d) os) fun e w'' => e = .returned (.bool (eqA k n t u)) ∧ ∃ p' : Regrown, w'' = Sort.grow (redrawn wr p'.d) p'.os) := fun d os =>
          Calls.regrown_of (HI.out S S2 _ (fun b hb => Nat.lt_of_lt_of_le (HSw.out b hb) (Nat.le_trans HB.out.size (below_regrown wr d os).size)) (fun b hb => Nat.lt_of_lt_of_le (HSw2.out b hb) (Nat.le_trans HB.out.size (below_regrown wr d os).size)) _ _ t u
            (HE.out.to (Keep.of (below_regrown wr d os) (fun b hb => Nat.lt_of_lt_of_le (HSw.out b hb) HB.out.size)) (fun _ h => h)) (HE2.out.to (Keep.of (below_regrown wr d os) (fun b hb => Nat.lt_of_lt_of_le (HSw2.out b hb) HB.out.size)) (fun _ h => h)))
        have k0 := cell_regrown c0
        have q0 := cell_regrown d0
        have k1 := cell_regrown c1
        have q1 := cell_regrown d1
        have k2 := cell_regrown c2
        have q2 := cell_regrown d2
        have k3 := cell_regrown c3
        have q3 := cell_regrown d3
        have k4 := cell_regrown c4
        have q4 := cell_regrown d4
        have k5 := cell_regrown c5
        have q5 := cell_regrown d5
        cases hq : eqA k n t u with
        | true =>
          have HQ : Hid (eqA k n t u = true) := hq
          rw [hq] at HG
          clear hq HR
          go_wp2
          refine wp_region_quiet_below (by kernel_rfl) (by kernel_rfl) ?_
          repeat (first | go_big_quiet_step (exact HG.out _ _) | quiet_step (exact HG.out _ _))
          refine wpQuiet_nil ?_
          intro _ hw'
          obtain ⟨⟨dq, osq⟩, hw''⟩ := hw'
          subst hw''
          have HBq : Hid (Below w.heap.size w (Sort.grow (redrawn wr dq) osq)) := HB.out.trans ((below_regrown _ dq osq).mono HB.out.size)
          clear k0 q0 c0 d0 k1 q1 c1 d1 k2 q2 c2 d2 k3 q3 c3 d3 k4 q4 c4 d4 k5 q5 c5 d5 HG
          generalize Sort.grow (redrawn wr dq) osq = wq at *
          go_wp2
          exact ⟨⟨j + 1, by omega, by go_num, HP.out.next HT.out HU.out HQ.out, HBq⟩, by simp [intOf]; omega⟩
        | false =>
          have HR1 : Hid (R = false) := HR.out.trans (eqL_no j HT.out HU.out hq)
          rw [hq] at HG
          clear hq
          go_wp2
          refine wp_region_quiet_below (by kernel_rfl) (by kernel_rfl) ?_
          repeat (first | go_big_quiet_step (exact HG.out _ _) | quiet_step (exact HG.out _ _))
          refine wpQuiet_nil ?_
          intro _ hw'
          obtain ⟨⟨dq, osq⟩, hw''⟩ := hw'
          subst hw''
          have HBq : Hid (Below w.heap.size w (Sort.grow (redrawn wr dq) osq)) := HB.out.trans ((below_regrown _ dq osq).mono HB.out.size)
          clear k0 q0 c0 d0 k1 q1 c1 d1 k2 q2 c2 d2 k3 q3 c3 d3 k4 q4 c4 d4 k5 q5 c5 d5 HG
          generalize Sort.grow (redrawn wr dq) osq = wq at *
          go_wp2
          go_ret
          exact ⟨by rw [HR1.out]; rfl, HBq.out⟩
      · obtain rfl : j = es.length := by omega
        have HR1 : Hid (R = true) := HR.out.trans (HP.out.all HL.out)
        go_wp2
        go_ret
        exact ⟨by rw [HR1.out]; rfl, HB.out⟩
  · have hlen' : ¬ (es.length : Int) = (fs.length : Int) := by omega
    have HR1 : Hid (R = false) := HR.out.trans (eqL_len hlen)
    go_enter Tryz.func7, Tryz.ntmps7
    go_wp2
    go_ret
    exact ⟨by rw [HR1.out]; rfl, Below.refl _ _⟩
set_option maxHeartbeats 3000000 in
theorem sArmSame_next (k n : Nat) (IH : SsT k n) : SsA k (n + 1) := by
  intro S S2 w hSw hSw2 v v2 t t2 hV hV2
  obtain ⟨kd, op, pa, la, ca, pk, lk, ck, pc, cc, pq, cq, rfl, hN, hC, hK⟩ := hV
  obtain ⟨kd2, op2, pa2, la2, ca2, pk2, lk2, ck2, pc2, cc2, pq2, cq2, rfl, hN2, hC2, hK2⟩ := hV2
  have HC1 : Hid (∀ W, Below w.heap.size w W → Calls Tryz.prog 35 #[.agg #[.int .i64 kd, .int .i64 op, .slice pa la ca, .slice pk lk ck], .agg #[.int .i64 kd2, .int .i64 op2, .slice pa2 la2 ca2, .slice pk2 lk2 ck2]] W fun r w' => r = .returned (.bool (eqN (k + 1) t.net t2.net)) ∧ Below W.heap.size W w') :=
    fun W hW => sNetSame_any (k + 1) S S2 W (fun b hb => Nat.lt_of_lt_of_le (hSw b hb) hW.size) (fun b hb => Nat.lt_of_lt_of_le (hSw2 b hb) hW.size) _ _ t.net t2.net (hN.to (Keep.of hW hSw) (fun _ h => h)) (hN2.to (Keep.of hW hSw2) (fun _ h => h))
  have HC3 : Hid (∀ W, Below w.heap.size w W → Calls Tryz.prog 7 #[.slice pq t.kids.length cq, .slice pq2 t2.kids.length cq2] W
      fun r w' => r = .returned (.bool (eqL (eqA k n) t.kids t2.kids)) ∧ Below W.heap.size W w') :=
    fun W hW => IH S S2 W (fun b hb => Nat.lt_of_lt_of_le (hSw b hb) hW.size) (fun b hb => Nat.lt_of_lt_of_le (hSw2 b hb) hW.size) pq pq2 cq cq2 t.kids t2.kids (arms_to (Keep.of hW hSw) (fun _ h => h) hK) (arms_to (Keep.of hW hSw2) (fun _ h => h) hK2)
  have HV : Hid (SlOf S (ElE S w) 2 pc cc t.coils) := hC
  have HV2 : Hid (SlOf S2 (ElE S2 w) 2 pc2 cc2 t2.coils) := hC2
  have HSw : Hid (∀ b, S b → b < w.heap.size) := hSw
  have HSw2 : Hid (∀ b, S2 b → b < w.heap.size) := hSw2
  obtain ⟨⟨hl1, hl2⟩, -⟩ := hC
  obtain ⟨⟨hl3, hl4⟩, -⟩ := hC2
  show Calls _ _ _ _ fun r w' => r = .returned (.bool (eqN (k + 1) t.net t2.net && eqL eqE t.coils t2.coils && eqL (eqA k n) t.kids t2.kids)) ∧ _
  clear hSw hSw2 hN hK hN2 hK2 IH
  generalize eqL (eqA k n) t.kids t2.kids = R3 at *
  generalize eqN (k + 1) t.net t2.net = R1 at *
  generalize t.coils = es at *
  generalize t2.coils = fs at *
  generalize t.kids.length = lq at *
  generalize t2.kids.length = lq2 at *
  obtain ⟨R, hR⟩ : ∃ R : Bool, R = eqL eqE es fs := ⟨_, rfl⟩
  rw [← hR]
  have HR : Hid (R = eqL eqE es fs) := hR
  clear hR
  cases R1 with
  | true =>
    rw [Bool.true_and]
    by_cases hlen : es.length = fs.length
    · have HL : Hid (es.length = fs.length) := hlen
      rw [← hlen]
      rw [← hlen] at hl3
      clear hlen hl4
      go_enter Tryz.func21, Tryz.ntmps21
      go_wp2_with fail
      refine (HC1.out _ (two' _ _ _)).mono ?_
      rintro r V ⟨rfl, hb1⟩
      have HBa : Hid (Below w.heap.size w V) := of_two' hb1
      have HL1 : Hid (V.cell? ⟨w.heap.size, 4, none⟩ = some (.slice pc es.length cc)) := cell2' hb1 (by rw [World.cell?_alloc_mark]; rfl)
      have HL2 : Hid (V.cell? ⟨w.heap.size + 1, 4, none⟩ = some (.slice pc2 es.length cc2)) := cell3' hb1 (by rw [World.cell?_alloc_mark]; rfl)
      have HL3 : Hid (V.cell? ⟨w.heap.size, 5, none⟩ = some (.slice pq lq cq)) := cell2' hb1 (by rw [World.cell?_alloc_mark]; rfl)
      have HL4 : Hid (V.cell? ⟨w.heap.size + 1, 5, none⟩ = some (.slice pq2 lq2 cq2)) := cell3' hb1 (by rw [World.cell?_alloc_mark]; rfl)
      have b1 := HL1.out
      have b2 := HL2.out
      clear hb1
      go_wp2
      go_loopw [5] (fun d w' => ∃ j : Nat, j ≤ es.length ∧ d = .int .i64 (j : Int) ∧ Hid (UpTo eqE es fs j) ∧ Hid (Below V.heap.size V w')) (fun d _ => es.length - (intOf d).toNat)
      case atStart => exact ⟨0, by omega, rfl, UpTo.zero, Below.refl _ _⟩
      case round =>
        obtain ⟨j, hj, rfl, HP, HB⟩ := hrel
        rename_i wr
        have HBw : Hid (Below w.heap.size w wr) := HBa.out.trans (HB.out.mono HBa.out.size)
        clear b1 b2
        have b1 := keep2 HB.out HL1.out
        have b2 := keep2 HB.out HL2.out
        by_cases hlt : j < es.length
        · have hlt' : (j : Int) < (es.length : Int) := by omega
          obtain ⟨t, ht⟩ := get_lt hlt
          obtain ⟨u, hu⟩ := get_lt (ts := fs) (j := j) (HL.out ▸ hlt)
          obtain ⟨b, off, rfl, hb, pa1, ca1, c0, c1, hN⟩ := (els_to (Keep.of HBw.out HSw.out) (fun _ h => h) HV.out).get ht
          obtain ⟨b', off', rfl, hb', pa3, ca3, d0, d1, hN2⟩ := (els_to (Keep.of HBw.out HSw2.out) (fun _ h => h) HV2.out).get hu
          have HE : Hid (ElV S wr (.agg #[.int .i64 t.1, .slice pa1 t.2.length ca1]) t) := ⟨pa1, ca1, rfl, hN⟩
          have HE2 : Hid (ElV S2 wr (.agg #[.int .i64 u.1, .slice pa3 u.2.length ca3]) u) := ⟨pa3, ca3, rfl, hN2⟩
          have HT : Hid (es[j]? = some t) := ht
          have HU : Hid (fs[j]? = some u) := hu
          clear ht hu hN hN2
          have HG : Hid (∀ (d : Nat) (os : Array Obj), Calls Tryz.prog 36 #[.agg #[.int .i64 t.1, .slice pa1 t.2.length ca1], .agg #[.int .i64 u.1, .slice pa3 u.2.length ca3]] (Sort.grow (redrawn wr d) os) fun e w'' => e = .returned (.bool (eqE t u)) ∧ ∃ p' : Regrown, w'' = Sort.grow (redrawn wr p'.d) p'.os) := fun d os =>
            Calls.regrown_of (sElemSame_any (S := S) (S2 := S2) (fun b hb => Nat.lt_of_lt_of_le (HSw.out b hb) (Nat.le_trans HBw.out.size (below_regrown wr d os).size)) (fun b hb => Nat.lt_of_lt_of_le (HSw2.out b hb) (Nat.le_trans HBw.out.size (below_regrown wr d os).size)) _ _ t u
              (HE.out.to (Keep.of (below_regrown wr d os) (fun b hb => Nat.lt_of_lt_of_le (HSw.out b hb) HBw.out.size)) (fun _ h => h)) (HE2.out.to (Keep.of (below_regrown wr d os) (fun b hb => Nat.lt_of_lt_of_le (HSw2.out b hb) HBw.out.size)) (fun _ h => h)))
          have k0 := cell_regrown c0
          have q0 := cell_regrown d0
          have k1 := cell_regrown c1
          have q1 := cell_regrown d1
          have k8 := cell_regrown b1
          have q8 := cell_regrown b2
          cases hq : eqE t u with
          | true =>
            have HQ : Hid (eqE t u = true) := hq
            rw [hq] at HG
            clear hq HR
            go_wp2
            refine wp_region_quiet_below (by kernel_rfl) (by kernel_rfl) ?_
            repeat (first | go_big_quiet_step (exact HG.out _ _) | quiet_step (exact HG.out _ _))
            refine wpQuiet_nil ?_
            intro _ hw'
            obtain ⟨⟨dq, osq⟩, hw''⟩ := hw'
            subst hw''
            have HBq : Hid (Below V.heap.size V (Sort.grow (redrawn wr dq) osq)) := HB.out.trans ((below_regrown _ dq osq).mono HB.out.size)
            clear k0 q0 c0 d0 k1 q1 c1 d1 k8 q8 b1 b2 HG
            generalize Sort.grow (redrawn wr dq) osq = wq at *
            go_wp2
            exact ⟨⟨j + 1, by omega, by go_num, HP.out.next HT.out HU.out HQ.out, HBq⟩, by simp [intOf]; omega⟩
          | false =>
            have HR1 : Hid (R = false) := HR.out.trans (eqL_no j HT.out HU.out hq)
            rw [hq] at HG
            clear hq
            go_wp2
            refine wp_region_quiet_below (by kernel_rfl) (by kernel_rfl) ?_
            repeat (first | go_big_quiet_step (exact HG.out _ _) | quiet_step (exact HG.out _ _))
            refine wpQuiet_nil ?_
            intro _ hw'
            obtain ⟨⟨dq, osq⟩, hw''⟩ := hw'
            subst hw''
            have HBq : Hid (Below w.heap.size w (Sort.grow (redrawn wr dq) osq)) := HBw.out.trans ((below_regrown _ dq osq).mono HBw.out.size)
            clear k0 q0 c0 d0 k1 q1 c1 d1 k8 q8 b1 b2 HG
            generalize Sort.grow (redrawn wr dq) osq = wq at *
            go_wp2
            go_ret
            exact ⟨by rw [HR1.out, Bool.false_and]; rfl, HBq.out⟩
        · obtain rfl : j = es.length := by omega
          have HR1 : Hid (R = true) := HR.out.trans (HP.out.all HL.out)
          have b3 := keep2 HB.out HL3.out
          have b4 := keep2 HB.out HL4.out
          go_wp2_with fail
          refine (HC3.out _ HBw.out).mono ?_
          rintro r w3 ⟨rfl, hb3⟩
          have HB3 : Hid (Below w.heap.size w w3) := HBw.out.trans (hb3.mono HBw.out.size)
          clear hb3
          go_wp2
          go_ret
          exact ⟨by rw [HR1.out, Bool.true_and]; rfl, HB3.out⟩
    · have hlen' : ¬ (es.length : Int) = (fs.length : Int) := by omega
      have HR1 : Hid (R = false) := HR.out.trans (eqL_len hlen)
      go_enter Tryz.func21, Tryz.ntmps21
      go_wp2_with fail
      refine (HC1.out _ (two' _ _ _)).mono ?_
      rintro r V ⟨rfl, hb1⟩
      have HBa : Hid (Below w.heap.size w V) := of_two' hb1
      have b1 : V.cell? ⟨w.heap.size, 4, none⟩ = some (.slice pc es.length cc) := cell2' hb1 (by rw [World.cell?_alloc_mark]; rfl)
      have b2 : V.cell? ⟨w.heap.size + 1, 4, none⟩ = some (.slice pc2 fs.length cc2) := cell3' hb1 (by rw [World.cell?_alloc_mark]; rfl)
      clear hb1
      go_wp2
      go_ret
      exact ⟨by rw [HR1.out, Bool.false_and]; rfl, HBa.out⟩
  | false =>
    rw [Bool.false_and, Bool.false_and]
    go_enter Tryz.func21, Tryz.ntmps21
    go_wp2_with fail
    refine (HC1.out _ (two' _ _ _)).mono ?_
    rintro r V ⟨rfl, hb1⟩
    have HBa : Hid (Below w.heap.size w V) := of_two' hb1
    clear hb1
    go_wp2
    go_ret
    exact ⟨rfl, HBa.out⟩
theorem sArmSame_any (k : Nat) : ∀ n, SsA k n
  | 0 => fun _ _ _ _ _ _ _ _ _ h => h.elim
  | n + 1 => sArmSame_next k n (sTree_of k n (sArmSame_any k n))
theorem sTreeSame_any (k n : Nat) : SsT k n := sTree_of k n (sArmSame_any k n)
end Go.Proofs.YtjkpingdokkkcaaGreatDoor.Tr

/- How often an operand stands in nets and arms, as mathematics. Helper text: no statement is claimed here. -/
namespace Go.Proofs.YtjkpingdokkkcaaGreatDoor.Tr
open Go.ChangeShapes Go.WideShapes Go.ChangeAt Go.RowKit

theorem eql_arg (a0 a1 a2 b0 b1 b2 : Int) (w : World) : (binOp .eql 27 (.agg #[.int .i64 a0, .int .i64 a1, .int .i64 a2]) (.agg #[.int .i64 b0, .int .i64 b1, .int .i64 b2])).run Tryz.prog w = .ok (.bool (eqAr (a0, a1, a2) (b0, b1, b2))) w := by
  by_cases h0 : a0 = b0
  · by_cases h1 : a1 = b1
    · by_cases h2 : a2 = b2
      · simp [go_sem, eqAr, h0, h1, h2]
      · simp [go_sem, eqAr, h0, h1, h2]
    · simp [go_sem, eqAr, h0, h1]
  · simp [go_sem, eqAr, h0]
/-- How often an operand stands among others, in a contact, a net. -/
def u1 (a y : Ar) : Nat := if eqAr y a then 1 else 0
def uE (a : Ar) (e : El) : Nat := tot (u1 a) e.2
def uN (a : Ar) : (n : Nat) → NT n → Nat
  | 0, _ => 0
  | n + 1, t => uE a t.el + tot (uN a n) t.kids
theorem u1_le (a y : Ar) : u1 a y ≤ 1 := by unfold u1; split <;> omega
theorem tot_ones {α : Type} : ∀ ts : List α, tot (fun _ => 1) ts = ts.length
  | [] => rfl
  | t :: ts => by rw [tot_cons, tot_ones ts, List.length_cons]; omega
theorem uE_le (a : Ar) (e : El) : uE a e ≤ zEl e := by
  have h := tot_mono e.2 (f := u1 a) (g := fun _ => 1) (fun y _ => u1_le a y)
  rw [tot_ones] at h
  exact h
theorem uN_le (a : Ar) : ∀ (n : Nat) (t : NT n), uN a n t ≤ zN n t
  | 0, t => Empty.elim t
  | n + 1, t => by
    have h1 := uE_le a t.el
    have h2 := tot_mono t.kids (f := uN a n) (g := zN n) (fun u _ => uN_le a n u)
    show uE a t.el + tot (uN a n) t.kids ≤ zEl t.el + (t.kids.length + tot (zN n) t.kids)
    omega
theorem uN_succ (a : Ar) (n : Nat) (t : NT (n + 1)) : uN a (n + 1) t = uE a t.el + tot (uN a n) t.kids := rfl
/-- How often an operand stands in an arm. -/
def uA (a : Ar) (k : Nat) : (n : Nat) → AT k n → Nat
  | 0, _ => 0
  | n + 1, t => uN a (k + 1) t.net + tot (uE a) t.coils + tot (uA a k n) t.kids
theorem uA_succ (a : Ar) (k n : Nat) (t : AT k (n + 1)) : uA a k (n + 1) t = uN a (k + 1) t.net + tot (uE a) t.coils + tot (uA a k n) t.kids := rfl
theorem uA_le (a : Ar) (k : Nat) : ∀ (n : Nat) (t : AT k n), uA a k n t ≤ zA k n t
  | 0, t => Empty.elim t
  | n + 1, t => by
    have h1 := uN_le a (k + 1) t.net
    have h2 := tot_mono t.coils (f := uE a) (g := zEl) (fun u _ => uE_le a u)
    have h3 := tot_mono t.kids (f := uA a k n) (g := zA k n) (fun u _ => uA_le a k n u)
    show uN a (k + 1) t.net + tot (uE a) t.coils + tot (uA a k n) t.kids ≤ zN (k + 1) t.net + (t.coils.length + tot zEl t.coils) + (t.kids.length + tot (zA k n) t.kids)
    omega
theorem uAs_le (a : Ar) (k n : Nat) (es : List (AT k n)) : tot (uA a k n) es ≤ zAs k n es := by
  have h := tot_mono es (f := uA a k n) (g := zA k n) (fun u _ => uA_le a k n u)
  unfold zAs
  omega
theorem regrow_call {f : FuncId} {args : Array Value} {v : Value} {w wr : World} (hB : Below w.heap.size w wr) (h : ∀ W, Below w.heap.size w W → Calls Tryz.prog f args W fun r w' => r = .returned v ∧ Below W.heap.size W w') (d : Nat) (os : Array Obj) :
    Calls Tryz.prog f args (Sort.grow (redrawn wr d) os) fun e w'' => e = .returned v ∧ ∃ p' : Regrown, w'' = Sort.grow (redrawn wr p'.d) p'.os :=
  Calls.regrown_of (h _ (hB.trans ((below_regrown wr d os).mono hB.size)))
end Go.Proofs.YtjkpingdokkkcaaGreatDoor.Tr
