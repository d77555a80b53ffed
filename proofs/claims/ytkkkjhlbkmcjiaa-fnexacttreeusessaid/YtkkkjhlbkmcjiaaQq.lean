/- The program's treeSameElem, treeSameNet, treeIsNone. Helper text: no statement is claimed here. -/
import Derived.Test.YtkkkjhlbkmcjiaaQp
namespace Go.Proofs.Ytkkkjhlbkmcjiaa.Tr
open Go.ChangeShapes Go.WideShapes Go.ChangeAt Go.RowKit

theorem of_two' {w w1 : World} {o1 o2 : Obj} (h : Below ((w.alloc o1).alloc o2).heap.size ((w.alloc o1).alloc o2) w1) : Below w.heap.size w w1 := of_one (of_one h)
theorem two' (w : World) (o1 o2 : Obj) : Below w.heap.size w ((w.alloc o1).alloc o2) := (one _ _).alloc (by simp) _
set_option maxHeartbeats 1000000 in
theorem iElem_any {S S2 : Nat → Prop} {w : World} (hSw : ∀ b, S b → b < w.heap.size) (hSw2 : ∀ b, S2 b → b < w.heap.size) (v v2 : Value) (e e2 : El) (hV : ElV S w v e) (hV2 : ElV S2 w v2 e2) :
    Calls Try.prog 25 #[v, v2] w fun r w' => r = .returned (.bool (eqE e e2)) ∧ Below w.heap.size w w' := by
  obtain ⟨pa, ca, rfl, hA⟩ := hV
  obtain ⟨pb, cb, rfl, hA2⟩ := hV2
  have HC : Hid (∀ W, Below w.heap.size w W → Calls Try.prog 46 #[.slice pa e.2.length ca, .slice pb e2.2.length cb] W fun r w' => r = .returned (.bool (eqL eqAr e.2 e2.2)) ∧ Below W.heap.size W w') :=
    fun W hW => iEqual_any (S := S) (S2 := S2) (fun b hb => Nat.lt_of_lt_of_le (hSw b hb) hW.size) (fun b hb => Nat.lt_of_lt_of_le (hSw2 b hb) hW.size) pa pb ca cb e.2 e2.2 (args_to (Keep.of hW hSw) (fun _ h => h) hA) (args_to (Keep.of hW hSw2) (fun _ h => h) hA2)
  unfold eqE
  clear hSw hSw2 hA hA2
  generalize eqL eqAr e.2 e2.2 = R at *
  generalize e.2.length = la at *
  generalize e2.2.length = lb at *
  generalize e.1 = op at *
  generalize e2.1 = op2 at *
  by_cases h : op = op2
  · subst h
    rw [decide_eq_true rfl, Bool.true_and]
    go_enter Try.func25, Try.ntmps25
    go_wp2_with fail
    refine (HC.out _ (two' _ _ _)).mono ?_
    rintro r w1 ⟨rfl, hb1⟩
    have HB1 : Hid (Below w.heap.size w w1) := of_two' hb1
    clear hb1
    cases R
    all_goals go_wp2
    all_goals go_ret
    all_goals exact ⟨rfl, HB1.out⟩
  · rw [decide_eq_false h, Bool.false_and]
    go_enter Try.func25, Try.ntmps25
    go_wp2
    go_ret
    exact ⟨rfl, two' _ _ _⟩

/-- The cell in which treeSameNet keeps its own function. -/
def CloN (B : Nat) (w : World) : Prop := w.heap[B]? = some (.cells #[.func (.func 44) #[] #[.pointer (some ⟨B, 0, none⟩)]] 64 (0, 0))
theorem CloN.lt {B : Nat} {w : World} (h : CloN B w) : B < w.heap.size := (Array.getElem?_eq_some_iff.1 h).1
theorem CloN.to {B : Nat} {w w' : World} (h : CloN B w) (hb : Below w.heap.size w w') : CloN B w' := (hb.block B h.lt).trans h
def SameN (n : Nat) : Prop := ∀ (S S2 : Nat → Prop) (w : World) (_ : ∀ b, S b → b < w.heap.size) (_ : ∀ b, S2 b → b < w.heap.size) (B : Nat) (_ : CloN B w) (v v2 : Value) (t t2 : NT n) (_ : NtV S w n v t) (_ : NtV S2 w n v2 t2),
    Calls Try.prog 44 #[v, v2, .pointer (some ⟨B, 0, none⟩)] w fun r w' => r = .returned (.bool (eqN n t t2)) ∧ Below w.heap.size w w'

set_option maxHeartbeats 1000000 in
theorem iNets_any {S S2 : Nat → Prop} {w : World} (hSw : ∀ b, S b → b < w.heap.size) (hSw2 : ∀ b, S2 b → b < w.heap.size) (n : Nat) (IH : Hid (SameN n)) (B : Nat) (hB : CloN B w) (p p2 : Option Addr) (cap cap2 : Nat) (es fs : List (NT n)) (hV : SlOf S (NtE S w n) 4 p cap es) (hV2 : SlOf S2 (NtE S2 w n) 4 p2 cap2 fs) :
    Calls Try.prog 45 #[.slice p es.length cap, .slice p2 fs.length cap2, .func (.func 44) #[] #[.pointer (some ⟨B, 0, none⟩)]] w
      fun r w' => r = .returned (.bool (eqL (eqN n) es fs)) ∧ Below w.heap.size w w' := by
  have HV : Hid (SlOf S (NtE S w n) 4 p cap es) := hV
  have HV2 : Hid (SlOf S2 (NtE S2 w n) 4 p2 cap2 fs) := hV2
  have HSw : Hid (∀ b, S b → b < w.heap.size) := hSw
  have HSw2 : Hid (∀ b, S2 b → b < w.heap.size) := hSw2
  have HCl : Hid (CloN B w) := hB
  obtain ⟨⟨hl1, hl2⟩, -⟩ := hV
  obtain ⟨⟨hl3, hl4⟩, -⟩ := hV2
  clear hSw hSw2 hB
  obtain ⟨R, hR⟩ : ∃ R : Bool, R = eqL (eqN n) es fs := ⟨_, rfl⟩
  rw [← hR]
  have HR : Hid (R = eqL (eqN n) es fs) := hR
  clear hR
  by_cases hlen : es.length = fs.length
  · have HL : Hid (es.length = fs.length) := hlen
    rw [← hlen]
    rw [← hlen] at hl3
    clear hlen hl4
    go_enter Try.func45, Try.ntmps45
    go_wp2
    go_loopw [17] (fun d w' => ∃ j : Nat, j ≤ es.length ∧ d = .int .i64 (j : Int) ∧ Hid (UpTo (eqN n) es fs j) ∧ Hid (Below w.heap.size w w')) (fun d _ => es.length - (intOf d).toNat)
    case atStart => exact ⟨0, by omega, rfl, UpTo.zero, Below.refl _ _⟩
    case round =>
      obtain ⟨j, hj, rfl, HP, HB⟩ := hrel
      rename_i wr
      by_cases hlt : j < es.length
      · have hlt' : (j : Int) < (es.length : Int) := by omega
        obtain ⟨t, ht⟩ := get_lt hlt
        obtain ⟨u, hu⟩ := get_lt (ts := fs) (j := j) (HL.out ▸ hlt)
        obtain ⟨b, off, rfl, hb, hE⟩ := (nets_to (Keep.of HB.out HSw.out) (fun _ h => h) HV.out).get ht
        obtain ⟨b', off', rfl, hb', hE2⟩ := (nets_to (Keep.of HB.out HSw2.out) (fun _ h => h) HV2.out).get hu
        obtain ⟨kd, op, pa, la, ca, pk, lk, ck, c0, c1, c2, c3, hN⟩ := hE.out
        obtain ⟨kd2, op2, pa2, la2, ca2, pk2, lk2, ck2, d0, d1, d2, d3, hN2⟩ := hE2.out
        have hbl : b < wr.heap.size := World.block_lt_of_cell? _ _ c0
        have hbl2 : b' < wr.heap.size := World.block_lt_of_cell? _ _ d0
        have HC : Hid (∀ W, Below wr.heap.size wr W → Calls Try.prog 44 #[.agg #[.int .i64 kd, .int .i64 op, .slice pa la ca, .slice pk lk ck], .agg #[.int .i64 kd2, .int .i64 op2, .slice pa2 la2 ca2, .slice pk2 lk2 ck2], .pointer (some ⟨B, 0, none⟩)] W
            fun r w' => r = .returned (.bool (eqN n t u)) ∧ Below W.heap.size W w') := fun W hW => by
          have hS1 : ∀ b, S b → b < wr.heap.size := fun b hb => Nat.lt_of_lt_of_le (HSw.out b hb) HB.out.size
          have hS2 : ∀ b, S2 b → b < wr.heap.size := fun b hb => Nat.lt_of_lt_of_le (HSw2.out b hb) HB.out.size
          exact IH.out S S2 W (fun b hb => Nat.lt_of_lt_of_le (hS1 b hb) hW.size) (fun b hb => Nat.lt_of_lt_of_le (hS2 b hb) hW.size) B ((HCl.out.to HB.out).to hW) _ _ t u (hN.to (Keep.of hW hS1) (fun _ h => h)) (hN2.to (Keep.of hW hS2) (fun _ h => h))
        have HT : Hid (es[j]? = some t) := ht
        have HU : Hid (fs[j]? = some u) := hu
        clear ht hu hN hN2 hE hE2
        cases hq : eqN n t u with
        | true =>
          have HQ : Hid (eqN n t u = true) := hq
          rw [hq] at HC
          clear hq HR
          go_wp2_with fail
          refine (HC.out _ (two' _ _ _)).mono ?_
          rintro r w1 ⟨rfl, hb1⟩
          have HBq : Hid (Below w.heap.size w w1) := HB.out.trans ((of_two' hb1).mono HB.out.size)
          clear hb1 c0 c1 c2 c3 d0 d1 d2 d3 HC
          go_wp2
          exact ⟨⟨j + 1, by omega, by go_num, HP.out.next HT.out HU.out HQ.out, HBq⟩, by simp [intOf]; omega⟩
        | false =>
          have HR1 : Hid (R = false) := HR.out.trans (eqL_no j HT.out HU.out hq)
          rw [hq] at HC
          clear hq
          go_wp2_with fail
          refine (HC.out _ (two' _ _ _)).mono ?_
          rintro r w1 ⟨rfl, hb1⟩
          have HBq : Hid (Below w.heap.size w w1) := HB.out.trans ((of_two' hb1).mono HB.out.size)
          clear hb1 c0 c1 c2 c3 d0 d1 d2 d3 HC
          go_wp2
          go_ret
          exact ⟨by rw [HR1.out]; rfl, HBq.out⟩
      · obtain rfl : j = es.length := by omega
        have HR1 : Hid (R = true) := HR.out.trans (HP.out.all HL.out)
        go_wp2
        go_ret
        exact ⟨by rw [HR1.out]; rfl, HB.out⟩
  · have hlen' : ¬ (es.length : Int) = (fs.length : Int) := by omega
    have HR1 : Hid (R = false) := HR.out.trans (eqL_len hlen)
    go_enter Try.func45, Try.ntmps45
    go_wp2
    go_ret
    exact ⟨by rw [HR1.out]; rfl, Below.refl _ _⟩
end Go.Proofs.Ytkkkjhlbkmcjiaa.Tr
