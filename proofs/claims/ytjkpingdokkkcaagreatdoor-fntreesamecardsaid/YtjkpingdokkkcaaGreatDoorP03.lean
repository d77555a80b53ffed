/- What is shown, net by net, to a look that may stop: the walk over nets. Helper text: no statement is claimed here. -/
import Derived.Test.YtjkpingdokkkcaaGreatDoorP02
namespace Go.Proofs.YtjkpingdokkkcaaGreatDoor.Tr
open Go.ChangeShapes Go.WideShapes Go.ChangeAt Go.RowKit

/-- An error by its code, or none. -/
def errV : Option Int → Value
  | none => .nilIface
  | some c => .iface 65 (.agg #[.int .i64 c])
theorem errV_none : errV none = .nilIface := rfl
theorem errV_some (c : Int) : errV (some c) = .iface 65 (.agg #[.int .i64 c]) := rfl
theorem neq_err (c : Int) (w : World) : (binOp .neq 61 (.iface 65 (.agg #[.int .i64 c])) .nilIface).run Tryz.prog w = .ok (.bool true) w := by kernel_rfl
theorem neq_non (w : World) : (binOp .neq 61 .nilIface .nilIface).run Tryz.prog w = .ok (.bool false) w := by kernel_rfl
/-- One after the other, until one stops. -/
def runL {α : Type} (f : α → Nat → Nat × Option Int) : List α → Nat → Nat × Option Int
  | [], s => (s, none)
  | t :: ts, s => if (f t s).2 = none then runL f ts (f t s).1 else f t s
theorem runL_go {α : Type} {f : α → Nat → Nat × Option Int} {es : List α} {j s : Nat} {t : α} (ht : es[j]? = some t) (h : (f t s).2 = none) : runL f (es.drop j) s = runL f (es.drop (j + 1)) (f t s).1 := by
  obtain ⟨hj, e⟩ := List.getElem?_eq_some_iff.1 ht
  rw [List.drop_eq_getElem_cons hj, e]
  simp [runL, h]
theorem runL_stop {α : Type} {f : α → Nat → Nat × Option Int} {es : List α} {j s : Nat} {t : α} (ht : es[j]? = some t) (h : (f t s).2 ≠ none) : runL f (es.drop j) s = f t s := by
  obtain ⟨hj, e⟩ := List.getElem?_eq_some_iff.1 ht
  rw [List.drop_eq_getElem_cons hj, e]
  simp [runL, h]
/-- A look that may stop: the block that it may turn, its type and value, its two methods, what it holds, and what it does at a net, at an arm. -/
structure Sk where
  C : Nat
  T : TypeId
  dv : Value
  fn : FuncId
  fa : FuncId
  cnt : World → Nat → Prop
  gN : (n : Nat) → NT n → Nat → Nat × Option Int
  gA : (k n : Nat) → AT k n → Nat → Nat × Option Int
def Sk.val (L : Sk) : Value := .iface L.T L.dv
/-- A name by which the looks' methods for nets, for arms are found. -/
def SmN (nm : String) : Prop := ∀ (p : Option Addr) (w : World), (method 285 57 (.pointer p) nm).run Tryz.prog w = .ok (89, .pointer p) w ∧ (method 285 114 (.agg #[]) nm).run Tryz.prog w = .ok (100, .agg #[]) w
def SmA (nm : String) : Prop := ∀ (p : Option Addr) (w : World), (method 285 57 (.pointer p) nm).run Tryz.prog w = .ok (88, .pointer p) w ∧ (method 285 114 (.agg #[]) nm).run Tryz.prog w = .ok (99, .agg #[]) w
/-- A look does what it is for. -/
structure Sk.Ok (L : Sk) : Prop where
  lt : ∀ w s, L.cnt w s → L.C < w.heap.size
  to : ∀ w w' s, L.cnt w s → Below w.heap.size w w' → L.cnt w' s
  me : ∀ nm, SmN nm → ∀ w, (method 285 L.T L.dv nm).run Tryz.prog w = .ok (L.fn, L.dv) w
  call : ∀ (xs : Array Value) (w : World), (callFunc L.fn xs).run Tryz.prog w = .ok (.enter L.fn xs) w
  net : ∀ (S : Nat → Prop) (W : World) (n : Nat) (v : Value) (t : NT n) (s : Nat), Apart L.C S W → NtV S W n v t → zN n t ≤ 1048576 → L.cnt W s →
    Calls Tryz.prog L.fn #[L.dv, v] W fun r w' => r = .returned (errV (L.gN n t s).2) ∧ ((L.gN n t s).2 = none → L.cnt w' (L.gN n t s).1) ∧ But L.C W w'
  meA : ∀ nm, SmA nm → ∀ w, (method 285 L.T L.dv nm).run Tryz.prog w = .ok (L.fa, L.dv) w
  callA : ∀ (xs : Array Value) (w : World), (callFunc L.fa xs).run Tryz.prog w = .ok (.enter L.fa xs) w
  arm : ∀ (S : Nat → Prop) (W : World) (k n : Nat) (v : Value) (t : AT k n) (s : Nat), Apart L.C S W → AmV S W k n v t → zA k n t ≤ 1048576 → L.cnt W s →
    Calls Tryz.prog L.fa #[L.dv, v] W fun r w' => r = .returned (errV (L.gA k n t s).2) ∧ ((L.gA k n t s).2 = none → L.cnt w' (L.gA k n t s).1) ∧ But L.C W w'
/-- What a look makes of a net and all within it. -/
def Sk.rN (L : Sk) : (n : Nat) → NT n → Nat → Nat × Option Int
  | 0, _, s => (s, none)
  | n + 1, t, s => if (L.gN (n + 1) t s).2 = none then runL (L.rN n) t.kids (L.gN (n + 1) t s).1 else L.gN (n + 1) t s
def Sk.rK (L : Sk) : (n : Nat) → NT n → Nat → Nat × Option Int
  | 0, _, s => (s, none)
  | n + 1, t, s => runL (L.rN n) t.kids s
theorem Sk.rN_go (L : Sk) : ∀ (n : Nat) (t : NT n) (s : Nat), (L.gN n t s).2 = none → L.rN n t s = L.rK n t (L.gN n t s).1
  | 0, t, _, _ => Empty.elim t
  | n + 1, t, s, h => by
    show (if _ then _ else _) = _
    rw [if_pos h]; rfl
theorem Sk.rN_stop (L : Sk) : ∀ (n : Nat) (t : NT n) (s : Nat), (L.gN n t s).2 ≠ none → L.rN n t s = L.gN n t s
  | 0, t, _, _ => Empty.elim t
  | n + 1, t, s, h => by
    show (if _ then _ else _) = _
    rw [if_neg h]

def SkN (L : Sk) (nm : String) (n : Nat) : Prop := ∀ (S : Nat → Prop) (w : World) (_ : Apart L.C S w) (kd op : Int) (pa : Option Addr) (la ca : Nat) (pk : Option Addr) (lk ck : Nat) (t : NT n) (_ : NtV S w n (.agg #[.int .i64 kd, .int .i64 op, .slice pa la ca, .slice pk lk ck]) t) (_ : zN n t ≤ 1048576)
    (P5 P7 P4 : Nat) (_ : ClosN L.C L.val nm w P5 P7 P4) (s : Nat) (_ : L.cnt w s),
    Calls Tryz.prog 68 #[.slice pk lk ck, .pointer (some ⟨P5, 0, none⟩), .pointer (some ⟨P7, 0, none⟩), .pointer (some ⟨P4, 0, none⟩)] w fun r w' => r = .returned (errV (L.rK n t s).2) ∧ ((L.rK n t s).2 = none → L.cnt w' (L.rK n t s).1) ∧ But L.C w w'
def SkW (L : Sk) (nm : String) (n : Nat) : Prop := ∀ (S : Nat → Prop) (w : World) (_ : Apart L.C S w) (p : Option Addr) (cap : Nat) (es : List (NT n)) (_ : SlOf S (NtE S w n) 4 p cap es) (_ : zNs n es ≤ 1048576)
    (P5 P7 P4 : Nat) (_ : ClosN L.C L.val nm w P5 P7 P4) (s : Nat) (_ : L.cnt w s),
    Calls Tryz.prog 68 #[.slice p es.length cap, .pointer (some ⟨P5, 0, none⟩), .pointer (some ⟨P7, 0, none⟩), .pointer (some ⟨P4, 0, none⟩)] w fun r w' => r = .returned (errV (runL (L.rN n) es s).2) ∧ ((runL (L.rN n) es s).2 = none → L.cnt w' (runL (L.rN n) es s).1) ∧ But L.C w w'
theorem skN_of (L : Sk) (nm : String) (n : Nat) (h : SkW L nm n) : SkN L nm (n + 1) := by
  intro S w hS kd op pa la ca pk lk ck t hV hz P5 P7 P4 hC s hs
  obtain ⟨pa', ca', pk', ck', he, _, h5⟩ := hV
  simp only [Value.agg.injEq, Array.mk.injEq, List.cons.injEq, Value.int.injEq, Value.slice.injEq, true_and, and_true] at he
  obtain ⟨rfl, rfl, ⟨rfl, rfl, rfl⟩, rfl, rfl, rfl⟩ := he
  exact h S w hS pk ck t.kids h5 (by have := zN_succ n t; omega) P5 P7 P4 hC s hs
theorem zN_in {n : Nat} {es : List (NT n)} {j : Nat} {t : NT n} (h : es[j]? = some t) : zN n t ≤ zNs n es := by
  have := tot_get (zN n) h
  unfold zNs; omega

set_option maxHeartbeats 4000000 in
set_option maxRecDepth 100000 in
theorem skW_of (L : Sk) (ok : L.Ok) (nmN : String) (hnm : SmN nmN) (n : Nat) (IH : SkN L nmN n) : SkW L nmN n := by
  intro S w hS p cap es hV hz P5 P7 P4 hC s hs
  have HS : Hid (Apart L.C S w) := hS
  have HV : Hid (SlOf S (NtE S w n) 4 p cap es) := hV
  have HC : Hid (ClosN L.C L.val nmN w P5 P7 P4) := hC
  have HN : Hid (L.cnt w s) := hs
  have HI : Hid (SkN L nmN n) := IH
  have HO : Hid L.Ok := ok
  have HM : Hid (SmN nmN) := hnm
  have HZ : Hid (zNs n es ≤ 1048576) := hz
  obtain ⟨⟨hl1, hl2⟩, -⟩ := hV
  have hne := neq_err
  have hnn := neq_non
  clear hS hC hs IH ok hnm hz
  obtain ⟨TL, hTL⟩ : ∃ TL, TL = L.T := ⟨_, rfl⟩
  obtain ⟨dv, hdv⟩ : ∃ dv, dv = L.dv := ⟨_, rfl⟩
  have HLV : Hid (L.val = .iface TL dv) := by
    show _ = _
    rw [hTL, hdv]; rfl
  have HTL : Hid (TL = L.T) := hTL
  have HDV : Hid (dv = L.dv) := hdv
  clear hTL hdv
  generalize hR : runL (L.rN n) es s = R
  have HR : Hid (runL (L.rN n) es s = R) := hR
  clear hR
  go_enter Tryz.func68, Tryz.ntmps68
  go_wp2
  go_loopw [12] (fun d w' => ∃ (j sj : Nat), j ≤ es.length ∧ d = .int .i64 (j : Int) ∧ Hid (L.cnt w' sj) ∧ Hid (runL (L.rN n) (es.drop j) sj = R) ∧ Hid (But L.C w w')) (fun d _ => es.length - (intOf d).toNat)
  case atStart => exact ⟨0, s, by omega, rfl, HN, HR, But.refl _ _⟩
  case round =>
    obtain ⟨j, sj, hj, rfl, HNj, HRj, HB⟩ := hrel
    rename_i wr
    by_cases hlt : j < es.length
    · have hlt' : (j : Int) < (es.length : Int) := by omega
      obtain ⟨t, ht⟩ := get_lt hlt
      have HT : Hid (es[j]? = some t) := ht
      have HZt : Hid (zN n t ≤ 1048576) := Nat.le_trans (zN_in ht) HZ.out
      have hAr : Apart L.C S wr := HS.out.to HB.out.size
      obtain ⟨b, off, rfl, hb, hE⟩ := (nets_to (HB.out.keep HS.out) (fun _ h => h) HV.out).get ht
      obtain ⟨kd, op, pa, la, ca, pk, lk, ck, c0, c1, c2, c3, hNv⟩ := hE.out
      have hbl : b < wr.heap.size := World.block_lt_of_cell? _ _ c0
      have HCl : Hid (ClosN L.C L.val nmN wr P5 P7 P4) := HC.out.to HB.out
      have g5 : wr.cell? ⟨P5, 0, none⟩ = some (.func (.method nmN) #[.iface TL dv] #[]) := by rw [← HLV.out]; exact HCl.out.h5
      have g5l : P5 < wr.heap.size := World.block_lt_of_cell? _ _ g5
      have HA : Hid (Apart L.C S wr) := hAr
      have HNv : Hid (NtV S wr n (.agg #[.int .i64 kd, .int .i64 op, .slice pa la ca, .slice pk lk ck]) t) := hNv
      clear hE hNv hAr ht
      go_wp2_with fail
      have HBa : Hid (But L.C wr (wr.alloc (.cells #[.int .i64 kd, .int .i64 op, .slice pa la ca, .slice pk lk ck] 49))) := But.of (one _ _)
      have HNa : Hid (L.cnt (wr.alloc (.cells #[.int .i64 kd, .int .i64 op, .slice pa la ca, .slice pk lk ck] 49)) sj) := HO.out.to _ _ _ HNj.out (one _ _)
      have HOw : Hid ((wr.alloc (.cells #[.int .i64 kd, .int .i64 op, .slice pa la ca, .slice pk lk ck] 49)).heap[wr.heap.size]? = some (.cells #[.int .i64 kd, .int .i64 op, .slice pa la ca, .slice pk lk ck] 49 (0, 0))) := last _ _
      generalize wr.alloc (.cells #[.int .i64 kd, .int .i64 op, .slice pa la ca, .slice pk lk ck] 49) = V at *
      have hnC : wr.heap.size ≠ L.C := by have := HO.out.lt _ _ HNj.out; omega
      refine upon_method (f := L.fn) (r := dv) (v := errV (L.gN n t sj).2) (g := fun z => #[z, .agg #[.int .i64 kd, .int .i64 op, .slice pa la ca, .slice pk lk ck]]) (R := fun w' => ((L.gN n t sj).2 = none → L.cnt w' (L.gN n t sj).1) ∧ But L.C V w') ?_ HO.out.call ?_ ?_
      · rw [HTL.out, HDV.out]; exact HO.out.me nmN HM.out V
      · show Calls _ _ #[dv, _] _ _
        rw [HDV.out]
        exact HO.out.net S V n _ t _ (HA.out.to HBa.out.size) (HNv.out.to (HBa.out.keep HA.out) (fun _ h => h)) HZt.out HNa.out
      · rintro w1 ⟨hn1, hb1⟩
        have HB1 : Hid (But L.C wr w1) := HBa.out.trans hb1
        have HO1 : Hid (w1.heap[wr.heap.size]? = some (.cells #[.int .i64 kd, .int .i64 op, .slice pa la ca, .slice pk lk ck] 49 (0, 0))) := (hb1.block _ (Array.getElem?_eq_some_iff.1 HOw.out).1 hnC).trans HOw.out
        cases hg : (L.gN n t sj).2 with
        | some c =>
          have HRe : Hid (R.2 = some c) := by
            show R.2 = _
            rw [← HRj.out, runL_stop HT.out (by rw [L.rN_stop n t sj (by rw [hg]; simp), hg]; simp), L.rN_stop n t sj (by rw [hg]; simp), hg]
          rw [errV_some]
          clear hn1 hb1 c0 c1 c2 c3 g5 g5l HBa HNa HOw hg
          go_wp2
          go_ret
          rw [HRe.out]
          exact ⟨rfl, fun h => (by cases h), HB.out.trans HB1.out⟩
        | none =>
          have HG : Hid ((L.gN n t sj).2 = none) := hg
          have HN1 : Hid (L.cnt w1 (L.gN n t sj).1) := hn1 hg
          have HRN : Hid (L.rN n t sj = L.rK n t (L.gN n t sj).1) := L.rN_go n t sj hg
          have HC1 : Hid (ClosN L.C L.val nmN w1 P5 P7 P4) := HCl.out.to HB1.out
          have q0 : w1.cell? ⟨wr.heap.size, 0, none⟩ = some (.int .i64 kd) := cell_of_row _ _ 0 _ _ _ HO1.out
          have q1 : w1.cell? ⟨wr.heap.size, 1, none⟩ = some (.int .i64 op) := cell_of_row _ _ 1 _ _ _ HO1.out
          have q2 : w1.cell? ⟨wr.heap.size, 2, none⟩ = some (.slice pa la ca) := cell_of_row _ _ 2 _ _ _ HO1.out
          have q3 : w1.cell? ⟨wr.heap.size, 3, none⟩ = some (.slice pk lk ck) := cell_of_row _ _ 3 _ _ _ HO1.out
          have q7 := HC1.out.h7
          have q4 := HC1.out.h4
          rw [errV_none]
          clear hn1 hb1 c0 c1 c2 c3 g5 g5l HBa HNa HOw hg
          generalize (L.gN n t sj).1 = s1 at *
          cases hk : (L.rK n t s1).2 with
          | some c =>
            have HK : Hid (∀ S' W, Apart L.C S' W → NtV S' W n (.agg #[.int .i64 kd, .int .i64 op, .slice pa la ca, .slice pk lk ck]) t → ClosN L.C L.val nmN W P5 P7 P4 → L.cnt W s1 → Calls Tryz.prog 68 #[.slice pk lk ck, .pointer (some ⟨P5, 0, none⟩), .pointer (some ⟨P7, 0, none⟩), .pointer (some ⟨P4, 0, none⟩)] W fun r w' => r = .returned (.iface 65 (.agg #[.int .i64 c])) ∧ True ∧ But L.C W w') := fun S' W h1 h2 h3 h4 => by
              have := HI.out S' W h1 kd op pa la ca pk lk ck t h2 HZt.out P5 P7 P4 h3 s1 h4
              rw [hk] at this
              refine this.mono ?_
              rintro r w' ⟨h5, h6, h7⟩
              exact ⟨h5, trivial, h7⟩
            have HRe : Hid (R.2 = some c) := by
              show R.2 = _
              rw [← HRj.out, runL_stop HT.out (by rw [HRN.out, hk]; simp), HRN.out, hk]
            clear hk HI
            go_wp2
            go_region_held3 (fun W => W.cell? ⟨P7, 0, none⟩ = some (.func (.func 68) #[] #[.pointer (some ⟨P5, 0, none⟩), .pointer (some ⟨P7, 0, none⟩), .pointer (some ⟨P4, 0, none⟩)]) ∧ W.cell? ⟨P4, 0, none⟩ = some (.func (.func 60) #[] #[]) ∧ W.cell? ⟨wr.heap.size, 0, none⟩ = some (.int .i64 kd) ∧ W.cell? ⟨wr.heap.size, 1, none⟩ = some (.int .i64 op) ∧ W.cell? ⟨wr.heap.size, 2, none⟩ = some (.slice pa la ca) ∧ W.cell? ⟨wr.heap.size, 3, none⟩ = some (.slice pk lk ck)) (first | go_keep | assumption)
              (first
                | (go_at_call 60; refine (kidsN_any kd op pa la ca pk lk ck _).mono ?_; rintro e w2 ⟨rfl, hb2⟩; have HB2 : Hid (Below w1.heap.size w1 w2) := (Below.refl _ _).drew.trans hb2; have r0 := keep2 HB2.out q0; have r1 := keep2 HB2.out q1; have r2 := keep2 HB2.out q2; have r3 := keep2 HB2.out q3; have r7 := keep2 HB2.out q7; have r4 := keep2 HB2.out q4; clear hb2)
                | (go_at_call 68; refine (HK.out S w2 ((HA.out.to HB1.out.size).to HB2.out.size) (HNv.out.to ((HB1.out.trans (But.of HB2.out)).keep HA.out) (fun _ h => h)) (HC1.out.to (But.of HB2.out)) (HO.out.to _ _ _ HN1.out HB2.out)).mono ?_; rintro e w3 ⟨rfl, hn3, hb3⟩; have HB3 : Hid (But L.C w w3) := (HB.out.trans HB1.out).trans ((But.of HB2.out).trans hb3); have u0 := hb3.cell hnC r0; have u1 := hb3.cell hnC r1; have u2 := hb3.cell hnC r2; have u3 := hb3.cell hnC r3; have u7 := hb3.cell HC1.out.n7 r7; have u4 := hb3.cell HC1.out.n4 r4; clear hn3 hb3))
            all_goals (try go_wp2)
            all_goals go_ret
            all_goals rw [HRe.out]
            all_goals exact ⟨rfl, fun h => (by cases h), HB3.out⟩
          | none =>
            have HK : Hid (∀ S' W, Apart L.C S' W → NtV S' W n (.agg #[.int .i64 kd, .int .i64 op, .slice pa la ca, .slice pk lk ck]) t → ClosN L.C L.val nmN W P5 P7 P4 → L.cnt W s1 → Calls Tryz.prog 68 #[.slice pk lk ck, .pointer (some ⟨P5, 0, none⟩), .pointer (some ⟨P7, 0, none⟩), .pointer (some ⟨P4, 0, none⟩)] W fun r w' => r = .returned .nilIface ∧ L.cnt w' (L.rK n t s1).1 ∧ But L.C W w') := fun S' W h1 h2 h3 h4 => by
              have := HI.out S' W h1 kd op pa la ca pk lk ck t h2 HZt.out P5 P7 P4 h3 s1 h4
              rw [hk] at this
              refine this.mono ?_
              rintro r w' ⟨h5, h6, h7⟩
              exact ⟨h5, h6 rfl, h7⟩
            have HRe : Hid (runL (L.rN n) (es.drop (j + 1)) (L.rK n t s1).1 = R) := by
              show _ = R
              rw [← HRj.out, runL_go HT.out (by rw [HRN.out, hk]), HRN.out]
            clear hk HI
            generalize (L.rK n t s1).1 = s2 at *
            go_wp2
            go_region_held3 (fun W => W.cell? ⟨P7, 0, none⟩ = some (.func (.func 68) #[] #[.pointer (some ⟨P5, 0, none⟩), .pointer (some ⟨P7, 0, none⟩), .pointer (some ⟨P4, 0, none⟩)]) ∧ W.cell? ⟨P4, 0, none⟩ = some (.func (.func 60) #[] #[]) ∧ W.cell? ⟨wr.heap.size, 0, none⟩ = some (.int .i64 kd) ∧ W.cell? ⟨wr.heap.size, 1, none⟩ = some (.int .i64 op) ∧ W.cell? ⟨wr.heap.size, 2, none⟩ = some (.slice pa la ca) ∧ W.cell? ⟨wr.heap.size, 3, none⟩ = some (.slice pk lk ck)) (first | go_keep | assumption)
              (first
                | (go_at_call 60; refine (kidsN_any kd op pa la ca pk lk ck _).mono ?_; rintro e w2 ⟨rfl, hb2⟩; have HB2 : Hid (Below w1.heap.size w1 w2) := (Below.refl _ _).drew.trans hb2; have r0 := keep2 HB2.out q0; have r1 := keep2 HB2.out q1; have r2 := keep2 HB2.out q2; have r3 := keep2 HB2.out q3; have r7 := keep2 HB2.out q7; have r4 := keep2 HB2.out q4; clear hb2)
                | (go_at_call 68; refine (HK.out S w2 ((HA.out.to HB1.out.size).to HB2.out.size) (HNv.out.to ((HB1.out.trans (But.of HB2.out)).keep HA.out) (fun _ h => h)) (HC1.out.to (But.of HB2.out)) (HO.out.to _ _ _ HN1.out HB2.out)).mono ?_; rintro e w3 ⟨rfl, hn3, hb3⟩; have HN3 : Hid (L.cnt w3 s2) := hn3; have HB3 : Hid (But L.C w w3) := (HB.out.trans HB1.out).trans ((But.of HB2.out).trans hb3); have u0 := hb3.cell hnC r0; have u1 := hb3.cell hnC r1; have u2 := hb3.cell hnC r2; have u3 := hb3.cell hnC r3; have u7 := hb3.cell HC1.out.n7 r7; have u4 := hb3.cell HC1.out.n4 r4; clear hn3 hb3))
            all_goals (try go_wp2)
            all_goals exact ⟨⟨j + 1, s2, by omega, by go_num, HN3, HRe, HB3⟩, by simp [intOf]; omega⟩
    · obtain rfl : j = es.length := by omega
      have HRe : Hid (R = (sj, none)) := by
        have := HRj.out
        rw [List.drop_length] at this
        exact this.symm
      go_wp2
      go_ret
      rw [HRe.out]
      exact ⟨rfl, fun _ => HNj.out, HB.out⟩
theorem skW_any (L : Sk) (ok : L.Ok) (nmN : String) (hnm : SmN nmN) : ∀ n, SkW L nmN n
  | 0 => skW_of L ok nmN hnm 0 (fun _ _ _ _ _ _ _ _ _ _ _ _ h => h.elim)
  | n + 1 => skW_of L ok nmN hnm (n + 1) (skN_of L nmN n (skW_any L ok nmN hnm n))
end Go.Proofs.YtjkpingdokkkcaaGreatDoor.Tr

/- What is shown to a look of one net. Helper text: no statement is claimed here. -/
namespace Go.Proofs.YtjkpingdokkkcaaGreatDoor.Tr
open Go.ChangeShapes Go.WideShapes Go.ChangeAt Go.RowKit
attribute [local go_sem] store_func

theorem tot_single {α : Type} (f : α → Nat) (t : α) : tot f [t] = f t := by rw [tot_cons, tot_nil]; omega
theorem h3a (w : World) (A B D : Obj) : (((w.alloc A).alloc B).alloc D).heap[w.heap.size]? = some A := by
  rw [Below.heap_alloc _ _ _ (by simp; omega), Below.heap_alloc _ _ _ (by simp)]
  exact last w A
theorem h3b (w : World) (A B D : Obj) : (((w.alloc A).alloc B).alloc D).heap[w.heap.size + 1]? = some B := by
  have := heap_alloc2_old (w.alloc A) B D
  rwa [World.size_alloc] at this
theorem h3c (w : World) (A B D : Obj) : (((w.alloc A).alloc B).alloc D).heap[w.heap.size + 1 + 1]? = some D := by
  have := heap_alloc2_new (w.alloc A) B D
  rwa [World.size_alloc] at this
set_option maxHeartbeats 1000000 in
set_option maxRecDepth 100000 in
theorem treeWalkN_any (L : Lk) (ok : L.Ok) (nmN : String) (hnm : NmN nmN) (n : Nat) (S : Nat → Prop) (w : World) (hS : Apart L.C S w) (p : Option Addr) (cap : Nat) (es : List (NT n)) (hV : SlOf S (NtE S w n) 4 p cap es) (s : Nat) (hs : L.cnt w s) (hbd : s + tot (L.gN n) es ≤ 9223372036854775807) :
    Calls Tryz.prog 59 #[.slice p es.length cap, .func (.func 60) #[] #[], .func (.method nmN) #[L.val] #[]] w fun r w' => r = .returned .nilIface ∧ L.cnt w' (s + tot (L.gN n) es) ∧ But L.C w w' := by
  have hlt := ok.lt _ _ hs
  have HC : Hid (∀ W, Below w.heap.size w W → ∀ P5 P7 P4, ClosN L.C L.val nmN W P5 P7 P4 → Calls Tryz.prog 68 #[.slice p es.length cap, .pointer (some ⟨P5, 0, none⟩), .pointer (some ⟨P7, 0, none⟩), .pointer (some ⟨P4, 0, none⟩)] W fun r w' => r = .returned .nilIface ∧ L.cnt w' (s + tot (L.gN n) es) ∧ But L.C W w') :=
    fun W hW P5 P7 P4 hc => walkN_any L ok nmN hnm n S W (hS.to hW.size) p cap es (nets_to (Keep.of hW (fun b hb => (hS b hb).1)) (fun _ h => h) hV) P5 P7 P4 hc s (ok.to _ _ _ hs hW) hbd
  have hmf' := hmf
  clear hS hV hs hbd ok hnm
  obtain ⟨lv, hlv⟩ : ∃ lv, lv = L.val := ⟨_, rfl⟩
  rw [← hlv] at HC ⊢
  clear hlv
  go_enter Tryz.func59, Tryz.ntmps59
  go_wp2_with fail
  refine (HC.out _ (two' _ _ _ |>.alloc (by simp; omega) _) (w.heap.size + 1) (w.heap.size + 1 + 1) w.heap.size ⟨?_, ?_, ?_, by omega, by omega, by omega⟩).mono ?_
  · exact cell_of_row _ _ 0 _ _ _ (h3b w _ _ _)
  · exact cell_of_row _ _ 0 _ _ _ (h3c w _ _ _)
  · exact cell_of_row _ _ 0 _ _ _ (h3a w _ _ _)
  rintro r w1 ⟨rfl, h1, hb1⟩
  have H1 : Hid (L.cnt w1 (s + tot (L.gN n) es)) := h1
  have HB1 : Hid (But L.C w w1) := (But.of ((two' _ _ _).alloc (by simp; omega) _)).trans hb1
  clear h1 hb1
  go_wp2
  go_ret
  exact ⟨rfl, H1.out, HB1.out⟩

set_option maxHeartbeats 1000000 in
set_option maxRecDepth 100000 in
theorem treeNets_any (L : Lk) (ok : L.Ok) (n : Nat) (S : Nat → Prop) (w : World) (hS : Apart L.C S w) (v : Value) (t : NT n) (hV : NtV S w n v t) (s : Nat) (hs : L.cnt w s) (hbd : s + L.gN n t ≤ 9223372036854775807) :
    Calls Tryz.prog 39 #[v, L.val] w fun r w' => r = .returned .nilIface ∧ L.cnt w' (s + L.gN n t) ∧ But L.C w w' := by
  have hlt := ok.lt _ _ hs
  obtain ⟨kd, op, pa, la, ca, pk, lk, ck, rfl⟩ := hV.parts
  have HC : Hid (∀ nmN, NmN nmN → ∀ W B, Below w.heap.size w W → w.heap.size ≤ B → W.heap[B]? = some (.cells #[.int .i64 kd, .int .i64 op, .slice pa la ca, .slice pk lk ck] 49 (0, 0)) → Calls Tryz.prog 59 #[.slice (some ⟨B, 0, none⟩) 1 1, .func (.func 60) #[] #[], .func (.method nmN) #[L.val] #[]] W fun r w' => r = .returned .nilIface ∧ L.cnt w' (s + L.gN n t) ∧ But L.C W w') := fun nmN hnm W B hW hB hrow => by
    have hk : Keep S w W := Keep.of hW (fun b hb => (hS b hb).1)
    have h := treeWalkN_any L ok nmN hnm n (fun b => S b ∨ b = B) W (fun b hb => by
      rcases hb with hb | rfl
      · exact (hS.to hW.size) b hb
      · exact ⟨(Array.getElem?_eq_some_iff.1 hrow).1, by omega⟩) (some ⟨B, 0, none⟩) 1 [t] ⟨⟨Nat.le_refl _, by simp⟩, .inr ⟨B, 0, rfl, .inr rfl, fun i u hu => by
        obtain ⟨rfl, rfl⟩ : i = 0 ∧ u = t := by
          cases i with
          | zero => exact ⟨rfl, by simpa using hu.symm⟩
          | succ i => simp at hu
        exact NtE.make (hV.to hk (fun b hb => .inl hb)) (cell_of_row _ _ 0 _ _ _ hrow) (cell_of_row _ _ 1 _ _ _ hrow) (cell_of_row _ _ 2 _ _ _ hrow) (cell_of_row _ _ 3 _ _ _ hrow)⟩⟩ s (ok.to _ _ _ hs hW) (by rw [tot_single]; exact hbd)
    rw [tot_single] at h
    exact h
  have hmf' := hmf
  obtain ⟨TL, hTL⟩ : ∃ TL, TL = L.T := ⟨_, rfl⟩
  obtain ⟨C, hCC⟩ : ∃ C, C = L.C := ⟨_, rfl⟩
  rw [show L.val = .iface TL (.pointer (some ⟨C, 0, none⟩)) by rw [hTL, hCC]; rfl] at HC ⊢
  clear hTL hCC hS hV hs hbd ok
  go_enter Tryz.func39, Tryz.ntmps39
  go_wp2
  have HBa : Hid (Below w.heap.size w (w.alloc (.cells #[.int .i64 kd, .int .i64 op, .slice pa la ca, .slice pk lk ck] 49))) := one _ _
  have HOw : Hid ((w.alloc (.cells #[.int .i64 kd, .int .i64 op, .slice pa la ca, .slice pk lk ck] 49)).heap[w.heap.size]? = some (.cells #[.int .i64 kd, .int .i64 op, .slice pa la ca, .slice pk lk ck] 49 (0, 0))) := last _ _
  generalize w.alloc (.cells #[.int .i64 kd, .int .i64 op, .slice pa la ca, .slice pk lk ck] 49) = V at *
  have hnC : w.heap.size ≠ L.C := by omega
  have q0 : V.cell? ⟨w.heap.size, 0, none⟩ = some (.int .i64 kd) := cell_of_row _ _ 0 _ _ _ HOw.out
  have q1 : V.cell? ⟨w.heap.size, 1, none⟩ = some (.int .i64 op) := cell_of_row _ _ 1 _ _ _ HOw.out
  have q2 : V.cell? ⟨w.heap.size, 2, none⟩ = some (.slice pa la ca) := cell_of_row _ _ 2 _ _ _ HOw.out
  have q3 : V.cell? ⟨w.heap.size, 3, none⟩ = some (.slice pk lk ck) := cell_of_row _ _ 3 _ _ _ HOw.out
  go_region_held3 (fun W => W.cell? ⟨w.heap.size, 0, none⟩ = some (.int .i64 kd) ∧ W.cell? ⟨w.heap.size, 1, none⟩ = some (.int .i64 op) ∧ W.cell? ⟨w.heap.size, 2, none⟩ = some (.slice pa la ca) ∧ W.cell? ⟨w.heap.size, 3, none⟩ = some (.slice pk lk ck)) (first | go_keep | assumption)
    (first
      | (go_at_call 59; refine (HC.out _ ?_ _ V.heap.size (HBa.out.trans ?_) HBa.out.size ?_).mono ?_; exact (fun p w => ⟨by kernel_rfl, by kernel_rfl⟩); exact ((Below.refl _ _).drew.alloc (Nat.le_refl _) _).mono HBa.out.size; exact heap_alloc_new _ _; rintro e w2 ⟨rfl, hn2, hb2⟩; have HN2 : Hid (L.cnt w2 (s + L.gN n t)) := hn2; have hVV : But L.C V w2 := (But.of ((Below.refl _ _).drew.alloc (Nat.le_refl _) _)).trans hb2; have HB2 : Hid (But L.C w w2) := (But.of HBa.out).trans hVV; have u0 := hVV.cell hnC q0; have u1 := hVV.cell hnC q1; have u2 := hVV.cell hnC q2; have u3 := hVV.cell hnC q3; clear hn2 hb2 hVV))
  all_goals (try go_wp2)
  all_goals go_ret
  all_goals exact ⟨rfl, HN2.out, HB2.out⟩
end Go.Proofs.YtjkpingdokkkcaaGreatDoor.Tr

/- What is shown of one net to a look that may stop. Helper text: no statement is claimed here. -/
namespace Go.Proofs.YtjkpingdokkkcaaGreatDoor.Tr
open Go.ChangeShapes Go.WideShapes Go.ChangeAt Go.RowKit
attribute [local go_sem] store_func

theorem zNs_one (n : Nat) (t : NT n) (h : zN n t ≤ 1048575) : zNs n [t] ≤ 1048576 := by
  unfold zNs
  rw [tot_single]
  simp; omega
theorem runL_one {α : Type} (f : α → Nat → Nat × Option Int) (t : α) (s : Nat) : runL f [t] s = f t s := by
  unfold runL
  split
  · rename_i h
    show (_, none) = _
    rw [← h]
  · rfl

set_option maxHeartbeats 1000000 in
set_option maxRecDepth 100000 in
theorem skWalkN_any (L : Sk) (ok : L.Ok) (nmN : String) (hnm : SmN nmN) (n : Nat) (S : Nat → Prop) (w : World) (hS : Apart L.C S w) (p : Option Addr) (cap : Nat) (es : List (NT n)) (hV : SlOf S (NtE S w n) 4 p cap es) (hz : zNs n es ≤ 1048576) (s : Nat) (hs : L.cnt w s) :
    Calls Tryz.prog 59 #[.slice p es.length cap, .func (.func 60) #[] #[], .func (.method nmN) #[L.val] #[]] w fun r w' => r = .returned (errV (runL (L.rN n) es s).2) ∧ ((runL (L.rN n) es s).2 = none → L.cnt w' (runL (L.rN n) es s).1) ∧ But L.C w w' := by
  have hlt := ok.lt _ _ hs
  have HC : Hid (∀ W, Below w.heap.size w W → ∀ P5 P7 P4, ClosN L.C L.val nmN W P5 P7 P4 → Calls Tryz.prog 68 #[.slice p es.length cap, .pointer (some ⟨P5, 0, none⟩), .pointer (some ⟨P7, 0, none⟩), .pointer (some ⟨P4, 0, none⟩)] W fun r w' => r = .returned (errV (runL (L.rN n) es s).2) ∧ ((runL (L.rN n) es s).2 = none → L.cnt w' (runL (L.rN n) es s).1) ∧ But L.C W w') :=
    fun W hW P5 P7 P4 hc => skW_any L ok nmN hnm n S W (hS.to hW.size) p cap es (nets_to (Keep.of hW (fun b hb => (hS b hb).1)) (fun _ h => h) hV) hz P5 P7 P4 hc s (ok.to _ _ _ hs hW)
  have hmf' := hmf
  clear hS hV hs hz ok hnm
  generalize (runL (L.rN n) es s) = R at *
  obtain ⟨lv, hlv⟩ : ∃ lv, lv = L.val := ⟨_, rfl⟩
  rw [← hlv] at HC ⊢
  clear hlv
  go_enter Tryz.func59, Tryz.ntmps59
  go_wp2_with fail
  refine (HC.out _ (two' _ _ _ |>.alloc (by simp; omega) _) (w.heap.size + 1) (w.heap.size + 1 + 1) w.heap.size ⟨?_, ?_, ?_, by omega, by omega, by omega⟩).mono ?_
  · exact cell_of_row _ _ 0 _ _ _ (h3b w _ _ _)
  · exact cell_of_row _ _ 0 _ _ _ (h3c w _ _ _)
  · exact cell_of_row _ _ 0 _ _ _ (h3a w _ _ _)
  rintro r w1 ⟨rfl, h1, hb1⟩
  have H1 : Hid (R.2 = none → L.cnt w1 R.1) := h1
  have HB1 : Hid (But L.C w w1) := (But.of ((two' _ _ _).alloc (by simp; omega) _)).trans hb1
  clear h1 hb1
  go_wp2
  go_ret
  exact ⟨rfl, H1.out, HB1.out⟩

set_option maxHeartbeats 1000000 in
set_option maxRecDepth 100000 in
theorem skNets_any (L : Sk) (ok : L.Ok) (n : Nat) (S : Nat → Prop) (w : World) (hS : Apart L.C S w) (v : Value) (t : NT n) (hV : NtV S w n v t) (hz : zN n t ≤ 1048575) (s : Nat) (hs : L.cnt w s) :
    Calls Tryz.prog 39 #[v, L.val] w fun r w' => r = .returned (errV (L.rN n t s).2) ∧ ((L.rN n t s).2 = none → L.cnt w' (L.rN n t s).1) ∧ But L.C w w' := by
  have hlt := ok.lt _ _ hs
  obtain ⟨kd, op, pa, la, ca, pk, lk, ck, rfl⟩ := hV.parts
  have HC : Hid (∀ nmN, SmN nmN → ∀ W B, Below w.heap.size w W → w.heap.size ≤ B → W.heap[B]? = some (.cells #[.int .i64 kd, .int .i64 op, .slice pa la ca, .slice pk lk ck] 49 (0, 0)) → Calls Tryz.prog 59 #[.slice (some ⟨B, 0, none⟩) 1 1, .func (.func 60) #[] #[], .func (.method nmN) #[L.val] #[]] W fun r w' => r = .returned (errV (L.rN n t s).2) ∧ ((L.rN n t s).2 = none → L.cnt w' (L.rN n t s).1) ∧ But L.C W w') := fun nmN hnm W B hW hB hrow => by
    have hk : Keep S w W := Keep.of hW (fun b hb => (hS b hb).1)
    have h := skWalkN_any L ok nmN hnm n (fun b => S b ∨ b = B) W (fun b hb => by
      rcases hb with hb | rfl
      · exact (hS.to hW.size) b hb
      · exact ⟨(Array.getElem?_eq_some_iff.1 hrow).1, by omega⟩) (some ⟨B, 0, none⟩) 1 [t] ⟨⟨Nat.le_refl _, by simp⟩, .inr ⟨B, 0, rfl, .inr rfl, fun i u hu => by
        obtain ⟨rfl, rfl⟩ : i = 0 ∧ u = t := by
          cases i with
          | zero => exact ⟨rfl, by simpa using hu.symm⟩
          | succ i => simp at hu
        exact NtE.make (hV.to hk (fun b hb => .inl hb)) (cell_of_row _ _ 0 _ _ _ hrow) (cell_of_row _ _ 1 _ _ _ hrow) (cell_of_row _ _ 2 _ _ _ hrow) (cell_of_row _ _ 3 _ _ _ hrow)⟩⟩ (zNs_one n t hz) s (ok.to _ _ _ hs hW)
    rw [runL_one] at h
    exact h
  have hmf' := hmf
  obtain ⟨TL, hTL⟩ : ∃ TL, TL = L.T := ⟨_, rfl⟩
  obtain ⟨dv, hdv⟩ : ∃ dv, dv = L.dv := ⟨_, rfl⟩
  rw [show L.val = .iface TL dv by rw [hTL, hdv]; rfl] at HC ⊢
  clear hTL hdv hS hV hs hz ok
  generalize (L.rN n t s) = R at *
  go_enter Tryz.func39, Tryz.ntmps39
  go_wp2
  have HBa : Hid (Below w.heap.size w (w.alloc (.cells #[.int .i64 kd, .int .i64 op, .slice pa la ca, .slice pk lk ck] 49))) := one _ _
  have HOw : Hid ((w.alloc (.cells #[.int .i64 kd, .int .i64 op, .slice pa la ca, .slice pk lk ck] 49)).heap[w.heap.size]? = some (.cells #[.int .i64 kd, .int .i64 op, .slice pa la ca, .slice pk lk ck] 49 (0, 0))) := last _ _
  generalize w.alloc (.cells #[.int .i64 kd, .int .i64 op, .slice pa la ca, .slice pk lk ck] 49) = V at *
  have hnC : w.heap.size ≠ L.C := by omega
  have q0 : V.cell? ⟨w.heap.size, 0, none⟩ = some (.int .i64 kd) := cell_of_row _ _ 0 _ _ _ HOw.out
  have q1 : V.cell? ⟨w.heap.size, 1, none⟩ = some (.int .i64 op) := cell_of_row _ _ 1 _ _ _ HOw.out
  have q2 : V.cell? ⟨w.heap.size, 2, none⟩ = some (.slice pa la ca) := cell_of_row _ _ 2 _ _ _ HOw.out
  have q3 : V.cell? ⟨w.heap.size, 3, none⟩ = some (.slice pk lk ck) := cell_of_row _ _ 3 _ _ _ HOw.out
  go_region_held3 (fun W => W.cell? ⟨w.heap.size, 0, none⟩ = some (.int .i64 kd) ∧ W.cell? ⟨w.heap.size, 1, none⟩ = some (.int .i64 op) ∧ W.cell? ⟨w.heap.size, 2, none⟩ = some (.slice pa la ca) ∧ W.cell? ⟨w.heap.size, 3, none⟩ = some (.slice pk lk ck)) (first | go_keep | assumption)
    (first
      | (go_at_call 59; refine (HC.out _ ?_ _ V.heap.size (HBa.out.trans ?_) HBa.out.size ?_).mono ?_; exact (fun p w => ⟨by kernel_rfl, by kernel_rfl⟩); exact ((Below.refl _ _).drew.alloc (Nat.le_refl _) _).mono HBa.out.size; exact heap_alloc_new _ _; rintro e w2 ⟨rfl, hn2, hb2⟩; have HN2 : Hid (R.2 = none → L.cnt w2 R.1) := hn2; have hVV : But L.C V w2 := (But.of ((Below.refl _ _).drew.alloc (Nat.le_refl _) _)).trans hb2; have HB2 : Hid (But L.C w w2) := (But.of HBa.out).trans hVV; have u0 := hVV.cell hnC q0; have u1 := hVV.cell hnC q1; have u2 := hVV.cell hnC q2; have u3 := hVV.cell hnC q3; clear hn2 hb2 hVV))
  all_goals (try go_wp2)
  all_goals go_ret
  all_goals exact ⟨rfl, HN2.out, HB2.out⟩
end Go.Proofs.YtjkpingdokkkcaaGreatDoor.Tr
