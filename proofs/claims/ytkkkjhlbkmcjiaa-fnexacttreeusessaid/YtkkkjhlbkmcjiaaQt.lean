/- What is shown to a look, net by net: the walk over nets. Helper text: no statement is claimed here. -/
import Derived.Test.YtkkkjhlbkmcjiaaQs
namespace Go.Proofs.Ytkkkjhlbkmcjiaa.Tr
open Go.ChangeShapes Go.WideShapes Go.ChangeAt Go.RowKit

/-- The same as upon_invoke of chapter 5, where the answer hangs on the world. -/
theorem upon_method {o : Oper} {a : Act} {w : World} {K : Act → World → Prop} {Q : Exit → Act → World → Prop} {F : Nat} {f : FuncId} {name : String} {t : TypeId} {dv r v : Value} {R : World → Prop} {g : Value → Array Value} (hme : (method F t dv name).run Try.prog w = .ok (f, r) w) (hf : ∀ (xs : Array Value) (w : World), (callFunc f xs).run Try.prog w = .ok (.enter f xs) w)
    (hC : Calls Try.prog f (g r) w fun e w' => e = .returned v ∧ R w') (hk : ∀ w', R w' → K (a.put o.dst v) w') : o.upon Try.prog a K Q ((Sem.run Try.prog (method F t dv name) w).andThen fun b w' => Sem.run Try.prog (callFunc b.fst (g b.snd)) w') := by
  rw [hme, Result.andThen_ok, hf, Oper.upon_enter]
  refine hC.mono ?_
  rintro e w' ⟨rfl, h⟩
  exact hk w' h

/-- The blocks of a tree: there, and apart from the count. -/
def Apart (C : Nat) (S : Nat → Prop) (w : World) : Prop := ∀ b, S b → b < w.heap.size ∧ b ≠ C
theorem Apart.to {C : Nat} {S : Nat → Prop} {w w' : World} (h : Apart C S w) (hb : w.heap.size ≤ w'.heap.size) : Apart C S w' := fun b hs => ⟨Nat.lt_of_lt_of_le (h b hs).1 hb, (h b hs).2⟩
/-- A look: the block in which it counts, its type, its two methods, what it counts. -/
structure Lk where
  C : Nat
  T : TypeId
  fn : FuncId
  fa : FuncId
  cnt : World → Nat → Prop
  fN : (n : Nat) → NT n → Nat
  fA : (k n : Nat) → AT k n → Nat
def Lk.val (L : Lk) : Value := .iface L.T (.pointer (some ⟨L.C, 0, none⟩))
/-- A name by which the looks' methods for nets, for arms are found. -/
def NmN (nm : String) : Prop := ∀ (p : Option Addr) (w : World), (method 222 57 (.pointer p) nm).run Try.prog w = .ok (78, .pointer p) w ∧ (method 222 70 (.pointer p) nm).run Try.prog w = .ok (81, .pointer p) w
def NmA (nm : String) : Prop := ∀ (p : Option Addr) (w : World), (method 222 57 (.pointer p) nm).run Try.prog w = .ok (77, .pointer p) w ∧ (method 222 70 (.pointer p) nm).run Try.prog w = .ok (79, .pointer p) w
/-- A look does what it is for. -/
structure Lk.Ok (L : Lk) : Prop where
  lt : ∀ w s, L.cnt w s → L.C < w.heap.size
  to : ∀ w w' s, L.cnt w s → Below w.heap.size w w' → L.cnt w' s
  me : ∀ nm, NmN nm → ∀ w, (method 222 L.T (.pointer (some ⟨L.C, 0, none⟩)) nm).run Try.prog w = .ok (L.fn, .pointer (some ⟨L.C, 0, none⟩)) w
  call : ∀ (xs : Array Value) (w : World), (callFunc L.fn xs).run Try.prog w = .ok (.enter L.fn xs) w
  net : ∀ (S : Nat → Prop) (W : World) (n : Nat) (v : Value) (t : NT n) (s : Nat), Apart L.C S W → NtV S W n v t → L.cnt W s → s + L.fN n t ≤ 9223372036854775807 →
    Calls Try.prog L.fn #[.pointer (some ⟨L.C, 0, none⟩), v] W fun r w' => r = .returned .nilIface ∧ L.cnt w' (s + L.fN n t) ∧ But L.C W w'
  meA : ∀ nm, NmA nm → ∀ w, (method 222 L.T (.pointer (some ⟨L.C, 0, none⟩)) nm).run Try.prog w = .ok (L.fa, .pointer (some ⟨L.C, 0, none⟩)) w
  callA : ∀ (xs : Array Value) (w : World), (callFunc L.fa xs).run Try.prog w = .ok (.enter L.fa xs) w
  arm : ∀ (S : Nat → Prop) (W : World) (k n : Nat) (v : Value) (t : AT k n) (s : Nat), Apart L.C S W → AmV S W k n v t → L.cnt W s → s + L.fA k n t ≤ 9223372036854775807 →
    Calls Try.prog L.fa #[.pointer (some ⟨L.C, 0, none⟩), v] W fun r w' => r = .returned .nilIface ∧ L.cnt w' (s + L.fA k n t) ∧ But L.C W w'
/-- What a look counts of a net and all within it. -/
def Lk.gN (L : Lk) : (n : Nat) → NT n → Nat
  | 0, _ => 0
  | n + 1, t => L.fN (n + 1) t + tot (L.gN n) t.kids
def Lk.gK (L : Lk) : (n : Nat) → NT n → Nat
  | 0, _ => 0
  | n + 1, t => tot (L.gN n) t.kids
theorem Lk.gN_eq (L : Lk) : ∀ (n : Nat) (t : NT n), L.gN n t = L.fN n t + L.gK n t
  | 0, t => Empty.elim t
  | _ + 1, _ => rfl

theorem kidsN_any (kd op : Int) (pa : Option Addr) (la ca : Nat) (pk : Option Addr) (lk ck : Nat) (w : World) :
    Calls Try.prog 52 #[.agg #[.int .i64 kd, .int .i64 op, .slice pa la ca, .slice pk lk ck]] w fun r w' => r = .returned (.slice pk lk ck) ∧ Below w.heap.size w w' := by
  go_enter Try.func52, Try.ntmps52
  go_wp2
  go_ret
  exact ⟨rfl, one _ _⟩

/-- The three cells that the walk over nets has captured. -/
structure ClosN (C : Nat) (lv : Value) (nm : String) (w : World) (P5 P7 P4 : Nat) : Prop where
  h5 : w.cell? ⟨P5, 0, none⟩ = some (.func (.method nm) #[lv] #[])
  h7 : w.cell? ⟨P7, 0, none⟩ = some (.func (.func 58) #[] #[.pointer (some ⟨P5, 0, none⟩), .pointer (some ⟨P7, 0, none⟩), .pointer (some ⟨P4, 0, none⟩)])
  h4 : w.cell? ⟨P4, 0, none⟩ = some (.func (.func 52) #[] #[])
  n5 : P5 ≠ C
  n7 : P7 ≠ C
  n4 : P4 ≠ C
theorem ClosN.to {C : Nat} {lv : Value} {nm : String} {w w' : World} {P5 P7 P4 : Nat} (h : ClosN C lv nm w P5 P7 P4) (hb : But C w w') : ClosN C lv nm w' P5 P7 P4 :=
  ⟨hb.cell h.n5 h.h5, hb.cell h.n7 h.h7, hb.cell h.n4 h.h4, h.n5, h.n7, h.n4⟩
def KidsN (L : Lk) (nm : String) (n : Nat) : Prop := ∀ (S : Nat → Prop) (w : World) (_ : Apart L.C S w) (kd op : Int) (pa : Option Addr) (la ca : Nat) (pk : Option Addr) (lk ck : Nat) (t : NT n) (_ : NtV S w n (.agg #[.int .i64 kd, .int .i64 op, .slice pa la ca, .slice pk lk ck]) t)
    (P5 P7 P4 : Nat) (_ : ClosN L.C L.val nm w P5 P7 P4) (s : Nat) (_ : L.cnt w s) (_ : s + L.gK n t ≤ 9223372036854775807),
    Calls Try.prog 58 #[.slice pk lk ck, .pointer (some ⟨P5, 0, none⟩), .pointer (some ⟨P7, 0, none⟩), .pointer (some ⟨P4, 0, none⟩)] w fun r w' => r = .returned .nilIface ∧ L.cnt w' (s + L.gK n t) ∧ But L.C w w'
def WalkN (L : Lk) (nm : String) (n : Nat) : Prop := ∀ (S : Nat → Prop) (w : World) (_ : Apart L.C S w) (p : Option Addr) (cap : Nat) (es : List (NT n)) (_ : SlOf S (NtE S w n) 4 p cap es)
    (P5 P7 P4 : Nat) (_ : ClosN L.C L.val nm w P5 P7 P4) (s : Nat) (_ : L.cnt w s) (_ : s + tot (L.gN n) es ≤ 9223372036854775807),
    Calls Try.prog 58 #[.slice p es.length cap, .pointer (some ⟨P5, 0, none⟩), .pointer (some ⟨P7, 0, none⟩), .pointer (some ⟨P4, 0, none⟩)] w fun r w' => r = .returned .nilIface ∧ L.cnt w' (s + tot (L.gN n) es) ∧ But L.C w w'
theorem kids_of (L : Lk) (nm : String) (n : Nat) (h : WalkN L nm n) : KidsN L nm (n + 1) := by
  intro S w hS kd op pa la ca pk lk ck t hV P5 P7 P4 hC s hs hbd
  obtain ⟨pa', ca', pk', ck', he, _, h5⟩ := hV
  simp only [Value.agg.injEq, Array.mk.injEq, List.cons.injEq, Value.int.injEq, Value.slice.injEq, true_and, and_true] at he
  obtain ⟨rfl, rfl, ⟨rfl, rfl, rfl⟩, rfl, rfl, rfl⟩ := he
  exact h S w hS pk ck t.kids h5 P5 P7 P4 hC s hs hbd

set_option maxHeartbeats 2000000 in
set_option maxRecDepth 100000 in
theorem walk_of (L : Lk) (ok : L.Ok) (nmN : String) (hnm : NmN nmN) (n : Nat) (IH : KidsN L nmN n) : WalkN L nmN n := by
  intro S w hS p cap es hV P5 P7 P4 hC s hs hbd
  have HS : Hid (Apart L.C S w) := hS
  have HV : Hid (SlOf S (NtE S w n) 4 p cap es) := hV
  have HC : Hid (ClosN L.C L.val nmN w P5 P7 P4) := hC
  have HN : Hid (L.cnt w s) := hs
  have HI : Hid (KidsN L nmN n) := IH
  have HO : Hid L.Ok := ok
  have HM : Hid (NmN nmN) := hnm
  have HD : Hid (s + tot (L.gN n) es ≤ 9223372036854775807) := hbd
  obtain ⟨⟨hl1, hl2⟩, -⟩ := hV
  clear hS hC hs IH ok hbd hnm
  obtain ⟨TL, hTL⟩ : ∃ TL, TL = L.T := ⟨_, rfl⟩
  obtain ⟨C, hCC⟩ : ∃ C, C = L.C := ⟨_, rfl⟩
  have HLV : Hid (L.val = .iface TL (.pointer (some ⟨C, 0, none⟩))) := by
    show _ = _
    rw [hTL, hCC]; rfl
  have HTL : Hid (TL = L.T) := hTL
  have HCC : Hid (C = L.C) := hCC
  clear hTL hCC
  go_enter Try.func58, Try.ntmps58
  go_wp2
  go_loopw [12] (fun d w' => ∃ j : Nat, j ≤ es.length ∧ d = .int .i64 (j : Int) ∧ Hid (L.cnt w' (s + tot (L.gN n) (es.take j))) ∧ Hid (But L.C w w')) (fun d _ => es.length - (intOf d).toNat)
  case atStart => exact ⟨0, by omega, rfl, HN, But.refl _ _⟩
  case round =>
    obtain ⟨j, hj, rfl, HNj, HB⟩ := hrel
    rename_i wr
    by_cases hlt : j < es.length
    · have hlt' : (j : Int) < (es.length : Int) := by omega
      obtain ⟨t, ht⟩ := get_lt hlt
      have HT1 : Hid (tot (L.gN n) (es.take (j + 1)) = tot (L.gN n) (es.take j) + (L.fN n t + L.gK n t)) := (tot_next (L.gN n) ht).trans (by rw [L.gN_eq n t])
      have HT2 : Hid (tot (L.gN n) (es.take (j + 1)) ≤ tot (L.gN n) es) := tot_le (L.gN n) es (j + 1)
      have hAr : Apart L.C S wr := HS.out.to HB.out.size
      obtain ⟨b, off, rfl, hb, hE⟩ := (nets_to (HB.out.keep HS.out) (fun _ h => h) HV.out).get ht
      obtain ⟨kd, op, pa, la, ca, pk, lk, ck, c0, c1, c2, c3, hNv⟩ := hE.out
      have hbl : b < wr.heap.size := World.block_lt_of_cell? _ _ c0
      have HCl : Hid (ClosN L.C L.val nmN wr P5 P7 P4) := HC.out.to HB.out
      have g5 : wr.cell? ⟨P5, 0, none⟩ = some (.func (.method nmN) #[.iface TL (.pointer (some ⟨C, 0, none⟩))] #[]) := by rw [← HLV.out]; exact HCl.out.h5
      have g5l : P5 < wr.heap.size := World.block_lt_of_cell? _ _ g5
      have HA : Hid (Apart L.C S wr) := hAr
      have HNv : Hid (NtV S wr n (.agg #[.int .i64 kd, .int .i64 op, .slice pa la ca, .slice pk lk ck]) t) := hNv
      clear hE hNv hAr ht
      go_wp2_with fail
      have HBa : Hid (But L.C wr (wr.alloc (.cells #[.int .i64 kd, .int .i64 op, .slice pa la ca, .slice pk lk ck] 52))) := But.of (one _ _)
      have HNa : Hid (L.cnt (wr.alloc (.cells #[.int .i64 kd, .int .i64 op, .slice pa la ca, .slice pk lk ck] 52)) (s + tot (L.gN n) (es.take j))) := HO.out.to _ _ _ HNj.out (one _ _)
      have HOw : Hid ((wr.alloc (.cells #[.int .i64 kd, .int .i64 op, .slice pa la ca, .slice pk lk ck] 52)).heap[wr.heap.size]? = some (.cells #[.int .i64 kd, .int .i64 op, .slice pa la ca, .slice pk lk ck] 52 (0, 0))) := last _ _
      generalize wr.alloc (.cells #[.int .i64 kd, .int .i64 op, .slice pa la ca, .slice pk lk ck] 52) = V at *
      have hnC : wr.heap.size ≠ L.C := by have := HO.out.lt _ _ HNj.out; omega
      refine upon_method (f := L.fn) (r := .pointer (some ⟨C, 0, none⟩)) (v := .nilIface) (g := fun z => #[z, .agg #[.int .i64 kd, .int .i64 op, .slice pa la ca, .slice pk lk ck]]) (R := fun w' => L.cnt w' (s + tot (L.gN n) (es.take j) + L.fN n t) ∧ But L.C V w') ?_ HO.out.call ?_ ?_
      · rw [HTL.out, HCC.out]; exact HO.out.me nmN HM.out V
      · show Calls _ _ #[.pointer (some ⟨C, 0, none⟩), _] _ _
        rw [HCC.out]
        exact HO.out.net S V n _ t _ (HA.out.to HBa.out.size) (HNv.out.to (HBa.out.keep HA.out) (fun _ h => h)) HNa.out (by have := HT1.out; have := HT2.out; have := HD.out; omega)
      · rintro w1 ⟨hn1, hb1⟩
        have HN1 : Hid (L.cnt w1 (s + tot (L.gN n) (es.take j) + L.fN n t)) := hn1
        have HB1 : Hid (But L.C wr w1) := HBa.out.trans hb1
        have HO1 : Hid (w1.heap[wr.heap.size]? = some (.cells #[.int .i64 kd, .int .i64 op, .slice pa la ca, .slice pk lk ck] 52 (0, 0))) := (hb1.block _ (Array.getElem?_eq_some_iff.1 HOw.out).1 hnC).trans HOw.out
        have HC1 : Hid (ClosN L.C L.val nmN w1 P5 P7 P4) := HCl.out.to HB1.out
        have q0 : w1.cell? ⟨wr.heap.size, 0, none⟩ = some (.int .i64 kd) := cell_of_row _ _ 0 _ _ _ HO1.out
        have q1 : w1.cell? ⟨wr.heap.size, 1, none⟩ = some (.int .i64 op) := cell_of_row _ _ 1 _ _ _ HO1.out
        have q2 : w1.cell? ⟨wr.heap.size, 2, none⟩ = some (.slice pa la ca) := cell_of_row _ _ 2 _ _ _ HO1.out
        have q3 : w1.cell? ⟨wr.heap.size, 3, none⟩ = some (.slice pk lk ck) := cell_of_row _ _ 3 _ _ _ HO1.out
        have q7 := HC1.out.h7
        have q4 := HC1.out.h4
        clear hn1 hb1 c0 c1 c2 c3 g5 g5l HBa HNa HOw
        go_wp2
        go_region_held3 (fun W => W.cell? ⟨P7, 0, none⟩ = some (.func (.func 58) #[] #[.pointer (some ⟨P5, 0, none⟩), .pointer (some ⟨P7, 0, none⟩), .pointer (some ⟨P4, 0, none⟩)]) ∧ W.cell? ⟨P4, 0, none⟩ = some (.func (.func 52) #[] #[]) ∧ W.cell? ⟨wr.heap.size, 0, none⟩ = some (.int .i64 kd) ∧ W.cell? ⟨wr.heap.size, 1, none⟩ = some (.int .i64 op) ∧ W.cell? ⟨wr.heap.size, 2, none⟩ = some (.slice pa la ca) ∧ W.cell? ⟨wr.heap.size, 3, none⟩ = some (.slice pk lk ck)) (first | go_keep | assumption)
          (first
            | (go_at_call 52; refine (kidsN_any kd op pa la ca pk lk ck _).mono ?_; rintro e w2 ⟨rfl, hb2⟩; have HB2 : Hid (Below w1.heap.size w1 w2) := (Below.refl _ _).drew.trans hb2; have r0 := keep2 HB2.out q0; have r1 := keep2 HB2.out q1; have r2 := keep2 HB2.out q2; have r3 := keep2 HB2.out q3; have r7 := keep2 HB2.out q7; have r4 := keep2 HB2.out q4; clear hb2)
            | (go_at_call 58; refine (HI.out S w2 ((HA.out.to HB1.out.size).to HB2.out.size) kd op pa la ca pk lk ck t (HNv.out.to ((HB1.out.trans (But.of HB2.out)).keep HA.out) (fun _ h => h)) P5 P7 P4 (HC1.out.to (But.of HB2.out)) (s + tot (L.gN n) (es.take j) + L.fN n t) (HO.out.to _ _ _ HN1.out HB2.out) ?_).mono ?_; (have := HT1.out; have := HT2.out; have := HD.out; omega); rintro e w3 ⟨rfl, hn3, hb3⟩; have HN3 : Hid (L.cnt w3 (s + tot (L.gN n) (es.take j) + L.fN n t + L.gK n t)) := hn3; have HB3 : Hid (But L.C w w3) := (HB.out.trans HB1.out).trans ((But.of HB2.out).trans hb3); have u0 := hb3.cell hnC r0; have u1 := hb3.cell hnC r1; have u2 := hb3.cell hnC r2; have u3 := hb3.cell hnC r3; have u7 := hb3.cell HC1.out.n7 r7; have u4 := hb3.cell HC1.out.n4 r4; clear hn3 hb3))
        all_goals (try go_wp2)
        all_goals exact ⟨⟨j + 1, by omega, by go_num, (by have h := HN3.out; have e : s + tot (L.gN n) (es.take (j + 1)) = s + tot (L.gN n) (es.take j) + L.fN n t + L.gK n t := by { have := HT1.out; omega }; show L.cnt w3 _; rw [e]; exact h), HB3⟩, by simp [intOf]; omega⟩
    · obtain rfl : j = es.length := by omega
      have HNe : Hid (L.cnt wr (s + tot (L.gN n) es)) := by
        have := HNj.out
        rw [List.take_length] at this
        exact this
      go_wp2
      go_ret
      exact ⟨rfl, HNe.out, HB.out⟩
theorem walkN_any (L : Lk) (ok : L.Ok) (nmN : String) (hnm : NmN nmN) : ∀ n, WalkN L nmN n
  | 0 => walk_of L ok nmN hnm 0 (fun _ _ _ _ _ _ _ _ _ _ _ _ h => h.elim)
  | n + 1 => walk_of L ok nmN hnm (n + 1) (kids_of L nmN n (walkN_any L ok nmN hnm n))
end Go.Proofs.Ytkkkjhlbkmcjiaa.Tr
