/- What is shown to a look of one arm. Helper text: no statement is claimed here. -/
import Derived.Test.YtkkkjhlbkmcjiaaQu
import Derived.Test.YtkkkjhlbkmcjiaaQo
namespace Go.Proofs.Ytkkkjhlbkmcjiaa.Tr
open Go.ChangeShapes Go.WideShapes Go.ChangeAt Go.RowKit
attribute [local go_sem] store_func

/-- What a look counts of an arm, its kids left aside. -/
def Lk.hA (L : Lk) (k : Nat) : (n : Nat) → AT k n → Nat
  | 0, _ => 0
  | n + 1, a => (if isNone a.net then 0 else L.gN (k + 1) a.net) + L.fA k (n + 1) a
def Lk.gA (L : Lk) (k : Nat) : (n : Nat) → AT k n → Nat
  | 0, _ => 0
  | n + 1, a => L.hA k (n + 1) a + tot (L.gA k n) a.kids
def Lk.gQ (L : Lk) (k : Nat) : (n : Nat) → AT k n → Nat
  | 0, _ => 0
  | n + 1, a => tot (L.gA k n) a.kids
theorem Lk.gA_eq (L : Lk) (k : Nat) : ∀ (n : Nat) (t : AT k n), L.gA k n t = L.hA k n t + L.gQ k n t
  | 0, t => Empty.elim t
  | _ + 1, _ => rfl
theorem kidsA_any (kd op : Int) (pa : Option Addr) (la ca : Nat) (pk : Option Addr) (lk ck : Nat) (pc : Option Addr) (lc cc : Nat) (pq : Option Addr) (lq cq : Nat) (w : World) :
    Calls Try.prog 39 #[.agg #[.int .i64 kd, .int .i64 op, .slice pa la ca, .slice pk lk ck, .slice pc lc cc, .slice pq lq cq]] w fun r w' => r = .returned (.slice pq lq cq) ∧ Below w.heap.size w w' := by
  go_enter Try.func39, Try.ntmps39
  go_wp2
  go_ret
  exact ⟨rfl, one _ _⟩
/-- A box of an arm. -/
def OwnR (w : World) (b : Nat) (cs : Array Value) : Prop := w.heap[b]? = some (.cells cs 55 (0, 0))
theorem OwnR.new (w : World) (cs : Array Value) : OwnR (w.alloc (.cells cs 55)) w.heap.size cs := last _ _
theorem OwnR.to {w w' : World} {b : Nat} {cs : Array Value} (h : OwnR w b cs) (hb : Below w.heap.size w w') : OwnR w' b cs := (hb.block b (Array.getElem?_eq_some_iff.1 h).1).trans h
theorem neq_nil (w : World) : (binOp .neq 61 .nilIface .nilIface).run Try.prog w = .ok (.bool false) w := by kernel_rfl

set_option maxHeartbeats 2000000 in
set_option maxRecDepth 100000 in
theorem show_any (L : Lk) (ok : L.Ok) (k n : Nat) (S : Nat → Prop) (w : World) (hS : Apart L.C S w) (v : Value) (t : AT k n) (hV : AmV S w k n v t) (PL : Nat) (hPL : w.cell? ⟨PL, 0, none⟩ = some L.val) (hPC : PL ≠ L.C) (s : Nat) (hs : L.cnt w s) (hbd0 : s + L.hA k n t ≤ 9223372036854775807) :
    Calls Try.prog 35 #[v, .pointer (some ⟨PL, 0, none⟩)] w fun r w' => r = .returned .nilIface ∧ L.cnt w' (s + L.hA k n t) ∧ But L.C w w' := by
  cases n with
  | zero => exact hV.elim
  | succ n =>
  have HV : Hid (AmV S w k (n + 1) v t) := hV
  obtain ⟨kd, op, pa, la, ca, pk, lk, ck, pc, cc, pq, cq, rfl, hN, -, -⟩ := hV
  have hlt := ok.lt _ _ hs
  have hnC : w.heap.size ≠ L.C := by omega
  have hbd : s + ((if isNone t.net then 0 else L.gN (k + 1) t.net) + L.fA k (n + 1) t) ≤ 9223372036854775807 := hbd0
  clear hbd0
  have HC1 : Hid (∀ W, Below w.heap.size w W → Calls Try.prog 36 #[.agg #[.int .i64 kd, .int .i64 op, .slice pa la ca, .slice pk lk ck]] W fun r w' => r = .returned (.bool (isNone t.net)) ∧ Below W.heap.size W w') :=
    fun W hW => iNone_any k S W (fun b hb => Nat.lt_of_lt_of_le (hS b hb).1 hW.size) _ t.net (hN.to (Keep.of hW (fun b hb => (hS b hb).1)) (fun _ h => h))
  have HC2 : Hid (∀ W, Below w.heap.size w W → ∀ s', L.cnt W s' → s' + L.gN (k + 1) t.net ≤ 9223372036854775807 → Calls Try.prog 37 #[.agg #[.int .i64 kd, .int .i64 op, .slice pa la ca, .slice pk lk ck], L.val] W fun r w' => r = .returned .nilIface ∧ L.cnt w' (s' + L.gN (k + 1) t.net) ∧ But L.C W w') :=
    fun W hW s' hs' hb' => treeNets_any L ok (k + 1) S W (hS.to hW.size) _ t.net (hN.to (Keep.of hW (fun b hb => (hS b hb).1)) (fun _ h => h)) s' hs' hb'
  have HC3 : Hid (∀ W, But L.C w W → ∀ s', L.cnt W s' → s' + L.fA k (n + 1) t ≤ 9223372036854775807 → Calls Try.prog L.fa #[.pointer (some ⟨L.C, 0, none⟩), .agg #[.int .i64 kd, .int .i64 op, .slice pa la ca, .slice pk lk ck, .slice pc t.coils.length cc, .slice pq t.kids.length cq]] W fun r w' => r = .returned .nilIface ∧ L.cnt w' (s' + L.fA k (n + 1) t) ∧ But L.C W w') :=
    fun W hW s' hs' hb' => ok.arm S W k (n + 1) _ t s' (hS.to hW.size) (HV.out.to (hW.keep hS) (fun _ h => h)) hs' hb'
  show Calls _ _ _ _ fun r w' => _ ∧ L.cnt w' (s + ((if isNone t.net then 0 else L.gN (k + 1) t.net) + L.fA k (n + 1) t)) ∧ _
  have HN : Hid (L.cnt w s) := hs
  have HO : Hid L.Ok := ok
  obtain ⟨TL, hTL⟩ : ∃ TL, TL = L.T := ⟨_, rfl⟩
  obtain ⟨C, hCC⟩ : ∃ C, C = L.C := ⟨_, rfl⟩
  rw [show L.val = .iface TL (.pointer (some ⟨C, 0, none⟩)) by rw [hTL, hCC]; rfl] at HC2 hPL
  have HTL : Hid (TL = L.T) := hTL
  have HCC : Hid (C = L.C) := hCC
  have hPLl : PL < w.heap.size := World.block_lt_of_cell? _ _ hPL
  have hnn := neq_nil
  clear hTL hCC hS hN hs ok HV
  generalize t.coils.length = lc at *
  generalize t.kids.length = lq at *
  have HD : Hid (s + ((if isNone t.net then 0 else L.gN (k + 1) t.net) + L.fA k (n + 1) t) ≤ 9223372036854775807) := hbd
  clear hbd
  generalize L.fA k (n + 1) t = zA at *
  generalize L.gN (k + 1) t.net = zN at *
  cases hb : isNone t.net with
  | true =>
    rw [hb] at HC1
    rw [hb, if_pos rfl, Nat.zero_add] at HD
    rw [if_pos rfl, Nat.zero_add]
    clear hb HC2
    go_enter Try.func35, Try.ntmps35
    go_wp2_with fail
    have HBa : Hid (Below w.heap.size w (w.alloc (.cells #[.int .i64 kd, .int .i64 op, .slice pa la ca, .slice pk lk ck, .slice pc lc cc, .slice pq lq cq] 55))) := one _ _
    have HOw : Hid (OwnR (w.alloc (.cells #[.int .i64 kd, .int .i64 op, .slice pa la ca, .slice pk lk ck, .slice pc lc cc, .slice pq lq cq] 55)) w.heap.size #[.int .i64 kd, .int .i64 op, .slice pa la ca, .slice pk lk ck, .slice pc lc cc, .slice pq lq cq]) := OwnR.new _ _
    generalize w.alloc (.cells #[.int .i64 kd, .int .i64 op, .slice pa la ca, .slice pk lk ck, .slice pc lc cc, .slice pq lq cq] 55) = V at *
    refine (HC1.out V HBa.out).mono ?_
    rintro r w1 ⟨rfl, hb1⟩
    have HB1 : Hid (Below w.heap.size w w1) := HBa.out.trans (hb1.mono HBa.out.size)
    have HO1 : Hid (OwnR w1 w.heap.size #[.int .i64 kd, .int .i64 op, .slice pa la ca, .slice pk lk ck, .slice pc lc cc, .slice pq lq cq]) := HOw.out.to hb1
    have HN1 : Hid (L.cnt w1 s) := HO.out.to _ _ _ HN.out HB1.out
    have q0 : w1.cell? ⟨w.heap.size, 0, none⟩ = some (.int .i64 kd) := cell_of_row _ _ 0 _ _ _ HO1.out
    have q1 : w1.cell? ⟨w.heap.size, 1, none⟩ = some (.int .i64 op) := cell_of_row _ _ 1 _ _ _ HO1.out
    have q2 : w1.cell? ⟨w.heap.size, 2, none⟩ = some (.slice pa la ca) := cell_of_row _ _ 2 _ _ _ HO1.out
    have q3 : w1.cell? ⟨w.heap.size, 3, none⟩ = some (.slice pk lk ck) := cell_of_row _ _ 3 _ _ _ HO1.out
    have q4 : w1.cell? ⟨w.heap.size, 4, none⟩ = some (.slice pc lc cc) := cell_of_row _ _ 4 _ _ _ HO1.out
    have q5 : w1.cell? ⟨w.heap.size, 5, none⟩ = some (.slice pq lq cq) := cell_of_row _ _ 5 _ _ _ HO1.out
    have qL := keep2 HB1.out hPL
    clear hb1 HOw
    go_wp2_with fail
    refine upon_method (f := L.fa) (r := .pointer (some ⟨C, 0, none⟩)) (v := .nilIface) (g := fun z => #[z, .agg #[.int .i64 kd, .int .i64 op, .slice pa la ca, .slice pk lk ck, .slice pc lc cc, .slice pq lq cq]]) (R := fun w' => L.cnt w' (s + zA) ∧ But L.C w1 w') ?_ HO.out.callA ?_ ?_
    · rw [HTL.out, HCC.out]; exact HO.out.meA _ (fun p w => ⟨by kernel_rfl, by kernel_rfl⟩) w1
    · show Calls _ _ #[.pointer (some ⟨C, 0, none⟩), _] _ _
      rw [HCC.out]
      exact HC3.out w1 (But.of HB1.out) s HN1.out HD.out
    · rintro w2 ⟨hn2, hb2⟩
      have HN2 : Hid (L.cnt w2 (s + zA)) := hn2
      have HB2 : Hid (But L.C w w2) := (But.of HB1.out).trans hb2
      clear hn2 hb2
      go_wp2
      go_ret
      exact ⟨rfl, HN2.out, HB2.out⟩
  | false =>
    rw [hb] at HC1
    rw [hb, if_neg (by simp)] at HD
    rw [if_neg (by simp)]
    clear hb
    go_enter Try.func35, Try.ntmps35
    go_wp2_with fail
    have HBa : Hid (Below w.heap.size w (w.alloc (.cells #[.int .i64 kd, .int .i64 op, .slice pa la ca, .slice pk lk ck, .slice pc lc cc, .slice pq lq cq] 55))) := one _ _
    have HOw : Hid (OwnR (w.alloc (.cells #[.int .i64 kd, .int .i64 op, .slice pa la ca, .slice pk lk ck, .slice pc lc cc, .slice pq lq cq] 55)) w.heap.size #[.int .i64 kd, .int .i64 op, .slice pa la ca, .slice pk lk ck, .slice pc lc cc, .slice pq lq cq]) := OwnR.new _ _
    generalize w.alloc (.cells #[.int .i64 kd, .int .i64 op, .slice pa la ca, .slice pk lk ck, .slice pc lc cc, .slice pq lq cq] 55) = V at *
    refine (HC1.out V HBa.out).mono ?_
    rintro r w1 ⟨rfl, hb1⟩
    have HB1 : Hid (Below w.heap.size w w1) := HBa.out.trans (hb1.mono HBa.out.size)
    have HO1 : Hid (OwnR w1 w.heap.size #[.int .i64 kd, .int .i64 op, .slice pa la ca, .slice pk lk ck, .slice pc lc cc, .slice pq lq cq]) := HOw.out.to hb1
    have HN1 : Hid (L.cnt w1 s) := HO.out.to _ _ _ HN.out HB1.out
    have q0 : w1.cell? ⟨w.heap.size, 0, none⟩ = some (.int .i64 kd) := cell_of_row _ _ 0 _ _ _ HO1.out
    have q1 : w1.cell? ⟨w.heap.size, 1, none⟩ = some (.int .i64 op) := cell_of_row _ _ 1 _ _ _ HO1.out
    have q2 : w1.cell? ⟨w.heap.size, 2, none⟩ = some (.slice pa la ca) := cell_of_row _ _ 2 _ _ _ HO1.out
    have q3 : w1.cell? ⟨w.heap.size, 3, none⟩ = some (.slice pk lk ck) := cell_of_row _ _ 3 _ _ _ HO1.out
    have q4 : w1.cell? ⟨w.heap.size, 4, none⟩ = some (.slice pc lc cc) := cell_of_row _ _ 4 _ _ _ HO1.out
    have q5 : w1.cell? ⟨w.heap.size, 5, none⟩ = some (.slice pq lq cq) := cell_of_row _ _ 5 _ _ _ HO1.out
    have qL := keep2 HB1.out hPL
    clear hb1 HOw
    go_wp2_with fail
    refine (HC2.out w1 HB1.out s HN1.out (by have := HD.out; omega)).mono ?_
    rintro r w2 ⟨rfl, hn2, hb2⟩
    have HN2 : Hid (L.cnt w2 (s + zN)) := hn2
    have HB2 : Hid (But L.C w w2) := (But.of HB1.out).trans hb2
    replace q0 := hb2.cell hnC q0
    replace q1 := hb2.cell hnC q1
    replace q2 := hb2.cell hnC q2
    replace q3 := hb2.cell hnC q3
    replace q4 := hb2.cell hnC q4
    replace q5 := hb2.cell hnC q5
    replace qL := hb2.cell hPC qL
    clear hn2 hb2
    go_wp2_with fail
    refine upon_method (f := L.fa) (r := .pointer (some ⟨C, 0, none⟩)) (v := .nilIface) (g := fun z => #[z, .agg #[.int .i64 kd, .int .i64 op, .slice pa la ca, .slice pk lk ck, .slice pc lc cc, .slice pq lq cq]]) (R := fun w' => L.cnt w' (s + zN + zA) ∧ But L.C w2 w') ?_ HO.out.callA ?_ ?_
    · rw [HTL.out, HCC.out]; exact HO.out.meA _ (fun p w => ⟨by kernel_rfl, by kernel_rfl⟩) w2
    · show Calls _ _ #[.pointer (some ⟨C, 0, none⟩), _] _ _
      rw [HCC.out]
      exact HC3.out w2 HB2.out (s + zN) HN2.out (by have := HD.out; omega)
    · rintro w3 ⟨hn3, hb3⟩
      have HN3 : Hid (L.cnt w3 (s + (zN + zA))) := by rw [← Nat.add_assoc]; exact hn3
      have HB3 : Hid (But L.C w w3) := HB2.out.trans hb3
      clear hn3 hb3
      go_wp2
      go_ret
      exact ⟨rfl, HN3.out, HB3.out⟩
end Go.Proofs.Ytkkkjhlbkmcjiaa.Tr
