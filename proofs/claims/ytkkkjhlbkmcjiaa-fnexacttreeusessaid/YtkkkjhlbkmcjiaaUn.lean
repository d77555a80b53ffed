/- The document's l6ElemUses, l6NetUses. Helper text: no statement is claimed here. -/
import Derived.Test.YtkkkjhlbkmcjiaaUj
namespace Go.Proofs.Ytkkkjhlbkmcjiaa.Tr
open Go.ChangeShapes Go.WideShapes Go.ChangeAt Go.RowKit

theorem eql_arg (a0 a1 a2 b0 b1 b2 : Int) (w : World) : (binOp .eql 33 (.agg #[.int .i64 a0, .int .i64 a1, .int .i64 a2]) (.agg #[.int .i64 b0, .int .i64 b1, .int .i64 b2])).run Try.prog w = .ok (.bool (eqAr (a0, a1, a2) (b0, b1, b2))) w := by
  by_cases h0 : a0 = b0
  · by_cases h1 : a1 = b1
    · by_cases h2 : a2 = b2
      · simp [go_sem, eqAr, h0, h1, h2]
      · simp [go_sem, eqAr, h0, h1, h2]
    · simp [go_sem, eqAr, h0, h1]
  · simp [go_sem, eqAr, h0]
/-- How often an operand stands among others, in a contact, a net. -/
def u1 (a y : Ar) : Nat := if eqAr y a then 1 else 0
def uE (a : Ar) (e : El) : Nat := tot (u1 a) e.2
def uN (a : Ar) : (n : Nat) → NT n → Nat
  | 0, _ => 0
  | n + 1, t => uE a t.el + tot (uN a n) t.kids
theorem u1_le (a y : Ar) : u1 a y ≤ 1 := by unfold u1; split <;> omega
theorem tot_ones {α : Type} : ∀ ts : List α, tot (fun _ => 1) ts = ts.length
  | [] => rfl
  | t :: ts => by rw [tot_cons, tot_ones ts, List.length_cons]; omega
theorem uE_le (a : Ar) (e : El) : uE a e ≤ zEl e := by
  have h := tot_mono e.2 (f := u1 a) (g := fun _ => 1) (fun y _ => u1_le a y)
  rw [tot_ones] at h
  exact h
theorem uN_le (a : Ar) : ∀ (n : Nat) (t : NT n), uN a n t ≤ zN n t
  | 0, t => Empty.elim t
  | n + 1, t => by
    have h1 := uE_le a t.el
    have h2 := tot_mono t.kids (f := uN a n) (g := zN n) (fun u _ => uN_le a n u)
    show uE a t.el + tot (uN a n) t.kids ≤ zEl t.el + (t.kids.length + tot (zN n) t.kids)
    omega
theorem uN_succ (a : Ar) (n : Nat) (t : NT (n + 1)) : uN a (n + 1) t = uE a t.el + tot (uN a n) t.kids := rfl
set_option maxHeartbeats 2000000 in
theorem sElemUses_any (k0 n0 m0 : Int) {S : Nat → Prop} {w : World} (hSw : ∀ b, S b → b < w.heap.size) (v : Value) (e : El) (hV : ElV S w v e) (hbd : zEl e ≤ 1048576) :
    Calls Try.prog 28 #[v, .agg #[.int .i64 k0, .int .i64 n0, .int .i64 m0]] w fun r w' => r = .returned (.int .i64 (uE (k0, n0, m0) e)) ∧ Below w.heap.size w w' := by
  obtain ⟨pa, ca, rfl, hA⟩ := hV
  obtain ⟨op, es⟩ := e
  have htot : tot (u1 (k0, n0, m0)) es ≤ 1048576 := Nat.le_trans (uE_le (k0, n0, m0) (op, es)) hbd
  show Calls _ _ #[.agg #[.int .i64 op, .slice pa es.length ca], _] _ fun r w' => r = .returned (.int .i64 ((tot (u1 (k0, n0, m0)) es : Nat) : Int)) ∧ _
  have HV : Hid (SlOf S (ArE w) 3 pa ca es) := hA
  have HSw : Hid (∀ b, S b → b < w.heap.size) := hSw
  replace hA : SlOf S (ArE w) 3 pa ca es := hA
  obtain ⟨⟨hl1, hl2⟩, -⟩ := hA
  clear hSw hbd
  obtain ⟨R, hR⟩ : ∃ R : Int, R = ((tot (u1 (k0, n0, m0)) es : Nat) : Int) := ⟨_, rfl⟩
  rw [← hR]
  have HR : Hid (R = ((tot (u1 (k0, n0, m0)) es : Nat) : Int)) := hR
  clear hR
  go_enter Try.func28, Try.ntmps28
  go_wp2
  obtain ⟨V, hVe⟩ : ∃ V, V = (w.alloc (.cells #[.int .i64 op, .slice pa es.length ca] 49)).alloc (.cells #[.int .i64 k0, .int .i64 n0, .int .i64 m0] 33) := ⟨_, rfl⟩
  have HBa : Hid (Below w.heap.size w V) := hVe ▸ two' _ _ _
  have HL1 : Hid (V.cell? ⟨w.heap.size, 1, none⟩ = some (.slice pa es.length ca)) := box1 hVe (by rw [World.cell?_alloc_mark]; rfl)
  have HA0 : Hid (V.cell? ⟨w.heap.size + 1, 0, none⟩ = some (.int .i64 k0)) := box2 hVe (by rw [World.cell?_alloc_mark]; rfl)
  have HA1 : Hid (V.cell? ⟨w.heap.size + 1, 1, none⟩ = some (.int .i64 n0)) := box2 hVe (by rw [World.cell?_alloc_mark]; rfl)
  have HA2 : Hid (V.cell? ⟨w.heap.size + 1, 2, none⟩ = some (.int .i64 m0)) := box2 hVe (by rw [World.cell?_alloc_mark]; rfl)
  rw [← hVe]
  clear hVe
  go_loopw [5, 6] (fun c d w' => ∃ j : Nat, j ≤ es.length ∧ c = .int .i64 ((tot (u1 (k0, n0, m0)) (es.take j) : Nat) : Int) ∧ d = .int .i64 (j : Int) ∧ Hid (Below V.heap.size V w')) (fun _ d _ => es.length - (intOf d).toNat)
  case atStart => exact ⟨0, by omega, rfl, rfl, Below.refl _ _⟩
  case round =>
    obtain ⟨j, hj, rfl, rfl, HB⟩ := hrel
    rename_i wr
    have HBw : Hid (Below w.heap.size w wr) := HBa.out.trans (HB.out.mono HBa.out.size)
    have b1 := keep2 HB.out HL1.out
    by_cases hlt : j < es.length
    · have hlt' : (j : Int) < (es.length : Int) := by omega
      obtain ⟨t, ht⟩ := get_lt hlt
      have hnx := tot_next (u1 (k0, n0, m0)) ht
      have hle := tot_le (u1 (k0, n0, m0)) es (j + 1)
      obtain ⟨b, off, rfl, hb, c0, c1, c2⟩ := (args_to (Keep.of HBw.out HSw.out) (fun _ h => h) HV.out).get ht
      obtain ⟨t0, t1, t2⟩ := t
      have z0 := cell_regrown c0
      have z1 := cell_regrown c1
      have z2 := cell_regrown c2
      have z3 := cell_regrown b1
      have z4 := cell_regrown (keep2 HB.out HA0.out)
      have z5 := cell_regrown (keep2 HB.out HA1.out)
      have z6 := cell_regrown (keep2 HB.out HA2.out)
      have hnq := eql_arg t0 t1 t2 k0 n0 m0
      clear ht
      generalize hT : tot (u1 (k0, n0, m0)) (es.take j) = T at *
      cases hq : eqAr (t0, t1, t2) (k0, n0, m0) with
      | true =>
        have hu : u1 (k0, n0, m0) (t0, t1, t2) = 1 := by unfold u1; rw [hq]; rfl
        rw [hq] at hnq
        rw [hu] at hnx
        clear hq hu HR
        go_wp2
        refine wp_region_quiet_below (by kernel_rfl) (by kernel_rfl) ?_
        repeat (first | go_big_quiet_step (fail) | quiet_step (fail))
        refine wpQuiet_nil ?_
        intro _ hw'
        obtain ⟨⟨dq, osq⟩, hw''⟩ := hw'
        subst hw''
        have HBq : Hid (Below V.heap.size V (Sort.grow (redrawn wr dq) osq)) := HB.out.trans ((below_regrown _ dq osq).mono HB.out.size)
        clear z0 z1 z2 z3 z4 z5 z6 c0 c1 c2 b1 hnq
        generalize Sort.grow (redrawn wr dq) osq = wq at *
        go_wp2
        exact ⟨⟨j + 1, by omega, by congr 1; omega, by go_num, HBq⟩, by simp [intOf]; omega⟩
      | false =>
        have hu : u1 (k0, n0, m0) (t0, t1, t2) = 0 := by unfold u1; rw [hq]; rfl
        rw [hq] at hnq
        rw [hu] at hnx
        clear hq hu HR
        go_wp2
        refine wp_region_quiet_below (by kernel_rfl) (by kernel_rfl) ?_
        repeat (first | go_big_quiet_step (fail) | quiet_step (fail))
        refine wpQuiet_nil ?_
        intro _ hw'
        obtain ⟨⟨dq, osq⟩, hw''⟩ := hw'
        subst hw''
        have HBq : Hid (Below V.heap.size V (Sort.grow (redrawn wr dq) osq)) := HB.out.trans ((below_regrown _ dq osq).mono HB.out.size)
        clear z0 z1 z2 z3 z4 z5 z6 c0 c1 c2 b1 hnq
        generalize Sort.grow (redrawn wr dq) osq = wq at *
        go_wp2
        exact ⟨⟨j + 1, by omega, by congr 1; omega, by go_num, HBq⟩, by simp [intOf]; omega⟩
    · obtain rfl : j = es.length := by omega
      have HR1 : Hid (R = ((tot (u1 (k0, n0, m0)) (es.take es.length) : Nat) : Int)) := by
        rw [List.take_length]
        exact HR.out
      generalize ((tot (u1 (k0, n0, m0)) (es.take es.length) : Nat) : Int) = L at *
      go_wp2
      go_ret
      exact ⟨by rw [HR1.out]; rfl, HBw.out⟩

def SuN (k0 n0 m0 : Int) (n : Nat) : Prop := ∀ (S : Nat → Prop) (w : World) (_ : ∀ b, S b → b < w.heap.size) (v : Value) (t : NT n) (_ : NtV S w n v t) (_ : zN n t ≤ 1048576),
    Calls Try.prog 27 #[v, .agg #[.int .i64 k0, .int .i64 n0, .int .i64 m0]] w fun r w' => r = .returned (.int .i64 (uN (k0, n0, m0) n t)) ∧ Below w.heap.size w w'
set_option maxHeartbeats 2000000 in
theorem sNetUses_next (k0 n0 m0 : Int) (n : Nat) (IH : SuN k0 n0 m0 n) : SuN k0 n0 m0 (n + 1) := by
  intro S w hSw v t hV hbd
  obtain ⟨pa, ca, pk, ck, rfl, hA, hK⟩ := hV
  have hun := uN_le (k0, n0, m0) (n + 1) t
  rw [uN_succ] at hun
  rw [zN_succ] at hbd hun
  rw [uN_succ]
  have HC1 : Hid (∀ W, Below w.heap.size w W → Calls Try.prog 28 #[.agg #[.int .i64 t.el.1, .slice pa t.el.2.length ca], .agg #[.int .i64 k0, .int .i64 n0, .int .i64 m0]] W fun r w' => r = .returned (.int .i64 (uE (k0, n0, m0) t.el)) ∧ Below W.heap.size W w') :=
    fun W hW => sElemUses_any k0 n0 m0 (S := S) (fun b hb => Nat.lt_of_lt_of_le (hSw b hb) hW.size) _ t.el ⟨pa, ca, rfl, args_to (Keep.of hW hSw) (fun _ h => h) hA⟩ (by omega)
  have HSw : Hid (∀ b, S b → b < w.heap.size) := hSw
  have HV : Hid (SlOf S (NtE S w n) 4 pk ck t.kids) := hK
  have HI : Hid (SuN k0 n0 m0 n) := IH
  obtain ⟨⟨hl1, hl2⟩, -⟩ := hK
  have HZ : Hid (zNs n t.kids ≤ 1048576) := Nat.le_trans (by omega) hbd
  have hsum : uE (k0, n0, m0) t.el + tot (uN (k0, n0, m0) n) t.kids ≤ 1048576 := by omega
  clear hSw hA hbd IH hun
  generalize uE (k0, n0, m0) t.el = z1 at *
  generalize t.kids = es at *
  generalize t.kind = kd at *
  generalize t.el.1 = op at *
  generalize t.el.2.length = la at *
  obtain ⟨R, hR⟩ : ∃ R : Int, R = ((z1 + tot (uN (k0, n0, m0) n) es : Nat) : Int) := ⟨_, rfl⟩
  rw [← hR]
  have HR : Hid (R = ((z1 + tot (uN (k0, n0, m0) n) es : Nat) : Int)) := hR
  clear hR
  go_enter Try.func27, Try.ntmps27
  go_wp2_with fail
  refine (HC1.out _ (two' _ _ _)).mono ?_
  rintro r V ⟨rfl, hb1⟩
  have HBa : Hid (Below w.heap.size w V) := of_two' hb1
  have HL1 : Hid (V.cell? ⟨w.heap.size, 3, none⟩ = some (.slice pk es.length ck)) := cell2' hb1 (by rw [World.cell?_alloc_mark]; rfl)
  have HA0 : Hid (V.cell? ⟨w.heap.size + 1, 0, none⟩ = some (.int .i64 k0)) := cell3' hb1 (by rw [World.cell?_alloc_mark]; rfl)
  have HA1 : Hid (V.cell? ⟨w.heap.size + 1, 1, none⟩ = some (.int .i64 n0)) := cell3' hb1 (by rw [World.cell?_alloc_mark]; rfl)
  have HA2 : Hid (V.cell? ⟨w.heap.size + 1, 2, none⟩ = some (.int .i64 m0)) := cell3' hb1 (by rw [World.cell?_alloc_mark]; rfl)
  clear hb1
  go_wp2
  go_loopw [5, 6] (fun c d w' => ∃ j : Nat, j ≤ es.length ∧ c = .int .i64 ((z1 + tot (uN (k0, n0, m0) n) (es.take j) : Nat) : Int) ∧ d = .int .i64 (j : Int) ∧ Hid (Below V.heap.size V w')) (fun _ d _ => es.length - (intOf d).toNat)
  case atStart => exact ⟨0, by omega, rfl, rfl, Below.refl _ _⟩
  case round =>
    obtain ⟨j, hj, rfl, rfl, HB⟩ := hrel
    rename_i wr
    have HBw : Hid (Below w.heap.size w wr) := HBa.out.trans (HB.out.mono HBa.out.size)
    have b1 := keep2 HB.out HL1.out
    by_cases hlt : j < es.length
    · have hlt' : (j : Int) < (es.length : Int) := by omega
      obtain ⟨t, ht⟩ := get_lt hlt
      have hnx := tot_next (uN (k0, n0, m0) n) ht
      have hle := tot_le (uN (k0, n0, m0) n) es (j + 1)
      obtain ⟨b, off, rfl, hb, hE⟩ := (nets_to (Keep.of HBw.out HSw.out) (fun _ h => h) HV.out).get ht
      obtain ⟨kd1, op1, pa1, la1, ca1, pk1, lk1, ck1, c0, c1, c2, c3, hN⟩ := hE.out
      have HE : Hid (NtV S wr n (.agg #[.int .i64 kd1, .int .i64 op1, .slice pa1 la1 ca1, .slice pk1 lk1 ck1]) t) := hN
      have HG : Hid (∀ (d : Nat) (os : Array Obj), Calls Try.prog 27 #[.agg #[.int .i64 kd1, .int .i64 op1, .slice pa1 la1 ca1, .slice pk1 lk1 ck1], .agg #[.int .i64 k0, .int .i64 n0, .int .i64 m0]] (Sort.grow (redrawn wr d) os) fun e w'' => e = .returned (.int .i64 (uN (k0, n0, m0) n t)) ∧ ∃ p' : Regrown, w'' = Sort.grow (redrawn wr p'.d) p'.os) := fun d os =>
        Calls.regrown_of (HI.out S _ (fun b hb => Nat.lt_of_lt_of_le (HSw.out b hb) (Nat.le_trans HBw.out.size (below_regrown wr d os).size)) _ t
          (HE.out.to (Keep.of (below_regrown wr d os) (fun b hb => Nat.lt_of_lt_of_le (HSw.out b hb) HBw.out.size)) (fun _ h => h)) (by have := tot_get (zN n) ht; have := HZ.out; unfold zNs at this; omega))
      have z0 := cell_regrown c0
      have z2 := cell_regrown c1
      have z3 := cell_regrown c2
      have z4 := cell_regrown c3
      have z5 := cell_regrown b1
      have z6 := cell_regrown (keep2 HB.out HA0.out)
      have z7 := cell_regrown (keep2 HB.out HA1.out)
      have z8 := cell_regrown (keep2 HB.out HA2.out)
      clear ht hN hE HR
      generalize hT : tot (uN (k0, n0, m0) n) (es.take j) = T at *
      generalize hU : uN (k0, n0, m0) n t = U at *
      have hwr : IntKind.i64.wrap (((z1 + T : Nat) : Int) + (U : Int)) = ((z1 + T : Nat) : Int) + (U : Int) := by rw [IntKind.wrap_i64]; omega
      generalize hZT : ((z1 + T : Nat) : Int) = ZT at *
      go_wp2
      refine wp_region_quiet_below (by kernel_rfl) (by kernel_rfl) ?_
      repeat (first | go_big_quiet_step (exact HG.out _ _) | quiet_step (exact HG.out _ _))
      refine wpQuiet_nil ?_
      intro _ hw'
      obtain ⟨⟨dq, osq⟩, hw''⟩ := hw'
      subst hw''
      have HBq : Hid (Below V.heap.size V (Sort.grow (redrawn wr dq) osq)) := HB.out.trans ((below_regrown _ dq osq).mono HB.out.size)
      clear z0 z2 z3 z4 z5 z6 z7 z8 c0 c1 c2 c3 b1 HG hwr
      generalize Sort.grow (redrawn wr dq) osq = wq at *
      go_wp2
      exact ⟨⟨j + 1, by omega, by congr 1; omega, by go_num, HBq⟩, by simp [intOf]; omega⟩
    · obtain rfl : j = es.length := by omega
      have HR1 : Hid (R = ((z1 + tot (uN (k0, n0, m0) n) (es.take es.length) : Nat) : Int)) := by
        rw [List.take_length]
        exact HR.out
      generalize ((z1 + tot (uN (k0, n0, m0) n) (es.take es.length) : Nat) : Int) = L at *
      go_wp2
      go_ret
      exact ⟨by rw [HR1.out]; rfl, HBw.out⟩
theorem sNetUses_any (k0 n0 m0 : Int) : ∀ n, SuN k0 n0 m0 n
  | 0 => fun _ _ _ _ _ h => h.elim
  | n + 1 => sNetUses_next k0 n0 m0 n (sNetUses_any k0 n0 m0 n)
end Go.Proofs.Ytkkkjhlbkmcjiaa.Tr
