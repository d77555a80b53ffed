/- The document's TreeUses. Helper text: no statement is claimed here. -/
import Derived.Test.YtkkkjhlbkmcjiaaUn
namespace Go.Proofs.Ytkkkjhlbkmcjiaa.Tr
open Go.ChangeShapes Go.WideShapes Go.ChangeAt Go.RowKit

/-- How often an operand stands in an arm. -/
def uA (a : Ar) (k : Nat) : (n : Nat) → AT k n → Nat
  | 0, _ => 0
  | n + 1, t => uN a (k + 1) t.net + tot (uE a) t.coils + tot (uA a k n) t.kids
theorem uA_succ (a : Ar) (k n : Nat) (t : AT k (n + 1)) : uA a k (n + 1) t = uN a (k + 1) t.net + tot (uE a) t.coils + tot (uA a k n) t.kids := rfl
theorem uA_le (a : Ar) (k : Nat) : ∀ (n : Nat) (t : AT k n), uA a k n t ≤ zA k n t
  | 0, t => Empty.elim t
  | n + 1, t => by
    have h1 := uN_le a (k + 1) t.net
    have h2 := tot_mono t.coils (f := uE a) (g := zEl) (fun u _ => uE_le a u)
    have h3 := tot_mono t.kids (f := uA a k n) (g := zA k n) (fun u _ => uA_le a k n u)
    show uN a (k + 1) t.net + tot (uE a) t.coils + tot (uA a k n) t.kids ≤ zN (k + 1) t.net + (t.coils.length + tot zEl t.coils) + (t.kids.length + tot (zA k n) t.kids)
    omega
theorem uAs_le (a : Ar) (k n : Nat) (es : List (AT k n)) : tot (uA a k n) es ≤ zAs k n es := by
  have h := tot_mono es (f := uA a k n) (g := zA k n) (fun u _ => uA_le a k n u)
  unfold zAs
  omega
def SuT (k0 n0 m0 : Int) (k n : Nat) : Prop := ∀ (S : Nat → Prop) (w : World) (_ : ∀ b, S b → b < w.heap.size) (p : Option Addr) (cap : Nat) (es : List (AT k n)) (_ : SlOf S (AmE S w k n) 6 p cap es) (_ : zAs k n es ≤ 1048576),
    Calls Try.prog 13 #[.slice p es.length cap, .agg #[.int .i64 k0, .int .i64 n0, .int .i64 m0]] w fun r w' => r = .returned (.int .i64 (tot (uA (k0, n0, m0) k n) es)) ∧ Below w.heap.size w w'
/-- A call inside a region that draws, from a contract of every later world. -/
theorem regrow_call {f : FuncId} {args : Array Value} {v : Value} {w wr : World} (hB : Below w.heap.size w wr) (h : ∀ W, Below w.heap.size w W → Calls Try.prog f args W fun r w' => r = .returned v ∧ Below W.heap.size W w') (d : Nat) (os : Array Obj) :
    Calls Try.prog f args (Sort.grow (redrawn wr d) os) fun e w'' => e = .returned v ∧ ∃ p' : Regrown, w'' = Sort.grow (redrawn wr p'.d) p'.os :=
  Calls.regrown_of (h _ (hB.trans ((below_regrown wr d os).mono hB.size)))
set_option maxHeartbeats 4000000 in
theorem sUses_of (k0 n0 m0 : Int) (k n : Nat) (IH : ∀ n', n = n' + 1 → SuT k0 n0 m0 k n') : SuT k0 n0 m0 k n := by
  intro S w hSw p cap es hV hz
  have htu := uAs_le (k0, n0, m0) k n es
  have htu2 : tot (uA (k0, n0, m0) k n) es ≤ 1048576 := Nat.le_trans htu hz
  have HV : Hid (SlOf S (AmE S w k n) 6 p cap es) := hV
  have HSw : Hid (∀ b, S b → b < w.heap.size) := hSw
  have HI : Hid (∀ n', n = n' + 1 → SuT k0 n0 m0 k n') := IH
  have HZ : Hid (zAs k n es ≤ 1048576) := hz
  obtain ⟨⟨hl1, hl2⟩, -⟩ := hV
  clear hSw IH hz htu
  obtain ⟨R, hR⟩ : ∃ R : Int, R = ((tot (uA (k0, n0, m0) k n) es : Nat) : Int) := ⟨_, rfl⟩
  rw [← hR]
  have HR : Hid (R = ((tot (uA (k0, n0, m0) k n) es : Nat) : Int)) := hR
  clear hR
  go_enter Try.func13, Try.ntmps13
  go_wp2
  have HBa : Hid (Below w.heap.size w (w.alloc (.cells #[.int .i64 k0, .int .i64 n0, .int .i64 m0] 33))) := one _ _
  have HOw : Hid ((w.alloc (.cells #[.int .i64 k0, .int .i64 n0, .int .i64 m0] 33)).heap[w.heap.size]? = some (.cells #[.int .i64 k0, .int .i64 n0, .int .i64 m0] 33 (0, 0))) := last _ _
  generalize w.alloc (.cells #[.int .i64 k0, .int .i64 n0, .int .i64 m0] 33) = V at *
  have HA0 : Hid (V.cell? ⟨w.heap.size, 0, none⟩ = some (.int .i64 k0)) := cell_of_row _ _ 0 _ _ _ HOw.out
  have HA1 : Hid (V.cell? ⟨w.heap.size, 1, none⟩ = some (.int .i64 n0)) := cell_of_row _ _ 1 _ _ _ HOw.out
  have HA2 : Hid (V.cell? ⟨w.heap.size, 2, none⟩ = some (.int .i64 m0)) := cell_of_row _ _ 2 _ _ _ HOw.out
  clear HOw
  go_loopw [5, 6] (fun c d w' => ∃ j : Nat, j ≤ es.length ∧ c = .int .i64 ((tot (uA (k0, n0, m0) k n) (es.take j) : Nat) : Int) ∧ d = .int .i64 (j : Int) ∧ Hid (Below V.heap.size V w')) (fun _ d _ => es.length - (intOf d).toNat)
  case atStart => exact ⟨0, by omega, rfl, rfl, Below.refl _ _⟩
  case round =>
    obtain ⟨j, hj, rfl, rfl, HB⟩ := hrel
    rename_i wr
    have HBw : Hid (Below w.heap.size w wr) := HBa.out.trans (HB.out.mono HBa.out.size)
    by_cases hlt : j < es.length
    · have hlt' : (j : Int) < (es.length : Int) := by omega
      obtain ⟨t, ht⟩ := get_lt hlt
      have hnx := tot_next (uA (k0, n0, m0) k n) ht
      have hle := tot_le (uA (k0, n0, m0) k n) es (j + 1)
      have hzt : zA k n t ≤ 1048576 := by have := tot_get (zA k n) ht; have := HZ.out; unfold zAs at this; omega
      obtain ⟨b, off, rfl, hb, hE⟩ := HV.out.get ht
      obtain ⟨n', rfl⟩ : ∃ n', n = n' + 1 := by
        cases n with
        | zero => exact hE.elim
        | succ n' => exact ⟨n', rfl⟩
      obtain ⟨hNt, pc, cc, pq, cq, e4, e5, hCo, hKi⟩ := hE
      obtain ⟨kd1, op1, pa1, la1, ca1, pk1, lk1, ck1, e0, e1, e2, e3, hNv⟩ := hNt.out
      rw [zA_succ] at hzt
      rw [uA_succ] at hnx
      have hbw : b < w.heap.size := HSw.out b hb
      have HK : Hid (∀ W i v, Below w.heap.size w W → w.cell? ⟨b, i, none⟩ = some v → W.cell? ⟨b, i, none⟩ = some v) := fun W i v hW hv => (hW.cell (p := ⟨b, i, none⟩) hbw).trans hv
      have HG1 : Hid (∀ W, Below w.heap.size w W → Calls Try.prog 27 #[.agg #[.int .i64 kd1, .int .i64 op1, .slice pa1 la1 ca1, .slice pk1 lk1 ck1], .agg #[.int .i64 k0, .int .i64 n0, .int .i64 m0]] W fun r w' => r = .returned (.int .i64 (uN (k0, n0, m0) (k + 1) t.net)) ∧ Below W.heap.size W w') :=
        fun W hW => sNetUses_any k0 n0 m0 (k + 1) S W (fun b hb => Nat.lt_of_lt_of_le (HSw.out b hb) hW.size) _ t.net (hNv.to (Keep.of hW HSw.out) (fun _ h => h)) (by omega)
      have HG3 : Hid (∀ W, Below w.heap.size w W → Calls Try.prog 13 #[.slice pq t.kids.length cq, .agg #[.int .i64 k0, .int .i64 n0, .int .i64 m0]] W fun r w' => r = .returned (.int .i64 (tot (uA (k0, n0, m0) k n') t.kids)) ∧ Below W.heap.size W w') :=
        fun W hW => HI.out n' rfl S W (fun b hb => Nat.lt_of_lt_of_le (HSw.out b hb) hW.size) pq cq t.kids (arms_to (Keep.of hW HSw.out) (fun _ h => h) hKi) (by omega)
      have HCo : Hid (SlOf S (ElE S w) 2 pc cc t.coils) := hCo
      have HEz : Hid (tot zEl t.coils ≤ 1048576) := by show _ ≤ _; unfold zEls at hzt; omega
      obtain ⟨⟨hk1, hk2⟩, -⟩ := hCo
      have HE4 : Hid (w.cell? ⟨b, off + j * 6 + 4, none⟩ = some (.slice pc t.coils.length cc)) := e4
      have HE5 : Hid (w.cell? ⟨b, off + j * 6 + 5, none⟩ = some (.slice pq t.kids.length cq)) := e5
      have z0 := cell_regrown (HK.out wr _ _ HBw.out e0)
      have z1 := cell_regrown (HK.out wr _ _ HBw.out e1)
      have z2 := cell_regrown (HK.out wr _ _ HBw.out e2)
      have z3 := cell_regrown (HK.out wr _ _ HBw.out e3)
      have z6 := cell_regrown (keep2 HB.out HA0.out)
      have z7 := cell_regrown (keep2 HB.out HA1.out)
      have z8 := cell_regrown (keep2 HB.out HA2.out)
      clear ht hNv hNt hKi e0 e1 e2 e3 e4 e5 HR hzt
      generalize hT : tot (uA (k0, n0, m0) k (n' + 1)) (es.take j) = T at *
      generalize hU : uN (k0, n0, m0) (k + 1) t.net = U at *
      generalize hX : tot (uA (k0, n0, m0) k n') t.kids = X at *
      generalize hCs : t.coils = cs at *
      clear hCs
      generalize t.kids.length = lq at *
      have HG : Hid (∀ (d : Nat) (os : Array Obj), Calls Try.prog 27 #[.agg #[.int .i64 kd1, .int .i64 op1, .slice pa1 la1 ca1, .slice pk1 lk1 ck1], .agg #[.int .i64 k0, .int .i64 n0, .int .i64 m0]] (Sort.grow (redrawn wr d) os) fun e w'' => e = .returned (.int .i64 (U : Int)) ∧ ∃ p' : Regrown, w'' = Sort.grow (redrawn wr p'.d) p'.os) := fun d os => regrow_call HBw.out HG1.out d os
      have hwr : IntKind.i64.wrap ((T : Int) + (U : Int)) = (T : Int) + (U : Int) := by rw [IntKind.wrap_i64]; omega
      go_wp2
      refine wp_region_quiet_below (by kernel_rfl) (by kernel_rfl) ?_
      repeat (first | go_big_quiet_step (exact HG.out _ _) | quiet_step (exact HG.out _ _))
      refine wpQuiet_nil ?_
      intro _ hw'
      obtain ⟨⟨dq, osq⟩, hw''⟩ := hw'
      subst hw''
      have HB2 : Hid (Below V.heap.size V (Sort.grow (redrawn wr dq) osq)) := HB.out.trans ((below_regrown _ dq osq).mono HB.out.size)
      clear z0 z1 z2 z3 z6 z7 z8 HG HG1 hwr HB HBw
      generalize Sort.grow (redrawn wr dq) osq = w2 at *
      have HB2w : Hid (Below w.heap.size w w2) := HBa.out.trans (HB2.out.mono HBa.out.size)
      have hTU : ((T : Int) + (U : Int)) = ((T + U + tot (uE (k0, n0, m0)) (cs.take 0) : Nat) : Int) := by simp [tot]
      go_wp2
      go_loopw [5, 7] (fun c d w' => ∃ (i : Nat) (W : World), W = w' ∧ i ≤ cs.length ∧ c = .int .i64 ((T + U + tot (uE (k0, n0, m0)) (cs.take i) : Nat) : Int) ∧ d = .int .i64 (i : Int) ∧ Hid (Below V.heap.size V W)) (fun _ d _ => cs.length - (intOf d).toNat)
      case atStart => exact ⟨0, _, rfl, by omega, by rw [← hTU], rfl, HB2⟩
      case round =>
        clear HB2 HB2w hTU
        obtain ⟨i, ws, rfl, hi, rfl, rfl, HBs⟩ := hrel
        have HBsw : Hid (Below w.heap.size w ws) := HBa.out.trans (HBs.out.mono HBa.out.size)
        have y4 := HK.out ws _ _ HBsw.out HE4.out
        by_cases hil : i < cs.length
        · have hil' : (i : Int) < (cs.length : Int) := by omega
          obtain ⟨e, he⟩ := get_lt hil
          have hen := tot_next (uE (k0, n0, m0)) he
          have hel := tot_le (uE (k0, n0, m0)) cs (i + 1)
          obtain ⟨b2, off2, rfl, hb2, pa2, ca2, f0, f1, hAe⟩ := (els_to (Keep.of HBsw.out HSw.out) (fun _ h => h) HCo.out).get he
          have HAe : Hid (SlOf S (ArE ws) 3 pa2 ca2 e.2) := hAe
          have HG : Hid (∀ (d : Nat) (os : Array Obj), Calls Try.prog 28 #[.agg #[.int .i64 e.1, .slice pa2 e.2.length ca2], .agg #[.int .i64 k0, .int .i64 n0, .int .i64 m0]] (Sort.grow (redrawn ws d) os) fun e' w'' => e' = .returned (.int .i64 (uE (k0, n0, m0) e)) ∧ ∃ p' : Regrown, w'' = Sort.grow (redrawn ws p'.d) p'.os) := fun d os =>
            Calls.regrown_of (sElemUses_any k0 n0 m0 (S := S) (fun b hb => Nat.lt_of_lt_of_le (HSw.out b hb) (Nat.le_trans HBsw.out.size (below_regrown ws d os).size)) _ e ⟨pa2, ca2, rfl, args_to (Keep.of (below_regrown ws d os) (fun b hb => Nat.lt_of_lt_of_le (HSw.out b hb) HBsw.out.size)) (fun _ h => h) HAe.out⟩ (Nat.le_trans (tot_get zEl he) HEz.out))
          have z0 := cell_regrown f0
          have z1 := cell_regrown f1
          have z4 := cell_regrown y4
          have z6 := cell_regrown (keep2 HBs.out HA0.out)
          have z7 := cell_regrown (keep2 HBs.out HA1.out)
          have z8 := cell_regrown (keep2 HBs.out HA2.out)
          clear he hAe HG3
          generalize hY : tot (uE (k0, n0, m0)) (cs.take i) = Y at *
          generalize hE1 : uE (k0, n0, m0) e = E1 at *
          have hwr : IntKind.i64.wrap (((T + U + Y : Nat) : Int) + (E1 : Int)) = ((T + U + Y : Nat) : Int) + (E1 : Int) := by rw [IntKind.wrap_i64]; omega
          generalize hZT : ((T + U + Y : Nat) : Int) = ZT at *
          go_wp2
          refine wp_region_quiet_below (by kernel_rfl) (by kernel_rfl) ?_
          repeat (first | go_big_quiet_step (exact HG.out _ _) | quiet_step (exact HG.out _ _))
          refine wpQuiet_nil ?_
          intro _ hw'
          obtain ⟨⟨dq, osq⟩, hw''⟩ := hw'
          subst hw''
          have HB3 : Hid (Below V.heap.size V (Sort.grow (redrawn ws dq) osq)) := HBs.out.trans ((below_regrown _ dq osq).mono HBs.out.size)
          clear z0 z1 z4 z6 z7 z8 HG hwr y4 f0 f1
          generalize Sort.grow (redrawn ws dq) osq = w3 at *
          go_wp2
          exact ⟨⟨i + 1, _, rfl, by omega, by congr 1; omega, by go_num, HB3⟩, by simp [intOf]; omega⟩
        · obtain ⟨ii, hii⟩ : ∃ ii : Nat, ii = cs.length := ⟨_, rfl⟩
          have hie : i = cs.length := by omega
          have HTc : Hid (tot (uE (k0, n0, m0)) (cs.take i) = tot (uE (k0, n0, m0)) cs) := by show _ = _; rw [hie, List.take_length]
          have hil' : ¬ (i : Int) < (cs.length : Int) := by omega
          have y5 := HK.out ws _ _ HBsw.out HE5.out
          have HG : Hid (∀ (d : Nat) (os : Array Obj), Calls Try.prog 13 #[.slice pq lq cq, .agg #[.int .i64 k0, .int .i64 n0, .int .i64 m0]] (Sort.grow (redrawn ws d) os) fun e w'' => e = .returned (.int .i64 (X : Int)) ∧ ∃ p' : Regrown, w'' = Sort.grow (redrawn ws p'.d) p'.os) := fun d os => regrow_call HBsw.out HG3.out d os
          have z5 := cell_regrown y5
          have z6 := cell_regrown (keep2 HBs.out HA0.out)
          have z7 := cell_regrown (keep2 HBs.out HA1.out)
          have z8 := cell_regrown (keep2 HBs.out HA2.out)
          have hYe := HTc.out
          generalize hY : tot (uE (k0, n0, m0)) (cs.take i) = Y at *
          clear ii hii hie
          have hwr : IntKind.i64.wrap (((T + U + Y : Nat) : Int) + (X : Int)) = ((T + U + Y : Nat) : Int) + (X : Int) := by rw [IntKind.wrap_i64]; omega
          have HYe : Hid (Y = tot (uE (k0, n0, m0)) cs) := hYe
          clear hYe HTc hY
          generalize hZT : ((T + U + Y : Nat) : Int) = ZT at *
          go_wp2
          refine wp_region_quiet_below (by kernel_rfl) (by kernel_rfl) ?_
          repeat (first | go_big_quiet_step (exact HG.out _ _) | quiet_step (exact HG.out _ _))
          refine wpQuiet_nil ?_
          intro _ hw'
          obtain ⟨⟨dq, osq⟩, hw''⟩ := hw'
          subst hw''
          have HB4 : Hid (Below V.heap.size V (Sort.grow (redrawn ws dq) osq)) := HBs.out.trans ((below_regrown _ dq osq).mono HBs.out.size)
          clear z5 z6 z7 z8 HG hwr y4 y5
          generalize Sort.grow (redrawn ws dq) osq = w4 at *
          go_wp2
          exact ⟨⟨j + 1, by omega, by congr 1; have := HYe.out; omega, by go_num, HB4⟩, by simp [intOf]; omega⟩
    · obtain rfl : j = es.length := by omega
      have HR1 : Hid (R = ((tot (uA (k0, n0, m0) k n) (es.take es.length) : Nat) : Int)) := by
        rw [List.take_length]
        exact HR.out
      generalize ((tot (uA (k0, n0, m0) k n) (es.take es.length) : Nat) : Int) = L at *
      go_wp2
      go_ret
      exact ⟨by rw [HR1.out]; rfl, HBw.out⟩
theorem sTreeUses_any (k0 n0 m0 : Int) (k : Nat) : ∀ n, SuT k0 n0 m0 k n
  | 0 => sUses_of k0 n0 m0 k 0 (fun _ h => by omega)
  | n + 1 => sUses_of k0 n0 m0 k (n + 1) (fun n' h => by
      obtain rfl : n = n' := by omega
      exact sTreeUses_any k0 n0 m0 k n)
end Go.Proofs.Ytkkkjhlbkmcjiaa.Tr
