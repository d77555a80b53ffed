/- The program's TreeUses: the look that counts an operand. Helper text: no statement is claimed here. -/
import Derived.Test.YtkkkjhlbkmcjiaaQw
import Derived.Test.YtkkkjhlbkmcjiaaUp
namespace Go.Proofs.Ytkkkjhlbkmcjiaa.Tr
open Go.ChangeShapes Go.WideShapes Go.ChangeAt Go.RowKit

/-- The count of an operand. -/
def UsesAt (C : Nat) (k0 n0 m0 : Int) (w : World) (s : Nat) : Prop := w.heap[C]? = some (.cells #[.int .i64 k0, .int .i64 n0, .int .i64 m0, .int .i64 (s : Int)] 72 (0, 0))
theorem UsesAt.lt {C : Nat} {k0 n0 m0 : Int} {w : World} {s : Nat} (h : UsesAt C k0 n0 m0 w s) : C < w.heap.size := (Array.getElem?_eq_some_iff.1 h).1
theorem UsesAt.to {C : Nat} {k0 n0 m0 : Int} {w w' : World} {s : Nat} (h : UsesAt C k0 n0 m0 w s) (hb : Below w.heap.size w w') : UsesAt C k0 n0 m0 w' s := (hb.block C h.lt).trans h
theorem UsesAt.put {C : Nat} {k0 n0 m0 : Int} {w : World} {s : Nat} (h : UsesAt C k0 n0 m0 w s) : UsesAt C k0 n0 m0 (w.setCell ⟨C, 3, none⟩ (.int .i64 ((s : Int) + 1))) (s + 1) := by
  have := heap_setCell_same w C 3 _ 72 (.int .i64 ((s : Int) + 1)) h
  simpa [UsesAt] using this
set_option maxHeartbeats 3000000 in
theorem ucount_any (C : Nat) (k0 n0 m0 : Int) (S : Nat → Prop) (w : World) (hS : Apart C S w) (p : Option Addr) (cap : Nat) (es : List El) (hV : SlOf S (ElE S w) 2 p cap es) (s : Nat) (hs : UsesAt C k0 n0 m0 w s) (hbd : s + tot (uE (k0, n0, m0)) es ≤ 9223372036854775807) :
    Calls Try.prog 80 #[.pointer (some ⟨C, 0, none⟩), .slice p es.length cap] w fun r w' => r = .returned (.tuple #[]) ∧ UsesAt C k0 n0 m0 w' (s + tot (uE (k0, n0, m0)) es) ∧ But C w w' := by
  have HS : Hid (Apart C S w) := hS
  have HV : Hid (SlOf S (ElE S w) 2 p cap es) := hV
  have HN : Hid (UsesAt C k0 n0 m0 w s) := hs
  have HD : Hid (s + tot (uE (k0, n0, m0)) es ≤ 9223372036854775807) := hbd
  obtain ⟨⟨hl1, hl2⟩, -⟩ := hV
  clear hS hs hbd
  go_enter Try.func80, Try.ntmps80
  go_wp2
  go_loopw [10] (fun d w' => ∃ j : Nat, j ≤ es.length ∧ d = .int .i64 (j : Int) ∧ Hid (UsesAt C k0 n0 m0 w' (s + tot (uE (k0, n0, m0)) (es.take j))) ∧ Hid (But C w w')) (fun d _ => es.length - (intOf d).toNat)
  case atStart => exact ⟨0, by omega, rfl, HN, But.refl _ _⟩
  case round =>
    obtain ⟨j, hj, rfl, HNj, HB⟩ := hrel
    rename_i wr
    by_cases hlt : j < es.length
    · have hlt' : (j : Int) < (es.length : Int) := by omega
      obtain ⟨t, ht⟩ := get_lt hlt
      have HT1 : Hid (tot (uE (k0, n0, m0)) (es.take (j + 1)) = tot (uE (k0, n0, m0)) (es.take j) + uE (k0, n0, m0) t) := tot_next (uE (k0, n0, m0)) ht
      have HT2 : Hid (tot (uE (k0, n0, m0)) (es.take (j + 1)) ≤ tot (uE (k0, n0, m0)) es) := tot_le (uE (k0, n0, m0)) es (j + 1)
      obtain ⟨b, off, rfl, hb, pa, ca, c0, c1, hA⟩ := (els_to (HB.out.keep HS.out) (fun _ h => h) HV.out).get ht
      have hbl : b < wr.heap.size := World.block_lt_of_cell? _ _ c0
      have HAr : Hid (SlOf S (ArE wr) 3 pa ca t.2) := hA
      have HA : Hid (Apart C S wr) := HS.out.to HB.out.size
      obtain ⟨⟨hk1, hk2⟩, -⟩ := hA
      have HEd : Hid (uE (k0, n0, m0) t = tot (u1 (k0, n0, m0)) t.2) := rfl
      clear ht
      generalize t.1 = op at *
      generalize t.2 = ys at *
      go_wp2
      have HBa : Hid (But C wr (wr.alloc (.cells #[.int .i64 op, .slice pa ys.length ca] 49))) := But.of (one _ _)
      have HNa : Hid (UsesAt C k0 n0 m0 (wr.alloc (.cells #[.int .i64 op, .slice pa ys.length ca] 49)) (s + tot (uE (k0, n0, m0)) (es.take j))) := HNj.out.to (one _ _)
      generalize wr.alloc (.cells #[.int .i64 op, .slice pa ys.length ca] 49) = V at *
      clear c0 c1
      generalize hT : tot (uE (k0, n0, m0)) (es.take j) = T at *
      go_loopw [17] (fun d w' => ∃ (i : Nat) (W : World), W = w' ∧ i ≤ ys.length ∧ d = .int .i64 (i : Int) ∧ Hid (UsesAt C k0 n0 m0 W (s + T + tot (u1 (k0, n0, m0)) (ys.take i))) ∧ Hid (But C wr W)) (fun d _ => ys.length - (intOf d).toNat)
      case atStart => exact ⟨0, _, rfl, by omega, rfl, HNa, HBa⟩
      case round =>
        clear HNa HBa
        obtain ⟨i, ws, rfl, hi, rfl, HNi, HBi⟩ := hrel
        by_cases hil : i < ys.length
        · have hil' : (i : Int) < (ys.length : Int) := by omega
          obtain ⟨y, hy⟩ := get_lt hil
          have HY1 : Hid (tot (u1 (k0, n0, m0)) (ys.take (i + 1)) = tot (u1 (k0, n0, m0)) (ys.take i) + u1 (k0, n0, m0) y) := tot_next (u1 (k0, n0, m0)) hy
          have HY2 : Hid (tot (u1 (k0, n0, m0)) (ys.take (i + 1)) ≤ tot (u1 (k0, n0, m0)) ys) := tot_le (u1 (k0, n0, m0)) ys (i + 1)
          obtain ⟨b2, off2, rfl, hb2, d0, d1, d2⟩ := (args_to (HBi.out.keep HA.out) (fun _ h => h) HAr.out).get hy
          have hbl2 : b2 < ws.heap.size := World.block_lt_of_cell? _ _ d0
          obtain ⟨y0, y1, y2⟩ := y
          clear hy
          have hnq := eql_arg y0 y1 y2 k0 n0 m0
          have hCl : C < ws.heap.size := HNi.out.lt
          go_wp2
          have HBb : Hid (But C wr (ws.alloc (.cells #[.int .i64 y0, .int .i64 y1, .int .i64 y2] 33))) := HBi.out.trans (But.of (one _ _))
          have HNb : Hid (UsesAt C k0 n0 m0 (ws.alloc (.cells #[.int .i64 y0, .int .i64 y1, .int .i64 y2] 33)) (s + T + tot (u1 (k0, n0, m0)) (ys.take i))) := HNi.out.to (one _ _)
          have HOw : Hid ((ws.alloc (.cells #[.int .i64 y0, .int .i64 y1, .int .i64 y2] 33)).heap[ws.heap.size]? = some (.cells #[.int .i64 y0, .int .i64 y1, .int .i64 y2] 33 (0, 0))) := last _ _
          generalize ws.alloc (.cells #[.int .i64 y0, .int .i64 y1, .int .i64 y2] 33) = X at *
          have x0 : X.cell? ⟨ws.heap.size, 0, none⟩ = some (.int .i64 y0) := cell_of_row _ _ 0 _ _ _ HOw.out
          have x1 : X.cell? ⟨ws.heap.size, 1, none⟩ = some (.int .i64 y1) := cell_of_row _ _ 1 _ _ _ HOw.out
          have x2 : X.cell? ⟨ws.heap.size, 2, none⟩ = some (.int .i64 y2) := cell_of_row _ _ 2 _ _ _ HOw.out
          have w0 : X.cell? ⟨C, 0, none⟩ = some (.int .i64 k0) := cell_of_row _ _ 0 _ _ _ HNb.out
          have w1 : X.cell? ⟨C, 1, none⟩ = some (.int .i64 n0) := cell_of_row _ _ 1 _ _ _ HNb.out
          have w2 : X.cell? ⟨C, 2, none⟩ = some (.int .i64 m0) := cell_of_row _ _ 2 _ _ _ HNb.out
          have z0 := cell_regrown x0
          have z1 := cell_regrown x1
          have z2 := cell_regrown x2
          have z3 := cell_regrown w0
          have z4 := cell_regrown w1
          have z5 := cell_regrown w2
          clear d0 d1 d2 HOw
          cases hq : eqAr (y0, y1, y2) (k0, n0, m0) with
          | true =>
            have hu : u1 (k0, n0, m0) (y0, y1, y2) = 1 := by unfold u1; rw [hq]; rfl
            rw [hq] at hnq
            rw [hu] at HY1
            clear hq hu
            refine wp_region_quiet_below (by kernel_rfl) (by kernel_rfl) ?_
            repeat (first | go_big_quiet_step (fail) | quiet_step (fail))
            refine wpQuiet_nil ?_
            intro _ hw'
            obtain ⟨⟨dq, osq⟩, hw''⟩ := hw'
            subst hw''
            have HBq : Hid (But C wr (Sort.grow (redrawn X dq) osq)) := HBb.out.trans (But.of (below_regrown _ dq osq))
            have HNq : Hid (UsesAt C k0 n0 m0 (Sort.grow (redrawn X dq) osq) (s + T + tot (u1 (k0, n0, m0)) (ys.take i))) := HNb.out.to (below_regrown _ dq osq)
            clear z0 z1 z2 z3 z4 z5 x0 x1 x2 w0 w1 w2 hnq
            generalize Sort.grow (redrawn X dq) osq = Xq at *
            have v3 : Xq.cell? ⟨C, 3, none⟩ = some (.int .i64 ((s + T + tot (u1 (k0, n0, m0)) (ys.take i) : Nat) : Int)) := cell_of_row _ _ 3 _ _ _ HNq.out
            have f3 := frozen_of_row _ _ 3 _ _ HNq.out
            have HNp := HNq.out.put
            have hsm : s + T + tot (u1 (k0, n0, m0)) (ys.take i) + 1 ≤ 9223372036854775807 := by
              have h1 := HD.out
              have h2 := HT1.out
              have h3 := HT2.out
              have h4 := HEd.out
              have h5 := HY1.out
              have h6 := HY2.out
              omega
            have HN2 : Hid (UsesAt C k0 n0 m0 (Xq.setCell ⟨C, 3, none⟩ (.int .i64 (((s + T + tot (u1 (k0, n0, m0)) (ys.take i) : Nat) : Int) + 1))) (s + T + tot (u1 (k0, n0, m0)) (ys.take (i + 1)))) := by
              have e : s + T + tot (u1 (k0, n0, m0)) (ys.take (i + 1)) = s + T + tot (u1 (k0, n0, m0)) (ys.take i) + 1 := by have := HY1.out; omega
              rw [e]; exact HNp
            clear HNp
            generalize hG : s + T + tot (u1 (k0, n0, m0)) (ys.take i) = G at *
            have HBs : Hid (But C wr (Xq.setCell ⟨C, 3, none⟩ (.int .i64 ((G : Int) + 1)))) := HBq.out.set
            go_wp2
            exact ⟨⟨i + 1, _, rfl, by omega, by go_num, HN2, HBs⟩, by simp [intOf]; omega⟩
          | false =>
            have hu : u1 (k0, n0, m0) (y0, y1, y2) = 0 := by unfold u1; rw [hq]; rfl
            rw [hq] at hnq
            rw [hu] at HY1
            clear hq hu
            refine wp_region_quiet_below (by kernel_rfl) (by kernel_rfl) ?_
            repeat (first | go_big_quiet_step (fail) | quiet_step (fail))
            refine wpQuiet_nil ?_
            intro _ hw'
            obtain ⟨⟨dq, osq⟩, hw''⟩ := hw'
            subst hw''
            have HBq : Hid (But C wr (Sort.grow (redrawn X dq) osq)) := HBb.out.trans (But.of (below_regrown _ dq osq))
            have HNq : Hid (UsesAt C k0 n0 m0 (Sort.grow (redrawn X dq) osq) (s + T + tot (u1 (k0, n0, m0)) (ys.take (i + 1)))) := by
              have e : s + T + tot (u1 (k0, n0, m0)) (ys.take (i + 1)) = s + T + tot (u1 (k0, n0, m0)) (ys.take i) := by have := HY1.out; omega
              rw [e]; exact HNb.out.to (below_regrown _ dq osq)
            clear z0 z1 z2 z3 z4 z5 x0 x1 x2 w0 w1 w2 hnq
            generalize Sort.grow (redrawn X dq) osq = Xq at *
            go_wp2
            exact ⟨⟨i + 1, _, rfl, by omega, by go_num, HNq, HBq⟩, by simp [intOf]; omega⟩
        · have hil' : ¬ (i : Int) < (ys.length : Int) := by omega
          have HNe : Hid (UsesAt C k0 n0 m0 ws (s + tot (uE (k0, n0, m0)) (es.take (j + 1)))) := by
            have hie : i = ys.length := by omega
            have h := HNi.out
            rw [hie, List.take_length] at h
            have e : s + tot (uE (k0, n0, m0)) (es.take (j + 1)) = s + T + tot (u1 (k0, n0, m0)) ys := by have := HT1.out; have := HEd.out; omega
            rw [e]; exact h
          have HBe : Hid (But C w ws) := HB.out.trans HBi.out
          go_wp2
          exact ⟨⟨j + 1, by omega, by go_num, HNe, HBe⟩, by simp [intOf]; omega⟩
    · obtain rfl : j = es.length := by omega
      have HNe : Hid (UsesAt C k0 n0 m0 wr (s + tot (uE (k0, n0, m0)) es)) := by
        have := HNj.out
        rw [List.take_length] at this
        exact this
      go_wp2
      go_end0
      exact ⟨rfl, HNe.out, HB.out⟩

set_option maxHeartbeats 1000000 in
theorem unet_any (C : Nat) (k0 n0 m0 : Int) (S : Nat → Prop) (w : World) (hS : ∀ b, S b → b < w.heap.size) (hC : ¬ S C) (n : Nat) (v : Value) (t : NT (n + 1)) (hV : NtV S w (n + 1) v t) (s : Nat) (hs : UsesAt C k0 n0 m0 w s) (hbd : s + uE (k0, n0, m0) t.el ≤ 9223372036854775807) :
    Calls Try.prog 81 #[.pointer (some ⟨C, 0, none⟩), v] w fun r w' => r = .returned .nilIface ∧ UsesAt C k0 n0 m0 w' (s + uE (k0, n0, m0) t.el) ∧ But C w w' := by
  have hlt := hs.lt
  obtain ⟨pa, ca, pk, ck, rfl, hA, -⟩ := hV
  have HC : Hid (∀ W B, Below w.heap.size w W → w.heap.size ≤ B → W.heap[B]? = some (.cells #[.int .i64 t.el.1, .slice pa t.el.2.length ca] 49 (0, 0)) → Calls Try.prog 80 #[.pointer (some ⟨C, 0, none⟩), .slice (some ⟨B, 0, none⟩) 1 1] W fun r w' => r = .returned (.tuple #[]) ∧ UsesAt C k0 n0 m0 w' (s + uE (k0, n0, m0) t.el) ∧ But C W w') := fun W B hW hB hrow => by
    have hk : Keep S w W := Keep.of hW hS
    have h := ucount_any C k0 n0 m0 (fun b => S b ∨ b = B) W (fun b hb => by
      rcases hb with hb | rfl
      · exact ⟨Nat.lt_of_lt_of_le (hS b hb) hW.size, fun e => hC (e ▸ hb)⟩
      · exact ⟨(Array.getElem?_eq_some_iff.1 hrow).1, by omega⟩) (some ⟨B, 0, none⟩) 1 [t.el] ⟨⟨Nat.le_refl _, by simp⟩, .inr ⟨B, 0, rfl, .inr rfl, fun i u hu => by
        obtain ⟨rfl, rfl⟩ : i = 0 ∧ u = t.el := by
          cases i with
          | zero => exact ⟨rfl, by simpa using hu.symm⟩
          | succ i => simp at hu
        exact ⟨pa, ca, cell_of_row _ _ 0 _ _ _ hrow, cell_of_row _ _ 1 _ _ _ hrow, args_to hk (fun b hb => .inl hb) hA⟩⟩⟩ s (hs.to hW) (by rw [tot_single]; exact hbd)
    rw [tot_single] at h
    exact h
  clear hS hC hA hs hbd
  generalize uE (k0, n0, m0) t.el = z at *
  generalize t.el.1 = op at *
  generalize t.el.2.length = la at *
  generalize t.kind = kd at *
  generalize t.kids.length = lk at *
  go_enter Try.func81, Try.ntmps81
  go_wp2_with fail
  refine (HC.out _ (w.heap.size + 1) (two' _ _ _) (by omega) ?_).mono ?_
  · have := last (w.alloc (.cells #[.int .i64 kd, .int .i64 op, .slice pa la ca, .slice pk lk ck] 52)) (.cells #[.int .i64 op, .slice pa la ca] 49)
    rw [World.size_alloc] at this
    exact this
  rintro r w1 ⟨rfl, h1, hb1⟩
  have H1 : Hid (UsesAt C k0 n0 m0 w1 (s + z)) := h1
  have HB1 : Hid (But C w w1) := (But.of (two' _ _ _)).trans hb1
  clear h1 hb1
  go_wp2
  go_ret
  exact ⟨rfl, H1.out, HB1.out⟩
set_option maxHeartbeats 1000000 in
theorem uarm_any (C : Nat) (k0 n0 m0 : Int) (S : Nat → Prop) (w : World) (hS : ∀ b, S b → b < w.heap.size) (hC : ¬ S C) (k n : Nat) (v : Value) (t : AT k (n + 1)) (hV : AmV S w k (n + 1) v t) (s : Nat) (hs : UsesAt C k0 n0 m0 w s) (hbd : s + tot (uE (k0, n0, m0)) t.coils ≤ 9223372036854775807) :
    Calls Try.prog 79 #[.pointer (some ⟨C, 0, none⟩), v] w fun r w' => r = .returned .nilIface ∧ UsesAt C k0 n0 m0 w' (s + tot (uE (k0, n0, m0)) t.coils) ∧ But C w w' := by
  have hlt := hs.lt
  obtain ⟨kd, op, pa, la, ca, pk, lk, ck, pc, cc, pq, cq, rfl, -, hCo, -⟩ := hV
  have HC : Hid (∀ W, Below w.heap.size w W → Calls Try.prog 80 #[.pointer (some ⟨C, 0, none⟩), .slice pc t.coils.length cc] W fun r w' => r = .returned (.tuple #[]) ∧ UsesAt C k0 n0 m0 w' (s + tot (uE (k0, n0, m0)) t.coils) ∧ But C W w') := fun W hW =>
    ucount_any C k0 n0 m0 S W (fun b hb => ⟨Nat.lt_of_lt_of_le (hS b hb) hW.size, fun e => hC (e ▸ hb)⟩) pc cc t.coils (els_to (Keep.of hW hS) (fun _ h => h) hCo) s (hs.to hW) hbd
  clear hS hC hCo hs hbd
  generalize tot (uE (k0, n0, m0)) t.coils = z at *
  generalize t.coils.length = lc at *
  generalize t.kids.length = lq at *
  go_enter Try.func79, Try.ntmps79
  go_wp2_with fail
  refine (HC.out _ (one _ _)).mono ?_
  rintro r w1 ⟨rfl, h1, hb1⟩
  have H1 : Hid (UsesAt C k0 n0 m0 w1 (s + z)) := h1
  have HB1 : Hid (But C w w1) := (But.of (one _ _)).trans hb1
  clear h1 hb1
  go_wp2
  go_ret
  exact ⟨rfl, H1.out, HB1.out⟩
end Go.Proofs.Ytkkkjhlbkmcjiaa.Tr
