/- The program's TreeUses: the look that counts an operand. Helper text: no statement is claimed here. -/
import Derived.Test.YtjkpingdokkkcaaGreatDoorP05
import Derived.Test.YtjkpingdokkkcaaGreatDoorP11
import Derived.Test.YtjkpingdokkkcaaGreatDoorP01
import Derived.Deep.AppendLies
import Derived.Laws.AppendOwnNone
import Derived.Laws.OwnMore
import Derived.OwnWalk
namespace Go.Proofs.YtjkpingdokkkcaaGreatDoor.Tr
open Go.ChangeShapes Go.WideShapes Go.ChangeAt Go.RowKit

/-- The count of an operand. -/
def UsesAt (C : Nat) (k0 n0 m0 : Int) (w : World) (s : Nat) : Prop := w.heap[C]? = some (.cells #[.int .i64 k0, .int .i64 n0, .int .i64 m0, .int .i64 (s : Int)] 73 (0, 0))
theorem UsesAt.lt {C : Nat} {k0 n0 m0 : Int} {w : World} {s : Nat} (h : UsesAt C k0 n0 m0 w s) : C < w.heap.size := (Array.getElem?_eq_some_iff.1 h).1
theorem UsesAt.to {C : Nat} {k0 n0 m0 : Int} {w w' : World} {s : Nat} (h : UsesAt C k0 n0 m0 w s) (hb : Below w.heap.size w w') : UsesAt C k0 n0 m0 w' s := (hb.block C h.lt).trans h
theorem UsesAt.put {C : Nat} {k0 n0 m0 : Int} {w : World} {s : Nat} (h : UsesAt C k0 n0 m0 w s) : UsesAt C k0 n0 m0 (w.setCell ⟨C, 3, none⟩ (.int .i64 ((s : Int) + 1))) (s + 1) := by
  have := heap_setCell_same w C 3 _ 73 (.int .i64 ((s : Int) + 1)) h
  simpa [UsesAt] using this
set_option maxHeartbeats 3000000 in
theorem ucount_any (C : Nat) (k0 n0 m0 : Int) (S : Nat → Prop) (w : World) (hS : Apart C S w) (p : Option Addr) (cap : Nat) (es : List El) (hV : SlOf S (ElE S w) 2 p cap es) (s : Nat) (hs : UsesAt C k0 n0 m0 w s) (hbd : s + tot (uE (k0, n0, m0)) es ≤ 9223372036854775807) :
    Calls Tryz.prog 94 #[.pointer (some ⟨C, 0, none⟩), .slice p es.length cap] w fun r w' => r = .returned (.tuple #[]) ∧ UsesAt C k0 n0 m0 w' (s + tot (uE (k0, n0, m0)) es) ∧ But C w w' := by
  have HS : Hid (Apart C S w) := hS
  have HV : Hid (SlOf S (ElE S w) 2 p cap es) := hV
  have HN : Hid (UsesAt C k0 n0 m0 w s) := hs
  have HD : Hid (s + tot (uE (k0, n0, m0)) es ≤ 9223372036854775807) := hbd
  obtain ⟨⟨hl1, hl2⟩, -⟩ := hV
  clear hS hs hbd
  go_enter Tryz.func94, Tryz.ntmps94
  go_wp2
  go_loopw [10] (fun d w' => ∃ j : Nat, j ≤ es.length ∧ d = .int .i64 (j : Int) ∧ Hid (UsesAt C k0 n0 m0 w' (s + tot (uE (k0, n0, m0)) (es.take j))) ∧ Hid (But C w w')) (fun d _ => es.length - (intOf d).toNat)
  case atStart => exact ⟨0, by omega, rfl, HN, But.refl _ _⟩
  case round =>
    obtain ⟨j, hj, rfl, HNj, HB⟩ := hrel
    rename_i wr
    by_cases hlt : j < es.length
    · have hlt' : (j : Int) < (es.length : Int) := by omega
      obtain ⟨t, ht⟩ := get_lt hlt
      have HT1 : Hid (tot (uE (k0, n0, m0)) (es.take (j + 1)) = tot (uE (k0, n0, m0)) (es.take j) + uE (k0, n0, m0) t) := tot_next (uE (k0, n0, m0)) ht
      have HT2 : Hid (tot (uE (k0, n0, m0)) (es.take (j + 1)) ≤ tot (uE (k0, n0, m0)) es) := tot_le (uE (k0, n0, m0)) es (j + 1)
      obtain ⟨b, off, rfl, hb, pa, ca, c0, c1, hA⟩ := (els_to (HB.out.keep HS.out) (fun _ h => h) HV.out).get ht
      have hbl : b < wr.heap.size := World.block_lt_of_cell? _ _ c0
      have HAr : Hid (SlOf S (ArE wr) 3 pa ca t.2) := hA
      have HA : Hid (Apart C S wr) := HS.out.to HB.out.size
      obtain ⟨⟨hk1, hk2⟩, -⟩ := hA
      have HEd : Hid (uE (k0, n0, m0) t = tot (u1 (k0, n0, m0)) t.2) := rfl
      clear ht
      generalize t.1 = op at *
      generalize t.2 = ys at *
      go_wp2
      have HBa : Hid (But C wr (wr.alloc (.cells #[.int .i64 op, .slice pa ys.length ca] 46))) := But.of (one _ _)
      have HNa : Hid (UsesAt C k0 n0 m0 (wr.alloc (.cells #[.int .i64 op, .slice pa ys.length ca] 46)) (s + tot (uE (k0, n0, m0)) (es.take j))) := HNj.out.to (one _ _)
      generalize wr.alloc (.cells #[.int .i64 op, .slice pa ys.length ca] 46) = V at *
      clear c0 c1
      generalize hT : tot (uE (k0, n0, m0)) (es.take j) = T at *
      go_loopw [17] (fun d w' => ∃ (i : Nat) (W : World), W = w' ∧ i ≤ ys.length ∧ d = .int .i64 (i : Int) ∧ Hid (UsesAt C k0 n0 m0 W (s + T + tot (u1 (k0, n0, m0)) (ys.take i))) ∧ Hid (But C wr W)) (fun d _ => ys.length - (intOf d).toNat)
      case atStart => exact ⟨0, _, rfl, by omega, rfl, HNa, HBa⟩
      case round =>
        clear HNa HBa
        obtain ⟨i, ws, rfl, hi, rfl, HNi, HBi⟩ := hrel
        by_cases hil : i < ys.length
        · have hil' : (i : Int) < (ys.length : Int) := by omega
          obtain ⟨y, hy⟩ := get_lt hil
          have HY1 : Hid (tot (u1 (k0, n0, m0)) (ys.take (i + 1)) = tot (u1 (k0, n0, m0)) (ys.take i) + u1 (k0, n0, m0) y) := tot_next (u1 (k0, n0, m0)) hy
          have HY2 : Hid (tot (u1 (k0, n0, m0)) (ys.take (i + 1)) ≤ tot (u1 (k0, n0, m0)) ys) := tot_le (u1 (k0, n0, m0)) ys (i + 1)
          obtain ⟨b2, off2, rfl, hb2, d0, d1, d2⟩ := (args_to (HBi.out.keep HA.out) (fun _ h => h) HAr.out).get hy
          have hbl2 : b2 < ws.heap.size := World.block_lt_of_cell? _ _ d0
          obtain ⟨y0, y1, y2⟩ := y
          clear hy
          have hnq := eql_arg y0 y1 y2 k0 n0 m0
          have hCl : C < ws.heap.size := HNi.out.lt
          go_wp2
          have HBb : Hid (But C wr (ws.alloc (.cells #[.int .i64 y0, .int .i64 y1, .int .i64 y2] 27))) := HBi.out.trans (But.of (one _ _))
          have HNb : Hid (UsesAt C k0 n0 m0 (ws.alloc (.cells #[.int .i64 y0, .int .i64 y1, .int .i64 y2] 27)) (s + T + tot (u1 (k0, n0, m0)) (ys.take i))) := HNi.out.to (one _ _)
          have HOw : Hid ((ws.alloc (.cells #[.int .i64 y0, .int .i64 y1, .int .i64 y2] 27)).heap[ws.heap.size]? = some (.cells #[.int .i64 y0, .int .i64 y1, .int .i64 y2] 27 (0, 0))) := last _ _
          generalize ws.alloc (.cells #[.int .i64 y0, .int .i64 y1, .int .i64 y2] 27) = X at *
          have x0 : X.cell? ⟨ws.heap.size, 0, none⟩ = some (.int .i64 y0) := cell_of_row _ _ 0 _ _ _ HOw.out
          have x1 : X.cell? ⟨ws.heap.size, 1, none⟩ = some (.int .i64 y1) := cell_of_row _ _ 1 _ _ _ HOw.out
          have x2 : X.cell? ⟨ws.heap.size, 2, none⟩ = some (.int .i64 y2) := cell_of_row _ _ 2 _ _ _ HOw.out
          have w0 : X.cell? ⟨C, 0, none⟩ = some (.int .i64 k0) := cell_of_row _ _ 0 _ _ _ HNb.out
          have w1 : X.cell? ⟨C, 1, none⟩ = some (.int .i64 n0) := cell_of_row _ _ 1 _ _ _ HNb.out
          have w2 : X.cell? ⟨C, 2, none⟩ = some (.int .i64 m0) := cell_of_row _ _ 2 _ _ _ HNb.out
          have z0 := cell_regrown x0
          have z1 := cell_regrown x1
          have z2 := cell_regrown x2
          have z3 := cell_regrown w0
          have z4 := cell_regrown w1
          have z5 := cell_regrown w2
          clear d0 d1 d2 HOw
          cases hq : eqAr (y0, y1, y2) (k0, n0, m0) with
          | true =>
            have hu : u1 (k0, n0, m0) (y0, y1, y2) = 1 := by unfold u1; rw [hq]; rfl
            rw [hq] at hnq
            rw [hu] at HY1
            clear hq hu
            refine wp_region_quiet_below (by kernel_rfl) (by kernel_rfl) ?_
            repeat (first | go_big_quiet_step (fail) | quiet_step (fail))
            refine wpQuiet_nil ?_
            intro _ hw'
            obtain ⟨⟨dq, osq⟩, hw''⟩ := hw'
            subst hw''
            have HBq : Hid (But C wr (Sort.grow (redrawn X dq) osq)) := HBb.out.trans (But.of (below_regrown _ dq osq))
            have HNq : Hid (UsesAt C k0 n0 m0 (Sort.grow (redrawn X dq) osq) (s + T + tot (u1 (k0, n0, m0)) (ys.take i))) := HNb.out.to (below_regrown _ dq osq)
            clear z0 z1 z2 z3 z4 z5 x0 x1 x2 w0 w1 w2 hnq
            generalize Sort.grow (redrawn X dq) osq = Xq at *
            have v3 : Xq.cell? ⟨C, 3, none⟩ = some (.int .i64 ((s + T + tot (u1 (k0, n0, m0)) (ys.take i) : Nat) : Int)) := cell_of_row _ _ 3 _ _ _ HNq.out
            have f3 := frozen_of_row _ _ 3 _ _ HNq.out
            have HNp := HNq.out.put
            have hsm : s + T + tot (u1 (k0, n0, m0)) (ys.take i) + 1 ≤ 9223372036854775807 := by
              have h1 := HD.out
              have h2 := HT1.out
              have h3 := HT2.out
              have h4 := HEd.out
              have h5 := HY1.out
              have h6 := HY2.out
              omega
            have HN2 : Hid (UsesAt C k0 n0 m0 (Xq.setCell ⟨C, 3, none⟩ (.int .i64 (((s + T + tot (u1 (k0, n0, m0)) (ys.take i) : Nat) : Int) + 1))) (s + T + tot (u1 (k0, n0, m0)) (ys.take (i + 1)))) := by
              have e : s + T + tot (u1 (k0, n0, m0)) (ys.take (i + 1)) = s + T + tot (u1 (k0, n0, m0)) (ys.take i) + 1 := by have := HY1.out; omega
              rw [e]; exact HNp
            clear HNp
            generalize hG : s + T + tot (u1 (k0, n0, m0)) (ys.take i) = G at *
            have HBs : Hid (But C wr (Xq.setCell ⟨C, 3, none⟩ (.int .i64 ((G : Int) + 1)))) := HBq.out.set
            go_wp2
            exact ⟨⟨i + 1, _, rfl, by omega, by go_num, HN2, HBs⟩, by simp [intOf]; omega⟩
          | false =>
            have hu : u1 (k0, n0, m0) (y0, y1, y2) = 0 := by unfold u1; rw [hq]; rfl
            rw [hq] at hnq
            rw [hu] at HY1
            clear hq hu
            refine wp_region_quiet_below (by kernel_rfl) (by kernel_rfl) ?_
            repeat (first | go_big_quiet_step (fail) | quiet_step (fail))
            refine wpQuiet_nil ?_
            intro _ hw'
            obtain ⟨⟨dq, osq⟩, hw''⟩ := hw'
            subst hw''
            have HBq : Hid (But C wr (Sort.grow (redrawn X dq) osq)) := HBb.out.trans (But.of (below_regrown _ dq osq))
            have HNq : Hid (UsesAt C k0 n0 m0 (Sort.grow (redrawn X dq) osq) (s + T + tot (u1 (k0, n0, m0)) (ys.take (i + 1)))) := by
              have e : s + T + tot (u1 (k0, n0, m0)) (ys.take (i + 1)) = s + T + tot (u1 (k0, n0, m0)) (ys.take i) := by have := HY1.out; omega
              rw [e]; exact HNb.out.to (below_regrown _ dq osq)
            clear z0 z1 z2 z3 z4 z5 x0 x1 x2 w0 w1 w2 hnq
            generalize Sort.grow (redrawn X dq) osq = Xq at *
            go_wp2
            exact ⟨⟨i + 1, _, rfl, by omega, by go_num, HNq, HBq⟩, by simp [intOf]; omega⟩
        · have hil' : ¬ (i : Int) < (ys.length : Int) := by omega
          have HNe : Hid (UsesAt C k0 n0 m0 ws (s + tot (uE (k0, n0, m0)) (es.take (j + 1)))) := by
            have hie : i = ys.length := by omega
            have h := HNi.out
            rw [hie, List.take_length] at h
            have e : s + tot (uE (k0, n0, m0)) (es.take (j + 1)) = s + T + tot (u1 (k0, n0, m0)) ys := by have := HT1.out; have := HEd.out; omega
            rw [e]; exact h
          have HBe : Hid (But C w ws) := HB.out.trans HBi.out
          go_wp2
          exact ⟨⟨j + 1, by omega, by go_num, HNe, HBe⟩, by simp [intOf]; omega⟩
    · obtain rfl : j = es.length := by omega
      have HNe : Hid (UsesAt C k0 n0 m0 wr (s + tot (uE (k0, n0, m0)) es)) := by
        have := HNj.out
        rw [List.take_length] at this
        exact this
      go_wp2
      go_end0
      exact ⟨rfl, HNe.out, HB.out⟩

set_option maxHeartbeats 1000000 in
theorem unet_any (C : Nat) (k0 n0 m0 : Int) (S : Nat → Prop) (w : World) (hS : ∀ b, S b → b < w.heap.size) (hC : ¬ S C) (n : Nat) (v : Value) (t : NT (n + 1)) (hV : NtV S w (n + 1) v t) (s : Nat) (hs : UsesAt C k0 n0 m0 w s) (hbd : s + uE (k0, n0, m0) t.el ≤ 9223372036854775807) :
    Calls Tryz.prog 95 #[.pointer (some ⟨C, 0, none⟩), v] w fun r w' => r = .returned .nilIface ∧ UsesAt C k0 n0 m0 w' (s + uE (k0, n0, m0) t.el) ∧ But C w w' := by
  have hlt := hs.lt
  obtain ⟨pa, ca, pk, ck, rfl, hA, -⟩ := hV
  have HC : Hid (∀ W B, Below w.heap.size w W → w.heap.size ≤ B → W.heap[B]? = some (.cells #[.int .i64 t.el.1, .slice pa t.el.2.length ca] 46 (0, 0)) → Calls Tryz.prog 94 #[.pointer (some ⟨C, 0, none⟩), .slice (some ⟨B, 0, none⟩) 1 1] W fun r w' => r = .returned (.tuple #[]) ∧ UsesAt C k0 n0 m0 w' (s + uE (k0, n0, m0) t.el) ∧ But C W w') := fun W B hW hB hrow => by
    have hk : Keep S w W := Keep.of hW hS
    have h := ucount_any C k0 n0 m0 (fun b => S b ∨ b = B) W (fun b hb => by
      rcases hb with hb | rfl
      · exact ⟨Nat.lt_of_lt_of_le (hS b hb) hW.size, fun e => hC (e ▸ hb)⟩
      · exact ⟨(Array.getElem?_eq_some_iff.1 hrow).1, by omega⟩) (some ⟨B, 0, none⟩) 1 [t.el] ⟨⟨Nat.le_refl _, by simp⟩, .inr ⟨B, 0, rfl, .inr rfl, fun i u hu => by
        obtain ⟨rfl, rfl⟩ : i = 0 ∧ u = t.el := by
          cases i with
          | zero => exact ⟨rfl, by simpa using hu.symm⟩
          | succ i => simp at hu
        exact ⟨pa, ca, cell_of_row _ _ 0 _ _ _ hrow, cell_of_row _ _ 1 _ _ _ hrow, args_to hk (fun b hb => .inl hb) hA⟩⟩⟩ s (hs.to hW) (by rw [tot_single]; exact hbd)
    rw [tot_single] at h
    exact h
  clear hS hC hA hs hbd
  generalize uE (k0, n0, m0) t.el = z at *
  generalize t.el.1 = op at *
  generalize t.el.2.length = la at *
  generalize t.kind = kd at *
  generalize t.kids.length = lk at *
  go_enter Tryz.func95, Tryz.ntmps95
  go_wp2_with fail
  refine (HC.out _ (w.heap.size + 1) (two' _ _ _) (by omega) ?_).mono ?_
  · have := last (w.alloc (.cells #[.int .i64 kd, .int .i64 op, .slice pa la ca, .slice pk lk ck] 49)) (.cells #[.int .i64 op, .slice pa la ca] 46)
    rw [World.size_alloc] at this
    exact this
  rintro r w1 ⟨rfl, h1, hb1⟩
  have H1 : Hid (UsesAt C k0 n0 m0 w1 (s + z)) := h1
  have HB1 : Hid (But C w w1) := (But.of (two' _ _ _)).trans hb1
  clear h1 hb1
  go_wp2
  go_ret
  exact ⟨rfl, H1.out, HB1.out⟩
set_option maxHeartbeats 1000000 in
theorem uarm_any (C : Nat) (k0 n0 m0 : Int) (S : Nat → Prop) (w : World) (hS : ∀ b, S b → b < w.heap.size) (hC : ¬ S C) (k n : Nat) (v : Value) (t : AT k (n + 1)) (hV : AmV S w k (n + 1) v t) (s : Nat) (hs : UsesAt C k0 n0 m0 w s) (hbd : s + tot (uE (k0, n0, m0)) t.coils ≤ 9223372036854775807) :
    Calls Tryz.prog 93 #[.pointer (some ⟨C, 0, none⟩), v] w fun r w' => r = .returned .nilIface ∧ UsesAt C k0 n0 m0 w' (s + tot (uE (k0, n0, m0)) t.coils) ∧ But C w w' := by
  have hlt := hs.lt
  obtain ⟨kd, op, pa, la, ca, pk, lk, ck, pc, cc, pq, cq, rfl, -, hCo, -⟩ := hV
  have HC : Hid (∀ W, Below w.heap.size w W → Calls Tryz.prog 94 #[.pointer (some ⟨C, 0, none⟩), .slice pc t.coils.length cc] W fun r w' => r = .returned (.tuple #[]) ∧ UsesAt C k0 n0 m0 w' (s + tot (uE (k0, n0, m0)) t.coils) ∧ But C W w') := fun W hW =>
    ucount_any C k0 n0 m0 S W (fun b hb => ⟨Nat.lt_of_lt_of_le (hS b hb) hW.size, fun e => hC (e ▸ hb)⟩) pc cc t.coils (els_to (Keep.of hW hS) (fun _ h => h) hCo) s (hs.to hW) hbd
  clear hS hC hCo hs hbd
  generalize tot (uE (k0, n0, m0)) t.coils = z at *
  generalize t.coils.length = lc at *
  generalize t.kids.length = lq at *
  go_enter Tryz.func93, Tryz.ntmps93
  go_wp2_with fail
  refine (HC.out _ (one _ _)).mono ?_
  rintro r w1 ⟨rfl, h1, hb1⟩
  have H1 : Hid (UsesAt C k0 n0 m0 w1 (s + z)) := h1
  have HB1 : Hid (But C w w1) := (But.of (one _ _)).trans hb1
  clear h1 hb1
  go_wp2
  go_ret
  exact ⟨rfl, H1.out, HB1.out⟩
end Go.Proofs.YtjkpingdokkkcaaGreatDoor.Tr

/- The program's TreeSize. Helper text: no statement is claimed here. -/
namespace Go.Proofs.YtjkpingdokkkcaaGreatDoor.Tr
open Go.ChangeShapes Go.WideShapes Go.ChangeAt Go.RowKit

theorem tot_congr {α : Type} {f g : α → Nat} : ∀ (ts : List α), (∀ t ∈ ts, f t = g t) → tot f ts = tot g ts
  | [], _ => rfl
  | t :: ts, h => by rw [tot_cons, tot_cons, h t (by simp), tot_congr ts (fun u hu => h u (by simp [hu]))]
def coilsN (k : Nat) : (n : Nat) → AT k n → Nat
  | 0, _ => 0
  | _ + 1, a => 1 + a.coils.length
/-- The look that counts parts. -/
def cntLk (C : Nat) : Lk := { C := C, T := 57, fn := 89, fa := 88, cnt := CntAt C, fN := fun _ _ => 1, fA := coilsN }
theorem cnt_ok (C : Nat) : (cntLk C).Ok where
  lt := fun _ _ h => CntAt.lt h
  to := fun _ _ _ h hb => CntAt.to h hb
  me := fun _ h w => (h _ w).1
  call := Tryz.call89
  net := fun S W n v t s _ hV hs hbd => by
    obtain ⟨kd, op, pa, la, ca, pk, lk, ck, rfl⟩ := hV.parts
    exact cnet_any C s kd op pa la ca pk lk ck W hs hbd
  meA := fun _ h w => (h _ w).1
  callA := Tryz.call88
  arm := fun S W k n v t s _ hV hs hbd => by
    cases n with
    | zero => exact hV.elim
    | succ n =>
      obtain ⟨kd, op, pa, la, ca, pk, lk, ck, pc, cc, pq, cq, rfl, -, -, -⟩ := hV
      exact carm_any C s kd op pa la ca pk lk ck pc _ cc pq _ cq W hs hbd
theorem cnt_gN (C : Nat) : ∀ (n : Nat) (t : NT n), (cntLk C).gN n t = pN n t
  | 0, t => Empty.elim t
  | n + 1, t => by
    show 1 + tot ((cntLk C).gN n) t.kids = 1 + tot (pN n) t.kids
    rw [tot_congr t.kids (fun u _ => cnt_gN C n u)]
theorem cnt_gA (C k : Nat) : ∀ (n : Nat) (t : AT k n), (cntLk C).gA k n t = pA k n t
  | 0, t => Empty.elim t
  | n + 1, t => by
    show (if isNone t.net then 0 else (cntLk C).gN (k + 1) t.net) + (1 + t.coils.length) + tot ((cntLk C).gA k n) t.kids = 1 + t.coils.length + (if isNone t.net then 0 else pN (k + 1) t.net) + tot (pA k n) t.kids
    rw [tot_congr t.kids (fun u _ => cnt_gA C k n u), cnt_gN]
    omega
set_option maxHeartbeats 1000000 in
set_option maxRecDepth 100000 in
theorem iTreeSize_any (k n : Nat) (S : Nat → Prop) (w : World) (hSw : ∀ b, S b → b < w.heap.size) (p : Option Addr) (cap : Nat) (es : List (AT k n)) (hV : SlOf S (AmE S w k n) 6 p cap es) (hz : zAs k n es ≤ 1048576) :
    Calls Tryz.prog 8 #[.slice p es.length cap] w fun r w' => r = .returned (.int .i64 (tot (pA k n) es)) ∧ Below w.heap.size w w' := by
  have htp := totA_le k n es
  have HC : Hid (∀ W, Below w.heap.size w W → CntAt w.heap.size W 0 → Calls Tryz.prog 22 #[.slice p es.length cap, .iface 57 (.pointer (some ⟨w.heap.size, 0, none⟩))] W fun r w' => r = .returned .nilIface ∧ CntAt w.heap.size w' (tot (pA k n) es) ∧ But w.heap.size W w') := fun W hW h0 => by
    have h := treeArms_any (cntLk w.heap.size) (cnt_ok _) k n S W (fun b hb => ⟨Nat.lt_of_lt_of_le (hSw b hb) hW.size, by have := hSw b hb; show b ≠ w.heap.size; omega⟩) p cap es (arms_to (Keep.of hW hSw) (fun _ h => h) hV) 0 h0 (by rw [tot_congr es (fun u _ => cnt_gA _ k n u)]; omega)
    rw [tot_congr es (fun u _ => cnt_gA _ k n u), Nat.zero_add] at h
    exact h
  clear hSw hV hz htp
  generalize tot (pA k n) es = R at *
  go_enter Tryz.func8, Tryz.ntmps8
  go_wp2_with fail
  refine (HC.out _ (one _ _) ?_).mono ?_
  · exact last _ _
  rintro r w1 ⟨rfl, h1, hb1⟩
  have HB1 : Hid (Below w.heap.size w w1) := ((But.of (one w _)).trans hb1).below (Nat.le_refl _) (Nat.le_refl _)
  have c0 : w1.cell? ⟨w.heap.size, 0, none⟩ = some (.int .i64 (R : Int)) := cell_of_row _ _ 0 _ _ _ h1
  clear h1 hb1
  go_wp2
  go_ret
  exact ⟨rfl, HB1.out⟩
end Go.Proofs.YtjkpingdokkkcaaGreatDoor.Tr

/- The program's TreeUses, and the walk of the law FnExactTreeUses. Helper text: no statement is claimed here. -/
namespace Go.Proofs.YtjkpingdokkkcaaGreatDoor.Tr
open Go.ChangeShapes Go.WideShapes Go.ChangeAt Go.RowKit

def elUses (a : Ar) : (n : Nat) → NT n → Nat
  | 0, _ => 0
  | _ + 1, t => uE a t.el
def coilUses (a : Ar) (k : Nat) : (n : Nat) → AT k n → Nat
  | 0, _ => 0
  | _ + 1, t => tot (uE a) t.coils
/-- The look that counts an operand. -/
def usesLk (C : Nat) (k0 n0 m0 : Int) : Lk := { C := C, T := 71, fn := 95, fa := 93, cnt := UsesAt C k0 n0 m0, fN := elUses (k0, n0, m0), fA := fun k n t => coilUses (k0, n0, m0) k n t }
theorem uses_ok (C : Nat) (k0 n0 m0 : Int) : (usesLk C k0 n0 m0).Ok where
  lt := fun _ _ h => UsesAt.lt h
  to := fun _ _ _ h hb => UsesAt.to h hb
  me := fun _ h w => (h _ w).2
  call := Tryz.call95
  net := fun S W n v t s hS hV hs hbd => by
    cases n with
    | zero => exact hV.elim
    | succ n => exact unet_any C k0 n0 m0 S W (fun b hb => (hS b hb).1) (fun h => (hS C h).2 rfl) n v t hV s hs hbd
  meA := fun _ h w => (h _ w).2
  callA := Tryz.call93
  arm := fun S W k n v t s hS hV hs hbd => by
    cases n with
    | zero => exact hV.elim
    | succ n => exact uarm_any C k0 n0 m0 S W (fun b hb => (hS b hb).1) (fun h => (hS C h).2 rfl) k n v t hV s hs hbd
theorem uses_gN (C : Nat) (k0 n0 m0 : Int) : ∀ (n : Nat) (t : NT n), (usesLk C k0 n0 m0).gN n t = uN (k0, n0, m0) n t
  | 0, t => Empty.elim t
  | n + 1, t => by
    show uE (k0, n0, m0) t.el + tot ((usesLk C k0 n0 m0).gN n) t.kids = uE (k0, n0, m0) t.el + tot (uN (k0, n0, m0) n) t.kids
    rw [tot_congr t.kids (fun u _ => uses_gN C k0 n0 m0 n u)]
theorem none_uses (a : Ar) {n : Nat} (t : NT (n + 1)) (h : isNone t = true) : uN a (n + 1) t = 0 := by
  unfold isNone at h
  simp only [Bool.and_eq_true, decide_eq_true_eq] at h
  have h1 : t.el.2 = [] := List.length_eq_zero_iff.1 h.1.2
  have h2 : t.kids = [] := List.length_eq_zero_iff.1 h.2
  rw [uN_succ, h2]
  unfold uE
  rw [h1]
  rfl
theorem uses_gA (C : Nat) (k0 n0 m0 : Int) (k : Nat) : ∀ (n : Nat) (t : AT k n), (usesLk C k0 n0 m0).gA k n t = uA (k0, n0, m0) k n t
  | 0, t => Empty.elim t
  | n + 1, t => by
    show (if isNone t.net then 0 else (usesLk C k0 n0 m0).gN (k + 1) t.net) + tot (uE (k0, n0, m0)) t.coils + tot ((usesLk C k0 n0 m0).gA k n) t.kids = uN (k0, n0, m0) (k + 1) t.net + tot (uE (k0, n0, m0)) t.coils + tot (uA (k0, n0, m0) k n) t.kids
    rw [tot_congr t.kids (fun u _ => uses_gA C k0 n0 m0 k n u), uses_gN]
    split
    · rename_i h
      rw [none_uses (k0, n0, m0) t.net h]
    · rfl
set_option maxHeartbeats 1000000 in
set_option maxRecDepth 100000 in
theorem iTreeUses_any (k0 n0 m0 : Int) (k n : Nat) (S : Nat → Prop) (w : World) (hSw : ∀ b, S b → b < w.heap.size) (p : Option Addr) (cap : Nat) (es : List (AT k n)) (hV : SlOf S (AmE S w k n) 6 p cap es) (hz : zAs k n es ≤ 1048576) :
    Calls Tryz.prog 10 #[.slice p es.length cap, .agg #[.int .i64 k0, .int .i64 n0, .int .i64 m0]] w fun r w' => r = .returned (.int .i64 (tot (uA (k0, n0, m0) k n) es)) ∧ Below w.heap.size w w' := by
  have htp := uAs_le (k0, n0, m0) k n es
  have HC : Hid (∀ W, Below w.heap.size w W → UsesAt (w.heap.size + 1) k0 n0 m0 W 0 → Calls Tryz.prog 22 #[.slice p es.length cap, .iface 71 (.pointer (some ⟨w.heap.size + 1, 0, none⟩))] W fun r w' => r = .returned .nilIface ∧ UsesAt (w.heap.size + 1) k0 n0 m0 w' (tot (uA (k0, n0, m0) k n) es) ∧ But (w.heap.size + 1) W w') := fun W hW h0 => by
    have h := treeArms_any (usesLk (w.heap.size + 1) k0 n0 m0) (uses_ok _ _ _ _) k n S W (fun b hb => ⟨Nat.lt_of_lt_of_le (hSw b hb) hW.size, by have := hSw b hb; show b ≠ w.heap.size + 1; omega⟩) p cap es (arms_to (Keep.of hW hSw) (fun _ h => h) hV) 0 h0 (by rw [tot_congr es (fun u _ => uses_gA _ k0 n0 m0 k n u)]; omega)
    rw [tot_congr es (fun u _ => uses_gA _ k0 n0 m0 k n u), Nat.zero_add] at h
    exact h
  clear hSw hV hz htp
  generalize tot (uA (k0, n0, m0) k n) es = R at *
  go_enter Tryz.func10, Tryz.ntmps10
  go_wp2_with fail
  refine (HC.out _ (two' _ _ _) ?_).mono ?_
  · have := last (w.alloc (.cells #[.int .i64 k0, .int .i64 n0, .int .i64 m0] 27)) (.cells #[.int .i64 k0, .int .i64 n0, .int .i64 m0, .int .i64 0] 73)
    rw [World.size_alloc] at this
    exact this
  rintro r w1 ⟨rfl, h1, hb1⟩
  have HB1 : Hid (Below w.heap.size w w1) := ((But.of (two' w _ _)).trans hb1).below (Nat.le_refl _) (by omega)
  have c3 : w1.cell? ⟨w.heap.size + 1, 3, none⟩ = some (.int .i64 (R : Int)) := cell_of_row _ _ 3 _ _ _ h1
  clear h1 hb1
  go_wp2
  go_ret
  exact ⟨rfl, HB1.out⟩
end Go.Proofs.YtjkpingdokkkcaaGreatDoor.Tr

/- Rows of contacts, nets, arms that a call builds for itself. Helper text: no statement is claimed here. -/
namespace Go.Proofs.YtjkpingdokkkcaaGreatDoor.Tr
open Go.ChangeShapes Go.WideShapes Go.ChangeAt Go.RowKit

/-- The blocks of which O speaks, and those from base on, are as they were. -/
structure Out (O : Nat → Prop) (base : Nat) (w w' : World) : Prop where
  size : w.heap.size ≤ w'.heap.size
  old : ∀ b, O b → w'.heap[b]? = w.heap[b]?
  block : ∀ b, base ≤ b → b < w.heap.size → w'.heap[b]? = w.heap[b]?
theorem Out.refl (O : Nat → Prop) (base : Nat) (w : World) : Out O base w w := ⟨Nat.le_refl _, fun _ _ => rfl, fun _ _ _ => rfl⟩
theorem Out.trans {O : Nat → Prop} {base : Nat} {a b c : World} (h : Out O base a b) (k : Out O base b c) : Out O base a c :=
  ⟨Nat.le_trans h.size k.size, fun i hi => (k.old i hi).trans (h.old i hi), fun i hi hl => (k.block i hi (Nat.lt_of_lt_of_le hl h.size)).trans (h.block i hi hl)⟩
theorem Out.of {O : Nat → Prop} {base : Nat} {w w' : World} (h : Below w.heap.size w w') (hO : ∀ b, O b → b < w.heap.size) : Out O base w w' := ⟨h.size, fun b hb => h.block b (hO b hb), fun b _ hl => h.block b hl⟩
theorem Out.set {O : Nat → Prop} {base : Nat} {a w : World} {c i : Nat} {v : Value} (h : Out O base a w) (hc : c < base) (hO : ¬ O c) : Out O base a (w.setCell ⟨c, i, none⟩ v) :=
  h.trans ⟨by simp [World.setCell], fun b hb => Below.heap_setCell _ _ _ _ (fun e => hO (by have e2 : b = c := e; rw [← e2]; exact hb)), fun b hb _ => Below.heap_setCell _ _ _ _ (by simp; omega)⟩
/-- The old blocks, and those from base on. -/
def Frs (O : Nat → Prop) (base : Nat) (w : World) (b : Nat) : Prop := O b ∨ (base ≤ b ∧ b < w.heap.size)
/-- .. but a row's own. -/
def Inn (O : Nat → Prop) (base : Nat) (w : World) (v : Value) (b : Nat) : Prop := O b ∨ (base ≤ b ∧ b < w.heap.size ∧ some b ≠ v.ownBlock)
theorem Out.keep {O : Nat → Prop} {base : Nat} {w w' : World} (h : Out O base w w') : Keep (Frs O base w) w w' := fun b hb => by
  rcases hb with hb | hb
  · exact h.old b hb
  · exact h.block b hb.1 hb.2
theorem Out.keepF {O : Nat → Prop} {base : Nat} {w w' : World} (h : Out O base w w') {S : Nat → Prop} (hS : ∀ b, S b → Frs O base w b) : Keep S w w' := fun b hb => h.keep b (hS b hb)
theorem Frs.mono {O : Nat → Prop} {base base' : Nat} {w w' : World} (hb : base' ≤ base) (hs : w.heap.size ≤ w'.heap.size) : ∀ b, Frs O base w b → Frs O base' w' b := fun _ h => h.elim .inl fun h => .inr ⟨Nat.le_trans hb h.1, Nat.lt_of_lt_of_le h.2 hs⟩
section
variable {α : Type} {T : TypeId} {O : Nat → Prop} {sz base : Nat} {V : (Nat → Prop) → World → Value → α → Prop}
/-- What is said of a value holds on where its blocks are kept. -/
def KeptV (V : (Nat → Prop) → World → Value → α → Prop) : Prop := ∀ (S S' : Nat → Prop) (w w' : World) (v : Value) (t : α), Keep S w w' → (∀ b, S b → S' b) → V S w v t → V S' w' v t
/-- A row that the call builds: its cells, and what each element is. -/
def GRow (O : Nat → Prop) (T : TypeId) (sz : Nat) (V : (Nat → Prop) → World → Value → α → Prop) (base : Nat) (W : World) (v : Value) (xs : List Value) (ts : List α) : Prop :=
  W.ownsRow base T sz v ts.length xs ∧ ∀ i t, ts[i]? = some t → V (Inn O base W v) W (.agg ((xs.drop (i * sz)).take sz).toArray) t
theorem GRow.nil (W : World) : GRow O T sz V base W (.slice none 0 0) [] [] := ⟨World.ownsRow_nil _ _ _ _, fun i t h => by simp at h⟩
theorem ownsRow_out {W W' : World} {v : Value} {n : Nat} {xs : List Value} (h : W.ownsRow base T sz v n xs) (o : Out O base W W') : W'.ownsRow base T sz v n xs := by
  refine ⟨h.1, ?_⟩
  rcases h.2 with h' | ⟨g, cap, cur, hv, hb, hg, rest⟩
  · exact .inl h'
  · exact .inr ⟨g, cap, cur, hv, hb, (o.block g hb (Array.getElem?_eq_some_iff.1 hg).1).trans hg, rest⟩
theorem GRow.to (hV : KeptV V) {W W' : World} {v : Value} {xs : List Value} {ts : List α} (h : GRow O T sz V base W v xs ts) (o : Out O base W W') : GRow O T sz V base W' v xs ts :=
  ⟨ownsRow_out h.1 o, fun i t ht => hV _ _ _ _ _ _ (fun b hb => hb.elim (o.old b) fun hb => o.block b hb.1 hb.2.1) (fun _ hb => hb.elim .inl fun hb => .inr ⟨hb.1, Nat.lt_of_lt_of_le hb.2.1 o.size, hb.2.2⟩) (h.2 i t ht)⟩
theorem GRow.app (hV : KeptV V) (hO : ∀ b, O b → b < base) {W w' : World} {v : Value} {xs : List Value} {ts : List α} (h : GRow O T sz V base W v xs ts) {g cap : Nat} {cs : List Value} {t : α} (hcs : cs.length = sz)
    (hown : w'.ownsRow base T sz (.slice (some ⟨g, 0, none⟩) (ts.length + 1) cap) (ts.length + 1) (xs ++ cs)) (hgr : W.grownBy w' v.ownBlock) (hgl : v.ownBlock = some g ∨ g = W.heap.size) (hbs : base ≤ W.heap.size) (ht : V (Inn O base W v) W (.agg cs.toArray) t) :
    GRow O T sz V base w' (.slice (some ⟨g, 0, none⟩) (ts.length + 1) cap) (xs ++ cs) (ts ++ [t]) := by
  have hx := h.1.1
  have hk : Keep (Inn O base W v) W w' := fun b hb => by
    rcases hb with hb | hb
    · have hg2 : base ≤ W.heap.size := hbs
      exact hgr.block b (Nat.lt_of_lt_of_le (hO b hb) hg2) (fun e => by have := (h.1.lt b e.symm).1; have := hO b hb; omega)
    · exact hgr.block b hb.2.1 hb.2.2
  have hi : ∀ b, Inn O base W v b → Inn O base w' (.slice (some ⟨g, 0, none⟩) (ts.length + 1) cap) b := fun b hb => hb.elim .inl fun hb => .inr ⟨hb.1, Nat.lt_of_lt_of_le hb.2.1 hgr.size, fun e => by
    have e' : b = g := by simpa [Value.ownBlock] using e
    subst e'
    rcases hgl with h' | h'
    · exact hb.2.2 h'.symm
    · have := hb.2.1; omega⟩
  refine ⟨by simpa using hown, fun i u hu => ?_⟩
  rcases Nat.lt_or_ge i ts.length with hlt | hge
  · have hu' : ts[i]? = some u := by rwa [List.getElem?_append_left hlt] at hu
    have hle : (i + 1) * sz ≤ xs.length := by rw [hx]; exact Nat.mul_le_mul_right _ hlt
    have e : ((xs ++ cs).drop (i * sz)).take sz = (xs.drop (i * sz)).take sz := by
      rw [Nat.add_mul, Nat.one_mul] at hle
      rw [List.drop_append_of_le_length (by omega), List.take_append_of_le_length (by rw [List.length_drop]; omega)]
    rw [e]
    exact hV _ _ _ _ _ _ hk hi (h.2 i u hu')
  · have hi' : i = ts.length := by
      have := (List.getElem?_eq_some_iff.1 hu).1
      simp at this; omega
    subst hi'
    obtain rfl : u = t := by simpa using hu.symm
    have e : ((xs ++ cs).drop (ts.length * sz)).take sz = cs := by
      rw [← hx, List.drop_left, ← hcs, List.take_length]
    rw [e]
    exact hV _ _ _ _ _ _ hk hi ht
/-- Elements in memory, out of values. -/
def MadeE (V : (Nat → Prop) → World → Value → α → Prop) (E : (Nat → Prop) → World → Nat → Nat → α → Prop) : Prop :=
  ∀ (S : Nat → Prop) (W : World) (b o : Nat) (cs : List Value) (t : α), V S W (.agg cs.toArray) t → (∀ j u, cs[j]? = some u → W.cell? ⟨b, o + j, none⟩ = some u) → E S W b o t
theorem GRow.sl (hV : KeptV V) {E : (Nat → Prop) → World → Nat → Nat → α → Prop} (hE : MadeE V E) {W : World} {v : Value} {xs : List Value} {ts : List α} (h : GRow O T sz V base W v xs ts) :
    ∃ p cap, v = .slice p ts.length cap ∧ SlOf (Frs O base W) (E (Frs O base W) W) sz p cap ts := by
  obtain ⟨⟨hx, hown⟩, hel⟩ := h
  rcases hown with ⟨rfl, h0⟩ | ⟨g, cap, cur, rfl, hb, hg, hn, hc, hs, htk⟩
  · have : ts = [] := List.eq_nil_of_length_eq_zero h0
    subst this
    exact ⟨none, 0, rfl, ⟨Nat.le_refl _, Nat.zero_le _⟩, .inl rfl⟩
  · have hgl := (Array.getElem?_eq_some_iff.1 hg).1
    refine ⟨_, cap, rfl, ⟨hn, by unfold maxLen at hc; omega⟩, .inr ⟨g, 0, rfl, .inr ⟨hb, hgl⟩, fun i t ht => ?_⟩⟩
    refine hE _ _ _ _ _ _ (hV _ _ _ _ _ _ (fun _ _ => rfl) (fun _ hb => hb.elim .inl fun hb => .inr ⟨hb.1, hb.2.1⟩) (hel i t ht)) fun j u hu => ?_
    have hj : j < sz := by
      have := (List.getElem?_eq_some_iff.1 hu).1
      rw [List.length_take] at this; omega
    rw [List.getElem?_take_of_lt hj, List.getElem?_drop, ← htk] at hu
    have hu2 := (List.getElem?_eq_some_iff.1 hu)
    rw [List.getElem?_take_of_lt (by obtain ⟨hq, -⟩ := hu2; rw [List.length_take] at hq; omega)] at hu
    have : cur[i * sz + j]? = some u := by simpa using hu
    rw [Nat.zero_add]
    unfold World.cell?
    simp [hg, this]
end
theorem keptE : KeptV ElV := fun _ _ _ _ _ _ hk hS h => h.to hk hS
theorem keptN (n : Nat) : KeptV (fun S W v (t : NT n) => NtV S W n v t) := fun _ _ _ _ _ _ hk hS h => h.to hk hS
theorem keptA (k n : Nat) : KeptV (fun S W v (t : AT k n) => AmV S W k n v t) := fun _ _ _ _ _ _ hk hS h => h.to hk hS
theorem madeE : MadeE ElV ElE := fun S W b o cs t h hc => by
  obtain ⟨pa, ca, he, hA⟩ := h
  simp only [Value.agg.injEq] at he
  have e : cs = [.int .i64 t.1, .slice pa t.2.length ca] := by simpa using congrArg Array.toList he
  subst e
  exact ⟨pa, ca, hc 0 _ rfl, hc 1 _ rfl, hA⟩
theorem madeN (n : Nat) : MadeE (fun S W v (t : NT n) => NtV S W n v t) (fun S W b o t => NtE S W n b o t) := fun S W b o cs t h hc => by
  obtain ⟨kd, op, pa, la, ca, pk, lk, ck, he⟩ := NtV.parts h
  simp only [Value.agg.injEq] at he
  have e : cs = [.int .i64 kd, .int .i64 op, .slice pa la ca, .slice pk lk ck] := by simpa using congrArg Array.toList he
  subst e
  exact NtE.make h (hc 0 _ rfl) (hc 1 _ rfl) (hc 2 _ rfl) (hc 3 _ rfl)
theorem madeA (k n : Nat) : MadeE (fun S W v (t : AT k n) => AmV S W k n v t) (fun S W b o t => AmE S W k n b o t) := fun S W b o cs t h hc => by
  cases n with
  | zero => exact h.elim
  | succ n =>
    have h' := h
    obtain ⟨kd, op, pa, la, ca, pk, lk, ck, pc, cc, pq, cq, he, -, -, -⟩ := h
    simp only [Value.agg.injEq] at he
    have e : cs = [.int .i64 kd, .int .i64 op, .slice pa la ca, .slice pk lk ck, .slice pc t.coils.length cc, .slice pq t.kids.length cq] := by simpa using congrArg Array.toList he
    subst e
    exact AmE.make h' (hc 0 _ rfl) (hc 1 _ rfl) (hc 2 _ rfl) (hc 3 _ rfl) (hc 4 _ rfl) (hc 5 _ rfl)
end Go.Proofs.YtjkpingdokkkcaaGreatDoor.Tr

/- append to a row of contacts, nets, arms of the call's own. Helper text: no statement is claimed here. -/
namespace Go.Proofs.YtjkpingdokkkcaaGreatDoor.Tr
open Go.ChangeShapes Go.WideShapes Go.ChangeAt Go.RowKit

theorem infoE : (Tryz.prog.info? 46).map (fun i => (i.zero, i.size, i.bytes)) = some (some (.agg #[.int .i64 0, .slice none 0 0]), 2, 32) := by kernel_rfl
/-- A row of the call's own. -/
abbrev RowE (O : Nat → Prop) (base : Nat) (W : World) (v : Value) (ts : List (El)) : Prop := ∃ xs, GRow O 46 2 ElV base W v xs ts
theorem stepE {ops : Array Oper} {o : Oper} {a : Act} {K : Act → World → Prop} {Q : Exit → Act → World → Prop} {E : Prop} (w : World) (hgd : o.guard = none) (s x : Operand)
    (ho : o.op = .call { callee := .builtin .append, args := #[s, x], argTypes := #[50, 50] }) (O : Nat → Prop)  (base : Nat) (v : Value) (ts : List (El)) (hs : a.eval s = v) (hrow : RowE O base w v ts)
    (op : Int) (pa : Option Addr) (la ca : Nat) (B : Nat) (hx : a.eval x = .slice (some ⟨B, 0, none⟩) 1 1) (hB : w.heap[B]? = some (.cells #[.int .i64 op, .slice pa la ca] 46 (0, 0))) (t : El) (ht : ElV (Inn O base w v) w (.agg #[.int .i64 op, .slice pa la ca]) t) (hb : ts.length ≤ 100000) (hbase : base ≤ w.heap.size) (hO : ∀ b, O b → b < base)
    (h : ∀ g cap w', Hid (RowE O base w' (.slice (some ⟨g, 0, none⟩) (ts.length + 1) cap) (ts ++ [t])) → Hid (w.grownBy w' v.ownBlock) → base ≤ g → g < w'.heap.size → K (a.put o.dst (.slice (some ⟨g, 0, none⟩) (ts.length + 1) cap)) w') :
    if Region.wanted o (yielded ops a.tmps) = true then Oper.wp Tryz.prog o a w K Q else E := by
  obtain ⟨i0, hi, hz0, hz1, hz2⟩ := info_parts infoE
  obtain ⟨xs, hrow⟩ := hrow
  refine step_append_lies w hgd s x _ ho base _ i0 _ 2 32 Tryz.underlying50 hi hz0 hz1 hz2 rfl (by decide) v ts.length xs hs hrow.1 ⟨B, 0, none⟩ 1 1 [.int .i64 op, .slice pa la ca] hx (by rfl) (World.news_of_block (cs := #[.int .i64 op, .slice pa la ca]) hB) (by simp [Value.oneCell']) (by omega) (by unfold maxLen; omega) (by omega) hbase _ rfl ?_
  intro g cap w' h1 h2 h3 h4
  have hg : base ≤ g := by
    rcases h3 with h3 | h3
    · exact (hrow.1.lt g h3).1
    · omega
  exact h g cap w' ⟨_, hrow.app keptE hO rfl h1 h2 h3 hbase ht⟩ h2 hg h4
theorem infoN : (Tryz.prog.info? 49).map (fun i => (i.zero, i.size, i.bytes)) = some (some (.agg #[.int .i64 0, .int .i64 0, .slice none 0 0, .slice none 0 0]), 4, 64) := by kernel_rfl
/-- A row of the call's own. -/
abbrev RowN (O : Nat → Prop) (n : Nat) (base : Nat) (W : World) (v : Value) (ts : List (NT n)) : Prop := ∃ xs, GRow O 49 4 (fun S W v (t : NT n) => NtV S W n v t) base W v xs ts
theorem stepN {ops : Array Oper} {o : Oper} {a : Act} {K : Act → World → Prop} {Q : Exit → Act → World → Prop} {E : Prop} (w : World) (hgd : o.guard = none) (s x : Operand)
    (ho : o.op = .call { callee := .builtin .append, args := #[s, x], argTypes := #[47, 47] }) (O : Nat → Prop) (n : Nat) (base : Nat) (v : Value) (ts : List (NT n)) (hs : a.eval s = v) (hrow : RowN O n base w v ts)
    (kd op : Int) (pa : Option Addr) (la ca : Nat) (pk : Option Addr) (lk ck : Nat) (B : Nat) (hx : a.eval x = .slice (some ⟨B, 0, none⟩) 1 1) (hB : w.heap[B]? = some (.cells #[.int .i64 kd, .int .i64 op, .slice pa la ca, .slice pk lk ck] 49 (0, 0))) (t : NT n) (ht : (fun S W v (t : NT n) => NtV S W n v t) (Inn O base w v) w (.agg #[.int .i64 kd, .int .i64 op, .slice pa la ca, .slice pk lk ck]) t) (hb : ts.length ≤ 100000) (hbase : base ≤ w.heap.size) (hO : ∀ b, O b → b < base)
    (h : ∀ g cap w', Hid (RowN O n base w' (.slice (some ⟨g, 0, none⟩) (ts.length + 1) cap) (ts ++ [t])) → Hid (w.grownBy w' v.ownBlock) → base ≤ g → g < w'.heap.size → K (a.put o.dst (.slice (some ⟨g, 0, none⟩) (ts.length + 1) cap)) w') :
    if Region.wanted o (yielded ops a.tmps) = true then Oper.wp Tryz.prog o a w K Q else E := by
  obtain ⟨i0, hi, hz0, hz1, hz2⟩ := info_parts infoN
  obtain ⟨xs, hrow⟩ := hrow
  refine step_append_lies w hgd s x _ ho base _ i0 _ 4 64 Tryz.underlying47 hi hz0 hz1 hz2 rfl (by decide) v ts.length xs hs hrow.1 ⟨B, 0, none⟩ 1 1 [.int .i64 kd, .int .i64 op, .slice pa la ca, .slice pk lk ck] hx (by rfl) (World.news_of_block (cs := #[.int .i64 kd, .int .i64 op, .slice pa la ca, .slice pk lk ck]) hB) (by simp [Value.oneCell']) (by omega) (by unfold maxLen; omega) (by omega) hbase _ rfl ?_
  intro g cap w' h1 h2 h3 h4
  have hg : base ≤ g := by
    rcases h3 with h3 | h3
    · exact (hrow.1.lt g h3).1
    · omega
  exact h g cap w' ⟨_, hrow.app (keptN n) hO rfl h1 h2 h3 hbase ht⟩ h2 hg h4
theorem infoA : (Tryz.prog.info? 52).map (fun i => (i.zero, i.size, i.bytes)) = some (some (.agg #[.int .i64 0, .int .i64 0, .slice none 0 0, .slice none 0 0, .slice none 0 0, .slice none 0 0]), 6, 112) := by kernel_rfl
/-- A row of the call's own. -/
abbrev RowA (O : Nat → Prop) (k n : Nat) (base : Nat) (W : World) (v : Value) (ts : List (AT k n)) : Prop := ∃ xs, GRow O 52 6 (fun S W v (t : AT k n) => AmV S W k n v t) base W v xs ts
theorem stepA {ops : Array Oper} {o : Oper} {a : Act} {K : Act → World → Prop} {Q : Exit → Act → World → Prop} {E : Prop} (w : World) (hgd : o.guard = none) (s x : Operand)
    (ho : o.op = .call { callee := .builtin .append, args := #[s, x], argTypes := #[23, 23] }) (O : Nat → Prop) (k n : Nat) (base : Nat) (v : Value) (ts : List (AT k n)) (hs : a.eval s = v) (hrow : RowA O k n base w v ts)
    (kd op : Int) (pa : Option Addr) (la ca : Nat) (pk : Option Addr) (lk ck : Nat) (pc : Option Addr) (lc cc : Nat) (pq : Option Addr) (lq cq : Nat) (B : Nat) (hx : a.eval x = .slice (some ⟨B, 0, none⟩) 1 1) (hB : w.heap[B]? = some (.cells #[.int .i64 kd, .int .i64 op, .slice pa la ca, .slice pk lk ck, .slice pc lc cc, .slice pq lq cq] 52 (0, 0))) (t : AT k n) (ht : (fun S W v (t : AT k n) => AmV S W k n v t) (Inn O base w v) w (.agg #[.int .i64 kd, .int .i64 op, .slice pa la ca, .slice pk lk ck, .slice pc lc cc, .slice pq lq cq]) t) (hb : ts.length ≤ 100000) (hbase : base ≤ w.heap.size) (hO : ∀ b, O b → b < base)
    (h : ∀ g cap w', Hid (RowA O k n base w' (.slice (some ⟨g, 0, none⟩) (ts.length + 1) cap) (ts ++ [t])) → Hid (w.grownBy w' v.ownBlock) → base ≤ g → g < w'.heap.size → K (a.put o.dst (.slice (some ⟨g, 0, none⟩) (ts.length + 1) cap)) w') :
    if Region.wanted o (yielded ops a.tmps) = true then Oper.wp Tryz.prog o a w K Q else E := by
  obtain ⟨i0, hi, hz0, hz1, hz2⟩ := info_parts infoA
  obtain ⟨xs, hrow⟩ := hrow
  refine step_append_lies w hgd s x _ ho base _ i0 _ 6 112 Tryz.underlying23 hi hz0 hz1 hz2 rfl (by decide) v ts.length xs hs hrow.1 ⟨B, 0, none⟩ 1 1 [.int .i64 kd, .int .i64 op, .slice pa la ca, .slice pk lk ck, .slice pc lc cc, .slice pq lq cq] hx (by rfl) (World.news_of_block (cs := #[.int .i64 kd, .int .i64 op, .slice pa la ca, .slice pk lk ck, .slice pc lc cc, .slice pq lq cq]) hB) (by simp [Value.oneCell']) (by omega) (by unfold maxLen; omega) (by omega) hbase _ rfl ?_
  intro g cap w' h1 h2 h3 h4
  have hg : base ≤ g := by
    rcases h3 with h3 | h3
    · exact (hrow.1.lt g h3).1
    · omega
  exact h g cap w' ⟨_, hrow.app (keptA k n) hO rfl h1 h2 h3 hbase ht⟩ h2 hg h4
end Go.Proofs.YtjkpingdokkkcaaGreatDoor.Tr
