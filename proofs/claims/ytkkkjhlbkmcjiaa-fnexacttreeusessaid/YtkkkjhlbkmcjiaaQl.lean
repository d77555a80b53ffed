/- The comparing of two copies of one tree in the exact laws. Helper text: no statement is claimed here. -/
import Derived.Test.YtkkkjhlbkmcjiaaQd
namespace Go.Proofs.Ytkkkjhlbkmcjiaa.Tr
open Go.ChangeShapes Go.WideShapes Go.ChangeAt Go.RowKit

theorem of_two {w w1 : World} {o1 o2 : Obj} (h : Below ((w.alloc o1).alloc o2).heap.size ((w.alloc o1).alloc o2) w1) : Below w.heap.size w w1 := of_one (of_one h)
theorem two (w : World) (o1 o2 : Obj) : Below w.heap.size w ((w.alloc o1).alloc o2) := (one _ _).alloc (by simp) _
set_option maxHeartbeats 400000 in
theorem eqArg_any (k n p : Int) (w : World) :
    Calls Try.prog 60 #[.agg #[.int .i64 k, .int .i64 n, .int .i64 p], .agg #[.int .i64 k, .int .i64 n, .int .i64 p]] w fun e w' => e = .returned (.bool true) ∧ Below w.heap.size w w' := by
  go_enter Try.func60, Try.ntmps60
  go_wp2
  go_ret
  exact ⟨rfl, (one _ _).alloc (by simp) _⟩
set_option maxHeartbeats 1000000 in
theorem eqArgs_any {S : Nat → Prop} {w : World} (hSw : ∀ b, S b → b < w.heap.size) (p p2 : Option Addr) (cap cap2 : Nat) (es : List (Ar)) (hV : SlOf S (ArE w) 3 p cap es) (hV2 : SlOf S (ArE w) 3 p2 cap2 es) :
    Calls Try.prog 59 #[.slice p es.length cap, .slice p2 es.length cap2] w fun r w' => r = .returned (.bool true) ∧ Below w.heap.size w w' := by
  have HV : Hid (SlOf S (ArE w) 3 p cap es) := hV
  have HV2 : Hid (SlOf S (ArE w) 3 p2 cap2 es) := hV2
  have HSw : Hid (∀ b, S b → b < w.heap.size) := hSw
  obtain ⟨⟨hl1, hl2⟩, -⟩ := hV
  obtain ⟨⟨hl3, -⟩, -⟩ := hV2
  clear hSw
  go_enter Try.func59, Try.ntmps59
  go_wp2
  go_loopw [5] (fun d w' => ∃ j : Nat, j ≤ es.length ∧ d = .int .i64 (j : Int) ∧ Hid (Below w.heap.size w w')) (fun d _ => es.length - (intOf d).toNat)
  case atStart => exact ⟨0, by omega, rfl, Below.refl _ _⟩
  case round =>
    obtain ⟨j, hj, rfl, HB⟩ := hrel
    rename_i wr
    by_cases hlt : j < es.length
    · have hlt' : (j : Int) < (es.length : Int) := by omega
      obtain ⟨t, ht⟩ := get_lt hlt
      obtain ⟨b, off, rfl, hb, c0, c1, c2⟩ := (args_to (Keep.of HB.out HSw.out) (fun _ h => h) HV.out).get ht
      obtain ⟨b', off', rfl, hb', d0, d1, d2⟩ := (args_to (Keep.of HB.out HSw.out) (fun _ h => h) HV2.out).get ht
      obtain ⟨kk, nn, pp⟩ := t
      have HG : Hid (∀ (d : Nat) (os : Array Obj), Calls Try.prog 60 #[.agg #[.int .i64 kk, .int .i64 nn, .int .i64 pp], .agg #[.int .i64 kk, .int .i64 nn, .int .i64 pp]] (Sort.grow (redrawn wr d) os) fun e w'' => e = .returned (.bool true) ∧ ∃ p' : Regrown, w'' = Sort.grow (redrawn wr p'.d) p'.os) := fun d os => Calls.regrown_of (eqArg_any kk nn pp _)
      have k0 := cell_regrown c0
      have q0 := cell_regrown d0
      have k1 := cell_regrown c1
      have q1 := cell_regrown d1
      have k2 := cell_regrown c2
      have q2 := cell_regrown d2
      go_wp2
      refine wp_region_quiet_below (by kernel_rfl) (by kernel_rfl) ?_
      repeat (first | go_big_quiet_step (exact HG.out _ _) | quiet_step (exact HG.out _ _))
      refine wpQuiet_nil ?_
      intro _ hw'
      obtain ⟨⟨dq, osq⟩, hw''⟩ := hw'
      subst hw''
      have HBq : Hid (Below w.heap.size w (Sort.grow (redrawn wr dq) osq)) := HB.out.trans ((below_regrown _ dq osq).mono HB.out.size)
      clear k0 k1 k2 q0 q1 q2 c0 c1 c2 d0 d1 d2 HG
      generalize Sort.grow (redrawn wr dq) osq = wq at *
      go_wp2
      exact ⟨⟨j + 1, by omega, by go_num, HBq⟩, by simp [intOf]; omega⟩
    · obtain rfl : j = es.length := by omega
      go_wp2
      go_ret
      exact ⟨rfl, HB.out⟩

set_option maxHeartbeats 1000000 in
theorem eqElem_any {S : Nat → Prop} {w : World} (hSw : ∀ b, S b → b < w.heap.size) (v v2 : Value) (e : El) (hV : ElV S w v e) (hV2 : ElV S w v2 e) :
    Calls Try.prog 54 #[v, v2] w fun r w' => r = .returned (.bool true) ∧ Below w.heap.size w w' := by
  obtain ⟨pa, ca, rfl, hA⟩ := hV
  obtain ⟨pb, cb, rfl, hA2⟩ := hV2
  have HC : Hid (∀ W, Below w.heap.size w W → Calls Try.prog 59 #[.slice pa e.2.length ca, .slice pb e.2.length cb] W fun r w' => r = .returned (.bool true) ∧ Below W.heap.size W w') :=
    fun W hW => eqArgs_any (S := S) (fun b hb => Nat.lt_of_lt_of_le (hSw b hb) hW.size) pa pb ca cb e.2 (args_to (Keep.of hW hSw) (fun _ h => h) hA) (args_to (Keep.of hW hSw) (fun _ h => h) hA2)
  clear hSw hA hA2
  generalize e.2.length = la at *
  generalize e.1 = op at *
  go_enter Try.func54, Try.ntmps54
  go_wp2_with fail
  refine (HC.out _ (two _ _ _)).mono ?_
  rintro r w1 ⟨rfl, hb1⟩
  go_wp2
  go_ret
  exact ⟨rfl, of_two hb1⟩
set_option maxHeartbeats 1000000 in
theorem eqElems_any {S : Nat → Prop} {w : World} (hSw : ∀ b, S b → b < w.heap.size) (p p2 : Option Addr) (cap cap2 : Nat) (es : List (El)) (hV : SlOf S (ElE S w) 2 p cap es) (hV2 : SlOf S (ElE S w) 2 p2 cap2 es) :
    Calls Try.prog 41 #[.slice p es.length cap, .slice p2 es.length cap2] w fun r w' => r = .returned (.bool true) ∧ Below w.heap.size w w' := by
  have HV : Hid (SlOf S (ElE S w) 2 p cap es) := hV
  have HV2 : Hid (SlOf S (ElE S w) 2 p2 cap2 es) := hV2
  have HSw : Hid (∀ b, S b → b < w.heap.size) := hSw
  obtain ⟨⟨hl1, hl2⟩, -⟩ := hV
  obtain ⟨⟨hl3, -⟩, -⟩ := hV2
  clear hSw
  go_enter Try.func41, Try.ntmps41
  go_wp2
  go_loopw [5] (fun d w' => ∃ j : Nat, j ≤ es.length ∧ d = .int .i64 (j : Int) ∧ Hid (Below w.heap.size w w')) (fun d _ => es.length - (intOf d).toNat)
  case atStart => exact ⟨0, by omega, rfl, Below.refl _ _⟩
  case round =>
    obtain ⟨j, hj, rfl, HB⟩ := hrel
    rename_i wr
    by_cases hlt : j < es.length
    · have hlt' : (j : Int) < (es.length : Int) := by omega
      obtain ⟨t, ht⟩ := get_lt hlt
      obtain ⟨b, off, rfl, hb, pa, ca, c0, c1, hA⟩ := (els_to (Keep.of HB.out HSw.out) (fun _ h => h) HV.out).get ht
      obtain ⟨b', off', rfl, hb', pb, cb, d0, d1, hA2⟩ := (els_to (Keep.of HB.out HSw.out) (fun _ h => h) HV2.out).get ht
      have HE : Hid (ElV S wr (.agg #[.int .i64 t.1, .slice pa t.2.length ca]) t) := ⟨pa, ca, rfl, hA⟩
      have HE2 : Hid (ElV S wr (.agg #[.int .i64 t.1, .slice pb t.2.length cb]) t) := ⟨pb, cb, rfl, hA2⟩
      clear hA hA2
      have HG : Hid (∀ (d : Nat) (os : Array Obj), Calls Try.prog 54 #[.agg #[.int .i64 t.1, .slice pa t.2.length ca], .agg #[.int .i64 t.1, .slice pb t.2.length cb]] (Sort.grow (redrawn wr d) os) fun e w'' => e = .returned (.bool true) ∧ ∃ p' : Regrown, w'' = Sort.grow (redrawn wr p'.d) p'.os) := fun d os => Calls.regrown_of (eqElem_any (S := S) (fun b hb => Nat.lt_of_lt_of_le (HSw.out b hb) (Nat.le_trans HB.out.size (below_regrown wr d os).size)) _ _ t (HE.out.to (Keep.of (below_regrown wr d os) (fun b hb => Nat.lt_of_lt_of_le (HSw.out b hb) HB.out.size)) (fun _ h => h)) (HE2.out.to (Keep.of (below_regrown wr d os) (fun b hb => Nat.lt_of_lt_of_le (HSw.out b hb) HB.out.size)) (fun _ h => h)))
      have k0 := cell_regrown c0
      have q0 := cell_regrown d0
      have k1 := cell_regrown c1
      have q1 := cell_regrown d1
      go_wp2
      refine wp_region_quiet_below (by kernel_rfl) (by kernel_rfl) ?_
      repeat (first | go_big_quiet_step (exact HG.out _ _) | quiet_step (exact HG.out _ _))
      refine wpQuiet_nil ?_
      intro _ hw'
      obtain ⟨⟨dq, osq⟩, hw''⟩ := hw'
      subst hw''
      have HBq : Hid (Below w.heap.size w (Sort.grow (redrawn wr dq) osq)) := HB.out.trans ((below_regrown _ dq osq).mono HB.out.size)
      clear k0 k1 q0 q1 c0 c1 d0 d1 HG
      generalize Sort.grow (redrawn wr dq) osq = wq at *
      go_wp2
      exact ⟨⟨j + 1, by omega, by go_num, HBq⟩, by simp [intOf]; omega⟩
    · obtain rfl : j = es.length := by omega
      go_wp2
      go_ret
      exact ⟨rfl, HB.out⟩

/-- The comparing of nets of a depth below n. -/
def EqN (n : Nat) : Prop := ∀ (S : Nat → Prop) (w : World) (_ : ∀ b, S b → b < w.heap.size) (v v2 : Value) (t : NT n) (_ : NtV S w n v t) (_ : NtV S w n v2 t),
    Calls Try.prog 40 #[v, v2] w fun r w' => r = .returned (.bool true) ∧ Below w.heap.size w w'
def EqA (k n : Nat) : Prop := ∀ (S : Nat → Prop) (w : World) (_ : ∀ b, S b → b < w.heap.size) (v v2 : Value) (t : AT k n) (_ : AmV S w k n v t) (_ : AmV S w k n v2 t),
    Calls Try.prog 20 #[v, v2] w fun r w' => r = .returned (.bool true) ∧ Below w.heap.size w w'
set_option maxHeartbeats 1000000 in
theorem eqNets_any {S : Nat → Prop} {w : World} (hSw : ∀ b, S b → b < w.heap.size) (n : Nat) (IH : Hid (EqN n)) (p p2 : Option Addr) (cap cap2 : Nat) (es : List (NT n)) (hV : SlOf S (NtE S w n) 4 p cap es) (hV2 : SlOf S (NtE S w n) 4 p2 cap2 es) :
    Calls Try.prog 55 #[.slice p es.length cap, .slice p2 es.length cap2] w fun r w' => r = .returned (.bool true) ∧ Below w.heap.size w w' := by
  have HV : Hid (SlOf S (NtE S w n) 4 p cap es) := hV
  have HV2 : Hid (SlOf S (NtE S w n) 4 p2 cap2 es) := hV2
  have HSw : Hid (∀ b, S b → b < w.heap.size) := hSw
  obtain ⟨⟨hl1, hl2⟩, -⟩ := hV
  obtain ⟨⟨hl3, -⟩, -⟩ := hV2
  clear hSw
  go_enter Try.func55, Try.ntmps55
  go_wp2
  go_loopw [5] (fun d w' => ∃ j : Nat, j ≤ es.length ∧ d = .int .i64 (j : Int) ∧ Hid (Below w.heap.size w w')) (fun d _ => es.length - (intOf d).toNat)
  case atStart => exact ⟨0, by omega, rfl, Below.refl _ _⟩
  case round =>
    obtain ⟨j, hj, rfl, HB⟩ := hrel
    rename_i wr
    by_cases hlt : j < es.length
    · have hlt' : (j : Int) < (es.length : Int) := by omega
      obtain ⟨t, ht⟩ := get_lt hlt
      obtain ⟨b, off, rfl, hb, hE⟩ := (nets_to (Keep.of HB.out HSw.out) (fun _ h => h) HV.out).get ht
      obtain ⟨b', off', rfl, hb', hE2⟩ := (nets_to (Keep.of HB.out HSw.out) (fun _ h => h) HV2.out).get ht
      obtain ⟨kd, op, pa, la, ca, pk, lk, ck, c0, c1, c2, c3, hN⟩ := hE.out
      obtain ⟨kd2, op2, pa2, la2, ca2, pk2, lk2, ck2, d0, d1, d2, d3, hN2⟩ := hE2.out
      have HE : Hid (NtV S wr n (.agg #[.int .i64 kd, .int .i64 op, .slice pa la ca, .slice pk lk ck]) t) := hN
      have HE2 : Hid (NtV S wr n (.agg #[.int .i64 kd2, .int .i64 op2, .slice pa2 la2 ca2, .slice pk2 lk2 ck2]) t) := hN2
      clear hN hN2 hE hE2
      have HG : Hid (∀ (d : Nat) (os : Array Obj), Calls Try.prog 40 #[.agg #[.int .i64 kd, .int .i64 op, .slice pa la ca, .slice pk lk ck], .agg #[.int .i64 kd2, .int .i64 op2, .slice pa2 la2 ca2, .slice pk2 lk2 ck2]] (Sort.grow (redrawn wr d) os) fun e w'' => e = .returned (.bool true) ∧ ∃ p' : Regrown, w'' = Sort.grow (redrawn wr p'.d) p'.os) := fun d os => Calls.regrown_of (IH.out S _ (fun b hb => Nat.lt_of_lt_of_le (HSw.out b hb) (Nat.le_trans HB.out.size (below_regrown wr d os).size)) _ _ t (HE.out.to (Keep.of (below_regrown wr d os) (fun b hb => Nat.lt_of_lt_of_le (HSw.out b hb) HB.out.size)) (fun _ h => h)) (HE2.out.to (Keep.of (below_regrown wr d os) (fun b hb => Nat.lt_of_lt_of_le (HSw.out b hb) HB.out.size)) (fun _ h => h)))
      have k0 := cell_regrown c0
      have q0 := cell_regrown d0
      have k1 := cell_regrown c1
      have q1 := cell_regrown d1
      have k2 := cell_regrown c2
      have q2 := cell_regrown d2
      have k3 := cell_regrown c3
      have q3 := cell_regrown d3
      go_wp2
      refine wp_region_quiet_below (by kernel_rfl) (by kernel_rfl) ?_
      repeat (first | go_big_quiet_step (exact HG.out _ _) | quiet_step (exact HG.out _ _))
      refine wpQuiet_nil ?_
      intro _ hw'
      obtain ⟨⟨dq, osq⟩, hw''⟩ := hw'
      subst hw''
      have HBq : Hid (Below w.heap.size w (Sort.grow (redrawn wr dq) osq)) := HB.out.trans ((below_regrown _ dq osq).mono HB.out.size)
      clear k0 k1 k2 k3 q0 q1 q2 q3 c0 c1 c2 c3 d0 d1 d2 d3 HG
      generalize Sort.grow (redrawn wr dq) osq = wq at *
      go_wp2
      exact ⟨⟨j + 1, by omega, by go_num, HBq⟩, by simp [intOf]; omega⟩
    · obtain rfl : j = es.length := by omega
      go_wp2
      go_ret
      exact ⟨rfl, HB.out⟩

theorem cell2 {w w1 : World} {o1 o2 : Obj} {i : Nat} {v : Value} (hb : Below ((w.alloc o1).alloc o2).heap.size ((w.alloc o1).alloc o2) w1) (h : (w.alloc o1).cell? ⟨w.heap.size, i, none⟩ = some v) : w1.cell? ⟨w.heap.size, i, none⟩ = some v := keep1 hb h
theorem cell3 {w w1 : World} {o1 o2 : Obj} {i : Nat} {v : Value} (hb : Below ((w.alloc o1).alloc o2).heap.size ((w.alloc o1).alloc o2) w1) (h : ((w.alloc o1).alloc o2).cell? ⟨(w.alloc o1).heap.size, i, none⟩ = some v) : w1.cell? ⟨w.heap.size + 1, i, none⟩ = some v := by
  rw [World.size_alloc] at h
  exact keep2 hb h
set_option maxHeartbeats 1000000 in
theorem eqNet_next (n : Nat) (IH : EqN n) : EqN (n + 1) := by
  intro S w hSw v v2 t hV hV2
  obtain ⟨pa, ca, pk, ck, rfl, hA, hK⟩ := hV
  obtain ⟨pb, cb, pq, cq, rfl, hA2, hK2⟩ := hV2
  have HC1 : Hid (∀ W, Below w.heap.size w W → Calls Try.prog 54 #[.agg #[.int .i64 t.el.1, .slice pa t.el.2.length ca], .agg #[.int .i64 t.el.1, .slice pb t.el.2.length cb]] W fun r w' => r = .returned (.bool true) ∧ Below W.heap.size W w') :=
    fun W hW => eqElem_any (S := S) (fun b hb => Nat.lt_of_lt_of_le (hSw b hb) hW.size) _ _ t.el ⟨pa, ca, rfl, args_to (Keep.of hW hSw) (fun _ h => h) hA⟩ ⟨pb, cb, rfl, args_to (Keep.of hW hSw) (fun _ h => h) hA2⟩
  have HC2 : Hid (∀ W, Below w.heap.size w W → Calls Try.prog 55 #[.slice pk t.kids.length ck, .slice pq t.kids.length cq] W fun r w' => r = .returned (.bool true) ∧ Below W.heap.size W w') :=
    fun W hW => eqNets_any (S := S) (fun b hb => Nat.lt_of_lt_of_le (hSw b hb) hW.size) n IH pk pq ck cq t.kids (nets_to (Keep.of hW hSw) (fun _ h => h) hK) (nets_to (Keep.of hW hSw) (fun _ h => h) hK2)
  clear hSw hA hK hA2 hK2 IH
  generalize t.kind = kd at *
  generalize t.el.1 = op at *
  generalize t.el.2.length = la at *
  generalize t.kids.length = lk at *
  go_enter Try.func40, Try.ntmps40
  go_wp2_with fail
  refine (HC1.out _ (two _ _ _)).mono ?_
  rintro r w1 ⟨rfl, hb1⟩
  have HB1 : Hid (Below w.heap.size w w1) := of_two hb1
  have c3 : w1.cell? ⟨w.heap.size, 3, none⟩ = some (.slice pk lk ck) := cell2 hb1 (by rw [World.cell?_alloc_mark]; rfl)
  have d3 : w1.cell? ⟨w.heap.size + 1, 3, none⟩ = some (.slice pq lk cq) := cell3 hb1 (by rw [World.cell?_alloc_mark]; rfl)
  clear hb1
  go_wp2_with fail
  refine (HC2.out _ HB1.out).mono ?_
  rintro r w2 ⟨rfl, hb2⟩
  go_wp2
  go_ret
  exact ⟨rfl, HB1.out.trans (hb2.mono HB1.out.size)⟩
theorem eqNet_any : ∀ n, EqN n
  | 0 => fun _ _ _ _ _ _ h => h.elim
  | n + 1 => eqNet_next n (eqNet_any n)
set_option maxHeartbeats 1000000 in
theorem eqArms_any {S : Nat → Prop} {w : World} (hSw : ∀ b, S b → b < w.heap.size) (k n : Nat) (IH : Hid (EqA k n)) (p p2 : Option Addr) (cap cap2 : Nat) (es : List (AT k n)) (hV : SlOf S (AmE S w k n) 6 p cap es) (hV2 : SlOf S (AmE S w k n) 6 p2 cap2 es) :
    Calls Try.prog 10 #[.slice p es.length cap, .slice p2 es.length cap2] w fun r w' => r = .returned (.bool true) ∧ Below w.heap.size w w' := by
  have HV : Hid (SlOf S (AmE S w k n) 6 p cap es) := hV
  have HV2 : Hid (SlOf S (AmE S w k n) 6 p2 cap2 es) := hV2
  have HSw : Hid (∀ b, S b → b < w.heap.size) := hSw
  obtain ⟨⟨hl1, hl2⟩, -⟩ := hV
  obtain ⟨⟨hl3, -⟩, -⟩ := hV2
  clear hSw
  go_enter Try.func10, Try.ntmps10
  go_wp2
  go_loopw [5] (fun d w' => ∃ j : Nat, j ≤ es.length ∧ d = .int .i64 (j : Int) ∧ Hid (Below w.heap.size w w')) (fun d _ => es.length - (intOf d).toNat)
  case atStart => exact ⟨0, by omega, rfl, Below.refl _ _⟩
  case round =>
    obtain ⟨j, hj, rfl, HB⟩ := hrel
    rename_i wr
    by_cases hlt : j < es.length
    · have hlt' : (j : Int) < (es.length : Int) := by omega
      obtain ⟨t, ht⟩ := get_lt hlt
      obtain ⟨b, off, rfl, hb, hE⟩ := (arms_to (Keep.of HB.out HSw.out) (fun _ h => h) HV.out).get ht
      obtain ⟨b', off', rfl, hb', hE2⟩ := (arms_to (Keep.of HB.out HSw.out) (fun _ h => h) HV2.out).get ht
      obtain ⟨kd, op, pa, la, ca, pk, lk, ck, pc, lc, cc, pq, lq, cq, c0, c1, c2, c3, c4, c5, hN⟩ := hE.out
      obtain ⟨kd2, op2, pa2, la2, ca2, pk2, lk2, ck2, pc2, lc2, cc2, pq2, lq2, cq2, d0, d1, d2, d3, d4, d5, hN2⟩ := hE2.out
      have HE : Hid (AmV S wr k n (.agg #[.int .i64 kd, .int .i64 op, .slice pa la ca, .slice pk lk ck, .slice pc lc cc, .slice pq lq cq]) t) := hN
      have HE2 : Hid (AmV S wr k n (.agg #[.int .i64 kd2, .int .i64 op2, .slice pa2 la2 ca2, .slice pk2 lk2 ck2, .slice pc2 lc2 cc2, .slice pq2 lq2 cq2]) t) := hN2
      clear hN hN2 hE hE2
      have HG : Hid (∀ (d : Nat) (os : Array Obj), Calls Try.prog 20 #[.agg #[.int .i64 kd, .int .i64 op, .slice pa la ca, .slice pk lk ck, .slice pc lc cc, .slice pq lq cq], .agg #[.int .i64 kd2, .int .i64 op2, .slice pa2 la2 ca2, .slice pk2 lk2 ck2, .slice pc2 lc2 cc2, .slice pq2 lq2 cq2]] (Sort.grow (redrawn wr d) os) fun e w'' => e = .returned (.bool true) ∧ ∃ p' : Regrown, w'' = Sort.grow (redrawn wr p'.d) p'.os) := fun d os => Calls.regrown_of (IH.out S _ (fun b hb => Nat.lt_of_lt_of_le (HSw.out b hb) (Nat.le_trans HB.out.size (below_regrown wr d os).size)) _ _ t (HE.out.to (Keep.of (below_regrown wr d os) (fun b hb => Nat.lt_of_lt_of_le (HSw.out b hb) HB.out.size)) (fun _ h => h)) (HE2.out.to (Keep.of (below_regrown wr d os) (fun b hb => Nat.lt_of_lt_of_le (HSw.out b hb) HB.out.size)) (fun _ h => h)))
      have k0 := cell_regrown c0
      have q0 := cell_regrown d0
      have k1 := cell_regrown c1
      have q1 := cell_regrown d1
      have k2 := cell_regrown c2
      have q2 := cell_regrown d2
      have k3 := cell_regrown c3
      have q3 := cell_regrown d3
      have k4 := cell_regrown c4
      have q4 := cell_regrown d4
      have k5 := cell_regrown c5
      have q5 := cell_regrown d5
      go_wp2
      refine wp_region_quiet_below (by kernel_rfl) (by kernel_rfl) ?_
      repeat (first | go_big_quiet_step (exact HG.out _ _) | quiet_step (exact HG.out _ _))
      refine wpQuiet_nil ?_
      intro _ hw'
      obtain ⟨⟨dq, osq⟩, hw''⟩ := hw'
      subst hw''
      have HBq : Hid (Below w.heap.size w (Sort.grow (redrawn wr dq) osq)) := HB.out.trans ((below_regrown _ dq osq).mono HB.out.size)
      clear k0 k1 k2 k3 k4 k5 q0 q1 q2 q3 q4 q5 c0 c1 c2 c3 c4 c5 d0 d1 d2 d3 d4 d5 HG
      generalize Sort.grow (redrawn wr dq) osq = wq at *
      go_wp2
      exact ⟨⟨j + 1, by omega, by go_num, HBq⟩, by simp [intOf]; omega⟩
    · obtain rfl : j = es.length := by omega
      go_wp2
      go_ret
      exact ⟨rfl, HB.out⟩

set_option maxHeartbeats 1000000 in
theorem eqArm_next (k n : Nat) (IH : EqA k n) : EqA k (n + 1) := by
  intro S w hSw v v2 t hV hV2
  obtain ⟨kd, op, pa, la, ca, pk, lk, ck, pc, cc, pq, cq, rfl, hN, hC, hK⟩ := hV
  obtain ⟨kd2, op2, pa2, la2, ca2, pk2, lk2, ck2, pc2, cc2, pq2, cq2, rfl, hN2, hC2, hK2⟩ := hV2
  have HC1 : Hid (∀ W, Below w.heap.size w W → Calls Try.prog 40 #[.agg #[.int .i64 kd, .int .i64 op, .slice pa la ca, .slice pk lk ck], .agg #[.int .i64 kd2, .int .i64 op2, .slice pa2 la2 ca2, .slice pk2 lk2 ck2]] W fun r w' => r = .returned (.bool true) ∧ Below W.heap.size W w') :=
    fun W hW => eqNet_any (k + 1) S W (fun b hb => Nat.lt_of_lt_of_le (hSw b hb) hW.size) _ _ t.net (hN.to (Keep.of hW hSw) (fun _ h => h)) (hN2.to (Keep.of hW hSw) (fun _ h => h))
  have HC2 : Hid (∀ W, Below w.heap.size w W → Calls Try.prog 41 #[.slice pc t.coils.length cc, .slice pc2 t.coils.length cc2] W fun r w' => r = .returned (.bool true) ∧ Below W.heap.size W w') :=
    fun W hW => eqElems_any (S := S) (fun b hb => Nat.lt_of_lt_of_le (hSw b hb) hW.size) pc pc2 cc cc2 t.coils (els_to (Keep.of hW hSw) (fun _ h => h) hC) (els_to (Keep.of hW hSw) (fun _ h => h) hC2)
  have HC3 : Hid (∀ W, Below w.heap.size w W → Calls Try.prog 10 #[.slice pq t.kids.length cq, .slice pq2 t.kids.length cq2] W fun r w' => r = .returned (.bool true) ∧ Below W.heap.size W w') :=
    fun W hW => eqArms_any (S := S) (fun b hb => Nat.lt_of_lt_of_le (hSw b hb) hW.size) k n IH pq pq2 cq cq2 t.kids (arms_to (Keep.of hW hSw) (fun _ h => h) hK) (arms_to (Keep.of hW hSw) (fun _ h => h) hK2)
  clear hSw hN hC hK hN2 hC2 hK2 IH
  generalize t.coils.length = lc at *
  generalize t.kids.length = lq at *
  go_enter Try.func20, Try.ntmps20
  go_wp2_with fail
  refine (HC1.out _ (two _ _ _)).mono ?_
  rintro r w1 ⟨rfl, hb1⟩
  have HB1 : Hid (Below w.heap.size w w1) := of_two hb1
  have c4 : w1.cell? ⟨w.heap.size, 4, none⟩ = some (.slice pc lc cc) := cell2 hb1 (by rw [World.cell?_alloc_mark]; rfl)
  have d4 : w1.cell? ⟨w.heap.size + 1, 4, none⟩ = some (.slice pc2 lc cc2) := cell3 hb1 (by rw [World.cell?_alloc_mark]; rfl)
  have c5 : w1.cell? ⟨w.heap.size, 5, none⟩ = some (.slice pq lq cq) := cell2 hb1 (by rw [World.cell?_alloc_mark]; rfl)
  have d5 : w1.cell? ⟨w.heap.size + 1, 5, none⟩ = some (.slice pq2 lq cq2) := cell3 hb1 (by rw [World.cell?_alloc_mark]; rfl)
  clear hb1
  go_wp2_with fail
  refine (HC2.out _ HB1.out).mono ?_
  rintro r w2 ⟨rfl, hb2⟩
  have HB2 : Hid (Below w.heap.size w w2) := HB1.out.trans (hb2.mono HB1.out.size)
  replace c5 := keep2 hb2 c5
  replace d5 := keep2 hb2 d5
  clear hb2
  go_wp2_with fail
  refine (HC3.out _ HB2.out).mono ?_
  rintro r w3 ⟨rfl, hb3⟩
  go_wp2
  go_ret
  exact ⟨rfl, HB2.out.trans (hb3.mono HB2.out.size)⟩
theorem eqArm_any (k : Nat) : ∀ n, EqA k n
  | 0 => fun _ _ _ _ _ _ h => h.elim
  | n + 1 => eqArm_next k n (eqArm_any k n)
end Go.Proofs.Ytkkkjhlbkmcjiaa.Tr
