/- Whether two contacts, nets, arms are the same: mathematics, and the program's treeSameElem. Helper text: no statement is claimed here. -/
import Derived.Test.YtkkkjhlbkmcjiaaQd
namespace Go.Proofs.Ytkkkjhlbkmcjiaa.Tr
open Go.ChangeShapes Go.WideShapes Go.ChangeAt Go.RowKit

/-- Two lists are the same, part by part. -/
def eqL {α : Type} (f : α → α → Bool) : List α → List α → Bool
  | [], [] => true
  | a :: l, b :: m => f a b && eqL f l m
  | _, _ => false
theorem eqL_len {α : Type} {f : α → α → Bool} : ∀ {l m : List α}, l.length ≠ m.length → eqL f l m = false
  | [], [], h => absurd rfl h
  | [], _ :: _, _ => rfl
  | _ :: _, [], _ => rfl
  | a :: l, b :: m, h => by
    rw [List.length_cons, List.length_cons] at h
    rw [eqL, eqL_len (by omega), Bool.and_false]
theorem eqL_yes {α : Type} {f : α → α → Bool} : ∀ {l m : List α}, l.length = m.length → (∀ (i : Nat) (a b : α), l[i]? = some a → m[i]? = some b → f a b = true) → eqL f l m = true
  | [], [], _, _ => rfl
  | [], _ :: _, h, _ => by simp at h
  | _ :: _, [], h, _ => by simp at h
  | a :: l, b :: m, h, hf => by
    rw [List.length_cons, List.length_cons] at h
    rw [eqL, hf 0 a b rfl rfl, eqL_yes (by omega) (fun i x y hx hy => hf (i + 1) x y (by simpa using hx) (by simpa using hy)), Bool.true_and]
theorem eqL_no {α : Type} {f : α → α → Bool} : ∀ {l m : List α} (i : Nat) {a b : α}, l[i]? = some a → m[i]? = some b → f a b = false → eqL f l m = false
  | [], _, i, _, _, h, _, _ => by simp at h
  | _ :: _, [], i, _, _, _, h, _ => by simp at h
  | x :: l, y :: m, 0, a, b, h, h', hf => by
    simp at h h'
    subst h h'
    rw [eqL, hf, Bool.false_and]
  | x :: l, y :: m, i + 1, a, b, h, h', hf => by
    rw [eqL, eqL_no i (by simpa using h) (by simpa using h') hf, Bool.and_false]
/-- The first j parts of two lists are the same. -/
def UpTo {α : Type} (f : α → α → Bool) (l m : List α) (j : Nat) : Prop := ∀ (i : Nat) (a b : α), i < j → l[i]? = some a → m[i]? = some b → f a b = true
theorem UpTo.zero {α : Type} {f : α → α → Bool} {l m : List α} : UpTo f l m 0 := fun i a b h => by omega
theorem UpTo.next {α : Type} {f : α → α → Bool} {l m : List α} {j : Nat} {x y : α} (h : UpTo f l m j) (hx : l[j]? = some x) (hy : m[j]? = some y) (hf : f x y = true) : UpTo f l m (j + 1) := fun i a b hi ha hb => by
  rcases Nat.lt_or_ge i j with hlt | hge
  · exact h i a b hlt ha hb
  · obtain rfl : i = j := by omega
    obtain rfl := Option.some.inj (ha.symm.trans hx)
    obtain rfl := Option.some.inj (hb.symm.trans hy)
    exact hf
theorem UpTo.all {α : Type} {f : α → α → Bool} {l m : List α} (h : UpTo f l m l.length) (hl : l.length = m.length) : eqL f l m = true :=
  eqL_yes hl fun i a b ha hb => h i a b (List.getElem?_eq_some_iff.1 ha).1 ha hb
def eqAr (a b : Ar) : Bool := decide (a.1 = b.1) && decide (a.2.1 = b.2.1) && decide (a.2.2 = b.2.2)
def eqE (a b : El) : Bool := decide (a.1 = b.1) && eqL eqAr a.2 b.2
def eqN : (n : Nat) → NT n → NT n → Bool
  | 0, _, _ => true
  | n + 1, a, b => decide (a.kind = b.kind) && eqE a.el b.el && eqL (eqN n) a.kids b.kids
def eqA (k : Nat) : (n : Nat) → AT k n → AT k n → Bool
  | 0, _, _ => true
  | n + 1, a, b => eqN (k + 1) a.net b.net && eqL eqE a.coils b.coils && eqL (eqA k n) a.kids b.kids

theorem neq_arg (a0 a1 a2 b0 b1 b2 : Int) (w : World) : (binOp .neq 33 (.agg #[.int .i64 a0, .int .i64 a1, .int .i64 a2]) (.agg #[.int .i64 b0, .int .i64 b1, .int .i64 b2])).run Try.prog w = .ok (.bool (!eqAr (a0, a1, a2) (b0, b1, b2))) w := by
  by_cases h0 : a0 = b0
  · by_cases h1 : a1 = b1
    · by_cases h2 : a2 = b2
      · simp [go_sem, eqAr, h0, h1, h2]
      · simp [go_sem, eqAr, h0, h1, h2]
    · simp [go_sem, eqAr, h0, h1]
  · simp [go_sem, eqAr, h0]
set_option maxHeartbeats 1000000 in
theorem iEqual_any {S S2 : Nat → Prop} {w : World} (hSw : ∀ b, S b → b < w.heap.size) (hSw2 : ∀ b, S2 b → b < w.heap.size) (p p2 : Option Addr) (cap cap2 : Nat) (es fs : List Ar) (hV : SlOf S (ArE w) 3 p cap es) (hV2 : SlOf S2 (ArE w) 3 p2 cap2 fs) :
    Calls Try.prog 46 #[.slice p es.length cap, .slice p2 fs.length cap2] w fun r w' => r = .returned (.bool (eqL eqAr es fs)) ∧ Below w.heap.size w w' := by
  have HV : Hid (SlOf S (ArE w) 3 p cap es) := hV
  have HV2 : Hid (SlOf S2 (ArE w) 3 p2 cap2 fs) := hV2
  have HSw : Hid (∀ b, S b → b < w.heap.size) := hSw
  have HSw2 : Hid (∀ b, S2 b → b < w.heap.size) := hSw2
  obtain ⟨⟨hl1, hl2⟩, -⟩ := hV
  obtain ⟨⟨hl3, hl4⟩, -⟩ := hV2
  clear hSw hSw2
  obtain ⟨R, hR⟩ : ∃ R : Bool, R = eqL eqAr es fs := ⟨_, rfl⟩
  rw [← hR]
  have HR : Hid (R = eqL eqAr es fs) := hR
  clear hR
  by_cases hlen : es.length = fs.length
  · have HL : Hid (es.length = fs.length) := hlen
    rw [← hlen]
    rw [← hlen] at hl3
    clear hlen hl4
    go_enter Try.func46, Try.ntmps46
    go_wp2
    go_loopw [13] (fun d w' => ∃ j : Nat, j ≤ es.length ∧ d = .int .i64 (j : Int) ∧ Hid (UpTo eqAr es fs j) ∧ Hid (Below w.heap.size w w')) (fun d _ => es.length - (intOf d).toNat)
    case atStart => exact ⟨0, by omega, rfl, UpTo.zero, Below.refl _ _⟩
    case round =>
      obtain ⟨j, hj, rfl, HP, HB⟩ := hrel
      rename_i wr
      by_cases hlt : j < es.length
      · have hlt' : (j : Int) < (es.length : Int) := by omega
        obtain ⟨t, ht⟩ := get_lt hlt
        obtain ⟨u, hu⟩ := get_lt (ts := fs) (j := j) (HL.out ▸ hlt)
        obtain ⟨b, off, rfl, hb, c0, c1, c2⟩ := (args_to (Keep.of HB.out HSw.out) (fun _ h => h) HV.out).get ht
        obtain ⟨b', off', rfl, hb', d0, d1, d2⟩ := (args_to (Keep.of HB.out HSw2.out) (fun _ h => h) HV2.out).get hu
        obtain ⟨t0, t1, t2⟩ := t
        obtain ⟨u0, u1, u2⟩ := u
        have k0 := cell_regrown c0
        have k1 := cell_regrown c1
        have k2 := cell_regrown c2
        have q0 := cell_regrown d0
        have q1 := cell_regrown d1
        have q2 := cell_regrown d2
        have hnq := neq_arg t0 t1 t2 u0 u1 u2
        have HT : Hid (es[j]? = some (t0, t1, t2)) := ht
        have HU : Hid (fs[j]? = some (u0, u1, u2)) := hu
        clear ht hu
        cases hq : eqAr (t0, t1, t2) (u0, u1, u2) with
        | true =>
          have HQ : Hid (eqAr (t0, t1, t2) (u0, u1, u2) = true) := hq
          rw [hq] at hnq
          clear hq
          go_wp2
          refine wp_region_quiet_below (by kernel_rfl) (by kernel_rfl) ?_
          repeat (first | go_big_quiet_step (fail) | quiet_step (fail))
          refine wpQuiet_nil ?_
          intro _ hw'
          obtain ⟨⟨dq, osq⟩, hw''⟩ := hw'
          subst hw''
          have HBq : Hid (Below w.heap.size w (Sort.grow (redrawn wr dq) osq)) := HB.out.trans ((below_regrown _ dq osq).mono HB.out.size)
          clear k0 k1 k2 q0 q1 q2 c0 c1 c2 d0 d1 d2 hnq
          generalize Sort.grow (redrawn wr dq) osq = wq at *
          go_wp2
          exact ⟨⟨j + 1, by omega, by go_num, HP.out.next HT.out HU.out HQ.out, HBq⟩, by simp [intOf]; omega⟩
        | false =>
          have HR1 : Hid (R = false) := HR.out.trans (eqL_no j HT.out HU.out hq)
          rw [hq] at hnq
          clear hq
          go_wp2
          refine wp_region_quiet_below (by kernel_rfl) (by kernel_rfl) ?_
          repeat (first | go_big_quiet_step (fail) | quiet_step (fail))
          refine wpQuiet_nil ?_
          intro _ hw'
          obtain ⟨⟨dq, osq⟩, hw''⟩ := hw'
          subst hw''
          have HBq : Hid (Below w.heap.size w (Sort.grow (redrawn wr dq) osq)) := HB.out.trans ((below_regrown _ dq osq).mono HB.out.size)
          clear k0 k1 k2 q0 q1 q2 c0 c1 c2 d0 d1 d2 hnq
          generalize Sort.grow (redrawn wr dq) osq = wq at *
          go_wp2
          go_ret
          exact ⟨by rw [HR1.out]; rfl, HBq.out⟩
      · obtain rfl : j = es.length := by omega
        have HR1 : Hid (R = true) := HR.out.trans (HP.out.all HL.out)
        go_wp2
        go_ret
        exact ⟨by rw [HR1.out]; rfl, HB.out⟩
  · have hlen' : ¬ (es.length : Int) = (fs.length : Int) := by omega
    have HR1 : Hid (R = false) := HR.out.trans (eqL_len hlen)
    go_enter Try.func46, Try.ntmps46
    go_wp2
    go_ret
    exact ⟨by rw [HR1.out]; rfl, Below.refl _ _⟩
end Go.Proofs.Ytkkkjhlbkmcjiaa.Tr
