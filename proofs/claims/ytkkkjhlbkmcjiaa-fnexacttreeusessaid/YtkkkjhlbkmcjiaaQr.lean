/- The program's treeSameNet, treeIsNone. Helper text: no statement is claimed here. -/
import Derived.Test.YtkkkjhlbkmcjiaaQq
import Derived.Test.YtkkkjhlbkmcjiaaQn
namespace Go.Proofs.Ytkkkjhlbkmcjiaa.Tr
open Go.ChangeShapes Go.WideShapes Go.ChangeAt Go.RowKit

theorem cell2' {w w1 : World} {o1 o2 : Obj} {i : Nat} {v : Value} (hb : Below ((w.alloc o1).alloc o2).heap.size ((w.alloc o1).alloc o2) w1) (h : (w.alloc o1).cell? ⟨w.heap.size, i, none⟩ = some v) : w1.cell? ⟨w.heap.size, i, none⟩ = some v := keep1 hb h
theorem cell3' {w w1 : World} {o1 o2 : Obj} {i : Nat} {v : Value} (hb : Below ((w.alloc o1).alloc o2).heap.size ((w.alloc o1).alloc o2) w1) (h : ((w.alloc o1).alloc o2).cell? ⟨(w.alloc o1).heap.size, i, none⟩ = some v) : w1.cell? ⟨w.heap.size + 1, i, none⟩ = some v := by
  rw [World.size_alloc] at h
  exact keep2 hb h
set_option maxHeartbeats 2000000 in
theorem iSame_next (n : Nat) (IH : SameN n) : SameN (n + 1) := by
  intro S S2 w hSw hSw2 B hB v v2 t t2 hV hV2
  obtain ⟨pa, ca, pk, ck, rfl, hA, hK⟩ := hV
  obtain ⟨pb, cb, pq, cq, rfl, hA2, hK2⟩ := hV2
  have HC1 : Hid (∀ W, Below w.heap.size w W → Calls Try.prog 25 #[.agg #[.int .i64 t.el.1, .slice pa t.el.2.length ca], .agg #[.int .i64 t2.el.1, .slice pb t2.el.2.length cb]] W fun r w' => r = .returned (.bool (eqE t.el t2.el)) ∧ Below W.heap.size W w') :=
    fun W hW => iElem_any (S := S) (S2 := S2) (fun b hb => Nat.lt_of_lt_of_le (hSw b hb) hW.size) (fun b hb => Nat.lt_of_lt_of_le (hSw2 b hb) hW.size) _ _ t.el t2.el ⟨pa, ca, rfl, args_to (Keep.of hW hSw) (fun _ h => h) hA⟩ ⟨pb, cb, rfl, args_to (Keep.of hW hSw2) (fun _ h => h) hA2⟩
  have HC2 : Hid (∀ W, Below w.heap.size w W → Calls Try.prog 45 #[.slice pk t.kids.length ck, .slice pq t2.kids.length cq, .func (.func 44) #[] #[.pointer (some ⟨B, 0, none⟩)]] W
      fun r w' => r = .returned (.bool (eqL (eqN n) t.kids t2.kids)) ∧ Below W.heap.size W w') :=
    fun W hW => iNets_any (S := S) (S2 := S2) (fun b hb => Nat.lt_of_lt_of_le (hSw b hb) hW.size) (fun b hb => Nat.lt_of_lt_of_le (hSw2 b hb) hW.size) n IH B (hB.to hW) pk pq ck cq t.kids t2.kids (nets_to (Keep.of hW hSw) (fun _ h => h) hK) (nets_to (Keep.of hW hSw2) (fun _ h => h) hK2)
  have HCl : Hid (CloN B w) := hB
  show Calls _ _ _ _ fun r w' => r = .returned (.bool (decide (t.kind = t2.kind) && eqE t.el t2.el && eqL (eqN n) t.kids t2.kids)) ∧ _
  have cB : w.cell? ⟨B, 0, none⟩ = some (.func (.func 44) #[] #[.pointer (some ⟨B, 0, none⟩)]) := cell_of_row _ _ 0 _ _ _ hB
  have hBl : B < w.heap.size := hB.lt
  clear hSw hSw2 hA hK hA2 hK2 IH hB
  generalize eqL (eqN n) t.kids t2.kids = R2 at *
  generalize eqE t.el t2.el = R1 at *
  generalize t.kind = kd at *
  generalize t.el.1 = op at *
  generalize t.el.2.length = la at *
  generalize t.kids.length = lk at *
  generalize t2.kind = kd2 at *
  generalize t2.el.1 = op2 at *
  generalize t2.el.2.length = la2 at *
  generalize t2.kids.length = lk2 at *
  by_cases hk : kd = kd2
  · subst hk
    rw [decide_eq_true rfl, Bool.true_and]
    cases R1 with
    | true =>
      rw [Bool.true_and]
      go_enter Try.func44, Try.ntmps44
      go_wp2_with fail
      refine (HC1.out _ (two' _ _ _)).mono ?_
      rintro r w1 ⟨rfl, hb1⟩
      have HB1 : Hid (Below w.heap.size w w1) := of_two' hb1
      have c3 : w1.cell? ⟨w.heap.size, 3, none⟩ = some (.slice pk lk ck) := cell2' hb1 (by rw [World.cell?_alloc_mark]; rfl)
      have d3 : w1.cell? ⟨w.heap.size + 1, 3, none⟩ = some (.slice pq lk2 cq) := cell3' hb1 (by rw [World.cell?_alloc_mark]; rfl)
      replace cB := keep2 HB1.out cB
      clear hb1
      go_wp2_with fail
      refine (HC2.out _ HB1.out).mono ?_
      rintro r w2 ⟨rfl, hb2⟩
      have HB2 : Hid (Below w.heap.size w w2) := HB1.out.trans (hb2.mono HB1.out.size)
      clear hb2
      go_wp2
      go_ret
      exact ⟨rfl, HB2.out⟩
    | false =>
      rw [Bool.false_and]
      go_enter Try.func44, Try.ntmps44
      go_wp2_with fail
      refine (HC1.out _ (two' _ _ _)).mono ?_
      rintro r w1 ⟨rfl, hb1⟩
      have HB1 : Hid (Below w.heap.size w w1) := of_two' hb1
      clear hb1
      go_wp2
      go_ret
      exact ⟨rfl, HB1.out⟩
  · rw [decide_eq_false hk, Bool.false_and, Bool.false_and]
    go_enter Try.func44, Try.ntmps44
    go_wp2
    go_ret
    exact ⟨rfl, two' _ _ _⟩
theorem iSame_any : ∀ n, SameN n
  | 0 => fun _ _ _ _ _ _ _ _ _ _ _ h => h.elim
  | n + 1 => iSame_next n (iSame_any n)

theorem store_func (P : Program) (w : World) (a : Addr) (f : Fn) (x y : Array Value) (m : Mode) : (store a (.func f x y) m).run P w = stored P w a (.func f x y) m := run_store P w a _ m rfl
attribute [local go_sem] store_func
theorem hmf : ∀ (fn : Fn) (first cap : Array Value) (w : World), (Instr.makeFunc fn first cap).run Try.prog w = .ok (.func fn first cap) w := fun _ _ _ _ => rfl
set_option maxHeartbeats 1000000 in
theorem iSameNet_any (n : Nat) (S S2 : Nat → Prop) (w : World) (hSw : ∀ b, S b → b < w.heap.size) (hSw2 : ∀ b, S2 b → b < w.heap.size) (v v2 : Value) (t t2 : NT n) (hV : NtV S w n v t) (hV2 : NtV S2 w n v2 t2) :
    Calls Try.prog 23 #[v, v2] w fun r w' => r = .returned (.bool (eqN n t t2)) ∧ Below w.heap.size w w' := by
  obtain ⟨kd, op, pa, la, ca, pk, lk, ck, rfl⟩ := hV.parts
  obtain ⟨kd2, op2, pa2, la2, ca2, pk2, lk2, ck2, rfl⟩ := hV2.parts
  have HC : Hid (∀ W B, Below w.heap.size w W → CloN B W → Calls Try.prog 44 #[.agg #[.int .i64 kd, .int .i64 op, .slice pa la ca, .slice pk lk ck], .agg #[.int .i64 kd2, .int .i64 op2, .slice pa2 la2 ca2, .slice pk2 lk2 ck2], .pointer (some ⟨B, 0, none⟩)] W
      fun r w' => r = .returned (.bool (eqN n t t2)) ∧ Below W.heap.size W w') :=
    fun W B hW hB => iSame_any n S S2 W (fun b hb => Nat.lt_of_lt_of_le (hSw b hb) hW.size) (fun b hb => Nat.lt_of_lt_of_le (hSw2 b hb) hW.size) B hB _ _ t t2 (hV.to (Keep.of hW hSw) (fun _ h => h)) (hV2.to (Keep.of hW hSw2) (fun _ h => h))
  clear hV hV2 hSw hSw2
  generalize eqN n t t2 = R at *
  have hmf' := hmf
  go_enter Try.func23, Try.ntmps23
  go_wp2_with fail
  refine (HC.out _ (w.heap.size + 1 + 1) ?_ ?_).mono ?_
  · exact (two' _ _ _).alloc (by simp; omega) _
  · have := heap_alloc2_new (w.alloc (.cells #[.int .i64 kd, .int .i64 op, .slice pa la ca, .slice pk lk ck] 52)) (.cells #[.int .i64 kd2, .int .i64 op2, .slice pa2 la2 ca2, .slice pk2 lk2 ck2] 52) (.cells #[.func (.func 44) #[] #[.pointer (some ⟨w.heap.size + 1 + 1, 0, none⟩)]] 64)
    rw [World.size_alloc] at this
    exact this
  rintro r w1 ⟨rfl, hb1⟩
  have HB1 : Hid (Below w.heap.size w w1) := of_two' (of_one hb1)
  clear hb1
  go_wp2
  go_ret
  exact ⟨rfl, HB1.out⟩

/-- A net that is none, as data. -/
def zeroN (n : Nat) : NT (n + 1) := ((0, (0, []), []) : Int × El × List (NT n))
theorem zeroN_at (S : Nat → Prop) (w : World) (n : Nat) : NtV S w (n + 1) (.agg #[.int .i64 0, .int .i64 0, .slice none 0 0, .slice none 0 0]) (zeroN n) :=
  ⟨none, 0, none, 0, rfl, ⟨⟨Nat.le_refl _, Nat.zero_le _⟩, .inl rfl⟩, ⟨⟨Nat.le_refl _, Nat.zero_le _⟩, .inl rfl⟩⟩
theorem eqL_nil {α : Type} (f : α → α → Bool) (l : List α) : eqL f l [] = decide (l.length = 0) := by
  cases l with
  | nil => rfl
  | cons a l => simp [eqL]
theorem eqN_zero {n : Nat} (t : NT (n + 1)) : eqN (n + 1) t (zeroN n) = isNone t := by
  show (decide (t.kind = 0) && (decide (t.el.1 = 0) && eqL eqAr t.el.2 []) && eqL (eqN n) t.kids []) = _
  rw [eqL_nil, eqL_nil]
  unfold isNone
  simp only [Bool.and_assoc]
theorem iNone_any (n : Nat) (S : Nat → Prop) (w : World) (hSw : ∀ b, S b → b < w.heap.size) (v : Value) (t : NT (n + 1)) (hV : NtV S w (n + 1) v t) :
    Calls Try.prog 36 #[v] w fun r w' => r = .returned (.bool (isNone t)) ∧ Below w.heap.size w w' := by
  obtain ⟨kd, op, pa, la, ca, pk, lk, ck, rfl⟩ := hV.parts
  have HC : Hid (∀ W, Below w.heap.size w W → Calls Try.prog 23 #[.agg #[.int .i64 kd, .int .i64 op, .slice pa la ca, .slice pk lk ck], .agg #[.int .i64 0, .int .i64 0, .slice none 0 0, .slice none 0 0]] W fun r w' => r = .returned (.bool (isNone t)) ∧ Below W.heap.size W w') := fun W hW => by
    rw [← eqN_zero t]
    exact iSameNet_any (n + 1) S S W (fun b hb => Nat.lt_of_lt_of_le (hSw b hb) hW.size) (fun b hb => Nat.lt_of_lt_of_le (hSw b hb) hW.size) _ _ t (zeroN n) (hV.to (Keep.of hW hSw) (fun _ h => h)) (zeroN_at _ _ _)
  clear hV hSw
  generalize isNone t = R at *
  go_enter Try.func36, Try.ntmps36
  go_wp2_with fail
  refine (HC.out _ (one _ _)).mono ?_
  rintro r w1 ⟨rfl, hb1⟩
  have HB1 : Hid (Below w.heap.size w w1) := of_one hb1
  clear hb1
  go_wp2
  go_ret
  exact ⟨rfl, HB1.out⟩
end Go.Proofs.Ytkkkjhlbkmcjiaa.Tr
