/- ElemArity and ElemName, and ElemText of what is no contact or coil: the program's. Helper text: no statement is claimed here. -/
import Derived.Test.YtleopmhllbaalabDoorLm
import Derived.Test.YtleopmhllbaalabDoorLn
import Derived.Test.YtleopmhllbaalabDoorLf
namespace Go.Proofs.YtleopmhllbaalabDoor
open Go.ChangeShapes Go.WideShapes Go.ChangeAt Go.RowKit
attribute [local go_sem] fv_store

theorem erow_field0 (a0 a1 a2 a3 a4 a5 a6 a7 a8 : Value) (w : World) : Sem.run Tryd.prog (Instr.field 55 (.agg #[a0, a1, a2, a3, a4, a5, a6, a7, a8]) 0) w = .ok a0 w := by kernel_rfl
theorem erow_field3 (a0 a1 a2 a3 a4 a5 a6 a7 a8 : Value) (w : World) : Sem.run Tryd.prog (Instr.field 55 (.agg #[a0, a1, a2, a3, a4, a5, a6, a7, a8]) 3) w = .ok (.agg #[a3, a4, a5, a6, a7, a8]) w := by kernel_rfl
theorem eforms_index0 (a3 a4 a5 a6 a7 a8 : Value) (w : World) : Sem.run Tryd.prog (Instr.index 53 (.agg #[a3, a4, a5, a6, a7, a8]) (.int .i64 0)) w = .ok (.agg #[a3, a4, a5]) w := by kernel_rfl
attribute [local go_sem] erow_field0 erow_field3 eforms_index0

set_option maxHeartbeats 400000 in
theorem name_any (op : Int) (w : World) : Calls Tryd.prog 19 #[.int .i64 op] w fun e w' => e = .returned (.string ⟨(nm (ez op)).toArray⟩) ∧ Below w.heap.size w w' := by
  have HE : Hid (∀ W, Calls Tryd.prog 29 #[.int .i64 op] W fun e w' => e = .returned (erowV (ez op)) ∧ Below W.heap.size W w') := fun W => erowV_any op W
  generalize ez op = i at *
  go_enter Tryd.func19, Tryd.ntmps19
  go_wp2_with fail
  refine (HE.out _).mono ?_
  rintro e w1 ⟨rfl, hb1⟩
  unfold erowV
  go_wp2
  go_ret
  exact ⟨rfl, hb1⟩

set_option maxHeartbeats 400000 in
theorem arity_any (op : Int) (w : World) : Calls Tryd.prog 18 #[.int .i64 op] w fun e w' => e = .returned (.int .i64 ((fm0 (ez op)).length : Nat)) ∧ Below w.heap.size w w' := by
  have HE : Hid (∀ W, Calls Tryd.prog 29 #[.int .i64 op] W fun e w' => e = .returned (erowV (ez op)) ∧ Below W.heap.size W w') := fun W => erowV_any op W
  have HP : Hid (∀ W, Calls Tryd.prog 43 #[.agg #[fv ((fm0 (ez op)).getD 0 0), fv ((fm0 (ez op)).getD 1 0), fv ((fm0 (ez op)).getD 2 0)]] W fun e w' => e = .returned (.int .i64 (fm0 (ez op)).length) ∧ Below W.heap.size W w') := fun W => places_any (fm0 (ez op)) W (fm0_ok _)
  generalize ez op = i at *
  unfold erowV at HE
  generalize (fm0 i).getD 0 0 = g0 at *
  generalize (fm0 i).getD 1 0 = g1 at *
  generalize (fm0 i).getD 2 0 = g2 at *
  go_enter Tryd.func18, Tryd.ntmps18
  go_wp2_with fail
  refine (HE.out _).mono ?_
  rintro e w1 ⟨rfl, hb1⟩
  go_wp2_with fail
  refine (HP.out _).mono ?_
  rintro e w2 ⟨rfl, hb2⟩
  go_wp2
  go_ret
  exact ⟨rfl, hb1.trans (hb2.mono hb1.size)⟩

set_option maxHeartbeats 1000000 in
theorem ielem_no (op : Int) (ys : List Ar) (p : Option Addr) (cap : Nat) (w : World) (hT : DevTab w) (hA : ArgsIs w p ys) (hlc : ys.length ≤ cap) (hbd : ys.length ≤ 2000000) (hno : okA (ez op) ys = false) :
    Calls Tryd.prog 16 #[elemV op p ys.length cap] w fun e w' => e = .returned (.string ⟨#[]⟩) ∧ Below w.heap.size w w' := by
  have HA : Hid (ArgsIs w p ys) := hA
  have HT : Hid (DevTab w) := hT
  have HR : Hid (∀ W, DevTab W → ArgsIs W p ys → Calls Tryd.prog 30 #[erowV (ez op), .slice p ys.length cap] W fun e w' => e = .returned (.bool false) ∧ Below W.heap.size W w') :=
    fun W h1 h2 => by
      have := rowTakes_any (ez op) ys p cap W h1 h2 hlc hbd
      rwa [hno] at this
  have HE : Hid (∀ W, Calls Tryd.prog 29 #[.int .i64 op] W fun e w' => e = .returned (erowV (ez op)) ∧ Below W.heap.size W w') := fun W => erowV_any op W
  clear hA hT hno
  generalize ez op = i at *
  go_enter Tryd.func16, Tryd.ntmps16
  go_wp2_with fail
  refine (HE.out _).mono ?_
  rintro e w1 ⟨rfl, hb1⟩
  have HB1 : Hid (Below w.heap.size w w1) := of_one hb1
  have hce := elem_at hb1
  clear hb1
  unfold erowV
  go_wp2_with fail
  have HB2 : Hid (∀ o, Below w.heap.size w (w1.alloc o)) := fun o => HB1.out.alloc HB1.out.size o
  refine (HR.out _ (HT.out.to (HB2.out _)) (HA.out.to (HB2.out _))).mono ?_
  rintro e w3 ⟨rfl, hb3⟩
  have HBa : Hid (Below w.heap.size w w3) := (HB2.out _).trans (hb3.mono (HB2.out _).size)
  go_wp2
  go_ret
  exact ⟨rfl, HBa.out⟩

theorem fitB_ok {c : Nat} {k n p : Int} (h : fitB c k n p = true) : okB k n p = true := by
  unfold fitB at h
  split at h
  · simp only [isB, Bool.and_eq_true] at h; exact h.1
  · simp only [isW, Bool.and_eq_true] at h; exact h.1
  · simp only [isR, Bool.and_eq_true] at h; exact h.1
  · simp only [kinB, Bool.and_eq_true] at h; exact h.1.1
  · simp only [kinB, Bool.and_eq_true] at h; exact h.1
theorem takeB_ok {fs : List Nat} {ys : List Ar} (h : takeB fs ys = true) {j : Nat} (hj : j < ys.length) : okB (at3 ys j).1 (at3 ys j).2.1 (at3 ys j).2.2 = true := by
  simp only [takeB, Bool.and_eq_true, decide_eq_true_eq, List.all_eq_true, List.mem_range] at h
  exact fitB_ok (h.2 j hj)
/-- The operands of a contact or coil are ok. -/
theorem okA_ok {i : Nat} {ys : List Ar} (h : okA i ys = true) {j : Nat} (hj : j < ys.length) : okB (at3 ys j).1 (at3 ys j).2.1 (at3 ys j).2.2 = true := by
  simp only [okA, Bool.or_eq_true] at h
  rcases h with h | h
  · exact takeB_ok h hj
  · exact takeB_ok h hj
end Go.Proofs.YtleopmhllbaalabDoor
