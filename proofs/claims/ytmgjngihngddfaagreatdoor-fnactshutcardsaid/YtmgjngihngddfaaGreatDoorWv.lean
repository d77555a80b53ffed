/- ActTest of both sides, at any contact or coil. Helper text: no statement is claimed here. -/
import Derived.Test.YtmgjngihngddfaaGreatDoorWx
import Derived.Test.YtmgjngihngddfaaGreatDoorWy
import Derived.Test.YtmgjngihngddfaaGreatDoorP15
import Derived.Test.YtmgjngihngddfaaGreatDoorWu
import Derived.Test.YtmgjngihngddfaaGreatDoorVu
import Derived.Test.YtmgjngihngddfaaGreatDoorVv
import Derived.Test.YtmgjngihngddfaaGreatDoorVw
import Derived.Test.YtmgjngihngddfaaGreatDoorP22
import Derived.Test.YtmgjngihngddfaaGreatDoorP23
namespace Go.Proofs.YtmgjngihngddfaaGreatDoor
open Go.ChangeShapes Go.WideShapes Go.ChangeAt Go.RowKit Fl

/-- What the bit of a contact is. -/
def nowB (m : Mm) (ys : List Ar) : Bool := m.bit (at3 ys 0).1 (at3 ys 0).2.1
/-- What it was. -/
def wasB (m : Mm) (ys : List Ar) : Bool := (at3 ys 1).1 == 5 && m.bit 5 (at3 ys 1).2.1
/-- The memory behind an edge. -/
def keptM (m : Mm) (ys : List Ar) : Mm := if (at3 ys 1).1 = 5 then m.putB 5 (at3 ys 1).2.1 (nowB m ys) else m
/-- What a contact says, and the memory behind it. -/
def TestR (m : Mm) (op : Int) (ys : List Ar) (m' : Mm) (b : Bool) : Prop :=
  (op = 1 ∧ m' = m ∧ b = nowB m ys) ∨ (op = 2 ∧ m' = m ∧ b = !nowB m ys) ∨ (op = 3 ∧ m' = keptM m ys ∧ b = (nowB m ys && !wasB m ys)) ∨ (op = 4 ∧ m' = keptM m ys ∧ b = (!nowB m ys && wasB m ys)) ∨
  (∃ i : Nat, 1 ≤ i ∧ i ≤ 6 ∧ op = (i : Int) + 4 ∧ m' = m ∧ CmpR m i (at3 ys 0) (at3 ys 1) b) ∨ ((op < 1 ∨ 10 < op) ∧ m' = m ∧ b = false)
theorem TestR.one {m : Mm} {op : Int} {ys : List Ar} {m1 m2 : Mm} {b1 b2 : Bool} (h1 : TestR m op ys m1 b1) (h2 : TestR m op ys m2 b2) : m1 = m2 ∧ b1 = b2 := by
  rcases h1 with ⟨e, rfl, rfl⟩ | ⟨e, rfl, rfl⟩ | ⟨e, rfl, rfl⟩ | ⟨e, rfl, rfl⟩ | ⟨i, l, u, e, rfl, c⟩ | ⟨e, rfl, rfl⟩ <;> rcases h2 with ⟨e', rfl, rfl⟩ | ⟨e', rfl, rfl⟩ | ⟨e', rfl, rfl⟩ | ⟨e', rfl, rfl⟩ | ⟨i', l', u', e', rfl, c'⟩ | ⟨e', rfl, rfl⟩ <;> first
    | exact ⟨rfl, rfl⟩
    | (exfalso; omega)
    | (obtain rfl : i = i' := by omega
       exact ⟨rfl, c.one c'⟩)

/-- The numbers of contacts and the others. -/
theorem op_cases (op : Int) : op = 1 ∨ op = 2 ∨ op = 3 ∨ op = 4 ∨ (∃ i : Nat, 1 ≤ i ∧ i ≤ 6 ∧ op = (i : Int) + 4) ∨ op < 1 ∨ 10 < op := by
  by_cases h : op < 1 ∨ 10 < op
  · omega
  by_cases h4 : op ≤ 4
  · omega
  exact .inr (.inr (.inr (.inr (.inl ⟨(op - 4).toNat, by omega, by omega, by omega⟩))))

theorem sTest_any (m : Mm) (hm : m.Ok) (op : Int) (ys : List Ar) (p : Option Addr) (cap : Nat) (w : World) (hA : ArgsIs w p ys) :
    Calls Tryz.prog 6 #[m.val, elemV op p ys.length cap] w fun e w' => ∃ m' b, e = .returned (.tuple #[m'.val, .bool b]) ∧ TestR m op ys m' b ∧ Below w.heap.size w w' := by
  rcases op_cases op with rfl | rfl | rfl | rfl | ⟨i, l, u, rfl⟩ | h | h
  · refine (sTest_1 m hm ys p cap w hA).mono ?_
    rintro e w' ⟨rfl, hb⟩
    exact ⟨m, _, rfl, .inl ⟨rfl, rfl, rfl⟩, hb⟩
  · refine (sTest_2 m hm ys p cap w hA).mono ?_
    rintro e w' ⟨rfl, hb⟩
    exact ⟨m, _, rfl, .inr (.inl ⟨rfl, rfl, rfl⟩), hb⟩
  · by_cases h5 : (at3 ys 1).1 = 5
    · refine (sTest_3e m hm ys p cap (nowB m ys) (m.bit 5 (at3 ys 1).2.1) (at3 ys 1).2.1 (at3 ys 1).2.2 w hA rfl (by rw [← h5]) rfl).mono ?_
      rintro e w' ⟨rfl, hb⟩
      exact ⟨_, _, rfl, .inr (.inr (.inl ⟨rfl, by rw [keptM, if_pos h5], by simp [wasB, h5]⟩)), hb⟩
    · refine (sTest_3n m hm ys p cap (nowB m ys) w hA rfl h5).mono ?_
      rintro e w' ⟨rfl, hb⟩
      exact ⟨m, _, rfl, .inr (.inr (.inl ⟨rfl, by rw [keptM, if_neg h5], by simp [wasB, h5]⟩)), hb⟩
  · by_cases h5 : (at3 ys 1).1 = 5
    · refine (sTest_4e m hm ys p cap (nowB m ys) (m.bit 5 (at3 ys 1).2.1) (at3 ys 1).2.1 (at3 ys 1).2.2 w hA rfl (by rw [← h5]) rfl).mono ?_
      rintro e w' ⟨rfl, hb⟩
      exact ⟨_, _, rfl, .inr (.inr (.inr (.inl ⟨rfl, by rw [keptM, if_pos h5], by simp [wasB, h5]⟩))), hb⟩
    · refine (sTest_4n m hm ys p cap (nowB m ys) w hA rfl h5).mono ?_
      rintro e w' ⟨rfl, hb⟩
      exact ⟨m, _, rfl, .inr (.inr (.inr (.inl ⟨rfl, by rw [keptM, if_neg h5], by simp [wasB, h5]⟩))), hb⟩
  · cases hr : realB (at3 ys 0).1
    · refine (sTest_w m hm i l u ys p cap w hA hr).mono ?_
      rintro e w' ⟨b, rfl, hc, hb⟩
      exact ⟨m, b, rfl, .inr (.inr (.inr (.inr (.inl ⟨i, l, u, rfl, rfl, hc⟩)))), hb⟩
    · refine (sTest_r m hm i l u ys p cap w hA hr).mono ?_
      rintro e w' ⟨b, rfl, hc, hb⟩
      exact ⟨m, b, rfl, .inr (.inr (.inr (.inr (.inl ⟨i, l, u, rfl, rfl, hc⟩)))), hb⟩
  · refine (sTest_lo m op h ys p cap w hA).mono ?_
    rintro e w' ⟨rfl, hb⟩
    exact ⟨m, _, rfl, .inr (.inr (.inr (.inr (.inr ⟨.inl h, rfl, rfl⟩)))), hb⟩
  · refine (sTest_hi m op h ys p cap w hA).mono ?_
    rintro e w' ⟨rfl, hb⟩
    exact ⟨m, _, rfl, .inr (.inr (.inr (.inr (.inr ⟨.inr h, rfl, rfl⟩)))), hb⟩

theorem cmp_says (m : Mm) (hm : m.Ok) (i : Nat) (l : 1 ≤ i) (u : i ≤ 6) (ys : List Ar) (W : World) (hW : DevTab W) :
    Calls Tryz.prog 87 #[.agg #[.int .i64 (nine ys 0), .int .i64 (nine ys 1), .int .i64 (nine ys 2), .int .i64 (nine ys 3), .int .i64 (nine ys 4), .int .i64 (nine ys 5), .int .i64 (nine ys 6), .int .i64 (nine ys 7), .int .i64 (nine ys 8), .int .i64 (i : Int)], m.val] W fun e w' => ∃ b, e = .returned (.tuple #[m.val, .bool b]) ∧ CmpR m i (at3 ys 0) (at3 ys 1) b ∧ Below W.heap.size W w' := by
  have e0 : (nine ys 0, nine ys 1, nine ys 2) = at3 ys 0 := by rw [show nine ys 0 = _ from nine_0 ys 0, show nine ys 1 = _ from nine_1 ys 0, show nine ys 2 = _ from nine_2 ys 0]
  have e1 : (nine ys 3, nine ys 4, nine ys 5) = at3 ys 1 := by rw [show nine ys 3 = _ from nine_0 ys 1, show nine ys 4 = _ from nine_1 ys 1, show nine ys 5 = _ from nine_2 ys 1]
  cases hr : realB (nine ys 0)
  · have := says_cmp_w (nine ys) m hm i l u W hW hr
    rwa [e0, e1] at this
  · have := says_cmp_r (nine ys) m hm i l u W hW hr
    rwa [e0, e1] at this

/-- Both ends of a contact's answer, out of an equation. -/
theorem said {f : FuncId} {args : Array Value} {m' : Mm} {v : Bool} {W : World} (h : Calls Tryz.prog f args W fun e w' => e = .returned (.tuple #[m'.val, .bool v]) ∧ Below W.heap.size W w') : Calls Tryz.prog f args W fun e w' => ∃ b, e = .returned (.tuple #[m'.val, .bool b]) ∧ b = v ∧ Below W.heap.size W w' :=
  h.mono (by rintro e w' ⟨rfl, hb⟩; exact ⟨v, rfl, rfl, hb⟩)
theorem iTest_other (m : Mm) (op : Int) (h : op < 1 ∨ 10 < op) (ys : List Ar) (p : Option Addr) (cap : Nat) (w : World) (hA : ArgsIs w p ys) (hT : DevTab w) :
    Calls Tryz.prog 5 #[m.val, elemV op p ys.length cap] w fun e w' => ∃ b, e = .returned (.tuple #[m.val, .bool b]) ∧ b = false ∧ Below w.heap.size w w' := by
  have H : ∀ W, DevTab W → Calls Tryz.prog 80 #[lit9 (nine ys), m.val] W fun e w' => ∃ b, e = .returned (.tuple #[m.val, .bool b]) ∧ b = false ∧ Below W.heap.size W w' := fun W _ => says_none (nine ys) m W
  by_cases hk : op ∈ ([21, 22, 23, 24, 25, 26, 27, 28, 29, 30, 31, 32, 33, 34, 35, 36, 37] : List Int)
  · simp only [List.mem_cons, List.not_mem_nil, or_false] at hk
    rcases hk with rfl | rfl | rfl | rfl | rfl | rfl | rfl | rfl | rfl | rfl | rfl | rfl | rfl | rfl | rfl | rfl | rfl
    · exact test_21 p cap ys w hA hT H
    · exact test_d22 p cap ys w hA hT H
    · exact test_d23 p cap ys w hA hT H
    · exact test_24 p cap ys w hA hT H
    · exact test_d25 p cap ys w hA hT H
    · exact test_26 p cap ys w hA hT H
    · exact test_d27 p cap ys w hA hT H
    · exact test_28 p cap ys w hA hT H
    · exact test_29 p cap ys w hA hT H
    · exact test_d30 p cap ys w hA hT H
    · exact test_d31 p cap ys w hA hT H
    · exact test_d32 p cap ys w hA hT H
    · exact test_d33 p cap ys w hA hT H
    · exact test_d34 p cap ys w hA hT H
    · exact test_d35 p cap ys w hA hT H
    · exact test_d36 p cap ys w hA hT H
    · exact test_d37 p cap ys w hA hT H
  · simp only [List.mem_cons, List.not_mem_nil, or_false, not_or] at hk
    refine test_none op ?_ ?_ p cap ys w hA hT H
    · intro k hk'
      simp only [List.mem_cons, List.not_mem_nil, or_false] at hk'
      omega
    · intro k hk'
      simp only [List.mem_cons, List.not_mem_nil, or_false] at hk'
      omega
theorem iTest_any (m : Mm) (hm : m.Ok) (op : Int) (ys : List Ar) (p : Option Addr) (cap : Nat) (w : World) (hA : ArgsIs w p ys) (hT : DevTab w) :
    Calls Tryz.prog 5 #[m.val, elemV op p ys.length cap] w fun e w' => ∃ m' b, e = .returned (.tuple #[m'.val, .bool b]) ∧ TestR m op ys m' b ∧ Below w.heap.size w w' := by
  have e0 : nine ys 0 = (at3 ys 0).1 := nine_0 ys 0
  have e1 : nine ys 1 = (at3 ys 0).2.1 := nine_1 ys 0
  have e3 : nine ys 3 = (at3 ys 1).1 := nine_0 ys 1
  have e4 : nine ys 4 = (at3 ys 1).2.1 := nine_1 ys 1
  have en : m.bit (nine ys 0) (nine ys 1) = nowB m ys := by rw [e0, e1]; rfl
  rcases op_cases op with rfl | rfl | rfl | rfl | ⟨i, l, u, rfl⟩ | h
  · refine (test_1 p cap ys w hA hT (fun W hW => said (says_open (nine ys) m hm W hW))).mono ?_
    rintro e w' ⟨b, rfl, rfl, hb⟩
    exact ⟨m, _, rfl, .inl ⟨rfl, rfl, en⟩, hb⟩
  · refine (test_2 p cap ys w hA hT (fun W hW => said (says_shut (nine ys) m hm W hW))).mono ?_
    rintro e w' ⟨b, rfl, rfl, hb⟩
    exact ⟨m, _, rfl, .inr (.inl ⟨rfl, rfl, by rw [en]⟩), hb⟩
  · by_cases h5 : (at3 ys 1).1 = 5
    · refine (test_3 p cap ys w hA hT (fun W hW => said (says_up (nine ys) m (m.putB 5 (nine ys 4) (nowB m ys)) hm (nowB m ys) (m.bit 5 (nine ys 4)) W hW en (fun W' hW' => keep_e (nine ys) m hm _ W' hW' (e3.trans h5)) (fun W' hW' => was_e (nine ys) m hm W' hW' (e3.trans h5))))).mono ?_
      rintro e w' ⟨b, rfl, rfl, hb⟩
      exact ⟨_, _, rfl, .inr (.inr (.inl ⟨rfl, by rw [keptM, if_pos h5, e4], by rw [e4]; simp [wasB, h5]⟩)), hb⟩
    · refine (test_3 p cap ys w hA hT (fun W hW => said (says_up (nine ys) m m hm (nowB m ys) false W hW en (fun W' _ => keep_n (nine ys) m _ W' (by rw [e3]; exact h5)) (fun W' _ => was_n (nine ys) m W' (by rw [e3]; exact h5))))).mono ?_
      rintro e w' ⟨b, rfl, rfl, hb⟩
      exact ⟨_, _, rfl, .inr (.inr (.inl ⟨rfl, by rw [keptM, if_neg h5], by simp [wasB, h5]⟩)), hb⟩
  · by_cases h5 : (at3 ys 1).1 = 5
    · refine (test_4 p cap ys w hA hT (fun W hW => said (says_down (nine ys) m (m.putB 5 (nine ys 4) (nowB m ys)) hm (nowB m ys) (m.bit 5 (nine ys 4)) W hW en (fun W' hW' => keep_e (nine ys) m hm _ W' hW' (e3.trans h5)) (fun W' hW' => was_e (nine ys) m hm W' hW' (e3.trans h5))))).mono ?_
      rintro e w' ⟨b, rfl, rfl, hb⟩
      exact ⟨_, _, rfl, .inr (.inr (.inr (.inl ⟨rfl, by rw [keptM, if_pos h5, e4], by rw [e4]; simp [wasB, h5, Bool.and_comm]⟩))), hb⟩
    · refine (test_4 p cap ys w hA hT (fun W hW => said (says_down (nine ys) m m hm (nowB m ys) false W hW en (fun W' _ => keep_n (nine ys) m _ W' (by rw [e3]; exact h5)) (fun W' _ => was_n (nine ys) m W' (by rw [e3]; exact h5))))).mono ?_
      rintro e w' ⟨b, rfl, rfl, hb⟩
      exact ⟨_, _, rfl, .inr (.inr (.inr (.inl ⟨rfl, by rw [keptM, if_neg h5], by simp [wasB, h5]⟩))), hb⟩
  · have hc : Calls Tryz.prog 5 #[m.val, elemV ((i : Int) + 4) p ys.length cap] w fun e w' => ∃ b, e = .returned (.tuple #[m.val, .bool b]) ∧ CmpR m i (at3 ys 0) (at3 ys 1) b ∧ Below w.heap.size w w' := by
      have hi : i = 1 ∨ i = 2 ∨ i = 3 ∨ i = 4 ∨ i = 5 ∨ i = 6 := by omega
      rcases hi with rfl | rfl | rfl | rfl | rfl | rfl
      · exact test_5 p cap ys w hA hT (fun W hW => cmp_says m hm 1 l u ys W hW)
      · exact test_6 p cap ys w hA hT (fun W hW => cmp_says m hm 2 l u ys W hW)
      · exact test_7 p cap ys w hA hT (fun W hW => cmp_says m hm 3 l u ys W hW)
      · exact test_8 p cap ys w hA hT (fun W hW => cmp_says m hm 4 l u ys W hW)
      · exact test_9 p cap ys w hA hT (fun W hW => cmp_says m hm 5 l u ys W hW)
      · exact test_10 p cap ys w hA hT (fun W hW => cmp_says m hm 6 l u ys W hW)
    refine hc.mono ?_
    rintro e w' ⟨b, rfl, hc, hb⟩
    exact ⟨m, b, rfl, .inr (.inr (.inr (.inr (.inl ⟨i, l, u, rfl, rfl, hc⟩)))), hb⟩
  · refine (iTest_other m op h ys p cap w hA hT).mono ?_
    rintro e w' ⟨b, rfl, rfl, hb⟩
    exact ⟨m, _, rfl, .inr (.inr (.inr (.inr (.inr ⟨h, rfl, rfl⟩)))), hb⟩
end Go.Proofs.YtmgjngihngddfaaGreatDoor
