/- What stands ahead of operands and between them: the program's. Helper text: no statement is claimed here. -/
import Derived.Test.YtleopmhllbaalagDoorLd
import Derived.Test.YtleopmhllbaalagDoorEa
namespace Go.Proofs.YtleopmhllbaalagDoor
open Go.ChangeShapes Go.WideShapes Go.ChangeAt Go.RowKit

/-- What stands ahead of the first operand. -/
def ah (i : Nat) : List UInt8 := if nm i ≠ [] then nm i ++ [58] else if i = 2 then [47] else if i = 3 then [43] else if i = 4 then [45] else []
/-- What stands between two operands. -/
def bt (i : Nat) : List UInt8 := if nm i ≠ [] then [44] else if ts i ≠ 0 then qL (ts i).toNat else [58]
theorem nm_len (i : Nat) : (nm i).length ≤ 5 := by unfold nm; split <;> simp
theorem ah_len (i : Nat) : (ah i).length ≤ 6 := by
  unfold ah
  have := nm_len i
  split
  · simp; omega
  · repeat' split
    all_goals simp
theorem mk_no (i : Nat) (h2 : i ≠ 2) (h3 : i ≠ 3) (h4 : i ≠ 4) : mk i = 0 := by
  unfold mk; split <;> first | rfl | omega
theorem ts_bd (i : Nat) : 0 ≤ ts i ∧ ts i ≤ 6 := by unfold ts; split <;> omega
theorem qL_len (i : Nat) : (qL i).length ≤ 2 := by unfold qL; split <;> simp
theorem bt_len (i : Nat) : (bt i).length ≤ 2 := by
  unfold bt
  split
  · simp
  · split
    · exact qL_len _
    · simp

theorem ret_strL {l m : List UInt8} (h : l = m) : Ending.returned (.string ⟨l.toArray⟩) = .returned (.string ⟨m.toArray⟩) := by rw [h]
theorem conv_47 (w : World) : Sem.run Tryd.prog (convert 21 9 (.int .i32 47)) w = .ok (.string ⟨#[47]⟩) w := by kernel_rfl
theorem conv_43 (w : World) : Sem.run Tryd.prog (convert 21 9 (.int .i32 43)) w = .ok (.string ⟨#[43]⟩) w := by kernel_rfl
theorem conv_45 (w : World) : Sem.run Tryd.prog (convert 21 9 (.int .i32 45)) w = .ok (.string ⟨#[45]⟩) w := by kernel_rfl
attribute [local go_sem] conv_47 conv_43 conv_45
theorem cat' (a b : List UInt8) : (⟨a.toArray⟩ : ByteArray) ++ ⟨b.toArray⟩ = ⟨(a ++ b).toArray⟩ := by
  apply ByteArray.ext
  simp

set_option maxHeartbeats 400000 in
theorem ahead_any (i : Nat) (w : World) :
    Calls Tryd.prog 19 #[erowV i] w fun e w' => e = .returned (.string ⟨(ah i).toArray⟩) ∧ Below w.heap.size w w' := by
  have hlen := nm_len i
  by_cases hn : nm i = []
  · by_cases h2 : i = 2
    · subst h2
      go_enter Tryd.func19, Tryd.ntmps19
      go_wp2
      go_ret
      exact ⟨rfl, one _ _⟩
    by_cases h3 : i = 3
    · subst h3
      go_enter Tryd.func19, Tryd.ntmps19
      go_wp2
      go_ret
      exact ⟨rfl, one _ _⟩
    by_cases h4 : i = 4
    · subst h4
      go_enter Tryd.func19, Tryd.ntmps19
      go_wp2
      go_ret
      exact ⟨rfl, one _ _⟩
    rw [show ah i = [] by simp [ah, hn, h2, h3, h4]]
    unfold erowV
    rw [hn, mk_no i h2 h3 h4]
    clear hn h2 h3 h4 hlen
    go_enter Tryd.func19, Tryd.ntmps19
    go_wp2
    go_ret
    exact ⟨rfl, one _ _⟩
  · rw [show ah i = nm i ++ [58] by simp [ah, hn]]
    unfold erowV
    obtain ⟨c, l, hl⟩ := List.exists_cons_of_ne_nil hn
    rw [hl] at hlen ⊢
    simp only [List.length_cons] at hlen
    have hlen2 : l.length ≤ 4 := by omega
    clear hn hl
    go_enter Tryd.func19, Tryd.ntmps19
    go_wp2
    go_ret
    exact ⟨by first | rfl | exact congrArg (fun s => Ending.returned (.string s)) (cat' _ _), one _ _⟩

set_option maxHeartbeats 400000 in
theorem cmpText_any (i : Nat) (w : World) (h1 : 1 ≤ i) (h2 : i ≤ 6) (hT : CmpTab w) :
    Calls Tryd.prog 56 #[.int .i64 (i : Int)] w fun e w' => e = .returned (.string ⟨(qL i).toArray⟩) ∧ Below w.heap.size w w' := by
  have f0 := Cq.field_0
  go_enter Tryd.func56, Tryd.ntmps56
  go_wp2_with fail
  refine (cmpRow_yes _ _ h1 h2 hT).mono ?_
  rintro e w' ⟨rfl, hb⟩
  go_wp2
  go_ret
  exact ⟨rfl, hb⟩

set_option maxHeartbeats 400000 in
theorem between_any (i : Nat) (w : World) (hT : CmpTab w) :
    Calls Tryd.prog 21 #[erowV i] w fun e w' => e = .returned (.string ⟨(bt i).toArray⟩) ∧ Below w.heap.size w w' := by
  unfold erowV
  by_cases hn : nm i = []
  · by_cases h0 : ts i = 0
    · rw [show bt i = [58] by simp [bt, hn, h0], hn, h0]
      clear hn h0
      go_enter Tryd.func21, Tryd.ntmps21
      go_wp2
      go_ret
      exact ⟨rfl, one _ _⟩
    · rw [show bt i = qL (ts i).toNat by simp [bt, hn, h0], hn]
      have hb := ts_bd i
      obtain ⟨m, hm⟩ := Int.eq_ofNat_of_zero_le hb.1
      rw [hm] at hb h0 ⊢
      simp only [Int.toNat_natCast]
      have h0' : ((m : Int) == 0) = false := by simpa using h0
      have m1 : 1 ≤ m := by omega
      have m6 : m ≤ 6 := by omega
      clear hn h0 hm hb
      go_enter Tryd.func21, Tryd.ntmps21
      go_wp2_with fail
      refine (cmpText_any m _ m1 m6 (hT.to (one _ _))).mono ?_
      rintro e w' ⟨rfl, hb⟩
      go_wp2
      go_ret
      exact ⟨rfl, of_one hb⟩
  · rw [show bt i = [44] by simp [bt, hn]]
    obtain ⟨c, l, hl⟩ := List.exists_cons_of_ne_nil hn
    rw [hl]
    clear hn hl
    go_enter Tryd.func21, Tryd.ntmps21
    go_wp2
    go_ret
    exact ⟨rfl, one _ _⟩
end Go.Proofs.YtleopmhllbaalagDoor
