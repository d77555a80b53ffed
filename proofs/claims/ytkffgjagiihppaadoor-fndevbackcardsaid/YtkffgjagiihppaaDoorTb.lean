/- The document's l9Find, l1Digits. Helper text: no statement is claimed here. -/
import Derived.Test.YtkffgjagiihppaaDoorTa
import Derived.Test.YtkffgjagiihppaaDoorSd
namespace Go.Proofs.YtkffgjagiihppaaDoor
open Go.ChangeShapes Go.WideShapes Go.ChangeAt Go.RowKit

theorem size_list (s : ByteArray) : s.size = s.data.toList.length := by simp
theorem take_snoc (s : ByteArray) (k : Nat) (h : k < s.size) : s.data.toList.take (k + 1) = s.data.toList.take k ++ [s[k]] := by
  rw [List.take_succ_eq_append_getElem (by simpa using h)]; rfl
theorem split_at (s : ByteArray) (k : Nat) (h : k < s.size) : s.data.toList = s.data.toList.take k ++ s[k] :: s.data.toList.drop (k + 1) := by
  have e := List.drop_eq_getElem_cons (l := s.data.toList) (i := k) (by simpa using h)
  conv => lhs; rw [← List.take_append_drop k s.data.toList, e]
  rfl

def Found (l : List UInt8) (v : Int) : Prop := (v = -1 ∧ (46 : UInt8) ∉ l) ∨ ∃ l1 l2, l = l1 ++ 46 :: l2 ∧ (46 : UInt8) ∉ l1 ∧ v = l1.length

theorem u8_46 {c : UInt8} (h : (c.toNat : Int) = 46) : c = 46 := by
  apply UInt8.toNat.inj
  have : c.toNat = 46 := by omega
  rw [this]; rfl

set_option maxHeartbeats 400000 in
theorem find_any (s : ByteArray) (w : World) (hs : s.size ≤ 2000000) :
    Calls Tryd.prog 43 #[.string s, .int .u8 46] w fun e w' => ∃ v : Int, e = .returned (.int .i64 v) ∧ w' = w ∧ Found s.data.toList v := by
  go_enter Tryd.func43, Tryd.ntmps43
  go_wp2
  go_loop [5] (fun i => ∃ k : Nat, k ≤ s.size ∧ i = .int .i64 k ∧ (46 : UInt8) ∉ s.data.toList.take k) (fun i => s.size - (intOf i).toNat)
  case atStart => exact ⟨0, Nat.zero_le _, rfl, by simp⟩
  case round =>
    obtain ⟨k, hk, rfl, hn⟩ := hrel
    have HN : Hid ((46 : UInt8) ∉ s.data.toList.take k) := hn
    clear hn
    by_cases hlt : k < s.size
    · by_cases h46 : s[k] = 46
      · have h1 : ((s[k].toNat : Int) == 46) = true := by rw [h46]; rfl
        have H46 : Hid (s[k] = 46) := h46
        clear h46
        go_wp2
        go_ret
        exact ⟨k, rfl, rfl, .inr ⟨s.data.toList.take k, s.data.toList.drop (k + 1), by have e := split_at s k hlt; rw [H46.out] at e; exact e, HN.out, by simp; omega⟩⟩
      · have h1 : ((s[k].toNat : Int) == 46) = false := by
          rw [beq_eq_false_iff_ne]; intro e; exact h46 (u8_46 e)
        have H46 : Hid (s[k] ≠ 46) := h46
        clear h46
        go_wp2
        go_round
        case rel =>
          refine ⟨k + 1, by omega, by go_num, ?_⟩
          rw [take_snoc s k hlt]
          have a1 := HN.out
          have a2 := H46.out
          simp only [List.mem_append, List.mem_singleton, not_or]
          exact ⟨a1, fun e => a2 e.symm⟩
        case measure => simp [intOf]; omega
    · go_wp2
      go_ret
      refine ⟨-1, rfl, rfl, .inl ⟨rfl, ?_⟩⟩
      have a1 := HN.out
      rwa [List.take_of_length_le (by simp; omega)] at a1

/-- One to seventeen digits. -/
def NumL (l : List UInt8) : Prop := (∀ c ∈ l, isD c = true) ∧ l ≠ [] ∧ l.length ≤ 17

/-- What l1Digits answers. -/
def digN (l : List UInt8) : Int := if (l.all isD && !l.isEmpty && decide (l.length ≤ 17)) = true then valN l else -1
theorem digN_yes {l : List UInt8} (h : NumL l) : digN l = valN l := by
  unfold digN
  rw [if_pos]
  obtain ⟨a, b, c⟩ := h
  simp only [Bool.and_eq_true, List.all_eq_true, decide_eq_true_eq, Bool.not_eq_true', List.isEmpty_eq_false_iff]
  exact ⟨⟨a, b⟩, c⟩
theorem digN_no {l : List UInt8} (h : ¬ NumL l) : digN l = -1 := by
  unfold digN
  rw [if_neg]
  intro e
  simp only [Bool.and_eq_true, List.all_eq_true, decide_eq_true_eq, Bool.not_eq_true', List.isEmpty_eq_false_iff] at e
  exact h ⟨e.1.1, e.1.2, e.2⟩
theorem digN_bd (l : List UInt8) : -1 ≤ digN l ∧ digN l ≤ 1000000000000000000 := by
  unfold digN
  split
  · rename_i h
    simp only [Bool.and_eq_true, List.all_eq_true, decide_eq_true_eq] at h
    have hb := val_bd l h.1.1
    have e := Nat.pow_le_pow_right (show 0 < 10 by omega) h.2
    have e2 : (10 : Nat) ^ 17 = 100000000000000000 := by decide
    have e4 : (10 : Int) ^ l.length = (((10 : Nat) ^ l.length : Nat) : Int) := by rw [Int.natCast_pow]; rfl
    rw [e4] at hb
    omega
  · omega
theorem ret_int {k : IntKind} {a b : Int} (h : a = b) : Ending.returned (.int k a) = .returned (.int k b) := by rw [h]

set_option maxHeartbeats 400000 in
theorem digs_any (s : ByteArray) (w : World) (hs : s.size ≤ 2000000) :
    Calls Tryd.prog 42 #[.string s] w fun e w' => e = .returned (.int .i64 (digN s.data.toList)) ∧ w' = w := by
  by_cases h0 : s.size = 0
  · have h0' : ((s.size : Int) == 0) = true := by simp [h0]
    have H0 : Hid (s.size = 0) := h0
    clear h0
    go_enter Tryd.func42, Tryd.ntmps42
    go_wp2
    go_ret
    refine ⟨ret_int (digN_no fun h => absurd (List.eq_nil_of_length_eq_zero ?_) h.2.1).symm, rfl⟩
    have := H0.out; simpa using this
  have h0' : ((s.size : Int) == 0) = false := by rw [beq_eq_false_iff_ne]; omega
  by_cases h17 : 17 < s.size
  · have h17' : (17 : Int) < s.size := by omega
    go_enter Tryd.func42, Tryd.ntmps42
    go_wp2
    go_ret
    refine ⟨ret_int (digN_no fun h => ?_).symm, rfl⟩
    have e1 : s.data.toList.length = s.size := by simp
    have e2 := h.2.2
    omega
  have h17' : ¬ (17 : Int) < s.size := by omega
  have HZ : Hid (¬ s.size = 0) := h0
  go_enter Tryd.func42, Tryd.ntmps42
  go_wp2
  go_loop [3, 4] (fun n i => ∃ k : Nat, k ≤ s.size ∧ i = .int .i64 k ∧ (∀ c ∈ s.data.toList.take k, isD c = true) ∧ n = .int .i64 (valN (s.data.toList.take k))) (fun _ i => s.size - (intOf i).toNat)
  case atStart => exact ⟨0, Nat.zero_le _, rfl, by simp, rfl⟩
  case round =>
    obtain ⟨k, hk, rfl, ha, rfl⟩ := hrel
    have HA : Hid (∀ c ∈ s.data.toList.take k, isD c = true) := ha
    have hb := val_bd _ ha
    have hpw : (10 : Int) ^ (s.data.toList.take k).length ≤ 100000000000000000 := by
      have hl : (s.data.toList.take k).length ≤ 17 := by simp; omega
      have e := Nat.pow_le_pow_right (show 0 < 10 by omega) hl
      have e2 : (10 : Nat) ^ 17 = 100000000000000000 := by decide
      have e3 : ((10 : Nat) ^ (s.data.toList.take k).length : Nat) ≤ 100000000000000000 := by omega
      have e4 : (10 : Int) ^ (s.data.toList.take k).length = (((10 : Nat) ^ (s.data.toList.take k).length : Nat) : Int) := by rw [Int.natCast_pow]; rfl
      rw [e4]; omega
    have hv0 : 0 ≤ valN (s.data.toList.take k) := hb.1
    have hv1 : valN (s.data.toList.take k) < 100000000000000000 := by omega
    clear ha hb hpw
    by_cases hlt : k < s.size
    · have hpw2 : k ≤ 16 := by omega
      have hsn := val_snoc (s.data.toList.take k) s[k]
      rw [← take_snoc s k hlt] at hsn
      have HS : Hid (valN (s.data.toList.take (k + 1)) = valN (s.data.toList.take k) * 10 + ((s[k].toNat : Int) - 48)) := hsn
      clear hsn
      have HM : Hid (s[k] ∈ s.data.toList) := by show _ ∈ _; rw [split_at s k hlt]; simp
      by_cases h48 : (s[k].toNat : Int) < 48
      · go_wp2
        go_ret
        refine ⟨ret_int (digN_no fun h => ?_).symm, rfl⟩
        have := h.1 _ HM.out
        simp [isD] at this; omega
      by_cases h57 : 57 < (s[k].toNat : Int)
      · go_wp2
        go_ret
        refine ⟨ret_int (digN_no fun h => ?_).symm, rfl⟩
        have := h.1 _ HM.out
        simp [isD] at this; omega
      · go_wp2
        go_round
        case rel =>
          refine ⟨k + 1, by omega, by go_num, ?_, by rw [HS.out]⟩
          rw [take_snoc s k hlt]
          intro c hc
          simp only [List.mem_append, List.mem_singleton] at hc
          rcases hc with hc | rfl
          · exact HA.out c hc
          · simp [isD]; omega
        case measure => simp [intOf]; omega
    · go_wp2
      go_ret
      have e : s.data.toList.take k = s.data.toList := List.take_of_length_le (by simp; omega)
      have a1 := HA.out
      rw [e] at a1
      exact ⟨ret_int (by rw [e, digN_yes ⟨a1, fun e0 => HZ.out (by rw [size_list, e0]; rfl), by rw [← size_list]; omega⟩]), rfl⟩
end Go.Proofs.YtkffgjagiihppaaDoor
