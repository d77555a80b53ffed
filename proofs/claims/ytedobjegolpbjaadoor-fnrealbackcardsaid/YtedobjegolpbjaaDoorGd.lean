/- Reading a numeral, as the document does it: l9Find, l9Num. Helper text: no statement is claimed here. -/
import Derived.Test.YtedobjegolpbjaaDoorGc
namespace Go.Proofs.YtedobjegolpbjaaDoor
open Go.ChangeShapes Go.WideShapes Go.ChangeAt Go.RowKit Fl

theorem take_snocG (s : ByteArray) (k : Nat) (h : k < s.size) : s.data.toList.take (k + 1) = s.data.toList.take k ++ [s[k]] := by
  rw [List.take_succ_eq_append_getElem (by simpa using h)]; rfl
theorem split_atG (s : ByteArray) (k : Nat) (h : k < s.size) : s.data.toList = s.data.toList.take k ++ s[k] :: s.data.toList.drop (k + 1) := by
  have e := List.drop_eq_getElem_cons (l := s.data.toList) (i := k) (by simpa using h)
  conv => lhs; rw [← List.take_append_drop k s.data.toList, e]
  rfl
theorem ext_allG (s : ByteArray) (k : Nat) : (s.extract k s.size).data.toList = s.data.toList.drop k := by
  rw [ByteArray.data_extract]
  simp
  exact List.take_of_length_le (by simp)
theorem ext_toG (s : ByteArray) (k : Nat) : (s.extract 0 k).data.toList = s.data.toList.take k := by
  rw [ByteArray.data_extract]
  simp

def FoundS (l : List UInt8) (v : Int) : Prop := (v = -1 ∧ (42 : UInt8) ∉ l) ∨ ∃ l1 l2, l = l1 ++ 42 :: l2 ∧ (42 : UInt8) ∉ l1 ∧ v = l1.length
theorem u8_42 {c : UInt8} (h : (c.toNat : Int) = 42) : c = 42 := by
  apply UInt8.toNat.inj
  have : c.toNat = 42 := by omega
  rw [this]; rfl
set_option maxHeartbeats 400000 in
theorem findS_any (s : ByteArray) (w : World) (hs : s.size ≤ 2000000) :
    Calls Tryd.prog 58 #[.string s, .int .u8 42] w fun e w' => ∃ v : Int, e = .returned (.int .i64 v) ∧ w' = w ∧ FoundS s.data.toList v := by
  go_enter Tryd.func58, Tryd.ntmps58
  go_wp2
  go_loop [5] (fun i => ∃ k : Nat, k ≤ s.size ∧ i = .int .i64 k ∧ (42 : UInt8) ∉ s.data.toList.take k) (fun i => s.size - (intOf i).toNat)
  case atStart => exact ⟨0, Nat.zero_le _, rfl, by simp⟩
  case round =>
    obtain ⟨k, hk, rfl, hn⟩ := hrel
    have HN : Hid ((42 : UInt8) ∉ s.data.toList.take k) := hn
    clear hn
    by_cases hlt : k < s.size
    · by_cases h46 : s[k] = 42
      · have h1 : ((s[k].toNat : Int) == 42) = true := by rw [h46]; rfl
        have H46 : Hid (s[k] = 42) := h46
        clear h46
        go_wp2
        go_ret
        exact ⟨k, rfl, rfl, .inr ⟨s.data.toList.take k, s.data.toList.drop (k + 1), by have e := split_atG s k hlt; rw [H46.out] at e; exact e, HN.out, by simp; omega⟩⟩
      · have h1 : ((s[k].toNat : Int) == 42) = false := by
          rw [beq_eq_false_iff_ne]; intro e; exact h46 (u8_42 e)
        have H46 : Hid (s[k] ≠ 42) := h46
        clear h46
        go_wp2
        go_round
        case rel =>
          refine ⟨k + 1, by omega, by go_num, ?_⟩
          rw [take_snocG s k hlt]
          have a1 := HN.out
          have a2 := H46.out
          simp only [List.mem_append, List.mem_singleton, not_or]
          exact ⟨a1, fun e => a2 e.symm⟩
        case measure => simp [intOf]; omega
    · go_wp2
      go_ret
      refine ⟨-1, rfl, rfl, .inl ⟨rfl, ?_⟩⟩
      have a1 := HN.out
      rwa [List.take_of_length_le (by simp; omega)] at a1

/-- What the reading of a numeral answers. -/
def NumR (t : List UInt8) (n : Int) (b : Bool) : Prop := (b = true ∧ t = Lib.itoa n ∧ n.natAbs < 10 ^ 17) ∨ (b = false ∧ n = 0 ∧ ∀ z : Int, z.natAbs < 10 ^ 17 → t ≠ Lib.itoa z)
def Numd (t : List UInt8) (w : World) (e : Ending) (w' : World) : Prop := ∃ (n : Int) (b : Bool), e = .returned (.tuple #[.int .i64 n, .bool b]) ∧ NumR t n b ∧ w' = w
theorem itoa_parts {t l : List UInt8} {neg : Bool} {z : Int} (ht : t = sgL neg ++ l) (hh : neg = false → ∀ r, l ≠ 45 :: r) (e : t = Lib.itoa z) : l = Lib.decDigits z.natAbs ∧ (neg = true → 1 ≤ z.natAbs) := by
  rcases Int.lt_or_le z 0 with h | h
  · obtain ⟨u, hu⟩ : ∃ u : Nat, z = -(u : Int) := ⟨z.natAbs, by omega⟩
    subst hu
    rw [Lib.itoa_neg u (by omega)] at e
    have hna : (-(u : Int)).natAbs = u := by simp
    rw [hna]
    cases neg
    · exact absurd (ht.symm.trans e) (hh rfl _)
    · have : 45 :: l = 45 :: Lib.decDigits u := ht.symm.trans e
      exact ⟨(List.cons.inj this).2, fun _ => by omega⟩
  · obtain ⟨u, rfl⟩ := Int.eq_ofNat_of_zero_le h
    rw [Lib.itoa_nonneg] at e
    have hna : ((u : Nat) : Int).natAbs = u := by simp
    rw [hna]
    cases neg
    · exact ⟨ht.symm.trans e, fun h => by cases h⟩
    · exact absurd (e.symm.trans ht) (no45 u _)
def Plain (neg : Bool) (l : List UInt8) : Prop := neg = false → ∀ r, l ≠ 45 :: r
def Lead (neg : Bool) (l : List UInt8) : Prop := l.head? = some 48 ∧ (neg = true ∨ 1 < l.length)
def Canon (neg : Bool) (l : List UInt8) : Prop := l.head? ≠ some 48 ∨ (neg = false ∧ l.length = 1)
theorem num_no {t l : List UInt8} {neg : Bool} (ht : t = sgL neg ++ l) (hh : Plain neg l)
    (h : l = [] ∨ 17 < l.length ∨ Lead neg l ∨ ∃ c ∈ l, isD c = false) : NumR t 0 false := by
  refine .inr ⟨rfl, rfl, fun z hz e => ?_⟩
  obtain ⟨e1, e2⟩ := itoa_parts ht hh e
  rcases h with h | h | ⟨h1, h2⟩ | ⟨c, hc, hd⟩
  · exact digits_ne _ (e1.symm.trans h)
  · have := digits_small 17 z.natAbs (by omega) hz
    rw [← e1] at this; omega
  · by_cases hu : 1 ≤ z.natAbs
    · exact digits_head hu (by rw [← e1]; exact h1)
    · have h0 : z.natAbs = 0 := by omega
      rcases h2 with h2 | h2
      · exact hu (e2 h2)
      · rw [e1, h0, digits_zero] at h2; simp at h2
  · rw [e1] at hc
    rw [digits_all _ c hc] at hd
    cases hd
theorem num_yes {t l : List UInt8} {neg : Bool} (ht : t = sgL neg ++ l) (hd : ∀ c ∈ l, isD c = true) (hne : l ≠ []) (h17 : l.length ≤ 17) (hc : Canon neg l) :
    NumR t (if neg then -valN l else valN l) true := by
  obtain ⟨c1, c2⟩ := canonD l.length l rfl hd hne (hc.elim Or.inl fun h => Or.inr h.2)
  have hb := val_bd l hd
  have hp : valN l < 10 ^ 17 := by
    have e := Nat.pow_le_pow_right (show 0 < 10 by omega) h17
    have e4 : (10 : Int) ^ l.length = (((10 : Nat) ^ l.length : Nat) : Int) := by rw [Int.natCast_pow]; rfl
    have e5 : (10 : Int) ^ 17 = (((10 : Nat) ^ 17 : Nat) : Int) := by rw [Int.natCast_pow]; rfl
    rw [e5]; rw [e4] at hb; omega
  refine .inl ⟨rfl, ?_, ?_⟩
  · cases neg
    · have e : valN l = ((valN l).toNat : Int) := by omega
      rw [ht]
      simp only [sgL, Bool.false_eq_true, if_false, List.nil_append]
      rw [e, Lib.itoa_nonneg, c1]
    · have h1 : 1 ≤ valN l := c2 (by rcases hc with h | h
                                     · exact h
                                     · exact absurd h.1 (by decide))
      have e : -valN l = -((valN l).toNat : Int) := by omega
      rw [ht]
      simp only [sgL, if_true]
      rw [e, Lib.itoa_neg _ (by omega), c1]; rfl
  · split <;> omega
end Go.Proofs.YtedobjegolpbjaaDoor
