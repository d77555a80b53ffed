/- The document's l9Find, l1Digits. Helper text: no statement is claimed here. -/
import Derived.Test.YtlddkhhaclfmiaaGreatDoorP02
import Derived.Test.YtlddkhhaclfmiaaGreatDoorP01
namespace Go.Proofs.YtlddkhhaclfmiaaGreatDoor
open Go.ChangeShapes Go.WideShapes Go.ChangeAt Go.RowKit

theorem size_list (s : ByteArray) : s.size = s.data.toList.length := by simp
theorem take_snoc (s : ByteArray) (k : Nat) (h : k < s.size) : s.data.toList.take (k + 1) = s.data.toList.take k ++ [s[k]] := by
  rw [List.take_succ_eq_append_getElem (by simpa using h)]; rfl
theorem split_at (s : ByteArray) (k : Nat) (h : k < s.size) : s.data.toList = s.data.toList.take k ++ s[k] :: s.data.toList.drop (k + 1) := by
  have e := List.drop_eq_getElem_cons (l := s.data.toList) (i := k) (by simpa using h)
  conv => lhs; rw [← List.take_append_drop k s.data.toList, e]
  rfl

def Found (l : List UInt8) (v : Int) : Prop := (v = -1 ∧ (46 : UInt8) ∉ l) ∨ ∃ l1 l2, l = l1 ++ 46 :: l2 ∧ (46 : UInt8) ∉ l1 ∧ v = l1.length

theorem u8_46 {c : UInt8} (h : (c.toNat : Int) = 46) : c = 46 := by
  apply UInt8.toNat.inj
  have : c.toNat = 46 := by omega
  rw [this]; rfl

set_option maxHeartbeats 400000 in
theorem find_any (s : ByteArray) (w : World) (hs : s.size ≤ 2000000) :
    Calls Tryz.prog 133 #[.string s, .int .u8 46] w fun e w' => ∃ v : Int, e = .returned (.int .i64 v) ∧ w' = w ∧ Found s.data.toList v := by
  go_enter Tryz.func133, Tryz.ntmps133
  go_wp2
  go_loop [5] (fun i => ∃ k : Nat, k ≤ s.size ∧ i = .int .i64 k ∧ (46 : UInt8) ∉ s.data.toList.take k) (fun i => s.size - (intOf i).toNat)
  case atStart => exact ⟨0, Nat.zero_le _, rfl, by simp⟩
  case round =>
    obtain ⟨k, hk, rfl, hn⟩ := hrel
    have HN : Hid ((46 : UInt8) ∉ s.data.toList.take k) := hn
    clear hn
    by_cases hlt : k < s.size
    · by_cases h46 : s[k] = 46
      · have h1 : ((s[k].toNat : Int) == 46) = true := by rw [h46]; rfl
        have H46 : Hid (s[k] = 46) := h46
        clear h46
        go_wp2
        go_ret
        exact ⟨k, rfl, rfl, .inr ⟨s.data.toList.take k, s.data.toList.drop (k + 1), by have e := split_at s k hlt; rw [H46.out] at e; exact e, HN.out, by simp; omega⟩⟩
      · have h1 : ((s[k].toNat : Int) == 46) = false := by
          rw [beq_eq_false_iff_ne]; intro e; exact h46 (u8_46 e)
        have H46 : Hid (s[k] ≠ 46) := h46
        clear h46
        go_wp2
        go_round
        case rel =>
          refine ⟨k + 1, by omega, by go_num, ?_⟩
          rw [take_snoc s k hlt]
          have a1 := HN.out
          have a2 := H46.out
          simp only [List.mem_append, List.mem_singleton, not_or]
          exact ⟨a1, fun e => a2 e.symm⟩
        case measure => simp [intOf]; omega
    · go_wp2
      go_ret
      refine ⟨-1, rfl, rfl, .inl ⟨rfl, ?_⟩⟩
      have a1 := HN.out
      rwa [List.take_of_length_le (by simp; omega)] at a1

/-- One to seventeen digits. -/
def NumL (l : List UInt8) : Prop := (∀ c ∈ l, isD c = true) ∧ l ≠ [] ∧ l.length ≤ 17

/-- What l1Digits answers. -/
def digN (l : List UInt8) : Int := if (l.all isD && !l.isEmpty && decide (l.length ≤ 17)) = true then valN l else -1
theorem digN_yes {l : List UInt8} (h : NumL l) : digN l = valN l := by
  unfold digN
  rw [if_pos]
  obtain ⟨a, b, c⟩ := h
  simp only [Bool.and_eq_true, List.all_eq_true, decide_eq_true_eq, Bool.not_eq_true', List.isEmpty_eq_false_iff]
  exact ⟨⟨a, b⟩, c⟩
theorem digN_no {l : List UInt8} (h : ¬ NumL l) : digN l = -1 := by
  unfold digN
  rw [if_neg]
  intro e
  simp only [Bool.and_eq_true, List.all_eq_true, decide_eq_true_eq, Bool.not_eq_true', List.isEmpty_eq_false_iff] at e
  exact h ⟨e.1.1, e.1.2, e.2⟩
theorem digN_bd (l : List UInt8) : -1 ≤ digN l ∧ digN l ≤ 1000000000000000000 := by
  unfold digN
  split
  · rename_i h
    simp only [Bool.and_eq_true, List.all_eq_true, decide_eq_true_eq] at h
    have hb := val_bd l h.1.1
    have e := Nat.pow_le_pow_right (show 0 < 10 by omega) h.2
    have e2 : (10 : Nat) ^ 17 = 100000000000000000 := by decide
    have e4 : (10 : Int) ^ l.length = (((10 : Nat) ^ l.length : Nat) : Int) := by rw [Int.natCast_pow]; rfl
    rw [e4] at hb
    omega
  · omega
theorem ret_int {k : IntKind} {a b : Int} (h : a = b) : Ending.returned (.int k a) = .returned (.int k b) := by rw [h]

set_option maxHeartbeats 400000 in
theorem digs_any (s : ByteArray) (w : World) (hs : s.size ≤ 2000000) :
    Calls Tryz.prog 132 #[.string s] w fun e w' => e = .returned (.int .i64 (digN s.data.toList)) ∧ w' = w := by
  by_cases h0 : s.size = 0
  · have h0' : ((s.size : Int) == 0) = true := by simp [h0]
    have H0 : Hid (s.size = 0) := h0
    clear h0
    go_enter Tryz.func132, Tryz.ntmps132
    go_wp2
    go_ret
    refine ⟨ret_int (digN_no fun h => absurd (List.eq_nil_of_length_eq_zero ?_) h.2.1).symm, rfl⟩
    have := H0.out; simpa using this
  have h0' : ((s.size : Int) == 0) = false := by rw [beq_eq_false_iff_ne]; omega
  by_cases h17 : 17 < s.size
  · have h17' : (17 : Int) < s.size := by omega
    go_enter Tryz.func132, Tryz.ntmps132
    go_wp2
    go_ret
    refine ⟨ret_int (digN_no fun h => ?_).symm, rfl⟩
    have e1 : s.data.toList.length = s.size := by simp
    have e2 := h.2.2
    omega
  have h17' : ¬ (17 : Int) < s.size := by omega
  have HZ : Hid (¬ s.size = 0) := h0
  go_enter Tryz.func132, Tryz.ntmps132
  go_wp2
  go_loop [3, 4] (fun n i => ∃ k : Nat, k ≤ s.size ∧ i = .int .i64 k ∧ (∀ c ∈ s.data.toList.take k, isD c = true) ∧ n = .int .i64 (valN (s.data.toList.take k))) (fun _ i => s.size - (intOf i).toNat)
  case atStart => exact ⟨0, Nat.zero_le _, rfl, by simp, rfl⟩
  case round =>
    obtain ⟨k, hk, rfl, ha, rfl⟩ := hrel
    have HA : Hid (∀ c ∈ s.data.toList.take k, isD c = true) := ha
    have hb := val_bd _ ha
    have hpw : (10 : Int) ^ (s.data.toList.take k).length ≤ 100000000000000000 := by
      have hl : (s.data.toList.take k).length ≤ 17 := by simp; omega
      have e := Nat.pow_le_pow_right (show 0 < 10 by omega) hl
      have e2 : (10 : Nat) ^ 17 = 100000000000000000 := by decide
      have e3 : ((10 : Nat) ^ (s.data.toList.take k).length : Nat) ≤ 100000000000000000 := by omega
      have e4 : (10 : Int) ^ (s.data.toList.take k).length = (((10 : Nat) ^ (s.data.toList.take k).length : Nat) : Int) := by rw [Int.natCast_pow]; rfl
      rw [e4]; omega
    have hv0 : 0 ≤ valN (s.data.toList.take k) := hb.1
    have hv1 : valN (s.data.toList.take k) < 100000000000000000 := by omega
    clear ha hb hpw
    by_cases hlt : k < s.size
    · have hpw2 : k ≤ 16 := by omega
      have hsn := val_snoc (s.data.toList.take k) s[k]
      rw [← take_snoc s k hlt] at hsn
      have HS : Hid (valN (s.data.toList.take (k + 1)) = valN (s.data.toList.take k) * 10 + ((s[k].toNat : Int) - 48)) := hsn
      clear hsn
      have HM : Hid (s[k] ∈ s.data.toList) := by show _ ∈ _; rw [split_at s k hlt]; simp
      by_cases h48 : (s[k].toNat : Int) < 48
      · go_wp2
        go_ret
        refine ⟨ret_int (digN_no fun h => ?_).symm, rfl⟩
        have := h.1 _ HM.out
        simp [isD] at this; omega
      by_cases h57 : 57 < (s[k].toNat : Int)
      · go_wp2
        go_ret
        refine ⟨ret_int (digN_no fun h => ?_).symm, rfl⟩
        have := h.1 _ HM.out
        simp [isD] at this; omega
      · go_wp2
        go_round
        case rel =>
          refine ⟨k + 1, by omega, by go_num, ?_, by rw [HS.out]⟩
          rw [take_snoc s k hlt]
          intro c hc
          simp only [List.mem_append, List.mem_singleton] at hc
          rcases hc with hc | rfl
          · exact HA.out c hc
          · simp [isD]; omega
        case measure => simp [intOf]; omega
    · go_wp2
      go_ret
      have e : s.data.toList.take k = s.data.toList := List.take_of_length_le (by simp; omega)
      have a1 := HA.out
      rw [e] at a1
      exact ⟨ret_int (by rw [e, digN_yes ⟨a1, fun e0 => HZ.out (by rw [size_list, e0]; rfl), by rw [← size_list]; omega⟩]), rfl⟩
end Go.Proofs.YtlddkhhaclfmiaaGreatDoor

/- The shapes of the texts of operands. Helper text: no statement is claimed here. -/
namespace Go.Proofs.YtlddkhhaclfmiaaGreatDoor
open Go.RowKit

/-- A sign and a number: none and u, or '-' and a u that is not 0. -/
def Sgn (sg : List UInt8) (u : Nat) (N : Int) : Prop := (sg = [] ∧ N = u) ∨ (sg = [45] ∧ 1 ≤ u ∧ N = -(u : Int))
def ShWord (t : List UInt8) (K N P : Int) : Prop := K = 13 ∧ P = 0 ∧ ∃ i : Nat, i < 4 ∧ N = i ∧ t = wordL i
def ShDev (t : List UInt8) (K N P : Int) : Prop := P = 0 ∧ ∃ k u : Nat, 1 ≤ k ∧ k ≤ 10 ∧ K = k ∧ N = u ∧ u < 64 ∧ t = rL k ++ Lib.decDigits u
def ShInt (t : List UInt8) (K N P : Int) : Prop := K = 11 ∧ P = 0 ∧ ∃ (sg : List UInt8) (u : Nat), u ≤ 32768 ∧ Sgn sg u N ∧ t = sg ++ Lib.decDigits u
def ShDec (t : List UInt8) (K N P : Int) : Prop := K = 12 ∧ ∃ (sg l1 l2 : List UInt8) (u : Nat), P = l2.length ∧ 1 ≤ l2.length ∧ l2.length ≤ 6 ∧ Sgn sg u N ∧ t = sg ++ (l1 ++ 46 :: l2) ∧ l1 ≠ [] ∧ (∀ c ∈ l1 ++ l2, isD c = true) ∧ valN (l1 ++ l2) = u ∧ (l1 ++ l2).length ≤ 9
def Sh (t : List UInt8) (K N P : Int) : Prop := ShWord t K N P ∨ ShDev t K N P ∨ ShInt t K N P ∨ ShDec t K N P

theorem shape_of {K N P : Int} (h : okB K N P = true) : Sh (txt K N P) K N P := by
  unfold txt
  rw [if_pos h]
  by_cases h1 : K = 11
  · subst h1
    obtain ⟨a, b, rfl⟩ := okB_int h
    refine .inr (.inr (.inl ⟨rfl, rfl, ?_⟩))
    simp only [if_true]
    by_cases hn : N < 0
    · obtain ⟨u, rfl⟩ : ∃ u : Nat, N = -(u : Int) := ⟨N.natAbs, by omega⟩
      exact ⟨[45], u, by omega, .inr ⟨rfl, by omega, rfl⟩, by rw [Lib.itoa_neg u (by omega)]; rfl⟩
    · obtain ⟨u, rfl⟩ := Int.eq_ofNat_of_zero_le (show 0 ≤ N by omega)
      exact ⟨[], u, by omega, .inl ⟨rfl, rfl⟩, by rw [Lib.itoa_nonneg]; rfl⟩
  by_cases h2 : K = 12
  · subst h2
    obtain ⟨a, b, c, d⟩ := okB_dec h
    obtain ⟨p, rfl⟩ := Int.eq_ofNat_of_zero_le (show 0 ≤ P by omega)
    refine .inr (.inr (.inr ⟨rfl, ?_⟩))
    simp only [show ((12 : Int) = 11) = False by simp, if_false, if_true]
    rw [show (p : Int).toNat = p by omega]
    by_cases hn : N < 0
    · obtain ⟨u, rfl⟩ : ∃ u : Nat, N = -(u : Int) := ⟨N.natAbs, by omega⟩
      obtain ⟨l1, l2, e1, e2, e3, e4⟩ := pt_parts p _ (pad_len p u (by omega) (by omega)).1
      refine ⟨[45], l1, l2, u, by omega, by omega, by omega, .inr ⟨rfl, by omega, rfl⟩, ?_, e4, by rw [e2]; exact pad_all p u, by rw [e2]; exact pad_val p u, by rw [e2]; exact (pad_len p u (by omega) (by omega)).2⟩
      unfold decT
      rw [if_pos hn, show (-(u : Int)).natAbs = u by omega, e1]; rfl
    · obtain ⟨u, rfl⟩ := Int.eq_ofNat_of_zero_le (show 0 ≤ N by omega)
      obtain ⟨l1, l2, e1, e2, e3, e4⟩ := pt_parts p _ (pad_len p u (by omega) (by omega)).1
      refine ⟨[], l1, l2, u, by omega, by omega, by omega, .inl ⟨rfl, rfl⟩, ?_, e4, by rw [e2]; exact pad_all p u, by rw [e2]; exact pad_val p u, by rw [e2]; exact (pad_len p u (by omega) (by omega)).2⟩
      unfold decT
      rw [if_neg hn, show (u : Int).toNat = u by omega, e1]; rfl
  by_cases h3 : K = 13
  · subst h3
    obtain ⟨a, b, rfl⟩ := okB_word h
    obtain ⟨i, rfl⟩ := Int.eq_ofNat_of_zero_le a
    exact .inl ⟨rfl, rfl, i, by omega, rfl, by simp⟩
  · obtain ⟨a, b, -, rfl, c, d⟩ := okB_device h1 h2 h3 h
    obtain ⟨u, rfl⟩ := Int.eq_ofNat_of_zero_le a
    obtain ⟨k, rfl⟩ := Int.eq_ofNat_of_zero_le (show 0 ≤ K by omega)
    refine .inr (.inl ⟨rfl, k, u, by omega, by omega, rfl, rfl, by omega, ?_⟩)
    simp only [h1, h2, h3, if_false]
    rw [kz_nat k (by omega) (by omega), Lib.itoa_nonneg]

/-! What the first bytes say. -/
theorem rL_oneT {k : Nat} (h1 : 1 ≤ k) (h2 : k ≤ 10) : ∃ c, rL k = [c] ∧ 65 ≤ c.toNat ∧ c.toNat ≤ 90 := by
  have : k = 1 ∨ k = 2 ∨ k = 3 ∨ k = 4 ∨ k = 5 ∨ k = 6 ∨ k = 7 ∨ k = 8 ∨ k = 9 ∨ k = 10 := by omega
  rcases this with rfl | rfl | rfl | rfl | rfl | rfl | rfl | rfl | rfl | rfl <;> exact ⟨_, rfl, by decide, by decide⟩
theorem rL_inj {j k : Nat} (h1 : 1 ≤ j) (h2 : j ≤ 10) (h3 : 1 ≤ k) (h4 : k ≤ 10) (h : rL j = rL k) : j = k := by
  have a : j = 1 ∨ j = 2 ∨ j = 3 ∨ j = 4 ∨ j = 5 ∨ j = 6 ∨ j = 7 ∨ j = 8 ∨ j = 9 ∨ j = 10 := by omega
  have b : k = 1 ∨ k = 2 ∨ k = 3 ∨ k = 4 ∨ k = 5 ∨ k = 6 ∨ k = 7 ∨ k = 8 ∨ k = 9 ∨ k = 10 := by omega
  rcases a with rfl | rfl | rfl | rfl | rfl | rfl | rfl | rfl | rfl | rfl <;> rcases b with rfl | rfl | rfl | rfl | rfl | rfl | rfl | rfl | rfl | rfl <;> first | rfl | (exact absurd h (by decide))
theorem digits_cons (u : Nat) : ∃ c r, Lib.decDigits u = c :: r ∧ isD c = true := by
  cases h : Lib.decDigits u with
  | nil => exact absurd h (digits_ne u)
  | cons c r => exact ⟨c, r, rfl, digits_all u c (by rw [h]; simp)⟩
/-- The first byte of a number's text: a digit or '-'. -/
theorem num_head {t : List UInt8} {K N P : Int} (h : ShInt t K N P ∨ ShDec t K N P) : ∃ c r, t = c :: r ∧ (isD c = true ∨ c = 45) := by
  rcases h with ⟨-, -, sg, u, -, hs, rfl⟩ | ⟨-, sg, l1, l2, u, -, -, -, hs, rfl, hl, ha, -, -⟩
  · rcases hs with ⟨rfl, -⟩ | ⟨rfl, -, -⟩
    · obtain ⟨c, r, e, hc⟩ := digits_cons u
      exact ⟨c, r, by rw [e]; rfl, .inl hc⟩
    · exact ⟨45, _, rfl, .inr rfl⟩
  · rcases hs with ⟨rfl, -⟩ | ⟨rfl, -, -⟩
    · cases l1 with
      | nil => exact absurd rfl hl
      | cons c r => exact ⟨c, r ++ 46 :: l2, rfl, .inl (ha c (by simp))⟩
    · exact ⟨45, _, rfl, .inr rfl⟩
theorem isD_lt {c : UInt8} (h : isD c = true) : 48 ≤ c.toNat ∧ c.toNat ≤ 57 := by simpa [isD] using h

/-- A word is the text of no device and of no number. -/
theorem word_only {i : Nat} (hi : i < 4) {K N P : Int} (h : Sh (wordL i) K N P) : K = 13 ∧ N = i ∧ P = 0 := by
  rcases h with ⟨h1, h2, j, hj, h3, h4⟩ | ⟨-, k, u, h1, h2, -, -, -, h4⟩ | h | h
  · have a : i = 0 ∨ i = 1 ∨ i = 2 ∨ i = 3 := by omega
    have b : j = 0 ∨ j = 1 ∨ j = 2 ∨ j = 3 := by omega
    rcases a with rfl | rfl | rfl | rfl <;> rcases b with rfl | rfl | rfl | rfl <;> first | exact ⟨h1, h3, h2⟩ | exact absurd h4 (by decide)
  · obtain ⟨c, e, c1, c2⟩ := rL_oneT h1 h2
    rw [e] at h4
    have a : i = 0 ∨ i = 1 ∨ i = 2 ∨ i = 3 := by omega
    rcases a with rfl | rfl | rfl | rfl <;> (simp only [wordL, List.singleton_append, List.cons.injEq] at h4; obtain ⟨rfl, -⟩ := h4; first | exact absurd c1 (by decide) | exact absurd c2 (by decide))
  · obtain ⟨-, -, sg, u, -, hs, e⟩ := h
    obtain ⟨c, r, e2, hc⟩ := digits_cons u
    have hall := digits_all u
    have a : i = 0 ∨ i = 1 ∨ i = 2 ∨ i = 3 := by omega
    rcases hs with ⟨rfl, -⟩ | ⟨rfl, -, -⟩
    · rw [List.nil_append] at e
      rw [← e] at hall
      rcases a with rfl | rfl | rfl | rfl <;> exact absurd hall (by decide)
    · rcases a with rfl | rfl | rfl | rfl <;> simp only [wordL, List.singleton_append, List.cons.injEq] at e
      · exact absurd e.1 (by decide)
      · exact absurd e.1 (by decide)
      · rw [← e.2] at hall; exact absurd hall (by decide)
      · rw [← e.2] at hall; exact absurd hall (by decide)
  · obtain ⟨-, sg, l1, l2, u, -, hl2, -, hs, e, hl, ha, hv, -⟩ := h
    have a : i = 0 ∨ i = 1 ∨ i = 2 ∨ i = 3 := by omega
    have hm : (46 : UInt8) ∈ wordL i := by rw [e]; simp
    rcases a with rfl | rfl | rfl | rfl
    · exact absurd hm (by decide)
    · exact absurd hm (by decide)
    · exact absurd hm (by decide)
    · rcases hs with ⟨rfl, -⟩ | ⟨rfl, hu, -⟩
      · cases l1 with
        | nil => exact absurd rfl hl
        | cons c r =>
          simp only [wordL, List.nil_append, List.cons_append, List.cons.injEq] at e
          have := isD_lt (ha c (by simp))
          rw [← e.1] at this
          exact absurd this.1 (by decide)
      · simp only [wordL, List.singleton_append, List.cons.injEq, true_and] at e
        cases l1 with
        | nil => exact absurd rfl hl
        | cons c r =>
          simp only [List.cons_append, List.cons.injEq] at e
          cases r with
          | nil =>
            simp only [List.nil_append, List.cons.injEq, true_and] at e
            obtain ⟨rfl, rfl⟩ := e
            have : valN ([48] ++ [48]) = 0 := by decide
            rw [this] at hv; omega
          | cons d r2 =>
            simp only [List.cons_append, List.cons.injEq] at e
            have := isD_lt (ha d (by simp))
            rw [← e.2.1] at this
            exact absurd this.1 (by decide)
end Go.Proofs.YtlddkhhaclfmiaaGreatDoor

/- An operand in memory of the call's own. Helper text: no statement is claimed here. -/
namespace Go.Proofs.YtlddkhhaclfmiaaGreatDoor
open Go.ChangeShapes Go.WideShapes Go.ChangeAt Go.RowKit

/-- A result of type DevArg that lies in memory. -/
theorem resArg {fn : Func} {W : World} {b p : Nat} {tmps : Array Value} {x y z : Value} (h : fn.results = #[.cell p 51]) (hp : tmps.getD p undef = .pointer (some ⟨b, 0, none⟩))
    (hc : W.cell? ⟨b, 0, none⟩ = some x ∧ W.cell? ⟨b, 1, none⟩ = some y ∧ W.cell? ⟨b, 2, none⟩ = some z) : (results fn tmps).run Tryz.prog W = .ok (.agg #[x, y, z]) W := by
  obtain ⟨h0, h1, h2⟩ := hc
  simp only [results, h]
  simp [go_sem]
  rw [show tmps[p]?.getD undef = .pointer (some ⟨b, 0, none⟩) by simpa [Array.getD_eq_getD_getElem?] using hp]
  simp [go_sem, h0, h1, h2]
theorem put3 {w1 : World} {b : Nat} {x y z u0 u1 u2 : Value} (hc : w1.cell? ⟨b, 0, none⟩ = some u0 ∧ w1.cell? ⟨b, 1, none⟩ = some u1 ∧ w1.cell? ⟨b, 2, none⟩ = some u2) :
    (((w1.setCell ⟨b, 0, none⟩ x).setCell ⟨b, 1, none⟩ y).setCell ⟨b, 2, none⟩ z).cell? ⟨b, 0, none⟩ = some x ∧ (((w1.setCell ⟨b, 0, none⟩ x).setCell ⟨b, 1, none⟩ y).setCell ⟨b, 2, none⟩ z).cell? ⟨b, 1, none⟩ = some y ∧ (((w1.setCell ⟨b, 0, none⟩ x).setCell ⟨b, 1, none⟩ y).setCell ⟨b, 2, none⟩ z).cell? ⟨b, 2, none⟩ = some z := by
  obtain ⟨h0, h1, h2⟩ := hc
  have e1 : (w1.setCell ⟨b, 0, none⟩ x).cell? ⟨b, 1, none⟩ = some u1 := by rw [World.cell?_setCell_other _ _ _ _ (by simp)]; exact h1
  have e2 : ((w1.setCell ⟨b, 0, none⟩ x).setCell ⟨b, 1, none⟩ y).cell? ⟨b, 2, none⟩ = some u2 := by rw [World.cell?_setCell_other _ _ _ _ (by simp), World.cell?_setCell_other _ _ _ _ (by simp)]; exact h2
  refine ⟨?_, ?_, World.cell?_setCell_same _ _ _ e2⟩
  · rw [World.cell?_setCell_other _ _ _ _ (by simp), World.cell?_setCell_other _ _ _ _ (by simp)]; exact World.cell?_setCell_same _ _ _ h0
  · rw [World.cell?_setCell_other _ _ _ _ (by simp)]; exact World.cell?_setCell_same _ _ _ e1
/-- A DevArg of the call's own lies in block b. -/
def Own (w : World) (b : Nat) (x y z : Value) : Prop :=
  (w.cell? ⟨b, 0, none⟩ = some x ∧ w.cell? ⟨b, 1, none⟩ = some y ∧ w.cell? ⟨b, 2, none⟩ = some z) ∧ w.frozen? ⟨b, 0, none⟩ = false ∧ w.frozen? ⟨b, 1, none⟩ = false ∧ w.frozen? ⟨b, 2, none⟩ = false
theorem Own.new (w : World) (x y z : Value) : Own (w.alloc (.cells #[x, y, z] 51)) w.heap.size x y z := by
  refine ⟨⟨?_, ?_, ?_⟩, ?_, ?_, ?_⟩ <;> simp [go_sem]
theorem Own.lt {w : World} {b : Nat} {x y z : Value} (h : Own w b x y z) : b < w.heap.size := World.block_lt_of_cell? w ⟨b, 0, none⟩ h.1.1
theorem Own.below {w w' : World} {b : Nat} {x y z : Value} (h : Own w b x y z) (hb : Below w.heap.size w w') : Own w' b x y z := by
  have hlt := h.lt
  unfold Own
  rw [hb.cell (p := ⟨b, 0, none⟩) hlt, hb.cell (p := ⟨b, 1, none⟩) hlt, hb.cell (p := ⟨b, 2, none⟩) hlt, hb.frozen (p := ⟨b, 0, none⟩) hlt, hb.frozen (p := ⟨b, 1, none⟩) hlt, hb.frozen (p := ⟨b, 2, none⟩) hlt]
  exact h
theorem Own.alloc {b : Nat} {w : World} {x y z : Value} (h : Own w b x y z) (o : Obj) : Own (w.alloc o) b x y z := h.below (one w o)
theorem Own.put {w : World} {b : Nat} {x y z : Value} (h : Own w b x y z) (x' y' z' : Value) : Own (((w.setCell ⟨b, 0, none⟩ x').setCell ⟨b, 1, none⟩ y').setCell ⟨b, 2, none⟩ z') b x' y' z' :=
  ⟨put3 h.1, by rw [World.frozen?_setCell, World.frozen?_setCell, World.frozen?_setCell]; exact h.2.1, by rw [World.frozen?_setCell, World.frozen?_setCell, World.frozen?_setCell]; exact h.2.2.1, by rw [World.frozen?_setCell, World.frozen?_setCell, World.frozen?_setCell]; exact h.2.2.2⟩
theorem Own.set {w : World} {b c i : Nat} {x y z v : Value} (h : Own w b x y z) (hc : c ≠ b) : Own (w.setCell ⟨c, i, none⟩ v) b x y z := by
  unfold Own
  rw [World.cell?_setCell_other w ⟨c, i, none⟩ ⟨b, 0, none⟩ _ (by simp <;> omega), World.cell?_setCell_other w ⟨c, i, none⟩ ⟨b, 1, none⟩ _ (by simp <;> omega), World.cell?_setCell_other w ⟨c, i, none⟩ ⟨b, 2, none⟩ _ (by simp <;> omega), World.frozen?_setCell, World.frozen?_setCell, World.frozen?_setCell]
  exact h
end Go.Proofs.YtlddkhhaclfmiaaGreatDoor

/- The document's l1Guess. Helper text: no statement is claimed here. -/
namespace Go.Proofs.YtlddkhhaclfmiaaGreatDoor
open Go.ChangeShapes Go.WideShapes Go.ChangeAt Go.RowKit

/-- What a guess owes: the operand of which this is the text. -/
def Gs (t : List UInt8) (k n p : Int) : Prop := ∀ K N P, Sh t K N P → k = K ∧ n = N ∧ p = P
def Guessed (t : List UInt8) (w : World) (e : Ending) (w' : World) : Prop := ∃ k n p : Int, e = .returned (.agg #[.int .i64 k, .int .i64 n, .int .i64 p]) ∧ Gs t k n p ∧ Below w.heap.size w w'

theorem str_eq {s : ByteArray} {l : List UInt8} : s = ⟨l.toArray⟩ ↔ s.data.toList = l := by
  constructor
  · rintro rfl; simp
  · intro h; apply ByteArray.ext; apply Array.toList_inj.1; simpa using h
theorem gs_word {t : List UInt8} {m : Nat} (hm : m < 4) (h : t = wordL m) : Gs t 13 m 0 := by
  intro K N P hS
  rw [h] at hS
  obtain ⟨a, b, c⟩ := word_only hm hS
  exact ⟨a.symm, b.symm, c.symm⟩

theorem gs_letter {t r : List UInt8} {c : UInt8} {m : Nat} {v : Int} (ht : t = c :: r) (h1 : 1 ≤ m) (h2 : m ≤ 10) (hc : rL m = [c]) (hv : NumL r → v = valN r) : Gs t m v 0 := by
  intro K N P hS
  obtain ⟨c', e', c1, c2⟩ := rL_oneT h1 h2
  rw [hc] at e'
  simp only [List.cons.injEq, and_true] at e'
  subst e'
  rcases hS with ⟨-, -, i, hi, -, e⟩ | ⟨hP, k, u, k1, k2, hK, hN, hu, e⟩ | h | h
  · exfalso
    have a : i = 0 ∨ i = 1 ∨ i = 2 ∨ i = 3 := by omega
    rw [ht] at e
    rcases a with rfl | rfl | rfl | rfl <;> (simp only [wordL, List.cons.injEq] at e; obtain ⟨rfl, -⟩ := e; first | exact absurd c1 (by decide) | exact absurd c2 (by decide))
  · obtain ⟨c2', e2, -, -⟩ := rL_oneT k1 k2
    rw [ht, e2] at e
    simp only [List.singleton_append, List.cons.injEq] at e
    obtain ⟨rfl, rfl⟩ := e
    have hk : m = k := rL_inj h1 h2 k1 k2 (by rw [hc, e2])
    subst hk
    have hn : NumL (Lib.decDigits u) := ⟨digits_all u, digits_ne u, by have := digits_small 2 u (by omega) (by omega); omega⟩
    rw [hv hn, digits_val]
    exact ⟨hK.symm, hN.symm, hP.symm⟩
  · exfalso
    obtain ⟨d, r', e, hd⟩ := num_head (.inl h)
    rw [ht] at e
    simp only [List.cons.injEq] at e
    obtain ⟨rfl, -⟩ := e
    rcases hd with hd | rfl
    · have := isD_lt hd; omega
    · exact absurd c1 (by decide)
  · exfalso
    obtain ⟨d, r', e, hd⟩ := num_head (.inr h)
    rw [ht] at e
    simp only [List.cons.injEq] at e
    obtain ⟨rfl, -⟩ := e
    rcases hd with hd | rfl
    · have := isD_lt hd; omega
    · exact absurd c1 (by decide)

/-- Neither a word nor a device: a number. -/
def NoName (t : List UInt8) : Prop := (∀ j, j < 4 → t ≠ wordL j) ∧ ∀ m, 1 ≤ m → m ≤ 10 → ∀ c r, t = c :: r → rL m ≠ [c]
theorem sh_num {t : List UInt8} {K N P : Int} (h : NoName t) (hS : Sh t K N P) : ShInt t K N P ∨ ShDec t K N P := by
  rcases hS with ⟨-, -, i, hi, -, e⟩ | ⟨-, k, u, k1, k2, -, -, -, e⟩ | hS | hS
  · exact absurd e (h.1 i hi)
  · obtain ⟨c, e2, -, -⟩ := rL_oneT k1 k2
    exact absurd e2 (h.2 k k1 k2 c (Lib.decDigits u) (by rw [e, e2]; rfl))
  · exact .inl hS
  · exact .inr hS
/-- How the sign was taken off. -/
def Off (t t' : List UInt8) (q : Int) : Prop := (q = 1 ∧ t = t' ∧ ∀ r, t' ≠ 45 :: r) ∨ (q = -1 ∧ t = 45 :: t')
theorem sgn_eq {t t' x : List UInt8} {q : Int} {sg : List UInt8} {u : Nat} {N : Int} (ho : Off t t' q) (hs : Sgn sg u N) (ht : t = sg ++ x) (hx : ∀ r, x ≠ 45 :: r) : t' = x ∧ N = q * u := by
  rcases ho with ⟨rfl, rfl, h45⟩ | ⟨rfl, e⟩
  · rcases hs with ⟨rfl, rfl⟩ | ⟨rfl, -, -⟩
    · exact ⟨ht, by omega⟩
    · exact absurd ht (h45 x)
  · rcases hs with ⟨rfl, rfl⟩ | ⟨rfl, -, rfl⟩
    · rw [e] at ht; exact absurd ht.symm (hx t')
    · rw [e] at ht
      simp only [List.singleton_append, List.cons.injEq, true_and] at ht
      exact ⟨ht, by omega⟩
theorem not45 {l : List UInt8} (h : ∀ c ∈ l, isD c = true) (r : List UInt8) : l ≠ 45 :: r := by
  rintro rfl
  exact absurd (h 45 (by simp)) (by decide)
theorem first_eq {c : UInt8} : ∀ {a b l1 l2 : List UInt8}, c ∉ a → c ∉ l1 → a ++ c :: b = l1 ++ c :: l2 → a = l1 ∧ b = l2
  | [], b, [], l2, _, _, h => by simp at h; exact ⟨rfl, h⟩
  | [], b, y :: l1, l2, _, h1, h => by simp at h; exact absurd h.1 (fun e => h1 (by simp [e]))
  | x :: a, b, [], l2, h1, _, h => by simp at h; exact absurd h.1 (fun e => h1 (by simp [e]))
  | x :: a, b, y :: l1, l2, h1, h2, h => by
    simp only [List.cons_append, List.cons.injEq] at h
    obtain ⟨e1, e2⟩ := first_eq (fun hm => h1 (by simp [hm])) (fun hm => h2 (by simp [hm])) h.2
    exact ⟨by rw [h.1, e1], e2⟩
theorem no46 {l : List UInt8} (h : ∀ c ∈ l, isD c = true) : (46 : UInt8) ∉ l := fun hm => absurd (h 46 hm) (by decide)

theorem gs_int {t t' : List UInt8} {q v : Int} (h : NoName t) (ho : Off t t' q) (h46 : (46 : UInt8) ∉ t') (hv : NumL t' → v = valN t') : Gs t 11 (q * v) 0 := by
  intro K N P hS
  rcases sh_num h hS with ⟨rfl, rfl, sg, u, hu, hs, e⟩ | ⟨-, sg, l1, l2, u, -, -, -, hs, e, hl, ha, -, -⟩
  · obtain ⟨rfl, hN⟩ := sgn_eq ho hs e (not45 (digits_all u))
    have hn : NumL (Lib.decDigits u) := ⟨digits_all u, digits_ne u, by have := digits_small 5 u (by omega) (by omega); omega⟩
    rw [hv hn, digits_val]
    exact ⟨rfl, hN.symm, rfl⟩
  · exfalso
    have hx : ∀ r, l1 ++ 46 :: l2 ≠ 45 :: r := by
      intro r e2
      cases l1 with
      | nil => exact hl rfl
      | cons c l1 =>
        simp only [List.cons_append, List.cons.injEq] at e2
        have := ha c (by simp)
        rw [e2.1] at this
        exact absurd this (by decide)
    obtain ⟨rfl, -⟩ := sgn_eq ho hs e hx
    exact h46 (by simp)
theorem gs_dec {t t' a b : List UInt8} {q v : Int} (h : NoName t) (ho : Off t t' q) (ht : t' = a ++ 46 :: b) (h46 : (46 : UInt8) ∉ a) (hv : NumL (a ++ b) → v = valN (a ++ b)) : Gs t 12 (q * v) b.length := by
  intro K N P hS
  rcases sh_num h hS with ⟨-, -, sg, u, hu, hs, e⟩ | ⟨rfl, sg, l1, l2, u, hP, p1, p2, hs, e, hl, ha, hval, hlen⟩
  · exfalso
    obtain ⟨e2, -⟩ := sgn_eq ho hs e (not45 (digits_all u))
    exact no46 (digits_all u) (by rw [← e2, ht]; simp)
  · have hx : ∀ r, l1 ++ 46 :: l2 ≠ 45 :: r := by
      intro r e2
      cases l1 with
      | nil => exact hl rfl
      | cons c l1 =>
        simp only [List.cons_append, List.cons.injEq] at e2
        have := ha c (by simp)
        rw [e2.1] at this
        exact absurd this (by decide)
    obtain ⟨e2, hN⟩ := sgn_eq ho hs e hx
    obtain ⟨rfl, rfl⟩ := first_eq h46 (no46 (fun c hc => ha c (by simp [hc]))) (ht.symm.trans e2)
    have hn : NumL (a ++ b) := ⟨ha, by intro e3; simp at e3; exact hl e3.1, by omega⟩
    rw [hv hn, hval]
    exact ⟨rfl, hN.symm, hP.symm⟩
end Go.Proofs.YtlddkhhaclfmiaaGreatDoor
