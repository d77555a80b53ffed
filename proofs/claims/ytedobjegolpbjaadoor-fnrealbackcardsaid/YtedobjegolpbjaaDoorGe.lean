/- Reading a numeral, as the document does it: l9Num. Helper text: no statement is claimed here. -/
import Derived.Test.YtedobjegolpbjaaDoorGd
namespace Go.Proofs.YtedobjegolpbjaaDoor
open Go.ChangeShapes Go.WideShapes Go.ChangeAt Go.RowKit Fl

set_option maxHeartbeats 1000000 in
theorem num_pos (s : ByteArray) (w : World) (hs : s.size ≤ 2000000) (h0 : ∀ h : 0 < s.size, s[0] ≠ 45) :
    Calls Tryd.prog 59 #[.string s] w (Numd s.data.toList w) := by
  have hhd : Hid (Plain false s.data.toList) := fun _ r e => by
    have hz : 0 < s.size := by have := congrArg List.length e; simp at this; omega
    have := split_atG s 0 hz
    rw [e] at this
    simp at this
    exact h0 hz this.symm
  obtain ⟨T, hT⟩ : ∃ T, T = s.data.toList := ⟨_, rfl⟩
  have hbl : Hid (T = sgL false ++ s.data.toList) := hT
  rw [← hT]
  clear hT
  by_cases z0 : s.size = 0
  · have z0' : ((s.size : Int) == 0) = true := by simp [z0]
    have z1' : ¬ (0 : Int) < s.size := by omega
    have HZ : Hid (s.data.toList = []) := by show _ = _; apply List.eq_nil_of_length_eq_zero; simpa using z0
    clear z0 h0
    go_enter Tryd.func59, Tryd.ntmps59
    go_wp2
    exact bodyPost_ret (v := .tuple #[.int .i64 0, .bool false]) (post_r Tryd.results59 rfl rfl) rfl ⟨0, false, rfl, num_no hbl.out hhd.out (.inl HZ.out), rfl⟩
  have z0' : ((s.size : Int) == 0) = false := by rw [beq_eq_false_iff_ne]; omega
  have z1 : 0 < s.size := by omega
  have z1' : (0 : Int) < s.size := by omega
  have h45 : ((s[0].toNat : Int) == 45) = false := by
    rw [beq_eq_false_iff_ne]; intro e
    exact h0 z1 (UInt8.toNat.inj (by have : s[0].toNat = 45 := by omega
                                     rw [this]; rfl))
  clear h0 z0
  by_cases z17 : 17 < s.size
  · have z17' : (17 : Int) < s.size := by omega
    have HZ : Hid (17 < s.data.toList.length) := by show _ < _; simpa using z17
    go_enter Tryd.func59, Tryd.ntmps59
    go_wp2
    exact bodyPost_ret (v := .tuple #[.int .i64 0, .bool false]) (post_r Tryd.results59 rfl rfl) rfl ⟨0, false, rfl, num_no hbl.out hhd.out (.inr (.inl HZ.out)), rfl⟩
  have z17' : ¬ (17 : Int) < s.size := by omega
  have HH0 : Hid (s.data.toList.head? = some s[0]) := by
    show _ = _
    have := split_atG s 0 z1
    rw [this]; rfl
  have hlen : s.data.toList.length = s.size := by simp
  have HLEN : Hid (s.data.toList.length = s.size) := hlen
  clear hlen
  by_cases z48 : s[0] = 48 ∧ 1 < s.size
  · have zz : ((s[0].toNat : Int) == 48) = true := by rw [z48.1]; rfl
    have z2 : (1 : Int) < s.size := by omega
    have HZ : Hid (Lead false s.data.toList) := ⟨by rw [HH0.out, z48.1], .inr (by rw [HLEN.out]; exact z48.2)⟩
    clear z48
    go_enter Tryd.func59, Tryd.ntmps59
    go_wp2
    exact bodyPost_ret (v := .tuple #[.int .i64 0, .bool false]) (post_r Tryd.results59 rfl rfl) rfl ⟨0, false, rfl, num_no hbl.out hhd.out (.inr (.inr (.inl HZ.out))), rfl⟩
  have HC : Hid (Canon false s.data.toList) := by
    by_cases h : s[0] = 48
    · right
      refine ⟨rfl, ?_⟩
      have h3 : ¬ 1 < s.size := fun hh => z48 ⟨h, hh⟩
      rw [HLEN.out]; omega
    · left; rw [HH0.out]; intro e; exact h (Option.some.inj e)
  have hcond : ((s[0].toNat : Int) == 48) = false ∨ ((s[0].toNat : Int) == 48) = true ∧ ¬ (1 : Int) < s.size := by
    by_cases h : s[0] = 48
    · right
      have h3 : ¬ 1 < s.size := fun hh => z48 ⟨h, hh⟩
      exact ⟨by rw [h]; rfl, by omega⟩
    · left
      rw [beq_eq_false_iff_ne]; intro e
      exact h (UInt8.toNat.inj (by have : s[0].toNat = 48 := by omega
                                   rw [this]; rfl))
  clear z48 HH0
  rcases hcond with hcd | ⟨hcd, hc1⟩
  all_goals
    go_enter Tryd.func59, Tryd.ntmps59
    go_wp2
    go_loop [5, 6] (fun n i => ∃ k : Nat, k ≤ s.size ∧ i = .int .i64 k ∧ (∀ c ∈ s.data.toList.take k, isD c = true) ∧ n = .int .i64 (valN (s.data.toList.take k))) (fun _ i => s.size - (intOf i).toNat)
    case atStart => exact ⟨0, Nat.zero_le _, rfl, by simp, rfl⟩
    case round =>
      obtain ⟨k, hk, rfl, ha, rfl⟩ := hrel
      have HA : Hid (∀ c ∈ s.data.toList.take k, isD c = true) := ha
      have hb := val_bd _ ha
      have hpw : (10 : Int) ^ (s.data.toList.take k).length ≤ 100000000000000000 := by
        have hl : (s.data.toList.take k).length ≤ 17 := by simp; omega
        have e := Nat.pow_le_pow_right (show 0 < 10 by omega) hl
        have e2 : (10 : Nat) ^ 17 = 100000000000000000 := by decide
        have e3 : ((10 : Nat) ^ (s.data.toList.take k).length : Nat) ≤ 100000000000000000 := by omega
        have e4 : (10 : Int) ^ (s.data.toList.take k).length = (((10 : Nat) ^ (s.data.toList.take k).length : Nat) : Int) := by rw [Int.natCast_pow]; rfl
        rw [e4]; omega
      have hv0 : 0 ≤ valN (s.data.toList.take k) := hb.1
      have hv1 : valN (s.data.toList.take k) < 100000000000000000 := by omega
      clear ha hb hpw
      by_cases hlt : k < s.size
      · have hpw2 : k ≤ 16 := by omega
        have hsn := val_snoc (s.data.toList.take k) s[k]
        rw [← take_snocG s k hlt] at hsn
        have HS : Hid (valN (s.data.toList.take (k + 1)) = valN (s.data.toList.take k) * 10 + ((s[k].toNat : Int) - 48)) := hsn
        clear hsn
        have HM : Hid (s[k] ∈ s.data.toList) := by show _ ∈ _; rw [split_atG s k hlt]; simp
        by_cases h48 : (s[k].toNat : Int) < 48
        · have HB : Hid (isD s[k] = false) := by show _ = _; simp [isD]; omega
          go_wp2
          exact bodyPost_ret (v := .tuple #[.int .i64 0, .bool false]) (post_r Tryd.results59 rfl rfl) rfl ⟨0, false, rfl, num_no hbl.out hhd.out (.inr (.inr (.inr ⟨_, HM.out, HB.out⟩))), rfl⟩
        by_cases h57 : 57 < (s[k].toNat : Int)
        · have HB : Hid (isD s[k] = false) := by show _ = _; simp [isD]; omega
          go_wp2
          exact bodyPost_ret (v := .tuple #[.int .i64 0, .bool false]) (post_r Tryd.results59 rfl rfl) rfl ⟨0, false, rfl, num_no hbl.out hhd.out (.inr (.inr (.inr ⟨_, HM.out, HB.out⟩))), rfl⟩
        generalize hgv : valN (s.data.toList.take k) = V at *
        clear hgv
        go_wp2
        refine ⟨⟨k + 1, by omega, by go_num, ?_, ?_⟩, by simp [intOf]; omega⟩
        · intro c hc
          rw [take_snocG s k hlt] at hc
          rcases List.mem_append.1 hc with h | h
          · exact HA.out c h
          · simp at h; subst h; simp [isD]; omega
        · rw [HS.out]
      · have hke : k = s.size := by omega
        have htk : s.data.toList.take k = s.data.toList := List.take_of_length_le (by simp; omega)
        rw [htk] at hv0 hv1 HA ⊢
        have HY : Hid (NumR T (if false then -valN s.data.toList else valN s.data.toList) true) := num_yes hbl.out HA.out (fun h => by have e := HLEN.out; rw [h] at e; have e2 : 0 = s.size := e; omega) (by rw [HLEN.out]; omega) HC.out
        clear htk HA
        generalize valN s.data.toList = V at *
        go_wp2
        exact bodyPost_ret (v := .tuple #[.int .i64 V, .bool true]) (post_r Tryd.results59 rfl rfl) rfl ⟨_, true, rfl, HY.out, rfl⟩
end Go.Proofs.YtedobjegolpbjaaDoor
