/- Reading a numeral, as the document does it: l9Num, with a sign. Helper text: no statement is claimed here. -/
import Derived.Test.YtedobjegolpbjaaDoorGe
namespace Go.Proofs.YtedobjegolpbjaaDoor
open Go.ChangeShapes Go.WideShapes Go.ChangeAt Go.RowKit Fl

set_option maxHeartbeats 1000000 in
theorem num_neg (s0 : ByteArray) (w : World) (hs0 : s0.size ≤ 2000000) (hz0 : 0 < s0.size) (h0 : s0[0] = 45) :
    Calls Tryd.prog 59 #[.string s0] w (Numd s0.data.toList w) := by
  have y1' : (0 : Int) < s0.size := by omega
  have y45 : ((s0[0].toNat : Int) == 45) = true := by rw [h0]; rfl
  obtain ⟨s, hs'⟩ : ∃ s, s = s0.extract 1 s0.size := ⟨_, rfl⟩
  have hx : s0.extract 1 s0.size = s := hs'.symm
  have hsl : s.data.toList = s0.data.toList.drop 1 := by rw [hs']; exact ext_allG s0 1
  have HLEN : Hid (s.data.toList.length = s.size) := by show _ = _; simp
  have hsz : s.size + 1 = s0.size := by
    have := HLEN.out
    rw [← this, hsl]; simp; omega
  have hs : s.size ≤ 2000000 := by omega
  obtain ⟨T, hT⟩ : ∃ T, T = s0.data.toList := ⟨_, rfl⟩
  have hbl : Hid (T = sgL true ++ s.data.toList) := by
    show T = _
    rw [hT, hsl]
    have := split_atG s0 0 hz0
    rw [h0] at this
    simpa [sgL] using this
  have hhd : Hid (Plain true s.data.toList) := fun h => by cases h
  rw [← hT]
  clear hT hsl h0 hs'
  by_cases z0 : s.size = 0
  · have z0' : ((s.size : Int) == 0) = true := by simp [z0]
    have HZ : Hid (s.data.toList = []) := by show _ = _; apply List.eq_nil_of_length_eq_zero; simpa using z0
    clear z0
    go_enter Tryd.func59, Tryd.ntmps59
    go_wp2
    exact bodyPost_ret (v := .tuple #[.int .i64 0, .bool false]) (post_r Tryd.results59 rfl rfl) rfl ⟨0, false, rfl, num_no hbl.out hhd.out (.inl HZ.out), rfl⟩
  have z0' : ((s.size : Int) == 0) = false := by rw [beq_eq_false_iff_ne]; omega
  have z1 : 0 < s.size := by omega
  clear z0
  by_cases z17 : 17 < s.size
  · have z17' : (17 : Int) < s.size := by omega
    have HZ : Hid (17 < s.data.toList.length) := by show _ < _; simpa using z17
    go_enter Tryd.func59, Tryd.ntmps59
    go_wp2
    exact bodyPost_ret (v := .tuple #[.int .i64 0, .bool false]) (post_r Tryd.results59 rfl rfl) rfl ⟨0, false, rfl, num_no hbl.out hhd.out (.inr (.inl HZ.out)), rfl⟩
  have z17' : ¬ (17 : Int) < s.size := by omega
  have HH0 : Hid (s.data.toList.head? = some s[0]) := by
    show _ = _
    have := split_atG s 0 z1
    rw [this]; rfl
  by_cases z48 : s[0] = 48
  · have zz : ((s[0].toNat : Int) == 48) = true := by rw [z48]; rfl
    have HZ : Hid (Lead true s.data.toList) := ⟨by rw [HH0.out, z48], .inl rfl⟩
    clear z48
    go_enter Tryd.func59, Tryd.ntmps59
    go_wp2
    all_goals exact bodyPost_ret (v := .tuple #[.int .i64 0, .bool false]) (post_r Tryd.results59 rfl rfl) rfl ⟨0, false, rfl, num_no hbl.out hhd.out (.inr (.inr (.inl HZ.out))), rfl⟩
  have HC : Hid (Canon true s.data.toList) := .inl (by rw [HH0.out]; intro e; exact z48 (Option.some.inj e))
  have hcd : ((s[0].toNat : Int) == 48) = false := by
    rw [beq_eq_false_iff_ne]; intro e
    exact z48 (UInt8.toNat.inj (by have : s[0].toNat = 48 := by omega
                                   rw [this]; rfl))
  clear z48 HH0
  go_enter Tryd.func59, Tryd.ntmps59
  go_wp2
  go_loop [5, 6] (fun n i => ∃ k : Nat, k ≤ s.size ∧ i = .int .i64 k ∧ (∀ c ∈ s.data.toList.take k, isD c = true) ∧ n = .int .i64 (valN (s.data.toList.take k))) (fun _ i => s.size - (intOf i).toNat)
  case atStart => exact ⟨0, Nat.zero_le _, rfl, by simp, rfl⟩
  case round =>
    obtain ⟨k, hk, rfl, ha, rfl⟩ := hrel
    have HA : Hid (∀ c ∈ s.data.toList.take k, isD c = true) := ha
    have hb := val_bd _ ha
    have hpw : (10 : Int) ^ (s.data.toList.take k).length ≤ 100000000000000000 := by
      have hl : (s.data.toList.take k).length ≤ 17 := by simp; omega
      have e := Nat.pow_le_pow_right (show 0 < 10 by omega) hl
      have e2 : (10 : Nat) ^ 17 = 100000000000000000 := by decide
      have e3 : ((10 : Nat) ^ (s.data.toList.take k).length : Nat) ≤ 100000000000000000 := by omega
      have e4 : (10 : Int) ^ (s.data.toList.take k).length = (((10 : Nat) ^ (s.data.toList.take k).length : Nat) : Int) := by rw [Int.natCast_pow]; rfl
      rw [e4]; omega
    have hv0 : 0 ≤ valN (s.data.toList.take k) := hb.1
    have hv1 : valN (s.data.toList.take k) < 100000000000000000 := by omega
    clear ha hb hpw
    by_cases hlt : k < s.size
    · have hpw2 : k ≤ 16 := by omega
      have hsn := val_snoc (s.data.toList.take k) s[k]
      rw [← take_snocG s k hlt] at hsn
      have HS : Hid (valN (s.data.toList.take (k + 1)) = valN (s.data.toList.take k) * 10 + ((s[k].toNat : Int) - 48)) := hsn
      clear hsn
      have HM : Hid (s[k] ∈ s.data.toList) := by show _ ∈ _; rw [split_atG s k hlt]; simp
      by_cases h48 : (s[k].toNat : Int) < 48
      · have HB : Hid (isD s[k] = false) := by show _ = _; simp [isD]; omega
        go_wp2
        exact bodyPost_ret (v := .tuple #[.int .i64 0, .bool false]) (post_r Tryd.results59 rfl rfl) rfl ⟨0, false, rfl, num_no hbl.out hhd.out (.inr (.inr (.inr ⟨_, HM.out, HB.out⟩))), rfl⟩
      by_cases h57 : 57 < (s[k].toNat : Int)
      · have HB : Hid (isD s[k] = false) := by show _ = _; simp [isD]; omega
        go_wp2
        exact bodyPost_ret (v := .tuple #[.int .i64 0, .bool false]) (post_r Tryd.results59 rfl rfl) rfl ⟨0, false, rfl, num_no hbl.out hhd.out (.inr (.inr (.inr ⟨_, HM.out, HB.out⟩))), rfl⟩
      generalize hgv : valN (s.data.toList.take k) = V at *
      clear hgv
      go_wp2
      refine ⟨⟨k + 1, by omega, by go_num, ?_, ?_⟩, by simp [intOf]; omega⟩
      · intro c hc
        rw [take_snocG s k hlt] at hc
        rcases List.mem_append.1 hc with h | h
        · exact HA.out c h
        · simp at h; subst h; simp [isD]; omega
      · rw [HS.out]
    · have hke : k = s.size := by omega
      have htk : s.data.toList.take k = s.data.toList := List.take_of_length_le (by simp; omega)
      rw [htk] at hv0 hv1 HA ⊢
      have HY : Hid (NumR T (if true then -valN s.data.toList else valN s.data.toList) true) := num_yes hbl.out HA.out (fun h => by have e := HLEN.out; rw [h] at e; have e2 : 0 = s.size := e; omega) (by rw [HLEN.out]; omega) HC.out
      clear htk HA
      generalize valN s.data.toList = V at *
      go_wp2
      exact bodyPost_ret (v := .tuple #[.int .i64 (-V), .bool true]) (post_r Tryd.results59 rfl rfl) rfl ⟨_, true, rfl, HY.out, rfl⟩
theorem l9num_any (s : ByteArray) (w : World) (hs : s.size ≤ 2000000) : Calls Tryd.prog 59 #[.string s] w (Numd s.data.toList w) := by
  by_cases h : ∃ h : 0 < s.size, s[0] = 45
  · exact num_neg s w hs h.1 h.2
  · exact num_pos s w hs (fun h0 e => h ⟨h0, e⟩)
end Go.Proofs.YtedobjegolpbjaaDoor
