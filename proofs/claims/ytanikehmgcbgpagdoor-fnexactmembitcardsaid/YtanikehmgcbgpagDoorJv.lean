/- One bit of a word, asked and put, on both sides. Helper text: no statement is claimed here. -/
import Derived.Test.YtanikehmgcbgpagDoorJa
import Derived.Test.YtanikehmgcbgpagDoorJb
import Derived.Laws.BitsLemmas
import Derived.Laws.Bits64
namespace Go.Proofs.YtanikehmgcbgpagDoor
open Go.ChangeShapes Go.WideShapes Go.ChangeAt Go.RowKit

theorem ret_bool4 {a b : Bool} (h : a = b) : Ending.returned (.bool a) = .returned (.bool b) := by rw [h]
theorem wrap_u64n (n : Nat) (h : n < 18446744073709551616) : IntKind.u64.wrap (n : Int) = n := by rw [IntKind.wrap_u64]; omega
theorem pow_lt64 {k : Nat} (h : k < 64) : 2 ^ k < 18446744073709551616 := Nat.pow_lt_pow_right (a := 2) (n := 64) (by decide) h

set_option maxHeartbeats 400000 in
theorem sbit_any (W k : Nat) (w : World) (hW : W < 18446744073709551616) (hk : k ≤ 64) :
    Calls Tryd.prog 36 #[.int .u64 W, .int .i64 k] w fun e w' => e = .returned (.bool (bitN W k)) ∧ w' = w := by
  go_enter Tryd.func36, Tryd.ntmps36
  go_wp2
  go_loop [0, 5] (fun t c => ∃ u j : Nat, j ≤ k ∧ t = .int .u64 (u : Int) ∧ c = .int .i64 (j : Int) ∧ Hid (u = W / 2 ^ j)) (fun _ c => k - (intOf c).toNat)
  case atStart => exact ⟨W, 0, by omega, rfl, rfl, by show _ = _; simp⟩
  case round =>
    obtain ⟨u, j, hj, rfl, rfl, HU⟩ := hrel
    have hu : u < 18446744073709551616 := by rw [HU.out]; exact Nat.lt_of_le_of_lt (Nat.div_le_self _ _) hW
    by_cases hlt : j < k
    · have hlt' : (j : Int) < (k : Int) := by omega
      obtain ⟨u2, hu2⟩ : ∃ u2 : Nat, u2 = u / 2 := ⟨_, rfl⟩
      have h1 : (u : Int).tdiv 2 = (u2 : Int) := by rw [Int.tdiv_eq_ediv_of_nonneg (by omega)]; omega
      have h2 : IntKind.u64.wrap (u2 : Int) = (u2 : Int) := wrap_u64n u2 (by omega)
      have HU2 : Hid (u2 = W / 2 ^ (j + 1)) := by show _ = _; rw [hu2, HU.out, Nat.div_div_eq_div_mul, Nat.pow_succ]
      clear hu2 HU
      go_wp2
      exact ⟨⟨u2, j + 1, by omega, rfl, by go_num, HU2⟩, by simp [intOf]; omega⟩
    · obtain rfl : j = k := by omega
      obtain ⟨r, hr⟩ : ∃ r : Nat, r = u % 2 := ⟨_, rfl⟩
      have h1 : (u : Int).tmod 2 = (r : Int) := by rw [Int.tmod_eq_emod_of_nonneg (by omega)]; omega
      have h2 : IntKind.u64.wrap (r : Int) = (r : Int) := wrap_u64n r (by omega)
      have HR : Hid (((r : Int) == 1) = bitN W j) := by
        show _ = _
        rw [bitN, ← HU.out, ← hr]
        by_cases h : r = 1
        · subst h; rfl
        · have : ¬ (r : Int) = 1 := by omega
          simp [h, this]
      clear hr HU
      go_wp2
      go_ret
      exact ⟨ret_bool4 HR.out, rfl⟩

set_option maxHeartbeats 400000 in
theorem sturn_any (W k : Nat) (b : Bool) (w : World) (hW : W < 18446744073709551616) (hk : k < 64) :
    Calls Tryd.prog 45 #[.int .u64 W, .int .i64 k, .bool b] w fun e w' => e = .returned (.int .u64 (putN W k b : Nat)) ∧ w' = w := by
  have HB : Hid (∀ w, Calls Tryd.prog 36 #[.int .u64 W, .int .i64 k] w fun e w' => e = .returned (.bool (bitN W k)) ∧ w' = w) := fun w => sbit_any W k w hW (by omega)
  have HP : Hid (∀ q, q = putN W k b → (bitN W k = b → q = W) ∧ (bitN W k = !b → b = true → q = W + 2 ^ k) ∧ (bitN W k = !b → b = false → q = W - 2 ^ k ∧ 2 ^ k ≤ W)) := by
    rintro q rfl
    refine ⟨fun h => ?_, fun h hb => ?_, fun h hb => ?_⟩
    · unfold putN; rw [if_pos h]
    · unfold putN; rw [if_neg (by rw [h]; cases b <;> simp), if_pos hb]
    · refine ⟨?_, ?_⟩
      · unfold putN; rw [if_neg (by rw [h]; cases b <;> simp), if_neg (by simp [hb])]
      · subst hb
        rw [bitN_test] at h
        exact two_pow_le_of_test (by simpa using h)
  have HL : Hid (putN W k b < 18446744073709551616) := putN_lt (n := 64) b hk hW
  generalize hq : putN W k b = q at *
  have HPq := HP.out q rfl
  clear HP hq
  generalize hc : bitN W k = c at *
  by_cases hcb : c = b
  · obtain rfl : q = W := HPq.1 hcb
    subst hcb
    clear HPq
    have hcc : (c == c) = true := by cases c <;> rfl
    go_enter Tryd.func45, Tryd.ntmps45
    go_wp2_with fail
    refine (HB.out _).mono ?_
    rintro e w1 ⟨rfl, rfl⟩
    go_wp2
    go_ret
    exact ⟨rfl, rfl⟩
  · have hcn : c = !b := by cases b <;> cases c <;> first | rfl | exact absurd rfl hcb
    have hcc : (c == b) = false := by cases b <;> cases c <;> first | rfl | exact absurd rfl hcb
    have HQ : Hid ((b = true → q = W + 2 ^ k) ∧ (b = false → q = W - 2 ^ k ∧ 2 ^ k ≤ W)) := ⟨HPq.2.1 hcn, HPq.2.2 hcn⟩
    clear HPq hcn hcb hc
    go_enter Tryd.func45, Tryd.ntmps45
    go_wp2_with fail
    refine (HB.out _).mono ?_
    rintro e w1 ⟨rfl, rfl⟩
    clear HB
    go_wp2
    go_loop [7, 8] (fun t i => ∃ u j : Nat, j ≤ k ∧ t = .int .u64 (u : Int) ∧ i = .int .i64 (j : Int) ∧ Hid (u = 2 ^ j)) (fun _ i => k - (intOf i).toNat)
    case atStart => exact ⟨1, 0, by omega, rfl, rfl, (Nat.pow_zero 2).symm⟩
    case round =>
      obtain ⟨u, j, hj, rfl, rfl, HU⟩ := hrel
      by_cases hlt : j < k
      · have hlt' : (j : Int) < (k : Int) := by omega
        obtain ⟨u2, hu2⟩ : ∃ u2 : Nat, u2 = 2 ^ (j + 1) := ⟨_, rfl⟩
        have hu3 : u2 = u * 2 := by rw [hu2, HU.out, Nat.pow_succ]
        have h1 : (u : Int) * 2 = (u2 : Int) := by omega
        have h2 : IntKind.u64.wrap (u2 : Int) = (u2 : Int) := wrap_u64n u2 (by rw [hu2]; exact pow_lt64 (by omega))
        have HU2 : Hid (u2 = 2 ^ (j + 1)) := hu2
        clear hu2 hu3 HU
        go_wp2
        exact ⟨⟨u2, j + 1, by omega, rfl, by go_num, HU2⟩, by simp [intOf]; omega⟩
      · obtain rfl : j = k := by omega
        have HQ2 := HQ.out
        rw [← HU.out] at HQ2
        cases b
        · obtain ⟨e1, e2⟩ := HQ2.2 rfl
          have h1 : (W : Int) - (u : Int) = (q : Int) := by omega
          have h2 : IntKind.u64.wrap (q : Int) = (q : Int) := wrap_u64n q HL.out
          clear e1 e2 HQ2 HQ HU
          go_wp2
          go_ret
          exact ⟨rfl, rfl⟩
        · have e1 := HQ2.1 rfl
          have h1 : (W : Int) + (u : Int) = (q : Int) := by omega
          have h2 : IntKind.u64.wrap (q : Int) = (q : Int) := wrap_u64n q HL.out
          clear e1 HQ2 HQ HU
          go_wp2
          go_ret
          exact ⟨rfl, rfl⟩

set_option maxHeartbeats 400000 in
theorem turn_any (W k : Nat) (b : Bool) (w : World) (hW : W < 18446744073709551616) (hk : k < 64) :
    Calls Tryd.prog 92 #[.agg #[.int .i64 k, .bool b], .int .u64 W] w fun e w' => e = .returned (.int .u64 (putN W k b : Nat)) ∧ Below w.heap.size w w' := by
  obtain ⟨P, hP⟩ : ∃ P : Nat, P = 2 ^ k := ⟨_, rfl⟩
  have hPl : P < 18446744073709551616 := by rw [hP]; exact pow_lt64 hk
  have hs : IntKind.u64.wrap (2 ^ k) = (P : Int) := by rw [show (2 : Int) ^ k = ((P : Nat) : Int) by rw [hP, Int.natCast_pow]; rfl, wrap_u64n P hPl]
  have ho : bits .or .u64 (W : Int) (P : Int) = ((putN W k true : Nat) : Int) := by rw [u64_or_nat W P hW hPl, hP, putN_true]
  have ha : bits .andNot .u64 (W : Int) (P : Int) = ((putN W k false : Nat) : Int) := by rw [u64_andNot_nat W P hW hPl, hP, putN_false W k hk hW]
  clear hP hPl
  cases b
  · generalize putN W k false = q0 at *
    go_enter Tryd.func92, Tryd.ntmps92
    go_wp2
    go_ret
    exact ⟨rfl, (Below.refl _ _).alloc (Nat.le_refl _) _⟩
  · generalize putN W k true = q1 at *
    go_enter Tryd.func92, Tryd.ntmps92
    go_wp2
    go_ret
    exact ⟨rfl, (Below.refl _ _).alloc (Nat.le_refl _) _⟩
end Go.Proofs.YtanikehmgcbgpagDoor
