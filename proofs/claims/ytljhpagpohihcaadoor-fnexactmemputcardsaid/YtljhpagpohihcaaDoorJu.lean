/- A word with one bit put, the document's. Helper text: no statement is claimed here. -/
import Derived.Test.YtljhpagpohihcaaDoorJv
namespace Go.Proofs.YtljhpagpohihcaaDoor
open Go.ChangeShapes Go.WideShapes Go.ChangeAt Go.RowKit

set_option maxHeartbeats 400000 in
theorem sturn_any (W k : Nat) (b : Bool) (w : World) (hW : W < 18446744073709551616) (hk : k < 64) :
    Calls Tryd.prog 53 #[.int .u64 W, .int .i64 k, .bool b] w fun e w' => e = .returned (.int .u64 (putN W k b : Nat)) ∧ w' = w := by
  have HB : Hid (∀ w, Calls Tryd.prog 47 #[.int .u64 W, .int .i64 k] w fun e w' => e = .returned (.bool (bitN W k)) ∧ w' = w) := fun w => sbit_any W k w hW (by omega)
  have HP : Hid (∀ q, q = putN W k b → (bitN W k = b → q = W) ∧ (bitN W k = !b → b = true → q = W + 2 ^ k) ∧ (bitN W k = !b → b = false → q = W - 2 ^ k ∧ 2 ^ k ≤ W)) := by
    rintro q rfl
    refine ⟨fun h => ?_, fun h hb => ?_, fun h hb => ?_⟩
    · unfold putN; rw [if_pos h]
    · unfold putN; rw [if_neg (by rw [h]; cases b <;> simp), if_pos hb]
    · refine ⟨?_, ?_⟩
      · unfold putN; rw [if_neg (by rw [h]; cases b <;> simp), if_neg (by simp [hb])]
      · subst hb
        rw [bitN_test] at h
        exact two_pow_le_of_test (by simpa using h)
  have HL : Hid (putN W k b < 18446744073709551616) := putN_lt (n := 64) b hk hW
  generalize hq : putN W k b = q at *
  have HPq := HP.out q rfl
  clear HP hq
  generalize hc : bitN W k = c at *
  by_cases hcb : c = b
  · obtain rfl : q = W := HPq.1 hcb
    subst hcb
    clear HPq
    have hcc : (c == c) = true := by cases c <;> rfl
    go_enter Tryd.func53, Tryd.ntmps53
    go_wp2_with fail
    refine (HB.out _).mono ?_
    rintro e w1 ⟨rfl, rfl⟩
    go_wp2
    go_ret
    exact ⟨rfl, rfl⟩
  · have hcn : c = !b := by cases b <;> cases c <;> first | rfl | exact absurd rfl hcb
    have hcc : (c == b) = false := by cases b <;> cases c <;> first | rfl | exact absurd rfl hcb
    have HQ : Hid ((b = true → q = W + 2 ^ k) ∧ (b = false → q = W - 2 ^ k ∧ 2 ^ k ≤ W)) := ⟨HPq.2.1 hcn, HPq.2.2 hcn⟩
    clear HPq hcn hcb hc
    go_enter Tryd.func53, Tryd.ntmps53
    go_wp2_with fail
    refine (HB.out _).mono ?_
    rintro e w1 ⟨rfl, rfl⟩
    clear HB
    go_wp2
    go_loop [7, 8] (fun t i => ∃ u j : Nat, j ≤ k ∧ t = .int .u64 (u : Int) ∧ i = .int .i64 (j : Int) ∧ Hid (u = 2 ^ j)) (fun _ i => k - (intOf i).toNat)
    case atStart => exact ⟨1, 0, by omega, rfl, rfl, (Nat.pow_zero 2).symm⟩
    case round =>
      obtain ⟨u, j, hj, rfl, rfl, HU⟩ := hrel
      by_cases hlt : j < k
      · have hlt' : (j : Int) < (k : Int) := by omega
        obtain ⟨u2, hu2⟩ : ∃ u2 : Nat, u2 = 2 ^ (j + 1) := ⟨_, rfl⟩
        have hu3 : u2 = u * 2 := by rw [hu2, HU.out, Nat.pow_succ]
        have h1 : (u : Int) * 2 = (u2 : Int) := by omega
        have h2 : IntKind.u64.wrap (u2 : Int) = (u2 : Int) := wrap_u64n u2 (by rw [hu2]; exact pow_lt64 (by omega))
        have HU2 : Hid (u2 = 2 ^ (j + 1)) := hu2
        clear hu2 hu3 HU
        go_wp2
        exact ⟨⟨u2, j + 1, by omega, rfl, by go_num, HU2⟩, by simp [intOf]; omega⟩
      · obtain rfl : j = k := by omega
        have HQ2 := HQ.out
        rw [← HU.out] at HQ2
        cases b
        · obtain ⟨e1, e2⟩ := HQ2.2 rfl
          have h1 : (W : Int) - (u : Int) = (q : Int) := by omega
          have h2 : IntKind.u64.wrap (q : Int) = (q : Int) := wrap_u64n q HL.out
          clear e1 e2 HQ2 HQ HU
          go_wp2
          go_ret
          exact ⟨rfl, rfl⟩
        · have e1 := HQ2.1 rfl
          have h1 : (W : Int) + (u : Int) = (q : Int) := by omega
          have h2 : IntKind.u64.wrap (q : Int) = (q : Int) := wrap_u64n q HL.out
          clear e1 HQ2 HQ HU
          go_wp2
          go_ret
          exact ⟨rfl, rfl⟩

end Go.Proofs.YtljhpagpohihcaaDoor
