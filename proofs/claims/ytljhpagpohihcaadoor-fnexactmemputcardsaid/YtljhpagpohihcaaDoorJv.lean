/- One bit of a word, asked and put, on both sides. Helper text: no statement is claimed here. -/
import Derived.Test.YtljhpagpohihcaaDoorYd
namespace Go.Proofs.YtljhpagpohihcaaDoor
open Go.ChangeShapes Go.WideShapes Go.ChangeAt Go.RowKit

set_option maxHeartbeats 400000 in
theorem sbit_any (W k : Nat) (w : World) (hW : W < 18446744073709551616) (hk : k ≤ 64) :
    Calls Tryd.prog 47 #[.int .u64 W, .int .i64 k] w fun e w' => e = .returned (.bool (bitN W k)) ∧ w' = w := by
  go_enter Tryd.func47, Tryd.ntmps47
  go_wp2
  go_loop [0, 5] (fun t c => ∃ u j : Nat, j ≤ k ∧ t = .int .u64 (u : Int) ∧ c = .int .i64 (j : Int) ∧ Hid (u = W / 2 ^ j)) (fun _ c => k - (intOf c).toNat)
  case atStart => exact ⟨W, 0, by omega, rfl, rfl, by show _ = _; simp⟩
  case round =>
    obtain ⟨u, j, hj, rfl, rfl, HU⟩ := hrel
    have hu : u < 18446744073709551616 := by rw [HU.out]; exact Nat.lt_of_le_of_lt (Nat.div_le_self _ _) hW
    by_cases hlt : j < k
    · have hlt' : (j : Int) < (k : Int) := by omega
      obtain ⟨u2, hu2⟩ : ∃ u2 : Nat, u2 = u / 2 := ⟨_, rfl⟩
      have h1 : (u : Int).tdiv 2 = (u2 : Int) := by rw [Int.tdiv_eq_ediv_of_nonneg (by omega)]; omega
      have h2 : IntKind.u64.wrap (u2 : Int) = (u2 : Int) := wrap_u64n u2 (by omega)
      have HU2 : Hid (u2 = W / 2 ^ (j + 1)) := by show _ = _; rw [hu2, HU.out, Nat.div_div_eq_div_mul, Nat.pow_succ]
      clear hu2 HU
      go_wp2
      exact ⟨⟨u2, j + 1, by omega, rfl, by go_num, HU2⟩, by simp [intOf]; omega⟩
    · obtain rfl : j = k := by omega
      obtain ⟨r, hr⟩ : ∃ r : Nat, r = u % 2 := ⟨_, rfl⟩
      have h1 : (u : Int).tmod 2 = (r : Int) := by rw [Int.tmod_eq_emod_of_nonneg (by omega)]; omega
      have h2 : IntKind.u64.wrap (r : Int) = (r : Int) := wrap_u64n r (by omega)
      have HR : Hid (((r : Int) == 1) = bitN W j) := by
        show _ = _
        rw [bitN, ← HU.out, ← hr]
        by_cases h : r = 1
        · subst h; rfl
        · have : ¬ (r : Int) = 1 := by omega
          simp [h, this]
      clear hr HU
      go_wp2
      go_ret
      exact ⟨ret_bool4 HR.out, rfl⟩

end Go.Proofs.YtljhpagpohihcaaDoor
