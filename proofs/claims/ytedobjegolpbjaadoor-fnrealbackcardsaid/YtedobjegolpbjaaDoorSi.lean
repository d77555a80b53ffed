/- Decimal numerals: the document's own. Helper text: no statement is claimed here. -/
import Derived.Test.YtedobjegolpbjaaDoorRows
import Derived.WalkKit
import Derived.ProofKit
import Derived.OpenShut
import Derived.Below
import Derived.WalkSmall
import Derived.BigQuiet
import Derived.Lib.ItoaLen
namespace Go.Proofs.YtedobjegolpbjaaDoor
open Go.ChangeShapes Go.WideShapes Go.ChangeAt Go.RowKit

/-- The byte of a number. -/
def dgt (z : Int) : UInt8 := UInt8.ofNat z.toNat
theorem dgt_int (z : Int) (h0 : 0 ≤ z) (h1 : z ≤ 255) : ((dgt z).toNat : Int) = z := by unfold dgt; rw [UInt8.toNat_ofNat']; omega
theorem conv1 (w : World) (z : Int) (h0 : 0 ≤ z) (h1 : z ≤ 255) :
    Sem.run Tryd.prog (convert 22 9 (.slice (some ⟨w.heap.size, 0, none⟩) 1 1)) (w.alloc (.cells #[.int .u8 z] 5)) = .ok (.string ⟨#[dgt z]⟩) (w.alloc (.cells #[.int .u8 z] 5)) := by
  have := run_convert_bytes_back (P := Tryd.prog) (w.alloc (.cells #[.int .u8 z] 5)) 22 9 5 ⟨w.heap.size, 0, none⟩ 1 [dgt z] Tryd.underlying22 Tryd.underlying5 Tryd.underlying9 (fun j hj => by
    obtain rfl : j = 0 := by simp at hj; omega
    have e := dgt_int z h0 h1
    simp [Addr.add, e])
  exact this
theorem cat (a b : List UInt8) : (⟨a.toArray⟩ : ByteArray) ++ ⟨b.toArray⟩ = ⟨(a ++ b).toArray⟩ := by
  apply ByteArray.ext
  simp
theorem ret_str {s : ByteArray} {l : List UInt8} (h : s = ⟨l.toArray⟩) : Ending.returned (.string s) = .returned (.string ⟨l.toArray⟩) := by rw [h]
theorem digits_len (u : Nat) (hu : u ≤ 9223372036854775807) : (Lib.decDigits u).length ≤ 21 := by
  have := Lib.itoa_length_le (u : Int) (by omega) (by omega)
  rwa [Lib.itoa_nonneg] at this
theorem digits_step {m : Nat} (h : 9 < m) : Lib.decDigits m = Lib.decDigits (m / 10) ++ [dgt (48 + (m : Int) % 10)] := by
  rw [Lib.decDigits, dif_neg (by omega)]
  unfold dgt
  rw [show (48 + (m : Int) % 10).toNat = 48 + m % 10 by omega]
theorem digits_one {m : Nat} (h : ¬ 9 < m) : Lib.decDigits m = [dgt (48 + (m : Int))] := by
  rw [Lib.decDigits, dif_pos (by omega)]
  unfold dgt
  rw [show (48 + (m : Int)).toNat = 48 + m by omega]

/-! The document's own numerals. -/
set_option maxHeartbeats 400000 in
theorem dec_nat (u : Nat) (w : World) (hu : u ≤ 9223372036854775807) :
    Calls Tryd.prog 68 #[.int .i64 (u : Int)] w fun e w' => e = .returned (.string ⟨(Lib.decDigits u).toArray⟩) ∧ Below w.heap.size w w' := by
  have h1 : ¬ (u : Int) < -9223372036854775807 := by omega
  have h2 : ¬ (u : Int) < 0 := by omega
  have hU := digits_len u hu
  go_enter Tryd.func68, Tryd.ntmps68
  go_wp2
  go_loopw [0, 3] (fun n o w' => ∃ (m : Nat) (l : List UInt8), m ≤ u ∧ n = .int .i64 (m : Int) ∧ o = .string ⟨l.toArray⟩ ∧ Lib.decDigits u = Lib.decDigits m ++ l ∧ Below w.heap.size w w') (fun n _ _ => (intOf n).toNat)
  case atStart => exact ⟨u, [], by omega, rfl, rfl, by simp, Below.refl _ _⟩
  case round =>
    obtain ⟨m, l, hm, rfl, rfl, hd, hB⟩ := hrel
    rename_i wr
    have hl : l.length ≤ 30 := by have := congrArg List.length hd; simp at this; omega
    have HD : Hid (Lib.decDigits u = Lib.decDigits m ++ l) := hd
    clear hd hU
    by_cases h9 : 9 < m
    · have h9' : (9 : Int) < m := by omega
      have hcv := conv1 wr (48 + (m : Int) % 10) (by omega) (by omega)
      go_wp2
      refine ⟨⟨m / 10, [dgt (48 + (m : Int) % 10)] ++ l, by omega, by go_num, congrArg Value.string (cat [_] l), ?_, hB.alloc hB.size _⟩, by simp [intOf]; omega⟩
      rw [HD.out, digits_step h9]; simp
    · have h9' : ¬ (9 : Int) < m := by omega
      have hcv := conv1 wr (48 + (m : Int)) (by omega) (by omega)
      go_wp2
      go_ret
      exact ⟨ret_str ((cat [_] l).trans (by rw [HD.out, digits_one h9])), hB.alloc hB.size _⟩

set_option maxHeartbeats 400000 in
theorem dec_neg (u : Nat) (w : World) (h1 : 1 ≤ u) (hu : u ≤ 9223372036854775807) :
    Calls Tryd.prog 68 #[.int .i64 (-(u : Int))] w fun e w' => e = .returned (.string ⟨(45 :: Lib.decDigits u).toArray⟩) ∧ Below w.heap.size w w' := by
  have h2 : ¬ (-(u : Int)) < -9223372036854775807 := by omega
  have h3 : (-(u : Int)) < 0 := by omega
  have hU := digits_len u hu
  go_enter Tryd.func68, Tryd.ntmps68
  go_wp2_with fail
  refine (dec_nat u _ hu).mono ?_
  rintro e w1 ⟨rfl, hb⟩
  go_wp2
  go_ret
  exact ⟨ret_str (cat [45] _), hb⟩

theorem dec_any (n : Int) (w : World) (h0 : -9223372036854775807 ≤ n) (h1 : n ≤ 9223372036854775807) :
    Calls Tryd.prog 68 #[.int .i64 n] w fun e w' => e = .returned (.string ⟨(Lib.itoa n).toArray⟩) ∧ Below w.heap.size w w' := by
  by_cases h : n < 0
  · obtain ⟨u, hu⟩ : ∃ u : Nat, n = -(u : Int) := ⟨n.natAbs, by omega⟩
    subst hu
    rw [Lib.itoa_neg u (by omega)]
    exact dec_neg u w (by omega) (by omega)
  · obtain ⟨u, rfl⟩ := Int.eq_ofNat_of_zero_le (show 0 ≤ n by omega)
    rw [Lib.itoa_nonneg]
    exact dec_nat u w (by omega)
end Go.Proofs.YtedobjegolpbjaaDoor
