/- Plain mathematics of numerals: digits, and the number that they make. Helper text: no statement is claimed here. -/
import Derived.Test.YtedobjegolpbjaaDoorSi
namespace Go.Proofs.YtedobjegolpbjaaDoor
open Go.RowKit

def isD (c : UInt8) : Bool := decide (48 ≤ c.toNat ∧ c.toNat ≤ 57)
/-- The number that digits make. -/
def valN (l : List UInt8) : Int := l.foldl (fun (a : Int) c => a * 10 + ((c.toNat : Int) - 48)) 0

theorem val_snoc (l : List UInt8) (c : UInt8) : valN (l ++ [c]) = valN l * 10 + ((c.toNat : Int) - 48) := by simp [valN]
theorem val_bd' : ∀ (l : List UInt8) (a : Int), 0 ≤ a → (∀ c ∈ l, isD c = true) → 0 ≤ l.foldl (fun (a : Int) c => a * 10 + ((c.toNat : Int) - 48)) a ∧ l.foldl (fun (a : Int) c => a * 10 + ((c.toNat : Int) - 48)) a < (a + 1) * 10 ^ l.length
  | [], a, h0, _ => by simp; omega
  | c :: r, a, h0, h => by
    have h2 := h c (by simp)
    simp [isD] at h2
    have h1 := val_bd' r (a * 10 + ((c.toNat : Int) - 48)) (by omega) (fun x hx => h x (by simp [hx]))
    have hm : (a * 10 + ((c.toNat : Int) - 48) + 1) * 10 ^ r.length ≤ ((a + 1) * 10) * 10 ^ r.length := Int.mul_le_mul_of_nonneg_right (by omega) (Int.pow_nonneg (by omega))
    have e : (a + 1) * 10 ^ (c :: r).length = ((a + 1) * 10) * 10 ^ r.length := by rw [List.length_cons, Int.pow_succ, Int.mul_comm (10 ^ r.length) 10, Int.mul_assoc]
    rw [e]
    simp only [List.foldl_cons]
    omega
theorem val_bd (l : List UInt8) (h : ∀ c ∈ l, isD c = true) : 0 ≤ valN l ∧ valN l < 10 ^ l.length := by
  have := val_bd' l 0 (by omega) h
  simpa [valN] using this

theorem dig_toNat (d : Nat) (h : d < 10) : (UInt8.ofNat (48 + d)).toNat = 48 + d := by rw [UInt8.toNat_ofNat']; omega
theorem digits_all : ∀ (u : Nat), ∀ c ∈ Lib.decDigits u, isD c = true := by
  intro u
  induction u using Nat.strongRecOn with
  | _ u ih =>
    intro c hc
    rw [Lib.decDigits] at hc
    split at hc
    · rename_i h
      simp only [List.mem_singleton] at hc
      subst hc
      simp [isD]
      omega
    · rename_i h
      simp only [List.mem_append, List.mem_singleton] at hc
      rcases hc with hc | hc
      · exact ih (u / 10) (by omega) c hc
      · subst hc
        simp [isD]
        omega
theorem digits_val : ∀ (u : Nat), valN (Lib.decDigits u) = (u : Int) := by
  intro u
  induction u using Nat.strongRecOn with
  | _ u ih =>
    rw [Lib.decDigits]
    split
    · rename_i h
      show (0 : Int) * 10 + (((UInt8.ofNat (48 + u)).toNat : Int) - 48) = _
      rw [dig_toNat u h]; omega
    · rename_i h
      rw [val_snoc, ih (u / 10) (by omega), dig_toNat (u % 10) (by omega)]
      omega
theorem digits_ne (u : Nat) : Lib.decDigits u ≠ [] := by
  rw [Lib.decDigits]; split <;> simp
theorem digits_small : ∀ (n u : Nat), 1 ≤ n → u < 10 ^ n → (Lib.decDigits u).length ≤ n := by
  intro n
  induction n with
  | zero => intro u h; omega
  | succ n ih =>
    intro u _ hu
    rw [Lib.decDigits]
    split
    · simp
    · rename_i h
      by_cases hn : n = 0
      · subst hn; simp at hu; omega
      · have := ih (u / 10) (by omega) (by rw [Nat.pow_succ] at hu; omega)
        simp; omega

end Go.Proofs.YtedobjegolpbjaaDoor
