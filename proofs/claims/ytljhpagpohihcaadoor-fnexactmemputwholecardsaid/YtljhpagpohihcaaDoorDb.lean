/- What the program's functions on operands answer. Helper text: no statement is claimed here. -/
import Derived.Test.YtljhpagpohihcaaDoorDa
import Derived.Deep.QuietTactic
import Derived.BigQuiet
import Derived.Deep.RegionHeld3
namespace Go.Proofs.YtljhpagpohihcaaDoor
open Go.ChangeShapes Go.WideShapes Go.ChangeAt Go.RowKit

theorem DevTab.lt {w : World} (h : DevTab w) : 0 < w.heap.size := World.block_lt_of_cell? w ⟨0, _, none⟩ (h 0 (by omega)).1
theorem DevTab.to {w w' : World} (h : DevTab w) (hb : Below w.heap.size w w') : DevTab w' := h.below hb h.lt
theorem DevTab.alloc {w : World} (h : DevTab w) (o : Obj) : DevTab (w.alloc o) := h.to ((Below.refl _ _).alloc (Nat.le_refl _) o)
theorem DevTab.drew {w : World} (h : DevTab w) : DevTab w.drew := h.to (Below.refl _ _).drew
theorem bcell {W w1 : World} (hb : Below W.heap.size W w1) : (∀ b o, b < W.heap.size → w1.cell? ⟨b, o, none⟩ = W.cell? ⟨b, o, none⟩) ∧ (∀ b o, b < W.heap.size → w1.frozen? ⟨b, o, none⟩ = W.frozen? ⟨b, o, none⟩) :=
  ⟨fun b o h => hb.cell (p := ⟨b, o, none⟩) h, fun b o h => hb.frozen (p := ⟨b, o, none⟩) h⟩
theorem ret_bool {a b : Bool} (h : a = b) : Ending.returned (.bool a) = .returned (.bool b) := by rw [h]

def kz (k : Int) : Nat := if 1 ≤ k ∧ k ≤ 13 then k.toNat else 0
theorem kz_nat (i : Nat) (h1 : 1 ≤ i) (h2 : i ≤ 13) : kz (i : Int) = i := by unfold kz; rw [if_pos (by omega)]; omega
theorem kz_no (k : Int) (h : k < 1 ∨ 13 < k) : kz k = 0 := by unfold kz; rw [if_neg (by omega)]
def rowV (k : Int) : Value := .agg #[.string ⟨(rL (kz k)).toArray⟩, .int .i64 (rN (kz k)), .bool (rB (kz k)), .bool (rW (kz k)), .bool (rR (kz k))]

set_option maxHeartbeats 400000 in
theorem rowOf_no (k : Int) (w : World) (h : k < 1 ∨ 13 < k) :
    Calls Tryd.prog 81 #[.int .i64 k] w fun e w' => e = .returned (.agg #[.string ⟨#[]⟩, .int .i64 0, .bool false, .bool false, .bool false]) ∧ Below w.heap.size w w' := by
  rcases h with h | h
  · go_enter Tryd.func81, Tryd.ntmps81
    go_wp2
    exact bodyPost_ret (v := .agg #[.string ⟨#[]⟩, .int .i64 0, .bool false, .bool false, .bool false]) (by simp [results, Tryd.results81, go_sem]) rfl ⟨rfl, (Below.refl _ _).alloc (Nat.le_refl _) _⟩
  · have h' : ¬ k < 1 := by omega
    go_enter Tryd.func81, Tryd.ntmps81
    go_wp2
    exact bodyPost_ret (v := .agg #[.string ⟨#[]⟩, .int .i64 0, .bool false, .bool false, .bool false]) (by simp [results, Tryd.results81, go_sem]) rfl ⟨rfl, (Below.refl _ _).alloc (Nat.le_refl _) _⟩

set_option maxHeartbeats 400000 in
theorem rowOf_yes (i : Nat) (w : World) (h1 : 1 ≤ i) (h2 : i ≤ 13) (hT : DevTab w) :
    Calls Tryd.prog 81 #[.int .i64 (i : Int)] w fun e w' => e = .returned (.agg #[.string ⟨(rL i).toArray⟩, .int .i64 (rN i), .bool (rB i), .bool (rW i), .bool (rR i)]) ∧ Below w.heap.size w w' := by
  obtain ⟨t0, t1, t2, t3, t4⟩ := hT i (by omega)
  have a : ¬ (i : Int) < 1 := by omega
  have b : ¬ (13 : Int) < i := by omega
  have hs : 0 < w.heap.size := hT.lt
  clear hT
  go_enter Tryd.func81, Tryd.ntmps81
  go_wp2
  exact bodyPost_ret (v := .agg #[.string ⟨(rL i).toArray⟩, .int .i64 (rN i), .bool (rB i), .bool (rW i), .bool (rR i)]) (by simp [results, Tryd.results81, go_sem]) rfl ⟨rfl, (Below.refl _ _).alloc (Nat.le_refl _) _⟩

theorem rowOf_any (k : Int) (w : World) (hT : DevTab w) :
    Calls Tryd.prog 81 #[.int .i64 k] w fun e w' => e = .returned (.agg #[.string ⟨(rL (kz k)).toArray⟩, .int .i64 (rN (kz k)), .bool (rB (kz k)), .bool (rW (kz k)), .bool (rR (kz k))]) ∧ Below w.heap.size w w' := by
  by_cases h : k < 1 ∨ 13 < k
  · rw [kz_no k h]; exact rowOf_no k w h
  · obtain ⟨i, rfl⟩ := Int.eq_ofNat_of_zero_le (show 0 ≤ k by omega)
    rw [kz_nat i (by omega) (by omega)]; exact rowOf_yes i w (by omega) (by omega) hT

theorem field_0 (a b c d e : Value) (w : World) : Sem.run Tryd.prog (Instr.field 139 (.agg #[a, b, c, d, e]) 0) w = .ok a w := by kernel_rfl
theorem field_1 (a b c d e : Value) (w : World) : Sem.run Tryd.prog (Instr.field 139 (.agg #[a, b, c, d, e]) 1) w = .ok b w := by kernel_rfl
theorem field_2 (a b c d e : Value) (w : World) : Sem.run Tryd.prog (Instr.field 139 (.agg #[a, b, c, d, e]) 2) w = .ok c w := by kernel_rfl
theorem field_3 (a b c d e : Value) (w : World) : Sem.run Tryd.prog (Instr.field 139 (.agg #[a, b, c, d, e]) 3) w = .ok d w := by kernel_rfl
theorem field_4 (a b c d e : Value) (w : World) : Sem.run Tryd.prog (Instr.field 139 (.agg #[a, b, c, d, e]) 4) w = .ok e w := by kernel_rfl
attribute [local go_sem] field_0 field_1 field_2 field_3 field_4

set_option maxHeartbeats 400000 in
theorem size_any (k : Int) (w : World) (hT : DevTab w) :
    Calls Tryd.prog 65 #[.int .i64 k] w fun e w' => e = .returned (.int .i64 (rN (kz k))) ∧ Below w.heap.size w w' := by
  go_enter Tryd.func65, Tryd.ntmps65
  go_wp2_with fail
  refine (rowOf_any _ _ hT).mono ?_
  rintro e w' ⟨rfl, hb⟩
  go_wp2
  go_ret
  exact ⟨rfl, hb⟩

def decOk (n p : Int) : Bool := decide (-999999999 ≤ n ∧ n ≤ 999999999 ∧ 1 ≤ p ∧ p ≤ 6 ∧ (p = 1 ∨ n.tmod 10 ≠ 0))

set_option maxHeartbeats 400000 in
theorem decOk_any (n p : Int) (w : World) :
    Calls Tryd.prog 82 #[.int .i64 n, .int .i64 p] w fun e w' => e = .returned (.bool (decOk n p)) ∧ w' = w := by
  by_cases h1 : n < -999999999
  · go_enter Tryd.func82, Tryd.ntmps82
    go_wp2
    go_ret
    exact ⟨ret_bool (by simp [decOk]; omega), rfl⟩
  by_cases h2 : 999999999 < n
  · go_enter Tryd.func82, Tryd.ntmps82
    go_wp2
    go_ret
    exact ⟨ret_bool (by simp [decOk]; omega), rfl⟩
  by_cases h3 : p < 1
  · go_enter Tryd.func82, Tryd.ntmps82
    go_wp2
    go_ret
    exact ⟨ret_bool (by simp [decOk]; omega), rfl⟩
  by_cases h4 : 6 < p
  · go_enter Tryd.func82, Tryd.ntmps82
    go_wp2
    go_ret
    exact ⟨ret_bool (by simp [decOk]; omega), rfl⟩
  by_cases h5 : p = 1
  · subst h5
    go_enter Tryd.func82, Tryd.ntmps82
    go_wp2
    go_ret
    exact ⟨ret_bool (by simp [decOk]; omega), rfl⟩
  · have h5' : (p == 1) = false := by simpa using h5
    clear h5
    go_enter Tryd.func82, Tryd.ntmps82
    go_wp2
    go_ret
    have h5 : p ≠ 1 := by simpa using h5'
    exact ⟨ret_bool (by by_cases h6 : n.tmod 10 = 0 <;> simp [decOk, h1, h2, h3, h4, h5, h6]), rfl⟩
end Go.Proofs.YtljhpagpohihcaaDoor
