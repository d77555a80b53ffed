/- The walk of the law FnMemRound. Helper text: no statement is claimed here. -/
import Derived.Test.YtljhpagpohihcaaDoorZd
import Derived.Test.YtljhpagpohihcaaDoorUb
import Derived.Test.YtljhpagpohihcaaDoorUc
import Derived.Test.YtljhpagpohihcaaDoorUe
import Derived.Test.YtljhpagpohihcaaDoorYq
import Derived.Test.YtljhpagpohihcaaDoorCt
import Derived.Deep.Cut
namespace Go.Proofs.YtljhpagpohihcaaDoor
open Go.ChangeShapes Go.WideShapes Go.ChangeAt Go.RowKit Fl

/-! Counting round: so far on as there are devices, the same place. -/
theorem plc_add (k n : Int) (t : Int) (h : sz4 k ≠ 0) : plc k (n + t * sz4 k) = plc k n := by
  unfold plc
  rw [if_neg h, if_neg h, Int.add_mul_emod_self_right]
theorem bit_add (m : Mm) (k n t : Int) (h : sz4 k ≠ 0) : m.bit k (n + t * sz4 k) = m.bit k n := by
  have e := plc_add k n t h
  unfold Mm.bit
  repeat' split
  all_goals (try rfl)
  all_goals (rename_i hk; subst hk; rw [e])
theorem whole_add (m : Mm) (k n t : Int) (h : sz4 k ≠ 0) : m.whole k (n + t * sz4 k) = m.whole k n := by
  have e := plc_add k n t h
  unfold Mm.whole
  split
  · rename_i hk; subst hk; rw [e]
  · split
    · rename_i hk; subst hk; rw [e]
    · split
      · rename_i hk; subst hk; rw [e]
      · split
        · rename_i hk; subst hk; exact absurd rfl h
        · rfl
/-- The real number that a device asks for. -/
def Mm.rdev (m : Mm) (k n : Int) : Nat := if k = 10 then m.r (plc 10 n).toNat else 0
theorem rdev_add (m : Mm) (k n t : Int) (h : sz4 k ≠ 0) : m.rdev k (n + t * sz4 k) = m.rdev k n := by
  have e := plc_add k n t h
  unfold Mm.rdev
  split
  · rename_i hk; subst hk; rw [e]
  · rfl
theorem rdev_lt {m : Mm} (hm : m.Ok) (k n : Int) : m.rdev k n < 2 ^ 64 := by
  unfold Mm.rdev
  split
  · exact hm.hr _
  · omega
theorem sz4_dev {k : Int} (h : sz4 k ≠ 0) : k ≠ 12 ∧ k ≠ 13 := ⟨fun e => by subst e; exact h rfl, fun e => by subst e; exact h rfl⟩
theorem argNo_any (k n p : Int) (w : World) (h1 : (k == 12) = false) (h2 : (k == 13) = false) : Calls Tryd.prog 45 #[.agg #[.int .i64 k, .int .i64 n, .int .i64 p]] w fun e w' => e = .returned (.float .f64 0) ∧ Below w.heap.size w w' := by
  go_enter Tryd.func45, Tryd.ntmps45
  go_wp2
  go_ret
  exact ⟨rfl, one _ _⟩

set_option maxHeartbeats 1000000 in
set_option maxRecDepth 10000 in
theorem rdev_10 (m : Mm) (_hok : m.Ok) (n p : Int) (w : World) (hT : DevTab w) :
    Calls Tryd.prog 19 #[m.val, .agg #[.int .i64 10, .int .i64 n, .int .i64 p]] w fun e w' => e = .returned (.float .f64 (m.rdev 10 n)) ∧ Below w.heap.size w w' := by
  have HT : Hid (DevTab w) := hT
  clear hT
  obtain ⟨j, hj⟩ := Int.eq_ofNat_of_zero_le (plc_range 10 n).1
  have hlt : j < 16 := by
    have := (plc_range 10 n).2
    rw [hj, show sz4 10 = 16 from rfl] at this
    omega
  have hlt' : (j : Int) < 16 := by omega
  have HE : Hid (m.rdev 10 n = m.r j) := by
    show m.r (plc 10 n).toNat = m.r j
    rw [hj]; rfl
  rw [HE.out]
  clear _hok
  unfold Mm.val
  go_enter Tryd.func19, Tryd.ntmps19
  go_upto_region 1 with fail
  have HB : Hid (Below w.heap.size w ((w.alloc (.cells m.cells 37)).alloc (.cells #[.int .i64 10, .int .i64 n, .int .i64 p] 39))) := ((Below.refl _ _).alloc (Nat.le_refl _) _).alloc (by simp) _
  have HI : Hid (MemAt ((w.alloc (.cells m.cells 37)).alloc (.cells #[.int .i64 10, .int .i64 n, .int .i64 p] 39)) w.heap.size m) := (RowAt.new w 37 136 m.cell).alloc _
  have a0 : World.cell? ((w.alloc (.cells m.cells 37)).alloc (.cells #[.int .i64 10, .int .i64 n, .int .i64 p] 39)) ⟨w.heap.size + 1, 0, none⟩ = some (.int .i64 10) := by simp [go_sem]
  have a1 : World.cell? ((w.alloc (.cells m.cells 37)).alloc (.cells #[.int .i64 10, .int .i64 n, .int .i64 p] 39)) ⟨w.heap.size + 1, 1, none⟩ = some (.int .i64 n) := by simp [go_sem]
  have a2 : World.cell? ((w.alloc (.cells m.cells 37)).alloc (.cells #[.int .i64 10, .int .i64 n, .int .i64 p] 39)) ⟨w.heap.size + 1, 2, none⟩ = some (.int .i64 p) := by simp [go_sem]
  generalize ((w.alloc (.cells m.cells 37)).alloc (.cells #[.int .i64 10, .int .i64 n, .int .i64 p] 39)) = V at *
  go_wp2_with fail
  refine (place_any 10 n p _ (HT.out.to HB.out)).mono ?_
  rw [hj]
  rintro e w1 ⟨rfl, hb1⟩
  have HB1 : Hid (Below w.heap.size w w1) := HB.out.trans (hb1.mono HB.out.size)
  have HI1 : Hid (MemAt w1 w.heap.size m) := HI.out.to hb1
  have b0 : w1.cell? ⟨w.heap.size + 1, 0, none⟩ = some (.int .i64 10) := (hb1.cell (p := ⟨w.heap.size + 1, 0, none⟩) (World.block_lt_of_cell? V _ a0)).trans a0
  clear hb1 HB HI a0 a1 a2
  have c0 : w1.cell? ⟨w.heap.size, 117 + j, none⟩ = some (.float .f64 (m.r j)) := (cell_of_row _ _ _ _ _ _ HI1.out).trans (m.at_r hlt)
  go_wp2
  go_ret
  exact ⟨rfl, HB1.out⟩

set_option maxHeartbeats 1000000 in
set_option maxRecDepth 10000 in
theorem rdev_no (m : Mm) (_hok : m.Ok) (k : Int) (n p : Int) (w : World) (hT : DevTab w) (hk : k ≠ 10 ∧ k ≠ 12 ∧ k ≠ 13) :
    Calls Tryd.prog 19 #[m.val, .agg #[.int .i64 k, .int .i64 n, .int .i64 p]] w fun e w' => e = .returned (.float .f64 (m.rdev k n)) ∧ Below w.heap.size w w' := by
  have HT : Hid (DevTab w) := hT
  clear hT
  have k10 : (k == 10) = false := by simp only [beq_eq_false_iff_ne, ne_eq]; omega
  have k12 : (k == 12) = false := by simp only [beq_eq_false_iff_ne, ne_eq]; omega
  have k13 : (k == 13) = false := by simp only [beq_eq_false_iff_ne, ne_eq]; omega
  rw [show m.rdev k n = 0 from if_neg hk.1]
  clear _hok hk
  unfold Mm.val
  go_enter Tryd.func19, Tryd.ntmps19
  go_upto_region 1 with fail
  have HB : Hid (Below w.heap.size w ((w.alloc (.cells m.cells 37)).alloc (.cells #[.int .i64 k, .int .i64 n, .int .i64 p] 39))) := ((Below.refl _ _).alloc (Nat.le_refl _) _).alloc (by simp) _
  have HI : Hid (MemAt ((w.alloc (.cells m.cells 37)).alloc (.cells #[.int .i64 k, .int .i64 n, .int .i64 p] 39)) w.heap.size m) := (RowAt.new w 37 136 m.cell).alloc _
  have a0 : World.cell? ((w.alloc (.cells m.cells 37)).alloc (.cells #[.int .i64 k, .int .i64 n, .int .i64 p] 39)) ⟨w.heap.size + 1, 0, none⟩ = some (.int .i64 k) := by simp [go_sem]
  have a1 : World.cell? ((w.alloc (.cells m.cells 37)).alloc (.cells #[.int .i64 k, .int .i64 n, .int .i64 p] 39)) ⟨w.heap.size + 1, 1, none⟩ = some (.int .i64 n) := by simp [go_sem]
  have a2 : World.cell? ((w.alloc (.cells m.cells 37)).alloc (.cells #[.int .i64 k, .int .i64 n, .int .i64 p] 39)) ⟨w.heap.size + 1, 2, none⟩ = some (.int .i64 p) := by simp [go_sem]
  generalize ((w.alloc (.cells m.cells 37)).alloc (.cells #[.int .i64 k, .int .i64 n, .int .i64 p] 39)) = V at *
  go_wp2_with fail
  refine (argNo_any k n p _ k12 k13).mono ?_
  rintro e w1 ⟨rfl, hb1⟩
  have HB1 : Hid (Below w.heap.size w w1) := HB.out.trans (hb1.mono HB.out.size)
  clear hb1 HB HI a0 a1 a2
  go_wp2
  go_ret
  exact ⟨rfl, HB1.out⟩
theorem rdev_any (m : Mm) (hok : m.Ok) (k n p : Int) (w : World) (hT : DevTab w) (hk : k ≠ 12 ∧ k ≠ 13) :
    Calls Tryd.prog 19 #[m.val, .agg #[.int .i64 k, .int .i64 n, .int .i64 p]] w fun e w' => e = .returned (.float .f64 (m.rdev k n)) ∧ Below w.heap.size w w' := by
  by_cases h : k = 10
  · subst h
    exact rdev_10 m hok n p w hT
  · exact rdev_no m hok k n p w hT ⟨h, hk⟩
end Go.Proofs.YtljhpagpohihcaaDoor
