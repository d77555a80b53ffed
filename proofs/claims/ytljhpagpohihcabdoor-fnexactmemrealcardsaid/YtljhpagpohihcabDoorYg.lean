/- MemReal of the program. Helper text: no statement is claimed here. -/
import Derived.Test.YtljhpagpohihcabDoorYa
import Derived.Test.YtljhpagpohihcabDoorYh
import Derived.Deep.Cut
namespace Go.Proofs.YtljhpagpohihcabDoor
open Go.ChangeShapes Go.WideShapes Go.ChangeAt Go.RowKit Fl

/-- The real number that an operand asks for. -/
def Mm.RealR (m : Mm) (k n p : Int) (r : Nat) : Prop := r < 2 ^ 64 ∧ (if k = 10 then r = m.r (plc 10 n).toNat else ArgR k n p r)
theorem Mm.RealR.lt {m : Mm} {k n p : Int} {r : Nat} (h : m.RealR k n p r) : r < 2 ^ 64 := h.1
theorem Mm.RealR.one {m : Mm} {k n p : Int} {r r' : Nat} (h : m.RealR k n p r) (h' : m.RealR k n p r') : SameV r r' := by
  have a := h.2
  have b := h'.2
  by_cases hk : k = 10
  · rw [if_pos hk] at a b
    exact .inl (a.trans b.symm)
  · rw [if_neg hk] at a b
    exact a.one b

set_option maxHeartbeats 1000000 in
set_option maxRecDepth 10000 in
theorem ireal_10 (m : Mm) (hok : m.Ok) (n p : Int) (w : World) (hT : DevTab w) :
    Calls Tryd.prog 8 #[m.val, .agg #[.int .i64 10, .int .i64 n, .int .i64 p]] w fun e w' => ∃ u, e = .returned u ∧ (∃ r, u = Value.float .f64 r ∧ m.RealR 10 n p r) ∧ Below w.heap.size w w' := by
  have HT : Hid (DevTab w) := hT
  clear hT
  obtain ⟨j, hj⟩ := Int.eq_ofNat_of_zero_le (plc_range 10 n).1
  have hlt : j < 16 := by
    have := (plc_range 10 n).2
    rw [hj, show sz4 10 = 16 from rfl] at this
    omega
  have hlt' : (j : Int) < 16 := by omega
  have HE : Hid (m.RealR 10 n p (m.r j)) := ⟨hok.hr j, by rw [if_pos rfl, hj]; rfl⟩
  clear hok
  unfold Mm.val
  go_enter Tryd.func8, Tryd.ntmps8
  go_upto_region 1 with fail
  have HB : Hid (Below w.heap.size w ((w.alloc (.cells m.cells 45)).alloc (.cells #[.int .i64 10, .int .i64 n, .int .i64 p] 47))) := ((Below.refl _ _).alloc (Nat.le_refl _) _).alloc (by simp) _
  have HI : Hid (MemAt ((w.alloc (.cells m.cells 45)).alloc (.cells #[.int .i64 10, .int .i64 n, .int .i64 p] 47)) w.heap.size m) := (RowAt.new w 45 136 m.cell).alloc _
  have a0 : World.cell? ((w.alloc (.cells m.cells 45)).alloc (.cells #[.int .i64 10, .int .i64 n, .int .i64 p] 47)) ⟨w.heap.size + 1, 0, none⟩ = some (.int .i64 10) := by simp [go_sem]
  have a1 : World.cell? ((w.alloc (.cells m.cells 45)).alloc (.cells #[.int .i64 10, .int .i64 n, .int .i64 p] 47)) ⟨w.heap.size + 1, 1, none⟩ = some (.int .i64 n) := by simp [go_sem]
  have a2 : World.cell? ((w.alloc (.cells m.cells 45)).alloc (.cells #[.int .i64 10, .int .i64 n, .int .i64 p] 47)) ⟨w.heap.size + 1, 2, none⟩ = some (.int .i64 p) := by simp [go_sem]
  generalize ((w.alloc (.cells m.cells 45)).alloc (.cells #[.int .i64 10, .int .i64 n, .int .i64 p] 47)) = V at *
  go_wp2_with fail
  refine (place_any 10 n p _ (HT.out.to HB.out)).mono ?_
  rw [hj]
  rintro e w1 ⟨rfl, hb1⟩
  have HB1 : Hid (Below w.heap.size w w1) := HB.out.trans (hb1.mono HB.out.size)
  have HI1 : Hid (MemAt w1 w.heap.size m) := HI.out.to hb1
  have b0 : w1.cell? ⟨w.heap.size + 1, 0, none⟩ = some (.int .i64 10) := (hb1.cell (p := ⟨w.heap.size + 1, 0, none⟩) (World.block_lt_of_cell? V _ a0)).trans a0
  clear hb1 HB HI a0 a1 a2
  have c0 : w1.cell? ⟨w.heap.size, 117 + j, none⟩ = some (.float .f64 (m.r j)) := (cell_of_row _ _ _ _ _ _ HI1.out).trans (m.at_r hlt)
  go_wp2
  go_ret
  exact ⟨_, rfl, ⟨_, rfl, HE.out⟩, HB1.out⟩

set_option maxHeartbeats 1000000 in
set_option maxRecDepth 10000 in
theorem ireal_no (m : Mm) (_hok : m.Ok) (k : Int) (n p : Int) (w : World) (hT : DevTab w) (hk : k ≠ 10) :
    Calls Tryd.prog 8 #[m.val, .agg #[.int .i64 k, .int .i64 n, .int .i64 p]] w fun e w' => ∃ u, e = .returned u ∧ (∃ r, u = Value.float .f64 r ∧ m.RealR k n p r) ∧ Below w.heap.size w w' := by
  have HT : Hid (DevTab w) := hT
  clear hT
  have k10 : (k == 10) = false := by simpa using hk
  have HE : Hid (∀ r, ArgR k n p r → m.RealR k n p r) := fun r h => ⟨h.1, by rw [if_neg hk]; exact h⟩
  clear _hok hk
  unfold Mm.val
  go_enter Tryd.func8, Tryd.ntmps8
  go_upto_region 1 with fail
  have HB : Hid (Below w.heap.size w ((w.alloc (.cells m.cells 45)).alloc (.cells #[.int .i64 k, .int .i64 n, .int .i64 p] 47))) := ((Below.refl _ _).alloc (Nat.le_refl _) _).alloc (by simp) _
  have HI : Hid (MemAt ((w.alloc (.cells m.cells 45)).alloc (.cells #[.int .i64 k, .int .i64 n, .int .i64 p] 47)) w.heap.size m) := (RowAt.new w 45 136 m.cell).alloc _
  have a0 : World.cell? ((w.alloc (.cells m.cells 45)).alloc (.cells #[.int .i64 k, .int .i64 n, .int .i64 p] 47)) ⟨w.heap.size + 1, 0, none⟩ = some (.int .i64 k) := by simp [go_sem]
  have a1 : World.cell? ((w.alloc (.cells m.cells 45)).alloc (.cells #[.int .i64 k, .int .i64 n, .int .i64 p] 47)) ⟨w.heap.size + 1, 1, none⟩ = some (.int .i64 n) := by simp [go_sem]
  have a2 : World.cell? ((w.alloc (.cells m.cells 45)).alloc (.cells #[.int .i64 k, .int .i64 n, .int .i64 p] 47)) ⟨w.heap.size + 1, 2, none⟩ = some (.int .i64 p) := by simp [go_sem]
  generalize ((w.alloc (.cells m.cells 45)).alloc (.cells #[.int .i64 k, .int .i64 n, .int .i64 p] 47)) = V at *
  go_wp2_with fail
  refine (iarg_any k n p _ (HT.out.to HB.out)).mono ?_
  rintro e w1 ⟨r, rfl, hr, hb1⟩
  have HB1 : Hid (Below w.heap.size w w1) := HB.out.trans (hb1.mono HB.out.size)
  have HR1 : Hid (m.RealR k n p r) := HE.out r hr
  clear hb1 hr HB HI a0 a1 a2 HE
  go_wp2
  go_ret
  exact ⟨_, rfl, ⟨_, rfl, HR1.out⟩, HB1.out⟩
theorem ireal_any (m : Mm) (hok : m.Ok) (k n p : Int) (w : World) (hT : DevTab w) :
    Calls Tryd.prog 8 #[m.val, .agg #[.int .i64 k, .int .i64 n, .int .i64 p]] w fun e w' => ∃ u, e = .returned u ∧ (∃ r, u = Value.float .f64 r ∧ m.RealR k n p r) ∧ Below w.heap.size w w' := by
  by_cases h : k = 10
  · subst h
    exact ireal_10 m hok n p w hT
  · exact ireal_no m hok k n p w hT h
end Go.Proofs.YtljhpagpohihcabDoor
