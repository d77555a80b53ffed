/- The coil 'step' as a part: actDrivenOf, actPartOf. Helper text: no statement is claimed here. -/
import Derived.Test.YtljhpagpohihcaaDoorVb
import Derived.Test.YtljhpagpohihcaaDoorVh
namespace Go.Proofs.YtljhpagpohihcaaDoor
open Go.ChangeShapes Go.WideShapes Go.ChangeAt Go.RowKit

set_option maxHeartbeats 1000000 in
set_option maxRecDepth 100000 in
theorem drivenOf_25 (x : Nat → Int) (w : World) :
    Calls Tryd.prog 74 #[.int .i64 25, lit9 x] w fun e w' => e = .returned (.iface 146 (lit9 x)) ∧ Below w.heap.size w w' := by
  go_enter Tryd.func74, Tryd.ntmps74
  go_wp2_with fail
  go_ret
  exact ⟨rfl, (Below.refl _ _).alloc (Nat.le_refl _) _⟩

/-- The part of the coil 'step'. -/
abbrev stepV (x : Nat → Int) : Value := .iface 132 (.agg #[.iface 146 (lit9 x)])
set_option maxHeartbeats 1000000 in
set_option maxRecDepth 100000 in
theorem partOf_25 (p : Option Addr) (n cap : Nat) (c : Nat → Int) (w : World) (h : ListAt w p n c) :
    Calls Tryd.prog 52 #[.agg #[.int .i64 25, .slice p n cap]] w fun e w' => e = .returned (stepV (anum n c)) ∧ Below w.heap.size w w' := by
  have HL : Hid (ListAt (w.alloc (.cells #[.int .i64 25, .slice p n cap] 64)) p n c) := by
    rcases h with h0 | ⟨ad, hp, hlt, hc⟩
    · exact .inl h0
    · have hb : Below w.heap.size w (w.alloc (.cells #[.int .i64 25, .slice p n cap] 64)) := (Below.refl _ _).alloc (Nat.le_refl _) _
      exact .inr ⟨ad, hp, by simp; omega, fun i hi => by rw [hb.cell (p := ad.add i) (by rw [show (ad.add i).block = ad.block by unfold Addr.add; split <;> rfl]; exact hlt)]; exact hc i hi⟩
  clear h
  obtain ⟨x, hx⟩ : ∃ x, x = anum n c := ⟨_, rfl⟩
  have HX : Hid (argsV n c = lit9 x) := by rw [hx]; exact lit9_eq _
  rw [← hx]
  clear hx
  go_enter Tryd.func52, Tryd.ntmps52
  go_wp2_with fail
  refine Calls.mono (argsOf_any p n cap c _ HL.out) ?_
  rintro e w1 ⟨rfl, hb1⟩
  rw [HX.out]
  clear HL
  have HB1 : Hid (Below w.heap.size w w1) := ((Below.refl _ _).alloc (Nat.le_refl _) _).trans (hb1.mono (by simp))
  have c0 : w1.cell? ⟨w.heap.size, 0, none⟩ = some (.int .i64 25) := by rw [hb1.cell (p := ⟨w.heap.size, 0, none⟩) (by simp)]; simp [go_sem]
  have hlt : w.heap.size < w1.heap.size := by have := hb1.size; simp at this; omega
  clear hb1
  go_wp2_with fail
  refine Calls.mono (drivenOf_25 x _) ?_
  rintro e w2 ⟨rfl, hb2⟩
  have HB2 : Hid (Below w.heap.size w w2) := (HB1.out.alloc (by omega) _).trans (hb2.mono (by simp; omega))
  clear hb2 HB1 c0
  go_wp2_with fail
  go_ret
  exact ⟨rfl, HB2.out⟩
end Go.Proofs.YtljhpagpohihcaaDoor
