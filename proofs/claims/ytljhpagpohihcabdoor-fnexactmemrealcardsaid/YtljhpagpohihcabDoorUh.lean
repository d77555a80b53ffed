/- The walk of the law FnExactMemReal. Helper text: no statement is claimed here. -/
import Derived.Test.YtljhpagpohihcabDoorUg
import Derived.Test.YtljhpagpohihcabDoorCs
import Derived.Test.YtljhpagpohihcabDoorJd
import Derived.Test.YtljhpagpohihcabDoorJx
import Derived.Test.YtljhpagpohihcabDoorJt
namespace Go.Proofs.YtljhpagpohihcabDoor
open Go.ChangeShapes Go.WideShapes Go.ChangeAt Go.RowKit Fl

set_option maxHeartbeats 1000000 in
set_option maxRecDepth 100000 in
theorem real_walk (m : Mm) (hok : m.Ok) (k n p : Int) (w : World) (hT : DevTab w) :
    Calls Tryd.prog 3 #[m.val, .agg #[.int .i64 k, .int .i64 n, .int .i64 p]] w fun e w' => e = .returned (.bool true) ∧ Below w.heap.size w w' := by
  have HT : Hid (DevTab w) := hT
  have HS : Hid (∀ W, Calls Tryd.prog 5 #[m.val, .agg #[.int .i64 k, .int .i64 n, .int .i64 p]] W fun e w' => ∃ u, e = .returned u ∧ (fun u => ∃ r, u = Value.float .f64 r ∧ m.RealR k n p r) u ∧ Below W.heap.size W w') := fun W => sreal_any m hok k n p W
  have HI : Hid (∀ W, DevTab W → Calls Tryd.prog 8 #[m.val, .agg #[.int .i64 k, .int .i64 n, .int .i64 p]] W fun e w' => ∃ u, e = .returned u ∧ (fun u => ∃ r, u = Value.float .f64 r ∧ m.RealR k n p r) u ∧ Below W.heap.size W w') := fun W h => ireal_any m hok k n p W h
  clear hT hok
  have H1 : Hid (∀ W, Calls Tryd.prog 6 #[m.val] W fun e w' => e = .returned m.val ∧ Below W.heap.size W w') := fun W => toMem_any m W
  have H2 : Hid (∀ W, Calls Tryd.prog 7 #[.agg #[.int .i64 k, .int .i64 n, .int .i64 p]] W fun e w' => e = .returned (.agg #[.int .i64 k, .int .i64 n, .int .i64 p]) ∧ Below W.heap.size W w') := fun W => toArg4_any k n p W
  unfold Mm.val
  go_enter Tryd.func3, Tryd.ntmps3
  go_upto_region 1 with fail
  have HB : Hid (Below w.heap.size w ((w.alloc (.cells m.cells 36)).alloc (.cells #[.int .i64 k, .int .i64 n, .int .i64 p] 38))) := ((Below.refl _ _).alloc (Nat.le_refl _) _).alloc (by simp) _
  have HM : Hid (RowAt ((w.alloc (.cells m.cells 36)).alloc (.cells #[.int .i64 k, .int .i64 n, .int .i64 p] 38)) w.heap.size 36 136 m.cell) := (RowAt.new w _ 136 m.cell).alloc _
  have HA : Hid (World.rangeAt ((w.alloc (.cells m.cells 36)).alloc (.cells #[.int .i64 k, .int .i64 n, .int .i64 p] 38)) (w.heap.size + 1) 0 [.int .i64 k, .int .i64 n, .int .i64 p]) := range3 (by simp [go_sem]) (by simp [go_sem]) (by simp [go_sem])
  have HL : Hid (w.heap.size + 1 < (World.heap ((w.alloc (.cells m.cells 36)).alloc (.cells #[.int .i64 k, .int .i64 n, .int .i64 p] 38))).size) := by show _ < _; simp
  generalize ((w.alloc (.cells m.cells 36)).alloc (.cells #[.int .i64 k, .int .i64 n, .int .i64 p] 38)) = V at *
  refine ask1_21 Tryd.call6 Tryd.call7 Tryd.call5 HM.out HA.out HL.out H1.out H2.out (fun W _ => HS.out W) ?_
  intro u1 w1 hG1 hb1
  have HG1 : Hid ((fun u => ∃ r, u = Value.float .f64 r ∧ m.RealR k n p r) u1) := hG1
  have HB1 : Hid (Below w.heap.size w w1) := HB.out.trans (hb1.mono HB.out.size)
  have HM1 : Hid (RowAt w1 w.heap.size 36 136 m.cell) := HM.out.to hb1
  have HA1 : Hid (World.rangeAt w1 (w.heap.size + 1) 0 [.int .i64 k, .int .i64 n, .int .i64 p]) := range_to HA.out HL.out hb1
  have HL1 : Hid (w.heap.size + 1 < (World.heap w1).size) := Nat.lt_of_lt_of_le HL.out hb1.size
  clear hG1 hb1 HB HM HA HL
  go_upto_region 2 with fail
  refine ask2_21 Tryd.call6 Tryd.call7 Tryd.call8 HM1.out HA1.out HL1.out H1.out H2.out (fun W h => HI.out W (HT.out.to (HB1.out.trans (h.mono HB1.out.size)))) ?_
  intro u2 w2 hG2 hb2
  have HG2 : Hid ((fun u => ∃ r, u = Value.float .f64 r ∧ m.RealR k n p r) u2) := hG2
  have HB2 : Hid (Below w.heap.size w w2) := HB1.out.trans (hb2.mono HB1.out.size)
  clear hG2 hb2 HB1 HM1 HA1 HL1 H1 H2 HS HI
  obtain ⟨r1, e1, h1⟩ := HG1.out
  obtain ⟨r2, e2, h2⟩ := HG2.out
  subst e1 e2
  have HF : Hid (∀ W, Calls Tryd.prog 9 #[.float .f64 r2, .float .f64 r1] W fun e w' => e = .returned (.bool true) ∧ w' = W) := fun W => sameFloat_any r2 r1 W (h2.one h1) (h2.lt)
  clear HG1 HG2 h1 h2
  go_wp2_with fail
  refine (HF.out _).mono ?_
  rintro e w3 ⟨rfl, rfl⟩
  go_wp2
  go_ret
  exact ⟨rfl, HB2.out⟩
end Go.Proofs.YtljhpagpohihcabDoor
