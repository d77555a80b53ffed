/- The walk of the law FnExactMemBit. Helper text: no statement is claimed here. -/
import Derived.Test.YtanikehmgcbgpagDoorUb
import Derived.Test.YtanikehmgcbgpagDoorUc
import Derived.Test.YtanikehmgcbgpagDoorJd
import Derived.Test.YtanikehmgcbgpagDoorJx
import Derived.Test.YtanikehmgcbgpagDoorJt
namespace Go.Proofs.YtanikehmgcbgpagDoor
open Go.ChangeShapes Go.WideShapes Go.ChangeAt Go.RowKit

set_option maxHeartbeats 1000000 in
set_option maxRecDepth 100000 in
theorem bit_walk (m : Mm) (hok : m.Ok) (k n p : Int) (w : World) (hT : DevTab w) :
    Calls Tryd.prog 4 #[m.val, .agg #[.int .i64 k, .int .i64 n, .int .i64 p]] w fun e w' => e = .returned (.bool true) ∧ Below w.heap.size w w' := by
  have HT : Hid (DevTab w) := hT
  have HS : Hid (∀ W, Calls Tryd.prog 12 #[m.val, .agg #[.int .i64 k, .int .i64 n, .int .i64 p]] W fun e w' => ∃ u, e = .returned u ∧ (fun u => u = Value.bool (m.bit k n)) u ∧ Below W.heap.size W w') := fun W => (sbt_any m hok k n p W).mono fun _ _ ⟨a, b⟩ => ⟨_, a, rfl, b⟩
  have HI : Hid (∀ W, DevTab W → Calls Tryd.prog 15 #[m.val, .agg #[.int .i64 k, .int .i64 n, .int .i64 p]] W fun e w' => ∃ u, e = .returned u ∧ (fun u => u = Value.bool (m.bit k n)) u ∧ Below W.heap.size W w') := fun W h => (ibit_any m hok k n p W h).mono fun _ _ ⟨a, b⟩ => ⟨_, a, rfl, b⟩
  clear hT hok
  have H1 : Hid (∀ W, Calls Tryd.prog 13 #[m.val] W fun e w' => e = .returned m.val ∧ Below W.heap.size W w') := fun W => toMem_any m W
  have H2 : Hid (∀ W, Calls Tryd.prog 14 #[.agg #[.int .i64 k, .int .i64 n, .int .i64 p]] W fun e w' => e = .returned (.agg #[.int .i64 k, .int .i64 n, .int .i64 p]) ∧ Below W.heap.size W w') := fun W => toArg4_any k n p W
  unfold Mm.val
  go_enter Tryd.func4, Tryd.ntmps4
  go_upto_region 1 with fail
  have HB : Hid (Below w.heap.size w ((w.alloc (.cells m.cells 47)).alloc (.cells #[.int .i64 k, .int .i64 n, .int .i64 p] 49))) := ((Below.refl _ _).alloc (Nat.le_refl _) _).alloc (by simp) _
  have HM : Hid (RowAt ((w.alloc (.cells m.cells 47)).alloc (.cells #[.int .i64 k, .int .i64 n, .int .i64 p] 49)) w.heap.size 47 136 m.cell) := (RowAt.new w _ 136 m.cell).alloc _
  have HA : Hid (World.rangeAt ((w.alloc (.cells m.cells 47)).alloc (.cells #[.int .i64 k, .int .i64 n, .int .i64 p] 49)) (w.heap.size + 1) 0 [.int .i64 k, .int .i64 n, .int .i64 p]) := range3 (by simp [go_sem]) (by simp [go_sem]) (by simp [go_sem])
  have HL : Hid (w.heap.size + 1 < (World.heap ((w.alloc (.cells m.cells 47)).alloc (.cells #[.int .i64 k, .int .i64 n, .int .i64 p] 49))).size) := by show _ < _; simp
  generalize ((w.alloc (.cells m.cells 47)).alloc (.cells #[.int .i64 k, .int .i64 n, .int .i64 p] 49)) = V at *
  refine ask1_20 Tryd.call13 Tryd.call14 Tryd.call12 HM.out HA.out HL.out H1.out H2.out (fun W _ => HS.out W) ?_
  intro u1 w1 hG1 hb1
  have HG1 : Hid ((fun u => u = Value.bool (m.bit k n)) u1) := hG1
  have HB1 : Hid (Below w.heap.size w w1) := HB.out.trans (hb1.mono HB.out.size)
  have HM1 : Hid (RowAt w1 w.heap.size 47 136 m.cell) := HM.out.to hb1
  have HA1 : Hid (World.rangeAt w1 (w.heap.size + 1) 0 [.int .i64 k, .int .i64 n, .int .i64 p]) := range_to HA.out HL.out hb1
  have HL1 : Hid (w.heap.size + 1 < (World.heap w1).size) := Nat.lt_of_lt_of_le HL.out hb1.size
  clear hG1 hb1 HB HM HA HL
  go_upto_region 2 with fail
  refine ask2_20 Tryd.call13 Tryd.call14 Tryd.call15 HM1.out HA1.out HL1.out H1.out H2.out (fun W h => HI.out W (HT.out.to (HB1.out.trans (h.mono HB1.out.size)))) ?_
  intro u2 w2 hG2 hb2
  have HG2 : Hid ((fun u => u = Value.bool (m.bit k n)) u2) := hG2
  have HB2 : Hid (Below w.heap.size w w2) := HB1.out.trans (hb2.mono HB1.out.size)
  clear hG2 hb2 HB1 HM1 HA1 HL1 H1 H2 HS HI
  have e1 : u1 = Value.bool (m.bit k n) := HG1.out
  have e2 : u2 = Value.bool (m.bit k n) := HG2.out
  subst e1 e2
  have hne : ((m.bit k n) != (m.bit k n)) = false := by cases m.bit k n <;> rfl
  clear HG1 HG2
  generalize m.bit k n = bb at *
  go_wp2
  go_ret
  exact ⟨rfl, HB2.out⟩
end Go.Proofs.YtanikehmgcbgpagDoor
