/- The walk of the law FnExactMemSame. Helper text: no statement is claimed here. -/
import Derived.Test.YtglnoebjgdnekaaIs
import Derived.Test.YtglnoebjgdnekaaIr
import Derived.Test.YtglnoebjgdnekaaJd
import Derived.Test.YtglnoebjgdnekaaJy
namespace Go.Proofs.Ytglnoebjgdnekaa
open Go.ChangeShapes Go.WideShapes Go.ChangeAt Go.RowKit Fl

set_option maxHeartbeats 1000000 in
set_option maxRecDepth 100000 in
theorem same_walk (m n : Mm) (hm : m.Ok) (hn : n.Ok) (w : World) :
    Calls Try.prog 3 #[m.val, n.val] w fun e w' => e = .returned (.bool true) ∧ Below w.heap.size w w' := by
  have HS : Hid (∀ W, Calls Try.prog 4 #[m.val, n.val] W fun e w' => ∃ u, e = .returned u ∧ (fun u => u = Value.bool (sameM m n)) u ∧ Below W.heap.size W w') := fun W => (sMemSame_any m n hm hn W).mono fun _ _ ⟨a, b⟩ => ⟨_, a, rfl, b⟩
  have HI : Hid (∀ W, Calls Try.prog 6 #[m.val, n.val] W fun e w' => ∃ u, e = .returned u ∧ (fun u => u = Value.bool (sameM m n)) u ∧ Below W.heap.size W w') := fun W => (memSame_any m n hm hn W).mono fun _ _ ⟨a, b⟩ => ⟨_, a, rfl, b⟩
  clear hm hn
  have H1 : Hid (∀ W, Calls Try.prog 5 #[m.val] W fun e w' => e = .returned m.val ∧ Below W.heap.size W w') := fun W => toMem_any m W
  have H2 : Hid (∀ W, Calls Try.prog 5 #[n.val] W fun e w' => e = .returned n.val ∧ Below W.heap.size W w') := fun W => toMem_any n W
  unfold Mm.val
  go_enter Try.func3, Try.ntmps3
  go_upto_region 1 with fail
  have HB : Hid (Below w.heap.size w ((w.alloc (.cells m.cells 36)).alloc (.cells n.cells 36))) := ((Below.refl _ _).alloc (Nat.le_refl _) _).alloc (by simp) _
  have HM : Hid (RowAt ((w.alloc (.cells m.cells 36)).alloc (.cells n.cells 36)) w.heap.size 36 136 m.cell) := (RowAt.new w _ 136 m.cell).alloc _
  have HA : Hid (RowAt ((w.alloc (.cells m.cells 36)).alloc (.cells n.cells 36)) (w.heap.size + 1) 36 136 n.cell) := by
    have := RowAt.new (w.alloc (.cells m.cells 36)) 36 136 n.cell
    rw [show (w.alloc (.cells m.cells 36)).heap.size = w.heap.size + 1 by simp] at this
    exact this
  generalize ((w.alloc (.cells m.cells 36)).alloc (.cells n.cells 36)) = V at *
  refine two1 (m := m) (m2 := n) Try.call5 Try.call5 Try.call4 HM.out HA.out H1.out H2.out (fun W _ => HS.out W) ?_
  intro u1 w1 hG1 hb1
  have HG1 : Hid ((fun u => u = Value.bool (sameM m n)) u1) := hG1
  have HB1 : Hid (Below w.heap.size w w1) := HB.out.trans (hb1.mono HB.out.size)
  have HM1 : Hid (RowAt w1 w.heap.size 36 136 m.cell) := HM.out.to hb1
  have HA1 : Hid (RowAt w1 (w.heap.size + 1) 36 136 n.cell) := HA.out.to hb1
  clear hG1 hb1 HB HM HA
  go_upto_region 2 with fail
  refine two2 (m := m) (m2 := n) Try.call5 Try.call5 Try.call6 HM1.out HA1.out H1.out H2.out (fun W _ => HI.out W) ?_
  intro u2 w2 hG2 hb2
  have HG2 : Hid ((fun u => u = Value.bool (sameM m n)) u2) := hG2
  have HB2 : Hid (Below w.heap.size w w2) := HB1.out.trans (hb2.mono HB1.out.size)
  clear hG2 hb2 HB1 HM1 HA1 H1 H2 HS HI
  have e1 : u1 = Value.bool (sameM m n) := HG1.out
  have e2 : u2 = Value.bool (sameM m n) := HG2.out
  subst e1 e2
  have hne : (sameM m n != sameM m n) = false := by cases sameM m n <;> rfl
  clear HG1 HG2
  generalize sameM m n = bb at *
  go_wp2
  go_ret
  exact ⟨rfl, HB2.out⟩
end Go.Proofs.Ytglnoebjgdnekaa
