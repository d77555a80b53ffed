/- The walk of the law FnExactMemPut. Helper text: no statement is claimed here. -/
import Derived.Test.YtljhpagpohihcaaDoorJo
import Derived.Test.YtljhpagpohihcaaDoorJw
import Derived.Test.YtljhpagpohihcaaDoorJd
import Derived.Test.YtljhpagpohihcaaDoorJf
import Derived.Test.YtljhpagpohihcaaDoorJh
import Derived.Test.YtljhpagpohihcaaDoorJt
namespace Go.Proofs.YtljhpagpohihcaaDoor
open Go.ChangeShapes Go.WideShapes Go.ChangeAt Go.RowKit Fl

set_option maxHeartbeats 1000000 in
set_option maxRecDepth 100000 in
theorem put_walk (m : Mm) (k n p : Int) (v : Bool) (w : World) (hm : m.Ok) (hok : ∀ i, (m.putB k n v).r i < 2 ^ 64) (hT : DevTab w) :
    Calls Tryd.prog 7 #[m.val, .agg #[.int .i64 k, .int .i64 n, .int .i64 p], .bool v] w fun e w' => e = .returned (.bool true) ∧ Below w.heap.size w w' := by
  have HT : Hid (DevTab w) := hT
  have HS : Hid (∀ W, Calls Tryd.prog 27 #[m.val, .agg #[.int .i64 k, .int .i64 n, .int .i64 p], .bool v] W fun e w' => e = .returned (m.putB k n v).val ∧ Below W.heap.size W w') := fun W => sPut_any m hm k n p v W
  have HI : Hid (∀ W, DevTab W → Calls Tryd.prog 11 #[m.val, .agg #[.int .i64 k, .int .i64 n, .int .i64 p], .bool v] W fun e w' => e = .returned (m.putB k n v).val ∧ Below W.heap.size W w') := fun W h => iPut_any m hm k n p v W h
  have HR : Hid (∀ i, (m.putB k n v).r i < 2 ^ 64) := hok
  clear hT hok hm
  generalize m.putB k n v = m' at *
  have H1 : Hid (∀ W, Calls Tryd.prog 28 #[m.val] W fun e w' => e = .returned m.val ∧ Below W.heap.size W w') := fun W => toMem_any m W
  have H2 : Hid (∀ W, Calls Tryd.prog 29 #[.agg #[.int .i64 k, .int .i64 n, .int .i64 p]] W fun e w' => e = .returned (.agg #[.int .i64 k, .int .i64 n, .int .i64 p]) ∧ Below W.heap.size W w') := fun W => toArg4_any k n p W
  unfold Mm.val
  go_enter Tryd.func7, Tryd.ntmps7
  go_upto_region 1 with fail
  have HB : Hid (Below w.heap.size w ((w.alloc (.cells m.cells 70)).alloc (.cells #[.int .i64 k, .int .i64 n, .int .i64 p] 71))) := ((Below.refl _ _).alloc (Nat.le_refl _) _).alloc (by simp) _
  have HM : Hid (RowAt ((w.alloc (.cells m.cells 70)).alloc (.cells #[.int .i64 k, .int .i64 n, .int .i64 p] 71)) w.heap.size 70 136 m.cell) := (RowAt.new w _ 136 m.cell).alloc _
  have HA : Hid (World.rangeAt ((w.alloc (.cells m.cells 70)).alloc (.cells #[.int .i64 k, .int .i64 n, .int .i64 p] 71)) (w.heap.size + 1) 0 [.int .i64 k, .int .i64 n, .int .i64 p]) := range3 (by simp [go_sem]) (by simp [go_sem]) (by simp [go_sem])
  have HL : Hid (w.heap.size + 1 < (World.heap ((w.alloc (.cells m.cells 70)).alloc (.cells #[.int .i64 k, .int .i64 n, .int .i64 p] 71))).size) := by show _ < _; simp
  generalize ((w.alloc (.cells m.cells 70)).alloc (.cells #[.int .i64 k, .int .i64 n, .int .i64 p] 71)) = V at *
  refine put_region1 Tryd.call28 Tryd.call29 Tryd.call27 zero_mem HM.out HA.out HL.out H1.out H2.out (fun W _ => HS.out W) ?_
  intro b1 w1 hb1 hge1 hm1
  have HB1 : Hid (Below w.heap.size w w1) := HB.out.trans (hb1.mono HB.out.size)
  have HM1 : Hid (RowAt w1 w.heap.size 70 136 m.cell) := HM.out.to hb1
  have HA1 : Hid (World.rangeAt w1 (w.heap.size + 1) 0 [.int .i64 k, .int .i64 n, .int .i64 p]) := range_to HA.out HL.out hb1
  have HL1 : Hid (w.heap.size + 1 < (World.heap w1).size) := Nat.lt_of_lt_of_le HL.out hb1.size
  have HO1 : Hid (MemAt w1 b1 m') := hm1
  clear hb1 hge1 hm1 HB HM HA HL
  go_upto_region 2 with fail
  refine put_region2 Tryd.call28 Tryd.call29 Tryd.call11 zero_mem HM1.out HA1.out HL1.out H1.out H2.out (fun W h => HI.out W (HT.out.to (HB1.out.trans (h.mono HB1.out.size)))) ?_
  intro b2 w2 hb2 hge2 hm2
  have HB2 : Hid (Below w.heap.size w w2) := HB1.out.trans (hb2.mono HB1.out.size)
  have HO2 : Hid (MemAt w2 b1 m') := HO1.out.to hb2
  have HP2 : Hid (MemAt w2 b2 m') := hm2
  clear hb2 hge2 hm2 HB1 HM1 HA1 HL1 HO1 H1 H2 HS HI
  go_wp2_with (first
    | refine wpList_rowLoad rfl 37 (.tmp 8) rfl _ 0 136 m'.cell rfl HP2.out (by omega) (fun i _ => by rw [Nat.zero_add]) Tryd.underlying37 rfl (by kernel_rfl) ?_
    | refine wpList_rowLoad rfl 37 (.tmp 7) rfl _ 0 136 m'.cell rfl HO2.out (by omega) (fun i _ => by rw [Nat.zero_add]) Tryd.underlying37 rfl (by kernel_rfl) ?_)
  refine (eqMem_any m' m'.r (fun i _ => .inl rfl) HR.out _).mono ?_
  rintro e w3 ⟨rfl, hb3⟩
  have HB3 : Hid (Below w.heap.size w w3) := HB2.out.trans (hb3.mono HB2.out.size)
  clear hb3 HB2 HO2 HP2
  go_wp2
  go_ret
  exact ⟨rfl, HB3.out⟩
end Go.Proofs.YtljhpagpohihcaaDoor
