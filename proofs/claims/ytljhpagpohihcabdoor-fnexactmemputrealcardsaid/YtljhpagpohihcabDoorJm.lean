/- The walk of the law FnExactMemPutReal. Helper text: no statement is claimed here. -/
import Derived.Test.YtljhpagpohihcabDoorJl
import Derived.Test.YtljhpagpohihcabDoorJd
import Derived.Test.YtljhpagpohihcabDoorJf
import Derived.Test.YtljhpagpohihcabDoorJh
import Derived.Test.YtljhpagpohihcabDoorJt
namespace Go.Proofs.YtljhpagpohihcabDoor
open Go.ChangeShapes Go.WideShapes Go.ChangeAt Go.RowKit Fl

set_option maxHeartbeats 1000000 in
set_option maxRecDepth 100000 in
theorem putReal_walk (m : Mm) (k n p : Int) (v : Nat) (w : World) (hok : ∀ i, (m.putR k n v).r i < 2 ^ 64) (hT : DevTab w) :
    Calls Tryd.prog 4 #[m.val, .agg #[.int .i64 k, .int .i64 n, .int .i64 p], .float .f64 v] w fun e w' => e = .returned (.bool true) ∧ Below w.heap.size w w' := by
  have HT : Hid (DevTab w) := hT
  have HS : Hid (∀ W, Calls Tryd.prog 10 #[m.val, .agg #[.int .i64 k, .int .i64 n, .int .i64 p], .float .f64 v] W fun e w' => e = .returned (m.putR k n v).val ∧ Below W.heap.size W w') := fun W => sPutR_any m k n p v W
  have HI : Hid (∀ W, DevTab W → Calls Tryd.prog 11 #[m.val, .agg #[.int .i64 k, .int .i64 n, .int .i64 p], .float .f64 v] W fun e w' => e = .returned (m.putR k n v).val ∧ Below W.heap.size W w') := fun W h => iPutR_any m k n p v W h
  have HR : Hid (∀ i, (m.putR k n v).r i < 2 ^ 64) := hok
  clear hT hok
  generalize m.putR k n v = m' at *
  have H1 : Hid (∀ W, Calls Tryd.prog 6 #[m.val] W fun e w' => e = .returned m.val ∧ Below W.heap.size W w') := fun W => toMem_any m W
  have H2 : Hid (∀ W, Calls Tryd.prog 7 #[.agg #[.int .i64 k, .int .i64 n, .int .i64 p]] W fun e w' => e = .returned (.agg #[.int .i64 k, .int .i64 n, .int .i64 p]) ∧ Below W.heap.size W w') := fun W => toArg4_any k n p W
  unfold Mm.val
  go_enter Tryd.func4, Tryd.ntmps4
  go_upto_region 1 with fail
  have HB : Hid (Below w.heap.size w ((w.alloc (.cells m.cells 36)).alloc (.cells #[.int .i64 k, .int .i64 n, .int .i64 p] 38))) := ((Below.refl _ _).alloc (Nat.le_refl _) _).alloc (by simp) _
  have HM : Hid (RowAt ((w.alloc (.cells m.cells 36)).alloc (.cells #[.int .i64 k, .int .i64 n, .int .i64 p] 38)) w.heap.size 36 136 m.cell) := (RowAt.new w _ 136 m.cell).alloc _
  have HA : Hid (World.rangeAt ((w.alloc (.cells m.cells 36)).alloc (.cells #[.int .i64 k, .int .i64 n, .int .i64 p] 38)) (w.heap.size + 1) 0 [.int .i64 k, .int .i64 n, .int .i64 p]) := range3 (by simp [go_sem]) (by simp [go_sem]) (by simp [go_sem])
  have HL : Hid (w.heap.size + 1 < (World.heap ((w.alloc (.cells m.cells 36)).alloc (.cells #[.int .i64 k, .int .i64 n, .int .i64 p] 38))).size) := by show _ < _; simp
  generalize ((w.alloc (.cells m.cells 36)).alloc (.cells #[.int .i64 k, .int .i64 n, .int .i64 p] 38)) = V at *
  refine put_region1 Tryd.call6 Tryd.call7 Tryd.call10 zero_mem HM.out HA.out HL.out H1.out H2.out (fun W _ => HS.out W) ?_
  intro b1 w1 hb1 hge1 hm1
  have HB1 : Hid (Below w.heap.size w w1) := HB.out.trans (hb1.mono HB.out.size)
  have HM1 : Hid (RowAt w1 w.heap.size 36 136 m.cell) := HM.out.to hb1
  have HA1 : Hid (World.rangeAt w1 (w.heap.size + 1) 0 [.int .i64 k, .int .i64 n, .int .i64 p]) := range_to HA.out HL.out hb1
  have HL1 : Hid (w.heap.size + 1 < (World.heap w1).size) := Nat.lt_of_lt_of_le HL.out hb1.size
  have HO1 : Hid (MemAt w1 b1 m') := hm1
  clear hb1 hge1 hm1 HB HM HA HL
  go_upto_region 2 with fail
  refine put_region2 Tryd.call6 Tryd.call7 Tryd.call11 zero_mem HM1.out HA1.out HL1.out H1.out H2.out (fun W h => HI.out W (HT.out.to (HB1.out.trans (h.mono HB1.out.size)))) ?_
  intro b2 w2 hb2 hge2 hm2
  have HB2 : Hid (Below w.heap.size w w2) := HB1.out.trans (hb2.mono HB1.out.size)
  have HO2 : Hid (MemAt w2 b1 m') := HO1.out.to hb2
  have HP2 : Hid (MemAt w2 b2 m') := hm2
  clear hb2 hge2 hm2 HB1 HM1 HA1 HL1 HO1 H1 H2 HS HI
  go_wp2_with (first
    | refine wpList_rowLoad rfl 45 (.tmp 8) rfl _ 0 136 m'.cell rfl HP2.out (by omega) (fun i _ => by rw [Nat.zero_add]) Tryd.underlying45 rfl (by kernel_rfl) ?_
    | refine wpList_rowLoad rfl 45 (.tmp 7) rfl _ 0 136 m'.cell rfl HO2.out (by omega) (fun i _ => by rw [Nat.zero_add]) Tryd.underlying45 rfl (by kernel_rfl) ?_)
  refine (eqMem_any m' m'.r (fun i _ => .inl rfl) HR.out _).mono ?_
  rintro e w3 ⟨rfl, hb3⟩
  have HB3 : Hid (Below w.heap.size w w3) := HB2.out.trans (hb3.mono HB2.out.size)
  clear hb3 HB2 HO2 HP2
  go_wp2
  go_ret
  exact ⟨rfl, HB3.out⟩
end Go.Proofs.YtljhpagpohihcabDoor
