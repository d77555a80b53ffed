/- errors.As at the program's own error: its contracts. Helper text: no statement is claimed here. -/
import Derived.Test.YtlddkhhaclfmiaaGreatDoorProg
import Derived.WalkKit
import Derived.LaidEql
import Derived.Stop.Asserts
import Derived.RowKitTokens
import Derived.Test.YtlddkhhaclfmiaaGreatDoorP16
import Derived.Test.YtlddkhhaclfmiaaGreatDoorP06
import Derived.Test.YtlddkhhaclfmiaaGreatDoorP03
import Derived.Test.YtlddkhhaclfmiaaGreatDoorP04
import Derived.Test.YtlddkhhaclfmiaaGreatDoorP05
namespace Go.Proofs.YtlddkhhaclfmiaaGreatDoor
open Go.RowKit Go.Extern.Stop Go.Stop Go.Extern

/-- errors.As(nil, target). -/
theorem as_nil (t : Value) (w : World) : Calls Tryz.prog 31 #[.nilIface, t] w fun e w' => e = .returned (.bool false) ∧ w' = w := by
  go_enter Tryz.func31, Tryz.ntmps31
  go_wp2
  go_ret
  exact ⟨rfl, rfl⟩

/-! The model's entries for internal/reflectlite, at the type of the target (a pointer to the error's type) and at the error's type. -/
theorem As.valueOf (t : Addr) (w : World) : (ReflectliteValue.unpack (.iface 63 (.pointer (some t)))).run Tryz.prog w
    = .ok (.agg #[.pointer (some ⟨10, 63, none⟩), .pointer (some ⟨w.heap.size, 0, none⟩), .int .u64 150]) (w.alloc (.cells #[.pointer (some t)] 63)) := by kernel_rfl
theorem As.type (a : Addr) (w : World) : (ReflectliteValue.methodAny (ReflectliteValue.valueError "reflectlite.Value.Type" 0) (fun t _ _ _ => ReflectliteType.toType t) #[.agg #[.pointer (some ⟨10, 63, none⟩), .pointer (some a), .int .u64 150]]).run Tryz.prog w
    = .ok (.iface 124 (.agg #[.pointer (some ⟨10, 63, none⟩)])) w := by kernel_rfl
theorem As.kindP (w : World) : ((ReflectliteType.abiMethod fun t => (fun a : Nat => Value.int IntKind.u8 (a : Int)) <$> Rtype.kind t) #[.pointer (some ⟨10, 63, none⟩)]).run Tryz.prog w = .ok (.int .u8 22) w := by kernel_rfl
theorem As.kindE (w : World) : ((ReflectliteType.abiMethod fun t => (fun a : Nat => Value.int IntKind.u8 (a : Int)) <$> Rtype.kind t) #[.pointer (some ⟨10, 61, none⟩)]).run Tryz.prog w = .ok (.int .u8 25) w := by kernel_rfl
theorem As.partsP (a : Addr) (w : World) : (ReflectliteValue.parts (.agg #[.pointer (some ⟨10, 63, none⟩), .pointer (some a), .int .u64 150])).run Tryz.prog w = .ok (some (63, a, 150)) w := by kernel_rfl
theorem As.isNil (a p : Addr) (W : World) (ha : W.cell? a = some (.pointer (some p))) :
    (ReflectliteValue.method (ReflectliteValue.valueError "reflectlite.Value.IsNil" 0) ReflectliteValue.isNil #[.agg #[.pointer (some ⟨10, 63, none⟩), .pointer (some a), .int .u64 150]]).run Tryz.prog W = .ok (.bool false) W := by
  refine Eq.trans (congrArg (fun z : Sem Value => z.run Tryz.prog W) (id rfl : ReflectliteValue.method (ReflectliteValue.valueError "reflectlite.Value.IsNil" 0) ReflectliteValue.isNil #[.agg #[.pointer (some ⟨10, 63, none⟩), .pointer (some a), .int .u64 150]] = (ReflectliteValue.parts (.agg #[.pointer (some ⟨10, 63, none⟩), .pointer (some a), .int .u64 150]) >>= _))) ?_
  simp only [Sem.run_bind, As.partsP, Result.andThen]
  simp [ReflectliteValue.isNil, loadVar, isAgg, underlying, Tryz.underlying63, ha, Result.andThen]
theorem As.methodKind (h : Value) (w : World) : (Go.method 305 124 (.agg #[h]) "Kind").run Tryz.prog w = .ok (161, h) w := by kernel_rfl
theorem As.methodElem (h : Value) (w : World) : (Go.method 305 124 (.agg #[h]) "Elem").run Tryz.prog w = .ok (173, .agg #[h]) w := by kernel_rfl
theorem As.methodImplements (h : Value) (w : World) : (Go.method 305 124 (.agg #[h]) "Implements").run Tryz.prog w = .ok (174, .agg #[h]) w := by kernel_rfl
theorem As.methodAssignableTo (h : Value) (w : World) : (Go.method 305 124 (.agg #[h]) "AssignableTo").run Tryz.prog w = .ok (171, .agg #[h]) w := by kernel_rfl
theorem As.elem (w : World) : (ReflectliteType.method ReflectliteType.elem #[.agg #[.pointer (some ⟨10, 63, none⟩)]]).run Tryz.prog w = .ok (.iface 124 (.agg #[.pointer (some ⟨10, 61, none⟩)])) w := by kernel_rfl
theorem As.implementsE (w : World) : (ReflectliteType.relation "Implements" ReflectliteType.implements_ #[.agg #[.pointer (some ⟨10, 61, none⟩)], .iface 124 (.agg #[.pointer (some ⟨10, 57, none⟩)])]).run Tryz.prog w = .ok (.bool true) w := by kernel_rfl
theorem As.typeOf (v : Value) (w : World) : (ReflectliteType.typeOf #[.iface 61 v]).run Tryz.prog w = .ok (.iface 124 (.agg #[.pointer (some ⟨10, 61, none⟩)])) w := by kernel_rfl
theorem As.assignable (w : World) : (ReflectliteType.relation "AssignableTo" ReflectliteType.assignableTo #[.agg #[.pointer (some ⟨10, 61, none⟩)], .iface 124 (.agg #[.pointer (some ⟨10, 61, none⟩)])]).run Tryz.prog w = .ok (.bool true) w := by kernel_rfl
theorem As.valueOfE (s : ByteArray) (w : World) : (ReflectliteValue.unpack (.iface 61 (.agg #[.string s]))).run Tryz.prog w
    = .ok (.agg #[.pointer (some ⟨10, 61, none⟩), .pointer (some ⟨w.heap.size, 0, none⟩), .int .u64 153]) (w.alloc (.cells #[.string s] 61)) := by kernel_rfl
theorem As.elemOf (w : World) : (Rtype.elem? 63).run Tryz.prog w = .ok (some 61) w := by kernel_rfl
theorem As.mkE (p : Addr) (w : World) : (ReflectliteValue.mk 61 p ReflectliteValue.flagAddr).run Tryz.prog w = .ok (.agg #[.pointer (some ⟨10, 61, none⟩), .pointer (some p), .int .u64 409]) w := by kernel_rfl
theorem As.elemV (a p : Addr) (W : World) (ha : W.cell? a = some (.pointer (some p))) :
    (ReflectliteValue.method (ReflectliteValue.valueError "reflectlite.Value.Elem" 0) ReflectliteValue.elem #[.agg #[.pointer (some ⟨10, 63, none⟩), .pointer (some a), .int .u64 150]]).run Tryz.prog W
      = .ok (.agg #[.pointer (some ⟨10, 61, none⟩), .pointer (some p), .int .u64 409]) W := by
  refine Eq.trans (congrArg (fun z : Sem Value => z.run Tryz.prog W) (id rfl : ReflectliteValue.method (ReflectliteValue.valueError "reflectlite.Value.Elem" 0) ReflectliteValue.elem #[.agg #[.pointer (some ⟨10, 63, none⟩), .pointer (some a), .int .u64 150]] = (ReflectliteValue.parts (.agg #[.pointer (some ⟨10, 63, none⟩), .pointer (some a), .int .u64 150]) >>= _))) ?_
  simp only [Sem.run_bind, As.partsP, Result.andThen]
  simp [ReflectliteValue.elem, loadVar, isAgg, underlying, Tryz.underlying63, ha, Result.andThen, As.elemOf, As.mkE]
theorem As.partsEa (a : Addr) (w : World) : (ReflectliteValue.parts (.agg #[.pointer (some ⟨10, 61, none⟩), .pointer (some a), .int .u64 409])).run Tryz.prog w = .ok (some (61, a, 409)) w := by kernel_rfl
theorem As.partsE (a : Addr) (w : World) : (ReflectliteValue.parts (.agg #[.pointer (some ⟨10, 61, none⟩), .pointer (some a), .int .u64 153])).run Tryz.prog w = .ok (some (61, a, 153)) w := by kernel_rfl
theorem As.direct (w : World) : (Rtype.directlyAssignable 61 61).run Tryz.prog w = .ok true w := by kernel_rfl
theorem As.set (ta b : Addr) (s : ByteArray) (old : Value) (W : World) (hb : W.cell? b = some (.string s)) (ht : W.cell? ta = some old) (hf : W.frozen? ta = false) :
    (ReflectliteValue.set #[.agg #[.pointer (some ⟨10, 61, none⟩), .pointer (some ta), .int .u64 409], .agg #[.pointer (some ⟨10, 61, none⟩), .pointer (some b), .int .u64 153]]).run Tryz.prog W
      = .ok (.tuple #[]) (W.setCell ta (.string s)) := by
  refine Eq.trans (congrArg (fun z : Sem Value => z.run Tryz.prog W) (id rfl : ReflectliteValue.set #[.agg #[.pointer (some ⟨10, 61, none⟩), .pointer (some ta), .int .u64 409], .agg #[.pointer (some ⟨10, 61, none⟩), .pointer (some b), .int .u64 153]] = (ReflectliteValue.parts (.agg #[.pointer (some ⟨10, 61, none⟩), .pointer (some ta), .int .u64 409]) >>= fun _ => ReflectliteValue.parts (.agg #[.pointer (some ⟨10, 61, none⟩), .pointer (some b), .int .u64 153]) >>= _))) ?_
  simp only [Sem.run_bind, As.partsEa, As.partsE, Result.andThen]
  have hl : (loadCells b 1).run Tryz.prog W = .ok #[.string s] W := by
    simp [loadCells, loadCellsFrom, Addr.add, hb, Result.andThen]
  simp [ReflectliteValue.flagAddr, loadVar, isAgg, underlying, Tryz.underlying61, hl, Result.andThen, As.direct, storeVar, Value.cells, storeCells, Addr.add]
  rw [run_store Tryz.prog W ta _ _ (by rfl)]
  simp [ht, hf]

set_option maxRecDepth 100000 in
set_option maxHeartbeats 4000000 in
/-- errors.As at the program's own error: true, and the target holds it; four new blocks. -/
theorem as_hit (s : ByteArray) (t : Addr) (old : Value) (w : World) (hg : w.cell? ⟨1, 0, none⟩ = some (.iface 124 (.agg #[.pointer (some ⟨10, 57, none⟩)]))) (ht0 : w.cell? t = some old) (hf0 : w.frozen? t = false) :
    Calls Tryz.prog 31 #[.iface 61 (.agg #[.string s]), .iface 63 (.pointer (some t))] w fun ev w' => ev = .returned (.bool true) ∧ w' = ((((w.alloc (.cells #[.pointer (some t)] 63)).alloc (.cells #[.pointer (some ⟨10, 63, none⟩), .pointer (some ⟨w.heap.size, 0, none⟩), .int .u64 150] 93)).alloc (.cells #[.pointer (some ⟨10, 63, none⟩), .pointer (some ⟨w.heap.size, 0, none⟩), .int .u64 150] 93)).alloc (.cells #[.string s] 61)).setCell t (.string s) := by
  have h6 := @run_callFunc_extern Tryz.prog 77 _ (fun args => ReflectliteValue.unpack (args.getD 0 (.tuple #[]))) Tryz.func77 (by kernel_rfl) (by kernel_rfl) (by kernel_rfl) (by kernel_rfl)
  have h7 := @run_callFunc_extern Tryz.prog 78 _ (ReflectliteValue.methodAny (ReflectliteValue.valueError "reflectlite.Value.Type" 0) (fun t _ _ _ => ReflectliteType.toType t)) Tryz.func78 (by kernel_rfl) (by kernel_rfl) (by kernel_rfl) (by kernel_rfl)
  have h8 := @run_callFunc_extern Tryz.prog 79 _ (ReflectliteValue.method (ReflectliteValue.valueError "reflectlite.Value.IsNil" 0) ReflectliteValue.isNil) Tryz.func79 (by kernel_rfl) (by kernel_rfl) (by kernel_rfl) (by kernel_rfl)
  have h27 := @run_callFunc_extern Tryz.prog 161 _ (ReflectliteType.abiMethod fun t => do pure (.int .u8 (← Rtype.kind t))) Tryz.func161 (by kernel_rfl) (by kernel_rfl) (by kernel_rfl) (by kernel_rfl)
  have h37 := @run_callFunc_extern Tryz.prog 173 _ (ReflectliteType.method ReflectliteType.elem) Tryz.func173 (by kernel_rfl) (by kernel_rfl) (by kernel_rfl) (by kernel_rfl)
  have h38 := @run_callFunc_extern Tryz.prog 174 _ (ReflectliteType.relation "Implements" ReflectliteType.implements_) Tryz.func174 (by kernel_rfl) (by kernel_rfl) (by kernel_rfl) (by kernel_rfl)
  have h10 := @run_callFunc_extern Tryz.prog 105 _ ReflectliteType.typeOf Tryz.func105 (by kernel_rfl) (by kernel_rfl) (by kernel_rfl) (by kernel_rfl)
  have h35 := @run_callFunc_extern Tryz.prog 171 _ (ReflectliteType.relation "AssignableTo" ReflectliteType.assignableTo) Tryz.func171 (by kernel_rfl) (by kernel_rfl) (by kernel_rfl) (by kernel_rfl)
  have h11 := @run_callFunc_extern Tryz.prog 106 _ (ReflectliteValue.method (ReflectliteValue.valueError "reflectlite.Value.Elem" 0) ReflectliteValue.elem) Tryz.func106 (by kernel_rfl) (by kernel_rfl) (by kernel_rfl) (by kernel_rfl)
  have h12 := @run_callFunc_extern Tryz.prog 107 _ ReflectliteValue.set Tryz.func107 (by kernel_rfl) (by kernel_rfl) (by kernel_rfl) (by kernel_rfl)
  have tO := As.typeOf
  have mA := As.methodAssignableTo
  have a25 := As.assignable
  have v25 := As.valueOfE
  have f6 := As.valueOf
  have f7 := As.type
  have mK := As.methodKind
  have mE := As.methodElem
  have mI := As.methodImplements
  have k27 := As.kindP
  have k25 := As.kindE
  have e27 := As.elem
  have i25 := As.implementsE
  have n8 := As.isNil ⟨w.heap.size, 0, none⟩ t ((w.alloc (.cells #[.pointer (some t)] 63)).alloc (.cells #[.pointer (some ⟨10, 63, none⟩), .pointer (some ⟨w.heap.size, 0, none⟩), .int .u64 150] 93)) (by simp)
  have hlt : 1 < w.heap.size := World.block_lt_of_cell? w ⟨1, 0, none⟩ hg
  have hg2 : ((w.alloc (.cells #[.pointer (some t)] 63)).alloc (.cells #[.pointer (some ⟨10, 63, none⟩), .pointer (some ⟨w.heap.size, 0, none⟩), .int .u64 150] 93)).cell? ⟨1, 0, none⟩ = some (.iface 124 (.agg #[.pointer (some ⟨10, 57, none⟩)])) := by
    rw [World.cell?_alloc_lt _ _ ⟨1, 0, none⟩ (by simp <;> omega), World.cell?_alloc_lt _ _ ⟨1, 0, none⟩ hlt]; exact hg
  have htl : t.block < w.heap.size := World.block_lt_of_cell? w t ht0
  have el := As.elemV ⟨w.heap.size, 0, none⟩ t (((w.alloc (.cells #[.pointer (some t)] 63)).alloc (.cells #[.pointer (some ⟨10, 63, none⟩), .pointer (some ⟨w.heap.size, 0, none⟩), .int .u64 150] 93)).alloc (.cells #[.pointer (some ⟨10, 63, none⟩), .pointer (some ⟨w.heap.size, 0, none⟩), .int .u64 150] 93)) (by rw [World.cell?_alloc_lt _ _ ⟨w.heap.size, 0, none⟩ (by simp; omega)]; simp)
  have st := As.set t ⟨w.heap.size + 1 + 1 + 1, 0, none⟩ s old ((((w.alloc (.cells #[.pointer (some t)] 63)).alloc (.cells #[.pointer (some ⟨10, 63, none⟩), .pointer (some ⟨w.heap.size, 0, none⟩), .int .u64 150] 93)).alloc (.cells #[.pointer (some ⟨10, 63, none⟩), .pointer (some ⟨w.heap.size, 0, none⟩), .int .u64 150] 93)).alloc (.cells #[.string s] 61))
    (by rw [World.cell?_alloc_at _ _ _ _ (by simp)]; rfl)
    (by rw [World.cell?_alloc_lt _ _ t (by simp; omega), World.cell?_alloc_lt _ _ t (by simp; omega), World.cell?_alloc_lt _ _ t (by simp; omega), World.cell?_alloc_lt _ _ t htl]; exact ht0)
    (by rw [World.frozen?_alloc_old _ _ t (by simp; omega), World.frozen?_alloc_old _ _ t (by simp; omega), World.frozen?_alloc_old _ _ t (by simp; omega), World.frozen?_alloc_old _ _ t (Nat.ne_of_lt htl)]; exact hf0)
  go_enter Tryz.func31, Tryz.ntmps31
  go_wp2
  refine wp_loop_rounds 1 ?_
  rw [rounds_succ]
  go_wp2
  go_ret
  exact ⟨rfl, rfl⟩
end Go.Proofs.YtlddkhhaclfmiaaGreatDoor

/- The program's ElemRead. Helper text: no statement is claimed here. -/
namespace Go.Proofs.YtlddkhhaclfmiaaGreatDoor
open Go.ChangeShapes Go.WideShapes Go.ChangeAt Go.RowKit

/-- The cell of errors.errorType. -/
def ErrT (w : World) : Prop := w.cell? ⟨1, 0, none⟩ = some (.iface 124 (.agg #[.pointer (some ⟨10, 57, none⟩)]))
theorem ErrT.to {w w' : World} (h : ErrT w) (hb : Below w.heap.size w w') : ErrT w' := (hb.cell (p := ⟨1, 0, none⟩) (World.block_lt_of_cell? w ⟨1, 0, none⟩ h)).trans h
/-- The cell of bytealg.MaxLen. -/
def MaxT (w : World) : Prop := ∃ m, w.cell? ⟨4, 0, none⟩ = some (.int .i64 m)
theorem MaxT.to {w w' : World} (h : MaxT w) (hb : Below w.heap.size w w') : MaxT w' := by
  obtain ⟨m, h⟩ := h
  exact ⟨m, (hb.cell (p := ⟨4, 0, none⟩) (World.block_lt_of_cell? w ⟨4, 0, none⟩ h)).trans h⟩

theorem as_yes (s : ByteArray) (t B : Nat) (old : Value) (w : World) (hg : ErrT w) (h0 : w.cell? ⟨t, 0, none⟩ = some old) (hf : w.frozen? ⟨t, 0, none⟩ = false) (hB : B ≤ t) :
    Calls Tryz.prog 31 #[.iface 61 (.agg #[.string s]), .iface 63 (.pointer (some ⟨t, 0, none⟩))] w fun e w' => e = .returned (.bool true) ∧ Below B w w' := by
  have hlt : t < w.heap.size := World.block_lt_of_cell? w ⟨t, 0, none⟩ h0
  refine (as_hit s ⟨t, 0, none⟩ old w hg h0 hf).mono ?_
  rintro e w' ⟨rfl, rfl⟩
  refine ⟨rfl, Below.setCell (p := ⟨t, 0, none⟩) ?_ hB _⟩
  exact (((((Below.refl _ w).alloc (by omega) _).alloc (by simp; omega) _).alloc (by simp; omega) _).alloc (by simp; omega) _)

theorem eT_row {i : Nat} {ys : List Ar} (hi : i < 38) (h : okA i ys = true) : eT (i : Int) ys = ah i ++ Lib.join (ys.map tx) (bt i) := by
  unfold eT
  rw [ez_nat i hi, if_pos h]
theorem none_of {t : List UInt8} (h : ∀ i, 1 ≤ i → i < 38 → ∀ ys, okA i ys = true → t ≠ ah i ++ Lib.join (ys.map tx) (bt i)) : ∀ op ys, okA (ez op) ys = true → t ≠ eT op ys := by
  intro op ys hk
  obtain ⟨i, rfl, e, hi, hr⟩ := okA_op hk
  rw [e] at hk
  rw [eT_row hi hk]
  exact h i (by omega) hi ys hk

set_option maxRecDepth 100000 in
set_option maxHeartbeats 2000000 in
theorem ireadE_any (s : ByteArray) (w : World) (hs : s.size ≤ 1500000) (hT : Tabs w) (hC : CmpTab w) (hM : MaxT w) (hE : ErrT w) :
    Calls Tryz.prog 10 #[.string s] w (ReadE s.data.toList w) := by
  have HT : Hid (Tabs w) := hT
  have HC : Hid (CmpTab w) := hC
  have HM : Hid (MaxT w) := hM
  have HE : Hid (ErrT w) := hE
  have HO : Hid (Own2 (w.alloc (.cells #[.int .i64 0, .slice none 0 0] 25)) w.heap.size (.int .i64 0) (.slice none 0 0)) := Own2.new w _ _
  clear hT hC hM hE
  go_enter Tryz.func10, Tryz.ntmps10
  go_wp2
  go_loopw [4] (fun o w' => ∃ j : Nat, 1 ≤ j ∧ j ≤ 38 ∧ o = .int .i64 (j : Int) ∧ w.heap.size < w'.heap.size ∧ Hid (Below w.heap.size w w') ∧ Hid (Own2 w' w.heap.size (.int .i64 0) (.slice none 0 0)) ∧ Hid (∀ i, 1 ≤ i → i < j → ∀ ys, okA i ys = true → s.data.toList ≠ ah i ++ Lib.join (ys.map tx) (bt i))) (fun o _ => 38 - (intOf o).toNat)
  case atStart => exact ⟨1, by omega, by omega, rfl, by simp, one _ _, HO, fun i h1 h2 => by omega⟩
  case round =>
    obtain ⟨j, hj1, hj38, rfl, hsz, HB, HOr, HN⟩ := hrel
    rename_i wr
    clear HO
    by_cases hlt : j ≤ 37
    · have hlt' : (j : Int) ≤ 37 := by omega
      go_wp2_with fail
      refine (erowV_any (j : Int) _).mono ?_
      rintro e w1 ⟨rfl, hb1⟩
      rw [ez_nat j (by omega)]
      have HB1 : Hid (Below w.heap.size w w1) := HB.out.trans (hb1.mono HB.out.size)
      have HO1 : Hid (Own2 w1 w.heap.size (.int .i64 0) (.slice none 0 0)) := HOr.out.below hb1
      clear hb1
      obtain ⟨m, hm⟩ := HM.out.to HB1.out
      go_wp2_with fail
      refine (eargs_any j s _ hs (HT.out.to HB1.out) (HC.out.to HB1.out) m hm).mono ?_
      rintro e w2 ⟨hb2, (⟨ys, g, cap, rfl, hok, ht, hrow, hg⟩ | ⟨bad, rfl, hno⟩)⟩
      · have HB2 : Hid (Below w.heap.size w w2) := HB1.out.trans (hb2.mono HB1.out.size)
        have HO2 : Hid (Own2 w2 w.heap.size (.int .i64 0) (.slice none 0 0)) := HO1.out.below hb2
        have HK : Hid (okA j ys = true ∧ s.data.toList = ah j ++ Lib.join (ys.map tx) (bt j)) := ⟨hok, ht⟩
        have HR : Hid (ARow w2 g cap ys) := hrow
        have hgz : w.heap.size < g := Nat.lt_of_lt_of_le HO1.out.lt hg
        clear hb2 hok ht hrow hm
        go_wp2_with fail
        refine (as_nil _ _).mono ?_
        rintro e w3 ⟨rfl, rfl⟩
        have on := HO2.out.alloc (.cells #[.string ⟨#[]⟩] 61)
        have on2 := on
        obtain ⟨⟨r0, r1⟩, y0, y1⟩ := on2
        go_wp2
        refine bodyPost_ret (v := .tuple #[.agg #[.int .i64 (j : Int), .slice (some ⟨g, 0, none⟩) ys.length cap], .bool true]) (resElemB Tryz.results10 rfl rfl (on.put _ _).1) rfl ⟨?_, .inl ⟨(j : Int), ys, g, cap, rfl, ?_, ?_, ?_, by omega⟩⟩
        · exact ((HB2.out.alloc HB2.out.size _).setCell (Nat.le_refl _) _).setCell (Nat.le_refl _) _
        · rw [ez_nat j (by omega)]; exact HK.out.1
        · rw [eT_row (by omega) HK.out.1]; exact HK.out.2
        · exact ((HR.out.to (one _ _)).set (Nat.ne_of_gt hgz)).set (Nat.ne_of_gt hgz)
      · have HB2 : Hid (Below w.heap.size w w2) := HB1.out.trans (hb2.mono HB1.out.size)
        have HO2 : Hid (Own2 w2 w.heap.size (.int .i64 0) (.slice none 0 0)) := HO1.out.below hb2
        have HK : Hid (∀ ys, okA j ys = true → s.data.toList ≠ ah j ++ Lib.join (ys.map tx) (bt j)) := hno
        have hz2 := HO2.out.lt
        clear hb2 hno hm
        have HB3 : Hid (∀ o, Below w.heap.size w (w2.alloc o)) := fun o => HB2.out.alloc HB2.out.size o
        have HO3 : Hid (∀ o, Own2 (w2.alloc o) w.heap.size (.int .i64 0) (.slice none 0 0)) := fun o => HO2.out.alloc o
        go_wp2_with fail
        refine (as_yes bad w2.heap.size w2.heap.size _ _ (HE.out.to (HB3.out _)) (World.cell?_alloc_mark _ _ _ _ _) (by simp) (Nat.le_refl _)).mono ?_
        rintro e w4 ⟨rfl, hb4⟩
        have HB4 : Hid (Below w.heap.size w w4) := (HB3.out _).trans (hb4.mono (Nat.le_of_lt hz2))
        have HO4 : Hid (Own2 w4 w.heap.size (.int .i64 0) (.slice none 0 0)) := (HO3.out _).in hb4 hz2
        have hz4 := HO4.out.lt
        clear hb4
        go_wp2
        go_roundw
        case rel => exact ⟨j + 1, by omega, by omega, by go_num, hz4, HB4, HO4, fun i h1 h2 ys hk => by
          by_cases e : i = j
          · subst e; exact HK.out ys hk
          · exact HN.out i h1 (by omega) ys hk⟩
        case measure => simp [intOf]; omega
    · obtain rfl : j = 38 := by omega
      have on := HOr.out
      have on2 := on
      obtain ⟨⟨r0, r1⟩, y0, y1⟩ := on2
      go_wp2
      exact bodyPost_ret (v := .tuple #[.agg #[.int .i64 0, .slice none 0 0], .bool false]) (resElemB Tryz.results10 rfl rfl (on.put _ _).1) rfl ⟨(HB.out.setCell (Nat.le_refl _) _).setCell (Nat.le_refl _) _, .inr ⟨rfl, none_of HN.out⟩⟩
end Go.Proofs.YtlddkhhaclfmiaaGreatDoor

/- The comparing of contacts and coils in the exact laws. Helper text: no statement is claimed here. -/
namespace Go.Proofs.YtlddkhhaclfmiaaGreatDoor
open Go.ChangeShapes Go.WideShapes Go.ChangeAt Go.RowKit

set_option maxHeartbeats 400000 in
theorem eqArg_any (k n p : Int) (w : World) :
    Calls Tryz.prog 82 #[.agg #[.int .i64 k, .int .i64 n, .int .i64 p], .agg #[.int .i64 k, .int .i64 n, .int .i64 p]] w fun e w' => e = .returned (.bool true) ∧ Below w.heap.size w w' := by
  go_enter Tryz.func82, Tryz.ntmps82
  go_wp2
  go_ret
  exact ⟨rfl, (one _ _).alloc (by simp) _⟩
theorem grownEq {k n p : Int} {w : World} (d : Nat) (os : Array Obj) :
    Calls Tryz.prog 82 #[.agg #[.int .i64 k, .int .i64 n, .int .i64 p], .agg #[.int .i64 k, .int .i64 n, .int .i64 p]] (Sort.grow (redrawn w d) os) fun e w'' => e = .returned (.bool true) ∧ ∃ p' : Regrown, w'' = Sort.grow (redrawn w p'.d) p'.os :=
  Calls.regrown_of (eqArg_any k n p _)

set_option maxHeartbeats 1000000 in
theorem eqArgs_any (ys : List Ar) (b1 b2 cap1 cap2 : Nat) (w : World) (h1 : ArgsAt w b1 ys) (hl1 : b1 < w.heap.size) (h2 : ArgsAt w b2 ys) (hl2 : b2 < w.heap.size) (_hc1 : ys.length ≤ cap1) (_hc2 : ys.length ≤ cap2) (hbd : ys.length ≤ 1048576) :
    Calls Tryz.prog 35 #[.slice (some ⟨b1, 0, none⟩) ys.length cap1, .slice (some ⟨b2, 0, none⟩) ys.length cap2] w fun e w' => e = .returned (.bool true) ∧ Below w.heap.size w w' := by
  have H1 : Hid (ArgsAt w b1 ys) := h1
  have H2 : Hid (ArgsAt w b2 ys) := h2
  clear h1 h2
  go_enter Tryz.func35, Tryz.ntmps35
  go_wp2
  go_loopw [5] (fun c w' => ∃ j : Nat, j ≤ ys.length ∧ c = .int .i64 (j : Int) ∧ Hid (Below w.heap.size w w')) (fun c _ => ys.length - (intOf c).toNat)
  case atStart => exact ⟨0, by omega, rfl, Below.refl _ _⟩
  case round =>
    obtain ⟨j, hj, rfl, HBr⟩ := hrel
    rename_i wr
    by_cases hlt : j < ys.length
    · have hlt' : (j : Int) < (ys.length : Int) := by omega
      obtain ⟨a0, a1, a2⟩ := (H1.out.to hl1 HBr.out) j hlt
      obtain ⟨d0, d1, d2⟩ := (H2.out.to hl2 HBr.out) j hlt
      generalize (at3 ys j).1 = k at *
      generalize (at3 ys j).2.1 = n at *
      generalize (at3 ys j).2.2 = p at *
      have k0 := cell_regrown a0
      have k1 := cell_regrown a1
      have k2 := cell_regrown a2
      have k3 := cell_regrown d0
      have k4 := cell_regrown d1
      have k5 := cell_regrown d2
      go_wp2
      refine wp_region_quiet_below (by kernel_rfl) (by kernel_rfl) ?_
      repeat (first | go_big_quiet_step (exact grownEq _ _) | quiet_step (exact grownEq _ _))
      refine wpQuiet_nil ?_
      intro _ hw'
      obtain ⟨⟨dq, osq⟩, hw''⟩ := hw'
      subst hw''
      have HBq : Hid (Below w.heap.size w (Sort.grow (redrawn wr dq) osq)) := HBr.out.trans ((below_regrown _ dq osq).mono HBr.out.size)
      clear k0 k1 k2 k3 k4 k5 a0 a1 a2 d0 d1 d2
      generalize Sort.grow (redrawn wr dq) osq = wq at *
      go_wp2
      exact ⟨⟨j + 1, by omega, by go_num, HBq⟩, by simp [intOf]; omega⟩
    · obtain rfl : j = ys.length := by omega
      go_wp2
      go_ret
      exact ⟨rfl, HBr.out⟩

set_option maxHeartbeats 1000000 in
theorem eqElem_any (op : Int) (ys : List Ar) (b1 b2 cap1 cap2 : Nat) (w : World) (h1 : ArgsAt w b1 ys) (hl1 : b1 < w.heap.size) (h2 : ArgsAt w b2 ys) (hl2 : b2 < w.heap.size) (hc1 : ys.length ≤ cap1) (hc2 : ys.length ≤ cap2) (hbd : ys.length ≤ 1048576) :
    Calls Tryz.prog 14 #[.agg #[.int .i64 op, .slice (some ⟨b1, 0, none⟩) ys.length cap1], .agg #[.int .i64 op, .slice (some ⟨b2, 0, none⟩) ys.length cap2]] w fun e w' => e = .returned (.bool true) ∧ Below w.heap.size w w' := by
  have H1 : Hid (ArgsAt w b1 ys) := h1
  have H2 : Hid (ArgsAt w b2 ys) := h2
  clear h1 h2
  go_enter Tryz.func14, Tryz.ntmps14
  go_wp2_with fail
  refine (eqArgs_any ys b1 b2 cap1 cap2 _ (H1.out.to hl1 ((one _ _).alloc (by simp) _)) (by simp; omega) (H2.out.to hl2 ((one _ _).alloc (by simp) _)) (by simp; omega) hc1 hc2 hbd).mono ?_
  rintro e w1 ⟨rfl, hb1⟩
  go_wp2
  go_ret
  exact ⟨rfl, of_one (of_one hb1)⟩
end Go.Proofs.YtlddkhhaclfmiaaGreatDoor

/- The marks that an exact law sets into an answer, and looks for again: markElem, heldElem; equal answers without operands. Helper text: no statement is claimed here. -/
namespace Go.Proofs.YtlddkhhaclfmiaaGreatDoor
open Go.ChangeShapes Go.WideShapes Go.ChangeAt Go.RowKit

/-- The marks of n operands, from 1 on. -/
def mark (j : Nat) : Ar := (1 + 3 * (j : Int), 1 + 3 * (j : Int) + 1, 1 + 3 * (j : Int) + 1 + 1)
def marked (ys : List Ar) (j : Nat) : List Ar := (List.range j).map mark ++ ys.drop j
theorem marked_len {ys : List Ar} {j : Nat} (h : j ≤ ys.length) : (marked ys j).length = ys.length := by simp [marked]; omega
theorem marked_succ {ys : List Ar} {j : Nat} (h : j < ys.length) : (marked ys j).set j (mark j) = marked ys (j + 1) := by
  unfold marked
  rw [List.set_append_right _ _ (by simp), List.range_succ, List.map_append, List.append_assoc]
  simp only [List.length_map, List.length_range, Nat.sub_self, List.map_cons, List.map_nil]
  simp
  rw [List.drop_eq_getElem_cons h]
  rfl
theorem marked_at {ys : List Ar} {n j : Nat} (h : j < n) : at3 (marked ys n) j = mark j := by
  simp [at3, marked, List.getD, List.getElem?_append, h]
/-- Nothing but block g has turned. -/
theorem grown_set {W W' : World} {g : Nat} (h : W.grownBy W' (some g)) (i : Nat) (v : Value) : W.grownBy (W'.setCell ⟨g, i, none⟩ v) (some g) :=
  ⟨h.os, h.tape, h.output, by simpa [World.setCell] using h.size, fun k hk hr => (Below.heap_setCell _ _ _ _ (fun e => hr (by rw [e]))).trans (h.block k hk hr)⟩
theorem grown_refl (W : World) (g : Nat) : W.grownBy W (some g) := ⟨rfl, rfl, rfl, Nat.le_refl _, fun _ _ _ => rfl⟩

set_option maxHeartbeats 1000000 in
theorem markArgs_any (g cap : Nat) (ys : List Ar) (W : World) (row : ARow W g cap ys) (hl : ys.length ≤ 2000000) :
    Calls Tryz.prog 36 #[.slice (some ⟨g, 0, none⟩) ys.length cap, .int .i64 1] W fun e w' => e = .returned (.int .i64 (1 + 3 * (ys.length : Int))) ∧ ARow w' g cap (marked ys ys.length) ∧ W.grownBy w' (some g) := by
  have HR : Hid (ARow W g cap (marked ys 0)) := by show ARow W g cap (marked ys 0); simpa [marked] using row
  clear row
  go_enter Tryz.func36, Tryz.ntmps36
  go_wp2
  go_loopw [1, 5] (fun k i w' => ∃ j : Nat, j ≤ ys.length ∧ i = .int .i64 (j : Int) ∧ k = .int .i64 (1 + 3 * (j : Int)) ∧ Hid (ARow w' g cap (marked ys j)) ∧ Hid (W.grownBy w' (some g))) (fun _ i _ => ys.length - (intOf i).toNat)
  case atStart => exact ⟨0, by omega, rfl, rfl, HR, grown_refl _ _⟩
  case round =>
    obtain ⟨j, hj, rfl, rfl, HA, HG⟩ := hrel
    rename_i wr
    clear HR
    by_cases hlt : j < ys.length
    · have hlt' : (j : Int) < (ys.length : Int) := by omega
      obtain ⟨a0, a1, a2⟩ := HA.out.args j (by rw [marked_len hj]; exact hlt)
      have f0 := HA.out.free (j * 3)
      have f1 := HA.out.free (j * 3 + 1)
      have f2 := HA.out.free (j * 3 + 2)
      have hP := HA.out.put (k := j) (by rw [marked_len hj]; exact hlt) (mark j).1 (mark j).2.1 (mark j).2.2
      rw [show ((mark j).1, (mark j).2.1, (mark j).2.2) = mark j from rfl, marked_succ hlt] at hP
      have HP : Hid (ARow _ g cap (marked ys (j + 1))) := hP
      clear hP
      go_wp2
      go_roundw
      case rel => exact ⟨j + 1, by omega, by go_num, by go_num, HP, grown_set (grown_set (grown_set HG.out _ _) _ _) _ _⟩
      case measure => simp [intOf]; omega
    · obtain rfl : j = ys.length := by omega
      go_wp2
      go_ret
      exact ⟨rfl, HA.out, HG.out⟩

set_option maxHeartbeats 1000000 in
theorem heldArgs_any (g cap : Nat) (ys : List Ar) (W : World) (row : ARow W g cap (marked ys ys.length)) (hl : ys.length ≤ 2000000) :
    Calls Tryz.prog 37 #[.slice (some ⟨g, 0, none⟩) ys.length cap, .int .i64 1] W fun e w' => e = .returned (.int .i64 (1 + 3 * (ys.length : Int))) ∧ w' = W := by
  have HR : Hid (ARow W g cap (marked ys ys.length)) := row
  clear row
  go_enter Tryz.func37, Tryz.ntmps37
  go_wp2
  go_loopw [1, 5] (fun k i w' => ∃ j : Nat, j ≤ ys.length ∧ i = .int .i64 (j : Int) ∧ k = .int .i64 (1 + 3 * (j : Int)) ∧ w' = W) (fun _ i _ => ys.length - (intOf i).toNat)
  case atStart => exact ⟨0, by omega, rfl, rfl, rfl⟩
  case round =>
    obtain ⟨j, hj, rfl, rfl, rfl⟩ := hrel
    by_cases hlt : j < ys.length
    · have hlt' : (j : Int) < (ys.length : Int) := by omega
      obtain ⟨a0, a1, a2⟩ := HR.out.args j (by rw [marked_len (Nat.le_refl _)]; exact hlt)
      rw [marked_at hlt] at a0 a1 a2
      simp only [mark] at a0 a1 a2
      go_wp2
      go_roundw
      case rel => exact ⟨j + 1, by omega, by go_num, by go_num, by trivial⟩
      case measure => simp [intOf]; omega
    · obtain rfl : j = ys.length := by omega
      go_wp2
      go_ret
      exact ⟨rfl, rfl⟩

set_option maxHeartbeats 400000 in
theorem markElem_any (op : Int) (g cap : Nat) (ys : List Ar) (W : World) (row : ARow W g cap ys) (hl : ys.length ≤ 2000000) :
    Calls Tryz.prog 15 #[elemV op (some ⟨g, 0, none⟩) ys.length cap, .int .i64 1] W fun e w' => e = .returned (.int .i64 (1 + 3 * (ys.length : Int))) ∧ ARow w' g cap (marked ys ys.length) ∧ W.grownBy w' (some g) := by
  have HR : Hid (∀ o, ARow (W.alloc o) g cap ys) := fun o => row.to (one _ _)
  have hlt := row.lt
  clear row
  go_enter Tryz.func15, Tryz.ntmps15
  go_wp2_with fail
  refine (markArgs_any g cap ys _ (HR.out _) hl).mono ?_
  rintro e w1 ⟨rfl, hrow, hg⟩
  have HRow : Hid (ARow w1 g cap (marked ys ys.length)) := hrow
  have HG : Hid (W.grownBy w1 (some g)) := ⟨hg.os, hg.tape, hg.output, Nat.le_trans (by simp) hg.size, fun k hk hr => (hg.block k (by simp; omega) hr).trans (Below.heap_alloc _ _ _ hk)⟩
  clear hrow hg
  go_wp2
  go_ret
  exact ⟨rfl, HRow.out, HG.out⟩
set_option maxHeartbeats 400000 in
theorem heldElem_any (op : Int) (g cap : Nat) (ys : List Ar) (W : World) (row : ARow W g cap (marked ys ys.length)) (hl : ys.length ≤ 2000000) :
    Calls Tryz.prog 16 #[elemV op (some ⟨g, 0, none⟩) ys.length cap, .int .i64 1] W fun e w' => e = .returned (.int .i64 (1 + 3 * (ys.length : Int))) ∧ Below W.heap.size W w' := by
  have HR : Hid (∀ o, ARow (W.alloc o) g cap (marked ys ys.length)) := fun o => row.to (one _ _)
  have h0 : ¬ (1 + 3 * (ys.length : Int)) < 0 := by omega
  clear row
  go_enter Tryz.func16, Tryz.ntmps16
  go_wp2_with fail
  refine (heldArgs_any g cap ys _ (HR.out _) hl).mono ?_
  rintro e w1 ⟨rfl, rfl⟩
  go_wp2
  go_ret
  exact ⟨rfl, one _ _⟩

/-! The same at an answer that is nothing. -/
set_option maxHeartbeats 400000 in
theorem markNil_any (W : World) : Calls Tryz.prog 15 #[elemV 0 none 0 0, .int .i64 1] W fun e w' => e = .returned (.int .i64 1) ∧ Below W.heap.size W w' := by
  have hM : ∀ V, Calls Tryz.prog 36 #[.slice none 0 0, .int .i64 1] V fun e w' => e = .returned (.int .i64 1) ∧ w' = V := fun V => by
    go_enter Tryz.func36, Tryz.ntmps36
    go_wp2
    refine wp_loop_rounds 1 ?_
    rw [rounds_succ]
    go_wp2
    go_ret
    exact ⟨rfl, rfl⟩
  have HM : Hid _ := hM
  clear hM
  go_enter Tryz.func15, Tryz.ntmps15
  go_wp2_with fail
  refine (HM.out _).mono ?_
  rintro e w1 ⟨rfl, rfl⟩
  go_wp2
  go_ret
  exact ⟨rfl, one _ _⟩
set_option maxHeartbeats 400000 in
theorem heldNil_any (W : World) : Calls Tryz.prog 16 #[elemV 0 none 0 0, .int .i64 1] W fun e w' => e = .returned (.int .i64 1) ∧ Below W.heap.size W w' := by
  have hM : ∀ V, Calls Tryz.prog 37 #[.slice none 0 0, .int .i64 1] V fun e w' => e = .returned (.int .i64 1) ∧ w' = V := fun V => by
    go_enter Tryz.func37, Tryz.ntmps37
    go_wp2
    refine wp_loop_rounds 1 ?_
    rw [rounds_succ]
    go_wp2
    go_ret
    exact ⟨rfl, rfl⟩
  have HM : Hid _ := hM
  clear hM
  go_enter Tryz.func16, Tryz.ntmps16
  go_wp2_with fail
  refine (HM.out _).mono ?_
  rintro e w1 ⟨rfl, rfl⟩
  go_wp2
  go_ret
  exact ⟨rfl, one _ _⟩
set_option maxHeartbeats 400000 in
theorem eqNil_any (W : World) : Calls Tryz.prog 14 #[elemV 0 none 0 0, elemV 0 none 0 0] W fun e w' => e = .returned (.bool true) ∧ Below W.heap.size W w' := by
  have hM : ∀ V, Calls Tryz.prog 35 #[.slice none 0 0, .slice none 0 0] V fun e w' => e = .returned (.bool true) ∧ w' = V := fun V => by
    go_enter Tryz.func35, Tryz.ntmps35
    go_wp2
    refine wp_loop_rounds 1 ?_
    rw [rounds_succ]
    go_wp2
    go_ret
    exact ⟨rfl, rfl⟩
  have HM : Hid _ := hM
  clear hM
  go_enter Tryz.func14, Tryz.ntmps14
  go_wp2_with fail
  refine (HM.out _).mono ?_
  rintro e w1 ⟨rfl, rfl⟩
  go_wp2
  go_ret
  exact ⟨rfl, (one _ _).alloc (by simp) _⟩
end Go.Proofs.YtlddkhhaclfmiaaGreatDoor
