/- errors.As at the program's own error: its contracts. Helper text: no statement is claimed here. -/
import Derived.Test.YtlddkhhaclfmiaaGreatDoorProg
import Derived.WalkKit
import Derived.LaidEql
import Derived.Stop.Asserts
import Derived.RowKitTokens
import Derived.Test.YtlddkhhaclfmiaaGreatDoorP16
import Derived.Test.YtlddkhhaclfmiaaGreatDoorP04
import Derived.Deep.LoopGhost
import Derived.Lib.QuietBelow
import Derived.Test.YtlddkhhaclfmiaaGreatDoorRows
import Derived.ProofKit
import Derived.OpenShut
import Derived.Below
import Derived.WalkSmall
import Derived.Deep.QuietTactic
import Derived.BigQuiet
namespace Go.Proofs.YtlddkhhaclfmiaaGreatDoor
open Go.RowKit Go.Extern.Stop Go.Stop Go.Extern

/-- errors.As(nil, target). -/
theorem as_nil (t : Value) (w : World) : Calls Tryz.prog 31 #[.nilIface, t] w fun e w' => e = .returned (.bool false) ∧ w' = w := by
  go_enter Tryz.func31, Tryz.ntmps31
  go_wp2
  go_ret
  exact ⟨rfl, rfl⟩

/-! The model's entries for internal/reflectlite, at the type of the target (a pointer to the error's type) and at the error's type. -/
theorem As.valueOf (t : Addr) (w : World) : (ReflectliteValue.unpack (.iface 63 (.pointer (some t)))).run Tryz.prog w
    = .ok (.agg #[.pointer (some ⟨10, 63, none⟩), .pointer (some ⟨w.heap.size, 0, none⟩), .int .u64 150]) (w.alloc (.cells #[.pointer (some t)] 63)) := by kernel_rfl
theorem As.type (a : Addr) (w : World) : (ReflectliteValue.methodAny (ReflectliteValue.valueError "reflectlite.Value.Type" 0) (fun t _ _ _ => ReflectliteType.toType t) #[.agg #[.pointer (some ⟨10, 63, none⟩), .pointer (some a), .int .u64 150]]).run Tryz.prog w
    = .ok (.iface 124 (.agg #[.pointer (some ⟨10, 63, none⟩)])) w := by kernel_rfl
theorem As.kindP (w : World) : ((ReflectliteType.abiMethod fun t => (fun a : Nat => Value.int IntKind.u8 (a : Int)) <$> Rtype.kind t) #[.pointer (some ⟨10, 63, none⟩)]).run Tryz.prog w = .ok (.int .u8 22) w := by kernel_rfl
theorem As.kindE (w : World) : ((ReflectliteType.abiMethod fun t => (fun a : Nat => Value.int IntKind.u8 (a : Int)) <$> Rtype.kind t) #[.pointer (some ⟨10, 61, none⟩)]).run Tryz.prog w = .ok (.int .u8 25) w := by kernel_rfl
theorem As.partsP (a : Addr) (w : World) : (ReflectliteValue.parts (.agg #[.pointer (some ⟨10, 63, none⟩), .pointer (some a), .int .u64 150])).run Tryz.prog w = .ok (some (63, a, 150)) w := by kernel_rfl
theorem As.isNil (a p : Addr) (W : World) (ha : W.cell? a = some (.pointer (some p))) :
    (ReflectliteValue.method (ReflectliteValue.valueError "reflectlite.Value.IsNil" 0) ReflectliteValue.isNil #[.agg #[.pointer (some ⟨10, 63, none⟩), .pointer (some a), .int .u64 150]]).run Tryz.prog W = .ok (.bool false) W := by
  refine Eq.trans (congrArg (fun z : Sem Value => z.run Tryz.prog W) (id rfl : ReflectliteValue.method (ReflectliteValue.valueError "reflectlite.Value.IsNil" 0) ReflectliteValue.isNil #[.agg #[.pointer (some ⟨10, 63, none⟩), .pointer (some a), .int .u64 150]] = (ReflectliteValue.parts (.agg #[.pointer (some ⟨10, 63, none⟩), .pointer (some a), .int .u64 150]) >>= _))) ?_
  simp only [Sem.run_bind, As.partsP, Result.andThen]
  simp [ReflectliteValue.isNil, loadVar, isAgg, underlying, Tryz.underlying63, ha, Result.andThen]
theorem As.methodKind (h : Value) (w : World) : (Go.method 305 124 (.agg #[h]) "Kind").run Tryz.prog w = .ok (161, h) w := by kernel_rfl
theorem As.methodElem (h : Value) (w : World) : (Go.method 305 124 (.agg #[h]) "Elem").run Tryz.prog w = .ok (173, .agg #[h]) w := by kernel_rfl
theorem As.methodImplements (h : Value) (w : World) : (Go.method 305 124 (.agg #[h]) "Implements").run Tryz.prog w = .ok (174, .agg #[h]) w := by kernel_rfl
theorem As.methodAssignableTo (h : Value) (w : World) : (Go.method 305 124 (.agg #[h]) "AssignableTo").run Tryz.prog w = .ok (171, .agg #[h]) w := by kernel_rfl
theorem As.elem (w : World) : (ReflectliteType.method ReflectliteType.elem #[.agg #[.pointer (some ⟨10, 63, none⟩)]]).run Tryz.prog w = .ok (.iface 124 (.agg #[.pointer (some ⟨10, 61, none⟩)])) w := by kernel_rfl
theorem As.implementsE (w : World) : (ReflectliteType.relation "Implements" ReflectliteType.implements_ #[.agg #[.pointer (some ⟨10, 61, none⟩)], .iface 124 (.agg #[.pointer (some ⟨10, 57, none⟩)])]).run Tryz.prog w = .ok (.bool true) w := by kernel_rfl
theorem As.typeOf (v : Value) (w : World) : (ReflectliteType.typeOf #[.iface 61 v]).run Tryz.prog w = .ok (.iface 124 (.agg #[.pointer (some ⟨10, 61, none⟩)])) w := by kernel_rfl
theorem As.assignable (w : World) : (ReflectliteType.relation "AssignableTo" ReflectliteType.assignableTo #[.agg #[.pointer (some ⟨10, 61, none⟩)], .iface 124 (.agg #[.pointer (some ⟨10, 61, none⟩)])]).run Tryz.prog w = .ok (.bool true) w := by kernel_rfl
theorem As.valueOfE (s : ByteArray) (w : World) : (ReflectliteValue.unpack (.iface 61 (.agg #[.string s]))).run Tryz.prog w
    = .ok (.agg #[.pointer (some ⟨10, 61, none⟩), .pointer (some ⟨w.heap.size, 0, none⟩), .int .u64 153]) (w.alloc (.cells #[.string s] 61)) := by kernel_rfl
theorem As.elemOf (w : World) : (Rtype.elem? 63).run Tryz.prog w = .ok (some 61) w := by kernel_rfl
theorem As.mkE (p : Addr) (w : World) : (ReflectliteValue.mk 61 p ReflectliteValue.flagAddr).run Tryz.prog w = .ok (.agg #[.pointer (some ⟨10, 61, none⟩), .pointer (some p), .int .u64 409]) w := by kernel_rfl
theorem As.elemV (a p : Addr) (W : World) (ha : W.cell? a = some (.pointer (some p))) :
    (ReflectliteValue.method (ReflectliteValue.valueError "reflectlite.Value.Elem" 0) ReflectliteValue.elem #[.agg #[.pointer (some ⟨10, 63, none⟩), .pointer (some a), .int .u64 150]]).run Tryz.prog W
      = .ok (.agg #[.pointer (some ⟨10, 61, none⟩), .pointer (some p), .int .u64 409]) W := by
  refine Eq.trans (congrArg (fun z : Sem Value => z.run Tryz.prog W) (id rfl : ReflectliteValue.method (ReflectliteValue.valueError "reflectlite.Value.Elem" 0) ReflectliteValue.elem #[.agg #[.pointer (some ⟨10, 63, none⟩), .pointer (some a), .int .u64 150]] = (ReflectliteValue.parts (.agg #[.pointer (some ⟨10, 63, none⟩), .pointer (some a), .int .u64 150]) >>= _))) ?_
  simp only [Sem.run_bind, As.partsP, Result.andThen]
  simp [ReflectliteValue.elem, loadVar, isAgg, underlying, Tryz.underlying63, ha, Result.andThen, As.elemOf, As.mkE]
theorem As.partsEa (a : Addr) (w : World) : (ReflectliteValue.parts (.agg #[.pointer (some ⟨10, 61, none⟩), .pointer (some a), .int .u64 409])).run Tryz.prog w = .ok (some (61, a, 409)) w := by kernel_rfl
theorem As.partsE (a : Addr) (w : World) : (ReflectliteValue.parts (.agg #[.pointer (some ⟨10, 61, none⟩), .pointer (some a), .int .u64 153])).run Tryz.prog w = .ok (some (61, a, 153)) w := by kernel_rfl
theorem As.direct (w : World) : (Rtype.directlyAssignable 61 61).run Tryz.prog w = .ok true w := by kernel_rfl
theorem As.set (ta b : Addr) (s : ByteArray) (old : Value) (W : World) (hb : W.cell? b = some (.string s)) (ht : W.cell? ta = some old) (hf : W.frozen? ta = false) :
    (ReflectliteValue.set #[.agg #[.pointer (some ⟨10, 61, none⟩), .pointer (some ta), .int .u64 409], .agg #[.pointer (some ⟨10, 61, none⟩), .pointer (some b), .int .u64 153]]).run Tryz.prog W
      = .ok (.tuple #[]) (W.setCell ta (.string s)) := by
  refine Eq.trans (congrArg (fun z : Sem Value => z.run Tryz.prog W) (id rfl : ReflectliteValue.set #[.agg #[.pointer (some ⟨10, 61, none⟩), .pointer (some ta), .int .u64 409], .agg #[.pointer (some ⟨10, 61, none⟩), .pointer (some b), .int .u64 153]] = (ReflectliteValue.parts (.agg #[.pointer (some ⟨10, 61, none⟩), .pointer (some ta), .int .u64 409]) >>= fun _ => ReflectliteValue.parts (.agg #[.pointer (some ⟨10, 61, none⟩), .pointer (some b), .int .u64 153]) >>= _))) ?_
  simp only [Sem.run_bind, As.partsEa, As.partsE, Result.andThen]
  have hl : (loadCells b 1).run Tryz.prog W = .ok #[.string s] W := by
    simp [loadCells, loadCellsFrom, Addr.add, hb, Result.andThen]
  simp [ReflectliteValue.flagAddr, loadVar, isAgg, underlying, Tryz.underlying61, hl, Result.andThen, As.direct, storeVar, Value.cells, storeCells, Addr.add]
  rw [run_store Tryz.prog W ta _ _ (by rfl)]
  simp [ht, hf]

set_option maxRecDepth 100000 in
set_option maxHeartbeats 4000000 in
/-- errors.As at the program's own error: true, and the target holds it; four new blocks. -/
theorem as_hit (s : ByteArray) (t : Addr) (old : Value) (w : World) (hg : w.cell? ⟨1, 0, none⟩ = some (.iface 124 (.agg #[.pointer (some ⟨10, 57, none⟩)]))) (ht0 : w.cell? t = some old) (hf0 : w.frozen? t = false) :
    Calls Tryz.prog 31 #[.iface 61 (.agg #[.string s]), .iface 63 (.pointer (some t))] w fun ev w' => ev = .returned (.bool true) ∧ w' = ((((w.alloc (.cells #[.pointer (some t)] 63)).alloc (.cells #[.pointer (some ⟨10, 63, none⟩), .pointer (some ⟨w.heap.size, 0, none⟩), .int .u64 150] 93)).alloc (.cells #[.pointer (some ⟨10, 63, none⟩), .pointer (some ⟨w.heap.size, 0, none⟩), .int .u64 150] 93)).alloc (.cells #[.string s] 61)).setCell t (.string s) := by
  have h6 := @run_callFunc_extern Tryz.prog 77 _ (fun args => ReflectliteValue.unpack (args.getD 0 (.tuple #[]))) Tryz.func77 (by kernel_rfl) (by kernel_rfl) (by kernel_rfl) (by kernel_rfl)
  have h7 := @run_callFunc_extern Tryz.prog 78 _ (ReflectliteValue.methodAny (ReflectliteValue.valueError "reflectlite.Value.Type" 0) (fun t _ _ _ => ReflectliteType.toType t)) Tryz.func78 (by kernel_rfl) (by kernel_rfl) (by kernel_rfl) (by kernel_rfl)
  have h8 := @run_callFunc_extern Tryz.prog 79 _ (ReflectliteValue.method (ReflectliteValue.valueError "reflectlite.Value.IsNil" 0) ReflectliteValue.isNil) Tryz.func79 (by kernel_rfl) (by kernel_rfl) (by kernel_rfl) (by kernel_rfl)
  have h27 := @run_callFunc_extern Tryz.prog 161 _ (ReflectliteType.abiMethod fun t => do pure (.int .u8 (← Rtype.kind t))) Tryz.func161 (by kernel_rfl) (by kernel_rfl) (by kernel_rfl) (by kernel_rfl)
  have h37 := @run_callFunc_extern Tryz.prog 173 _ (ReflectliteType.method ReflectliteType.elem) Tryz.func173 (by kernel_rfl) (by kernel_rfl) (by kernel_rfl) (by kernel_rfl)
  have h38 := @run_callFunc_extern Tryz.prog 174 _ (ReflectliteType.relation "Implements" ReflectliteType.implements_) Tryz.func174 (by kernel_rfl) (by kernel_rfl) (by kernel_rfl) (by kernel_rfl)
  have h10 := @run_callFunc_extern Tryz.prog 105 _ ReflectliteType.typeOf Tryz.func105 (by kernel_rfl) (by kernel_rfl) (by kernel_rfl) (by kernel_rfl)
  have h35 := @run_callFunc_extern Tryz.prog 171 _ (ReflectliteType.relation "AssignableTo" ReflectliteType.assignableTo) Tryz.func171 (by kernel_rfl) (by kernel_rfl) (by kernel_rfl) (by kernel_rfl)
  have h11 := @run_callFunc_extern Tryz.prog 106 _ (ReflectliteValue.method (ReflectliteValue.valueError "reflectlite.Value.Elem" 0) ReflectliteValue.elem) Tryz.func106 (by kernel_rfl) (by kernel_rfl) (by kernel_rfl) (by kernel_rfl)
  have h12 := @run_callFunc_extern Tryz.prog 107 _ ReflectliteValue.set Tryz.func107 (by kernel_rfl) (by kernel_rfl) (by kernel_rfl) (by kernel_rfl)
  have tO := As.typeOf
  have mA := As.methodAssignableTo
  have a25 := As.assignable
  have v25 := As.valueOfE
  have f6 := As.valueOf
  have f7 := As.type
  have mK := As.methodKind
  have mE := As.methodElem
  have mI := As.methodImplements
  have k27 := As.kindP
  have k25 := As.kindE
  have e27 := As.elem
  have i25 := As.implementsE
  have n8 := As.isNil ⟨w.heap.size, 0, none⟩ t ((w.alloc (.cells #[.pointer (some t)] 63)).alloc (.cells #[.pointer (some ⟨10, 63, none⟩), .pointer (some ⟨w.heap.size, 0, none⟩), .int .u64 150] 93)) (by simp)
  have hlt : 1 < w.heap.size := World.block_lt_of_cell? w ⟨1, 0, none⟩ hg
  have hg2 : ((w.alloc (.cells #[.pointer (some t)] 63)).alloc (.cells #[.pointer (some ⟨10, 63, none⟩), .pointer (some ⟨w.heap.size, 0, none⟩), .int .u64 150] 93)).cell? ⟨1, 0, none⟩ = some (.iface 124 (.agg #[.pointer (some ⟨10, 57, none⟩)])) := by
    rw [World.cell?_alloc_lt _ _ ⟨1, 0, none⟩ (by simp <;> omega), World.cell?_alloc_lt _ _ ⟨1, 0, none⟩ hlt]; exact hg
  have htl : t.block < w.heap.size := World.block_lt_of_cell? w t ht0
  have el := As.elemV ⟨w.heap.size, 0, none⟩ t (((w.alloc (.cells #[.pointer (some t)] 63)).alloc (.cells #[.pointer (some ⟨10, 63, none⟩), .pointer (some ⟨w.heap.size, 0, none⟩), .int .u64 150] 93)).alloc (.cells #[.pointer (some ⟨10, 63, none⟩), .pointer (some ⟨w.heap.size, 0, none⟩), .int .u64 150] 93)) (by rw [World.cell?_alloc_lt _ _ ⟨w.heap.size, 0, none⟩ (by simp; omega)]; simp)
  have st := As.set t ⟨w.heap.size + 1 + 1 + 1, 0, none⟩ s old ((((w.alloc (.cells #[.pointer (some t)] 63)).alloc (.cells #[.pointer (some ⟨10, 63, none⟩), .pointer (some ⟨w.heap.size, 0, none⟩), .int .u64 150] 93)).alloc (.cells #[.pointer (some ⟨10, 63, none⟩), .pointer (some ⟨w.heap.size, 0, none⟩), .int .u64 150] 93)).alloc (.cells #[.string s] 61))
    (by rw [World.cell?_alloc_at _ _ _ _ (by simp)]; rfl)
    (by rw [World.cell?_alloc_lt _ _ t (by simp; omega), World.cell?_alloc_lt _ _ t (by simp; omega), World.cell?_alloc_lt _ _ t (by simp; omega), World.cell?_alloc_lt _ _ t htl]; exact ht0)
    (by rw [World.frozen?_alloc_old _ _ t (by simp; omega), World.frozen?_alloc_old _ _ t (by simp; omega), World.frozen?_alloc_old _ _ t (by simp; omega), World.frozen?_alloc_old _ _ t (Nat.ne_of_lt htl)]; exact hf0)
  go_enter Tryz.func31, Tryz.ntmps31
  go_wp2
  refine wp_loop_rounds 1 ?_
  rw [rounds_succ]
  go_wp2
  go_ret
  exact ⟨rfl, rfl⟩
end Go.Proofs.YtlddkhhaclfmiaaGreatDoor

/- The program's ElemRead. Helper text: no statement is claimed here. -/
namespace Go.Proofs.YtlddkhhaclfmiaaGreatDoor
open Go.ChangeShapes Go.WideShapes Go.ChangeAt Go.RowKit

/-- The cell of errors.errorType. -/
def ErrT (w : World) : Prop := w.cell? ⟨1, 0, none⟩ = some (.iface 124 (.agg #[.pointer (some ⟨10, 57, none⟩)]))
theorem ErrT.to {w w' : World} (h : ErrT w) (hb : Below w.heap.size w w') : ErrT w' := (hb.cell (p := ⟨1, 0, none⟩) (World.block_lt_of_cell? w ⟨1, 0, none⟩ h)).trans h
/-- The cell of bytealg.MaxLen. -/
def MaxT (w : World) : Prop := ∃ m, w.cell? ⟨4, 0, none⟩ = some (.int .i64 m)
theorem MaxT.to {w w' : World} (h : MaxT w) (hb : Below w.heap.size w w') : MaxT w' := by
  obtain ⟨m, h⟩ := h
  exact ⟨m, (hb.cell (p := ⟨4, 0, none⟩) (World.block_lt_of_cell? w ⟨4, 0, none⟩ h)).trans h⟩

theorem as_yes (s : ByteArray) (t B : Nat) (old : Value) (w : World) (hg : ErrT w) (h0 : w.cell? ⟨t, 0, none⟩ = some old) (hf : w.frozen? ⟨t, 0, none⟩ = false) (hB : B ≤ t) :
    Calls Tryz.prog 31 #[.iface 61 (.agg #[.string s]), .iface 63 (.pointer (some ⟨t, 0, none⟩))] w fun e w' => e = .returned (.bool true) ∧ Below B w w' := by
  have hlt : t < w.heap.size := World.block_lt_of_cell? w ⟨t, 0, none⟩ h0
  refine (as_hit s ⟨t, 0, none⟩ old w hg h0 hf).mono ?_
  rintro e w' ⟨rfl, rfl⟩
  refine ⟨rfl, Below.setCell (p := ⟨t, 0, none⟩) ?_ hB _⟩
  exact (((((Below.refl _ w).alloc (by omega) _).alloc (by simp; omega) _).alloc (by simp; omega) _).alloc (by simp; omega) _)

theorem eT_row {i : Nat} {ys : List Ar} (hi : i < 38) (h : okA i ys = true) : eT (i : Int) ys = ah i ++ Lib.join (ys.map tx) (bt i) := by
  unfold eT
  rw [ez_nat i hi, if_pos h]
theorem none_of {t : List UInt8} (h : ∀ i, 1 ≤ i → i < 38 → ∀ ys, okA i ys = true → t ≠ ah i ++ Lib.join (ys.map tx) (bt i)) : ∀ op ys, okA (ez op) ys = true → t ≠ eT op ys := by
  intro op ys hk
  obtain ⟨i, rfl, e, hi, hr⟩ := okA_op hk
  rw [e] at hk
  rw [eT_row hi hk]
  exact h i (by omega) hi ys hk

set_option maxRecDepth 100000 in
set_option maxHeartbeats 2000000 in
theorem ireadE_any (s : ByteArray) (w : World) (hs : s.size ≤ 1500000) (hT : Tabs w) (hC : CmpTab w) (hM : MaxT w) (hE : ErrT w) :
    Calls Tryz.prog 10 #[.string s] w (ReadE s.data.toList w) := by
  have HT : Hid (Tabs w) := hT
  have HC : Hid (CmpTab w) := hC
  have HM : Hid (MaxT w) := hM
  have HE : Hid (ErrT w) := hE
  have HO : Hid (Own2 (w.alloc (.cells #[.int .i64 0, .slice none 0 0] 25)) w.heap.size (.int .i64 0) (.slice none 0 0)) := Own2.new w _ _
  clear hT hC hM hE
  go_enter Tryz.func10, Tryz.ntmps10
  go_wp2
  go_loopw [4] (fun o w' => ∃ j : Nat, 1 ≤ j ∧ j ≤ 38 ∧ o = .int .i64 (j : Int) ∧ w.heap.size < w'.heap.size ∧ Hid (Below w.heap.size w w') ∧ Hid (Own2 w' w.heap.size (.int .i64 0) (.slice none 0 0)) ∧ Hid (∀ i, 1 ≤ i → i < j → ∀ ys, okA i ys = true → s.data.toList ≠ ah i ++ Lib.join (ys.map tx) (bt i))) (fun o _ => 38 - (intOf o).toNat)
  case atStart => exact ⟨1, by omega, by omega, rfl, by simp, one _ _, HO, fun i h1 h2 => by omega⟩
  case round =>
    obtain ⟨j, hj1, hj38, rfl, hsz, HB, HOr, HN⟩ := hrel
    rename_i wr
    clear HO
    by_cases hlt : j ≤ 37
    · have hlt' : (j : Int) ≤ 37 := by omega
      go_wp2_with fail
      refine (erowV_any (j : Int) _).mono ?_
      rintro e w1 ⟨rfl, hb1⟩
      rw [ez_nat j (by omega)]
      have HB1 : Hid (Below w.heap.size w w1) := HB.out.trans (hb1.mono HB.out.size)
      have HO1 : Hid (Own2 w1 w.heap.size (.int .i64 0) (.slice none 0 0)) := HOr.out.below hb1
      clear hb1
      obtain ⟨m, hm⟩ := HM.out.to HB1.out
      go_wp2_with fail
      refine (eargs_any j s _ hs (HT.out.to HB1.out) (HC.out.to HB1.out) m hm).mono ?_
      rintro e w2 ⟨hb2, (⟨ys, g, cap, rfl, hok, ht, hrow, hg⟩ | ⟨bad, rfl, hno⟩)⟩
      · have HB2 : Hid (Below w.heap.size w w2) := HB1.out.trans (hb2.mono HB1.out.size)
        have HO2 : Hid (Own2 w2 w.heap.size (.int .i64 0) (.slice none 0 0)) := HO1.out.below hb2
        have HK : Hid (okA j ys = true ∧ s.data.toList = ah j ++ Lib.join (ys.map tx) (bt j)) := ⟨hok, ht⟩
        have HR : Hid (ARow w2 g cap ys) := hrow
        have hgz : w.heap.size < g := Nat.lt_of_lt_of_le HO1.out.lt hg
        clear hb2 hok ht hrow hm
        go_wp2_with fail
        refine (as_nil _ _).mono ?_
        rintro e w3 ⟨rfl, rfl⟩
        have on := HO2.out.alloc (.cells #[.string ⟨#[]⟩] 61)
        have on2 := on
        obtain ⟨⟨r0, r1⟩, y0, y1⟩ := on2
        go_wp2
        refine bodyPost_ret (v := .tuple #[.agg #[.int .i64 (j : Int), .slice (some ⟨g, 0, none⟩) ys.length cap], .bool true]) (resElemB Tryz.results10 rfl rfl (on.put _ _).1) rfl ⟨?_, .inl ⟨(j : Int), ys, g, cap, rfl, ?_, ?_, ?_, by omega⟩⟩
        · exact ((HB2.out.alloc HB2.out.size _).setCell (Nat.le_refl _) _).setCell (Nat.le_refl _) _
        · rw [ez_nat j (by omega)]; exact HK.out.1
        · rw [eT_row (by omega) HK.out.1]; exact HK.out.2
        · exact ((HR.out.to (one _ _)).set (Nat.ne_of_gt hgz)).set (Nat.ne_of_gt hgz)
      · have HB2 : Hid (Below w.heap.size w w2) := HB1.out.trans (hb2.mono HB1.out.size)
        have HO2 : Hid (Own2 w2 w.heap.size (.int .i64 0) (.slice none 0 0)) := HO1.out.below hb2
        have HK : Hid (∀ ys, okA j ys = true → s.data.toList ≠ ah j ++ Lib.join (ys.map tx) (bt j)) := hno
        have hz2 := HO2.out.lt
        clear hb2 hno hm
        have HB3 : Hid (∀ o, Below w.heap.size w (w2.alloc o)) := fun o => HB2.out.alloc HB2.out.size o
        have HO3 : Hid (∀ o, Own2 (w2.alloc o) w.heap.size (.int .i64 0) (.slice none 0 0)) := fun o => HO2.out.alloc o
        go_wp2_with fail
        refine (as_yes bad w2.heap.size w2.heap.size _ _ (HE.out.to (HB3.out _)) (World.cell?_alloc_mark _ _ _ _ _) (by simp) (Nat.le_refl _)).mono ?_
        rintro e w4 ⟨rfl, hb4⟩
        have HB4 : Hid (Below w.heap.size w w4) := (HB3.out _).trans (hb4.mono (Nat.le_of_lt hz2))
        have HO4 : Hid (Own2 w4 w.heap.size (.int .i64 0) (.slice none 0 0)) := (HO3.out _).in hb4 hz2
        have hz4 := HO4.out.lt
        clear hb4
        go_wp2
        go_roundw
        case rel => exact ⟨j + 1, by omega, by omega, by go_num, hz4, HB4, HO4, fun i h1 h2 ys hk => by
          by_cases e : i = j
          · subst e; exact HK.out ys hk
          · exact HN.out i h1 (by omega) ys hk⟩
        case measure => simp [intOf]; omega
    · obtain rfl : j = 38 := by omega
      have on := HOr.out
      have on2 := on
      obtain ⟨⟨r0, r1⟩, y0, y1⟩ := on2
      go_wp2
      exact bodyPost_ret (v := .tuple #[.agg #[.int .i64 0, .slice none 0 0], .bool false]) (resElemB Tryz.results10 rfl rfl (on.put _ _).1) rfl ⟨(HB.out.setCell (Nat.le_refl _) _).setCell (Nat.le_refl _) _, .inr ⟨rfl, none_of HN.out⟩⟩
end Go.Proofs.YtlddkhhaclfmiaaGreatDoor

/- The laws' own comparison of contacts and coils: weSame. Helper text: no statement is claimed here. -/
namespace Go.Proofs.YtlddkhhaclfmiaaGreatDoor
open Go.ChangeShapes Go.WideShapes Go.ChangeAt Go.RowKit

set_option maxRecDepth 100000 in
set_option maxHeartbeats 1000000 in
theorem weSame_any (op : Int) (ys : List Ar) (b1 b2 cap1 cap2 : Nat) (w : World) (h1 : ArgsAt w b1 ys) (hl1 : b1 < w.heap.size) (h2 : ArgsAt w b2 ys) (hl2 : b2 < w.heap.size) (hbd : ys.length ≤ 1048576) :
    Calls Tryz.prog 11 #[.agg #[.int .i64 op, .slice (some ⟨b1, 0, none⟩) ys.length cap1], .agg #[.int .i64 op, .slice (some ⟨b2, 0, none⟩) ys.length cap2]] w fun e w' => e = .returned (.bool true) ∧ Below w.heap.size w w' := by
  have HB : Hid (∀ o o', Below w.heap.size w ((w.alloc o).alloc o')) := fun o o' => (one w o).trans ((one _ _).mono (by simp))
  have H1 : Hid (∀ o o', ArgsAt ((w.alloc o).alloc o') b1 ys) := fun o o' => h1.to hl1 (HB.out o o')
  have H2 : Hid (∀ o o', ArgsAt ((w.alloc o).alloc o') b2 ys) := fun o o' => h2.to hl2 (HB.out o o')
  have HO : Hid (∀ o', Own2 ((w.alloc (.cells #[.int .i64 op, .slice (some ⟨b1, 0, none⟩) ys.length cap1] 25)).alloc o') w.heap.size (.int .i64 op) (.slice (some ⟨b1, 0, none⟩) ys.length cap1)) := fun o' => (Own2.new w _ _).alloc o'
  have HO' : Hid (∀ o, Own2 ((w.alloc o).alloc (.cells #[.int .i64 op, .slice (some ⟨b2, 0, none⟩) ys.length cap2] 25)) (w.heap.size + 1) (.int .i64 op) (.slice (some ⟨b2, 0, none⟩) ys.length cap2)) := fun o => by
    have := Own2.new (w.alloc o) (.int .i64 op) (.slice (some ⟨b2, 0, none⟩) ys.length cap2)
    rwa [World.size_alloc] at this
  clear h1 h2
  go_enter Tryz.func11, Tryz.ntmps11
  go_wp2
  have HBv := HB.out (.cells #[.int .i64 op, .slice (some ⟨b1, 0, none⟩) ys.length cap1] 25) (.cells #[.int .i64 op, .slice (some ⟨b2, 0, none⟩) ys.length cap2] 25)
  have HA1 : Hid (ArgsAt _ b1 ys) := H1.out (.cells #[.int .i64 op, .slice (some ⟨b1, 0, none⟩) ys.length cap1] 25) (.cells #[.int .i64 op, .slice (some ⟨b2, 0, none⟩) ys.length cap2] 25)
  have HA2 : Hid (ArgsAt _ b2 ys) := H2.out (.cells #[.int .i64 op, .slice (some ⟨b1, 0, none⟩) ys.length cap1] 25) (.cells #[.int .i64 op, .slice (some ⟨b2, 0, none⟩) ys.length cap2] 25)
  have HV1 : Hid (Own2 _ w.heap.size _ _) := HO.out (.cells #[.int .i64 op, .slice (some ⟨b2, 0, none⟩) ys.length cap2] 25)
  have HV2 : Hid (Own2 _ (w.heap.size + 1) _ _) := HO'.out (.cells #[.int .i64 op, .slice (some ⟨b1, 0, none⟩) ys.length cap1] 25)
  generalize (w.alloc (.cells #[.int .i64 op, .slice (some ⟨b1, 0, none⟩) ys.length cap1] 25)).alloc (.cells #[.int .i64 op, .slice (some ⟨b2, 0, none⟩) ys.length cap2] 25) = V at *
  clear H1 H2 HO HO' HB
  have hv1 : b1 < V.heap.size := Nat.lt_of_lt_of_le hl1 HBv.size
  have hv2 : b2 < V.heap.size := Nat.lt_of_lt_of_le hl2 HBv.size
  go_loopw [5] (fun i w' => ∃ j : Nat, j ≤ ys.length ∧ i = .int .i64 (j : Int) ∧ Hid (Below V.heap.size V w')) (fun i _ => ys.length - (intOf i).toNat)
  case atStart => exact ⟨0, by omega, rfl, Below.refl _ _⟩
  case round =>
    obtain ⟨j, hj, rfl, HBr⟩ := hrel
    rename_i wr
    obtain ⟨⟨r0, r1⟩, -, -⟩ := HV1.out.below HBr.out
    obtain ⟨⟨q0, q1⟩, -, -⟩ := HV2.out.below HBr.out
    by_cases hlt : j < ys.length
    · have hlt' : (j : Int) < (ys.length : Int) := by omega
      obtain ⟨a0, a1, a2⟩ := (HA1.out.to hv1 HBr.out) j hlt
      obtain ⟨c0, c1, c2⟩ := (HA2.out.to hv2 HBr.out) j hlt
      generalize (at3 ys j).1 = k at *
      generalize (at3 ys j).2.1 = n at *
      generalize (at3 ys j).2.2 = q at *
      have hnq : ∀ W, (binOp .neq 51 (.agg #[.int .i64 k, .int .i64 n, .int .i64 q]) (.agg #[.int .i64 k, .int .i64 n, .int .i64 q])).run Tryz.prog W = .ok (.bool false) W := fun W => by simp [go_sem]
      have i0 := cell_regrown r1
      have i1 := cell_regrown q1
      have x0 := cell_regrown a0
      have x1 := cell_regrown a1
      have x2 := cell_regrown a2
      have y0 := cell_regrown c0
      have y1 := cell_regrown c1
      have y2 := cell_regrown c2
      go_wp2
      refine wp_region_quiet_below (by kernel_rfl) (by kernel_rfl) ?_
      repeat (first | go_big_quiet_step (fail) | quiet_step (fail))
      refine wpQuiet_nil ?_
      intro _ hw'
      obtain ⟨⟨dq, osq⟩, hw''⟩ := hw'
      subst hw''
      have HBq : Hid (Below V.heap.size V (Sort.grow (redrawn wr dq) osq)) := HBr.out.trans ((below_regrown _ dq osq).mono HBr.out.size)
      clear i0 i1 x0 x1 x2 y0 y1 y2 a0 a1 a2 c0 c1 c2 r0 r1 q0 q1
      generalize Sort.grow (redrawn wr dq) osq = wq at *
      go_wp2
      exact ⟨⟨j + 1, by omega, by go_num, HBq⟩, by simp [intOf]; omega⟩
    · obtain rfl : j = ys.length := by omega
      go_wp2
      go_ret
      exact ⟨rfl, HBv.trans (HBr.out.mono HBv.size)⟩

set_option maxHeartbeats 400000 in
theorem weNil_any (W : World) : Calls Tryz.prog 11 #[.agg #[.int .i64 0, .slice none 0 0], .agg #[.int .i64 0, .slice none 0 0]] W fun e w' => e = .returned (.bool true) ∧ Below W.heap.size W w' := by
  go_enter Tryz.func11, Tryz.ntmps11
  go_wp2
  refine wp_loop_rounds 1 ?_
  rw [rounds_succ]
  go_wp2
  go_ret
  exact ⟨rfl, (one _ _).alloc (by simp) _⟩
end Go.Proofs.YtlddkhhaclfmiaaGreatDoor

/- The drawing of numbers out of a list of bytes: l9Open, pick, num. Helper text: no statement is claimed here. -/
namespace Go.Proofs.YtlddkhhaclfmiaaGreatDoor
open Go.ChangeShapes Go.WideShapes Go.ChangeAt Go.RowKit

/-- Of the blocks that were there none has turned but number rb. -/
structure Step (rb : Nat) (w w' : World) : Prop where
  os : w'.os = w.os
  tape : w'.tape = w.tape
  output : w'.output = w.output
  size : w.heap.size ≤ w'.heap.size
  block : ∀ k, k < w.heap.size → k ≠ rb → w'.heap[k]? = w.heap[k]?

/-- A reader lies in block rb: its bytes, at most 2000, and its place, at most m. -/
structure Rd (w : World) (rb m : Nat) : Prop where
  rd : ∃ (a : Option Addr) (len cap p : Nat), w.cell? ⟨rb, 0, none⟩ = some (.slice a len cap) ∧ w.cell? ⟨rb, 1, none⟩ = some (.int .i64 (p : Int)) ∧ w.frozen? ⟨rb, 1, none⟩ = false ∧ p ≤ m ∧ len ≤ 2000 ∧
    (len = 0 ∨ ∃ (b off : Nat) (f : Nat → Int), a = some ⟨b, off, none⟩ ∧ b < rb ∧ ∀ i, i < len → w.cell? ⟨b, off + i, none⟩ = some (.int .u8 (f i)) ∧ 0 ≤ f i ∧ f i ≤ 255)

theorem Step.refl (rb : Nat) (w : World) : Step rb w w := ⟨rfl, rfl, rfl, Nat.le_refl _, fun _ _ _ => rfl⟩
theorem Step.trans {rb : Nat} {a b c : World} (h : Step rb a b) (k : Step rb b c) : Step rb a c :=
  ⟨k.os.trans h.os, k.tape.trans h.tape, k.output.trans h.output, Nat.le_trans h.size k.size, fun i hi hr => (k.block i (Nat.lt_of_lt_of_le hi h.size) hr).trans (h.block i hi hr)⟩
theorem Step.of {rb : Nat} {w w' : World} (h : Below w.heap.size w w') : Step rb w w' := ⟨h.os, h.tape, h.output, h.size, fun k hk _ => h.block k hk⟩
theorem Step.alloc (rb : Nat) (w : World) (o : Obj) : Step rb w (w.alloc o) := .of ((Below.refl _ _).alloc (Nat.le_refl _) o)
theorem Step.set (rb : Nat) (w : World) (b i : Nat) (v : Value) (hb : b = rb) : Step rb w (w.setCell ⟨b, i, none⟩ v) :=
  ⟨rfl, rfl, rfl, by simp [World.setCell], fun k _ hr => Below.heap_setCell _ _ _ _ (by simp; omega)⟩
theorem Step.drawn {rb : Nat} {w w' : World} (h : Step rb w w') (n : Nat) : Step rb w (w'.drewN n) := h.trans (.of (Go.below_drewN (Below.refl _ _) n))
theorem Step.below {rb B : Nat} {w w' : World} (h : Step rb w w') (hB : B ≤ rb) (hs : B ≤ w.heap.size) : Below B w w' := ⟨h.os, h.tape, h.output, h.size, fun k hk => h.block k (by omega) (by omega)⟩
theorem Step.cell {rb : Nat} {w w' : World} (h : Step rb w w') (b o : Nat) (hb : b < w.heap.size) (hr : b ≠ rb) : w'.cell? ⟨b, o, none⟩ = w.cell? ⟨b, o, none⟩ := World.cell?_of_block (w := w) (h.block b hb hr)
theorem Step.frozen {rb : Nat} {w w' : World} (h : Step rb w w') (b o : Nat) (hb : b < w.heap.size) (hr : b ≠ rb) : w'.frozen? ⟨b, o, none⟩ = w.frozen? ⟨b, o, none⟩ := World.frozen?_of_block (w := w) (h.block b hb hr)

theorem Rd.lt {w : World} {rb m : Nat} (h : Rd w rb m) : rb < w.heap.size := by
  obtain ⟨a, len, cap, p, h0, _⟩ := h.rd
  exact World.block_lt_of_cell? w ⟨rb, 0, none⟩ h0
theorem Rd.to {w w' : World} {rb m : Nat} (h : Rd w rb m) (hb : Below w.heap.size w w') : Rd w' rb m := by
  have hlt := h.lt
  obtain ⟨a, len, cap, p, h0, h1, hf, hp, hl, hr⟩ := h.rd
  refine ⟨a, len, cap, p, ?_, ?_, ?_, hp, hl, ?_⟩
  · rw [hb.cell (p := ⟨rb, 0, none⟩) hlt]; exact h0
  · rw [hb.cell (p := ⟨rb, 1, none⟩) hlt]; exact h1
  · rw [hb.frozen (p := ⟨rb, 1, none⟩) hlt]; exact hf
  · rcases hr with hr | ⟨b, off, f, ha, hbr, hc⟩
    · exact .inl hr
    · refine .inr ⟨b, off, f, ha, hbr, fun i hi => ?_⟩
      have := hc i hi
      rw [hb.cell (p := ⟨b, off + i, none⟩) (World.block_lt_of_cell? w ⟨b, off + i, none⟩ this.1)]
      exact this
theorem Rd.alloc {w : World} {rb m : Nat} (h : Rd w rb m) (o : Obj) : Rd (w.alloc o) rb m := h.to ((Below.refl _ _).alloc (Nat.le_refl _) o)
theorem Rd.mono {w : World} {rb m m' : Nat} (h : Rd w rb m) (hm : m ≤ m') : Rd w rb m' := by
  obtain ⟨a, len, cap, p, h0, h1, hf, hp, hr⟩ := h.rd
  exact ⟨a, len, cap, p, h0, h1, hf, by omega, hr⟩
/-- A store into a block behind the reader's. -/
theorem Rd.set {w : World} {rb m : Nat} (h : Rd w rb m) (c i : Nat) (v : Value) (hc : rb < c) : Rd (w.setCell ⟨c, i, none⟩ v) rb m := by
  obtain ⟨a, len, cap, p, h0, h1, hf, hp, hl, hr⟩ := h.rd
  refine ⟨a, len, cap, p, ?_, ?_, ?_, hp, hl, ?_⟩
  · rw [World.cell?_setCell_other w ⟨c, i, none⟩ ⟨rb, 0, none⟩ _ (by simp <;> omega)]; exact h0
  · rw [World.cell?_setCell_other w ⟨c, i, none⟩ ⟨rb, 1, none⟩ _ (by simp <;> omega)]; exact h1
  · rw [World.frozen?_setCell]; exact hf
  · rcases hr with hr | ⟨b, off, f, ha, hbr, hb⟩
    · exact .inl hr
    · refine .inr ⟨b, off, f, ha, hbr, fun j hj => ?_⟩
      rw [World.cell?_setCell_other w ⟨c, i, none⟩ ⟨b, off + j, none⟩ _ (by simp <;> omega)]
      exact hb j hj
theorem Step.setNew {rb : Nat} {w w' : World} (h : Step rb w w') (c i : Nat) (v : Value) (hc : w.heap.size ≤ c) : Step rb w (w'.setCell ⟨c, i, none⟩ v) :=
  ⟨h.os, h.tape, h.output, by simpa [World.setCell] using h.size, fun k hk hr => (Below.heap_setCell _ _ _ _ (by simp; omega)).trans (h.block k hk hr)⟩
theorem next_of {w : World} {rb m len cap p : Nat} {a : Option Addr} (nq : Nat) (h0 : w.cell? ⟨rb, 0, none⟩ = some (.slice a len cap)) (h1 : w.cell? ⟨rb, 1, none⟩ = some (.int .i64 (p : Int))) (hf : w.frozen? ⟨rb, 1, none⟩ = false) (hp : p ≤ m) (hl : len ≤ 2000)
    (hr : len = 0 ∨ ∃ (b off : Nat) (f : Nat → Int), a = some ⟨b, off, none⟩ ∧ b < rb ∧ ∀ i, i < len → w.cell? ⟨b, off + i, none⟩ = some (.int .u8 (f i)) ∧ 0 ≤ f i ∧ f i ≤ 255) :
    Rd ((w.setCell ⟨rb, 1, none⟩ (.int .i64 ((p : Int) + 1))).drewN nq) rb (m + 1) ∧ Step rb w ((w.setCell ⟨rb, 1, none⟩ (.int .i64 ((p : Int) + 1))).drewN nq) := by
  have st : Step rb w ((w.setCell ⟨rb, 1, none⟩ (.int .i64 ((p : Int) + 1))).drewN nq) := (Step.set rb w rb 1 _ rfl).drawn nq
  refine ⟨⟨a, len, cap, p + 1, ?_, ?_, ?_, by omega, hl, ?_⟩, st⟩
  · show (w.setCell ⟨rb, 1, none⟩ _).cell? ⟨rb, 0, none⟩ = _
    rw [World.cell?_setCell_other w ⟨rb, 1, none⟩ ⟨rb, 0, none⟩ _ (by simp)]; exact h0
  · show (w.setCell ⟨rb, 1, none⟩ _).cell? ⟨rb, 1, none⟩ = _
    rw [World.cell?_setCell_same w ⟨rb, 1, none⟩ _ h1]; simp
  · show (w.setCell ⟨rb, 1, none⟩ _).frozen? ⟨rb, 1, none⟩ = _
    rw [World.frozen?_setCell]; exact hf
  · rcases hr with hr | ⟨b, off, f, ha, hbr, hc⟩
    · exact .inl hr
    · refine .inr ⟨b, off, f, ha, hbr, fun i hi => ?_⟩
      have := hc i hi
      rw [st.cell b (off + i) (World.block_lt_of_cell? w ⟨b, off + i, none⟩ this.1) (Nat.ne_of_lt hbr)]
      exact this

theorem xor_nonneg (a b : Int) (h1 : 0 ≤ a) (h2 : a < 4611686018427387904) (h3 : 0 ≤ b) (h4 : b < 4611686018427387904) : 0 ≤ bits .xor .i64 a b := by
  obtain ⟨x, rfl⟩ := Int.eq_ofNat_of_zero_le h1
  obtain ⟨y, rfl⟩ := Int.eq_ofNat_of_zero_le h3
  have hx : x ^^^ y < 2 ^ 62 := Nat.xor_lt_two_pow (by omega) (by omega)
  have e1 : (BitVec.ofInt 64 (x : Int)).toNat = x := by
    rw [BitVec.ofInt_natCast, BitVec.toNat_ofNat]; exact Nat.mod_eq_of_lt (by omega)
  have e2 : (BitVec.ofInt 64 (y : Int)).toNat = y := by
    rw [BitVec.ofInt_natCast, BitVec.toNat_ofNat]; exact Nat.mod_eq_of_lt (by omega)
  show 0 ≤ IntKind.i64.wrap ((BitVec.ofInt 64 (x : Int) ^^^ BitVec.ofInt 64 (y : Int)).toNat : Int)
  rw [BitVec.toNat_xor, e1, e2, IntKind.wrap_i64]
  omega

set_option maxHeartbeats 400000 in
theorem pick_few (rb p : Nat) (n : Int) (w : World) (hn : n < 1) (hp : p ≤ 1000000)
    (h1 : w.cell? ⟨rb, 1, none⟩ = some (.int .i64 (p : Int))) (hfz : w.frozen? ⟨rb, 1, none⟩ = false) :
    Calls Tryz.prog 32 #[.pointer (some ⟨rb, 0, none⟩), .int .i64 n] w fun e w' => e = .returned (.int .i64 0) ∧ w' = w.setCell ⟨rb, 1, none⟩ (.int .i64 (p + 1)) := by
  go_enter Tryz.func32, Tryz.ntmps32
  go_wp2
  go_ret
  exact ⟨rfl, rfl⟩

set_option maxHeartbeats 400000 in
theorem pick_none (rb p cap : Nat) (a : Option Addr) (n : Int) (w : World) (hn : 1 ≤ n) (hp : p ≤ 1000000)
    (h0 : w.cell? ⟨rb, 0, none⟩ = some (.slice a 0 cap)) (h1 : w.cell? ⟨rb, 1, none⟩ = some (.int .i64 (p : Int))) (hfz : w.frozen? ⟨rb, 1, none⟩ = false) :
    Calls Tryz.prog 32 #[.pointer (some ⟨rb, 0, none⟩), .int .i64 n] w fun e w' => e = .returned (.int .i64 0) ∧ w' = w.setCell ⟨rb, 1, none⟩ (.int .i64 (p + 1)) := by
  have hn3 : ¬ n < 1 := by omega
  go_enter Tryz.func32, Tryz.ntmps32
  go_wp2
  go_ret
  exact ⟨rfl, rfl⟩

set_option maxHeartbeats 400000 in
theorem pick_in (rb p len cap b off : Nat) (n c : Int) (w : World) (hn : 1 ≤ n) (hn2 : n ≤ 100000) (hp : p ≤ 1000000)
    (h0 : w.cell? ⟨rb, 0, none⟩ = some (.slice (some ⟨b, off, none⟩) len cap)) (h1 : w.cell? ⟨rb, 1, none⟩ = some (.int .i64 (p : Int))) (hfz : w.frozen? ⟨rb, 1, none⟩ = false)
    (hb : b ≠ rb) (hl : p < len) (_hl2 : len ≤ 2000) (hc : w.cell? ⟨b, off + p, none⟩ = some (.int .u8 c)) (c0 : 0 ≤ c) (c1 : c ≤ 255) :
    Calls Tryz.prog 32 #[.pointer (some ⟨rb, 0, none⟩), .int .i64 n] w fun e w' => e = .returned (.int .i64 (c % n)) ∧ w' = w.setCell ⟨rb, 1, none⟩ (.int .i64 (p + 1)) := by
  have hz : ((len : Int) == 0) = false := by simp; omega
  have hn3 : ¬ n < 1 := by omega
  have hn4 : (n == 0) = false := by simp; omega
  have hl3 : (p : Int) < len := by omega
  go_enter Tryz.func32, Tryz.ntmps32
  go_wp2
  go_ret
  exact ⟨rfl, rfl⟩

set_option maxHeartbeats 400000 in
theorem pick_out (rb p len cap b off : Nat) (n c d : Int) (w : World) (hn : 1 ≤ n) (hn2 : n ≤ 100000) (hp : p ≤ 1000000)
    (h0 : w.cell? ⟨rb, 0, none⟩ = some (.slice (some ⟨b, off, none⟩) len cap)) (h1 : w.cell? ⟨rb, 1, none⟩ = some (.int .i64 (p : Int))) (hfz : w.frozen? ⟨rb, 1, none⟩ = false)
    (hb : b ≠ rb) (hl : len ≤ p) (hl2 : len ≤ 2000) (hl0 : 1 ≤ len)
    (hc : w.cell? ⟨b, off + p % len, none⟩ = some (.int .u8 c)) (c0 : 0 ≤ c) (c1 : c ≤ 255) (hd : w.cell? ⟨b, off + (p * 7 + 3) % len, none⟩ = some (.int .u8 d)) (d0 : 0 ≤ d) (d1 : d ≤ 255) :
    Calls Tryz.prog 32 #[.pointer (some ⟨rb, 0, none⟩), .int .i64 n] w fun e w' => ∃ v, e = .returned (.int .i64 v) ∧ 0 ≤ v ∧ v < n ∧ ∃ nq, w' = (w.setCell ⟨rb, 1, none⟩ (.int .i64 (p + 1))).drewN nq := by
  have hz : ((len : Int) == 0) = false := by simp; omega
  have hn3 : ¬ n < 1 := by omega
  have hn4 : (n == 0) = false := by simp; omega
  have hl3 : ¬ (p : Int) < len := by omega
  have m1 : p % len < len := Nat.mod_lt _ (by omega)
  have i1 : ((p % len : Nat) : Int) < len := by omega
  have q0 : 0 ≤ (p : Int) / (len : Int) := Int.ediv_nonneg (by omega) (by omega)
  have q1 : (p : Int) / (len : Int) ≤ p := Int.ediv_le_self _ (by omega)
  have j1 : 0 ≤ ((p : Int) * 7 + 3) % (len : Int) := Int.emod_nonneg _ (by omega)
  have j2 : ((p : Int) * 7 + 3) % (len : Int) < (len : Int) := Int.emod_lt_of_pos _ (by omega)
  go_enter Tryz.func32, Tryz.ntmps32
  go_wp2
  go_quiet (fail)
  go_wp2
  go_ret
  have hx := xor_nonneg (c * 131 + d * 1117 + ↑p * 29 + ↑p / ↑len * 53) ((c * 131 + d * 1117 + ↑p * 29 + ↑p / ↑len * 53) / 64) (by omega) (by omega) (by omega) (by omega)
  exact ⟨_, rfl, Int.tmod_nonneg _ hx, Int.tmod_lt_of_pos _ (by omega), nq, rfl⟩

theorem pick_any (rb m : Nat) (n : Int) (w : World) (hn2 : n ≤ 100000) (hr : Rd w rb m) (hm : m ≤ 1000000) :
    Calls Tryz.prog 32 #[.pointer (some ⟨rb, 0, none⟩), .int .i64 n] w fun e w' => ∃ v, e = .returned (.int .i64 v) ∧ 0 ≤ v ∧ (1 ≤ n → v < n) ∧ (n < 1 → v = 0) ∧ Rd w' rb (m + 1) ∧ Step rb w w' := by
  obtain ⟨a, len, cap, p, h0, h1, hf, hp, hl, hr⟩ := hr.rd
  have fin := fun nq => next_of (m := m) nq h0 h1 hf hp hl hr
  by_cases hn : n < 1
  · refine (pick_few rb p n w hn (by omega) h1 hf).mono ?_
    rintro e w' ⟨rfl, rfl⟩
    exact ⟨0, rfl, by omega, by omega, fun _ => rfl, (fin 0).1, (fin 0).2⟩
  rcases hr with rfl | ⟨b, off, f, rfl, hb, hc⟩
  · refine (pick_none rb p cap a n w (by omega) (by omega) h0 h1 hf).mono ?_
    rintro e w' ⟨rfl, rfl⟩
    exact ⟨0, rfl, by omega, by omega, fun _ => rfl, (fin 0).1, (fin 0).2⟩
  by_cases hlen : len = 0
  · subst hlen
    refine (pick_none rb p cap _ n w (by omega) (by omega) h0 h1 hf).mono ?_
    rintro e w' ⟨rfl, rfl⟩
    exact ⟨0, rfl, by omega, by omega, fun _ => rfl, (fin 0).1, (fin 0).2⟩
  by_cases hpl : p < len
  · have := hc p hpl
    refine (pick_in rb p len cap b off n (f p) w (by omega) hn2 (by omega) h0 h1 hf (Nat.ne_of_lt hb) hpl hl this.1 this.2.1 this.2.2).mono ?_
    rintro e w' ⟨rfl, rfl⟩
    exact ⟨_, rfl, Int.emod_nonneg _ (by omega), fun _ => Int.emod_lt_of_pos _ (by omega), fun h => absurd h hn, (fin 0).1, (fin 0).2⟩
  · have c1 := hc (p % len) (Nat.mod_lt _ (by omega))
    have c2 := hc ((p * 7 + 3) % len) (Nat.mod_lt _ (by omega))
    refine (pick_out rb p len cap b off n _ _ w (by omega) hn2 (by omega) h0 h1 hf (Nat.ne_of_lt hb) (by omega) hl (by omega) c1.1 c1.2.1 c1.2.2 c2.1 c2.2.1 c2.2.2).mono ?_
    rintro e w' ⟨v, rfl, v0, v1, nq, rfl⟩
    exact ⟨v, rfl, v0, fun _ => v1, fun h => absurd h hn, (fin nq).1, (fin nq).2⟩

/-- A list of n numbers lies in block lb, each at most 2000000000 away from 0. -/
def Nums (w : World) (lb n : Nat) : Prop := ∀ i, i < n → ∃ z : Int, w.cell? ⟨lb, i, none⟩ = some (.int .i64 z) ∧ -2000000000 ≤ z ∧ z ≤ 2000000000

set_option maxHeartbeats 400000 in
theorem num_any (rb m lb n : Nat) (w : World) (hn : 1 ≤ n) (hn2 : n ≤ 100) (hr : Rd w rb m) (hm : m ≤ 1000000) (hl : Nums w lb n) (hlr : lb ≠ rb) :
    Calls Tryz.prog 83 #[.pointer (some ⟨rb, 0, none⟩), .slice (some ⟨lb, 0, none⟩) n n] w fun e w' => ∃ v, e = .returned (.int .i64 v) ∧ -2000000000 ≤ v ∧ v ≤ 2000000000 ∧ Rd w' rb (m + 1) ∧ Step rb w w' := by
  go_enter Tryz.func83, Tryz.ntmps83
  go_wp2_with fail
  refine (pick_any rb m n _ (by omega) hr hm).mono ?_
  rintro e w' ⟨v, rfl, v0, v1, -, hr', st⟩
  obtain ⟨k, rfl⟩ := Int.eq_ofNat_of_zero_le v0
  have hk : (k : Int) < n := v1 (by omega)
  obtain ⟨z, hz, z0, z1⟩ := hl k (by omega)
  have hz' : w'.cell? ⟨lb, k, none⟩ = some (.int .i64 z) := by
    rw [st.cell lb k (World.block_lt_of_cell? w ⟨lb, k, none⟩ hz) hlr]; exact hz
  clear v1 hl
  go_wp2
  go_ret
  exact ⟨z, rfl, z0, z1, hr', st⟩

/-- The bytes that come in: nil, or a row. -/
def IsRow (w : World) (a : Option Addr) (len : Nat) : Prop :=
  len = 0 ∨ ∃ (b off : Nat) (f : Nat → Int), a = some ⟨b, off, none⟩ ∧ ∀ i, i < len → w.cell? ⟨b, off + i, none⟩ = some (.int .u8 (f i)) ∧ 0 ≤ f i ∧ f i ≤ 255

theorem open_done {w : World} {a a' : Option Addr} {len len' cap : Nat} (h : IsRow w a len) (hl : len' ≤ len) (ha : len' ≠ 0 → a' = a) (h2 : len' ≤ 2000) :
    Rd (w.alloc (.cells #[.slice a' len' cap, .int .i64 0] 71)) w.heap.size 0 := by
  refine ⟨a', len', cap, 0, by simp [go_sem], by simp [go_sem], by simp [go_sem], by omega, h2, ?_⟩
  by_cases h0 : len' = 0
  · exact .inl h0
  rcases h with h | ⟨b, off, f, rfl, hc⟩
  · omega
  · refine .inr ⟨b, off, f, ha h0, ?_, fun i hi => ?_⟩
    · have := World.block_lt_of_cell? w ⟨b, off + 0, none⟩ (hc 0 (by omega)).1
      simp at this; omega
    · have := hc i (by omega)
      rw [World.cell?_alloc_lt _ _ _ (World.block_lt_of_cell? w ⟨b, off + i, none⟩ this.1)]
      exact this

set_option maxHeartbeats 400000 in
theorem open_any (a : Option Addr) (len cap : Nat) (w : World) (h : IsRow w a len) (hlc : len ≤ cap) :
    Calls Tryz.prog 18 #[.slice a len cap] w fun e w' => e = .returned (.pointer (some ⟨w.heap.size, 0, none⟩)) ∧ Rd w' w.heap.size 0 ∧ Below w.heap.size w w' := by
  by_cases hl : 2000 < len
  · have hl1 : (2000 : Int) < len := by omega
    have hl2 : (2000 : Int) ≤ cap := by omega
    rcases h with h | ⟨b, off, f, rfl, hc⟩
    · omega
    have hop : Hid (IsRow w (some ⟨b, off, none⟩) len) := .inr ⟨b, off, f, rfl, hc⟩
    clear hc
    go_enter Tryz.func18, Tryz.ntmps18
    go_wp2
    go_ret
    exact ⟨rfl, open_done hop.out (by omega) (fun _ => rfl) (by omega), (Below.refl _ _).alloc (Nat.le_refl _) _⟩
  · have hl1 : ¬ (2000 : Int) < len := by omega
    have hop : Hid (IsRow w a len) := h
    clear h
    go_enter Tryz.func18, Tryz.ntmps18
    go_wp2
    go_ret
    exact ⟨rfl, open_done hop.out (by omega) (fun _ => rfl) (by omega), (Below.refl _ _).alloc (Nat.le_refl _) _⟩
end Go.Proofs.YtlddkhhaclfmiaaGreatDoor
