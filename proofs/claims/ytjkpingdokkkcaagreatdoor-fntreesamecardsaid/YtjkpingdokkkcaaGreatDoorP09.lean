/- What is wrong with a ladder: treeWrong. Helper text: no statement is claimed here. -/
import Derived.Test.YtjkpingdokkkcaaGreatDoorP08
import Derived.Test.YtjkpingdokkkcaaGreatDoorProg
import Derived.WalkKit
import Derived.LaidEql
import Derived.Stop.Asserts
import Derived.RowKitTokens
import Derived.Test.YtjkpingdokkkcaaGreatDoorP01
namespace Go.Proofs.YtjkpingdokkkcaaGreatDoor.Tr
open Go.ChangeShapes Go.WideShapes Go.ChangeAt Go.RowKit
open Tb (Tab DevTab conB coilB)
attribute [local go_sem] store_func

theorem mSk_rN (C : Nat) : ∀ (n : Nat) (t : NT n) (s : Nat), (mSk C).rN n t s = (mSk 0).rN n t s
  | 0, _, _ => rfl
  | n + 1, t, s => by
    show (if _ then _ else _) = (if _ then _ else _)
    rw [runL_congr (mSk_rN C n)]
    rfl
theorem mSk_rA (C k : Nat) : ∀ (n : Nat) (t : AT k n) (s : Nat), (mSk C).rA k n t s = (mSk 0).rA k n t s
  | 0, _, _ => rfl
  | n + 1, t, s => by
    have e : (mSk C).hA k (n + 1) t s = (mSk 0).hA k (n + 1) t s := by
      show (if _ then _ else if _ then _ else _) = (if _ then _ else if _ then _ else _)
      rw [mSk_rN C]
      rfl
    show (if _ then _ else _) = (if _ then _ else _)
    rw [e, runL_congr (mSk_rA C k n)]
/-- The first rung that is wrong. -/
def firstR (T : Tab) (k n : Nat) : List (AT k (n + 1)) → Nat → Option (Int × Option Nat)
  | [], _ => none
  | a :: us, i => match wrongR T k n a with
    | some c => some (c, some i)
    | none => firstR T k n us (i + 1)
/-- What is wrong with a ladder: its code, and the rung. -/
def wrongL (T : Tab) (k n : Nat) (es : List (AT k (n + 1))) : Option (Int × Option Nat) :=
  if 40 < es.length then some (1, none) else match (runL ((mSk 0).rA k (n + 1)) es 0).2 with
    | some c => some (c, none)
    | none => firstR T k n es 0
def errW : Option (Int × Option Nat) → Value
  | none => .nilIface
  | some (c, none) => .iface 65 (.agg #[.int .i64 c])
  | some (c, some i) => .iface 69 (.agg #[.int .i64 (i : Int), .iface 65 (.agg #[.int .i64 c])])
theorem firstR_bad {T : Tab} {k n : Nat} {es : List (AT k (n + 1))} {j i : Nat} {a : AT k (n + 1)} (h : es[j]? = some a) {c : Int} (hc : wrongR T k n a = some c) : firstR T k n (es.drop j) i = some (c, some i) := by
  obtain ⟨hj, rfl⟩ := List.getElem?_eq_some_iff.1 h
  rw [List.drop_eq_getElem_cons hj]
  show (match wrongR T k n es[j] with | some c => some (c, some i) | none => _) = _
  rw [hc]
theorem firstR_good {T : Tab} {k n : Nat} {es : List (AT k (n + 1))} {j i : Nat} {a : AT k (n + 1)} (h : es[j]? = some a) (hc : wrongR T k n a = none) : firstR T k n (es.drop j) i = firstR T k n (es.drop (j + 1)) (i + 1) := by
  obtain ⟨hj, rfl⟩ := List.getElem?_eq_some_iff.1 h
  rw [List.drop_eq_getElem_cons hj]
  show (match wrongR T k n es[j] with | some c => some (c, some i) | none => _) = _
  rw [hc]

set_option maxHeartbeats 4000000 in
set_option maxRecDepth 100000 in
theorem wrong_any (T : Tab) (k n : Nat) (S : Nat → Prop) (w : World) (hT : DevTab T w) (hSw : ∀ b, S b → b < w.heap.size) (p : Option Addr) (cap : Nat) (es : List (AT k (n + 1))) (hV : SlOf S (AmE S w k (n + 1)) 6 p cap es) (hz : zAs k (n + 1) es ≤ 1048576) :
    Calls Tryz.prog 23 #[.slice p es.length cap] w fun r w' => r = .returned (errW (wrongL T k n es)) ∧ Below w.heap.size w w' := by
  have HT : Hid (DevTab T w) := hT
  have HS : Hid (∀ b, S b → b < w.heap.size) := hSw
  have HV : Hid (SlOf S (AmE S w k (n + 1)) 6 p cap es) := hV
  have HZ : Hid (zAs k (n + 1) es ≤ 1048576) := hz
  have HC : Hid (∀ W, Below w.heap.size w W → CntM w.heap.size W 0 → Calls Tryz.prog 22 #[.slice p es.length cap, .iface 57 (.pointer (some ⟨w.heap.size, 0, none⟩))] W fun r w' => r = .returned (errV (runL ((mSk 0).rA k (n + 1)) es 0).2) ∧ But w.heap.size W w') := fun W hW h0 => by
    have h := skArms_any (mSk w.heap.size) (mSk_ok _) k (n + 1) S W (fun b hb => ⟨Nat.lt_of_lt_of_le (hSw b hb) hW.size, by have := hSw b hb; show b ≠ w.heap.size; omega⟩) p cap es (arms_to (Keep.of hW hSw) (fun _ h => h) hV) hz 0 h0
    rw [runL_congr (mSk_rA w.heap.size k (n + 1))] at h
    refine h.mono ?_
    rintro r w' ⟨h1, -, h3⟩
    exact ⟨h1, h3⟩
  have HW : Hid (wrongL T k n es = if 40 < es.length then some (1, none) else match (runL ((mSk 0).rA k (n + 1)) es 0).2 with | some c => some (c, none) | none => firstR T k n es 0) := rfl
  obtain ⟨⟨hl1, hl2⟩, -⟩ := hV
  have hne := neq_err
  have hnn := neq_non
  clear hT hSw hz
  generalize (runL ((mSk 0).rA k (n + 1)) es 0).2 = M at *
  generalize wrongL T k n es = R at *
  by_cases h40 : 40 < es.length
  · have HR : Hid (R = some (1, none)) := by
      show _ = _
      rw [HW.out, if_pos h40]
    have h40' : (40 : Int) < (es.length : Int) := by omega
    go_enter Tryz.func23, Tryz.ntmps23
    go_wp2
    go_ret
    rw [HR.out]
    exact ⟨rfl, Below.refl _ _⟩
  · have h40' : ¬ (40 : Int) < (es.length : Int) := by omega
    cases M with
    | some c =>
      have HR : Hid (R = some (c, none)) := by
        show _ = _
        rw [HW.out, if_neg h40]
      clear HW h40
      go_enter Tryz.func23, Tryz.ntmps23
      go_wp2_with fail
      refine (HC.out _ (one _ _) ⟨last _ _, by omega⟩).mono ?_
      rintro r w1 ⟨rfl, hb1⟩
      have HB1 : Hid (Below w.heap.size w w1) := ((But.of (one w _)).trans hb1).below (Nat.le_refl _) (Nat.le_refl _)
      clear hb1
      rw [errV_some]
      go_wp2
      go_ret
      rw [HR.out]
      exact ⟨rfl, HB1.out⟩
    | none =>
      have HR : Hid (R = firstR T k n es 0) := by
        show _ = _
        rw [HW.out, if_neg h40]
      clear HW h40
      go_enter Tryz.func23, Tryz.ntmps23
      go_wp2_with fail
      refine (HC.out _ (one _ _) ⟨last _ _, by omega⟩).mono ?_
      rintro r w1 ⟨rfl, hb1⟩
      have HB1 : Hid (Below w.heap.size w w1) := ((But.of (one w _)).trans hb1).below (Nat.le_refl _) (Nat.le_refl _)
      clear hb1
      rw [errV_none]
      go_wp2
      go_loopw [22] (fun d w' => ∃ j : Nat, j ≤ es.length ∧ d = .int .i64 (j : Int) ∧ Hid (R = firstR T k n (es.drop j) j) ∧ Hid (Below w.heap.size w w')) (fun d _ => es.length - (intOf d).toNat)
      case atStart => exact ⟨0, by omega, rfl, HR, HB1⟩
      case round =>
        obtain ⟨j, hj, rfl, HJ, HB⟩ := hrel
        rename_i wr
        by_cases hlt : j < es.length
        · have hlt' : (j : Int) < (es.length : Int) := by omega
          obtain ⟨t, ht⟩ := get_lt hlt
          have hzt : zA k (n + 1) t ≤ 1048575 := by
            have := zA_in ht
            have := HZ.out
            omega
          have hk : Keep S w wr := Keep.of HB.out HS.out
          obtain ⟨b, off, rfl, hb, hE⟩ := (arms_to hk (fun _ h => h) HV.out).get ht
          obtain ⟨kd, op, pa, la, ca, pk, lk, ck, pc, lc, cc, pq, lq, cq, c0, c1, c2, c3, c4, c5, hNv⟩ := hE.out
          have hbl : b < wr.heap.size := World.block_lt_of_cell? _ _ c0
          have HK : Hid (∀ W, Below wr.heap.size wr W → Calls Tryz.prog 42 #[.agg #[.int .i64 kd, .int .i64 op, .slice pa la ca, .slice pk lk ck, .slice pc lc cc, .slice pq lq cq]] W fun r w' => r = .returned (errV (wrongR T k n t)) ∧ Below W.heap.size W w') :=
            fun W hW => wrongRung_any T k n S W ((HT.out.to HB.out).to hW) (fun b hb => Nat.lt_of_lt_of_le (HS.out b hb) (Nat.le_trans HB.out.size hW.size)) _ t (hNv.to (Keep.of hW (fun b hb => Nat.lt_of_lt_of_le (HS.out b hb) HB.out.size)) (fun _ h => h)) hzt
          clear hE hNv
          cases hw : wrongR T k n t with
          | some c =>
            have HRe : Hid (R = some (c, some j)) := HJ.out.trans (firstR_bad ht hw)
            rw [hw] at HK
            clear hw ht
            go_wp2_with fail
            refine (HK.out _ (one _ _)).mono ?_
            rintro r w2 ⟨rfl, hb2⟩
            have HB2 : Hid (Below w.heap.size w w2) := HB.out.trans ((of_one hb2).mono HB.out.size)
            clear hb2
            rw [errV_some]
            go_wp2
            go_ret
            rw [HRe.out]
            exact ⟨rfl, HB2.out⟩
          | none =>
            have HRe : Hid (R = firstR T k n (es.drop (j + 1)) (j + 1)) := HJ.out.trans (firstR_good ht hw)
            rw [hw] at HK
            clear hw ht
            go_wp2_with fail
            refine (HK.out _ (one _ _)).mono ?_
            rintro r w2 ⟨rfl, hb2⟩
            have HB2 : Hid (Below w.heap.size w w2) := HB.out.trans ((of_one hb2).mono HB.out.size)
            clear hb2
            rw [errV_none]
            go_wp2
            exact ⟨⟨j + 1, by omega, by go_num, HRe, HB2⟩, by simp [intOf]; omega⟩
        · obtain rfl : j = es.length := by omega
          have HRe : Hid (R = none) := by
            have := HJ.out
            rw [List.drop_length] at this
            exact this
          go_wp2
          go_ret
          rw [HRe.out]
          exact ⟨rfl, HB.out⟩
end Go.Proofs.YtjkpingdokkkcaaGreatDoor.Tr

/- errors.As at the error of a ladder: its contracts. Helper text: no statement is claimed here. -/
namespace Go.Proofs.YtjkpingdokkkcaaGreatDoor.Eb
open Go.RowKit Go.Extern.Stop Go.Stop Go.Extern

/-- errors.As(nil, target). -/
theorem as_nil (t : Value) (w : World) : Calls Tryz.prog 24 #[.nilIface, t] w fun e w' => e = .returned (.bool false) ∧ w' = w := by
  go_enter Tryz.func24, Tryz.ntmps24
  go_wp2
  go_ret
  exact ⟨rfl, rfl⟩

/-! The model's entries for internal/reflectlite, at the type of the target (a pointer to the error's type) and at the error's type. -/
theorem As.valueOf (t : Addr) (w : World) : (ReflectliteValue.unpack (.iface 67 (.pointer (some t)))).run Tryz.prog w
    = .ok (.agg #[.pointer (some ⟨2, 67, none⟩), .pointer (some ⟨w.heap.size, 0, none⟩), .int .u64 150]) (w.alloc (.cells #[.pointer (some t)] 67)) := by kernel_rfl
theorem As.type (a : Addr) (w : World) : (ReflectliteValue.methodAny (ReflectliteValue.valueError "reflectlite.Value.Type" 0) (fun t _ _ _ => ReflectliteType.toType t) #[.agg #[.pointer (some ⟨2, 67, none⟩), .pointer (some a), .int .u64 150]]).run Tryz.prog w
    = .ok (.iface 116 (.agg #[.pointer (some ⟨2, 67, none⟩)])) w := by kernel_rfl
theorem As.kindP (w : World) : ((ReflectliteType.abiMethod fun t => (fun a : Nat => Value.int IntKind.u8 (a : Int)) <$> Rtype.kind t) #[.pointer (some ⟨2, 67, none⟩)]).run Tryz.prog w = .ok (.int .u8 22) w := by kernel_rfl
theorem As.kindE (w : World) : ((ReflectliteType.abiMethod fun t => (fun a : Nat => Value.int IntKind.u8 (a : Int)) <$> Rtype.kind t) #[.pointer (some ⟨2, 65, none⟩)]).run Tryz.prog w = .ok (.int .u8 25) w := by kernel_rfl
theorem As.partsP (a : Addr) (w : World) : (ReflectliteValue.parts (.agg #[.pointer (some ⟨2, 67, none⟩), .pointer (some a), .int .u64 150])).run Tryz.prog w = .ok (some (67, a, 150)) w := by kernel_rfl
theorem As.isNil (a p : Addr) (W : World) (ha : W.cell? a = some (.pointer (some p))) :
    (ReflectliteValue.method (ReflectliteValue.valueError "reflectlite.Value.IsNil" 0) ReflectliteValue.isNil #[.agg #[.pointer (some ⟨2, 67, none⟩), .pointer (some a), .int .u64 150]]).run Tryz.prog W = .ok (.bool false) W := by
  refine Eq.trans (congrArg (fun z : Sem Value => z.run Tryz.prog W) (id rfl : ReflectliteValue.method (ReflectliteValue.valueError "reflectlite.Value.IsNil" 0) ReflectliteValue.isNil #[.agg #[.pointer (some ⟨2, 67, none⟩), .pointer (some a), .int .u64 150]] = (ReflectliteValue.parts (.agg #[.pointer (some ⟨2, 67, none⟩), .pointer (some a), .int .u64 150]) >>= _))) ?_
  simp only [Sem.run_bind, As.partsP, Result.andThen]
  simp [ReflectliteValue.isNil, loadVar, isAgg, underlying, Tryz.underlying67, ha, Result.andThen]
theorem As.methodKind (h : Value) (w : World) : (Go.method 285 116 (.agg #[h]) "Kind").run Tryz.prog w = .ok (83, h) w := by kernel_rfl
theorem As.methodElem (h : Value) (w : World) : (Go.method 285 116 (.agg #[h]) "Elem").run Tryz.prog w = .ok (131, .agg #[h]) w := by kernel_rfl
theorem As.methodImplements (h : Value) (w : World) : (Go.method 285 116 (.agg #[h]) "Implements").run Tryz.prog w = .ok (132, .agg #[h]) w := by kernel_rfl
theorem As.methodAssignableTo (h : Value) (w : World) : (Go.method 285 116 (.agg #[h]) "AssignableTo").run Tryz.prog w = .ok (129, .agg #[h]) w := by kernel_rfl
theorem As.elem (w : World) : (ReflectliteType.method ReflectliteType.elem #[.agg #[.pointer (some ⟨2, 67, none⟩)]]).run Tryz.prog w = .ok (.iface 116 (.agg #[.pointer (some ⟨2, 65, none⟩)])) w := by kernel_rfl
theorem As.implementsE (w : World) : (ReflectliteType.relation "Implements" ReflectliteType.implements_ #[.agg #[.pointer (some ⟨2, 65, none⟩)], .iface 116 (.agg #[.pointer (some ⟨2, 61, none⟩)])]).run Tryz.prog w = .ok (.bool true) w := by kernel_rfl
theorem As.typeOf (v : Value) (w : World) : (ReflectliteType.typeOf #[.iface 65 v]).run Tryz.prog w = .ok (.iface 116 (.agg #[.pointer (some ⟨2, 65, none⟩)])) w := by kernel_rfl
theorem As.assignable (w : World) : (ReflectliteType.relation "AssignableTo" ReflectliteType.assignableTo #[.agg #[.pointer (some ⟨2, 65, none⟩)], .iface 116 (.agg #[.pointer (some ⟨2, 65, none⟩)])]).run Tryz.prog w = .ok (.bool true) w := by kernel_rfl
theorem As.valueOfE (c : Int) (w : World) : (ReflectliteValue.unpack (.iface 65 (.agg #[.int .i64 c]))).run Tryz.prog w
    = .ok (.agg #[.pointer (some ⟨2, 65, none⟩), .pointer (some ⟨w.heap.size, 0, none⟩), .int .u64 153]) (w.alloc (.cells #[.int .i64 c] 65)) := by kernel_rfl
theorem As.elemOf (w : World) : (Rtype.elem? 67).run Tryz.prog w = .ok (some 65) w := by kernel_rfl
theorem As.mkE (p : Addr) (w : World) : (ReflectliteValue.mk 65 p ReflectliteValue.flagAddr).run Tryz.prog w = .ok (.agg #[.pointer (some ⟨2, 65, none⟩), .pointer (some p), .int .u64 409]) w := by kernel_rfl
theorem As.elemV (a p : Addr) (W : World) (ha : W.cell? a = some (.pointer (some p))) :
    (ReflectliteValue.method (ReflectliteValue.valueError "reflectlite.Value.Elem" 0) ReflectliteValue.elem #[.agg #[.pointer (some ⟨2, 67, none⟩), .pointer (some a), .int .u64 150]]).run Tryz.prog W
      = .ok (.agg #[.pointer (some ⟨2, 65, none⟩), .pointer (some p), .int .u64 409]) W := by
  refine Eq.trans (congrArg (fun z : Sem Value => z.run Tryz.prog W) (id rfl : ReflectliteValue.method (ReflectliteValue.valueError "reflectlite.Value.Elem" 0) ReflectliteValue.elem #[.agg #[.pointer (some ⟨2, 67, none⟩), .pointer (some a), .int .u64 150]] = (ReflectliteValue.parts (.agg #[.pointer (some ⟨2, 67, none⟩), .pointer (some a), .int .u64 150]) >>= _))) ?_
  simp only [Sem.run_bind, As.partsP, Result.andThen]
  simp [ReflectliteValue.elem, loadVar, isAgg, underlying, Tryz.underlying67, ha, Result.andThen, As.elemOf, As.mkE]
theorem As.partsEa (a : Addr) (w : World) : (ReflectliteValue.parts (.agg #[.pointer (some ⟨2, 65, none⟩), .pointer (some a), .int .u64 409])).run Tryz.prog w = .ok (some (65, a, 409)) w := by kernel_rfl
theorem As.partsE (a : Addr) (w : World) : (ReflectliteValue.parts (.agg #[.pointer (some ⟨2, 65, none⟩), .pointer (some a), .int .u64 153])).run Tryz.prog w = .ok (some (65, a, 153)) w := by kernel_rfl
theorem As.direct (w : World) : (Rtype.directlyAssignable 65 65).run Tryz.prog w = .ok true w := by kernel_rfl
theorem As.set (ta b : Addr) (c : Int) (old : Value) (W : World) (hb : W.cell? b = some (.int .i64 c)) (ht : W.cell? ta = some old) (hf : W.frozen? ta = false) :
    (ReflectliteValue.set #[.agg #[.pointer (some ⟨2, 65, none⟩), .pointer (some ta), .int .u64 409], .agg #[.pointer (some ⟨2, 65, none⟩), .pointer (some b), .int .u64 153]]).run Tryz.prog W
      = .ok (.tuple #[]) (W.setCell ta (.int .i64 c)) := by
  refine Eq.trans (congrArg (fun z : Sem Value => z.run Tryz.prog W) (id rfl : ReflectliteValue.set #[.agg #[.pointer (some ⟨2, 65, none⟩), .pointer (some ta), .int .u64 409], .agg #[.pointer (some ⟨2, 65, none⟩), .pointer (some b), .int .u64 153]] = (ReflectliteValue.parts (.agg #[.pointer (some ⟨2, 65, none⟩), .pointer (some ta), .int .u64 409]) >>= fun _ => ReflectliteValue.parts (.agg #[.pointer (some ⟨2, 65, none⟩), .pointer (some b), .int .u64 153]) >>= _))) ?_
  simp only [Sem.run_bind, As.partsEa, As.partsE, Result.andThen]
  have hl : (loadCells b 1).run Tryz.prog W = .ok #[.int .i64 c] W := by
    simp [loadCells, loadCellsFrom, Addr.add, hb, Result.andThen]
  simp [ReflectliteValue.flagAddr, loadVar, isAgg, underlying, Tryz.underlying65, hl, Result.andThen, As.direct, storeVar, Value.cells, storeCells, Addr.add]
  rw [run_store Tryz.prog W ta _ _ (by rfl)]
  simp [ht, hf]

set_option maxRecDepth 100000 in
set_option maxHeartbeats 4000000 in
/-- errors.As at the program's own error: true, and the target holds it; four new blocks. -/
theorem as_hit (c : Int) (t : Addr) (old : Value) (w : World) (hg : w.cell? ⟨0, 0, none⟩ = some (.iface 116 (.agg #[.pointer (some ⟨2, 61, none⟩)]))) (ht0 : w.cell? t = some old) (hf0 : w.frozen? t = false) :
    Calls Tryz.prog 24 #[.iface 65 (.agg #[.int .i64 c]), .iface 67 (.pointer (some t))] w fun ev w' => ev = .returned (.bool true) ∧ w' = ((((w.alloc (.cells #[.pointer (some t)] 67)).alloc (.cells #[.pointer (some ⟨2, 67, none⟩), .pointer (some ⟨w.heap.size, 0, none⟩), .int .u64 150] 92)).alloc (.cells #[.pointer (some ⟨2, 67, none⟩), .pointer (some ⟨w.heap.size, 0, none⟩), .int .u64 150] 92)).alloc (.cells #[.int .i64 c] 65)).setCell t (.int .i64 c) := by
  have h6 := @run_callFunc_extern Tryz.prog 43 _ (fun args => ReflectliteValue.unpack (args.getD 0 (.tuple #[]))) Tryz.func43 (by kernel_rfl) (by kernel_rfl) (by kernel_rfl) (by kernel_rfl)
  have h7 := @run_callFunc_extern Tryz.prog 44 _ (ReflectliteValue.methodAny (ReflectliteValue.valueError "reflectlite.Value.Type" 0) (fun t _ _ _ => ReflectliteType.toType t)) Tryz.func44 (by kernel_rfl) (by kernel_rfl) (by kernel_rfl) (by kernel_rfl)
  have h8 := @run_callFunc_extern Tryz.prog 45 _ (ReflectliteValue.method (ReflectliteValue.valueError "reflectlite.Value.IsNil" 0) ReflectliteValue.isNil) Tryz.func45 (by kernel_rfl) (by kernel_rfl) (by kernel_rfl) (by kernel_rfl)
  have h27 := @run_callFunc_extern Tryz.prog 83 _ (ReflectliteType.abiMethod fun t => do pure (.int .u8 (← Rtype.kind t))) Tryz.func83 (by kernel_rfl) (by kernel_rfl) (by kernel_rfl) (by kernel_rfl)
  have h37 := @run_callFunc_extern Tryz.prog 131 _ (ReflectliteType.method ReflectliteType.elem) Tryz.func131 (by kernel_rfl) (by kernel_rfl) (by kernel_rfl) (by kernel_rfl)
  have h38 := @run_callFunc_extern Tryz.prog 132 _ (ReflectliteType.relation "Implements" ReflectliteType.implements_) Tryz.func132 (by kernel_rfl) (by kernel_rfl) (by kernel_rfl) (by kernel_rfl)
  have h10 := @run_callFunc_extern Tryz.prog 62 _ ReflectliteType.typeOf Tryz.func62 (by kernel_rfl) (by kernel_rfl) (by kernel_rfl) (by kernel_rfl)
  have h35 := @run_callFunc_extern Tryz.prog 129 _ (ReflectliteType.relation "AssignableTo" ReflectliteType.assignableTo) Tryz.func129 (by kernel_rfl) (by kernel_rfl) (by kernel_rfl) (by kernel_rfl)
  have h11 := @run_callFunc_extern Tryz.prog 63 _ (ReflectliteValue.method (ReflectliteValue.valueError "reflectlite.Value.Elem" 0) ReflectliteValue.elem) Tryz.func63 (by kernel_rfl) (by kernel_rfl) (by kernel_rfl) (by kernel_rfl)
  have h12 := @run_callFunc_extern Tryz.prog 64 _ ReflectliteValue.set Tryz.func64 (by kernel_rfl) (by kernel_rfl) (by kernel_rfl) (by kernel_rfl)
  have tO := As.typeOf
  have mA := As.methodAssignableTo
  have a25 := As.assignable
  have v25 := As.valueOfE
  have f6 := As.valueOf
  have f7 := As.type
  have mK := As.methodKind
  have mE := As.methodElem
  have mI := As.methodImplements
  have k27 := As.kindP
  have k25 := As.kindE
  have e27 := As.elem
  have i25 := As.implementsE
  have n8 := As.isNil ⟨w.heap.size, 0, none⟩ t ((w.alloc (.cells #[.pointer (some t)] 67)).alloc (.cells #[.pointer (some ⟨2, 67, none⟩), .pointer (some ⟨w.heap.size, 0, none⟩), .int .u64 150] 92)) (by simp)
  have hlt : 0 < w.heap.size := World.block_lt_of_cell? w ⟨0, 0, none⟩ hg
  have hg2 : ((w.alloc (.cells #[.pointer (some t)] 67)).alloc (.cells #[.pointer (some ⟨2, 67, none⟩), .pointer (some ⟨w.heap.size, 0, none⟩), .int .u64 150] 92)).cell? ⟨0, 0, none⟩ = some (.iface 116 (.agg #[.pointer (some ⟨2, 61, none⟩)])) := by
    rw [World.cell?_alloc_lt _ _ ⟨0, 0, none⟩ (by simp <;> omega), World.cell?_alloc_lt _ _ ⟨0, 0, none⟩ hlt]; exact hg
  have htl : t.block < w.heap.size := World.block_lt_of_cell? w t ht0
  have el := As.elemV ⟨w.heap.size, 0, none⟩ t (((w.alloc (.cells #[.pointer (some t)] 67)).alloc (.cells #[.pointer (some ⟨2, 67, none⟩), .pointer (some ⟨w.heap.size, 0, none⟩), .int .u64 150] 92)).alloc (.cells #[.pointer (some ⟨2, 67, none⟩), .pointer (some ⟨w.heap.size, 0, none⟩), .int .u64 150] 92)) (by rw [World.cell?_alloc_lt _ _ ⟨w.heap.size, 0, none⟩ (by simp; omega)]; simp)
  have st := As.set t ⟨w.heap.size + 1 + 1 + 1, 0, none⟩ c old ((((w.alloc (.cells #[.pointer (some t)] 67)).alloc (.cells #[.pointer (some ⟨2, 67, none⟩), .pointer (some ⟨w.heap.size, 0, none⟩), .int .u64 150] 92)).alloc (.cells #[.pointer (some ⟨2, 67, none⟩), .pointer (some ⟨w.heap.size, 0, none⟩), .int .u64 150] 92)).alloc (.cells #[.int .i64 c] 65))
    (by rw [World.cell?_alloc_at _ _ _ _ (by simp)]; rfl)
    (by rw [World.cell?_alloc_lt _ _ t (by simp; omega), World.cell?_alloc_lt _ _ t (by simp; omega), World.cell?_alloc_lt _ _ t (by simp; omega), World.cell?_alloc_lt _ _ t htl]; exact ht0)
    (by rw [World.frozen?_alloc_old _ _ t (by simp; omega), World.frozen?_alloc_old _ _ t (by simp; omega), World.frozen?_alloc_old _ _ t (by simp; omega), World.frozen?_alloc_old _ _ t (Nat.ne_of_lt htl)]; exact hf0)
  go_enter Tryz.func24, Tryz.ntmps24
  go_wp2
  refine wp_loop_rounds 1 ?_
  rw [rounds_succ]
  go_wp2
  go_ret
  exact ⟨rfl, rfl⟩
end Go.Proofs.YtjkpingdokkkcaaGreatDoor.Eb

/- errors.As at the error of a rung, asked for as a rung's error: its contracts. Helper text: no statement is claimed here. -/
namespace Go.Proofs.YtjkpingdokkkcaaGreatDoor.Er
open Go.RowKit Go.Extern.Stop Go.Stop Go.Extern

/-! The model's entries for internal/reflectlite, at the type of the target (a pointer to the error's type) and at the error's type. -/
theorem As.valueOf (t : Addr) (w : World) : (ReflectliteValue.unpack (.iface 70 (.pointer (some t)))).run Tryz.prog w
    = .ok (.agg #[.pointer (some ⟨2, 70, none⟩), .pointer (some ⟨w.heap.size, 0, none⟩), .int .u64 150]) (w.alloc (.cells #[.pointer (some t)] 70)) := by kernel_rfl
theorem As.type (a : Addr) (w : World) : (ReflectliteValue.methodAny (ReflectliteValue.valueError "reflectlite.Value.Type" 0) (fun t _ _ _ => ReflectliteType.toType t) #[.agg #[.pointer (some ⟨2, 70, none⟩), .pointer (some a), .int .u64 150]]).run Tryz.prog w
    = .ok (.iface 116 (.agg #[.pointer (some ⟨2, 70, none⟩)])) w := by kernel_rfl
theorem As.kindP (w : World) : ((ReflectliteType.abiMethod fun t => (fun a : Nat => Value.int IntKind.u8 (a : Int)) <$> Rtype.kind t) #[.pointer (some ⟨2, 70, none⟩)]).run Tryz.prog w = .ok (.int .u8 22) w := by kernel_rfl
theorem As.kindE (w : World) : ((ReflectliteType.abiMethod fun t => (fun a : Nat => Value.int IntKind.u8 (a : Int)) <$> Rtype.kind t) #[.pointer (some ⟨2, 69, none⟩)]).run Tryz.prog w = .ok (.int .u8 25) w := by kernel_rfl
theorem As.partsP (a : Addr) (w : World) : (ReflectliteValue.parts (.agg #[.pointer (some ⟨2, 70, none⟩), .pointer (some a), .int .u64 150])).run Tryz.prog w = .ok (some (70, a, 150)) w := by kernel_rfl
theorem As.isNil (a p : Addr) (W : World) (ha : W.cell? a = some (.pointer (some p))) :
    (ReflectliteValue.method (ReflectliteValue.valueError "reflectlite.Value.IsNil" 0) ReflectliteValue.isNil #[.agg #[.pointer (some ⟨2, 70, none⟩), .pointer (some a), .int .u64 150]]).run Tryz.prog W = .ok (.bool false) W := by
  refine Eq.trans (congrArg (fun z : Sem Value => z.run Tryz.prog W) (id rfl : ReflectliteValue.method (ReflectliteValue.valueError "reflectlite.Value.IsNil" 0) ReflectliteValue.isNil #[.agg #[.pointer (some ⟨2, 70, none⟩), .pointer (some a), .int .u64 150]] = (ReflectliteValue.parts (.agg #[.pointer (some ⟨2, 70, none⟩), .pointer (some a), .int .u64 150]) >>= _))) ?_
  simp only [Sem.run_bind, As.partsP, Result.andThen]
  simp [ReflectliteValue.isNil, loadVar, isAgg, underlying, Tryz.underlying70, ha, Result.andThen]
theorem As.methodKind (h : Value) (w : World) : (Go.method 285 116 (.agg #[h]) "Kind").run Tryz.prog w = .ok (83, h) w := by kernel_rfl
theorem As.methodElem (h : Value) (w : World) : (Go.method 285 116 (.agg #[h]) "Elem").run Tryz.prog w = .ok (131, .agg #[h]) w := by kernel_rfl
theorem As.methodImplements (h : Value) (w : World) : (Go.method 285 116 (.agg #[h]) "Implements").run Tryz.prog w = .ok (132, .agg #[h]) w := by kernel_rfl
theorem As.methodAssignableTo (h : Value) (w : World) : (Go.method 285 116 (.agg #[h]) "AssignableTo").run Tryz.prog w = .ok (129, .agg #[h]) w := by kernel_rfl
theorem As.elem (w : World) : (ReflectliteType.method ReflectliteType.elem #[.agg #[.pointer (some ⟨2, 70, none⟩)]]).run Tryz.prog w = .ok (.iface 116 (.agg #[.pointer (some ⟨2, 69, none⟩)])) w := by kernel_rfl
theorem As.implementsE (w : World) : (ReflectliteType.relation "Implements" ReflectliteType.implements_ #[.agg #[.pointer (some ⟨2, 69, none⟩)], .iface 116 (.agg #[.pointer (some ⟨2, 61, none⟩)])]).run Tryz.prog w = .ok (.bool true) w := by kernel_rfl
theorem As.typeOf (v : Value) (w : World) : (ReflectliteType.typeOf #[.iface 69 v]).run Tryz.prog w = .ok (.iface 116 (.agg #[.pointer (some ⟨2, 69, none⟩)])) w := by kernel_rfl
theorem As.assignable (w : World) : (ReflectliteType.relation "AssignableTo" ReflectliteType.assignableTo #[.agg #[.pointer (some ⟨2, 69, none⟩)], .iface 116 (.agg #[.pointer (some ⟨2, 69, none⟩)])]).run Tryz.prog w = .ok (.bool true) w := by kernel_rfl
theorem As.valueOfE (c d : Int) (w : World) : (ReflectliteValue.unpack (.iface 69 (.agg #[.int .i64 c, .iface 65 (.agg #[.int .i64 d])]))).run Tryz.prog w
    = .ok (.agg #[.pointer (some ⟨2, 69, none⟩), .pointer (some ⟨w.heap.size, 0, none⟩), .int .u64 153]) (w.alloc (.cells #[.int .i64 c, .iface 65 (.agg #[.int .i64 d])] 69)) := by kernel_rfl
theorem As.elemOf (w : World) : (Rtype.elem? 70).run Tryz.prog w = .ok (some 69) w := by kernel_rfl
theorem As.mkE (p : Addr) (w : World) : (ReflectliteValue.mk 69 p ReflectliteValue.flagAddr).run Tryz.prog w = .ok (.agg #[.pointer (some ⟨2, 69, none⟩), .pointer (some p), .int .u64 409]) w := by kernel_rfl
theorem As.elemV (a p : Addr) (W : World) (ha : W.cell? a = some (.pointer (some p))) :
    (ReflectliteValue.method (ReflectliteValue.valueError "reflectlite.Value.Elem" 0) ReflectliteValue.elem #[.agg #[.pointer (some ⟨2, 70, none⟩), .pointer (some a), .int .u64 150]]).run Tryz.prog W
      = .ok (.agg #[.pointer (some ⟨2, 69, none⟩), .pointer (some p), .int .u64 409]) W := by
  refine Eq.trans (congrArg (fun z : Sem Value => z.run Tryz.prog W) (id rfl : ReflectliteValue.method (ReflectliteValue.valueError "reflectlite.Value.Elem" 0) ReflectliteValue.elem #[.agg #[.pointer (some ⟨2, 70, none⟩), .pointer (some a), .int .u64 150]] = (ReflectliteValue.parts (.agg #[.pointer (some ⟨2, 70, none⟩), .pointer (some a), .int .u64 150]) >>= _))) ?_
  simp only [Sem.run_bind, As.partsP, Result.andThen]
  simp [ReflectliteValue.elem, loadVar, isAgg, underlying, Tryz.underlying70, ha, Result.andThen, As.elemOf, As.mkE]
theorem As.partsEa (a : Addr) (w : World) : (ReflectliteValue.parts (.agg #[.pointer (some ⟨2, 69, none⟩), .pointer (some a), .int .u64 409])).run Tryz.prog w = .ok (some (69, a, 409)) w := by kernel_rfl
theorem As.partsE (a : Addr) (w : World) : (ReflectliteValue.parts (.agg #[.pointer (some ⟨2, 69, none⟩), .pointer (some a), .int .u64 153])).run Tryz.prog w = .ok (some (69, a, 153)) w := by kernel_rfl
theorem As.direct (w : World) : (Rtype.directlyAssignable 69 69).run Tryz.prog w = .ok true w := by kernel_rfl
theorem As.set (tb b : Nat) (c d : Int) (x y : Value) (W : World) (hb0 : W.cell? ⟨b, 0, none⟩ = some (.int .i64 c)) (hb1 : W.cell? ⟨b, 1, none⟩ = some (.iface 65 (.agg #[.int .i64 d]))) (ht0 : W.cell? ⟨tb, 0, none⟩ = some x) (ht1 : W.cell? ⟨tb, 1, none⟩ = some y) (hf0 : W.frozen? ⟨tb, 0, none⟩ = false) (hf1 : W.frozen? ⟨tb, 1, none⟩ = false) :
    (ReflectliteValue.set #[.agg #[.pointer (some ⟨2, 69, none⟩), .pointer (some ⟨tb, 0, none⟩), .int .u64 409], .agg #[.pointer (some ⟨2, 69, none⟩), .pointer (some ⟨b, 0, none⟩), .int .u64 153]]).run Tryz.prog W
      = .ok (.tuple #[]) ((W.setCell ⟨tb, 0, none⟩ (.int .i64 c)).setCell ⟨tb, 1, none⟩ (.iface 65 (.agg #[.int .i64 d]))) := by
  refine Eq.trans (congrArg (fun z : Sem Value => z.run Tryz.prog W) (id rfl : ReflectliteValue.set #[.agg #[.pointer (some ⟨2, 69, none⟩), .pointer (some ⟨tb, 0, none⟩), .int .u64 409], .agg #[.pointer (some ⟨2, 69, none⟩), .pointer (some ⟨b, 0, none⟩), .int .u64 153]] = (ReflectliteValue.parts (.agg #[.pointer (some ⟨2, 69, none⟩), .pointer (some ⟨tb, 0, none⟩), .int .u64 409]) >>= fun _ => ReflectliteValue.parts (.agg #[.pointer (some ⟨2, 69, none⟩), .pointer (some ⟨b, 0, none⟩), .int .u64 153]) >>= _))) ?_
  simp only [Sem.run_bind, As.partsEa, As.partsE, Result.andThen]
  have hl : (loadCells ⟨b, 0, none⟩ 2).run Tryz.prog W = .ok #[.int .i64 c, .iface 65 (.agg #[.int .i64 d])] W := by
    simp [loadCells, loadCellsFrom, Addr.add, hb0, hb1, Result.andThen]
  have d1 : (W.setCell ⟨tb, 0, none⟩ (.int .i64 c)).cell? ⟨tb, 1, none⟩ = some y := (World.cell?_setCell_other _ _ _ _ (by simp)).trans ht1
  have d2 : (W.setCell ⟨tb, 0, none⟩ (.int .i64 c)).frozen? ⟨tb, 1, none⟩ = false := by rw [World.frozen?_setCell]; exact hf1
  simp [ReflectliteValue.flagAddr, loadVar, isAgg, underlying, Tryz.underlying69, hl, Result.andThen, As.direct, storeVar, Value.cells, storeCells, Addr.add]
  have s1 : (store ⟨tb, 0, none⟩ (.int .i64 c)).run Tryz.prog W = .ok () (W.setCell ⟨tb, 0, none⟩ (.int .i64 c)) := by
    rw [run_store Tryz.prog W _ _ _ (by rfl)]
    simp [ht0, hf0]
  have s2 : (store ⟨tb, 1, none⟩ (.iface 65 (.agg #[.int .i64 d]))).run Tryz.prog (W.setCell ⟨tb, 0, none⟩ (.int .i64 c)) = .ok () ((W.setCell ⟨tb, 0, none⟩ (.int .i64 c)).setCell ⟨tb, 1, none⟩ (.iface 65 (.agg #[.int .i64 d]))) := by
    rw [run_store Tryz.prog _ _ _ _ (by rfl)]
    simp [d1, hf1]
  simp only [s1, s2]
set_option maxRecDepth 100000 in
set_option maxHeartbeats 4000000 in
/-- errors.As at the program's own error: true, and the target holds it; four new blocks. -/
theorem as_hit (c d : Int) (tb : Nat) (x y : Value) (w : World) (hg : w.cell? ⟨0, 0, none⟩ = some (.iface 116 (.agg #[.pointer (some ⟨2, 61, none⟩)]))) (ht0 : w.cell? ⟨tb, 0, none⟩ = some x) (ht1 : w.cell? ⟨tb, 1, none⟩ = some y) (hf0 : w.frozen? ⟨tb, 0, none⟩ = false) (hf1 : w.frozen? ⟨tb, 1, none⟩ = false) :
    Calls Tryz.prog 24 #[.iface 69 (.agg #[.int .i64 c, .iface 65 (.agg #[.int .i64 d])]), .iface 70 (.pointer (some ⟨tb, 0, none⟩))] w fun ev w' => ev = .returned (.bool true) ∧ w' = (((((w.alloc (.cells #[.pointer (some ⟨tb, 0, none⟩)] 70)).alloc (.cells #[.pointer (some ⟨2, 70, none⟩), .pointer (some ⟨w.heap.size, 0, none⟩), .int .u64 150] 92)).alloc (.cells #[.pointer (some ⟨2, 70, none⟩), .pointer (some ⟨w.heap.size, 0, none⟩), .int .u64 150] 92)).alloc (.cells #[.int .i64 c, .iface 65 (.agg #[.int .i64 d])] 69)).setCell ⟨tb, 0, none⟩ (.int .i64 c)).setCell ⟨tb, 1, none⟩ (.iface 65 (.agg #[.int .i64 d])) := by
  have h6 := @run_callFunc_extern Tryz.prog 43 _ (fun args => ReflectliteValue.unpack (args.getD 0 (.tuple #[]))) Tryz.func43 (by kernel_rfl) (by kernel_rfl) (by kernel_rfl) (by kernel_rfl)
  have h7 := @run_callFunc_extern Tryz.prog 44 _ (ReflectliteValue.methodAny (ReflectliteValue.valueError "reflectlite.Value.Type" 0) (fun t _ _ _ => ReflectliteType.toType t)) Tryz.func44 (by kernel_rfl) (by kernel_rfl) (by kernel_rfl) (by kernel_rfl)
  have h8 := @run_callFunc_extern Tryz.prog 45 _ (ReflectliteValue.method (ReflectliteValue.valueError "reflectlite.Value.IsNil" 0) ReflectliteValue.isNil) Tryz.func45 (by kernel_rfl) (by kernel_rfl) (by kernel_rfl) (by kernel_rfl)
  have h27 := @run_callFunc_extern Tryz.prog 83 _ (ReflectliteType.abiMethod fun t => do pure (.int .u8 (← Rtype.kind t))) Tryz.func83 (by kernel_rfl) (by kernel_rfl) (by kernel_rfl) (by kernel_rfl)
  have h37 := @run_callFunc_extern Tryz.prog 131 _ (ReflectliteType.method ReflectliteType.elem) Tryz.func131 (by kernel_rfl) (by kernel_rfl) (by kernel_rfl) (by kernel_rfl)
  have h38 := @run_callFunc_extern Tryz.prog 132 _ (ReflectliteType.relation "Implements" ReflectliteType.implements_) Tryz.func132 (by kernel_rfl) (by kernel_rfl) (by kernel_rfl) (by kernel_rfl)
  have h10 := @run_callFunc_extern Tryz.prog 62 _ ReflectliteType.typeOf Tryz.func62 (by kernel_rfl) (by kernel_rfl) (by kernel_rfl) (by kernel_rfl)
  have h35 := @run_callFunc_extern Tryz.prog 129 _ (ReflectliteType.relation "AssignableTo" ReflectliteType.assignableTo) Tryz.func129 (by kernel_rfl) (by kernel_rfl) (by kernel_rfl) (by kernel_rfl)
  have h11 := @run_callFunc_extern Tryz.prog 63 _ (ReflectliteValue.method (ReflectliteValue.valueError "reflectlite.Value.Elem" 0) ReflectliteValue.elem) Tryz.func63 (by kernel_rfl) (by kernel_rfl) (by kernel_rfl) (by kernel_rfl)
  have h12 := @run_callFunc_extern Tryz.prog 64 _ ReflectliteValue.set Tryz.func64 (by kernel_rfl) (by kernel_rfl) (by kernel_rfl) (by kernel_rfl)
  have tO := As.typeOf
  have mA := As.methodAssignableTo
  have a25 := As.assignable
  have v25 := As.valueOfE
  have f6 := As.valueOf
  have f7 := As.type
  have mK := As.methodKind
  have mE := As.methodElem
  have mI := As.methodImplements
  have k27 := As.kindP
  have k25 := As.kindE
  have e27 := As.elem
  have i25 := As.implementsE
  have n8 := As.isNil ⟨w.heap.size, 0, none⟩ ⟨tb, 0, none⟩ ((w.alloc (.cells #[.pointer (some ⟨tb, 0, none⟩)] 70)).alloc (.cells #[.pointer (some ⟨2, 70, none⟩), .pointer (some ⟨w.heap.size, 0, none⟩), .int .u64 150] 92)) (by simp)
  have hlt : 0 < w.heap.size := World.block_lt_of_cell? w ⟨0, 0, none⟩ hg
  have hg2 : ((w.alloc (.cells #[.pointer (some ⟨tb, 0, none⟩)] 70)).alloc (.cells #[.pointer (some ⟨2, 70, none⟩), .pointer (some ⟨w.heap.size, 0, none⟩), .int .u64 150] 92)).cell? ⟨0, 0, none⟩ = some (.iface 116 (.agg #[.pointer (some ⟨2, 61, none⟩)])) := by
    rw [World.cell?_alloc_lt _ _ ⟨0, 0, none⟩ (by simp <;> omega), World.cell?_alloc_lt _ _ ⟨0, 0, none⟩ hlt]; exact hg
  have htl : tb < w.heap.size := World.block_lt_of_cell? w ⟨tb, 0, none⟩ ht0
  have el := As.elemV ⟨w.heap.size, 0, none⟩ ⟨tb, 0, none⟩ (((w.alloc (.cells #[.pointer (some ⟨tb, 0, none⟩)] 70)).alloc (.cells #[.pointer (some ⟨2, 70, none⟩), .pointer (some ⟨w.heap.size, 0, none⟩), .int .u64 150] 92)).alloc (.cells #[.pointer (some ⟨2, 70, none⟩), .pointer (some ⟨w.heap.size, 0, none⟩), .int .u64 150] 92)) (by rw [World.cell?_alloc_lt _ _ ⟨w.heap.size, 0, none⟩ (by simp; omega)]; simp)
  have st := As.set tb (w.heap.size + 1 + 1 + 1) c d x y ((((w.alloc (.cells #[.pointer (some ⟨tb, 0, none⟩)] 70)).alloc (.cells #[.pointer (some ⟨2, 70, none⟩), .pointer (some ⟨w.heap.size, 0, none⟩), .int .u64 150] 92)).alloc (.cells #[.pointer (some ⟨2, 70, none⟩), .pointer (some ⟨w.heap.size, 0, none⟩), .int .u64 150] 92)).alloc (.cells #[.int .i64 c, .iface 65 (.agg #[.int .i64 d])] 69))
    (by rw [World.cell?_alloc_at _ _ _ _ (by simp)]; rfl)
    (by rw [World.cell?_alloc_at _ _ _ _ (by simp)]; rfl)
    (by rw [World.cell?_alloc_lt _ _ ⟨tb, 0, none⟩ (by simp; omega), World.cell?_alloc_lt _ _ ⟨tb, 0, none⟩ (by simp; omega), World.cell?_alloc_lt _ _ ⟨tb, 0, none⟩ (by simp; omega), World.cell?_alloc_lt _ _ ⟨tb, 0, none⟩ htl]; exact ht0)
    (by rw [World.cell?_alloc_lt _ _ ⟨tb, 1, none⟩ (by simp; omega), World.cell?_alloc_lt _ _ ⟨tb, 1, none⟩ (by simp; omega), World.cell?_alloc_lt _ _ ⟨tb, 1, none⟩ (by simp; omega), World.cell?_alloc_lt _ _ ⟨tb, 1, none⟩ htl]; exact ht1)
    (by rw [World.frozen?_alloc_old _ _ ⟨tb, 0, none⟩ (by simp; omega), World.frozen?_alloc_old _ _ ⟨tb, 0, none⟩ (by simp; omega), World.frozen?_alloc_old _ _ ⟨tb, 0, none⟩ (by simp; omega), World.frozen?_alloc_old _ _ ⟨tb, 0, none⟩ (Nat.ne_of_lt htl)]; exact hf0)
    (by rw [World.frozen?_alloc_old _ _ ⟨tb, 1, none⟩ (by simp; omega), World.frozen?_alloc_old _ _ ⟨tb, 1, none⟩ (by simp; omega), World.frozen?_alloc_old _ _ ⟨tb, 1, none⟩ (by simp; omega), World.frozen?_alloc_old _ _ ⟨tb, 1, none⟩ (Nat.ne_of_lt htl)]; exact hf1)
  go_enter Tryz.func24, Tryz.ntmps24
  go_wp2
  refine wp_loop_rounds 1 ?_
  rw [rounds_succ]
  go_wp2
  go_ret
  exact ⟨rfl, rfl⟩
end Go.Proofs.YtjkpingdokkkcaaGreatDoor.Er

/- errors.As at the error of a ladder, asked for as a rung's error, and at the error of a rung, asked for as a ladder's: its contracts. Helper text: no statement is claimed here. -/
namespace Go.Proofs.YtjkpingdokkkcaaGreatDoor.Em
open Go.RowKit Go.Extern.Stop Go.Stop Go.Extern

theorem assignNo (w : World) : (ReflectliteType.relation "AssignableTo" ReflectliteType.assignableTo #[.agg #[.pointer (some ⟨2, 65, none⟩)], .iface 116 (.agg #[.pointer (some ⟨2, 69, none⟩)])]).run Tryz.prog w = .ok (.bool false) w := by kernel_rfl
theorem assignNo2 (w : World) : (ReflectliteType.relation "AssignableTo" ReflectliteType.assignableTo #[.agg #[.pointer (some ⟨2, 69, none⟩)], .iface 116 (.agg #[.pointer (some ⟨2, 65, none⟩)])]).run Tryz.prog w = .ok (.bool false) w := by kernel_rfl
theorem noAs (v : Value) (xT : TypeId) (w : World) : (Instr.typeAssert (.iface 65 v) xT 121 true).run Tryz.prog w = .ok (.tuple #[.nilIface, .bool false]) w := run_typeAssert_lacksB Tryz.underlying121 (by kernel_rfl) (by kernel_rfl) v xT w
theorem noAs2 (v : Value) (xT : TypeId) (w : World) : (Instr.typeAssert (.iface 69 v) xT 121 true).run Tryz.prog w = .ok (.tuple #[.nilIface, .bool false]) w := run_typeAssert_lacksB Tryz.underlying121 (by kernel_rfl) (by kernel_rfl) v xT w
theorem noUnwrap (v : Value) (xT : TypeId) (w : World) : (Instr.typeAssert (.iface 65 v) xT 124 true).run Tryz.prog w = .ok (.tuple #[.nilIface, .bool false]) w := run_typeAssert_lacksB Tryz.underlying124 (by kernel_rfl) (by kernel_rfl) v xT w
theorem noUnwraps (v : Value) (xT : TypeId) (w : World) : (Instr.typeAssert (.iface 65 v) xT 126 true).run Tryz.prog w = .ok (.tuple #[.nilIface, .bool false]) w := run_typeAssert_lacksB Tryz.underlying126 (by kernel_rfl) (by kernel_rfl) v xT w
theorem hasUnwrap (v : Value) (xT : TypeId) (w : World) : (Instr.typeAssert (.iface 69 v) xT 124 true).run Tryz.prog w = .ok (.tuple #[.iface 69 v, .bool true]) w := run_typeAssert_hasB Tryz.underlying124 (by kernel_rfl) v xT w
theorem methodUnwrap (v : Value) (w : World) : (Go.method 285 69 v "Unwrap").run Tryz.prog w = .ok (92, v) w := by kernel_rfl
theorem unwrap_any (c : Int) (e : Value) (w : World) : Calls Tryz.prog 92 #[.agg #[.int .i64 c, e]] w fun r w' => r = .returned e ∧ Below w.heap.size w w' := by
  go_enter Tryz.func92, Tryz.ntmps92
  go_wp2
  go_ret
  exact ⟨rfl, Tr.one _ _⟩

set_option maxRecDepth 100000 in
set_option maxHeartbeats 4000000 in
/-- A ladder's error is no rung's. -/
theorem as_miss (c : Int) (t : Addr) (w : World) (hg : w.cell? ⟨0, 0, none⟩ = some (.iface 116 (.agg #[.pointer (some ⟨2, 61, none⟩)]))) :
    Calls Tryz.prog 24 #[.iface 65 (.agg #[.int .i64 c]), .iface 70 (.pointer (some t))] w fun ev w' => ev = .returned (.bool false) ∧ Below w.heap.size w w' := by
  have h6 := @run_callFunc_extern Tryz.prog 43 _ (fun args => ReflectliteValue.unpack (args.getD 0 (.tuple #[]))) Tryz.func43 (by kernel_rfl) (by kernel_rfl) (by kernel_rfl) (by kernel_rfl)
  have h7 := @run_callFunc_extern Tryz.prog 44 _ (ReflectliteValue.methodAny (ReflectliteValue.valueError "reflectlite.Value.Type" 0) (fun t _ _ _ => ReflectliteType.toType t)) Tryz.func44 (by kernel_rfl) (by kernel_rfl) (by kernel_rfl) (by kernel_rfl)
  have h8 := @run_callFunc_extern Tryz.prog 45 _ (ReflectliteValue.method (ReflectliteValue.valueError "reflectlite.Value.IsNil" 0) ReflectliteValue.isNil) Tryz.func45 (by kernel_rfl) (by kernel_rfl) (by kernel_rfl) (by kernel_rfl)
  have h27 := @run_callFunc_extern Tryz.prog 83 _ (ReflectliteType.abiMethod fun t => do pure (.int .u8 (← Rtype.kind t))) Tryz.func83 (by kernel_rfl) (by kernel_rfl) (by kernel_rfl) (by kernel_rfl)
  have h37 := @run_callFunc_extern Tryz.prog 131 _ (ReflectliteType.method ReflectliteType.elem) Tryz.func131 (by kernel_rfl) (by kernel_rfl) (by kernel_rfl) (by kernel_rfl)
  have h38 := @run_callFunc_extern Tryz.prog 132 _ (ReflectliteType.relation "Implements" ReflectliteType.implements_) Tryz.func132 (by kernel_rfl) (by kernel_rfl) (by kernel_rfl) (by kernel_rfl)
  have h10 := @run_callFunc_extern Tryz.prog 62 _ ReflectliteType.typeOf Tryz.func62 (by kernel_rfl) (by kernel_rfl) (by kernel_rfl) (by kernel_rfl)
  have h35 := @run_callFunc_extern Tryz.prog 129 _ (ReflectliteType.relation "AssignableTo" ReflectliteType.assignableTo) Tryz.func129 (by kernel_rfl) (by kernel_rfl) (by kernel_rfl) (by kernel_rfl)
  have h11 := @run_callFunc_extern Tryz.prog 63 _ (ReflectliteValue.method (ReflectliteValue.valueError "reflectlite.Value.Elem" 0) ReflectliteValue.elem) Tryz.func63 (by kernel_rfl) (by kernel_rfl) (by kernel_rfl) (by kernel_rfl)
  have h12 := @run_callFunc_extern Tryz.prog 64 _ ReflectliteValue.set Tryz.func64 (by kernel_rfl) (by kernel_rfl) (by kernel_rfl) (by kernel_rfl)
  have f6 := Er.As.valueOf
  have f7 := Er.As.type
  have mK := Er.As.methodKind
  have mE := Er.As.methodElem
  have mI := Er.As.methodImplements
  have mA := Er.As.methodAssignableTo
  have k27 := Er.As.kindP
  have k25 := Er.As.kindE
  have e27 := Er.As.elem
  have i25 := Er.As.implementsE
  have tO := Eb.As.typeOf
  have tR := Er.As.typeOf
  have aN := assignNo
  have aM := assignNo2
  have uN := noAs
  have uM := noAs2
  have u1 := noUnwrap
  have u2 := noUnwraps
  have u3 := hasUnwrap
  have mU := methodUnwrap
  have n8 := Er.As.isNil ⟨w.heap.size, 0, none⟩ t ((w.alloc (.cells #[.pointer (some t)] 70)).alloc (.cells #[.pointer (some ⟨2, 70, none⟩), .pointer (some ⟨w.heap.size, 0, none⟩), .int .u64 150] 92)) (by simp)
  have hlt : 0 < w.heap.size := World.block_lt_of_cell? w ⟨0, 0, none⟩ hg
  have hg2 : ((w.alloc (.cells #[.pointer (some t)] 70)).alloc (.cells #[.pointer (some ⟨2, 70, none⟩), .pointer (some ⟨w.heap.size, 0, none⟩), .int .u64 150] 92)).cell? ⟨0, 0, none⟩ = some (.iface 116 (.agg #[.pointer (some ⟨2, 61, none⟩)])) := by
    rw [World.cell?_alloc_lt _ _ ⟨0, 0, none⟩ (by simp <;> omega), World.cell?_alloc_lt _ _ ⟨0, 0, none⟩ hlt]; exact hg
  go_enter Tryz.func24, Tryz.ntmps24
  go_wp2
  refine wp_loop_rounds 1 ?_
  rw [rounds_succ]
  go_wp2
  go_ret
  exact ⟨rfl, ((((Below.refl _ _).alloc (Nat.le_refl _) _).alloc (by simp) _).alloc (by simp; omega) _)⟩
end Go.Proofs.YtjkpingdokkkcaaGreatDoor.Em
