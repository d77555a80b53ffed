/- errors.As at the error of a rung, asked for as a ladder's: its contract. Helper text: no statement is claimed here. -/
import Derived.Test.YtjkpingdokkkcaaGreatDoorP09
import Derived.Test.YtjkpingdokkkcaaGreatDoorP02
namespace Go.Proofs.YtjkpingdokkkcaaGreatDoor.Em
open Go.RowKit Go.Extern.Stop Go.Stop Go.Extern

set_option maxRecDepth 100000 in
set_option maxHeartbeats 8000000 in
/-- A rung's error holds a ladder's. -/
theorem as_under (i c : Int) (tb : Nat) (old : Value) (w : World) (hg : w.cell? ⟨0, 0, none⟩ = some (.iface 116 (.agg #[.pointer (some ⟨2, 61, none⟩)]))) (ht0 : w.cell? ⟨tb, 0, none⟩ = some old) (hf0 : w.frozen? ⟨tb, 0, none⟩ = false) :
    Calls Tryz.prog 24 #[.iface 69 (.agg #[.int .i64 i, .iface 65 (.agg #[.int .i64 c])]), .iface 67 (.pointer (some ⟨tb, 0, none⟩))] w fun ev w' => ev = .returned (.bool true) ∧ w'.cell? ⟨tb, 0, none⟩ = some (.int .i64 c) ∧ Tr.But tb w w' := by
  have h6 := @run_callFunc_extern Tryz.prog 43 _ (fun args => ReflectliteValue.unpack (args.getD 0 (.tuple #[]))) Tryz.func43 (by kernel_rfl) (by kernel_rfl) (by kernel_rfl) (by kernel_rfl)
  have h7 := @run_callFunc_extern Tryz.prog 44 _ (ReflectliteValue.methodAny (ReflectliteValue.valueError "reflectlite.Value.Type" 0) (fun t _ _ _ => ReflectliteType.toType t)) Tryz.func44 (by kernel_rfl) (by kernel_rfl) (by kernel_rfl) (by kernel_rfl)
  have h8 := @run_callFunc_extern Tryz.prog 45 _ (ReflectliteValue.method (ReflectliteValue.valueError "reflectlite.Value.IsNil" 0) ReflectliteValue.isNil) Tryz.func45 (by kernel_rfl) (by kernel_rfl) (by kernel_rfl) (by kernel_rfl)
  have h27 := @run_callFunc_extern Tryz.prog 83 _ (ReflectliteType.abiMethod fun t => do pure (.int .u8 (← Rtype.kind t))) Tryz.func83 (by kernel_rfl) (by kernel_rfl) (by kernel_rfl) (by kernel_rfl)
  have h37 := @run_callFunc_extern Tryz.prog 131 _ (ReflectliteType.method ReflectliteType.elem) Tryz.func131 (by kernel_rfl) (by kernel_rfl) (by kernel_rfl) (by kernel_rfl)
  have h38 := @run_callFunc_extern Tryz.prog 132 _ (ReflectliteType.relation "Implements" ReflectliteType.implements_) Tryz.func132 (by kernel_rfl) (by kernel_rfl) (by kernel_rfl) (by kernel_rfl)
  have h10 := @run_callFunc_extern Tryz.prog 62 _ ReflectliteType.typeOf Tryz.func62 (by kernel_rfl) (by kernel_rfl) (by kernel_rfl) (by kernel_rfl)
  have h35 := @run_callFunc_extern Tryz.prog 129 _ (ReflectliteType.relation "AssignableTo" ReflectliteType.assignableTo) Tryz.func129 (by kernel_rfl) (by kernel_rfl) (by kernel_rfl) (by kernel_rfl)
  have h11 := @run_callFunc_extern Tryz.prog 63 _ (ReflectliteValue.method (ReflectliteValue.valueError "reflectlite.Value.Elem" 0) ReflectliteValue.elem) Tryz.func63 (by kernel_rfl) (by kernel_rfl) (by kernel_rfl) (by kernel_rfl)
  have h12 := @run_callFunc_extern Tryz.prog 64 _ ReflectliteValue.set Tryz.func64 (by kernel_rfl) (by kernel_rfl) (by kernel_rfl) (by kernel_rfl)
  have f6 := Eb.As.valueOf
  have f7 := Eb.As.type
  have mK := Eb.As.methodKind
  have mE := Eb.As.methodElem
  have mI := Eb.As.methodImplements
  have mA := Eb.As.methodAssignableTo
  have k27 := Eb.As.kindP
  have k25 := Eb.As.kindE
  have e27 := Eb.As.elem
  have i25 := Eb.As.implementsE
  have tO := Eb.As.typeOf
  have tR := Er.As.typeOf
  have aN := assignNo
  have aM := assignNo2
  have uN := noAs
  have uM := noAs2
  have u1 := noUnwrap
  have u2 := noUnwraps
  have u3 := hasUnwrap
  have mU := methodUnwrap
  have n8 := Eb.As.isNil ⟨w.heap.size, 0, none⟩ ⟨tb, 0, none⟩ ((w.alloc (.cells #[.pointer (some ⟨tb, 0, none⟩)] 67)).alloc (.cells #[.pointer (some ⟨2, 67, none⟩), .pointer (some ⟨w.heap.size, 0, none⟩), .int .u64 150] 92)) (by simp)
  have hlt : 0 < w.heap.size := World.block_lt_of_cell? w ⟨0, 0, none⟩ hg
  have hg2 : ((w.alloc (.cells #[.pointer (some ⟨tb, 0, none⟩)] 67)).alloc (.cells #[.pointer (some ⟨2, 67, none⟩), .pointer (some ⟨w.heap.size, 0, none⟩), .int .u64 150] 92)).cell? ⟨0, 0, none⟩ = some (.iface 116 (.agg #[.pointer (some ⟨2, 61, none⟩)])) := by
    rw [World.cell?_alloc_lt _ _ ⟨0, 0, none⟩ (by simp <;> omega), World.cell?_alloc_lt _ _ ⟨0, 0, none⟩ hlt]; exact hg
  have HU : Hid (∀ W, Calls Tryz.prog 92 #[.agg #[.int .i64 i, .iface 65 (.agg #[.int .i64 c])]] W fun r w' => r = .returned (.iface 65 (.agg #[.int .i64 c])) ∧ Below W.heap.size W w') := fun W => unwrap_any i _ W
  have htl : tb < w.heap.size := World.block_lt_of_cell? w ⟨tb, 0, none⟩ ht0
  have v25 := Eb.As.valueOfE
  have a25 := Eb.As.assignable
  have hcu := Tryz.call92
  go_enter Tryz.func24, Tryz.ntmps24
  go_wp2
  refine wp_loop_rounds 2 ?_
  rw [rounds_succ]
  go_wp2_with fail
  have HB0 : Hid (Below w.heap.size w (((w.alloc (.cells #[.pointer (some ⟨tb, 0, none⟩)] 67)).alloc (.cells #[.pointer (some ⟨2, 67, none⟩), .pointer (some ⟨w.heap.size, 0, none⟩), .int .u64 150] 92)).alloc (.cells #[.pointer (some ⟨2, 67, none⟩), .pointer (some ⟨w.heap.size, 0, none⟩), .int .u64 150] 92))) := (((Below.refl _ _).alloc (Nat.le_refl _) _).alloc (by simp) _).alloc (by simp; omega) _
  have P0 : (((w.alloc (.cells #[.pointer (some ⟨tb, 0, none⟩)] 67)).alloc (.cells #[.pointer (some ⟨2, 67, none⟩), .pointer (some ⟨w.heap.size, 0, none⟩), .int .u64 150] 92)).alloc (.cells #[.pointer (some ⟨2, 67, none⟩), .pointer (some ⟨w.heap.size, 0, none⟩), .int .u64 150] 92)).cell? ⟨w.heap.size, 0, none⟩ = some (.pointer (some ⟨tb, 0, none⟩)) := by
    rw [World.cell?_alloc_lt _ _ ⟨w.heap.size, 0, none⟩ (by simp; omega), World.cell?_alloc_lt _ _ ⟨w.heap.size, 0, none⟩ (by simp)]; simp
  have HL : Hid ((((w.alloc (.cells #[.pointer (some ⟨tb, 0, none⟩)] 67)).alloc (.cells #[.pointer (some ⟨2, 67, none⟩), .pointer (some ⟨w.heap.size, 0, none⟩), .int .u64 150] 92)).alloc (.cells #[.pointer (some ⟨2, 67, none⟩), .pointer (some ⟨w.heap.size, 0, none⟩), .int .u64 150] 92)).heap[w.heap.size + 1 + 1]? = some (.cells #[.pointer (some ⟨2, 67, none⟩), .pointer (some ⟨w.heap.size, 0, none⟩), .int .u64 150] 92)) := by
    have h := Tr.last ((w.alloc (.cells #[.pointer (some ⟨tb, 0, none⟩)] 67)).alloc (.cells #[.pointer (some ⟨2, 67, none⟩), .pointer (some ⟨w.heap.size, 0, none⟩), .int .u64 150] 92)) (.cells #[.pointer (some ⟨2, 67, none⟩), .pointer (some ⟨w.heap.size, 0, none⟩), .int .u64 150] 92)
    rwa [show ((w.alloc (.cells #[.pointer (some ⟨tb, 0, none⟩)] 67)).alloc (.cells #[.pointer (some ⟨2, 67, none⟩), .pointer (some ⟨w.heap.size, 0, none⟩), .int .u64 150] 92)).heap.size = w.heap.size + 1 + 1 by simp] at h
  generalize (((w.alloc (.cells #[.pointer (some ⟨tb, 0, none⟩)] 67)).alloc (.cells #[.pointer (some ⟨2, 67, none⟩), .pointer (some ⟨w.heap.size, 0, none⟩), .int .u64 150] 92)).alloc (.cells #[.pointer (some ⟨2, 67, none⟩), .pointer (some ⟨w.heap.size, 0, none⟩), .int .u64 150] 92)) = V at *
  refine (HU.out V).mono ?_
  rintro r w1 ⟨rfl, hb1⟩
  have HB1 : Hid (Below w.heap.size w w1) := HB0.out.trans (hb1.mono HB0.out.size)
  have p0 : w1.cell? ⟨w.heap.size, 0, none⟩ = some (.pointer (some ⟨tb, 0, none⟩)) := Tr.keep2 hb1 P0
  have hL1 : w1.heap[w.heap.size + 1 + 1]? = some (.cells #[.pointer (some ⟨2, 67, none⟩), .pointer (some ⟨w.heap.size, 0, none⟩), .int .u64 150] 92) := (hb1.block _ (Array.getElem?_eq_some_iff.1 HL.out).1).trans HL.out
  have b0 : w1.cell? ⟨w.heap.size + 1 + 1, 0, none⟩ = some (.pointer (some ⟨2, 67, none⟩)) := cell_of_row _ _ 0 _ _ _ hL1
  have b1 : w1.cell? ⟨w.heap.size + 1 + 1, 1, none⟩ = some (.pointer (some ⟨w.heap.size, 0, none⟩)) := cell_of_row _ _ 1 _ _ _ hL1
  have b2 : w1.cell? ⟨w.heap.size + 1 + 1, 2, none⟩ = some (.int .u64 150) := cell_of_row _ _ 2 _ _ _ hL1
  have t1 : w1.cell? ⟨tb, 0, none⟩ = some old := (HB1.out.cell (p := ⟨tb, 0, none⟩) htl).trans ht0
  have ff1 : w1.frozen? ⟨tb, 0, none⟩ = false := (HB1.out.frozen (p := ⟨tb, 0, none⟩) htl).trans hf0
  have el := Eb.As.elemV ⟨w.heap.size, 0, none⟩ ⟨tb, 0, none⟩ w1 p0
  have htl1 : tb < w1.heap.size := Nat.lt_of_lt_of_le htl HB1.out.size
  have st := Eb.As.set ⟨tb, 0, none⟩ ⟨w1.heap.size, 0, none⟩ c old (w1.alloc (.cells #[.int .i64 c] 65))
    (by rw [World.cell?_alloc_at _ _ _ _ (by simp)]; rfl)
    (by rw [World.cell?_alloc_lt _ _ ⟨tb, 0, none⟩ htl1]; exact t1)
    (by rw [World.frozen?_alloc_old _ _ ⟨tb, 0, none⟩ (Nat.ne_of_lt htl1)]; exact ff1)
  clear hb1 hL1 HL P0
  go_wp2
  rw [rounds_succ]
  go_wp2
  go_ret
  have HB2 : Tr.But tb w (w1.setCell ⟨tb, 0, none⟩ (.int .i64 c)) := Tr.But.set (Tr.But.of HB1.out)
  exact ⟨rfl, (World.cell?_alloc_lt _ _ ⟨tb, 0, none⟩ (Nat.lt_of_lt_of_le htl HB2.size)).trans (World.cell?_setCell_same _ _ _ t1), HB2.trans (Tr.But.of (Tr.one _ _))⟩
end Go.Proofs.YtjkpingdokkkcaaGreatDoor.Em

/- TreeCheck of the program as a function of the tree, whatever the table of devices holds. Helper text: no statement is claimed here. -/
namespace Go.Proofs.YtjkpingdokkkcaaGreatDoor.Tr
open Go.ChangeShapes Go.WideShapes Go.ChangeAt Go.RowKit
open Tb (Tab DevTab conB coilB)

/-- The type of errors, as package errors keeps it. -/
def ErrT (w : World) : Prop := w.cell? ⟨0, 0, none⟩ = some (.iface 116 (.agg #[.pointer (some ⟨2, 61, none⟩)]))
theorem ErrT.to {w w' : World} (h : ErrT w) (hb : Below w.heap.size w w') : ErrT w' := keep2 hb h
def codeW : Option (Int × Option Nat) → Int
  | none => 0
  | some (c, _) => c
def rungW : Option (Int × Option Nat) → Nat
  | some (_, some i) => i
  | _ => 0
/-- What TreeCheck answers. -/
def faultV (R : Option (Int × Option Nat)) : Value := .agg #[.int .i64 (codeW R), .int .i64 (rungW R : Int)]

theorem asBad_hit (c : Int) (tb : Nat) (old : Value) (w : World) (hg : ErrT w) (ht0 : w.cell? ⟨tb, 0, none⟩ = some old) (hf0 : w.frozen? ⟨tb, 0, none⟩ = false) :
    Calls Tryz.prog 24 #[.iface 65 (.agg #[.int .i64 c]), .iface 67 (.pointer (some ⟨tb, 0, none⟩))] w fun ev w' => ev = .returned (.bool true) ∧ w'.cell? ⟨tb, 0, none⟩ = some (.int .i64 c) ∧ But tb w w' := by
  have htl : tb < w.heap.size := World.block_lt_of_cell? w ⟨tb, 0, none⟩ ht0
  refine (Eb.as_hit c ⟨tb, 0, none⟩ old w hg ht0 hf0).mono ?_
  rintro r w' ⟨rfl, rfl⟩
  have hb : Below w.heap.size w ((((w.alloc (.cells #[.pointer (some ⟨tb, 0, none⟩)] 67)).alloc (.cells #[.pointer (some ⟨2, 67, none⟩), .pointer (some ⟨w.heap.size, 0, none⟩), .int .u64 150] 92)).alloc (.cells #[.pointer (some ⟨2, 67, none⟩), .pointer (some ⟨w.heap.size, 0, none⟩), .int .u64 150] 92)).alloc (.cells #[.int .i64 c] 65)) :=
    ((((Below.refl _ _).alloc (Nat.le_refl _) _).alloc (by simp) _).alloc (by simp; omega) _).alloc (by simp; omega) _
  exact ⟨rfl, World.cell?_setCell_same _ _ _ ((hb.cell (p := ⟨tb, 0, none⟩) htl).trans ht0), But.set (But.of hb)⟩
theorem asRung_hit (i c : Int) (tb : Nat) (x y : Value) (w : World) (hg : ErrT w) (ht0 : w.cell? ⟨tb, 0, none⟩ = some x) (ht1 : w.cell? ⟨tb, 1, none⟩ = some y) (hf0 : w.frozen? ⟨tb, 0, none⟩ = false) (hf1 : w.frozen? ⟨tb, 1, none⟩ = false) :
    Calls Tryz.prog 24 #[.iface 69 (.agg #[.int .i64 i, .iface 65 (.agg #[.int .i64 c])]), .iface 70 (.pointer (some ⟨tb, 0, none⟩))] w fun ev w' => ev = .returned (.bool true) ∧ w'.cell? ⟨tb, 0, none⟩ = some (.int .i64 i) ∧ But tb w w' := by
  have htl : tb < w.heap.size := World.block_lt_of_cell? w ⟨tb, 0, none⟩ ht0
  refine (Er.as_hit i c tb x y w hg ht0 ht1 hf0 hf1).mono ?_
  rintro r w' ⟨rfl, rfl⟩
  have hb : Below w.heap.size w ((((w.alloc (.cells #[.pointer (some ⟨tb, 0, none⟩)] 70)).alloc (.cells #[.pointer (some ⟨2, 70, none⟩), .pointer (some ⟨w.heap.size, 0, none⟩), .int .u64 150] 92)).alloc (.cells #[.pointer (some ⟨2, 70, none⟩), .pointer (some ⟨w.heap.size, 0, none⟩), .int .u64 150] 92)).alloc (.cells #[.int .i64 i, .iface 65 (.agg #[.int .i64 c])] 69)) :=
    ((((Below.refl _ _).alloc (Nat.le_refl _) _).alloc (by simp) _).alloc (by simp; omega) _).alloc (by simp; omega) _
  exact ⟨rfl, (World.cell?_setCell_other _ _ _ _ (by simp)).trans (World.cell?_setCell_same _ _ _ ((hb.cell (p := ⟨tb, 0, none⟩) htl).trans ht0)), But.set (But.set (But.of hb))⟩

theorem resFault {fn : Func} {W : World} {b p : Nat} {tmps : Array Value} {x y : Value} (h : fn.results = #[.cell p 33]) (hp : tmps.getD p undef = .pointer (some ⟨b, 0, none⟩))
    (hc : W.cell? ⟨b, 0, none⟩ = some x ∧ W.cell? ⟨b, 1, none⟩ = some y) : (results fn tmps).run Tryz.prog W = .ok (.agg #[x, y]) W := by
  obtain ⟨h0, h1⟩ := hc
  simp only [results, h]
  simp [go_sem]
  rw [show tmps[p]?.getD undef = .pointer (some ⟨b, 0, none⟩) by simpa [Array.getD_eq_getD_getElem?] using hp]
  simp [go_sem, h0, h1]
/-- Two cells of the call's own. -/
structure OwnF (w : World) (b : Nat) (x y : Value) : Prop where
  c0 : w.cell? ⟨b, 0, none⟩ = some x
  c1 : w.cell? ⟨b, 1, none⟩ = some y
  f0 : w.frozen? ⟨b, 0, none⟩ = false
  f1 : w.frozen? ⟨b, 1, none⟩ = false
theorem OwnF.lt {w : World} {b : Nat} {x y : Value} (h : OwnF w b x y) : b < w.heap.size := World.block_lt_of_cell? w ⟨b, 0, none⟩ h.c0
theorem OwnF.but {C : Nat} {w w' : World} {b : Nat} {x y : Value} (h : OwnF w b x y) (hb : But C w w') (hc : b ≠ C) : OwnF w' b x y :=
  ⟨hb.cell hc h.c0, hb.cell hc h.c1, (World.frozen?_of_block (w := w) (hb.block b h.lt hc)).trans h.f0, (World.frozen?_of_block (w := w) (hb.block b h.lt hc)).trans h.f1⟩
theorem OwnF.to {w w' : World} {b : Nat} {x y : Value} (h : OwnF w b x y) (hb : Below w.heap.size w w') : OwnF w' b x y := h.but (C := w.heap.size) (But.of hb) (Nat.ne_of_lt h.lt)
theorem OwnF.row {w : World} {b : Nat} {x y : Value} {t : TypeId} (h : w.heap[b]? = some (.cells #[x, y] t (0, 0))) : OwnF w b x y := ⟨cell_of_row _ _ 0 _ _ _ h, cell_of_row _ _ 1 _ _ _ h, frozen_of_row _ _ 0 _ _ h, frozen_of_row _ _ 1 _ _ h⟩
theorem OwnF.set0 {w : World} {b : Nat} {x y v : Value} (h : OwnF w b x y) : OwnF (w.setCell ⟨b, 0, none⟩ v) b v y :=
  ⟨World.cell?_setCell_same _ _ _ h.c0, (World.cell?_setCell_other _ _ _ _ (by simp)).trans h.c1, by rw [World.frozen?_setCell]; exact h.f0, by rw [World.frozen?_setCell]; exact h.f1⟩
theorem OwnF.set1 {w : World} {b : Nat} {x y v : Value} (h : OwnF w b x y) : OwnF (w.setCell ⟨b, 1, none⟩ v) b x v :=
  ⟨(World.cell?_setCell_other _ _ _ _ (by simp)).trans h.c0, World.cell?_setCell_same _ _ _ h.c1, by rw [World.frozen?_setCell]; exact h.f0, by rw [World.frozen?_setCell]; exact h.f1⟩
theorem OwnF.other {w : World} {b d i : Nat} {x y v : Value} (h : OwnF w b x y) (hd : b ≠ d) : OwnF (w.setCell ⟨d, i, none⟩ v) b x y := h.but (But.set (But.refl d w)) hd
theorem below_but {C : Nat} {a w w' : World} (h : Below a.heap.size a w) (hb : But C w w') (hN : a.heap.size ≤ C) : Below a.heap.size a w' := h.trans (hb.below h.size hN)

set_option maxHeartbeats 4000000 in
set_option maxRecDepth 100000 in
theorem check_of (p : Option Addr) (le cap : Nat) (err : Value) (b1 b2 : Bool) (c i : Int) (w : World) (hE : ErrT w)
    (HW : Hid (∀ W, Below w.heap.size w W → Calls Tryz.prog 23 #[.slice p le cap] W fun r w' => r = .returned err ∧ Below W.heap.size W w'))
    (HA : Hid (∀ W G, ErrT W → (∃ old, W.cell? ⟨G, 0, none⟩ = some old) → W.frozen? ⟨G, 0, none⟩ = false → Calls Tryz.prog 24 #[err, .iface 67 (.pointer (some ⟨G, 0, none⟩))] W fun e w' => e = .returned (.bool b1) ∧ (b1 = true → w'.cell? ⟨G, 0, none⟩ = some (.int .i64 c)) ∧ But G W w'))
    (HR : Hid (∀ W G, ErrT W → (∃ x y, OwnF W G x y) → Calls Tryz.prog 24 #[err, .iface 70 (.pointer (some ⟨G, 0, none⟩))] W fun e w' => e = .returned (.bool b2) ∧ (b2 = true → w'.cell? ⟨G, 0, none⟩ = some (.int .i64 i)) ∧ But G W w')) :
    Calls Tryz.prog 9 #[.slice p le cap] w fun r w' => r = .returned (.agg #[.int .i64 (if b1 then c else 0), .int .i64 (if b2 then i else 0)]) ∧ Below w.heap.size w w' := by
  have HE : Hid (ErrT w) := hE
  clear hE
  go_enter Tryz.func9, Tryz.ntmps9
  go_wp2_with fail
  refine (HW.out _ (one _ _)).mono ?_
  rintro r w1 ⟨rfl, hb1⟩
  have HB1 : Hid (Below w.heap.size w w1) := of_one hb1
  have HO1 : Hid (OwnF w1 w.heap.size (.int .i64 0) (.int .i64 0)) := (OwnF.row (last _ _)).to hb1
  have hlt1 : w.heap.size < w1.heap.size := HO1.out.lt
  clear hb1
  go_wp2_with fail
  have HB3 : Hid (Below w.heap.size w ((w1.alloc (.cells #[.int .i64 0, .int .i64 0] 33)).alloc (.cells #[.int .i64 0] 65))) := HB1.out.trans ((two' _ _ _).mono HB1.out.size)
  have HO3 : Hid (OwnF ((w1.alloc (.cells #[.int .i64 0, .int .i64 0] 33)).alloc (.cells #[.int .i64 0] 65)) w.heap.size (.int .i64 0) (.int .i64 0)) := HO1.out.to (two' _ _ _)
  have HF3 : Hid (OwnF ((w1.alloc (.cells #[.int .i64 0, .int .i64 0] 33)).alloc (.cells #[.int .i64 0] 65)) w1.heap.size (.int .i64 0) (.int .i64 0)) := (OwnF.row (last _ _)).to (one _ _)
  have hG : ((w1.alloc (.cells #[.int .i64 0, .int .i64 0] 33)).alloc (.cells #[.int .i64 0] 65)).heap[w1.heap.size + 1]? = some (.cells #[.int .i64 0] 65 (0, 0)) := by
    have h := last (w1.alloc (.cells #[.int .i64 0, .int .i64 0] 33)) (.cells #[.int .i64 0] 65)
    rwa [show (w1.alloc (.cells #[.int .i64 0, .int .i64 0] 33)).heap.size = w1.heap.size + 1 by simp] at h
  generalize ((w1.alloc (.cells #[.int .i64 0, .int .i64 0] 33)).alloc (.cells #[.int .i64 0] 65)) = w3 at *
  refine (HA.out w3 (w1.heap.size + 1) (HE.out.to HB3.out) ⟨_, cell_of_row _ _ 0 _ _ _ hG⟩ (frozen_of_row _ _ 0 _ _ hG)).mono ?_
  rintro r w4 ⟨rfl, hc4, hb4⟩
  have HB4 : Hid (Below w.heap.size w w4) := below_but HB3.out hb4 (by omega)
  have HO4 : Hid (OwnF w4 w.heap.size (.int .i64 0) (.int .i64 0)) := HO3.out.but hb4 (by omega)
  have HF4 : Hid (OwnF w4 w1.heap.size (.int .i64 0) (.int .i64 0)) := HF3.out.but hb4 (by omega)
  clear hb4 hG HB3 HO3 HF3
  have hn1 : w.heap.size ≠ w1.heap.size := by omega
  cases b1 with
  | true =>
    have c4 := hc4 rfl
    have f00 := HF4.out.c0
    have f01 := HF4.out.f0
    go_wp2_with fail
    have HB5 : Hid (Below w.heap.size w ((w4.setCell ⟨w1.heap.size, 0, none⟩ (.int .i64 c)).alloc (.cells #[.int .i64 0, .nilIface] 69))) := below_but (below_but HB4.out (But.set (But.refl w1.heap.size _)) (by omega)) (But.of (one _ _) : But ((w4.setCell ⟨w1.heap.size, 0, none⟩ (.int .i64 c)).heap.size) _ _) (by simp [World.setCell]; exact HB4.out.size)
    have HO5 : Hid (OwnF ((w4.setCell ⟨w1.heap.size, 0, none⟩ (.int .i64 c)).alloc (.cells #[.int .i64 0, .nilIface] 69)) w.heap.size (.int .i64 0) (.int .i64 0)) := (HO4.out.other hn1).to (one _ _)
    have HF5 : Hid (OwnF ((w4.setCell ⟨w1.heap.size, 0, none⟩ (.int .i64 c)).alloc (.cells #[.int .i64 0, .nilIface] 69)) w1.heap.size (.int .i64 c) (.int .i64 0)) := (HF4.out.set0).to (one _ _)
    have HG5 : Hid (OwnF ((w4.setCell ⟨w1.heap.size, 0, none⟩ (.int .i64 c)).alloc (.cells #[.int .i64 0, .nilIface] 69)) w4.heap.size (.int .i64 0) .nilIface) := by
      have h := last (w4.setCell ⟨w1.heap.size, 0, none⟩ (.int .i64 c)) (.cells #[.int .i64 0, .nilIface] 69)
      rw [show (w4.setCell ⟨w1.heap.size, 0, none⟩ (.int .i64 c)).heap.size = w4.heap.size by simp [World.setCell]] at h
      exact OwnF.row h
    have hl4 : w1.heap.size < w4.heap.size := HF4.out.lt
    generalize (w4.setCell ⟨w1.heap.size, 0, none⟩ (.int .i64 c)).alloc (.cells #[.int .i64 0, .nilIface] 69) = w5 at *
    refine (HR.out w5 w4.heap.size (HE.out.to HB5.out) ⟨_, _, HG5.out⟩).mono ?_
    rintro r w6 ⟨rfl, hc6, hb6⟩
    have HB6 : Hid (Below w.heap.size w w6) := below_but HB5.out hb6 (by omega)
    have HO6 : Hid (OwnF w6 w.heap.size (.int .i64 0) (.int .i64 0)) := HO5.out.but hb6 (by omega)
    have HF6 : Hid (OwnF w6 w1.heap.size (.int .i64 c) (.int .i64 0)) := HF5.out.but hb6 (by omega)
    have o0 := HO6.out.c0
    have o1 := HO6.out.c1
    have o2 := HO6.out.f0
    have o3 := HO6.out.f1
    have g0 := HF6.out.c0
    have g1 := HF6.out.c1
    have g2 := HF6.out.f0
    have g3 := HF6.out.f1
    clear hb6 HB5 HO5 HF5 HG5
    cases b2 with
    | true =>
      have c6 := hc6 rfl
      clear hc6
      go_wp2
      exact bodyPost_ret (v := .agg #[.int .i64 c, .int .i64 i]) (resFault (b := w.heap.size) Tryz.results9 rfl ⟨(((HO6.out.other hn1).set0).set1).c0, (((HO6.out.other hn1).set0).set1).c1⟩) rfl ⟨rfl, below_but (below_but (below_but HB6.out (But.set (But.refl w1.heap.size _)) (by omega)) (But.set (But.refl w.heap.size _)) (Nat.le_refl _)) (But.set (But.refl w.heap.size _)) (Nat.le_refl _)⟩
    | false =>
      clear hc6
      go_wp2
      exact bodyPost_ret (v := .agg #[.int .i64 c, .int .i64 0]) (resFault (b := w.heap.size) Tryz.results9 rfl ⟨((HO6.out.set0).set1).c0, ((HO6.out.set0).set1).c1⟩) rfl ⟨rfl, below_but (below_but HB6.out (But.set (But.refl w.heap.size _)) (Nat.le_refl _)) (But.set (But.refl w.heap.size _)) (Nat.le_refl _)⟩
  | false =>
    clear hc4
    go_wp2_with fail
    have HB5 : Hid (Below w.heap.size w (w4.alloc (.cells #[.int .i64 0, .nilIface] 69))) := below_but (below_but HB4.out (But.refl w1.heap.size _) (by omega)) (But.of (one _ _) : But (w4.heap.size) _ _) (HB4.out.size)
    have HO5 : Hid (OwnF (w4.alloc (.cells #[.int .i64 0, .nilIface] 69)) w.heap.size (.int .i64 0) (.int .i64 0)) := HO4.out.to (one _ _)
    have HF5 : Hid (OwnF (w4.alloc (.cells #[.int .i64 0, .nilIface] 69)) w1.heap.size (.int .i64 0) (.int .i64 0)) := HF4.out.to (one _ _)
    have HG5 : Hid (OwnF (w4.alloc (.cells #[.int .i64 0, .nilIface] 69)) w4.heap.size (.int .i64 0) .nilIface) := OwnF.row (last _ _)
    have hl4 : w1.heap.size < w4.heap.size := HF4.out.lt
    generalize w4.alloc (.cells #[.int .i64 0, .nilIface] 69) = w5 at *
    refine (HR.out w5 w4.heap.size (HE.out.to HB5.out) ⟨_, _, HG5.out⟩).mono ?_
    rintro r w6 ⟨rfl, hc6, hb6⟩
    have HB6 : Hid (Below w.heap.size w w6) := below_but HB5.out hb6 (by omega)
    have HO6 : Hid (OwnF w6 w.heap.size (.int .i64 0) (.int .i64 0)) := HO5.out.but hb6 (by omega)
    have HF6 : Hid (OwnF w6 w1.heap.size (.int .i64 0) (.int .i64 0)) := HF5.out.but hb6 (by omega)
    have o0 := HO6.out.c0
    have o1 := HO6.out.c1
    have o2 := HO6.out.f0
    have o3 := HO6.out.f1
    have g0 := HF6.out.c0
    have g1 := HF6.out.c1
    have g2 := HF6.out.f0
    have g3 := HF6.out.f1
    clear hb6 HB5 HO5 HF5 HG5
    cases b2 with
    | true =>
      have c6 := hc6 rfl
      clear hc6
      go_wp2
      exact bodyPost_ret (v := .agg #[.int .i64 0, .int .i64 i]) (resFault (b := w.heap.size) Tryz.results9 rfl ⟨(((HO6.out.other hn1).set0).set1).c0, (((HO6.out.other hn1).set0).set1).c1⟩) rfl ⟨rfl, below_but (below_but (below_but HB6.out (But.set (But.refl w1.heap.size _)) (by omega)) (But.set (But.refl w.heap.size _)) (Nat.le_refl _)) (But.set (But.refl w.heap.size _)) (Nat.le_refl _)⟩
    | false =>
      clear hc6
      go_wp2
      exact bodyPost_ret (v := .agg #[.int .i64 0, .int .i64 0]) (resFault (b := w.heap.size) Tryz.results9 rfl ⟨((HO6.out.set0).set1).c0, ((HO6.out.set0).set1).c1⟩) rfl ⟨rfl, below_but (below_but HB6.out (But.set (But.refl w.heap.size _)) (Nat.le_refl _)) (But.set (But.refl w.heap.size _)) (Nat.le_refl _)⟩
end Go.Proofs.YtjkpingdokkkcaaGreatDoor.Tr

/- TreeCheck of the program is a function of the tree and of what the table of devices holds. Helper text: no statement is claimed here. -/
namespace Go.Proofs.YtjkpingdokkkcaaGreatDoor.Tr
open Go.ChangeShapes Go.WideShapes Go.ChangeAt Go.RowKit
open Tb (Tab DevTab conB coilB)

theorem check_any (T : Tab) (k n : Nat) (S : Nat → Prop) (w : World) (hT : DevTab T w) (hE : ErrT w) (hSw : ∀ b, S b → b < w.heap.size) (p : Option Addr) (cap : Nat) (es : List (AT k (n + 1))) (hV : SlOf S (AmE S w k (n + 1)) 6 p cap es) (hz : zAs k (n + 1) es ≤ 1048576) :
    Calls Tryz.prog 9 #[.slice p es.length cap] w fun r w' => r = .returned (faultV (wrongL T k n es)) ∧ Below w.heap.size w w' := by
  have HW : Hid (∀ W, Below w.heap.size w W → Calls Tryz.prog 23 #[.slice p es.length cap] W fun r w' => r = .returned (errW (wrongL T k n es)) ∧ Below W.heap.size W w') :=
    fun W hW => wrong_any T k n S W (hT.to hW) (fun b hb => Nat.lt_of_lt_of_le (hSw b hb) hW.size) p cap es (arms_to (Keep.of hW hSw) (fun _ h => h) hV) hz
  clear hT hSw hV hz
  generalize wrongL T k n es = R at *
  generalize es.length = le at *
  match R, HW with
  | none, HW =>
    refine check_of p le cap .nilIface false false 0 0 w hE HW (fun W G _ _ _ => ?_) (fun W G _ _ => ?_)
    · refine (Eb.as_nil _ W).mono ?_
      rintro r w' ⟨rfl, rfl⟩
      exact ⟨rfl, fun h => (by cases h), But.refl _ _⟩
    · refine (Eb.as_nil _ W).mono ?_
      rintro r w' ⟨rfl, rfl⟩
      exact ⟨rfl, fun h => (by cases h), But.refl _ _⟩
  | some (c, none), HW =>
    refine check_of p le cap (.iface 65 (.agg #[.int .i64 c])) true false c 0 w hE HW (fun W G hg h1 h2 => ?_) (fun W G hg _ => ?_)
    · obtain ⟨old, h1⟩ := h1
      refine (asBad_hit c G old W hg h1 h2).mono ?_
      rintro r w' ⟨rfl, h3, h4⟩
      exact ⟨rfl, fun _ => h3, h4⟩
    · refine (Em.as_miss c _ W hg).mono ?_
      rintro r w' ⟨rfl, h4⟩
      exact ⟨rfl, fun h => (by cases h), But.of h4⟩
  | some (c, some i), HW =>
    refine check_of p le cap (.iface 69 (.agg #[.int .i64 (i : Int), .iface 65 (.agg #[.int .i64 c])])) true true c i w hE HW (fun W G hg h1 h2 => ?_) (fun W G hg h1 => ?_)
    · obtain ⟨old, h1⟩ := h1
      refine (Em.as_under i c G old W hg h1 h2).mono ?_
      rintro r w' ⟨rfl, h3, h4⟩
      exact ⟨rfl, fun _ => h3, h4⟩
    · obtain ⟨x, y, h1⟩ := h1
      refine (asRung_hit i c G x y W hg h1.c0 h1.c1 h1.f0 h1.f1).mono ?_
      rintro r w' ⟨rfl, h3, h4⟩
      exact ⟨rfl, fun _ => h3, h4⟩
end Go.Proofs.YtjkpingdokkkcaaGreatDoor.Tr

/- The program's TreeSame. Helper text: no statement is claimed here. -/
namespace Go.Proofs.YtjkpingdokkkcaaGreatDoor.Tr
open Go.ChangeShapes Go.WideShapes Go.ChangeAt Go.RowKit
attribute [local go_sem] store_func

set_option maxHeartbeats 1000000 in
theorem iEls_any {S S2 : Nat → Prop} {w : World} (hSw : ∀ b, S b → b < w.heap.size) (hSw2 : ∀ b, S2 b → b < w.heap.size) (p p2 : Option Addr) (cap cap2 : Nat) (es fs : List El) (hV : SlOf S (ElE S w) 2 p cap es) (hV2 : SlOf S2 (ElE S2 w) 2 p2 cap2 fs) :
    Calls Tryz.prog 18 #[.slice p es.length cap, .slice p2 fs.length cap2, .func (.func 19) #[] #[]] w
      fun r w' => r = .returned (.bool (eqL eqE es fs)) ∧ Below w.heap.size w w' := by
  have HV : Hid (SlOf S (ElE S w) 2 p cap es) := hV
  have HV2 : Hid (SlOf S2 (ElE S2 w) 2 p2 cap2 fs) := hV2
  have HSw : Hid (∀ b, S b → b < w.heap.size) := hSw
  have HSw2 : Hid (∀ b, S2 b → b < w.heap.size) := hSw2
  obtain ⟨⟨hl1, hl2⟩, -⟩ := hV
  obtain ⟨⟨hl3, hl4⟩, -⟩ := hV2
  clear hSw hSw2
  obtain ⟨R, hR⟩ : ∃ R : Bool, R = eqL eqE es fs := ⟨_, rfl⟩
  rw [← hR]
  have HR : Hid (R = eqL eqE es fs) := hR
  clear hR
  by_cases hlen : es.length = fs.length
  · have HL : Hid (es.length = fs.length) := hlen
    rw [← hlen]
    rw [← hlen] at hl3
    clear hlen hl4
    go_enter Tryz.func18, Tryz.ntmps18
    go_wp2
    go_loopw [17] (fun d w' => ∃ j : Nat, j ≤ es.length ∧ d = .int .i64 (j : Int) ∧ Hid (UpTo eqE es fs j) ∧ Hid (Below w.heap.size w w')) (fun d _ => es.length - (intOf d).toNat)
    case atStart => exact ⟨0, by omega, rfl, UpTo.zero, Below.refl _ _⟩
    case round =>
      obtain ⟨j, hj, rfl, HP, HB⟩ := hrel
      rename_i wr
      by_cases hlt : j < es.length
      · have hlt' : (j : Int) < (es.length : Int) := by omega
        obtain ⟨t, ht⟩ := get_lt hlt
        obtain ⟨u, hu⟩ := get_lt (ts := fs) (j := j) (HL.out ▸ hlt)
        obtain ⟨b, off, rfl, hb, pa, ca, c0, c1, hN⟩ := (els_to (Keep.of HB.out HSw.out) (fun _ h => h) HV.out).get ht
        obtain ⟨b', off', rfl, hb', pa2, ca2, d0, d1, hN2⟩ := (els_to (Keep.of HB.out HSw2.out) (fun _ h => h) HV2.out).get hu
        have hbl : b < wr.heap.size := World.block_lt_of_cell? _ _ c0
        have hbl2 : b' < wr.heap.size := World.block_lt_of_cell? _ _ d0
        have HC : Hid (∀ W, Below wr.heap.size wr W → Calls Tryz.prog 19 #[.agg #[.int .i64 t.1, .slice pa t.2.length ca], .agg #[.int .i64 u.1, .slice pa2 u.2.length ca2]] W
            fun r w' => r = .returned (.bool (eqE t u)) ∧ Below W.heap.size W w') := fun W hW => by
          have hS1 : ∀ b, S b → b < wr.heap.size := fun b hb => Nat.lt_of_lt_of_le (HSw.out b hb) HB.out.size
          have hS2 : ∀ b, S2 b → b < wr.heap.size := fun b hb => Nat.lt_of_lt_of_le (HSw2.out b hb) HB.out.size
          exact iElem_any (S := S) (S2 := S2) (fun b hb => Nat.lt_of_lt_of_le (hS1 b hb) hW.size) (fun b hb => Nat.lt_of_lt_of_le (hS2 b hb) hW.size) _ _ t u ⟨pa, ca, rfl, args_to (Keep.of hW hS1) (fun _ h => h) hN⟩ ⟨pa2, ca2, rfl, args_to (Keep.of hW hS2) (fun _ h => h) hN2⟩
        have HT : Hid (es[j]? = some t) := ht
        have HU : Hid (fs[j]? = some u) := hu
        clear ht hu hN hN2
        cases hq : eqE t u with
        | true =>
          have HQ : Hid (eqE t u = true) := hq
          rw [hq] at HC
          clear hq HR
          go_wp2_with fail
          refine (HC.out _ (two' _ _ _)).mono ?_
          rintro r w1 ⟨rfl, hb1⟩
          have HBq : Hid (Below w.heap.size w w1) := HB.out.trans ((of_two' hb1).mono HB.out.size)
          clear hb1 c0 c1 d0 d1 HC
          go_wp2
          exact ⟨⟨j + 1, by omega, by go_num, HP.out.next HT.out HU.out HQ.out, HBq⟩, by simp [intOf]; omega⟩
        | false =>
          have HR1 : Hid (R = false) := HR.out.trans (eqL_no j HT.out HU.out hq)
          rw [hq] at HC
          clear hq
          go_wp2_with fail
          refine (HC.out _ (two' _ _ _)).mono ?_
          rintro r w1 ⟨rfl, hb1⟩
          have HBq : Hid (Below w.heap.size w w1) := HB.out.trans ((of_two' hb1).mono HB.out.size)
          clear hb1 c0 c1 d0 d1 HC
          go_wp2
          go_ret
          exact ⟨by rw [HR1.out]; rfl, HBq.out⟩
      · obtain rfl : j = es.length := by omega
        have HR1 : Hid (R = true) := HR.out.trans (HP.out.all HL.out)
        go_wp2
        go_ret
        exact ⟨by rw [HR1.out]; rfl, HB.out⟩
  · have hlen' : ¬ (es.length : Int) = (fs.length : Int) := by omega
    have HR1 : Hid (R = false) := HR.out.trans (eqL_len hlen)
    go_enter Tryz.func18, Tryz.ntmps18
    go_wp2
    go_ret
    exact ⟨by rw [HR1.out]; rfl, Below.refl _ _⟩

/-- The cell in which TreeSame keeps its own function. -/
def CloA (B : Nat) (w : World) : Prop := w.heap[B]? = some (.cells #[.func (.func 16) #[] #[.pointer (some ⟨B, 0, none⟩)]] 43 (0, 0))
theorem CloA.lt {B : Nat} {w : World} (h : CloA B w) : B < w.heap.size := (Array.getElem?_eq_some_iff.1 h).1
theorem CloA.to {B : Nat} {w w' : World} (h : CloA B w) (hb : Below w.heap.size w w') : CloA B w' := (hb.block B h.lt).trans h
def SameA (k n : Nat) : Prop := ∀ (S S2 : Nat → Prop) (w : World) (_ : ∀ b, S b → b < w.heap.size) (_ : ∀ b, S2 b → b < w.heap.size) (B : Nat) (_ : CloA B w) (v v2 : Value) (t t2 : AT k n) (_ : AmV S w k n v t) (_ : AmV S2 w k n v2 t2),
    Calls Tryz.prog 16 #[v, v2, .pointer (some ⟨B, 0, none⟩)] w fun r w' => r = .returned (.bool (eqA k n t t2)) ∧ Below w.heap.size w w'

set_option maxHeartbeats 1000000 in
theorem iArms_any {S S2 : Nat → Prop} {w : World} (hSw : ∀ b, S b → b < w.heap.size) (hSw2 : ∀ b, S2 b → b < w.heap.size) (k n : Nat) (IH : Hid (SameA k n)) (B : Nat) (hB : CloA B w) (p p2 : Option Addr) (cap cap2 : Nat) (es fs : List (AT k n)) (hV : SlOf S (AmE S w k n) 6 p cap es) (hV2 : SlOf S2 (AmE S2 w k n) 6 p2 cap2 fs) :
    Calls Tryz.prog 20 #[.slice p es.length cap, .slice p2 fs.length cap2, .func (.func 16) #[] #[.pointer (some ⟨B, 0, none⟩)]] w
      fun r w' => r = .returned (.bool (eqL (eqA k n) es fs)) ∧ Below w.heap.size w w' := by
  have HV : Hid (SlOf S (AmE S w k n) 6 p cap es) := hV
  have HV2 : Hid (SlOf S2 (AmE S2 w k n) 6 p2 cap2 fs) := hV2
  have HSw : Hid (∀ b, S b → b < w.heap.size) := hSw
  have HSw2 : Hid (∀ b, S2 b → b < w.heap.size) := hSw2
  have HCl : Hid (CloA B w) := hB
  obtain ⟨⟨hl1, hl2⟩, -⟩ := hV
  obtain ⟨⟨hl3, hl4⟩, -⟩ := hV2
  clear hSw hSw2 hB
  obtain ⟨R, hR⟩ : ∃ R : Bool, R = eqL (eqA k n) es fs := ⟨_, rfl⟩
  rw [← hR]
  have HR : Hid (R = eqL (eqA k n) es fs) := hR
  clear hR
  by_cases hlen : es.length = fs.length
  · have HL : Hid (es.length = fs.length) := hlen
    rw [← hlen]
    rw [← hlen] at hl3
    clear hlen hl4
    go_enter Tryz.func20, Tryz.ntmps20
    go_wp2
    go_loopw [17] (fun d w' => ∃ j : Nat, j ≤ es.length ∧ d = .int .i64 (j : Int) ∧ Hid (UpTo (eqA k n) es fs j) ∧ Hid (Below w.heap.size w w')) (fun d _ => es.length - (intOf d).toNat)
    case atStart => exact ⟨0, by omega, rfl, UpTo.zero, Below.refl _ _⟩
    case round =>
      obtain ⟨j, hj, rfl, HP, HB⟩ := hrel
      rename_i wr
      by_cases hlt : j < es.length
      · have hlt' : (j : Int) < (es.length : Int) := by omega
        obtain ⟨t, ht⟩ := get_lt hlt
        obtain ⟨u, hu⟩ := get_lt (ts := fs) (j := j) (HL.out ▸ hlt)
        obtain ⟨b, off, rfl, hb, hE⟩ := (arms_to (Keep.of HB.out HSw.out) (fun _ h => h) HV.out).get ht
        obtain ⟨b', off', rfl, hb', hE2⟩ := (arms_to (Keep.of HB.out HSw2.out) (fun _ h => h) HV2.out).get hu
        obtain ⟨kd, op, pa, la, ca, pk, lk, ck, pc, lc, cc, pq, lq, cq, c0, c1, c2, c3, c4, c5, hN⟩ := hE.out
        obtain ⟨kd2, op2, pa2, la2, ca2, pk2, lk2, ck2, pc2, lc2, cc2, pq2, lq2, cq2, d0, d1, d2, d3, d4, d5, hN2⟩ := hE2.out
        have hbl : b < wr.heap.size := World.block_lt_of_cell? _ _ c0
        have hbl2 : b' < wr.heap.size := World.block_lt_of_cell? _ _ d0
        have HC : Hid (∀ W, Below wr.heap.size wr W → Calls Tryz.prog 16 #[.agg #[.int .i64 kd, .int .i64 op, .slice pa la ca, .slice pk lk ck, .slice pc lc cc, .slice pq lq cq], .agg #[.int .i64 kd2, .int .i64 op2, .slice pa2 la2 ca2, .slice pk2 lk2 ck2, .slice pc2 lc2 cc2, .slice pq2 lq2 cq2], .pointer (some ⟨B, 0, none⟩)] W
            fun r w' => r = .returned (.bool (eqA k n t u)) ∧ Below W.heap.size W w') := fun W hW => by
          have hS1 : ∀ b, S b → b < wr.heap.size := fun b hb => Nat.lt_of_lt_of_le (HSw.out b hb) HB.out.size
          have hS2 : ∀ b, S2 b → b < wr.heap.size := fun b hb => Nat.lt_of_lt_of_le (HSw2.out b hb) HB.out.size
          exact IH.out S S2 W (fun b hb => Nat.lt_of_lt_of_le (hS1 b hb) hW.size) (fun b hb => Nat.lt_of_lt_of_le (hS2 b hb) hW.size) B ((HCl.out.to HB.out).to hW) _ _ t u (hN.to (Keep.of hW hS1) (fun _ h => h)) (hN2.to (Keep.of hW hS2) (fun _ h => h))
        have HT : Hid (es[j]? = some t) := ht
        have HU : Hid (fs[j]? = some u) := hu
        clear ht hu hN hN2 hE hE2
        cases hq : eqA k n t u with
        | true =>
          have HQ : Hid (eqA k n t u = true) := hq
          rw [hq] at HC
          clear hq HR
          go_wp2_with fail
          refine (HC.out _ (two' _ _ _)).mono ?_
          rintro r w1 ⟨rfl, hb1⟩
          have HBq : Hid (Below w.heap.size w w1) := HB.out.trans ((of_two' hb1).mono HB.out.size)
          clear hb1 c0 c1 c2 c3 c4 c5 d0 d1 d2 d3 d4 d5 HC
          go_wp2
          exact ⟨⟨j + 1, by omega, by go_num, HP.out.next HT.out HU.out HQ.out, HBq⟩, by simp [intOf]; omega⟩
        | false =>
          have HR1 : Hid (R = false) := HR.out.trans (eqL_no j HT.out HU.out hq)
          rw [hq] at HC
          clear hq
          go_wp2_with fail
          refine (HC.out _ (two' _ _ _)).mono ?_
          rintro r w1 ⟨rfl, hb1⟩
          have HBq : Hid (Below w.heap.size w w1) := HB.out.trans ((of_two' hb1).mono HB.out.size)
          clear hb1 c0 c1 c2 c3 c4 c5 d0 d1 d2 d3 d4 d5 HC
          go_wp2
          go_ret
          exact ⟨by rw [HR1.out]; rfl, HBq.out⟩
      · obtain rfl : j = es.length := by omega
        have HR1 : Hid (R = true) := HR.out.trans (HP.out.all HL.out)
        go_wp2
        go_ret
        exact ⟨by rw [HR1.out]; rfl, HB.out⟩
  · have hlen' : ¬ (es.length : Int) = (fs.length : Int) := by omega
    have HR1 : Hid (R = false) := HR.out.trans (eqL_len hlen)
    go_enter Tryz.func20, Tryz.ntmps20
    go_wp2
    go_ret
    exact ⟨by rw [HR1.out]; rfl, Below.refl _ _⟩

set_option maxHeartbeats 2000000 in
theorem iSameA_next (k n : Nat) (IH : SameA k n) : SameA k (n + 1) := by
  intro S S2 w hSw hSw2 B hB v v2 t t2 hV hV2
  obtain ⟨kd, op, pa, la, ca, pk, lk, ck, pc, cc, pq, cq, rfl, hN, hC, hK⟩ := hV
  obtain ⟨kd2, op2, pa2, la2, ca2, pk2, lk2, ck2, pc2, cc2, pq2, cq2, rfl, hN2, hC2, hK2⟩ := hV2
  have HC1 : Hid (∀ W, Below w.heap.size w W → Calls Tryz.prog 17 #[.agg #[.int .i64 kd, .int .i64 op, .slice pa la ca, .slice pk lk ck], .agg #[.int .i64 kd2, .int .i64 op2, .slice pa2 la2 ca2, .slice pk2 lk2 ck2]] W fun r w' => r = .returned (.bool (eqN (k + 1) t.net t2.net)) ∧ Below W.heap.size W w') :=
    fun W hW => iSameNet_any (k + 1) S S2 W (fun b hb => Nat.lt_of_lt_of_le (hSw b hb) hW.size) (fun b hb => Nat.lt_of_lt_of_le (hSw2 b hb) hW.size) _ _ t.net t2.net (hN.to (Keep.of hW hSw) (fun _ h => h)) (hN2.to (Keep.of hW hSw2) (fun _ h => h))
  have HC2 : Hid (∀ W, Below w.heap.size w W → Calls Tryz.prog 18 #[.slice pc t.coils.length cc, .slice pc2 t2.coils.length cc2, .func (.func 19) #[] #[]] W
      fun r w' => r = .returned (.bool (eqL eqE t.coils t2.coils)) ∧ Below W.heap.size W w') :=
    fun W hW => iEls_any (S := S) (S2 := S2) (fun b hb => Nat.lt_of_lt_of_le (hSw b hb) hW.size) (fun b hb => Nat.lt_of_lt_of_le (hSw2 b hb) hW.size) pc pc2 cc cc2 t.coils t2.coils (els_to (Keep.of hW hSw) (fun _ h => h) hC) (els_to (Keep.of hW hSw2) (fun _ h => h) hC2)
  have HC3 : Hid (∀ W, Below w.heap.size w W → Calls Tryz.prog 20 #[.slice pq t.kids.length cq, .slice pq2 t2.kids.length cq2, .func (.func 16) #[] #[.pointer (some ⟨B, 0, none⟩)]] W
      fun r w' => r = .returned (.bool (eqL (eqA k n) t.kids t2.kids)) ∧ Below W.heap.size W w') :=
    fun W hW => iArms_any (S := S) (S2 := S2) (fun b hb => Nat.lt_of_lt_of_le (hSw b hb) hW.size) (fun b hb => Nat.lt_of_lt_of_le (hSw2 b hb) hW.size) k n IH B (hB.to hW) pq pq2 cq cq2 t.kids t2.kids (arms_to (Keep.of hW hSw) (fun _ h => h) hK) (arms_to (Keep.of hW hSw2) (fun _ h => h) hK2)
  show Calls _ _ _ _ fun r w' => r = .returned (.bool (eqN (k + 1) t.net t2.net && eqL eqE t.coils t2.coils && eqL (eqA k n) t.kids t2.kids)) ∧ _
  have cB : w.cell? ⟨B, 0, none⟩ = some (.func (.func 16) #[] #[.pointer (some ⟨B, 0, none⟩)]) := cell_of_row _ _ 0 _ _ _ hB
  have hBl : B < w.heap.size := hB.lt
  clear hSw hSw2 hN hC hK hN2 hC2 hK2 IH hB
  generalize eqL (eqA k n) t.kids t2.kids = R3 at *
  generalize eqL eqE t.coils t2.coils = R2 at *
  generalize eqN (k + 1) t.net t2.net = R1 at *
  generalize t.coils.length = lc at *
  generalize t.kids.length = lq at *
  generalize t2.coils.length = lc2 at *
  generalize t2.kids.length = lq2 at *
  cases R1 with
  | true =>
    rw [Bool.true_and]
    cases R2 with
    | true =>
      rw [Bool.true_and]
      go_enter Tryz.func16, Tryz.ntmps16
      go_wp2_with fail
      refine (HC1.out _ (two' _ _ _)).mono ?_
      rintro r w1 ⟨rfl, hb1⟩
      have HB1 : Hid (Below w.heap.size w w1) := of_two' hb1
      have c4 : w1.cell? ⟨w.heap.size, 4, none⟩ = some (.slice pc lc cc) := cell2' hb1 (by rw [World.cell?_alloc_mark]; rfl)
      have d4 : w1.cell? ⟨w.heap.size + 1, 4, none⟩ = some (.slice pc2 lc2 cc2) := cell3' hb1 (by rw [World.cell?_alloc_mark]; rfl)
      have c5 : w1.cell? ⟨w.heap.size, 5, none⟩ = some (.slice pq lq cq) := cell2' hb1 (by rw [World.cell?_alloc_mark]; rfl)
      have d5 : w1.cell? ⟨w.heap.size + 1, 5, none⟩ = some (.slice pq2 lq2 cq2) := cell3' hb1 (by rw [World.cell?_alloc_mark]; rfl)
      replace cB := keep2 HB1.out cB
      clear hb1
      go_wp2_with fail
      refine (HC2.out _ HB1.out).mono ?_
      rintro r w2 ⟨rfl, hb2⟩
      have HB2 : Hid (Below w.heap.size w w2) := HB1.out.trans (hb2.mono HB1.out.size)
      replace c5 := keep2 hb2 c5
      replace d5 := keep2 hb2 d5
      replace cB := keep2 hb2 cB
      clear hb2
      go_wp2_with fail
      refine (HC3.out _ HB2.out).mono ?_
      rintro r w3 ⟨rfl, hb3⟩
      have HB3 : Hid (Below w.heap.size w w3) := HB2.out.trans (hb3.mono HB2.out.size)
      clear hb3
      go_wp2
      go_ret
      exact ⟨rfl, HB3.out⟩
    | false =>
      rw [Bool.false_and]
      go_enter Tryz.func16, Tryz.ntmps16
      go_wp2_with fail
      refine (HC1.out _ (two' _ _ _)).mono ?_
      rintro r w1 ⟨rfl, hb1⟩
      have HB1 : Hid (Below w.heap.size w w1) := of_two' hb1
      have c4 : w1.cell? ⟨w.heap.size, 4, none⟩ = some (.slice pc lc cc) := cell2' hb1 (by rw [World.cell?_alloc_mark]; rfl)
      have d4 : w1.cell? ⟨w.heap.size + 1, 4, none⟩ = some (.slice pc2 lc2 cc2) := cell3' hb1 (by rw [World.cell?_alloc_mark]; rfl)
      have c5 : w1.cell? ⟨w.heap.size, 5, none⟩ = some (.slice pq lq cq) := cell2' hb1 (by rw [World.cell?_alloc_mark]; rfl)
      have d5 : w1.cell? ⟨w.heap.size + 1, 5, none⟩ = some (.slice pq2 lq2 cq2) := cell3' hb1 (by rw [World.cell?_alloc_mark]; rfl)
      replace cB := keep2 HB1.out cB
      clear hb1
      go_wp2_with fail
      refine (HC2.out _ HB1.out).mono ?_
      rintro r w2 ⟨rfl, hb2⟩
      have HB2 : Hid (Below w.heap.size w w2) := HB1.out.trans (hb2.mono HB1.out.size)
      replace c5 := keep2 hb2 c5
      replace d5 := keep2 hb2 d5
      replace cB := keep2 hb2 cB
      clear hb2
      go_wp2
      go_ret
      exact ⟨rfl, HB2.out⟩
  | false =>
      rw [Bool.false_and, Bool.false_and]
      go_enter Tryz.func16, Tryz.ntmps16
      go_wp2_with fail
      refine (HC1.out _ (two' _ _ _)).mono ?_
      rintro r w1 ⟨rfl, hb1⟩
      have HB1 : Hid (Below w.heap.size w w1) := of_two' hb1
      have c4 : w1.cell? ⟨w.heap.size, 4, none⟩ = some (.slice pc lc cc) := cell2' hb1 (by rw [World.cell?_alloc_mark]; rfl)
      have d4 : w1.cell? ⟨w.heap.size + 1, 4, none⟩ = some (.slice pc2 lc2 cc2) := cell3' hb1 (by rw [World.cell?_alloc_mark]; rfl)
      have c5 : w1.cell? ⟨w.heap.size, 5, none⟩ = some (.slice pq lq cq) := cell2' hb1 (by rw [World.cell?_alloc_mark]; rfl)
      have d5 : w1.cell? ⟨w.heap.size + 1, 5, none⟩ = some (.slice pq2 lq2 cq2) := cell3' hb1 (by rw [World.cell?_alloc_mark]; rfl)
      replace cB := keep2 HB1.out cB
      clear hb1
      go_wp2
      go_ret
      exact ⟨rfl, HB1.out⟩
theorem iSameA_any (k : Nat) : ∀ n, SameA k n
  | 0 => fun _ _ _ _ _ _ _ _ _ _ _ h => h.elim
  | n + 1 => iSameA_next k n (iSameA_any k n)
set_option maxHeartbeats 1000000 in
theorem iTreeSame_any (k n : Nat) (S S2 : Nat → Prop) (w : World) (hSw : ∀ b, S b → b < w.heap.size) (hSw2 : ∀ b, S2 b → b < w.heap.size) (p p2 : Option Addr) (cap cap2 : Nat) (es fs : List (AT k n)) (hV : SlOf S (AmE S w k n) 6 p cap es) (hV2 : SlOf S2 (AmE S2 w k n) 6 p2 cap2 fs) :
    Calls Tryz.prog 6 #[.slice p es.length cap, .slice p2 fs.length cap2] w fun r w' => r = .returned (.bool (eqL (eqA k n) es fs)) ∧ Below w.heap.size w w' := by
  have HC : Hid (∀ W B, Below w.heap.size w W → CloA B W → Calls Tryz.prog 20 #[.slice p es.length cap, .slice p2 fs.length cap2, .func (.func 16) #[] #[.pointer (some ⟨B, 0, none⟩)]] W
      fun r w' => r = .returned (.bool (eqL (eqA k n) es fs)) ∧ Below W.heap.size W w') :=
    fun W B hW hB => iArms_any (S := S) (S2 := S2) (fun b hb => Nat.lt_of_lt_of_le (hSw b hb) hW.size) (fun b hb => Nat.lt_of_lt_of_le (hSw2 b hb) hW.size) k n (iSameA_any k n) B hB p p2 cap cap2 es fs (arms_to (Keep.of hW hSw) (fun _ h => h) hV) (arms_to (Keep.of hW hSw2) (fun _ h => h) hV2)
  clear hV hV2 hSw hSw2
  generalize eqL (eqA k n) es fs = R at *
  have hmf' := hmf
  go_enter Tryz.func6, Tryz.ntmps6
  go_wp2_with fail
  refine (HC.out _ w.heap.size (one _ _) (last _ _)).mono ?_
  rintro r w1 ⟨rfl, hb1⟩
  have HB1 : Hid (Below w.heap.size w w1) := of_one hb1
  clear hb1
  go_wp2
  go_ret
  exact ⟨rfl, HB1.out⟩
end Go.Proofs.YtjkpingdokkkcaaGreatDoor.Tr
