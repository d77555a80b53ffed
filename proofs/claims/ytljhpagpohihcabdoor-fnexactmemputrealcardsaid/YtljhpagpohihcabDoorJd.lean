/- Copying a memory in the exact laws. Helper text: no statement is claimed here. -/
import Derived.Test.YtljhpagpohihcabDoorJc
import Derived.Deep.Cut
namespace Go.Proofs.YtljhpagpohihcabDoor
open Go.ChangeShapes Go.WideShapes Go.ChangeAt Go.RowKit

theorem cell_lit0 (m : Mm) : m.cell 0 = .int .u32 m.x := rfl
theorem cell_lit1 (m : Mm) : m.cell 1 = .int .u32 m.y := rfl
theorem cell_lit2 (m : Mm) : m.cell 2 = .int .u64 m.m := rfl
theorem cell_lit3 (m : Mm) : m.cell 3 = .int .u16 m.s := rfl
theorem cell_lit4 (m : Mm) : m.cell 4 = .int .u32 m.e := rfl
theorem cell_lit133 (m : Mm) : m.cell 133 = .int .u32 m.time := rfl
theorem cell_lit134 (m : Mm) : m.cell 134 = .bool m.ran := rfl
theorem cell_lit135 (m : Mm) : m.cell 135 = .bool m.fault := rfl
/-- The first k cells of the row are those of the memory. -/
def Upto (w : World) (b k : Nat) (m : Mm) : Prop := ∃ f, RowAt w b 45 136 f ∧ ∀ i, i < k → f i = m.cell i
theorem Upto.to {w w' : World} {b k : Nat} {m : Mm} (h : Upto w b k m) (hb : Below w.heap.size w w') : Upto w' b k m := by
  obtain ⟨f, hf, hm⟩ := h
  exact ⟨f, hf.to hb, hm⟩
theorem Upto.set {w : World} {b k : Nat} {m : Mm} (h : Upto w b k m) (v : Value) (e : v = m.cell k) : Upto (w.setCell ⟨b, k, none⟩ v) b (k + 1) m := by
  obtain ⟨f, hf, hm⟩ := h
  refine ⟨_, hf.set k v, fun i hi => ?_⟩
  by_cases h1 : i = k
  · rw [if_pos h1, e, h1]
  · rw [if_neg h1]; exact hm i (by omega)
theorem Upto.some {w : World} {b k : Nat} {m : Mm} (h : Upto w b k m) (i : Nat) (hi : i < 136) : ∃ v, w.cell? ⟨b, i, none⟩ = some v ∧ w.frozen? ⟨b, i, none⟩ = false := by
  obtain ⟨f, hf, hm⟩ := h
  exact ⟨_, hf.cell hi, hf.frozen i⟩
theorem Upto.mem {w : World} {b : Nat} {m : Mm} (h : Upto w b 136 m) : MemAt w b m := by
  obtain ⟨f, hf, hm⟩ := h
  exact hf.ext hm
/-- The walk's step at a store of a part. -/
theorem wpList_partStore {ops : Array Oper} {rest : List Oper} {op : Oper} {a : Act} {w : World} {Q : Exit → Act → World → Prop} {m : Mm} (hgd : op.guard = none) (ty : TypeId) (x y : Operand) (ho : op.op = .store ty x y)
    (b o k : Nat) (g : Nat → Value) (hx : a.eval x = .pointer (some ⟨b, o, none⟩)) (hy : a.eval y = .agg (cellsOf k g)) (hU : Upto w b o m) (hok : o + k ≤ 136) (h1 : ∀ i, i < k → (g i).oneCell' = true) (e : ∀ i, i < k → m.cell (o + i) = g i)
    (hi : (Tryd.prog.info? ty).map (·.size) = some k)
    (h : ∀ w2, Upto w2 b (o + k) m → w2.heap.size = w.heap.size → (∀ j, j ≠ b → w2.heap[j]? = w.heap[j]?) → (∀ B a, Below B a w → B ≤ b → Below B a w2) → wpList Tryd.prog ops Q rest (a.put op.dst undef) w2) : wpList Tryd.prog ops Q (op :: rest) a w := by
  obtain ⟨f, hf, hm⟩ := hU
  refine wpList_rowStore hgd ty x y ho b o k g (fun i => if o ≤ i ∧ i < o + k then g (i - o) else f i) hx hy hf hok h1 (fun i _ => rfl) hi fun w2 a1 a2 a3 a4 => h w2 ⟨_, a1, fun i hi' => ?_⟩ a2 a3 a4
  show (if o ≤ i ∧ i < o + k then g (i - o) else f i) = m.cell i
  by_cases h2 : o ≤ i ∧ i < o + k
  · rw [if_pos h2, ← e (i - o) (by omega), show o + (i - o) = i by omega]
  · rw [if_neg h2]; exact hm i (by omega)
theorem zero_mem (w : World) : (zeroValue 45).run Tryd.prog w = .ok (.agg zeroM.cells) w := by kernel_rfl

set_option maxHeartbeats 1000000 in
set_option maxRecDepth 10000 in
theorem toMem_any (m : Mm) (w : World) :
    Calls Tryd.prog 6 #[m.val] w fun e w' => e = .returned m.val ∧ Below w.heap.size w w' := by
  have hz : ∀ w, (zeroValue 45).run Tryd.prog w = .ok (.agg zeroM.cells) w := zero_mem
  unfold Mm.val
  go_enter Tryd.func6, Tryd.ntmps6
  go_upto_region 2 with fail
  have HB0 : Hid (Below w.heap.size w (((w.alloc (.cells m.cells 36)).alloc (.cells zeroM.cells 45)).alloc (.cells zeroM.cells 45))) := (((Below.refl _ _).alloc (Nat.le_refl _) _).alloc (by simp) _).alloc (by simp; omega) _
  have HI0 : Hid (RowAt (((w.alloc (.cells m.cells 36)).alloc (.cells zeroM.cells 45)).alloc (.cells zeroM.cells 45)) w.heap.size 36 136 m.cell) := ((RowAt.new w _ 136 m.cell).alloc _).alloc _
  have HR0 : Hid (MemAt (((w.alloc (.cells m.cells 36)).alloc (.cells zeroM.cells 45)).alloc (.cells zeroM.cells 45)) (w.heap.size + 1) zeroM) := by
    have := (RowAt.new (w.alloc (.cells m.cells 36)) 45 136 zeroM.cell).alloc (.cells zeroM.cells 45)
    rw [show (w.alloc (.cells m.cells 36)).heap.size = w.heap.size + 1 by simp] at this
    exact this
  have HO0 : Hid (Upto (((w.alloc (.cells m.cells 36)).alloc (.cells zeroM.cells 45)).alloc (.cells zeroM.cells 45)) (w.heap.size + 1 + 1) 0 m) := by
    have := RowAt.new ((w.alloc (.cells m.cells 36)).alloc (.cells zeroM.cells 45)) 45 136 zeroM.cell
    rw [show ((w.alloc (.cells m.cells 36)).alloc (.cells zeroM.cells 45)).heap.size = w.heap.size + 1 + 1 by simp] at this
    exact ⟨_, this, fun i hi => by omega⟩
  generalize (((w.alloc (.cells m.cells 36)).alloc (.cells zeroM.cells 45)).alloc (.cells zeroM.cells 45)) = V at *
  clear hz
  have i0 := HI0.out.cell (i := 0) (by omega)
  have i1 := HI0.out.cell (i := 1) (by omega)
  have i2 := HI0.out.cell (i := 2) (by omega)
  have i3 := HI0.out.cell (i := 3) (by omega)
  have i4 := HI0.out.cell (i := 4) (by omega)
  rw [cell_lit0] at i0
  rw [cell_lit1] at i1
  rw [cell_lit2] at i2
  rw [cell_lit3] at i3
  rw [cell_lit4] at i4
  obtain ⟨v0, o0, z0⟩ := HO0.out.some 0 (by omega)
  obtain ⟨v1, o1, z1⟩ := HO0.out.some 1 (by omega)
  obtain ⟨v2, o2, z2⟩ := HO0.out.some 2 (by omega)
  obtain ⟨v3, o3, z3⟩ := HO0.out.some 3 (by omega)
  obtain ⟨v4, o4, z4⟩ := HO0.out.some 4 (by omega)
  go_upto_region 7 with fail
  have HB : Hid (Below w.heap.size w (((((V.setCell ⟨w.heap.size + 1 + 1, 0, none⟩ (.int .u32 m.x)).setCell ⟨w.heap.size + 1 + 1, 1, none⟩ (.int .u32 m.y)).setCell ⟨w.heap.size + 1 + 1, 2, none⟩ (.int .u64 m.m)).setCell ⟨w.heap.size + 1 + 1, 3, none⟩ (.int .u16 m.s)).setCell ⟨w.heap.size + 1 + 1, 4, none⟩ (.int .u32 m.e))) := ((((HB0.out.setCell (p := ⟨_, _, none⟩) (by show w.heap.size ≤ w.heap.size + 1 + 1; omega) _).setCell (p := ⟨_, _, none⟩) (by show w.heap.size ≤ w.heap.size + 1 + 1; omega) _).setCell (p := ⟨_, _, none⟩) (by show w.heap.size ≤ w.heap.size + 1 + 1; omega) _).setCell (p := ⟨_, _, none⟩) (by show w.heap.size ≤ w.heap.size + 1 + 1; omega) _).setCell (p := ⟨_, _, none⟩) (by show w.heap.size ≤ w.heap.size + 1 + 1; omega) _
  have HI : Hid (RowAt (((((V.setCell ⟨w.heap.size + 1 + 1, 0, none⟩ (.int .u32 m.x)).setCell ⟨w.heap.size + 1 + 1, 1, none⟩ (.int .u32 m.y)).setCell ⟨w.heap.size + 1 + 1, 2, none⟩ (.int .u64 m.m)).setCell ⟨w.heap.size + 1 + 1, 3, none⟩ (.int .u16 m.s)).setCell ⟨w.heap.size + 1 + 1, 4, none⟩ (.int .u32 m.e)) w.heap.size 36 136 m.cell) := ((((HI0.out.other _ (by omega)).other _ (by omega)).other _ (by omega)).other _ (by omega)).other _ (by omega)
  have HR : Hid (MemAt (((((V.setCell ⟨w.heap.size + 1 + 1, 0, none⟩ (.int .u32 m.x)).setCell ⟨w.heap.size + 1 + 1, 1, none⟩ (.int .u32 m.y)).setCell ⟨w.heap.size + 1 + 1, 2, none⟩ (.int .u64 m.m)).setCell ⟨w.heap.size + 1 + 1, 3, none⟩ (.int .u16 m.s)).setCell ⟨w.heap.size + 1 + 1, 4, none⟩ (.int .u32 m.e)) (w.heap.size + 1) zeroM) := ((((HR0.out.other _ (by omega)).other _ (by omega)).other _ (by omega)).other _ (by omega)).other _ (by omega)
  have HO : Hid (Upto (((((V.setCell ⟨w.heap.size + 1 + 1, 0, none⟩ (.int .u32 m.x)).setCell ⟨w.heap.size + 1 + 1, 1, none⟩ (.int .u32 m.y)).setCell ⟨w.heap.size + 1 + 1, 2, none⟩ (.int .u64 m.m)).setCell ⟨w.heap.size + 1 + 1, 3, none⟩ (.int .u16 m.s)).setCell ⟨w.heap.size + 1 + 1, 4, none⟩ (.int .u32 m.e)) (w.heap.size + 1 + 1) 5 m) := ((((HO0.out.set _ rfl).set _ rfl).set _ rfl).set _ rfl).set _ rfl
  clear HB0 HI0 HR0 HO0 i0 i1 i2 i3 i4 o0 o1 o2 o3 o4 z0 z1 z2 z3 z4
  generalize (((((V.setCell ⟨w.heap.size + 1 + 1, 0, none⟩ (.int .u32 m.x)).setCell ⟨w.heap.size + 1 + 1, 1, none⟩ (.int .u32 m.y)).setCell ⟨w.heap.size + 1 + 1, 2, none⟩ (.int .u64 m.m)).setCell ⟨w.heap.size + 1 + 1, 3, none⟩ (.int .u16 m.s)).setCell ⟨w.heap.size + 1 + 1, 4, none⟩ (.int .u32 m.e)) = U at *
  go_wp2_with (refine wpList_rowLoad rfl 27 (.tmp 19) rfl _ 5 32 m.tcell rfl HI.out (by omega) (fun i hi => m.cell_t hi) Tryd.underlying27 rfl (by kernel_rfl) ?_)
  refine (toT_any m _).mono ?_
  rintro e w1a ⟨rfl, hb1a⟩
  have HB1a : Hid (Below w.heap.size w w1a) := HB.out.trans (hb1a.mono HB.out.size)
  have HI1a : Hid (RowAt w1a w.heap.size 36 136 m.cell) := HI.out.to hb1a
  have HR1a : Hid (MemAt w1a (w.heap.size + 1) zeroM) := HR.out.to hb1a
  have HO1a : Hid (Upto w1a (w.heap.size + 1 + 1) 5 m) := HO.out.to hb1a
  clear hb1a HB HI HR HO
  go_wp2_with (first
    | (refine wpList_partStore rfl 41 (.tmp 22) (.tmp 21) rfl _ 5 32 m.tcell rfl rfl HO1a.out (by omega) (fun i _ => tcell_one m i) (fun i hi => m.cell_t hi) (by kernel_rfl) ?_; intro w1b HO1b hz1b hk1b hb1b; have HI1b : Hid (RowAt w1b w.heap.size 36 136 m.cell) := HI1a.out.by (hk1b _ (by omega)))
    | refine wpList_rowLoad rfl 30 (.tmp 23) rfl _ 37 48 m.ccell rfl HI1b.out (by omega) (fun i hi => m.cell_c hi) Tryd.underlying30 rfl (by kernel_rfl) ?_)
  have HB1b : Hid (Below w.heap.size w w1b) := hb1b _ _ HB1a.out (by omega)
  have HR1b : Hid (MemAt w1b (w.heap.size + 1) zeroM) := HR1a.out.by (hk1b _ (by omega))
  clear hz1b hk1b hb1b HB1a HI1a HR1a HO1a
  refine (toC_any m _).mono ?_
  rintro e w2a ⟨rfl, hb2a⟩
  have HB2a : Hid (Below w.heap.size w w2a) := HB1b.out.trans (hb2a.mono HB1b.out.size)
  have HI2a : Hid (RowAt w2a w.heap.size 36 136 m.cell) := HI1b.out.to hb2a
  have HR2a : Hid (MemAt w2a (w.heap.size + 1) zeroM) := HR1b.out.to hb2a
  have HO2a : Hid (Upto w2a (w.heap.size + 1 + 1) 37 m) := HO1b.to hb2a
  clear hb2a HB1b HI1b HR1b HO1b
  go_wp2_with (first
    | (refine wpList_partStore rfl 43 (.tmp 26) (.tmp 25) rfl _ 37 48 m.ccell rfl rfl HO2a.out (by omega) (fun i _ => ccell_one m i) (fun i hi => m.cell_c hi) (by kernel_rfl) ?_; intro w2b HO2b hz2b hk2b hb2b; have HI2b : Hid (RowAt w2b w.heap.size 36 136 m.cell) := HI2a.out.by (hk2b _ (by omega)))
    | refine wpList_rowLoad rfl 32 (.tmp 27) rfl _ 85 32 m.dcell rfl HI2b.out (by omega) (fun i hi => m.cell_d hi) Tryd.underlying32 rfl (by kernel_rfl) ?_)
  have HB2b : Hid (Below w.heap.size w w2b) := hb2b _ _ HB2a.out (by omega)
  have HR2b : Hid (MemAt w2b (w.heap.size + 1) zeroM) := HR2a.out.by (hk2b _ (by omega))
  clear hz2b hk2b hb2b HB2a HI2a HR2a HO2a
  refine (toD_any m _).mono ?_
  rintro e w3a ⟨rfl, hb3a⟩
  have HB3a : Hid (Below w.heap.size w w3a) := HB2b.out.trans (hb3a.mono HB2b.out.size)
  have HI3a : Hid (RowAt w3a w.heap.size 36 136 m.cell) := HI2b.out.to hb3a
  have HR3a : Hid (MemAt w3a (w.heap.size + 1) zeroM) := HR2b.out.to hb3a
  have HO3a : Hid (Upto w3a (w.heap.size + 1 + 1) 85 m) := HO2b.to hb3a
  clear hb3a HB2b HI2b HR2b HO2b
  go_wp2_with (first
    | (refine wpList_partStore rfl 32 (.tmp 30) (.tmp 29) rfl _ 85 32 m.dcell rfl rfl HO3a.out (by omega) (fun i _ => dcell_one m i) (fun i hi => m.cell_d hi) (by kernel_rfl) ?_; intro w3b HO3b hz3b hk3b hb3b; have HI3b : Hid (RowAt w3b w.heap.size 36 136 m.cell) := HI3a.out.by (hk3b _ (by omega)))
    | refine wpList_rowLoad rfl 34 (.tmp 31) rfl _ 117 16 m.rcell rfl HI3b.out (by omega) (fun i hi => m.cell_r hi) Tryd.underlying34 rfl (by kernel_rfl) ?_)
  have HB3b : Hid (Below w.heap.size w w3b) := hb3b _ _ HB3a.out (by omega)
  have HR3b : Hid (MemAt w3b (w.heap.size + 1) zeroM) := HR3a.out.by (hk3b _ (by omega))
  clear hz3b hk3b hb3b HB3a HI3a HR3a HO3a
  refine (toR_any m _).mono ?_
  rintro e w4a ⟨rfl, hb4a⟩
  have HB4a : Hid (Below w.heap.size w w4a) := HB3b.out.trans (hb4a.mono HB3b.out.size)
  have HI4a : Hid (RowAt w4a w.heap.size 36 136 m.cell) := HI3b.out.to hb4a
  have HR4a : Hid (MemAt w4a (w.heap.size + 1) zeroM) := HR3b.out.to hb4a
  have HO4a : Hid (Upto w4a (w.heap.size + 1 + 1) 117 m) := HO3b.to hb4a
  clear hb4a HB3b HI3b HR3b HO3b
  go_upto_region 11 with (refine wpList_partStore rfl 34 (.tmp 34) (.tmp 33) rfl _ 117 16 m.rcell rfl rfl HO4a.out (by omega) (fun i _ => rcell_one m i) (fun i hi => m.cell_r hi) (by kernel_rfl) ?_; intro w4b HO4b hz4b hk4b hb4b)
  have HB4b : Hid (Below w.heap.size w w4b) := hb4b _ _ HB4a.out (by omega)
  have HI4b : Hid (RowAt w4b w.heap.size 36 136 m.cell) := HI4a.out.by (hk4b _ (by omega))
  have HR4b : Hid (MemAt w4b (w.heap.size + 1) zeroM) := HR4a.out.by (hk4b _ (by omega))
  have HO4c : Hid (Upto w4b (w.heap.size + 1 + 1) 133 m) := HO4b
  clear hz4b hk4b hb4b HB4a HI4a HR4a HO4a HO4b
  have i0 := HI4b.out.cell (i := 133) (by omega)
  have i1 := HI4b.out.cell (i := 134) (by omega)
  have i2 := HI4b.out.cell (i := 135) (by omega)
  rw [cell_lit133] at i0
  rw [cell_lit134] at i1
  rw [cell_lit135] at i2
  obtain ⟨v0, o0, z0⟩ := HO4c.out.some 133 (by omega)
  obtain ⟨v1, o1, z1⟩ := HO4c.out.some 134 (by omega)
  obtain ⟨v2, o2, z2⟩ := HO4c.out.some 135 (by omega)
  go_upto_region 14 with fail
  have HB5 : Hid (Below w.heap.size w (((w4b.setCell ⟨w.heap.size + 1 + 1, 133, none⟩ (.int .u32 m.time)).setCell ⟨w.heap.size + 1 + 1, 134, none⟩ (.bool m.ran)).setCell ⟨w.heap.size + 1 + 1, 135, none⟩ (.bool m.fault))) := ((HB4b.out.setCell (p := ⟨_, _, none⟩) (by show w.heap.size ≤ w.heap.size + 1 + 1; omega) _).setCell (p := ⟨_, _, none⟩) (by show w.heap.size ≤ w.heap.size + 1 + 1; omega) _).setCell (p := ⟨_, _, none⟩) (by show w.heap.size ≤ w.heap.size + 1 + 1; omega) _
  have HR5 : Hid (MemAt (((w4b.setCell ⟨w.heap.size + 1 + 1, 133, none⟩ (.int .u32 m.time)).setCell ⟨w.heap.size + 1 + 1, 134, none⟩ (.bool m.ran)).setCell ⟨w.heap.size + 1 + 1, 135, none⟩ (.bool m.fault)) (w.heap.size + 1) zeroM) := ((HR4b.out.other _ (by omega)).other _ (by omega)).other _ (by omega)
  have HO5 : Hid (MemAt (((w4b.setCell ⟨w.heap.size + 1 + 1, 133, none⟩ (.int .u32 m.time)).setCell ⟨w.heap.size + 1 + 1, 134, none⟩ (.bool m.ran)).setCell ⟨w.heap.size + 1 + 1, 135, none⟩ (.bool m.fault)) (w.heap.size + 1 + 1) m) := (((HO4c.out.set _ rfl).set _ rfl).set _ rfl).mem
  clear HB4b HI4b HR4b HO4c i0 i1 i2 o0 o1 o2 z0 z1 z2
  generalize (((w4b.setCell ⟨w.heap.size + 1 + 1, 133, none⟩ (.int .u32 m.time)).setCell ⟨w.heap.size + 1 + 1, 134, none⟩ (.bool m.ran)).setCell ⟨w.heap.size + 1 + 1, 135, none⟩ (.bool m.fault)) = X at *
  go_wp2_with (first
    | refine wpList_rowLoad rfl 45 (.tmp 3) rfl _ 0 136 m.cell rfl HO5.out (by omega) (fun i _ => by rw [Nat.zero_add]) Tryd.underlying45 rfl (by kernel_rfl) ?_
    | (refine wpList_rowStore rfl 45 (.tmp 2) (.tmp 44) rfl _ 0 136 m.cell m.cell rfl rfl HR5.out (by omega) (fun i _ => cell_one m i) (fun i hi => by rw [if_pos ⟨by omega, by omega⟩, Nat.sub_zero]) (by kernel_rfl) ?_; intro w2 HR2 hz2 hk2 hb2))
  exact bodyPost_ret (v := .agg m.cells) (resRow Tryd.results6 rfl HR2 Tryd.underlying45 rfl (by kernel_rfl)) rfl ⟨rfl, hb2 _ _ HB5.out (by omega)⟩
end Go.Proofs.YtljhpagpohihcabDoor
