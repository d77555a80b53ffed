/- The memory of a controller as plain data, and its cells. Helper text: no statement is claimed here. -/
import Derived.Test.YtljhpagpohihcabDoorRows
import Derived.WalkKit
import Derived.ProofKit
import Derived.LaidMore
import Derived.OpenShut
import Derived.Below
import Derived.Deep.MidRow
import Derived.Deep.WholeRow
import Derived.Laws.CopyRow
import Derived.Laws.CopyOwn
namespace Go.Proofs.YtljhpagpohihcabDoor
open Go.ChangeShapes Go.WideShapes Go.ChangeAt Go.RowKit

/-- A memory: words of bits, timers, counters, registers of both sorts, and the rest. -/
structure Mm where
  x : Nat
  y : Nat
  m : Nat
  s : Nat
  e : Nat
  td : Nat → Bool
  tc : Nat → Nat
  cd : Nat → Bool
  cl : Nat → Bool
  cc : Nat → Nat
  d : Nat → Int
  r : Nat → Nat
  time : Nat
  ran : Bool
  fault : Bool

/-- Every number keeps to its width. -/
structure Mm.Ok (m : Mm) : Prop where
  hx : m.x < 2 ^ 32
  hy : m.y < 2 ^ 32
  hm : m.m < 2 ^ 64
  hs : m.s < 2 ^ 16
  he : m.e < 2 ^ 32
  htc : ∀ i, m.tc i < 65536
  hcc : ∀ i, m.cc i < 65536
  hd : ∀ i, -32768 ≤ m.d i ∧ m.d i ≤ 32767
  hr : ∀ i, m.r i < 2 ^ 64
  htime : m.time < 2 ^ 32

def Mm.tcell (m : Mm) (i : Nat) : Value := if i % 2 = 0 then .bool (m.td (i / 2)) else .int .u16 (m.tc (i / 2))
def Mm.ccell (m : Mm) (i : Nat) : Value := if i % 3 = 0 then .bool (m.cd (i / 3)) else if i % 3 = 1 then .bool (m.cl (i / 3)) else .int .u16 (m.cc (i / 3))
def Mm.dcell (m : Mm) (i : Nat) : Value := .int .i16 (m.d i)
def Mm.rcell (m : Mm) (i : Nat) : Value := .float .f64 (m.r i)
/-- What lies in each of the 136 cells. -/
def Mm.cell (m : Mm) (i : Nat) : Value :=
  if i < 5 then (if i = 0 then .int .u32 m.x else if i = 1 then .int .u32 m.y else if i = 2 then .int .u64 m.m else if i = 3 then .int .u16 m.s else .int .u32 m.e)
  else if i < 37 then m.tcell (i - 5)
  else if i < 85 then m.ccell (i - 37)
  else if i < 117 then m.dcell (i - 85)
  else if i < 133 then m.rcell (i - 117)
  else if i = 133 then .int .u32 m.time
  else if i = 134 then .bool m.ran
  else .bool m.fault
def cellsOf (n : Nat) (f : Nat → Value) : Array Value := Array.ofFn (n := n) fun i => f i.val
theorem cellsOf_size (n : Nat) (f : Nat → Value) : (cellsOf n f).size = n := by simp [cellsOf]
theorem cellsOf_at {n : Nat} (f : Nat → Value) {i : Nat} (h : i < n) : (cellsOf n f)[i]? = some (f i) := by simp [cellsOf, h]
theorem cellsOf_ext {n : Nat} {f g : Nat → Value} (h : ∀ i, i < n → f i = g i) : cellsOf n f = cellsOf n g := by
  unfold cellsOf
  congr 1
  funext i
  exact h i.val i.isLt
theorem cellsOf_set {n : Nat} (f : Nat → Value) (k : Nat) (v : Value) : (cellsOf n f).setIfInBounds k v = cellsOf n (fun i => if i = k then v else f i) := by
  apply Array.ext_getElem?
  intro i
  rw [Array.getElem?_setIfInBounds, cellsOf_size]
  by_cases hi : i < n
  · rw [cellsOf_at _ hi, cellsOf_at _ hi]
    by_cases hk : k = i
    · subst hk; simp [hi]
    · have : ¬ i = k := fun e => hk e.symm
      simp [hk, this]
  · have h1 : (cellsOf n f)[i]? = none := by simp [cellsOf]; omega
    have h2 : (cellsOf n (fun i => if i = k then v else f i))[i]? = none := by simp [cellsOf]; omega
    rw [h1, h2]
    by_cases hk : k = i
    · subst hk; simp [hi]
    · simp [hk]
def Mm.cells (m : Mm) : Array Value := cellsOf 136 m.cell
def Mm.val (m : Mm) : Value := .agg m.cells
theorem Mm.at_ (m : Mm) {i : Nat} (h : i < 136) : m.cells[i]? = some (m.cell i) := cellsOf_at _ h
theorem Mm.at_x (m : Mm) : m.cells[0]? = some (.int .u32 m.x) := m.at_ (by decide)
theorem Mm.at_y (m : Mm) : m.cells[1]? = some (.int .u32 m.y) := m.at_ (by decide)
theorem Mm.at_m (m : Mm) : m.cells[2]? = some (.int .u64 m.m) := m.at_ (by decide)
theorem Mm.at_s (m : Mm) : m.cells[3]? = some (.int .u16 m.s) := m.at_ (by decide)
theorem Mm.at_e (m : Mm) : m.cells[4]? = some (.int .u32 m.e) := m.at_ (by decide)
theorem Mm.at_time (m : Mm) : m.cells[133]? = some (.int .u32 m.time) := m.at_ (by decide)
theorem Mm.at_ran (m : Mm) : m.cells[134]? = some (.bool m.ran) := m.at_ (by decide)
theorem Mm.at_fault (m : Mm) : m.cells[135]? = some (.bool m.fault) := m.at_ (by decide)
theorem Mm.cell_t (m : Mm) {j : Nat} (h : j < 32) : m.cell (5 + j) = m.tcell j := by
  unfold Mm.cell; rw [if_neg (by omega), if_pos (by omega), show 5 + j - 5 = j by omega]
theorem Mm.cell_c (m : Mm) {j : Nat} (h : j < 48) : m.cell (37 + j) = m.ccell j := by
  unfold Mm.cell; rw [if_neg (by omega), if_neg (by omega), if_pos (by omega), show 37 + j - 37 = j by omega]
theorem Mm.cell_d (m : Mm) {j : Nat} (h : j < 32) : m.cell (85 + j) = m.dcell j := by
  unfold Mm.cell; rw [if_neg (by omega), if_neg (by omega), if_neg (by omega), if_pos (by omega), show 85 + j - 85 = j by omega]
theorem Mm.cell_r (m : Mm) {j : Nat} (h : j < 16) : m.cell (117 + j) = m.rcell j := by
  unfold Mm.cell; rw [if_neg (by omega), if_neg (by omega), if_neg (by omega), if_neg (by omega), if_pos (by omega), show 117 + j - 117 = j by omega]
theorem Mm.tcell_d (m : Mm) (k : Nat) : m.tcell (k * 2) = .bool (m.td k) := by
  unfold Mm.tcell; rw [if_pos (by omega), show k * 2 / 2 = k by omega]
theorem Mm.tcell_c (m : Mm) (k : Nat) : m.tcell (k * 2 + 1) = .int .u16 (m.tc k) := by
  unfold Mm.tcell; rw [if_neg (by omega), show (k * 2 + 1) / 2 = k by omega]
theorem Mm.ccell_d (m : Mm) (k : Nat) : m.ccell (k * 3) = .bool (m.cd k) := by
  unfold Mm.ccell; rw [if_pos (by omega), show k * 3 / 3 = k by omega]
theorem Mm.ccell_l (m : Mm) (k : Nat) : m.ccell (k * 3 + 1) = .bool (m.cl k) := by
  unfold Mm.ccell; rw [if_neg (by omega), if_pos (by omega), show (k * 3 + 1) / 3 = k by omega]
theorem Mm.ccell_c (m : Mm) (k : Nat) : m.ccell (k * 3 + 2) = .int .u16 (m.cc k) := by
  unfold Mm.ccell; rw [if_neg (by omega), if_neg (by omega), show (k * 3 + 2) / 3 = k by omega]
theorem Mm.at_td (m : Mm) {k : Nat} (h : k < 16) : m.cells[5 + k * 2]? = some (.bool (m.td k)) := by rw [m.at_ (by omega), m.cell_t (by omega), m.tcell_d]
theorem Mm.at_tc (m : Mm) {k : Nat} (h : k < 16) : m.cells[5 + k * 2 + 1]? = some (.int .u16 (m.tc k)) := by rw [m.at_ (by omega), Nat.add_assoc, m.cell_t (by omega), m.tcell_c]
theorem Mm.at_cd (m : Mm) {k : Nat} (h : k < 16) : m.cells[37 + k * 3]? = some (.bool (m.cd k)) := by rw [m.at_ (by omega), m.cell_c (by omega), m.ccell_d]
theorem Mm.at_cl (m : Mm) {k : Nat} (h : k < 16) : m.cells[37 + k * 3 + 1]? = some (.bool (m.cl k)) := by rw [m.at_ (by omega), Nat.add_assoc, m.cell_c (by omega), m.ccell_l]
theorem Mm.at_cc (m : Mm) {k : Nat} (h : k < 16) : m.cells[37 + k * 3 + 2]? = some (.int .u16 (m.cc k)) := by rw [m.at_ (by omega), Nat.add_assoc, m.cell_c (by omega), m.ccell_c]
theorem Mm.at_d (m : Mm) {k : Nat} (h : k < 32) : m.cells[85 + k]? = some (.int .i16 (m.d k)) := by rw [m.at_ (by omega), m.cell_d h]; rfl
theorem Mm.at_r (m : Mm) {k : Nat} (h : k < 16) : m.cells[117 + k]? = some (.float .f64 (m.r k)) := by rw [m.at_ (by omega), m.cell_r h]; rfl
/-- The four arrays. -/
def Mm.tArr (m : Mm) : Array Value := cellsOf 32 m.tcell
def Mm.cArr (m : Mm) : Array Value := cellsOf 48 m.ccell
def Mm.dArr (m : Mm) : Array Value := cellsOf 32 m.dcell
def Mm.rArr (m : Mm) : Array Value := cellsOf 16 m.rcell
/-- The memory with nothing in it. -/
def zeroM : Mm := ⟨0, 0, 0, 0, 0, fun _ => false, fun _ => 0, fun _ => false, fun _ => false, fun _ => 0, fun _ => 0, fun _ => 0, 0, false, false⟩
theorem zeroM_ok : zeroM.Ok := ⟨by decide, by decide, by decide, by decide, by decide, fun _ => by show (0 : Nat) < 65536; decide, fun _ => by show (0 : Nat) < 65536; decide, fun _ => by show (-32768 : Int) ≤ 0 ∧ (0 : Int) ≤ 32767; decide, fun _ => by show (0 : Nat) < 2 ^ 64; decide, by decide⟩
/-- A row of the call's own in block b: n cells, each as f says. -/
def RowAt (w : World) (b : Nat) (t : TypeId) (n : Nat) (f : Nat → Value) : Prop := w.heap[b]? = some (.cells (cellsOf n f) t (0, 0))
theorem RowAt.lt {w : World} {b n : Nat} {t : TypeId} {f : Nat → Value} (h : RowAt w b t n f) : b < w.heap.size := (Array.getElem?_eq_some_iff.1 h).1
theorem RowAt.to {w w' : World} {b n : Nat} {t : TypeId} {f : Nat → Value} (h : RowAt w b t n f) (hb : Below w.heap.size w w') : RowAt w' b t n f := (hb.block b h.lt).trans h
theorem RowAt.by {w w' : World} {b n : Nat} {t : TypeId} {f : Nat → Value} (h : RowAt w b t n f) (hb : w'.heap[b]? = w.heap[b]?) : RowAt w' b t n f := hb.trans h
theorem RowAt.cell {w : World} {b n : Nat} {t : TypeId} {f : Nat → Value} (h : RowAt w b t n f) {i : Nat} (hi : i < n) : w.cell? ⟨b, i, none⟩ = some (f i) := (cell_of_row _ _ _ _ _ _ h).trans (cellsOf_at _ hi)
theorem RowAt.frozen {w : World} {b n : Nat} {t : TypeId} {f : Nat → Value} (h : RowAt w b t n f) (i : Nat) : w.frozen? ⟨b, i, none⟩ = false := frozen_of_row _ _ _ _ _ h
theorem RowAt.new (w : World) (t : TypeId) (n : Nat) (f : Nat → Value) : RowAt (w.alloc (.cells (cellsOf n f) t)) w.heap.size t n f := heap_alloc_last w _
theorem RowAt.alloc {w : World} {b n : Nat} {t : TypeId} {f : Nat → Value} (h : RowAt w b t n f) (o : Obj) : RowAt (w.alloc o) b t n f := h.to ((Below.refl _ _).alloc (Nat.le_refl _) _)
theorem RowAt.set {w : World} {b n : Nat} {t : TypeId} {f : Nat → Value} (h : RowAt w b t n f) (k : Nat) (v : Value) : RowAt (w.setCell ⟨b, k, none⟩ v) b t n (fun i => if i = k then v else f i) := by
  unfold RowAt
  rw [← cellsOf_set]
  exact heap_setCell_same _ _ _ _ _ _ h
theorem RowAt.other {w : World} {b n c k : Nat} {t : TypeId} {f : Nat → Value} (h : RowAt w b t n f) (v : Value) (hc : b ≠ c) : RowAt (w.setCell ⟨c, k, none⟩ v) b t n f :=
  (heap_setCell_other w ⟨c, k, none⟩ b v hc).trans h
theorem RowAt.ext {w : World} {b n : Nat} {t : TypeId} {f g : Nat → Value} (h : RowAt w b t n f) (e : ∀ i, i < n → f i = g i) : RowAt w b t n g := by
  unfold RowAt at h ⊢
  rw [h, cellsOf_ext e]
/-- A part of a row is read. -/
theorem RowAt.load {w : World} {b n : Nat} {t : TypeId} {f : Nat → Value} (h : RowAt w b t n f) {o k : Nat} (g : Nat → Value) (hok : o + k ≤ n) (e : ∀ i, i < k → f (o + i) = g i) :
    (loadCellsFrom ⟨b, o, none⟩ 0 k #[]).run Tryd.prog w = .ok (cellsOf k g) w := by
  have := run_loadCells_list (P := Tryd.prog) w ⟨b, o, none⟩ (cellsOf k g).toList (fun j v hv => by
    have hj : j < k := by
      have := (List.getElem?_eq_some_iff.1 hv).1
      simpa [cellsOf_size] using this
    rw [Addr.add_mid, h.cell (by omega), e j hj]
    rw [Array.getElem?_toList, cellsOf_at _ hj] at hv
    exact hv)
  simpa [loadCells, cellsOf_size] using this
/-- A part of a row is written. -/
theorem RowAt.store {w : World} {b n : Nat} {t : TypeId} {f : Nat → Value} (h : RowAt w b t n f) (o k : Nat) (g f' : Nat → Value) (hok : o + k ≤ n) (h1 : ∀ i, i < k → (g i).oneCell' = true)
    (e : ∀ i, i < n → f' i = if o ≤ i ∧ i < o + k then g (i - o) else f i) :
    ∃ w2, (storeCells ⟨b, o, none⟩ (cellsOf k g).toList 0).run Tryd.prog w = .ok () w2 ∧ RowAt w2 b t n f' ∧ w2.heap.size = w.heap.size ∧ (∀ j, j ≠ b → w2.heap[j]? = w.heap[j]?) ∧ (∀ B a, Below B a w → B ≤ b → Below B a w2) := by
  have hs := run_storeCells_at (P := Tryd.prog) b o t (cellsOf k g).toList 0 (cellsOf n f) w h (by simp [cellsOf_size]; omega) (fun v hv => by
    rw [Array.mem_toList_iff, Array.mem_iff_getElem?] at hv
    obtain ⟨i, hi⟩ := hv
    have hk : i < k := by
      have := (Array.getElem?_eq_some_iff.1 hi).1
      simpa [cellsOf_size] using this
    rw [cellsOf_at _ hk] at hi
    obtain rfl := Option.some.inj hi
    exact h1 i hk)
  refine ⟨_, hs, ?_, by simp, fun j hj => setRow_other _ _ _ _ hj, fun B a hb hB => below_setRow hb hB _⟩
  refine (setRow_heap w b _ _ t _ h).trans ?_
  congr 2
  apply Array.ext_getElem?
  intro i
  simp only [List.getElem?_toArray, Nat.add_zero, Array.length_toList, cellsOf_size]
  by_cases hi : i < n
  · rw [cellsOf_at _ hi, e i hi]
    by_cases ho : i < o
    · rw [if_neg (by omega), List.append_assoc, List.getElem?_append_left (by simp [cellsOf_size]; omega), List.getElem?_take, if_pos ho, Array.getElem?_toList, cellsOf_at _ hi]
    · by_cases hk : i < o + k
      · rw [if_pos ⟨by omega, hk⟩, List.append_assoc, List.getElem?_append_right (by simp [cellsOf_size]; omega), List.getElem?_append_left (by simp [cellsOf_size]; omega)]
        simp only [List.length_take, Array.length_toList, cellsOf_size]
        rw [Nat.min_eq_left (by omega), Array.getElem?_toList, cellsOf_at _ (by omega)]
      · rw [if_neg (by omega), List.getElem?_append_right (by simp [cellsOf_size]; omega), List.getElem?_drop]
        simp only [List.length_append, List.length_take, Array.length_toList, cellsOf_size]
        rw [Nat.min_eq_left (by omega), Array.getElem?_toList, show o + k + (i - (o + k)) = i by omega, cellsOf_at _ hi]
  · have h2 : (cellsOf n f')[i]? = none := by simp [cellsOf]; omega
    rw [h2]
    simp [cellsOf_size]
    omega
/-- A result that lies in memory. -/
theorem resRow {fn : Func} {W : World} {b p n : Nat} {t ty : TypeId} {f : Nat → Value} {d : TypeDesc} {tmps : Array Value} (h : fn.results = #[.cell p ty]) (hp : tmps.getD p undef = .pointer (some ⟨b, 0, none⟩)) (hR : RowAt W b t n f)
    (hu : Tryd.prog.underlying ty = some d) (hd : d.isRow = true) (hi : (Tryd.prog.info? ty).map (·.size) = some n) :
    (results fn tmps).run Tryd.prog W = .ok (.agg (cellsOf n f)) W :=
  results_cell_row h tmps W b t _ _ d hp hR hu (by cases d <;> exact hd) (by rw [hi, cellsOf_size])
/-- The walk's step at a load of many cells. -/
theorem wpList_rowLoad {ops : Array Oper} {rest : List Oper} {op : Oper} {a : Act} {w : World} {Q : Exit → Act → World → Prop} {n : Nat} {t : TypeId} {f : Nat → Value} {d : TypeDesc} (hgd : op.guard = none) (ty : TypeId) (x : Operand) (ho : op.op = .load ty x)
    (b o k : Nat) (g : Nat → Value) (hx : a.eval x = .pointer (some ⟨b, o, none⟩)) (hR : RowAt w b t n f) (hok : o + k ≤ n) (e : ∀ i, i < k → f (o + i) = g i)
    (hu : Tryd.prog.underlying ty = some d) (hd : d.isRow = true) (hi : (Tryd.prog.info? ty).map (·.size) = some k) (h : wpList Tryd.prog ops Q rest (a.put op.dst (.agg (cellsOf k g))) w) : wpList Tryd.prog ops Q (op :: rest) a w :=
  wpList_load_mid hgd ty x ho b o hx (cellsOf k g).toList d (fun j v hv => by
    have hj : j < k := by
      have := (List.getElem?_eq_some_iff.1 hv).1
      simpa [cellsOf_size] using this
    rw [hR.cell (by omega), e j hj]
    rw [Array.getElem?_toList, cellsOf_at _ hj] at hv
    exact hv) hu hd (by rw [hi]; simp [cellsOf_size]) (by simpa using h)
/-- The walk's step at a store of many cells. -/
theorem wpList_rowStore {ops : Array Oper} {rest : List Oper} {op : Oper} {a : Act} {w : World} {Q : Exit → Act → World → Prop} {n : Nat} {t : TypeId} {f : Nat → Value} (hgd : op.guard = none) (ty : TypeId) (x y : Operand) (ho : op.op = .store ty x y)
    (b o k : Nat) (g f' : Nat → Value) (hx : a.eval x = .pointer (some ⟨b, o, none⟩)) (hy : a.eval y = .agg (cellsOf k g)) (hR : RowAt w b t n f) (hok : o + k ≤ n) (h1 : ∀ i, i < k → (g i).oneCell' = true)
    (e : ∀ i, i < n → f' i = if o ≤ i ∧ i < o + k then g (i - o) else f i) (hi : (Tryd.prog.info? ty).map (·.size) = some k)
    (h : ∀ w2, RowAt w2 b t n f' → w2.heap.size = w.heap.size → (∀ j, j ≠ b → w2.heap[j]? = w.heap[j]?) → (∀ B a, Below B a w → B ≤ b → Below B a w2) → wpList Tryd.prog ops Q rest (a.put op.dst undef) w2) : wpList Tryd.prog ops Q (op :: rest) a w := by
  obtain ⟨w2, hs, hR2, hz2, hk2, hb2⟩ := hR.store o k g f' hok h1 e
  refine wpList_plain hgd fun _ hK => ?_
  unfold Oper.wp execOp
  have hv : (storeVar ty ⟨b, o, none⟩ (.agg (cellsOf k g))).run Tryd.prog w = .ok () w2 := by
    cases hq : Tryd.prog.info? ty with
    | none => simp [hq] at hi
    | some i =>
      have hs' : i.size = k := by simpa [hq] using hi
      simp [storeVar, sizeOf, typeInfo, hq, Value.cells, hs', cellsOf_size, hs]
  simp only [ho, hx, hy, Instr.storeAt, Instr.sureAddr, Sem.run_bind, Sem.run_pure, Result.andThen_ok, hv]
  exact hK _ _ (h w2 hR2 hz2 hk2 hb2)
/-- A memory of the call's own lies in block b. -/
abbrev MemAt (w : World) (b : Nat) (m : Mm) : Prop := RowAt w b 45 136 m.cell
theorem tcell_one (m : Mm) (i : Nat) : (m.tcell i).oneCell' = true := by unfold Mm.tcell; split <;> rfl
theorem ccell_one (m : Mm) (i : Nat) : (m.ccell i).oneCell' = true := by unfold Mm.ccell; split <;> (try split) <;> rfl
theorem dcell_one (m : Mm) (i : Nat) : (m.dcell i).oneCell' = true := rfl
theorem rcell_one (m : Mm) (i : Nat) : (m.rcell i).oneCell' = true := rfl
theorem cell_one (m : Mm) (i : Nat) : (m.cell i).oneCell' = true := by
  unfold Mm.cell
  repeat' split
  all_goals first | rfl | exact tcell_one _ _ | exact ccell_one _ _
theorem tArr_size (m : Mm) : m.tArr.size = 32 := cellsOf_size _ _
theorem cArr_size (m : Mm) : m.cArr.size = 48 := cellsOf_size _ _
theorem dArr_size (m : Mm) : m.dArr.size = 32 := cellsOf_size _ _
theorem rArr_size (m : Mm) : m.rArr.size = 16 := cellsOf_size _ _
theorem cells_size (m : Mm) : m.cells.size = 136 := cellsOf_size _ _
end Go.Proofs.YtljhpagpohihcabDoor
