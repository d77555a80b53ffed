/- The memory of a controller as plain data, and its cells. Helper text: no statement is claimed here. -/
import Derived.Test.YtmgjngihngddfaaGreatDoorRows
import Derived.WalkKit
import Derived.ProofKit
import Derived.LaidMore
import Derived.OpenShut
import Derived.Below
import Derived.Deep.MidRow
import Derived.Deep.WholeRow
import Derived.Laws.CopyRow
import Derived.Laws.CopyOwn
import Derived.Deep.RegionHeld3
import Derived.Deep.QuietTactic
import Derived.BigQuiet
namespace Go.Proofs.YtmgjngihngddfaaGreatDoor
open Go.ChangeShapes Go.WideShapes Go.ChangeAt Go.RowKit

/-- A memory: words of bits, timers, counters, registers of both sorts, and the rest. -/
structure Mm where
  x : Nat
  y : Nat
  m : Nat
  s : Nat
  e : Nat
  td : Nat → Bool
  tc : Nat → Nat
  cd : Nat → Bool
  cl : Nat → Bool
  cc : Nat → Nat
  d : Nat → Int
  r : Nat → Nat
  time : Nat
  ran : Bool
  fault : Bool

/-- Every number keeps to its width. -/
structure Mm.Ok (m : Mm) : Prop where
  hx : m.x < 2 ^ 32
  hy : m.y < 2 ^ 32
  hm : m.m < 2 ^ 64
  hs : m.s < 2 ^ 16
  he : m.e < 2 ^ 32
  htc : ∀ i, m.tc i < 65536
  hcc : ∀ i, m.cc i < 65536
  hd : ∀ i, -32768 ≤ m.d i ∧ m.d i ≤ 32767
  hr : ∀ i, m.r i < 2 ^ 64
  htime : m.time < 2 ^ 32

def Mm.tcell (m : Mm) (i : Nat) : Value := if i % 2 = 0 then .bool (m.td (i / 2)) else .int .u16 (m.tc (i / 2))
def Mm.ccell (m : Mm) (i : Nat) : Value := if i % 3 = 0 then .bool (m.cd (i / 3)) else if i % 3 = 1 then .bool (m.cl (i / 3)) else .int .u16 (m.cc (i / 3))
def Mm.dcell (m : Mm) (i : Nat) : Value := .int .i16 (m.d i)
def Mm.rcell (m : Mm) (i : Nat) : Value := .float .f64 (m.r i)
/-- What lies in each of the 136 cells. -/
def Mm.cell (m : Mm) (i : Nat) : Value :=
  if i < 5 then (if i = 0 then .int .u32 m.x else if i = 1 then .int .u32 m.y else if i = 2 then .int .u64 m.m else if i = 3 then .int .u16 m.s else .int .u32 m.e)
  else if i < 37 then m.tcell (i - 5)
  else if i < 85 then m.ccell (i - 37)
  else if i < 117 then m.dcell (i - 85)
  else if i < 133 then m.rcell (i - 117)
  else if i = 133 then .int .u32 m.time
  else if i = 134 then .bool m.ran
  else .bool m.fault
def cellsOf (n : Nat) (f : Nat → Value) : Array Value := Array.ofFn (n := n) fun i => f i.val
theorem cellsOf_size (n : Nat) (f : Nat → Value) : (cellsOf n f).size = n := by simp [cellsOf]
theorem cellsOf_at {n : Nat} (f : Nat → Value) {i : Nat} (h : i < n) : (cellsOf n f)[i]? = some (f i) := by simp [cellsOf, h]
theorem cellsOf_ext {n : Nat} {f g : Nat → Value} (h : ∀ i, i < n → f i = g i) : cellsOf n f = cellsOf n g := by
  unfold cellsOf
  congr 1
  funext i
  exact h i.val i.isLt
theorem cellsOf_set {n : Nat} (f : Nat → Value) (k : Nat) (v : Value) : (cellsOf n f).setIfInBounds k v = cellsOf n (fun i => if i = k then v else f i) := by
  apply Array.ext_getElem?
  intro i
  rw [Array.getElem?_setIfInBounds, cellsOf_size]
  by_cases hi : i < n
  · rw [cellsOf_at _ hi, cellsOf_at _ hi]
    by_cases hk : k = i
    · subst hk; simp [hi]
    · have : ¬ i = k := fun e => hk e.symm
      simp [hk, this]
  · have h1 : (cellsOf n f)[i]? = none := by simp [cellsOf]; omega
    have h2 : (cellsOf n (fun i => if i = k then v else f i))[i]? = none := by simp [cellsOf]; omega
    rw [h1, h2]
    by_cases hk : k = i
    · subst hk; simp [hi]
    · simp [hk]
def Mm.cells (m : Mm) : Array Value := cellsOf 136 m.cell
def Mm.val (m : Mm) : Value := .agg m.cells
theorem Mm.at_ (m : Mm) {i : Nat} (h : i < 136) : m.cells[i]? = some (m.cell i) := cellsOf_at _ h
theorem Mm.at_x (m : Mm) : m.cells[0]? = some (.int .u32 m.x) := m.at_ (by decide)
theorem Mm.at_y (m : Mm) : m.cells[1]? = some (.int .u32 m.y) := m.at_ (by decide)
theorem Mm.at_m (m : Mm) : m.cells[2]? = some (.int .u64 m.m) := m.at_ (by decide)
theorem Mm.at_s (m : Mm) : m.cells[3]? = some (.int .u16 m.s) := m.at_ (by decide)
theorem Mm.at_e (m : Mm) : m.cells[4]? = some (.int .u32 m.e) := m.at_ (by decide)
theorem Mm.at_time (m : Mm) : m.cells[133]? = some (.int .u32 m.time) := m.at_ (by decide)
theorem Mm.at_ran (m : Mm) : m.cells[134]? = some (.bool m.ran) := m.at_ (by decide)
theorem Mm.at_fault (m : Mm) : m.cells[135]? = some (.bool m.fault) := m.at_ (by decide)
theorem Mm.cell_t (m : Mm) {j : Nat} (h : j < 32) : m.cell (5 + j) = m.tcell j := by
  unfold Mm.cell; rw [if_neg (by omega), if_pos (by omega), show 5 + j - 5 = j by omega]
theorem Mm.cell_c (m : Mm) {j : Nat} (h : j < 48) : m.cell (37 + j) = m.ccell j := by
  unfold Mm.cell; rw [if_neg (by omega), if_neg (by omega), if_pos (by omega), show 37 + j - 37 = j by omega]
theorem Mm.cell_d (m : Mm) {j : Nat} (h : j < 32) : m.cell (85 + j) = m.dcell j := by
  unfold Mm.cell; rw [if_neg (by omega), if_neg (by omega), if_neg (by omega), if_pos (by omega), show 85 + j - 85 = j by omega]
theorem Mm.cell_r (m : Mm) {j : Nat} (h : j < 16) : m.cell (117 + j) = m.rcell j := by
  unfold Mm.cell; rw [if_neg (by omega), if_neg (by omega), if_neg (by omega), if_neg (by omega), if_pos (by omega), show 117 + j - 117 = j by omega]
theorem Mm.tcell_d (m : Mm) (k : Nat) : m.tcell (k * 2) = .bool (m.td k) := by
  unfold Mm.tcell; rw [if_pos (by omega), show k * 2 / 2 = k by omega]
theorem Mm.tcell_c (m : Mm) (k : Nat) : m.tcell (k * 2 + 1) = .int .u16 (m.tc k) := by
  unfold Mm.tcell; rw [if_neg (by omega), show (k * 2 + 1) / 2 = k by omega]
theorem Mm.ccell_d (m : Mm) (k : Nat) : m.ccell (k * 3) = .bool (m.cd k) := by
  unfold Mm.ccell; rw [if_pos (by omega), show k * 3 / 3 = k by omega]
theorem Mm.ccell_l (m : Mm) (k : Nat) : m.ccell (k * 3 + 1) = .bool (m.cl k) := by
  unfold Mm.ccell; rw [if_neg (by omega), if_pos (by omega), show (k * 3 + 1) / 3 = k by omega]
theorem Mm.ccell_c (m : Mm) (k : Nat) : m.ccell (k * 3 + 2) = .int .u16 (m.cc k) := by
  unfold Mm.ccell; rw [if_neg (by omega), if_neg (by omega), show (k * 3 + 2) / 3 = k by omega]
theorem Mm.at_td (m : Mm) {k : Nat} (h : k < 16) : m.cells[5 + k * 2]? = some (.bool (m.td k)) := by rw [m.at_ (by omega), m.cell_t (by omega), m.tcell_d]
theorem Mm.at_tc (m : Mm) {k : Nat} (h : k < 16) : m.cells[5 + k * 2 + 1]? = some (.int .u16 (m.tc k)) := by rw [m.at_ (by omega), Nat.add_assoc, m.cell_t (by omega), m.tcell_c]
theorem Mm.at_cd (m : Mm) {k : Nat} (h : k < 16) : m.cells[37 + k * 3]? = some (.bool (m.cd k)) := by rw [m.at_ (by omega), m.cell_c (by omega), m.ccell_d]
theorem Mm.at_cl (m : Mm) {k : Nat} (h : k < 16) : m.cells[37 + k * 3 + 1]? = some (.bool (m.cl k)) := by rw [m.at_ (by omega), Nat.add_assoc, m.cell_c (by omega), m.ccell_l]
theorem Mm.at_cc (m : Mm) {k : Nat} (h : k < 16) : m.cells[37 + k * 3 + 2]? = some (.int .u16 (m.cc k)) := by rw [m.at_ (by omega), Nat.add_assoc, m.cell_c (by omega), m.ccell_c]
theorem Mm.at_d (m : Mm) {k : Nat} (h : k < 32) : m.cells[85 + k]? = some (.int .i16 (m.d k)) := by rw [m.at_ (by omega), m.cell_d h]; rfl
theorem Mm.at_r (m : Mm) {k : Nat} (h : k < 16) : m.cells[117 + k]? = some (.float .f64 (m.r k)) := by rw [m.at_ (by omega), m.cell_r h]; rfl
/-- The four arrays. -/
def Mm.tArr (m : Mm) : Array Value := cellsOf 32 m.tcell
def Mm.cArr (m : Mm) : Array Value := cellsOf 48 m.ccell
def Mm.dArr (m : Mm) : Array Value := cellsOf 32 m.dcell
def Mm.rArr (m : Mm) : Array Value := cellsOf 16 m.rcell
/-- The memory with nothing in it. -/
def zeroM : Mm := ⟨0, 0, 0, 0, 0, fun _ => false, fun _ => 0, fun _ => false, fun _ => false, fun _ => 0, fun _ => 0, fun _ => 0, 0, false, false⟩
theorem zeroM_ok : zeroM.Ok := ⟨by decide, by decide, by decide, by decide, by decide, fun _ => by show (0 : Nat) < 65536; decide, fun _ => by show (0 : Nat) < 65536; decide, fun _ => by show (-32768 : Int) ≤ 0 ∧ (0 : Int) ≤ 32767; decide, fun _ => by show (0 : Nat) < 2 ^ 64; decide, by decide⟩
/-- A row of the call's own in block b: n cells, each as f says. -/
def RowAt (w : World) (b : Nat) (t : TypeId) (n : Nat) (f : Nat → Value) : Prop := w.heap[b]? = some (.cells (cellsOf n f) t (0, 0))
theorem RowAt.lt {w : World} {b n : Nat} {t : TypeId} {f : Nat → Value} (h : RowAt w b t n f) : b < w.heap.size := (Array.getElem?_eq_some_iff.1 h).1
theorem RowAt.to {w w' : World} {b n : Nat} {t : TypeId} {f : Nat → Value} (h : RowAt w b t n f) (hb : Below w.heap.size w w') : RowAt w' b t n f := (hb.block b h.lt).trans h
theorem RowAt.by {w w' : World} {b n : Nat} {t : TypeId} {f : Nat → Value} (h : RowAt w b t n f) (hb : w'.heap[b]? = w.heap[b]?) : RowAt w' b t n f := hb.trans h
theorem RowAt.cell {w : World} {b n : Nat} {t : TypeId} {f : Nat → Value} (h : RowAt w b t n f) {i : Nat} (hi : i < n) : w.cell? ⟨b, i, none⟩ = some (f i) := (cell_of_row _ _ _ _ _ _ h).trans (cellsOf_at _ hi)
theorem RowAt.frozen {w : World} {b n : Nat} {t : TypeId} {f : Nat → Value} (h : RowAt w b t n f) (i : Nat) : w.frozen? ⟨b, i, none⟩ = false := frozen_of_row _ _ _ _ _ h
theorem RowAt.new (w : World) (t : TypeId) (n : Nat) (f : Nat → Value) : RowAt (w.alloc (.cells (cellsOf n f) t)) w.heap.size t n f := heap_alloc_last w _
theorem RowAt.alloc {w : World} {b n : Nat} {t : TypeId} {f : Nat → Value} (h : RowAt w b t n f) (o : Obj) : RowAt (w.alloc o) b t n f := h.to ((Below.refl _ _).alloc (Nat.le_refl _) _)
theorem RowAt.set {w : World} {b n : Nat} {t : TypeId} {f : Nat → Value} (h : RowAt w b t n f) (k : Nat) (v : Value) : RowAt (w.setCell ⟨b, k, none⟩ v) b t n (fun i => if i = k then v else f i) := by
  unfold RowAt
  rw [← cellsOf_set]
  exact heap_setCell_same _ _ _ _ _ _ h
theorem RowAt.other {w : World} {b n c k : Nat} {t : TypeId} {f : Nat → Value} (h : RowAt w b t n f) (v : Value) (hc : b ≠ c) : RowAt (w.setCell ⟨c, k, none⟩ v) b t n f :=
  (heap_setCell_other w ⟨c, k, none⟩ b v hc).trans h
theorem RowAt.ext {w : World} {b n : Nat} {t : TypeId} {f g : Nat → Value} (h : RowAt w b t n f) (e : ∀ i, i < n → f i = g i) : RowAt w b t n g := by
  unfold RowAt at h ⊢
  rw [h, cellsOf_ext e]
/-- A part of a row is read. -/
theorem RowAt.load {w : World} {b n : Nat} {t : TypeId} {f : Nat → Value} (h : RowAt w b t n f) {o k : Nat} (g : Nat → Value) (hok : o + k ≤ n) (e : ∀ i, i < k → f (o + i) = g i) :
    (loadCellsFrom ⟨b, o, none⟩ 0 k #[]).run Tryz.prog w = .ok (cellsOf k g) w := by
  have := run_loadCells_list (P := Tryz.prog) w ⟨b, o, none⟩ (cellsOf k g).toList (fun j v hv => by
    have hj : j < k := by
      have := (List.getElem?_eq_some_iff.1 hv).1
      simpa [cellsOf_size] using this
    rw [Addr.add_mid, h.cell (by omega), e j hj]
    rw [Array.getElem?_toList, cellsOf_at _ hj] at hv
    exact hv)
  simpa [loadCells, cellsOf_size] using this
/-- A part of a row is written. -/
theorem RowAt.store {w : World} {b n : Nat} {t : TypeId} {f : Nat → Value} (h : RowAt w b t n f) (o k : Nat) (g f' : Nat → Value) (hok : o + k ≤ n) (h1 : ∀ i, i < k → (g i).oneCell' = true)
    (e : ∀ i, i < n → f' i = if o ≤ i ∧ i < o + k then g (i - o) else f i) :
    ∃ w2, (storeCells ⟨b, o, none⟩ (cellsOf k g).toList 0).run Tryz.prog w = .ok () w2 ∧ RowAt w2 b t n f' ∧ w2.heap.size = w.heap.size ∧ (∀ j, j ≠ b → w2.heap[j]? = w.heap[j]?) ∧ (∀ B a, Below B a w → B ≤ b → Below B a w2) := by
  have hs := run_storeCells_at (P := Tryz.prog) b o t (cellsOf k g).toList 0 (cellsOf n f) w h (by simp [cellsOf_size]; omega) (fun v hv => by
    rw [Array.mem_toList_iff, Array.mem_iff_getElem?] at hv
    obtain ⟨i, hi⟩ := hv
    have hk : i < k := by
      have := (Array.getElem?_eq_some_iff.1 hi).1
      simpa [cellsOf_size] using this
    rw [cellsOf_at _ hk] at hi
    obtain rfl := Option.some.inj hi
    exact h1 i hk)
  refine ⟨_, hs, ?_, by simp, fun j hj => setRow_other _ _ _ _ hj, fun B a hb hB => below_setRow hb hB _⟩
  refine (setRow_heap w b _ _ t _ h).trans ?_
  congr 2
  apply Array.ext_getElem?
  intro i
  simp only [List.getElem?_toArray, Nat.add_zero, Array.length_toList, cellsOf_size]
  by_cases hi : i < n
  · rw [cellsOf_at _ hi, e i hi]
    by_cases ho : i < o
    · rw [if_neg (by omega), List.append_assoc, List.getElem?_append_left (by simp [cellsOf_size]; omega), List.getElem?_take, if_pos ho, Array.getElem?_toList, cellsOf_at _ hi]
    · by_cases hk : i < o + k
      · rw [if_pos ⟨by omega, hk⟩, List.append_assoc, List.getElem?_append_right (by simp [cellsOf_size]; omega), List.getElem?_append_left (by simp [cellsOf_size]; omega)]
        simp only [List.length_take, Array.length_toList, cellsOf_size]
        rw [Nat.min_eq_left (by omega), Array.getElem?_toList, cellsOf_at _ (by omega)]
      · rw [if_neg (by omega), List.getElem?_append_right (by simp [cellsOf_size]; omega), List.getElem?_drop]
        simp only [List.length_append, List.length_take, Array.length_toList, cellsOf_size]
        rw [Nat.min_eq_left (by omega), Array.getElem?_toList, show o + k + (i - (o + k)) = i by omega, cellsOf_at _ hi]
  · have h2 : (cellsOf n f')[i]? = none := by simp [cellsOf]; omega
    rw [h2]
    simp [cellsOf_size]
    omega
/-- A result that lies in memory. -/
theorem resRow {fn : Func} {W : World} {b p n : Nat} {t ty : TypeId} {f : Nat → Value} {d : TypeDesc} {tmps : Array Value} (h : fn.results = #[.cell p ty]) (hp : tmps.getD p undef = .pointer (some ⟨b, 0, none⟩)) (hR : RowAt W b t n f)
    (hu : Tryz.prog.underlying ty = some d) (hd : d.isRow = true) (hi : (Tryz.prog.info? ty).map (·.size) = some n) :
    (results fn tmps).run Tryz.prog W = .ok (.agg (cellsOf n f)) W :=
  results_cell_row h tmps W b t _ _ d hp hR hu (by cases d <;> exact hd) (by rw [hi, cellsOf_size])
/-- The walk's step at a load of many cells. -/
theorem wpList_rowLoad {ops : Array Oper} {rest : List Oper} {op : Oper} {a : Act} {w : World} {Q : Exit → Act → World → Prop} {n : Nat} {t : TypeId} {f : Nat → Value} {d : TypeDesc} (hgd : op.guard = none) (ty : TypeId) (x : Operand) (ho : op.op = .load ty x)
    (b o k : Nat) (g : Nat → Value) (hx : a.eval x = .pointer (some ⟨b, o, none⟩)) (hR : RowAt w b t n f) (hok : o + k ≤ n) (e : ∀ i, i < k → f (o + i) = g i)
    (hu : Tryz.prog.underlying ty = some d) (hd : d.isRow = true) (hi : (Tryz.prog.info? ty).map (·.size) = some k) (h : wpList Tryz.prog ops Q rest (a.put op.dst (.agg (cellsOf k g))) w) : wpList Tryz.prog ops Q (op :: rest) a w :=
  wpList_load_mid hgd ty x ho b o hx (cellsOf k g).toList d (fun j v hv => by
    have hj : j < k := by
      have := (List.getElem?_eq_some_iff.1 hv).1
      simpa [cellsOf_size] using this
    rw [hR.cell (by omega), e j hj]
    rw [Array.getElem?_toList, cellsOf_at _ hj] at hv
    exact hv) hu hd (by rw [hi]; simp [cellsOf_size]) (by simpa using h)
/-- The walk's step at a store of many cells. -/
theorem wpList_rowStore {ops : Array Oper} {rest : List Oper} {op : Oper} {a : Act} {w : World} {Q : Exit → Act → World → Prop} {n : Nat} {t : TypeId} {f : Nat → Value} (hgd : op.guard = none) (ty : TypeId) (x y : Operand) (ho : op.op = .store ty x y)
    (b o k : Nat) (g f' : Nat → Value) (hx : a.eval x = .pointer (some ⟨b, o, none⟩)) (hy : a.eval y = .agg (cellsOf k g)) (hR : RowAt w b t n f) (hok : o + k ≤ n) (h1 : ∀ i, i < k → (g i).oneCell' = true)
    (e : ∀ i, i < n → f' i = if o ≤ i ∧ i < o + k then g (i - o) else f i) (hi : (Tryz.prog.info? ty).map (·.size) = some k)
    (h : ∀ w2, RowAt w2 b t n f' → w2.heap.size = w.heap.size → (∀ j, j ≠ b → w2.heap[j]? = w.heap[j]?) → (∀ B a, Below B a w → B ≤ b → Below B a w2) → wpList Tryz.prog ops Q rest (a.put op.dst undef) w2) : wpList Tryz.prog ops Q (op :: rest) a w := by
  obtain ⟨w2, hs, hR2, hz2, hk2, hb2⟩ := hR.store o k g f' hok h1 e
  refine wpList_plain hgd fun _ hK => ?_
  unfold Oper.wp execOp
  have hv : (storeVar ty ⟨b, o, none⟩ (.agg (cellsOf k g))).run Tryz.prog w = .ok () w2 := by
    cases hq : Tryz.prog.info? ty with
    | none => simp [hq] at hi
    | some i =>
      have hs' : i.size = k := by simpa [hq] using hi
      simp [storeVar, sizeOf, typeInfo, hq, Value.cells, hs', cellsOf_size, hs]
  simp only [ho, hx, hy, Instr.storeAt, Instr.sureAddr, Sem.run_bind, Sem.run_pure, Result.andThen_ok, hv]
  exact hK _ _ (h w2 hR2 hz2 hk2 hb2)
/-- A memory of the call's own lies in block b. -/
abbrev MemAt (w : World) (b : Nat) (m : Mm) : Prop := RowAt w b 37 136 m.cell
theorem tcell_one (m : Mm) (i : Nat) : (m.tcell i).oneCell' = true := by unfold Mm.tcell; split <;> rfl
theorem ccell_one (m : Mm) (i : Nat) : (m.ccell i).oneCell' = true := by unfold Mm.ccell; split <;> (try split) <;> rfl
theorem dcell_one (m : Mm) (i : Nat) : (m.dcell i).oneCell' = true := rfl
theorem rcell_one (m : Mm) (i : Nat) : (m.rcell i).oneCell' = true := rfl
theorem cell_one (m : Mm) (i : Nat) : (m.cell i).oneCell' = true := by
  unfold Mm.cell
  repeat' split
  all_goals first | rfl | exact tcell_one _ _ | exact ccell_one _ _
theorem tArr_size (m : Mm) : m.tArr.size = 32 := cellsOf_size _ _
theorem cArr_size (m : Mm) : m.cArr.size = 48 := cellsOf_size _ _
theorem dArr_size (m : Mm) : m.dArr.size = 32 := cellsOf_size _ _
theorem rArr_size (m : Mm) : m.rArr.size = 16 := cellsOf_size _ _
theorem cells_size (m : Mm) : m.cells.size = 136 := cellsOf_size _ _
end Go.Proofs.YtmgjngihngddfaaGreatDoor

/- Steps of a walk at calls and at whole memories. Helper text: no statement is claimed here. -/
namespace Go.Proofs.YtmgjngihngddfaaGreatDoor
open Go.ChangeShapes Go.WideShapes Go.ChangeAt Go.RowKit

theorem RowAt.range {w : World} {b n : Nat} {t : TypeId} {f : Nat → Value} (h : RowAt w b t n f) : w.rangeAt b 0 (cellsOf n f).toList := fun j v hv => by
  have hj : j < n := by
    have := (List.getElem?_eq_some_iff.1 hv).1
    simpa [cellsOf_size] using this
  rw [Nat.zero_add, h.cell hj]
  rw [Array.getElem?_toList, cellsOf_at _ hj] at hv
  exact hv
/-- A call of a function of the program, whatever it is called with. -/
theorem wp_callGo {o : Oper} {a : Act} {w : World} {K : Act → World → Prop} {Q : Exit → Act → World → Prop} {f : FuncId} {xs : Array Operand} {ts : Array TypeId} {v : Value} {R : World → Prop} (hf : ∀ (xs : Array Value) (w : World), (callFunc f xs).run Tryz.prog w = .ok (.enter f xs) w) (ho : o.op = .call { callee := .value (.func f), args := xs, argTypes := ts })
    {args : Array Value} (ha : xs.map a.eval = args) (hC : Calls Tryz.prog f args w fun e w' => e = .returned v ∧ R w') (hk : ∀ w', R w' → K (a.put o.dst v) w') : o.wp Tryz.prog a w K Q := by
  subst ha
  have he : (execOp a.eval o).run Tryz.prog w = .ok (.enter f (xs.map a.eval)) w := by
    unfold execOp
    rw [ho]
    simp [go_sem, resolve, hf]
  unfold Oper.wp
  rw [he, Oper.upon_enter]
  refine hC.mono ?_
  rintro e w' ⟨rfl, h⟩
  exact hk w' h
theorem wp_allocMem {o : Oper} {a : Act} {w : World} {K : Act → World → Prop} {Q : Exit → Act → World → Prop} (ho : o.op = .alloc 37) (hz : ∀ w, (zeroValue 37).run Tryz.prog w = .ok (.agg zeroM.cells) w)
    (hk : K (a.put o.dst (.pointer (some ⟨w.heap.size, 0, none⟩))) (w.alloc (.cells zeroM.cells 37))) : o.wp Tryz.prog a w K Q := by
  unfold Oper.wp execOp
  rw [ho]
  simp [go_sem, hz]
  exact hk
theorem storeVar_row {w w2 : World} {ty : TypeId} {b o k : Nat} {g : Nat → Value} (hi : (Tryz.prog.info? ty).map (·.size) = some k) (hs : (storeCells ⟨b, o, none⟩ (cellsOf k g).toList 0).run Tryz.prog w = .ok () w2) :
    (storeVar ty ⟨b, o, none⟩ (.agg (cellsOf k g))).run Tryz.prog w = .ok () w2 := by
  cases hq : Tryz.prog.info? ty with
  | none => simp [hq] at hi
  | some i =>
    have hs' : i.size = k := by simpa [hq] using hi
    simp [storeVar, sizeOf, typeInfo, hq, Value.cells, hs', cellsOf_size, hs]
theorem yields_row {ops : Array Oper} {S : World → Prop} {op : Oper} {a : Act} {b n : Nat} {t ty : TypeId} {f : Nat → Value} {d : TypeDesc} (hw : Region.wanted op (yielded ops a.tmps) = true) (x : Operand) (ho : op.op = .load ty x) (hx : a.eval x = .pointer (some ⟨b, 0, none⟩))
    (hS : ∀ w, S w → RowAt w b t n f) (hu : Tryz.prog.underlying ty = some d) (hd : d.isRow = true) (hi : (Tryz.prog.info? ty).map (·.size) = some n) : YieldsIf Tryz.prog ops S op (.agg (cellsOf n f)) a := by
  have := yieldsIf_load_mid (P := Tryz.prog) (ops := ops) (S := S) hw ty x ho b 0 hx (cellsOf n f).toList d (fun w h => (hS w h).range) hu hd (by rw [Array.length_toList, cellsOf_size]; exact hi)
  rwa [Array.toArray_toList] at this
theorem wp_storeMem {o : Oper} {a : Act} {w : World} {K : Act → World → Prop} {Q : Exit → Act → World → Prop} {b : Nat} {m : Mm} (x y : Operand) (ho : o.op = .store 37 x y) (hx : a.eval x = .pointer (some ⟨b, 0, none⟩)) (hy : a.eval y = m.val) {f : Nat → Value} (hR : RowAt w b 37 136 f)
    (hk : ∀ w2, MemAt w2 b m → (∀ B a, Below B a w → B ≤ b → Below B a w2) → K (a.put o.dst undef) w2) : o.wp Tryz.prog a w K Q := by
  obtain ⟨w2, hs, hR2, hz2, hk2, hb2⟩ := hR.store 0 136 m.cell m.cell (by omega) (fun i _ => cell_one m i) (fun i hi => by rw [if_pos ⟨by omega, by omega⟩, Nat.sub_zero])
  have hv : (storeVar 37 ⟨b, 0, none⟩ m.val).run Tryz.prog w = .ok () w2 := storeVar_row (by kernel_rfl) hs
  unfold Oper.wp execOp
  rw [ho]
  simp only [hx, hy, Instr.storeAt, Instr.sureAddr, Sem.run_bind, Sem.run_pure, Result.andThen_ok, hv]
  exact hk w2 hR2 hb2
end Go.Proofs.YtmgjngihngddfaaGreatDoor

/- The operands of a contact or coil, three at most: actArgsOf. Helper text: no statement is claimed here. -/
namespace Go.Proofs.YtmgjngihngddfaaGreatDoor
open Go.ChangeShapes Go.WideShapes Go.ChangeAt Go.RowKit

/-- Some operands are copied into a row of the call's own. -/
theorem wpList_copy3 {ops : Array Oper} {rest : List Oper} {o : Oper} {a : Act} {w : World} {Q : Exit → Act → World → Prop} (hgd : o.guard = none) (d s : Operand) (dT sT : TypeId)
    (ho : o.op = .call { callee := .builtin .copy, args := #[d, s], argTypes := #[dT, sT] }) (elem : TypeId) (hu : Tryz.prog.underlying dT = some (.slice elem)) (hsz : (Tryz.prog.info? elem).map (·.size) = some 3)
    (g dLen dCap sLen sCap : Nat) (p : Option Addr) (hd : a.eval d = .slice (some ⟨g, 0, none⟩) dLen dCap) (hs : a.eval s = .slice p sLen sCap) {t : TypeId} {n : Nat} {f : Nat → Value} (hR : RowAt w g t n f)
    (c f' : Nat → Value) (k : Nat) (hk : Nat.min sLen dLen * 3 = k) (hfit : k ≤ n) (hsrc : k = 0 ∨ ∃ ad, p = some ad ∧ ∀ i, i < k → w.cell? (ad.add i) = some (c i)) (h1 : ∀ i, i < k → (c i).oneCell' = true) (e : ∀ i, i < n → f' i = if i < k then c i else f i)
    (h : ∀ w2, RowAt w2 g t n f' → w2.heap.size = w.heap.size → (∀ j, j ≠ g → w2.heap[j]? = w.heap[j]?) → (∀ B a, Below B a w → B ≤ g → Below B a w2) → wpList Tryz.prog ops Q rest (a.put o.dst (goInt (Nat.min sLen dLen))) w2) : wpList Tryz.prog ops Q (o :: rest) a w := by
  obtain ⟨w2, hst, hR2, hz2, hk2, hb2⟩ := hR.store 0 k c f' (by omega) h1 (fun i hi => by rw [e i hi]; simp)
  have hrun : (Builtin.copy_ #[dT, sT] o.type #[.slice (some ⟨g, 0, none⟩) dLen dCap, .slice p sLen sCap]).run Tryz.prog w = .ok (goInt (Nat.min sLen dLen)) w2 := by
    have hl : ∀ m, m = 3 → (Builtin.firstCells m (Nat.min sLen dLen) (.slice p sLen sCap)).run Tryz.prog w = .ok (cellsOf k c) w := by
      rintro m rfl
      rcases hsrc with h0 | ⟨ad, rfl, hc⟩
      · have e0 : cellsOf k c = #[] := by rw [h0]; rfl
        rw [e0]
        cases p with
        | none => rfl
        | some ad => simp only [Builtin.firstCells]; rw [hk, h0]; rfl
      · have := run_loadCells_list (P := Tryz.prog) w ad (cellsOf k c).toList (fun j v hv => by
          have hj : j < k := by
            have := (List.getElem?_eq_some_iff.1 hv).1
            simpa [cellsOf_size] using this
          rw [hc j hj]
          rw [Array.getElem?_toList, cellsOf_at _ hj] at hv
          exact hv)
        simp only [Builtin.firstCells]
        rw [hk]
        simpa [cellsOf_size] using this
    cases hq : Tryz.prog.info? elem with
    | none => simp [hq] at hsz
    | some i =>
      have hi : i.size = 3 := by simpa [hq] using hsz
      simp [Builtin.copy_, run_underlying hu, Builtin.lenOf, sizeOf, typeInfo, hq, hl i.size hi, hst]
  refine wpList_plain hgd fun K hK => ?_
  unfold Oper.wp
  simp [execOp, ho, resolve, invoke, builtin, hd, hs, hrun, Result.andThen]
  exact hK _ _ (h w2 hR2 hz2 hk2 hb2)

/-- What the nine cells of the operands hold. -/
def acell (n : Nat) (c : Nat → Int) (i : Nat) : Value := .int .i64 (if i < n * 3 then c i else 0)
/-- The operands as a value. -/
def argsV (n : Nat) (c : Nat → Int) : Value := .agg (cellsOf 9 (acell n c))
/-- Operands that lie in memory. -/
def ListAt (w : World) (p : Option Addr) (n : Nat) (c : Nat → Int) : Prop := n = 0 ∨ ∃ ad, p = some ad ∧ ad.block < w.heap.size ∧ ∀ i, i < n * 3 → w.cell? (ad.add i) = some (.int .i64 (c i))

set_option maxHeartbeats 1000000 in
set_option maxRecDepth 100000 in
theorem argsOf_any (p : Option Addr) (n cap : Nat) (c : Nat → Int) (w : World) (h : ListAt w p n c) :
    Calls Tryz.prog 49 #[.slice p n cap] w fun e w' => e = .returned (argsV n c) ∧ Below w.heap.size w w' := by
  have HL : Hid (ListAt w p n c) := h
  clear h
  go_enter Tryz.func49, Tryz.ntmps49
  have HZ : Hid (RowAt ((w.alloc (.cells (cellsOf 9 fun _ => .int .i64 0) 84)).alloc (.cells (cellsOf 9 fun _ => .int .i64 0) 110)) (w.heap.size + 1) 110 9 fun _ => .int .i64 0) := by
    have := RowAt.new (w.alloc (.cells (cellsOf 9 fun _ => .int .i64 0) 84)) 110 9 (fun _ => .int .i64 0)
    rw [show (w.alloc (.cells (cellsOf 9 fun _ => .int .i64 0) 84)).heap.size = w.heap.size + 1 by simp] at this
    exact this
  have HY : Hid (RowAt ((w.alloc (.cells (cellsOf 9 fun _ => .int .i64 0) 84)).alloc (.cells (cellsOf 9 fun _ => .int .i64 0) 110)) w.heap.size 84 9 fun _ => .int .i64 0) := (RowAt.new w 84 9 _).alloc _
  have hmin : ∀ i, i < 9 → (acell n c i) = if i < Nat.min n 3 * 3 then .int .i64 (c i) else .int .i64 0 := fun i hi => by
    unfold acell
    by_cases hn : i < n * 3
    · rw [if_pos hn, if_pos (by simp [Nat.min_def]; split <;> omega)]
    · rw [if_neg hn, if_neg (by simp [Nat.min_def]; split <;> omega)]
  have HMin : Hid (∀ i, i < 9 → (acell n c i) = if i < Nat.min n 3 * 3 then .int .i64 (c i) else .int .i64 0) := hmin
  have HSrc : Hid (Nat.min n 3 * 3 = 0 ∨ ∃ ad, p = some ad ∧ ∀ i, i < Nat.min n 3 * 3 → ((w.alloc (.cells (cellsOf 9 fun _ => .int .i64 0) 84)).alloc (.cells (cellsOf 9 fun _ => .int .i64 0) 110)).cell? (ad.add i) = some (.int .i64 (c i))) := by
    rcases HL.out with h0 | ⟨ad, hp, hlt, hc⟩
    · exact .inl (by rw [h0]; rfl)
    · refine .inr ⟨ad, hp, fun i hi => ?_⟩
      have hi' : i < n * 3 := by simp [Nat.min_def] at hi; split at hi <;> omega
      have hb : Below w.heap.size w ((w.alloc (.cells (cellsOf 9 fun _ => .int .i64 0) 84)).alloc (.cells (cellsOf 9 fun _ => .int .i64 0) 110)) := ((Below.refl _ _).alloc (Nat.le_refl _) _).alloc (by simp) _
      rw [hb.cell (p := ad.add i) (by rw [show (ad.add i).block = ad.block by unfold Addr.add; split <;> rfl]; exact hlt)]
      exact hc i hi'
  have HB0 : Hid (Below w.heap.size w ((w.alloc (.cells (cellsOf 9 fun _ => .int .i64 0) 84)).alloc (.cells (cellsOf 9 fun _ => .int .i64 0) 110))) := ((Below.refl _ _).alloc (Nat.le_refl _) _).alloc (by simp) _
  clear HL hmin
  have hz1 : ∀ w, (zeroValue 84).run Tryz.prog w = .ok (.agg (cellsOf 9 fun _ => .int .i64 0)) w := fun _ => by kernel_rfl
  have hz2 : ∀ w, (zeroValue 110).run Tryz.prog w = .ok (.agg (cellsOf 9 fun _ => .int .i64 0)) w := fun _ => by kernel_rfl
  go_wp2_with (first | (refine wpList_rowStore rfl 84 (.tmp 2) (.tmp 13) rfl w.heap.size 0 9 (acell n c) (acell n c) rfl (by kernel_rfl) HY2.out (by omega) (fun i _ => rfl) (fun i hi => by rw [if_pos ⟨by omega, by omega⟩, Nat.sub_zero]) (by kernel_rfl) ?_; intro w3 hR3 hs3 hk3 hb3) | (refine wpList_copy3 rfl (.tmp 4) (.tmp 5) _ _ rfl 48 Tryz.underlying38 (by kernel_rfl) (w.heap.size + 1) 3 3 n cap p rfl rfl HZ.out (fun i => .int .i64 (c i)) (acell n c) _ rfl (by simp [Nat.min_def]; split <;> omega) HSrc.out (fun _ _ => rfl) HMin.out ?_; intro w2 hR2 hs2 hk2 hb2; have HY2 : Hid (RowAt w2 w.heap.size 84 9 fun _ => .int .i64 0) := RowAt.by HY.out (hk2 w.heap.size (by omega)); have HB2 : Hid (Below w.heap.size w w2) := hb2 _ _ HB0.out (by omega); have c0 := hR2.cell (show 0 < 9 by omega); have c1 := hR2.cell (show 1 < 9 by omega); have c2 := hR2.cell (show 2 < 9 by omega); have c3 := hR2.cell (show 3 < 9 by omega); have c4 := hR2.cell (show 4 < 9 by omega); have c5 := hR2.cell (show 5 < 9 by omega); have c6 := hR2.cell (show 6 < 9 by omega); have c7 := hR2.cell (show 7 < 9 by omega); have c8 := hR2.cell (show 8 < 9 by omega); clear hR2 hs2 hk2 hb2))
  exact bodyPost_ret (v := argsV n c) (resRow Tryz.results49 rfl hR3 Tryz.underlying84 rfl (by kernel_rfl)) rfl ⟨rfl, hb3 _ _ HB2.out (Nat.le_refl _)⟩
end Go.Proofs.YtmgjngihngddfaaGreatDoor

/- Nine cells written out; operands that lie there behind a call. Helper text: no statement is claimed here. -/
namespace Go.Proofs.YtmgjngihngddfaaGreatDoor
open Go.ChangeShapes Go.WideShapes Go.ChangeAt Go.RowKit

/-- Nine cells written out. -/
abbrev lit9 (x : Nat → Int) : Value := .agg #[.int .i64 (x 0), .int .i64 (x 1), .int .i64 (x 2), .int .i64 (x 3), .int .i64 (x 4), .int .i64 (x 5), .int .i64 (x 6), .int .i64 (x 7), .int .i64 (x 8)]
theorem lit9_eq (x : Nat → Int) : .agg (cellsOf 9 fun i => .int .i64 (x i)) = lit9 x := by kernel_rfl
/-- What the nine cells hold, as numbers. -/
def anum (n : Nat) (c : Nat → Int) (i : Nat) : Int := if i < n * 3 then c i else 0

theorem ListAt.to {w w' : World} {p : Option Addr} {n : Nat} {c : Nat → Int} (h : ListAt w p n c) (hb : Below w.heap.size w w') : ListAt w' p n c := by
  rcases h with h0 | ⟨ad, hp, hlt, hc⟩
  · exact .inl h0
  · exact .inr ⟨ad, hp, Nat.lt_of_lt_of_le hlt hb.size, fun i hi => by rw [hb.cell (p := ad.add i) (by rw [show (ad.add i).block = ad.block by unfold Addr.add; split <;> rfl]; exact hlt)]; exact hc i hi⟩
end Go.Proofs.YtmgjngihngddfaaGreatDoor

/- The table of devices, as the program's own text lays it, cell for cell; and what devRowOf answers. Helper text: no statement is claimed here. -/
namespace Go.Proofs.YtmgjngihngddfaaGreatDoor
open Go.ChangeShapes Go.WideShapes Go.ChangeAt Go.RowKit

def rL : Nat → List UInt8
  | 1 => [88] | 2 => [89] | 3 => [77] | 4 => [83] | 5 => [69] | 6 => [71] | 7 => [84] | 8 => [67] | 9 => [68] | 10 => [82] | _ => []
def rN : Nat → Int
  | 1 => 32 | 2 => 32 | 3 => 64 | 4 => 16 | 5 => 32 | 6 => 5 | 7 => 16 | 8 => 16 | 9 => 32 | 10 => 16 | _ => 0
def rB : Nat → Bool
  | 1 => true | 2 => true | 3 => true | 4 => true | 6 => true | 7 => true | 8 => true | _ => false
def rW : Nat → Bool
  | 7 => true | 8 => true | 9 => true | 11 => true | _ => false
def rR : Nat → Bool
  | 10 => true | 12 => true | 13 => true | _ => false

/-- The cells of the table of devices. -/
def DevTab (w : World) : Prop := ∀ i, i < 14 →
  w.cell? ⟨0, i * 5, none⟩ = some (.string ⟨(rL i).toArray⟩) ∧ w.cell? ⟨0, i * 5 + 1, none⟩ = some (.int .i64 (rN i)) ∧
  w.cell? ⟨0, i * 5 + 2, none⟩ = some (.bool (rB i)) ∧ w.cell? ⟨0, i * 5 + 3, none⟩ = some (.bool (rW i)) ∧ w.cell? ⟨0, i * 5 + 4, none⟩ = some (.bool (rR i))

theorem gRows : Tryz.prog.globalNamed (Rows.fnActShutRow.named.getD 0 "") = some 0 := by kernel_rfl
theorem tRows : (Tryz.prog.globals[0]?).map (·.type) = some 122 := by kernel_rfl
theorem cRow : Tryz.prog.cellsOf 120 = 5 := by kernel_rfl
theorem cRows : Tryz.prog.cellsOf 122 = 70 := by kernel_rfl
theorem cInt : Tryz.prog.cellsOf 3 = 1 := by kernel_rfl
theorem cBool : Tryz.prog.cellsOf 4 = 1 := by kernel_rfl
theorem cStr : Tryz.prog.cellsOf 9 = 1 := by kernel_rfl

theorem five {α : Type} {l : List α} (h : l.length = 5) : ∃ a b c d e, l = [a, b, c, d, e] := by
  match l, h with
  | [a, b, c, d, e], _ => exact ⟨a, b, c, d, e, rfl⟩

theorem rowCells {w : World} {sp : Nat → Bool} {held : Bool} {fuel : Nat} {cs : List Value} {l : List UInt8} {n : Int} {b1 b2 b3 : Bool} {p : List MemPlace}
    (h : DataW.trod (fun _ => ()) Tryz.prog w 0 sp held fuel 120 cs = some (.agg [.lit (.string l), .lit (.int .i64 n), .lit (.bool b1), .lit (.bool b2), .lit (.bool b3)], p)) :
    cs = [.string ⟨l.toArray⟩, .int .i64 n, .bool b1, .bool b2, .bool b3] := by
  obtain ⟨xs, m, rfl, hx, hl, hn, hf⟩ := DataW.trod_struct Tryz.underlying120 h
  simp only [Prod.mk.injEq, DataW.agg.injEq] at hx
  rw [cRow] at hl
  obtain ⟨x0, x1, x2, x3, x4, rfl⟩ := five (show xs.length = 5 from hn)
  obtain ⟨c0, c1, c2, c3, c4, rfl⟩ := five hl
  · skip
    have f0 := hf 0 _ rfl
    have f1 := hf 1 _ rfl
    have f2 := hf 2 _ rfl
    have f3 := hf 3 _ rfl
    have f4 := hf 4 _ rfl
    simp only [List.map_cons, List.map_nil, List.cons.injEq, and_true] at hx
    obtain ⟨⟨e0, e1, e2, e3, e4⟩, _⟩ := hx
    simp [cInt, cStr, cBool] at f0 f1 f2 f3 f4
    obtain ⟨s0, g0, h0, _⟩ := DataW.trod_string Tryz.underlying9 f0
    obtain ⟨n1, g1, h1, _⟩ := DataW.trod_int Tryz.underlying3 f1
    obtain ⟨n2, g2, h2⟩ := DataW.trod_bool Tryz.underlying4 f2
    obtain ⟨n3, g3, h3⟩ := DataW.trod_bool Tryz.underlying4 f3
    obtain ⟨n4, g4, h4⟩ := DataW.trod_bool Tryz.underlying4 f4
    rw [h0] at e0; rw [h1] at e1; rw [h2] at e2; rw [h3] at e3; rw [h4] at e4
    simp only [DataW.lit.injEq, Lit.string.injEq, Lit.int.injEq, Lit.bool.injEq, true_and] at e0 e1 e2 e3 e4
    simp only [List.cons.injEq, and_true] at g0 g1 g2 g3 g4
    subst e0 e1 e2 e3 e4 g0 g1 g2 g3 g4
    simp

def rowD (i : Nat) : DataW Unit := .agg [.lit (.string (rL i)), .lit (.int .i64 (rN i)), .lit (.bool (rB i)), .lit (.bool (rW i)), .lit (.bool (rR i))]
def rowsD : List (DataW Unit) := [rowD 0, rowD 1, rowD 2, rowD 3, rowD 4, rowD 5, rowD 6, rowD 7, rowD 8, rowD 9, rowD 10, rowD 11, rowD 12, rowD 13]
theorem rowsD_at (i : Nat) (h : i < 14) : rowsD[i]? = some (rowD i) := by
  have : i = 0 ∨ i = 1 ∨ i = 2 ∨ i = 3 ∨ i = 4 ∨ i = 5 ∨ i = 6 ∨ i = 7 ∨ i = 8 ∨ i = 9 ∨ i = 10 ∨ i = 11 ∨ i = 12 ∨ i = 13 := by omega
  rcases this with rfl | rfl | rfl | rfl | rfl | rfl | rfl | rfl | rfl | rfl | rfl | rfl | rfl | rfl <;> rfl
theorem laid_rowsD : (Rows.laid_loop_example_stilscan_impl_devRows : DataW Unit) = .agg rowsD := rfl

theorem devTab_of {W : World} {sp : Nat → Bool} {held : Bool} {cs : Array Value} {fuel : Nat} {p : List MemPlace}
    (hv : W.var? Tryz.prog (Rows.fnActShutRow.named.getD 0 "") = some cs)
    (hd : DataW.trod (fun _ => ()) Tryz.prog W 0 sp held fuel 122 cs.toList = some (Rows.laid_loop_example_stilscan_impl_devRows, p)) : DevTab W := by
  rw [laid_rowsD] at hd
  obtain ⟨xs, m, rfl, hx, hl, hn, hel⟩ := DataW.trod_array Tryz.underlying122 hd
  simp only [Prod.mk.injEq, DataW.agg.injEq] at hx
  intro i hi
  have h1 := hel i hi
  have h2 := rowsD_at i hi
  rw [hx.1, List.getElem?_map] at h2
  obtain ⟨x, hx1, hx2⟩ := Option.map_eq_some_iff.1 h2
  rw [hx1, cRow] at h1
  have h3 := rowCells (p := x.2) (h1.trans (by rw [show x = (x.1, x.2) from rfl, hx2]; rfl))
  have at_ : ∀ j, j < 5 → cs[i * 5 + j]? = ((cs.toList.drop (i * 5)).take 5)[j]? := by
    intro j hj
    simp [hj]
  have hc := World.var?_cell gRows hv
  have a0 := at_ 0 (by omega)
  have a1 := at_ 1 (by omega)
  have a2 := at_ 2 (by omega)
  have a3 := at_ 3 (by omega)
  have a4 := at_ 4 (by omega)
  rw [h3] at a0 a1 a2 a3 a4
  refine ⟨?_, ?_, ?_, ?_, ?_⟩
  · rw [hc]; simpa using a0
  · rw [hc]; simpa using a1
  · rw [hc]; simpa using a2
  · rw [hc]; simpa using a3
  · rw [hc]; simpa using a4

theorem DevTab.below {w w' : World} (h : DevTab w) (hb : Below w.heap.size w w') (hs : 0 < w.heap.size) : DevTab w' := fun i hi => by
  have := h i hi
  simp only [hb.cell (p := ⟨0, _, none⟩) hs]
  exact this
end Go.Proofs.YtmgjngihngddfaaGreatDoor

/- What the program's functions on operands answer. Helper text: no statement is claimed here. -/
namespace Go.Proofs.YtmgjngihngddfaaGreatDoor
open Go.ChangeShapes Go.WideShapes Go.ChangeAt Go.RowKit

theorem DevTab.lt {w : World} (h : DevTab w) : 0 < w.heap.size := World.block_lt_of_cell? w ⟨0, _, none⟩ (h 0 (by omega)).1
theorem DevTab.to {w w' : World} (h : DevTab w) (hb : Below w.heap.size w w') : DevTab w' := h.below hb h.lt
theorem DevTab.alloc {w : World} (h : DevTab w) (o : Obj) : DevTab (w.alloc o) := h.to ((Below.refl _ _).alloc (Nat.le_refl _) o)
theorem DevTab.drew {w : World} (h : DevTab w) : DevTab w.drew := h.to (Below.refl _ _).drew
theorem bcell {W w1 : World} (hb : Below W.heap.size W w1) : (∀ b o, b < W.heap.size → w1.cell? ⟨b, o, none⟩ = W.cell? ⟨b, o, none⟩) ∧ (∀ b o, b < W.heap.size → w1.frozen? ⟨b, o, none⟩ = W.frozen? ⟨b, o, none⟩) :=
  ⟨fun b o h => hb.cell (p := ⟨b, o, none⟩) h, fun b o h => hb.frozen (p := ⟨b, o, none⟩) h⟩
theorem ret_bool {a b : Bool} (h : a = b) : Ending.returned (.bool a) = .returned (.bool b) := by rw [h]

def kz (k : Int) : Nat := if 1 ≤ k ∧ k ≤ 13 then k.toNat else 0
theorem kz_nat (i : Nat) (h1 : 1 ≤ i) (h2 : i ≤ 13) : kz (i : Int) = i := by unfold kz; rw [if_pos (by omega)]; omega
theorem kz_no (k : Int) (h : k < 1 ∨ 13 < k) : kz k = 0 := by unfold kz; rw [if_neg (by omega)]
def rowV (k : Int) : Value := .agg #[.string ⟨(rL (kz k)).toArray⟩, .int .i64 (rN (kz k)), .bool (rB (kz k)), .bool (rW (kz k)), .bool (rR (kz k))]

set_option maxHeartbeats 400000 in
theorem rowOf_no (k : Int) (w : World) (h : k < 1 ∨ 13 < k) :
    Calls Tryz.prog 62 #[.int .i64 k] w fun e w' => e = .returned (.agg #[.string ⟨#[]⟩, .int .i64 0, .bool false, .bool false, .bool false]) ∧ Below w.heap.size w w' := by
  rcases h with h | h
  · go_enter Tryz.func62, Tryz.ntmps62
    go_wp2
    exact bodyPost_ret (v := .agg #[.string ⟨#[]⟩, .int .i64 0, .bool false, .bool false, .bool false]) (by simp [results, Tryz.results62, go_sem]) rfl ⟨rfl, (Below.refl _ _).alloc (Nat.le_refl _) _⟩
  · have h' : ¬ k < 1 := by omega
    go_enter Tryz.func62, Tryz.ntmps62
    go_wp2
    exact bodyPost_ret (v := .agg #[.string ⟨#[]⟩, .int .i64 0, .bool false, .bool false, .bool false]) (by simp [results, Tryz.results62, go_sem]) rfl ⟨rfl, (Below.refl _ _).alloc (Nat.le_refl _) _⟩

set_option maxHeartbeats 400000 in
theorem rowOf_yes (i : Nat) (w : World) (h1 : 1 ≤ i) (h2 : i ≤ 13) (hT : DevTab w) :
    Calls Tryz.prog 62 #[.int .i64 (i : Int)] w fun e w' => e = .returned (.agg #[.string ⟨(rL i).toArray⟩, .int .i64 (rN i), .bool (rB i), .bool (rW i), .bool (rR i)]) ∧ Below w.heap.size w w' := by
  obtain ⟨t0, t1, t2, t3, t4⟩ := hT i (by omega)
  have a : ¬ (i : Int) < 1 := by omega
  have b : ¬ (13 : Int) < i := by omega
  have hs : 0 < w.heap.size := hT.lt
  clear hT
  go_enter Tryz.func62, Tryz.ntmps62
  go_wp2
  exact bodyPost_ret (v := .agg #[.string ⟨(rL i).toArray⟩, .int .i64 (rN i), .bool (rB i), .bool (rW i), .bool (rR i)]) (by simp [results, Tryz.results62, go_sem]) rfl ⟨rfl, (Below.refl _ _).alloc (Nat.le_refl _) _⟩

theorem rowOf_any (k : Int) (w : World) (hT : DevTab w) :
    Calls Tryz.prog 62 #[.int .i64 k] w fun e w' => e = .returned (.agg #[.string ⟨(rL (kz k)).toArray⟩, .int .i64 (rN (kz k)), .bool (rB (kz k)), .bool (rW (kz k)), .bool (rR (kz k))]) ∧ Below w.heap.size w w' := by
  by_cases h : k < 1 ∨ 13 < k
  · rw [kz_no k h]; exact rowOf_no k w h
  · obtain ⟨i, rfl⟩ := Int.eq_ofNat_of_zero_le (show 0 ≤ k by omega)
    rw [kz_nat i (by omega) (by omega)]; exact rowOf_yes i w (by omega) (by omega) hT

theorem field_0 (a b c d e : Value) (w : World) : Sem.run Tryz.prog (Instr.field 120 (.agg #[a, b, c, d, e]) 0) w = .ok a w := by kernel_rfl
theorem field_1 (a b c d e : Value) (w : World) : Sem.run Tryz.prog (Instr.field 120 (.agg #[a, b, c, d, e]) 1) w = .ok b w := by kernel_rfl
theorem field_2 (a b c d e : Value) (w : World) : Sem.run Tryz.prog (Instr.field 120 (.agg #[a, b, c, d, e]) 2) w = .ok c w := by kernel_rfl
theorem field_3 (a b c d e : Value) (w : World) : Sem.run Tryz.prog (Instr.field 120 (.agg #[a, b, c, d, e]) 3) w = .ok d w := by kernel_rfl
theorem field_4 (a b c d e : Value) (w : World) : Sem.run Tryz.prog (Instr.field 120 (.agg #[a, b, c, d, e]) 4) w = .ok e w := by kernel_rfl
attribute [local go_sem] field_0 field_1 field_2 field_3 field_4

set_option maxHeartbeats 400000 in
theorem size_any (k : Int) (w : World) (hT : DevTab w) :
    Calls Tryz.prog 56 #[.int .i64 k] w fun e w' => e = .returned (.int .i64 (rN (kz k))) ∧ Below w.heap.size w w' := by
  go_enter Tryz.func56, Tryz.ntmps56
  go_wp2_with fail
  refine (rowOf_any _ _ hT).mono ?_
  rintro e w' ⟨rfl, hb⟩
  go_wp2
  go_ret
  exact ⟨rfl, hb⟩

def decOk (n p : Int) : Bool := decide (-999999999 ≤ n ∧ n ≤ 999999999 ∧ 1 ≤ p ∧ p ≤ 6 ∧ (p = 1 ∨ n.tmod 10 ≠ 0))

set_option maxHeartbeats 400000 in
theorem decOk_any (n p : Int) (w : World) :
    Calls Tryz.prog 112 #[.int .i64 n, .int .i64 p] w fun e w' => e = .returned (.bool (decOk n p)) ∧ w' = w := by
  by_cases h1 : n < -999999999
  · go_enter Tryz.func112, Tryz.ntmps112
    go_wp2
    go_ret
    exact ⟨ret_bool (by simp [decOk]; omega), rfl⟩
  by_cases h2 : 999999999 < n
  · go_enter Tryz.func112, Tryz.ntmps112
    go_wp2
    go_ret
    exact ⟨ret_bool (by simp [decOk]; omega), rfl⟩
  by_cases h3 : p < 1
  · go_enter Tryz.func112, Tryz.ntmps112
    go_wp2
    go_ret
    exact ⟨ret_bool (by simp [decOk]; omega), rfl⟩
  by_cases h4 : 6 < p
  · go_enter Tryz.func112, Tryz.ntmps112
    go_wp2
    go_ret
    exact ⟨ret_bool (by simp [decOk]; omega), rfl⟩
  by_cases h5 : p = 1
  · subst h5
    go_enter Tryz.func112, Tryz.ntmps112
    go_wp2
    go_ret
    exact ⟨ret_bool (by simp [decOk]; omega), rfl⟩
  · have h5' : (p == 1) = false := by simpa using h5
    clear h5
    go_enter Tryz.func112, Tryz.ntmps112
    go_wp2
    go_ret
    have h5 : p ≠ 1 := by simpa using h5'
    exact ⟨ret_bool (by by_cases h6 : n.tmod 10 = 0 <;> simp [decOk, h1, h2, h3, h4, h5, h6]), rfl⟩
end Go.Proofs.YtmgjngihngddfaaGreatDoor
