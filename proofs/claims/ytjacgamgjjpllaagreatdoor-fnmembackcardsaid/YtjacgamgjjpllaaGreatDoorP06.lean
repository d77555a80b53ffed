/- The memory of a controller as plain data, and its cells. Helper text: no statement is claimed here. -/
import Derived.Test.YtjacgamgjjpllaaGreatDoorRows
import Derived.WalkKit
import Derived.ProofKit
import Derived.LaidMore
import Derived.OpenShut
import Derived.Below
import Derived.Deep.MidRow
import Derived.Deep.WholeRow
import Derived.Laws.CopyRow
import Derived.Laws.CopyOwn
import Derived.Test.YtjacgamgjjpllaaGreatDoorP05
import Derived.Laws.BitsLemmas
import Derived.Laws.BitsAllLaws
import Derived.Laws.Bits64
namespace Go.Proofs.YtjacgamgjjpllaaGreatDoor
open Go.ChangeShapes Go.WideShapes Go.ChangeAt Go.RowKit

/-- A memory: words of bits, timers, counters, registers of both sorts, and the rest. -/
structure Mm where
  x : Nat
  y : Nat
  m : Nat
  s : Nat
  e : Nat
  td : Nat → Bool
  tc : Nat → Nat
  cd : Nat → Bool
  cl : Nat → Bool
  cc : Nat → Nat
  d : Nat → Int
  r : Nat → Nat
  time : Nat
  ran : Bool
  fault : Bool

/-- Every number keeps to its width. -/
structure Mm.Ok (m : Mm) : Prop where
  hx : m.x < 2 ^ 32
  hy : m.y < 2 ^ 32
  hm : m.m < 2 ^ 64
  hs : m.s < 2 ^ 16
  he : m.e < 2 ^ 32
  htc : ∀ i, m.tc i < 65536
  hcc : ∀ i, m.cc i < 65536
  hd : ∀ i, -32768 ≤ m.d i ∧ m.d i ≤ 32767
  hr : ∀ i, m.r i < 2 ^ 64
  htime : m.time < 2 ^ 32

def Mm.tcell (m : Mm) (i : Nat) : Value := if i % 2 = 0 then .bool (m.td (i / 2)) else .int .u16 (m.tc (i / 2))
def Mm.ccell (m : Mm) (i : Nat) : Value := if i % 3 = 0 then .bool (m.cd (i / 3)) else if i % 3 = 1 then .bool (m.cl (i / 3)) else .int .u16 (m.cc (i / 3))
def Mm.dcell (m : Mm) (i : Nat) : Value := .int .i16 (m.d i)
def Mm.rcell (m : Mm) (i : Nat) : Value := .float .f64 (m.r i)
/-- What lies in each of the 136 cells. -/
def Mm.cell (m : Mm) (i : Nat) : Value :=
  if i < 5 then (if i = 0 then .int .u32 m.x else if i = 1 then .int .u32 m.y else if i = 2 then .int .u64 m.m else if i = 3 then .int .u16 m.s else .int .u32 m.e)
  else if i < 37 then m.tcell (i - 5)
  else if i < 85 then m.ccell (i - 37)
  else if i < 117 then m.dcell (i - 85)
  else if i < 133 then m.rcell (i - 117)
  else if i = 133 then .int .u32 m.time
  else if i = 134 then .bool m.ran
  else .bool m.fault
def cellsOf (n : Nat) (f : Nat → Value) : Array Value := Array.ofFn (n := n) fun i => f i.val
theorem cellsOf_size (n : Nat) (f : Nat → Value) : (cellsOf n f).size = n := by simp [cellsOf]
theorem cellsOf_at {n : Nat} (f : Nat → Value) {i : Nat} (h : i < n) : (cellsOf n f)[i]? = some (f i) := by simp [cellsOf, h]
theorem cellsOf_ext {n : Nat} {f g : Nat → Value} (h : ∀ i, i < n → f i = g i) : cellsOf n f = cellsOf n g := by
  unfold cellsOf
  congr 1
  funext i
  exact h i.val i.isLt
theorem cellsOf_set {n : Nat} (f : Nat → Value) (k : Nat) (v : Value) : (cellsOf n f).setIfInBounds k v = cellsOf n (fun i => if i = k then v else f i) := by
  apply Array.ext_getElem?
  intro i
  rw [Array.getElem?_setIfInBounds, cellsOf_size]
  by_cases hi : i < n
  · rw [cellsOf_at _ hi, cellsOf_at _ hi]
    by_cases hk : k = i
    · subst hk; simp [hi]
    · have : ¬ i = k := fun e => hk e.symm
      simp [hk, this]
  · have h1 : (cellsOf n f)[i]? = none := by simp [cellsOf]; omega
    have h2 : (cellsOf n (fun i => if i = k then v else f i))[i]? = none := by simp [cellsOf]; omega
    rw [h1, h2]
    by_cases hk : k = i
    · subst hk; simp [hi]
    · simp [hk]
def Mm.cells (m : Mm) : Array Value := cellsOf 136 m.cell
def Mm.val (m : Mm) : Value := .agg m.cells
theorem Mm.at_ (m : Mm) {i : Nat} (h : i < 136) : m.cells[i]? = some (m.cell i) := cellsOf_at _ h
theorem Mm.at_x (m : Mm) : m.cells[0]? = some (.int .u32 m.x) := m.at_ (by decide)
theorem Mm.at_y (m : Mm) : m.cells[1]? = some (.int .u32 m.y) := m.at_ (by decide)
theorem Mm.at_m (m : Mm) : m.cells[2]? = some (.int .u64 m.m) := m.at_ (by decide)
theorem Mm.at_s (m : Mm) : m.cells[3]? = some (.int .u16 m.s) := m.at_ (by decide)
theorem Mm.at_e (m : Mm) : m.cells[4]? = some (.int .u32 m.e) := m.at_ (by decide)
theorem Mm.at_time (m : Mm) : m.cells[133]? = some (.int .u32 m.time) := m.at_ (by decide)
theorem Mm.at_ran (m : Mm) : m.cells[134]? = some (.bool m.ran) := m.at_ (by decide)
theorem Mm.at_fault (m : Mm) : m.cells[135]? = some (.bool m.fault) := m.at_ (by decide)
theorem Mm.cell_t (m : Mm) {j : Nat} (h : j < 32) : m.cell (5 + j) = m.tcell j := by
  unfold Mm.cell; rw [if_neg (by omega), if_pos (by omega), show 5 + j - 5 = j by omega]
theorem Mm.cell_c (m : Mm) {j : Nat} (h : j < 48) : m.cell (37 + j) = m.ccell j := by
  unfold Mm.cell; rw [if_neg (by omega), if_neg (by omega), if_pos (by omega), show 37 + j - 37 = j by omega]
theorem Mm.cell_d (m : Mm) {j : Nat} (h : j < 32) : m.cell (85 + j) = m.dcell j := by
  unfold Mm.cell; rw [if_neg (by omega), if_neg (by omega), if_neg (by omega), if_pos (by omega), show 85 + j - 85 = j by omega]
theorem Mm.cell_r (m : Mm) {j : Nat} (h : j < 16) : m.cell (117 + j) = m.rcell j := by
  unfold Mm.cell; rw [if_neg (by omega), if_neg (by omega), if_neg (by omega), if_neg (by omega), if_pos (by omega), show 117 + j - 117 = j by omega]
theorem Mm.tcell_d (m : Mm) (k : Nat) : m.tcell (k * 2) = .bool (m.td k) := by
  unfold Mm.tcell; rw [if_pos (by omega), show k * 2 / 2 = k by omega]
theorem Mm.tcell_c (m : Mm) (k : Nat) : m.tcell (k * 2 + 1) = .int .u16 (m.tc k) := by
  unfold Mm.tcell; rw [if_neg (by omega), show (k * 2 + 1) / 2 = k by omega]
theorem Mm.ccell_d (m : Mm) (k : Nat) : m.ccell (k * 3) = .bool (m.cd k) := by
  unfold Mm.ccell; rw [if_pos (by omega), show k * 3 / 3 = k by omega]
theorem Mm.ccell_l (m : Mm) (k : Nat) : m.ccell (k * 3 + 1) = .bool (m.cl k) := by
  unfold Mm.ccell; rw [if_neg (by omega), if_pos (by omega), show (k * 3 + 1) / 3 = k by omega]
theorem Mm.ccell_c (m : Mm) (k : Nat) : m.ccell (k * 3 + 2) = .int .u16 (m.cc k) := by
  unfold Mm.ccell; rw [if_neg (by omega), if_neg (by omega), show (k * 3 + 2) / 3 = k by omega]
theorem Mm.at_td (m : Mm) {k : Nat} (h : k < 16) : m.cells[5 + k * 2]? = some (.bool (m.td k)) := by rw [m.at_ (by omega), m.cell_t (by omega), m.tcell_d]
theorem Mm.at_tc (m : Mm) {k : Nat} (h : k < 16) : m.cells[5 + k * 2 + 1]? = some (.int .u16 (m.tc k)) := by rw [m.at_ (by omega), Nat.add_assoc, m.cell_t (by omega), m.tcell_c]
theorem Mm.at_cd (m : Mm) {k : Nat} (h : k < 16) : m.cells[37 + k * 3]? = some (.bool (m.cd k)) := by rw [m.at_ (by omega), m.cell_c (by omega), m.ccell_d]
theorem Mm.at_cl (m : Mm) {k : Nat} (h : k < 16) : m.cells[37 + k * 3 + 1]? = some (.bool (m.cl k)) := by rw [m.at_ (by omega), Nat.add_assoc, m.cell_c (by omega), m.ccell_l]
theorem Mm.at_cc (m : Mm) {k : Nat} (h : k < 16) : m.cells[37 + k * 3 + 2]? = some (.int .u16 (m.cc k)) := by rw [m.at_ (by omega), Nat.add_assoc, m.cell_c (by omega), m.ccell_c]
theorem Mm.at_d (m : Mm) {k : Nat} (h : k < 32) : m.cells[85 + k]? = some (.int .i16 (m.d k)) := by rw [m.at_ (by omega), m.cell_d h]; rfl
theorem Mm.at_r (m : Mm) {k : Nat} (h : k < 16) : m.cells[117 + k]? = some (.float .f64 (m.r k)) := by rw [m.at_ (by omega), m.cell_r h]; rfl
/-- The four arrays. -/
def Mm.tArr (m : Mm) : Array Value := cellsOf 32 m.tcell
def Mm.cArr (m : Mm) : Array Value := cellsOf 48 m.ccell
def Mm.dArr (m : Mm) : Array Value := cellsOf 32 m.dcell
def Mm.rArr (m : Mm) : Array Value := cellsOf 16 m.rcell
/-- The memory with nothing in it. -/
def zeroM : Mm := ⟨0, 0, 0, 0, 0, fun _ => false, fun _ => 0, fun _ => false, fun _ => false, fun _ => 0, fun _ => 0, fun _ => 0, 0, false, false⟩
theorem zeroM_ok : zeroM.Ok := ⟨by decide, by decide, by decide, by decide, by decide, fun _ => by show (0 : Nat) < 65536; decide, fun _ => by show (0 : Nat) < 65536; decide, fun _ => by show (-32768 : Int) ≤ 0 ∧ (0 : Int) ≤ 32767; decide, fun _ => by show (0 : Nat) < 2 ^ 64; decide, by decide⟩
/-- A row of the call's own in block b: n cells, each as f says. -/
def RowAt (w : World) (b : Nat) (t : TypeId) (n : Nat) (f : Nat → Value) : Prop := w.heap[b]? = some (.cells (cellsOf n f) t (0, 0))
theorem RowAt.lt {w : World} {b n : Nat} {t : TypeId} {f : Nat → Value} (h : RowAt w b t n f) : b < w.heap.size := (Array.getElem?_eq_some_iff.1 h).1
theorem RowAt.to {w w' : World} {b n : Nat} {t : TypeId} {f : Nat → Value} (h : RowAt w b t n f) (hb : Below w.heap.size w w') : RowAt w' b t n f := (hb.block b h.lt).trans h
theorem RowAt.by {w w' : World} {b n : Nat} {t : TypeId} {f : Nat → Value} (h : RowAt w b t n f) (hb : w'.heap[b]? = w.heap[b]?) : RowAt w' b t n f := hb.trans h
theorem RowAt.cell {w : World} {b n : Nat} {t : TypeId} {f : Nat → Value} (h : RowAt w b t n f) {i : Nat} (hi : i < n) : w.cell? ⟨b, i, none⟩ = some (f i) := (cell_of_row _ _ _ _ _ _ h).trans (cellsOf_at _ hi)
theorem RowAt.frozen {w : World} {b n : Nat} {t : TypeId} {f : Nat → Value} (h : RowAt w b t n f) (i : Nat) : w.frozen? ⟨b, i, none⟩ = false := frozen_of_row _ _ _ _ _ h
theorem RowAt.new (w : World) (t : TypeId) (n : Nat) (f : Nat → Value) : RowAt (w.alloc (.cells (cellsOf n f) t)) w.heap.size t n f := heap_alloc_last w _
theorem RowAt.alloc {w : World} {b n : Nat} {t : TypeId} {f : Nat → Value} (h : RowAt w b t n f) (o : Obj) : RowAt (w.alloc o) b t n f := h.to ((Below.refl _ _).alloc (Nat.le_refl _) _)
theorem RowAt.set {w : World} {b n : Nat} {t : TypeId} {f : Nat → Value} (h : RowAt w b t n f) (k : Nat) (v : Value) : RowAt (w.setCell ⟨b, k, none⟩ v) b t n (fun i => if i = k then v else f i) := by
  unfold RowAt
  rw [← cellsOf_set]
  exact heap_setCell_same _ _ _ _ _ _ h
theorem RowAt.other {w : World} {b n c k : Nat} {t : TypeId} {f : Nat → Value} (h : RowAt w b t n f) (v : Value) (hc : b ≠ c) : RowAt (w.setCell ⟨c, k, none⟩ v) b t n f :=
  (heap_setCell_other w ⟨c, k, none⟩ b v hc).trans h
theorem RowAt.ext {w : World} {b n : Nat} {t : TypeId} {f g : Nat → Value} (h : RowAt w b t n f) (e : ∀ i, i < n → f i = g i) : RowAt w b t n g := by
  unfold RowAt at h ⊢
  rw [h, cellsOf_ext e]
/-- A part of a row is read. -/
theorem RowAt.load {w : World} {b n : Nat} {t : TypeId} {f : Nat → Value} (h : RowAt w b t n f) {o k : Nat} (g : Nat → Value) (hok : o + k ≤ n) (e : ∀ i, i < k → f (o + i) = g i) :
    (loadCellsFrom ⟨b, o, none⟩ 0 k #[]).run Tryz.prog w = .ok (cellsOf k g) w := by
  have := run_loadCells_list (P := Tryz.prog) w ⟨b, o, none⟩ (cellsOf k g).toList (fun j v hv => by
    have hj : j < k := by
      have := (List.getElem?_eq_some_iff.1 hv).1
      simpa [cellsOf_size] using this
    rw [Addr.add_mid, h.cell (by omega), e j hj]
    rw [Array.getElem?_toList, cellsOf_at _ hj] at hv
    exact hv)
  simpa [loadCells, cellsOf_size] using this
/-- A part of a row is written. -/
theorem RowAt.store {w : World} {b n : Nat} {t : TypeId} {f : Nat → Value} (h : RowAt w b t n f) (o k : Nat) (g f' : Nat → Value) (hok : o + k ≤ n) (h1 : ∀ i, i < k → (g i).oneCell' = true)
    (e : ∀ i, i < n → f' i = if o ≤ i ∧ i < o + k then g (i - o) else f i) :
    ∃ w2, (storeCells ⟨b, o, none⟩ (cellsOf k g).toList 0).run Tryz.prog w = .ok () w2 ∧ RowAt w2 b t n f' ∧ w2.heap.size = w.heap.size ∧ (∀ j, j ≠ b → w2.heap[j]? = w.heap[j]?) ∧ (∀ B a, Below B a w → B ≤ b → Below B a w2) := by
  have hs := run_storeCells_at (P := Tryz.prog) b o t (cellsOf k g).toList 0 (cellsOf n f) w h (by simp [cellsOf_size]; omega) (fun v hv => by
    rw [Array.mem_toList_iff, Array.mem_iff_getElem?] at hv
    obtain ⟨i, hi⟩ := hv
    have hk : i < k := by
      have := (Array.getElem?_eq_some_iff.1 hi).1
      simpa [cellsOf_size] using this
    rw [cellsOf_at _ hk] at hi
    obtain rfl := Option.some.inj hi
    exact h1 i hk)
  refine ⟨_, hs, ?_, by simp, fun j hj => setRow_other _ _ _ _ hj, fun B a hb hB => below_setRow hb hB _⟩
  refine (setRow_heap w b _ _ t _ h).trans ?_
  congr 2
  apply Array.ext_getElem?
  intro i
  simp only [List.getElem?_toArray, Nat.add_zero, Array.length_toList, cellsOf_size]
  by_cases hi : i < n
  · rw [cellsOf_at _ hi, e i hi]
    by_cases ho : i < o
    · rw [if_neg (by omega), List.append_assoc, List.getElem?_append_left (by simp [cellsOf_size]; omega), List.getElem?_take, if_pos ho, Array.getElem?_toList, cellsOf_at _ hi]
    · by_cases hk : i < o + k
      · rw [if_pos ⟨by omega, hk⟩, List.append_assoc, List.getElem?_append_right (by simp [cellsOf_size]; omega), List.getElem?_append_left (by simp [cellsOf_size]; omega)]
        simp only [List.length_take, Array.length_toList, cellsOf_size]
        rw [Nat.min_eq_left (by omega), Array.getElem?_toList, cellsOf_at _ (by omega)]
      · rw [if_neg (by omega), List.getElem?_append_right (by simp [cellsOf_size]; omega), List.getElem?_drop]
        simp only [List.length_append, List.length_take, Array.length_toList, cellsOf_size]
        rw [Nat.min_eq_left (by omega), Array.getElem?_toList, show o + k + (i - (o + k)) = i by omega, cellsOf_at _ hi]
  · have h2 : (cellsOf n f')[i]? = none := by simp [cellsOf]; omega
    rw [h2]
    simp [cellsOf_size]
    omega
/-- A result that lies in memory. -/
theorem resRow {fn : Func} {W : World} {b p n : Nat} {t ty : TypeId} {f : Nat → Value} {d : TypeDesc} {tmps : Array Value} (h : fn.results = #[.cell p ty]) (hp : tmps.getD p undef = .pointer (some ⟨b, 0, none⟩)) (hR : RowAt W b t n f)
    (hu : Tryz.prog.underlying ty = some d) (hd : d.isRow = true) (hi : (Tryz.prog.info? ty).map (·.size) = some n) :
    (results fn tmps).run Tryz.prog W = .ok (.agg (cellsOf n f)) W :=
  results_cell_row h tmps W b t _ _ d hp hR hu (by cases d <;> exact hd) (by rw [hi, cellsOf_size])
/-- The walk's step at a load of many cells. -/
theorem wpList_rowLoad {ops : Array Oper} {rest : List Oper} {op : Oper} {a : Act} {w : World} {Q : Exit → Act → World → Prop} {n : Nat} {t : TypeId} {f : Nat → Value} {d : TypeDesc} (hgd : op.guard = none) (ty : TypeId) (x : Operand) (ho : op.op = .load ty x)
    (b o k : Nat) (g : Nat → Value) (hx : a.eval x = .pointer (some ⟨b, o, none⟩)) (hR : RowAt w b t n f) (hok : o + k ≤ n) (e : ∀ i, i < k → f (o + i) = g i)
    (hu : Tryz.prog.underlying ty = some d) (hd : d.isRow = true) (hi : (Tryz.prog.info? ty).map (·.size) = some k) (h : wpList Tryz.prog ops Q rest (a.put op.dst (.agg (cellsOf k g))) w) : wpList Tryz.prog ops Q (op :: rest) a w :=
  wpList_load_mid hgd ty x ho b o hx (cellsOf k g).toList d (fun j v hv => by
    have hj : j < k := by
      have := (List.getElem?_eq_some_iff.1 hv).1
      simpa [cellsOf_size] using this
    rw [hR.cell (by omega), e j hj]
    rw [Array.getElem?_toList, cellsOf_at _ hj] at hv
    exact hv) hu hd (by rw [hi]; simp [cellsOf_size]) (by simpa using h)
/-- The walk's step at a store of many cells. -/
theorem wpList_rowStore {ops : Array Oper} {rest : List Oper} {op : Oper} {a : Act} {w : World} {Q : Exit → Act → World → Prop} {n : Nat} {t : TypeId} {f : Nat → Value} (hgd : op.guard = none) (ty : TypeId) (x y : Operand) (ho : op.op = .store ty x y)
    (b o k : Nat) (g f' : Nat → Value) (hx : a.eval x = .pointer (some ⟨b, o, none⟩)) (hy : a.eval y = .agg (cellsOf k g)) (hR : RowAt w b t n f) (hok : o + k ≤ n) (h1 : ∀ i, i < k → (g i).oneCell' = true)
    (e : ∀ i, i < n → f' i = if o ≤ i ∧ i < o + k then g (i - o) else f i) (hi : (Tryz.prog.info? ty).map (·.size) = some k)
    (h : ∀ w2, RowAt w2 b t n f' → w2.heap.size = w.heap.size → (∀ j, j ≠ b → w2.heap[j]? = w.heap[j]?) → (∀ B a, Below B a w → B ≤ b → Below B a w2) → wpList Tryz.prog ops Q rest (a.put op.dst undef) w2) : wpList Tryz.prog ops Q (op :: rest) a w := by
  obtain ⟨w2, hs, hR2, hz2, hk2, hb2⟩ := hR.store o k g f' hok h1 e
  refine wpList_plain hgd fun _ hK => ?_
  unfold Oper.wp execOp
  have hv : (storeVar ty ⟨b, o, none⟩ (.agg (cellsOf k g))).run Tryz.prog w = .ok () w2 := by
    cases hq : Tryz.prog.info? ty with
    | none => simp [hq] at hi
    | some i =>
      have hs' : i.size = k := by simpa [hq] using hi
      simp [storeVar, sizeOf, typeInfo, hq, Value.cells, hs', cellsOf_size, hs]
  simp only [ho, hx, hy, Instr.storeAt, Instr.sureAddr, Sem.run_bind, Sem.run_pure, Result.andThen_ok, hv]
  exact hK _ _ (h w2 hR2 hz2 hk2 hb2)
/-- A memory of the call's own lies in block b. -/
abbrev MemAt (w : World) (b : Nat) (m : Mm) : Prop := RowAt w b 37 136 m.cell
theorem tcell_one (m : Mm) (i : Nat) : (m.tcell i).oneCell' = true := by unfold Mm.tcell; split <;> rfl
theorem ccell_one (m : Mm) (i : Nat) : (m.ccell i).oneCell' = true := by unfold Mm.ccell; split <;> (try split) <;> rfl
theorem dcell_one (m : Mm) (i : Nat) : (m.dcell i).oneCell' = true := rfl
theorem rcell_one (m : Mm) (i : Nat) : (m.rcell i).oneCell' = true := rfl
theorem cell_one (m : Mm) (i : Nat) : (m.cell i).oneCell' = true := by
  unfold Mm.cell
  repeat' split
  all_goals first | rfl | exact tcell_one _ _ | exact ccell_one _ _
theorem tArr_size (m : Mm) : m.tArr.size = 32 := cellsOf_size _ _
theorem cArr_size (m : Mm) : m.cArr.size = 48 := cellsOf_size _ _
theorem dArr_size (m : Mm) : m.dArr.size = 32 := cellsOf_size _ _
theorem rArr_size (m : Mm) : m.rArr.size = 16 := cellsOf_size _ _
theorem cells_size (m : Mm) : m.cells.size = 136 := cellsOf_size _ _
end Go.Proofs.YtjacgamgjjpllaaGreatDoor

/- The place of a device, counted round, on both sides. Helper text: no statement is claimed here. -/
namespace Go.Proofs.YtjacgamgjjpllaaGreatDoor
open Go.ChangeShapes Go.WideShapes Go.ChangeAt Go.RowKit

/-- How many there are to count round by. -/
def sz4 (k : Int) : Int := if k = 6 then 8 else rN (kz k)
/-- The place. -/
def plc (k n : Int) : Int := if sz4 k = 0 then 0 else n % sz4 k
theorem sz4_cases (k : Int) : sz4 k = 0 ∨ sz4 k = 8 ∨ sz4 k = 16 ∨ sz4 k = 32 ∨ sz4 k = 64 := by
  unfold sz4
  split
  · exact .inr (.inl rfl)
  · rename_i h6
    unfold kz
    split
    · rename_i h
      have : k = 1 ∨ k = 2 ∨ k = 3 ∨ k = 4 ∨ k = 5 ∨ k = 7 ∨ k = 8 ∨ k = 9 ∨ k = 10 ∨ k = 11 ∨ k = 12 ∨ k = 13 := by omega
      rcases this with rfl | rfl | rfl | rfl | rfl | rfl | rfl | rfl | rfl | rfl | rfl | rfl <;> decide
    · exact .inl rfl
theorem plc_range (k n : Int) : 0 ≤ plc k n ∧ (plc k n < sz4 k ∨ plc k n = 0) := by
  unfold plc
  rcases sz4_cases k with h | h | h | h | h <;> rw [h]
  · simp
  all_goals
    rw [if_neg (by decide)]
    omega
theorem wrap_small {x : Int} (h0 : -9223372036854775808 ≤ x) (h1 : x ≤ 9223372036854775807) : IntKind.i64.wrap x = x := by
  rw [IntKind.wrap_i64]; omega
theorem tmod_neg {n s : Int} (hs : 0 < s) (h : n.tmod s < 0) : n.tmod s + s = n % s := by
  have h1 := Int.tmod_eq_emod (a := n) (b := s)
  have h2 := Int.emod_nonneg n (show s ≠ 0 by omega)
  have h3 := Int.emod_lt_of_pos n hs
  split at h1
  · omega
  · have : (s.natAbs : Int) = s := by omega
    omega
theorem tmod_pos {n s : Int} (hs : 0 < s) (h : ¬ n.tmod s < 0) : n.tmod s = n % s := by
  have h1 := Int.tmod_eq_emod (a := n) (b := s)
  have h2 := Int.emod_nonneg n (show s ≠ 0 by omega)
  have h3 := Int.emod_lt_of_pos n hs
  split at h1
  · omega
  · have : (s.natAbs : Int) = s := by omega
    omega
theorem tmod_small {n s : Int} (hs : 0 < s) : -s ≤ n.tmod s ∧ n.tmod s < s := by
  have h2 := Int.emod_nonneg n (show s ≠ 0 by omega)
  have h3 := Int.emod_lt_of_pos n hs
  by_cases h : n.tmod s < 0
  · have := tmod_neg hs h
    omega
  · have := tmod_pos hs h
    omega

theorem plc_s (k : Int) (h6 : ¬ k = 6) : rN (kz k) = 0 ∨ rN (kz k) = 16 ∨ rN (kz k) = 32 ∨ rN (kz k) = 64 := by
  unfold kz
  split
  · rename_i h
    have : k = 1 ∨ k = 2 ∨ k = 3 ∨ k = 4 ∨ k = 5 ∨ k = 7 ∨ k = 8 ∨ k = 9 ∨ k = 10 ∨ k = 11 ∨ k = 12 ∨ k = 13 := by omega
    rcases this with rfl | rfl | rfl | rfl | rfl | rfl | rfl | rfl | rfl | rfl | rfl | rfl <;> decide
  · exact .inl rfl
set_option maxHeartbeats 1000000 in
theorem place_any (k n p : Int) (w : World) (hT : DevTab w) :
    Calls Tryz.prog 70 #[.agg #[.int .i64 k, .int .i64 n, .int .i64 p]] w fun e w' => e = .returned (.int .i64 (plc k n)) ∧ Below w.heap.size w w' := by
  have HT : Hid (DevTab w) := hT
  clear hT
  go_enter Tryz.func70, Tryz.ntmps70
  go_wp2_with fail
  refine (size_any k _ (HT.out.alloc _)).mono ?_
  rintro e w1 ⟨rfl, hb1⟩
  have HB1 : Hid (Below w.heap.size w w1) := of_one hb1
  have c0 : w1.cell? ⟨w.heap.size, 0, none⟩ = some (.int .i64 k) := (hb1.cell (p := ⟨w.heap.size, 0, none⟩) (by simp)).trans (by rw [World.cell?_alloc_mark]; rfl)
  have c1 : w1.cell? ⟨w.heap.size, 1, none⟩ = some (.int .i64 n) := (hb1.cell (p := ⟨w.heap.size, 1, none⟩) (by simp)).trans (by rw [World.cell?_alloc_mark]; rfl)
  clear hb1
  by_cases h6 : k = 6
  · subst h6
    have hs : (0 : Int) < 8 := by decide
    have hsm := tmod_small (n := n) hs
    have hwr : IntKind.i64.wrap (n.tmod 8) = n.tmod 8 := wrap_small (by omega) (by omega)
    by_cases hn : n.tmod 8 < 0
    · have hw2 : IntKind.i64.wrap (n.tmod 8 + 8) = n.tmod 8 + 8 := wrap_small (by omega) (by omega)
      have HE : Hid (n.tmod 8 + 8 = n % 8) := tmod_neg hs hn
      go_wp2
      go_ret
      refine ⟨?_, HB1.out⟩
      rw [show plc 6 n = n % 8 from rfl, ← HE.out]
      rfl
    · have HE : Hid (n.tmod 8 = n % 8) := tmod_pos hs hn
      go_wp2
      go_ret
      refine ⟨?_, HB1.out⟩
      rw [show plc 6 n = n % 8 from rfl, ← HE.out]
      rfl
  · have hk : (k == 6) = false := by simpa using h6
    have hr : sz4 k = rN (kz k) := if_neg h6
    have HP : Hid (plc k n = if sz4 k = 0 then 0 else n % sz4 k) := rfl
    rw [hr] at HP
    rcases plc_s k h6 with h | h | h | h
    · rw [h] at HP ⊢
      clear hr h
      go_wp2
      go_ret
      exact ⟨by rw [show plc k n = 0 from HP.out]; rfl, HB1.out⟩
    · rw [h] at HP ⊢
      clear hr h
      have hs : (0 : Int) < 16 := by decide
      have hsm := tmod_small (n := n) hs
      have hwr : IntKind.i64.wrap (n.tmod 16) = n.tmod 16 := wrap_small (by omega) (by omega)
      by_cases hn : n.tmod 16 < 0
      · have hw2 : IntKind.i64.wrap (n.tmod 16 + 16) = n.tmod 16 + 16 := wrap_small (by omega) (by omega)
        have HE : Hid (n.tmod 16 + 16 = n % 16) := tmod_neg hs hn
        go_wp2
        go_ret
        refine ⟨?_, HB1.out⟩
        rw [show plc k n = n % 16 from HP.out, ← HE.out]
        rfl
      · have HE : Hid (n.tmod 16 = n % 16) := tmod_pos hs hn
        go_wp2
        go_ret
        refine ⟨?_, HB1.out⟩
        rw [show plc k n = n % 16 from HP.out, ← HE.out]
        rfl
    · rw [h] at HP ⊢
      clear hr h
      have hs : (0 : Int) < 32 := by decide
      have hsm := tmod_small (n := n) hs
      have hwr : IntKind.i64.wrap (n.tmod 32) = n.tmod 32 := wrap_small (by omega) (by omega)
      by_cases hn : n.tmod 32 < 0
      · have hw2 : IntKind.i64.wrap (n.tmod 32 + 32) = n.tmod 32 + 32 := wrap_small (by omega) (by omega)
        have HE : Hid (n.tmod 32 + 32 = n % 32) := tmod_neg hs hn
        go_wp2
        go_ret
        refine ⟨?_, HB1.out⟩
        rw [show plc k n = n % 32 from HP.out, ← HE.out]
        rfl
      · have HE : Hid (n.tmod 32 = n % 32) := tmod_pos hs hn
        go_wp2
        go_ret
        refine ⟨?_, HB1.out⟩
        rw [show plc k n = n % 32 from HP.out, ← HE.out]
        rfl
    · rw [h] at HP ⊢
      clear hr h
      have hs : (0 : Int) < 64 := by decide
      have hsm := tmod_small (n := n) hs
      have hwr : IntKind.i64.wrap (n.tmod 64) = n.tmod 64 := wrap_small (by omega) (by omega)
      by_cases hn : n.tmod 64 < 0
      · have hw2 : IntKind.i64.wrap (n.tmod 64 + 64) = n.tmod 64 + 64 := wrap_small (by omega) (by omega)
        have HE : Hid (n.tmod 64 + 64 = n % 64) := tmod_neg hs hn
        go_wp2
        go_ret
        refine ⟨?_, HB1.out⟩
        rw [show plc k n = n % 64 from HP.out, ← HE.out]
        rfl
      · have HE : Hid (n.tmod 64 = n % 64) := tmod_pos hs hn
        go_wp2
        go_ret
        refine ⟨?_, HB1.out⟩
        rw [show plc k n = n % 64 from HP.out, ← HE.out]
        rfl
end Go.Proofs.YtjacgamgjjpllaaGreatDoor

/- Bits of words, as plain mathematics. Helper text: no statement is claimed here. -/
namespace Go.Proofs.YtjacgamgjjpllaaGreatDoor

/-- Bit k of a word. -/
def bitN (w k : Nat) : Bool := decide (w / 2 ^ k % 2 = 1)
/-- A word with bit k put. -/
def putN (w k : Nat) (b : Bool) : Nat := if bitN w k = b then w else if b then w + 2 ^ k else w - 2 ^ k
theorem bitN_test (w k : Nat) : bitN w k = w.testBit k := by
  rw [Nat.testBit_eq_decide_div_mod_eq, bitN]
theorem or_pow : ∀ (k w : Nat), w.testBit k = false → w ||| 2 ^ k = w + 2 ^ k
  | 0, w, h => by
    have h0 : w % 2 = 0 := by
      rw [Nat.testBit_zero] at h
      have := of_decide_eq_false h
      omega
    have d : (w ||| 2 ^ 0) / 2 = w / 2 := by rw [Nat.or_div_two]; simp
    have m : (w ||| 2 ^ 0) % 2 = 1 := by rw [Nat.or_mod_two_eq_one]; right; rfl
    have : (2 : Nat) ^ 0 = 1 := rfl
    omega
  | k + 1, w, h => by
    rw [Nat.testBit_add_one] at h
    have ih := or_pow k (w / 2) h
    have e : (2 : Nat) ^ (k + 1) / 2 = 2 ^ k := by rw [Nat.pow_succ]; omega
    have d : (w ||| 2 ^ (k + 1)) / 2 = w / 2 + 2 ^ k := by rw [Nat.or_div_two, e, ih]
    have p : (2 : Nat) ^ (k + 1) = 2 * 2 ^ k := by rw [Nat.pow_succ]; omega
    have m : (w ||| 2 ^ (k + 1)) % 2 = w % 2 := by
      have a := Nat.or_mod_two_eq_one (a := w) (b := 2 ^ (k + 1))
      have b : ¬ 2 ^ (k + 1) % 2 = 1 := by omega
      by_cases hw : w % 2 = 1
      · rw [hw]; exact a.2 (.inl hw)
      · have : ¬ (w ||| 2 ^ (k + 1)) % 2 = 1 := fun hh => by rcases a.1 hh with h | h <;> contradiction
        omega
    omega
theorem putN_true (w k : Nat) : w ||| 2 ^ k = putN w k true := by
  unfold putN
  rw [bitN_test]
  by_cases h : w.testBit k = true
  · rw [if_pos h]
    apply Nat.eq_of_testBit_eq
    intro i
    rw [Nat.testBit_or, Nat.testBit_two_pow]
    by_cases hi : k = i
    · subst hi; simp [h]
    · simp [hi]
  · rw [if_neg h, if_pos rfl]
    have h0 : w.testBit k = false := by simpa using h
    exact or_pow k w h0
theorem two_pow_le_of_test {w k : Nat} (h : w.testBit k = true) : 2 ^ k ≤ w := Nat.ge_two_pow_of_testBit h
theorem putN_false (w k : Nat) (hk : k < 64) (hw : w < 18446744073709551616) : w &&& (18446744073709551615 - 2 ^ k) = putN w k false := by
  have hm : ∀ i, (18446744073709551615 - 2 ^ k).testBit i = (decide (i < 64) && !decide (k = i)) := by
    intro i
    have := Nat.testBit_two_pow_sub_succ (x := 2 ^ k) (n := 64) (Nat.pow_lt_pow_right (by decide) hk) i
    rw [Nat.testBit_two_pow] at this
    rw [← this]
    congr 1
    omega
  have hw' : ∀ i, w.testBit i = true → i < 64 := by
    intro i hi
    have h1 := Nat.ge_two_pow_of_testBit hi
    rcases Nat.lt_or_ge i 64 with h | h
    · exact h
    · have : 2 ^ 64 ≤ 2 ^ i := Nat.pow_le_pow_right (by decide) h
      omega
  have hand : ∀ i, (w &&& (18446744073709551615 - 2 ^ k)).testBit i = (w.testBit i && !decide (k = i)) := by
    intro i
    rw [Nat.testBit_and, hm]
    cases hi : w.testBit i
    · rfl
    · simp [hw' i hi]
  unfold putN
  rw [bitN_test]
  by_cases h : w.testBit k = false
  · rw [if_pos h]
    apply Nat.eq_of_testBit_eq
    intro i
    rw [hand]
    by_cases hi : k = i
    · subst hi; simp [h]
    · simp [hi]
  · have h1 : w.testBit k = true := by simpa using h
    rw [if_neg h, if_neg (by decide)]
    have e : (w &&& (18446744073709551615 - 2 ^ k)) ||| 2 ^ k = w := by
      apply Nat.eq_of_testBit_eq
      intro i
      rw [Nat.testBit_or, hand, Nat.testBit_two_pow]
      by_cases hi : k = i
      · subst hi; simp [h1]
      · simp [hi]
    have := or_pow k (w &&& (18446744073709551615 - 2 ^ k)) (by rw [hand]; simp)
    omega
theorem putN_test (w k : Nat) (b : Bool) (i : Nat) : (putN w k b).testBit i = if i = k then b else w.testBit i := by
  cases b
  · unfold putN
    rw [bitN_test]
    by_cases h : w.testBit k = false
    · rw [if_pos h]
      by_cases hi : i = k
      · subst hi; simp [h]
      · simp [hi]
    · have h1 : w.testBit k = true := by simpa using h
      rw [if_neg h, if_neg (by decide)]
      have e : w - 2 ^ k = w ^^^ 2 ^ k := by
        have hx : (w ^^^ 2 ^ k) ||| 2 ^ k = w := by
          apply Nat.eq_of_testBit_eq
          intro j
          rw [Nat.testBit_or, Nat.testBit_xor, Nat.testBit_two_pow]
          by_cases hj : k = j
          · subst hj; simp [h1]
          · simp [hj]
        have := or_pow k (w ^^^ 2 ^ k) (by rw [Nat.testBit_xor, Nat.testBit_two_pow, h1]; simp)
        omega
      rw [e, Nat.testBit_xor, Nat.testBit_two_pow]
      by_cases hi : i = k
      · subst hi; simp [h1]
      · have : ¬ k = i := fun e => hi e.symm
        simp [hi, this]
  · rw [← putN_true, Nat.testBit_or, Nat.testBit_two_pow]
    by_cases hi : i = k
    · subst hi; simp
    · have : ¬ k = i := fun e => hi e.symm
      simp [hi, this]
theorem putN_lt {w k n : Nat} (b : Bool) (hk : k < n) (hw : w < 2 ^ n) : putN w k b < 2 ^ n := by
  apply Nat.lt_pow_two_of_testBit
  intro i hi
  rw [putN_test, if_neg (by omega)]
  exact Nat.testBit_lt_two_pow (Nat.lt_of_lt_of_le hw (Nat.pow_le_pow_right (by decide) hi))
theorem putN_same (w k : Nat) (b : Bool) : bitN (putN w k b) k = b := by rw [bitN_test, putN_test, if_pos rfl]
theorem putN_other (w k j : Nat) (b : Bool) (h : j ≠ k) : bitN (putN w k b) j = bitN w j := by rw [bitN_test, putN_test, if_neg h, bitN_test]
theorem putN_back (w k : Nat) (b : Bool) : putN (putN w k b) k (bitN w k) = w := by
  apply Nat.eq_of_testBit_eq
  intro i
  rw [putN_test, putN_test, bitN_test]
  by_cases hi : i = k
  · rw [if_pos hi, hi]
  · rw [if_neg hi, if_neg hi]
end Go.Proofs.YtjacgamgjjpllaaGreatDoor

/- Small facts on words. Helper text: no statement is claimed here. -/
namespace Go.Proofs.YtjacgamgjjpllaaGreatDoor
open Go.ChangeShapes Go.WideShapes Go.ChangeAt Go.RowKit

theorem ret_bool4 {a b : Bool} (h : a = b) : Ending.returned (.bool a) = .returned (.bool b) := by rw [h]
theorem wrap_u64n (n : Nat) (h : n < 18446744073709551616) : IntKind.u64.wrap (n : Int) = n := by rw [IntKind.wrap_u64]; omega
theorem pow_lt64 {k : Nat} (h : k < 64) : 2 ^ k < 18446744073709551616 := Nat.pow_lt_pow_right (a := 2) (n := 64) (by decide) h
end Go.Proofs.YtjacgamgjjpllaaGreatDoor

/- The bits that are given, of the program. Helper text: no statement is claimed here. -/
namespace Go.Proofs.YtjacgamgjjpllaaGreatDoor
open Go.ChangeShapes Go.WideShapes Go.ChangeAt Go.RowKit

/-- A given bit. -/
def Mm.given (m : Mm) (q : Nat) : Bool := if q = 0 then true else if q = 2 then !m.ran else if q = 3 then m.fault else if q = 4 then decide (500 ≤ m.time % 1000) else false
/-- The bit that an operand asks for. -/
def Mm.bit (m : Mm) (k n : Int) : Bool :=
  if k = 1 then bitN m.x (plc 1 n).toNat else
  if k = 2 then bitN m.y (plc 2 n).toNat else
  if k = 3 then bitN m.m (plc 3 n).toNat else
  if k = 4 then bitN m.s (plc 4 n).toNat else
  if k = 5 then bitN m.e (plc 5 n).toNat else
  if k = 6 then m.given (plc 6 n).toNat else if k = 7 then m.td (plc 7 n).toNat else if k = 8 then m.cd (plc 8 n).toNat else false
theorem wrap_u32m (n : Nat) (h : n < 4294967296) : IntKind.u32.wrap (n : Int) = n := by rw [IntKind.wrap_u32]; omega
set_option maxHeartbeats 1000000 in
theorem igiven_any (m : Mm) (_hok : m.Ok) (q : Nat) (w : World) (hq : q < 8) :
    Calls Tryz.prog 71 #[m.val, .int .i64 q] w fun e w' => e = .returned (.bool (m.given q)) ∧ Below w.heap.size w w' := by
  have c1 := m.at_time
  have c2 := m.at_ran
  have c3 := m.at_fault
  have hb : Below w.heap.size w (w.alloc (.cells m.cells 37)) := (Below.refl _ _).alloc (Nat.le_refl _) _
  obtain ⟨r, hr⟩ : ∃ r : Nat, r = m.time % 1000 := ⟨_, rfl⟩
  have h1 : (m.time : Int).tmod 1000 = (r : Int) := by rw [Int.tmod_eq_emod_of_nonneg (by omega)]; omega
  have h2 : IntKind.u32.wrap (r : Int) = (r : Int) := wrap_u32m r (by omega)
  have HD : Hid (decide (500 ≤ (r : Int)) = decide (500 ≤ m.time % 1000)) := by
    show _ = _
    rw [← hr]
    by_cases h : 500 ≤ r
    · have : (500 : Int) ≤ (r : Int) := by omega
      simp [h, this]
    · have : ¬ (500 : Int) ≤ (r : Int) := by omega
      simp [h, this]
  have HG4 : Hid (m.given 4 = decide (500 ≤ m.time % 1000)) := rfl
  clear hr _hok
  have : q = 0 ∨ q = 2 ∨ q = 3 ∨ q = 4 ∨ (q ≠ 0 ∧ q ≠ 2 ∧ q ≠ 3 ∧ q ≠ 4) := by omega
  unfold Mm.val
  generalize m.time = tm at *
  rcases this with rfl | rfl | rfl | rfl | ⟨n0, n2, n3, n4⟩
  · go_enter Tryz.func71, Tryz.ntmps71
    go_wp2
    go_ret
    exact ⟨rfl, hb⟩
  · go_enter Tryz.func71, Tryz.ntmps71
    go_wp2
    go_ret
    exact ⟨rfl, hb⟩
  · go_enter Tryz.func71, Tryz.ntmps71
    go_wp2
    go_ret
    exact ⟨rfl, hb⟩
  · go_enter Tryz.func71, Tryz.ntmps71
    go_wp2
    go_ret
    exact ⟨ret_bool4 (HD.out.trans HG4.out.symm), hb⟩
  · have HG : Hid (m.given q = false) := by
      show m.given q = false
      unfold Mm.given
      rw [if_neg n0, if_neg n2, if_neg n3, if_neg n4]
    have k0 : ((q : Int) == 0) = false := by simp only [beq_eq_false_iff_ne, ne_eq]; omega
    have k2 : ((q : Int) == 2) = false := by simp only [beq_eq_false_iff_ne, ne_eq]; omega
    have k3 : ((q : Int) == 3) = false := by simp only [beq_eq_false_iff_ne, ne_eq]; omega
    have k4 : ((q : Int) == 4) = false := by simp only [beq_eq_false_iff_ne, ne_eq]; omega
    clear n0 n2 n3 n4
    go_enter Tryz.func71, Tryz.ntmps71
    go_wp2
    go_ret
    exact ⟨ret_bool4 HG.out.symm, hb⟩
/-- The word in which the bits of a kind are packed. -/
def Mm.packed (m : Mm) (k : Int) : Nat := if k = 1 then m.x else if k = 2 then m.y else if k = 3 then m.m else if k = 4 then m.s else if k = 5 then m.e else 0
theorem packed_lt {m : Mm} (h : m.Ok) (k : Int) : m.packed k < 18446744073709551616 := by
  have h1 : m.x < 4294967296 := h.hx
  have h2 : m.y < 4294967296 := h.hy
  have h3 : m.m < 18446744073709551616 := h.hm
  have h4 : m.s < 65536 := h.hs
  have h5 : m.e < 4294967296 := h.he
  unfold Mm.packed
  repeat' split
  all_goals omega
set_option maxHeartbeats 1000000 in
theorem packed_any (m : Mm) (hok : m.Ok) (k : Int) (w : World) :
    Calls Tryz.prog 72 #[m.val, .int .i64 k] w fun e w' => e = .returned (.int .u64 (m.packed k : Nat)) ∧ Below w.heap.size w w' := by
  have hb : Below w.heap.size w (w.alloc (.cells m.cells 37)) := (Below.refl _ _).alloc (Nat.le_refl _) _
  have c0 := m.at_x
  have c1 := m.at_y
  have c2 := m.at_m
  have c3 := m.at_s
  have c4 := m.at_e
  have h1 : m.x < 4294967296 := hok.hx
  have h2 : m.y < 4294967296 := hok.hy
  have h4 : m.s < 65536 := hok.hs
  have h5 : m.e < 4294967296 := hok.he
  have w1 : IntKind.u64.wrap (m.x : Int) = (m.x : Int) := wrap_u64n _ (by omega)
  have w2 : IntKind.u64.wrap (m.y : Int) = (m.y : Int) := wrap_u64n _ (by omega)
  have w4 : IntKind.u64.wrap (m.s : Int) = (m.s : Int) := wrap_u64n _ (by omega)
  have w5 : IntKind.u64.wrap (m.e : Int) = (m.e : Int) := wrap_u64n _ (by omega)
  clear h1 h2 h4 h5 hok
  unfold Mm.val
  have : k = 1 ∨ k = 2 ∨ k = 3 ∨ k = 4 ∨ k = 5 ∨ (k ≠ 1 ∧ k ≠ 2 ∧ k ≠ 3 ∧ k ≠ 4 ∧ k ≠ 5) := by omega
  rcases this with rfl | rfl | rfl | rfl | rfl | ⟨n1, n2, n3, n4, n5⟩
  case inr.inr.inr.inr.inr =>
    have HG : Hid (m.packed k = 0) := by
      show m.packed k = 0
      unfold Mm.packed
      rw [if_neg n1, if_neg n2, if_neg n3, if_neg n4, if_neg n5]
    have k1 : (k == 1) = false := by simpa using n1
    have k2 : (k == 2) = false := by simpa using n2
    have k3 : (k == 3) = false := by simpa using n3
    have k4 : (k == 4) = false := by simpa using n4
    have k5 : (k == 5) = false := by simpa using n5
    clear n1 n2 n3 n4 n5
    rw [HG.out]
    go_enter Tryz.func72, Tryz.ntmps72
    go_wp2
    go_ret
    exact ⟨rfl, hb⟩
  all_goals
    go_enter Tryz.func72, Tryz.ntmps72
    go_wp2
    go_ret
    exact ⟨rfl, hb⟩
end Go.Proofs.YtjacgamgjjpllaaGreatDoor
