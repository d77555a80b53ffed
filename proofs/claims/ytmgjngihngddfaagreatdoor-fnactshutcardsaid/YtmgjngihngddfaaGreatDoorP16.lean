/- Arrays held against each other by the program's own sign of equality. Helper text: no statement is claimed here. -/
import Derived.Test.YtmgjngihngddfaaGreatDoorP01
import Derived.ChangeKeysEq
import Derived.Laws.StructEq
import Derived.Test.YtmgjngihngddfaaGreatDoorP06
import Derived.Lib.QuietBelow
import Derived.BigQuiet
import Derived.Deep.Cut
import Derived.Deep.RegionHeld3
namespace Go.Proofs.YtmgjngihngddfaaGreatDoor
open Go.ChangeShapes Go.WideShapes Go.ChangeAt Go.RowKit

theorem eqItems_run {d sz : Nat} {e : TypeId} {xs ys : Array Value} {w : World} (r : Nat → Bool) : ∀ is : List Nat, (∀ i, i ∈ is → ∃ a b, (part e xs (i * sz)).run Tryz.prog w = .ok a w ∧ (part e ys (i * sz)).run Tryz.prog w = .ok b w ∧ (Op.equalIn d e a b).run Tryz.prog w = .ok (r i) w) →
    (Op.eqItems d e sz xs ys is).run Tryz.prog w = .ok (is.all r) w
  | [], _ => by simp [Op.eqItems]
  | i :: is, h => by
    obtain ⟨a, b, h1, h2, h3⟩ := h i (by simp)
    have ih := eqItems_run r is (fun j hj => h j (by simp [hj]))
    simp only [Op.eqItems, Sem.run_bind, h1, h2, h3, Result.andThen_ok, List.all_cons]
    cases hr : r i
    · simp
    · simpa using ih
theorem eqTimerV (d : Nat) (a a' : Bool) (c c' : Int) (w : World) : (Op.equalIn (d + 2) 27 (.agg #[.bool a, .int .u16 c]) (.agg #[.bool a', .int .u16 c'])).run Tryz.prog w = .ok (a == a' && c == c') w := by
  rw [run_equalIn_struct w (d + 1) _ _ _ (by kernel_rfl) (by kernel_rfl)]
  simp [go_sem]
  split <;> (try split) <;> simp_all
theorem eqCounterV (d : Nat) (a a' l l' : Bool) (c c' : Int) (w : World) : (Op.equalIn (d + 2) 30 (.agg #[.bool a, .bool l, .int .u16 c]) (.agg #[.bool a', .bool l', .int .u16 c'])).run Tryz.prog w = .ok (a == a' && (l == l' && c == c')) w := by
  rw [run_equalIn_struct w (d + 1) _ _ _ (by kernel_rfl) (by kernel_rfl)]
  simp [go_sem]
  split <;> (try split) <;> (try split) <;> simp_all
theorem extract2 {n : Nat} (f : Nat → Value) (k : Nat) (h : k + 2 ≤ n) : (cellsOf n f).extract k (k + 2) = #[f k, f (k + 1)] := by
  apply Array.ext_getElem?
  intro i
  rw [Array.getElem?_extract]
  by_cases hi : i < 2
  · rw [if_pos (by rw [cellsOf_size]; omega), cellsOf_at _ (by omega)]
    have : i = 0 ∨ i = 1 := by omega
    rcases this with rfl | rfl <;> simp
  · rw [if_neg (by rw [cellsOf_size]; omega)]
    simp; omega
theorem extract3 {n : Nat} (f : Nat → Value) (k : Nat) (h : k + 3 ≤ n) : (cellsOf n f).extract k (k + 3) = #[f k, f (k + 1), f (k + 2)] := by
  apply Array.ext_getElem?
  intro i
  rw [Array.getElem?_extract]
  by_cases hi : i < 3
  · rw [if_pos (by rw [cellsOf_size]; omega), cellsOf_at _ (by omega)]
    have : i = 0 ∨ i = 1 ∨ i = 2 := by omega
    rcases this with rfl | rfl | rfl <;> simp
  · rw [if_neg (by rw [cellsOf_size]; omega)]
    simp; omega
theorem partTimer (m : Mm) (i : Nat) (h : i < 16) (w : World) : (part 27 m.tArr (i * 2)).run Tryz.prog w = .ok (.agg #[.bool (m.td i), .int .u16 (m.tc i)]) w := by
  have : m.tArr.extract (i * 2) (i * 2 + 2) = #[.bool (m.td i), .int .u16 (m.tc i)] := by
    unfold Mm.tArr
    rw [extract2 _ _ (by omega), Mm.tcell_d, Mm.tcell_c]
  simp [go_sem, this]
theorem partCounter (m : Mm) (i : Nat) (h : i < 16) (w : World) : (part 30 m.cArr (i * 3)).run Tryz.prog w = .ok (.agg #[.bool (m.cd i), .bool (m.cl i), .int .u16 (m.cc i)]) w := by
  have : m.cArr.extract (i * 3) (i * 3 + 3) = #[.bool (m.cd i), .bool (m.cl i), .int .u16 (m.cc i)] := by
    unfold Mm.cArr
    rw [extract3 _ _ (by omega), Mm.ccell_d, Mm.ccell_l, Mm.ccell_c]
  simp [go_sem, this]
theorem partD (m : Mm) (i : Nat) (h : i < 32) (w : World) : (part 32 m.dArr (i * 1)).run Tryz.prog w = .ok (.int .i16 (m.d i)) w := by
  have : m.dArr[i]? = some (.int .i16 (m.d i)) := cellsOf_at _ h
  simp [go_sem, this]
/-- What the sign of equality says of two arrays. -/
def sameT (m n : Mm) : Bool := (List.range 16).all fun i => m.td i == n.td i && (m.tc i : Int) == (n.tc i : Int)
def sameC (m n : Mm) : Bool := (List.range 16).all fun i => m.cd i == n.cd i && (m.cl i == n.cl i && (m.cc i : Int) == (n.cc i : Int))
def sameD (m n : Mm) : Bool := (List.range 32).all fun i => m.d i == n.d i
theorem eqT_run (m n : Mm) (w : World) : (Op.equal 28 (.agg m.tArr) (.agg n.tArr)).run Tryz.prog w = .ok (sameT m n) w := by
  obtain ⟨i0, hi0⟩ : ∃ i, Tryz.prog.info? 27 = some i := Option.isSome_iff_exists.1 (by kernel_rfl)
  show (Op.equalIn (9999 + 1) _ _ _).run _ _ = _
  rw [run_equalIn_array w 9999 m.tArr n.tArr Tryz.underlying28 hi0, show Tryz.prog.cellsOf 27 = 2 by kernel_rfl]
  exact eqItems_run _ _ fun i hi => ⟨_, _, partTimer m i (List.mem_range.1 hi) w, partTimer n i (List.mem_range.1 hi) w, eqTimerV 9997 _ _ _ _ w⟩
theorem eqC_run (m n : Mm) (w : World) : (Op.equal 31 (.agg m.cArr) (.agg n.cArr)).run Tryz.prog w = .ok (sameC m n) w := by
  obtain ⟨i0, hi0⟩ : ∃ i, Tryz.prog.info? 30 = some i := Option.isSome_iff_exists.1 (by kernel_rfl)
  show (Op.equalIn (9999 + 1) _ _ _).run _ _ = _
  rw [run_equalIn_array w 9999 m.cArr n.cArr Tryz.underlying31 hi0, show Tryz.prog.cellsOf 30 = 3 by kernel_rfl]
  exact eqItems_run _ _ fun i hi => ⟨_, _, partCounter m i (List.mem_range.1 hi) w, partCounter n i (List.mem_range.1 hi) w, eqCounterV 9997 _ _ _ _ _ _ w⟩
theorem eqD_run (m n : Mm) (w : World) : (Op.equal 33 (.agg m.dArr) (.agg n.dArr)).run Tryz.prog w = .ok (sameD m n) w := by
  obtain ⟨i0, hi0⟩ : ∃ i, Tryz.prog.info? 32 = some i := Option.isSome_iff_exists.1 (by kernel_rfl)
  show (Op.equalIn (9999 + 1) _ _ _).run _ _ = _
  rw [run_equalIn_array w 9999 m.dArr n.dArr Tryz.underlying33 hi0, show Tryz.prog.cellsOf 32 = 1 by kernel_rfl]
  exact eqItems_run _ _ fun i hi => ⟨_, _, partD m i (List.mem_range.1 hi) w, partD n i (List.mem_range.1 hi) w, by simp [go_sem]⟩
end Go.Proofs.YtmgjngihngddfaaGreatDoor

/- A memory is the same as itself: the program's MemSame. Helper text: no statement is claimed here. -/
namespace Go.Proofs.YtmgjngihngddfaaGreatDoor
open Go.ChangeShapes Go.WideShapes Go.ChangeAt Go.RowKit Fl

theorem one_wd : 4607182418800017408 = wd false 4503599627370496 1022 := by decide
theorem one_sc : Sc 4503599627370496 1022 := ⟨by decide, .inr (by decide)⟩
theorem one_by_inf (s : Bool) : Go.floatBits .quo .f64 4607182418800017408 (wi s) = some (wd s 0 0) := by cases s <;> decide +kernel
theorem one_by {x : Nat} (hx : x < 2 ^ 64) (hn : ¬ nan x) : ∃ r, Go.floatBits .quo .f64 4607182418800017408 x = some r ∧ r < 2 ^ 64 ∧ ¬ nan r := by
  rcases cases_wd hx with ⟨s, m, k, hs, hk, rfl⟩ | ⟨s, rfl⟩ | h
  · by_cases h0 : m = 0
    · have e : wd s m k = wd s 0 0 := by
        subst h0
        rcases hs.hk with rfl | h
        · rfl
        · omega
      rw [e]
      exact ⟨_, one_by_zero s, wi_lt s, not_nan_wi s⟩
    · have := quo_some one_sc (by omega) hs hk false s (by omega)
      rwa [← one_wd] at this
  · exact ⟨_, one_by_inf s, wd_lt sc00 (by omega) s, not_nan_wd sc00 (by omega) s⟩
  · exact absurd h hn
theorem eq_selfI {x : Nat} (h : x < 2 ^ 64) (hn : ¬ nan x) : (ord x x == some .eq) = true := by
  simp only [ord, Go.FloatKind.format, order_self h hn]; rfl
theorem neq_selfI {x : Nat} (h : x < 2 ^ 64) (hn : ¬ nan x) : (ord x x != some .eq) = false := by
  simp only [ord, Go.FloatKind.format, order_self h hn]; rfl
set_option maxHeartbeats 400000 in
theorem sameReal_self (x : Nat) (w : World) (hx : x < 2 ^ 64) :
    Calls Tryz.prog 57 #[.float .f64 x, .float .f64 x] w fun e w' => e = .returned (.bool true) ∧ w' = w := by
  by_cases hn : nan x
  · have h1 := (asks_nan hn).n
    clear hn
    go_enter Tryz.func57, Tryz.ntmps57
    go_wp2
    go_ret
    exact ⟨rfl, rfl⟩
  · obtain ⟨r, hr, hl, hrn⟩ := one_by hx hn
    have h1 := neq_selfI hx hn
    have h2 := eq_selfI hx hn
    have h3 := run_some hr
    have h4 := eq_selfI hl hrn
    clear hn hr hl hrn hx
    go_enter Tryz.func57, Tryz.ntmps57
    go_wp2
    go_ret
    exact ⟨rfl, rfl⟩
theorem grownSame {x : Nat} {w : World} (hx : x < 2 ^ 64) (n : Nat) (os : Array Obj) :
    Calls Tryz.prog 57 #[.float .f64 x, .float .f64 x] (Sort.grow (redrawn w n) os) fun e w'' => e = .returned (.bool true) ∧ ∃ p' : Regrown, w'' = Sort.grow (redrawn w p'.d) p'.os :=
  Calls.regrown_of ((sameReal_self x _ hx).mono fun _ _ ⟨a, b⟩ => ⟨a, b ▸ Below.refl _ _⟩)

set_option maxHeartbeats 1000000 in
theorem sameReals_self (m : Mm) (hr : ∀ i, m.r i < 2 ^ 64) (w : World) :
    Calls Tryz.prog 37 #[.agg m.rArr, .agg m.rArr] w fun e w' => e = .returned (.bool true) ∧ Below w.heap.size w w' := by
  have HX : Hid (∀ i, m.r i < 2 ^ 64) := hr
  clear hr
  go_enter Tryz.func37, Tryz.ntmps37
  go_wp2
  have HB0 : Hid (Below w.heap.size w ((w.alloc (.cells m.rArr 35)).alloc (.cells m.rArr 35))) := ((Below.refl _ _).alloc (Nat.le_refl _) _).alloc (by simp) _
  have HI0 : Hid (RowAt ((w.alloc (.cells m.rArr 35)).alloc (.cells m.rArr 35)) w.heap.size 35 16 m.rcell) := (RowAt.new w _ 16 m.rcell).alloc _
  have HJ0 : Hid (RowAt ((w.alloc (.cells m.rArr 35)).alloc (.cells m.rArr 35)) (w.heap.size + 1) 35 16 m.rcell) := by
    have := RowAt.new (w.alloc (.cells m.rArr 35)) 35 16 m.rcell
    rw [show (w.alloc (.cells m.rArr 35)).heap.size = w.heap.size + 1 by simp] at this
    exact this
  generalize ((w.alloc (.cells m.rArr 35)).alloc (.cells m.rArr 35)) = V at *
  go_loopw [6] (fun c w' => ∃ j : Nat, j ≤ 16 ∧ c = .int .i64 (j : Int) ∧ Hid (Below w.heap.size w w') ∧ Hid (RowAt w' w.heap.size 35 16 m.rcell) ∧ Hid (RowAt w' (w.heap.size + 1) 35 16 m.rcell)) (fun c _ => 16 - (intOf c).toNat)
  case atStart => exact ⟨0, by omega, rfl, HB0, HI0, HJ0⟩
  case round =>
    obtain ⟨j, hj, rfl, HBr, HIr, HJr⟩ := hrel
    rename_i wr
    clear HB0 HI0 HJ0
    by_cases hlt : j < 16
    · have hlt' : (j : Int) < 16 := by omega
      have c0 := HIr.out.cell (i := j) (by omega)
      rw [Mm.rcell] at c0
      have d0 := HJr.out.cell (i := j) (by omega)
      rw [Mm.rcell] at d0
      have HG : Hid (∀ (n : Nat) (os : Array Obj), Calls Tryz.prog 57 #[.float .f64 (m.r j), .float .f64 (m.r j)] (Sort.grow (redrawn wr n) os) fun e w'' => e = .returned (.bool true) ∧ ∃ p' : Regrown, w'' = Sort.grow (redrawn wr p'.d) p'.os) := fun n os => grownSame (HX.out j) n os
      generalize m.r j = x at *
      have k0 := cell_regrown c0
      have q0 := cell_regrown d0
      go_wp2
      refine wp_region_quiet_below (by kernel_rfl) (by kernel_rfl) ?_
      repeat (first | go_big_quiet_step (exact HG.out _ _) | quiet_step (exact HG.out _ _))
      refine wpQuiet_nil ?_
      intro _ hw'
      obtain ⟨⟨dq, osq⟩, hw''⟩ := hw'
      subst hw''
      have HBq : Hid (Below w.heap.size w (Sort.grow (redrawn wr dq) osq)) := HBr.out.trans ((below_regrown _ dq osq).mono HBr.out.size)
      have HIq : Hid (RowAt (Sort.grow (redrawn wr dq) osq) w.heap.size 35 16 m.rcell) := HIr.out.to (below_regrown _ dq osq)
      have HJq : Hid (RowAt (Sort.grow (redrawn wr dq) osq) (w.heap.size + 1) 35 16 m.rcell) := HJr.out.to (below_regrown _ dq osq)
      clear k0 q0 c0 d0
      generalize Sort.grow (redrawn wr dq) osq = wq at *
      go_wp2
      exact ⟨⟨j + 1, by omega, by go_num, HBq, HIq, HJq⟩, by simp [intOf]; omega⟩
    · obtain rfl : j = 16 := by omega
      go_wp2
      go_ret
      exact ⟨rfl, HBr.out⟩
end Go.Proofs.YtmgjngihngddfaaGreatDoor

/- A memory is the same as itself: the program's MemSame, its one long row of tests. Helper text: no statement is claimed here. -/
namespace Go.Proofs.YtmgjngihngddfaaGreatDoor
open Go.ChangeShapes Go.WideShapes Go.ChangeAt Go.RowKit Fl

/-- The walk's step at a load of many cells that is asked for. -/
theorem wpList_rowLoadG {ops : Array Oper} {rest : List Oper} {op : Oper} {a : Act} {w : World} {Q : Exit → Act → World → Prop} {n : Nat} {t : TypeId} {f : Nat → Value} {d : TypeDesc} (hw : Region.wanted op (yielded ops a.tmps) = true) (ty : TypeId) (x : Operand) (ho : op.op = .load ty x)
    (b o k : Nat) (g : Nat → Value) (hx : a.eval x = .pointer (some ⟨b, o, none⟩)) (hR : RowAt w b t n f) (hok : o + k ≤ n) (e : ∀ i, i < k → f (o + i) = g i)
    (hu : Tryz.prog.underlying ty = some d) (hd : d.isRow = true) (hi : (Tryz.prog.info? ty).map (·.size) = some k) (h : wpList Tryz.prog ops Q rest (a.put op.dst (.agg (cellsOf k g))) w) : wpList Tryz.prog ops Q (op :: rest) a w :=
  wpList_step fun K hK => by
    rw [if_pos hw]
    exact wp_load_mid ty x ho b o hx (cellsOf k g).toList d (fun j v hv => by
      have hj : j < k := by
        have := (List.getElem?_eq_some_iff.1 hv).1
        simpa [cellsOf_size] using this
      rw [hR.cell (by omega), e j hj]
      rw [Array.getElem?_toList, cellsOf_at _ hj] at hv
      exact hv) hu hd (by rw [hi]; simp [cellsOf_size]) (hK _ _ (by simpa using h))
set_option maxRecDepth 10000 in
/-- The walk's step at the box of a memory. -/
theorem wpList_boxMem {ops : Array Oper} {rest : List Oper} {op : Oper} {a : Act} {w : World} {Q : Exit → Act → World → Prop} {m : Mm} (hgd : op.guard = none) (x : Operand) (ho : op.op = .box 37 x) (hx : a.eval x = .agg m.cells)
    (h : ∀ w1, MemAt w1 w.heap.size m → Below w.heap.size w w1 → w1.heap.size = w.heap.size + 1 → wpList Tryz.prog ops Q rest (a.put op.dst (.pointer (some ⟨w.heap.size, 0, none⟩))) w1) : wpList Tryz.prog ops Q (op :: rest) a w :=
  wpList_plain hgd fun K hK => by
    have hv : (Instr.box 37 (.agg m.cells)).run Tryz.prog w = .ok (.pointer (some ⟨w.heap.size, 0, none⟩)) (w.alloc (.cells m.cells 37)) := by
      generalize m.cells = cs
      simp [go_sem]
    have hM : MemAt (w.alloc (.cells m.cells 37)) w.heap.size m := RowAt.new w 37 136 m.cell
    have hn := h (w.alloc (.cells m.cells 37)) hM ((Below.refl _ _).alloc (Nat.le_refl _) _) (by simp)
    unfold Oper.wp execOp
    rw [ho]
    simp only [hx, Sem.run_bind, hv, Result.andThen_ok, Sem.run_pure, Oper.upon_value]
    exact hK _ _ hn
/-- The walk's step at two arrays held against each other. -/
theorem wpList_eqG {ops : Array Oper} {rest : List Oper} {op : Oper} {a : Act} {w : World} {Q : Exit → Act → World → Prop} {u v : Array Value} {b : Bool} (hw : Region.wanted op (yielded ops a.tmps) = true) (ty ty2 : TypeId) (x y : Operand) (ho : op.op = .binOp .eql ty x y ty2)
    (hx : a.eval x = .agg u) (hy : a.eval y = .agg v) (hm : Tryz.prog.eqGuardType Tryz.prog.depth ty = false) (he : (Op.equal ty (.agg u) (.agg v)).run Tryz.prog w = .ok b w) (h : wpList Tryz.prog ops Q rest (a.put op.dst (.bool b)) w) : wpList Tryz.prog ops Q (op :: rest) a w :=
  wpList_step fun K hK => by
    rw [if_pos hw]
    have hb : (binOp .eql ty (.agg u) (.agg v)).run Tryz.prog w = .ok (.bool b) w := by
      show (Op.equal ty (.agg u) (.agg v) >>= fun r => pure (Value.bool r)).run Tryz.prog w = _
      rw [Sem.run_bind, he]
      rfl
    unfold Oper.wp execOp
    rw [ho]
    simp only [hx, hy, Sem.run_bind, run_eqGuard_agg w .eql ty x y u v hm, hb, Result.andThen_ok, Sem.run_pure, Oper.upon_value]
    exact hK _ _ h
theorem sameT_self (m : Mm) : sameT m m = true := by simp [sameT]
theorem sameC_self (m : Mm) : sameC m m = true := by simp [sameC]
theorem sameD_self (m : Mm) : sameD m m = true := by simp [sameD]

set_option maxHeartbeats 2000000 in
set_option maxRecDepth 100000 in
theorem memSame_self (m : Mm) (hm : m.Ok) (w : World) :
    Calls Tryz.prog 10 #[m.val, m.val] w fun e w' => e = .returned (.bool true) ∧ Below w.heap.size w w' := by
  have HX : Hid (∀ i, m.r i < 2 ^ 64) := hm.hr
  have eT : Hid (∀ w, (Op.equal 28 (.agg (cellsOf 32 m.tcell)) (.agg (cellsOf 32 m.tcell))).run Tryz.prog w = .ok true w) := fun w => by have := eqT_run m m w; rw [sameT_self] at this; exact this
  have eC : Hid (∀ w, (Op.equal 31 (.agg (cellsOf 48 m.ccell)) (.agg (cellsOf 48 m.ccell))).run Tryz.prog w = .ok true w) := fun w => by have := eqC_run m m w; rw [sameC_self] at this; exact this
  have eD : Hid (∀ w, (Op.equal 33 (.agg (cellsOf 32 m.dcell)) (.agg (cellsOf 32 m.dcell))).run Tryz.prog w = .ok true w) := fun w => by have := eqD_run m m w; rw [sameD_self] at this; exact this
  have hb1 : (m.ran == m.ran) = true := by cases m.ran <;> rfl
  have hb2 : (m.fault == m.fault) = true := by cases m.fault <;> rfl
  clear hm
  unfold Mm.val
  go_enter Tryz.func10, Tryz.ntmps10
  apply wp_seq_k
  intro K0 hK0
  apply wp_region_lit
  refine wpList_boxMem (m := m) rfl (.tmp 0) rfl rfl ?_
  intro w1 HI0 HB1 hz1
  simp only [Act.put, List.setIfInBounds_toArray, List.set_cons_zero, List.set_cons_succ]
  refine wpList_boxMem (m := m) rfl (.tmp 1) rfl rfl ?_
  intro w2 HJ0 HB2 hz2
  simp only [Act.put, List.setIfInBounds_toArray, List.set_cons_zero, List.set_cons_succ]
  have HI : Hid (RowAt w2 w.heap.size 37 136 m.cell) := RowAt.to HI0 HB2
  have HJ : Hid (RowAt w2 w1.heap.size 37 136 m.cell) := HJ0
  have HB : Hid (Below w.heap.size w w2) := HB1.trans (HB2.mono HB1.size)
  have i0 : World.cell? w2 ⟨w.heap.size, 0, none⟩ = some (.int .u32 m.x) := HI.out.cell (i := 0) (by omega)
  have i1 : World.cell? w2 ⟨w.heap.size, 1, none⟩ = some (.int .u32 m.y) := HI.out.cell (i := 1) (by omega)
  have i2 : World.cell? w2 ⟨w.heap.size, 2, none⟩ = some (.int .u64 m.m) := HI.out.cell (i := 2) (by omega)
  have i3 : World.cell? w2 ⟨w.heap.size, 3, none⟩ = some (.int .u16 m.s) := HI.out.cell (i := 3) (by omega)
  have i4 : World.cell? w2 ⟨w.heap.size, 4, none⟩ = some (.int .u32 m.e) := HI.out.cell (i := 4) (by omega)
  have i133 : World.cell? w2 ⟨w.heap.size, 133, none⟩ = some (.int .u32 m.time) := HI.out.cell (i := 133) (by omega)
  have i134 : World.cell? w2 ⟨w.heap.size, 134, none⟩ = some (.bool m.ran) := HI.out.cell (i := 134) (by omega)
  have i135 : World.cell? w2 ⟨w.heap.size, 135, none⟩ = some (.bool m.fault) := HI.out.cell (i := 135) (by omega)
  have j0 : World.cell? w2 ⟨w1.heap.size, 0, none⟩ = some (.int .u32 m.x) := HJ.out.cell (i := 0) (by omega)
  have j1 : World.cell? w2 ⟨w1.heap.size, 1, none⟩ = some (.int .u32 m.y) := HJ.out.cell (i := 1) (by omega)
  have j2 : World.cell? w2 ⟨w1.heap.size, 2, none⟩ = some (.int .u64 m.m) := HJ.out.cell (i := 2) (by omega)
  have j3 : World.cell? w2 ⟨w1.heap.size, 3, none⟩ = some (.int .u16 m.s) := HJ.out.cell (i := 3) (by omega)
  have j4 : World.cell? w2 ⟨w1.heap.size, 4, none⟩ = some (.int .u32 m.e) := HJ.out.cell (i := 4) (by omega)
  have j133 : World.cell? w2 ⟨w1.heap.size, 133, none⟩ = some (.int .u32 m.time) := HJ.out.cell (i := 133) (by omega)
  have j134 : World.cell? w2 ⟨w1.heap.size, 134, none⟩ = some (.bool m.ran) := HJ.out.cell (i := 134) (by omega)
  have j135 : World.cell? w2 ⟨w1.heap.size, 135, none⟩ = some (.bool m.fault) := HJ.out.cell (i := 135) (by omega)
  clear HI0 HJ0 HB1 HB2 hz1 hz2
  repeat (refine wpList_step (fun K hK => ?_); go_simp; refine hK _ _ ?_; clear hK K)
  refine wpList_nil ?_
  refine hK0 _ _ ?_
  clear hK0 K0
  apply wp_seq_k
  intro K0 hK0
  apply wp_region_lit
  repeat (first | (refine wpList_rowLoadG (by rfl) 28 (.tmp 39) rfl w.heap.size 5 32 m.tcell rfl HI.out (by omega) (fun i hi => m.cell_t hi) Tryz.underlying28 rfl (by kernel_rfl) ?_; simp only [Act.put, List.setIfInBounds_toArray, List.set_cons_zero, List.set_cons_succ]) | (refine wpList_rowLoadG (by rfl) 28 (.tmp 41) rfl w1.heap.size 5 32 m.tcell rfl HJ.out (by omega) (fun i hi => m.cell_t hi) Tryz.underlying28 rfl (by kernel_rfl) ?_; simp only [Act.put, List.setIfInBounds_toArray, List.set_cons_zero, List.set_cons_succ]) | (refine wpList_rowLoadG (by rfl) 31 (.tmp 46) rfl w.heap.size 37 48 m.ccell rfl HI.out (by omega) (fun i hi => m.cell_c hi) Tryz.underlying31 rfl (by kernel_rfl) ?_; simp only [Act.put, List.setIfInBounds_toArray, List.set_cons_zero, List.set_cons_succ]) | (refine wpList_rowLoadG (by rfl) 31 (.tmp 48) rfl w1.heap.size 37 48 m.ccell rfl HJ.out (by omega) (fun i hi => m.cell_c hi) Tryz.underlying31 rfl (by kernel_rfl) ?_; simp only [Act.put, List.setIfInBounds_toArray, List.set_cons_zero, List.set_cons_succ]) | (refine wpList_rowLoadG (by rfl) 33 (.tmp 53) rfl w.heap.size 85 32 m.dcell rfl HI.out (by omega) (fun i hi => m.cell_d hi) Tryz.underlying33 rfl (by kernel_rfl) ?_; simp only [Act.put, List.setIfInBounds_toArray, List.set_cons_zero, List.set_cons_succ]) | (refine wpList_rowLoadG (by rfl) 33 (.tmp 55) rfl w1.heap.size 85 32 m.dcell rfl HJ.out (by omega) (fun i hi => m.cell_d hi) Tryz.underlying33 rfl (by kernel_rfl) ?_; simp only [Act.put, List.setIfInBounds_toArray, List.set_cons_zero, List.set_cons_succ]) | (refine wpList_rowLoadG (by rfl) 35 (.tmp 60) rfl w.heap.size 117 16 m.rcell rfl HI.out (by omega) (fun i hi => m.cell_r hi) Tryz.underlying35 rfl (by kernel_rfl) ?_; simp only [Act.put, List.setIfInBounds_toArray, List.set_cons_zero, List.set_cons_succ]) | (refine wpList_rowLoadG (by rfl) 35 (.tmp 62) rfl w1.heap.size 117 16 m.rcell rfl HJ.out (by omega) (fun i hi => m.cell_r hi) Tryz.underlying35 rfl (by kernel_rfl) ?_; simp only [Act.put, List.setIfInBounds_toArray, List.set_cons_zero, List.set_cons_succ]) | (refine wpList_eqG (by rfl) 28 28 (.tmp 40) (.tmp 42) rfl rfl rfl (by kernel_rfl) (eT.out _) ?_; simp only [Act.put, List.setIfInBounds_toArray, List.set_cons_zero, List.set_cons_succ]) | (refine wpList_eqG (by rfl) 31 31 (.tmp 47) (.tmp 49) rfl rfl rfl (by kernel_rfl) (eC.out _) ?_; simp only [Act.put, List.setIfInBounds_toArray, List.set_cons_zero, List.set_cons_succ]) | (refine wpList_eqG (by rfl) 33 33 (.tmp 54) (.tmp 56) rfl rfl rfl (by kernel_rfl) (eD.out _) ?_; simp only [Act.put, List.setIfInBounds_toArray, List.set_cons_zero, List.set_cons_succ]) | (refine wpList_step (fun K hK => ?_); go_simp; refine hK _ _ ?_; clear hK K))
  refine wpList_step (fun K hK => ?_)
  go_simp
  refine (sameReals_self m HX.out _).mono ?_
  rintro e w3 ⟨rfl, hb3⟩
  refine hK _ _ ?_
  clear hK K
  have HI3 : Hid (RowAt w3 w.heap.size 37 136 m.cell) := HI.out.to hb3
  have HJ3 : Hid (RowAt w3 w1.heap.size 37 136 m.cell) := HJ.out.to hb3
  have HB3 : Hid (Below w.heap.size w w3) := HB.out.trans (hb3.mono HB.out.size)
  have a133 : w3.cell? ⟨w.heap.size, 133, none⟩ = some (.int .u32 m.time) := HI3.out.cell (i := 133) (by omega)
  have a134 : w3.cell? ⟨w.heap.size, 134, none⟩ = some (.bool m.ran) := HI3.out.cell (i := 134) (by omega)
  have a135 : w3.cell? ⟨w.heap.size, 135, none⟩ = some (.bool m.fault) := HI3.out.cell (i := 135) (by omega)
  have d133 : w3.cell? ⟨w1.heap.size, 133, none⟩ = some (.int .u32 m.time) := HJ3.out.cell (i := 133) (by omega)
  have d134 : w3.cell? ⟨w1.heap.size, 134, none⟩ = some (.bool m.ran) := HJ3.out.cell (i := 134) (by omega)
  have d135 : w3.cell? ⟨w1.heap.size, 135, none⟩ = some (.bool m.fault) := HJ3.out.cell (i := 135) (by omega)
  clear hb3
  repeat (refine wpList_step (fun K hK => ?_); go_simp; refine hK _ _ ?_; clear hK K)
  refine wpList_nil ?_
  refine hK0 _ _ ?_
  clear hK0 K0
  go_wp2
  go_ret
  exact ⟨rfl, HB3.out⟩
end Go.Proofs.YtmgjngihngddfaaGreatDoor
