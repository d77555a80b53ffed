/- Two memories held against each other in the exact laws. Helper text: no statement is claimed here. -/
import Derived.Test.YtljhpagpohihcabDoorJb
import Derived.Test.YtljhpagpohihcabDoorCs
import Derived.Lib.QuietBelow
import Derived.BigQuiet
import Derived.Deep.Cut
namespace Go.Proofs.YtljhpagpohihcabDoor
open Go.ChangeShapes Go.WideShapes Go.ChangeAt Go.RowKit Fl

/-- The same memory with other real registers. -/
def Mm.withR (m : Mm) (r2 : Nat → Nat) : Mm := { m with r := r2 }
theorem eqTimer_any (d : Bool) (c : Int) (w : World) :
    Calls Tryd.prog 34 #[.agg #[.bool d, .int .u16 c], .agg #[.bool d, .int .u16 c]] w fun e w' => e = .returned (.bool true) ∧ Below w.heap.size w w' := by
  have hd : (d != d) = false := by cases d <;> rfl
  go_enter Tryd.func34, Tryd.ntmps34
  go_wp2
  go_ret
  exact ⟨rfl, ((Below.refl _ _).alloc (Nat.le_refl _) _).alloc (by simp) _⟩
theorem eqCounter_any (d l : Bool) (c : Int) (w : World) :
    Calls Tryd.prog 35 #[.agg #[.bool d, .bool l, .int .u16 c], .agg #[.bool d, .bool l, .int .u16 c]] w fun e w' => e = .returned (.bool true) ∧ Below w.heap.size w w' := by
  have hd : (d != d) = false := by cases d <;> rfl
  have hl : (l != l) = false := by cases l <;> rfl
  go_enter Tryd.func35, Tryd.ntmps35
  go_wp2
  go_ret
  exact ⟨rfl, ((Below.refl _ _).alloc (Nat.le_refl _) _).alloc (by simp) _⟩
theorem grownTimer {d : Bool} {c : Int} {w : World} (n : Nat) (os : Array Obj) :
    Calls Tryd.prog 34 #[.agg #[.bool d, .int .u16 c], .agg #[.bool d, .int .u16 c]] (Sort.grow (redrawn w n) os) fun e w'' => e = .returned (.bool true) ∧ ∃ p' : Regrown, w'' = Sort.grow (redrawn w p'.d) p'.os :=
  Calls.regrown_of (eqTimer_any d c _)
theorem grownCounter {d l : Bool} {c : Int} {w : World} (n : Nat) (os : Array Obj) :
    Calls Tryd.prog 35 #[.agg #[.bool d, .bool l, .int .u16 c], .agg #[.bool d, .bool l, .int .u16 c]] (Sort.grow (redrawn w n) os) fun e w'' => e = .returned (.bool true) ∧ ∃ p' : Regrown, w'' = Sort.grow (redrawn w p'.d) p'.os :=
  Calls.regrown_of (eqCounter_any d l c _)
theorem grownReal {x y : Nat} {w : World} (h : SameV x y) (hx : x < 2 ^ 64) (n : Nat) (os : Array Obj) :
    Calls Tryd.prog 9 #[.float .f64 x, .float .f64 y] (Sort.grow (redrawn w n) os) fun e w'' => e = .returned (.bool true) ∧ ∃ p' : Regrown, w'' = Sort.grow (redrawn w p'.d) p'.os :=
  Calls.regrown_of ((sameFloat_any x y _ h hx).mono fun _ _ ⟨a, b⟩ => ⟨a, b ▸ Below.refl _ _⟩)

set_option maxHeartbeats 1000000 in
theorem eqT_any (m : Mm) (w : World) :
    Calls Tryd.prog 21 #[.agg m.tArr, .agg m.tArr] w fun e w' => e = .returned (.bool true) ∧ Below w.heap.size w w' := by
  go_enter Tryd.func21, Tryd.ntmps21
  go_wp2
  have HB0 : Hid (Below w.heap.size w ((w.alloc (.cells m.tArr 41)).alloc (.cells m.tArr 41))) := ((Below.refl _ _).alloc (Nat.le_refl _) _).alloc (by simp) _
  have HI0 : Hid (RowAt ((w.alloc (.cells m.tArr 41)).alloc (.cells m.tArr 41)) w.heap.size 41 32 m.tcell) := (RowAt.new w _ 32 m.tcell).alloc _
  have HJ0 : Hid (RowAt ((w.alloc (.cells m.tArr 41)).alloc (.cells m.tArr 41)) (w.heap.size + 1) 41 32 m.tcell) := by
    have := RowAt.new (w.alloc (.cells m.tArr 41)) 41 32 m.tcell
    rw [show (w.alloc (.cells m.tArr 41)).heap.size = w.heap.size + 1 by simp] at this
    exact this
  generalize ((w.alloc (.cells m.tArr 41)).alloc (.cells m.tArr 41)) = V at *
  go_loopw [5] (fun c w' => ∃ j : Nat, j ≤ 16 ∧ c = .int .i64 (j : Int) ∧ Hid (Below w.heap.size w w') ∧ Hid (RowAt w' w.heap.size 41 32 m.tcell) ∧ Hid (RowAt w' (w.heap.size + 1) 41 32 m.tcell)) (fun c _ => 16 - (intOf c).toNat)
  case atStart => exact ⟨0, by omega, rfl, HB0, HI0, HJ0⟩
  case round =>
    obtain ⟨j, hj, rfl, HBr, HIr, HJr⟩ := hrel
    rename_i wr
    clear HB0 HI0 HJ0
    by_cases hlt : j < 16
    · have hlt' : (j : Int) < 16 := by omega
      have c0 := HIr.out.cell (i := j * 2) (by omega)
      rw [Mm.tcell_d] at c0
      have d0 := HJr.out.cell (i := j * 2) (by omega)
      rw [Mm.tcell_d] at d0
      have c1 := HIr.out.cell (i := j * 2 + 1) (by omega)
      rw [Mm.tcell_c] at c1
      have d1 := HJr.out.cell (i := j * 2 + 1) (by omega)
      rw [Mm.tcell_c] at d1
      have k0 := cell_regrown c0
      have q0 := cell_regrown d0
      have k1 := cell_regrown c1
      have q1 := cell_regrown d1
      go_wp2
      refine wp_region_quiet_below (by kernel_rfl) (by kernel_rfl) ?_
      repeat (first | go_big_quiet_step (exact grownTimer _ _) | quiet_step (exact grownTimer _ _))
      refine wpQuiet_nil ?_
      intro _ hw'
      obtain ⟨⟨dq, osq⟩, hw''⟩ := hw'
      subst hw''
      have HBq : Hid (Below w.heap.size w (Sort.grow (redrawn wr dq) osq)) := HBr.out.trans ((below_regrown _ dq osq).mono HBr.out.size)
      have HIq : Hid (RowAt (Sort.grow (redrawn wr dq) osq) w.heap.size 41 32 m.tcell) := HIr.out.to (below_regrown _ dq osq)
      have HJq : Hid (RowAt (Sort.grow (redrawn wr dq) osq) (w.heap.size + 1) 41 32 m.tcell) := HJr.out.to (below_regrown _ dq osq)
      clear k0 q0 c0 d0 k1 q1 c1 d1
      generalize Sort.grow (redrawn wr dq) osq = wq at *
      go_wp2
      exact ⟨⟨j + 1, by omega, by go_num, HBq, HIq, HJq⟩, by simp [intOf]; omega⟩
    · obtain rfl : j = 16 := by omega
      go_wp2
      go_ret
      exact ⟨rfl, HBr.out⟩

set_option maxHeartbeats 1000000 in
theorem eqC_any (m : Mm) (w : World) :
    Calls Tryd.prog 22 #[.agg m.cArr, .agg m.cArr] w fun e w' => e = .returned (.bool true) ∧ Below w.heap.size w w' := by
  go_enter Tryd.func22, Tryd.ntmps22
  go_wp2
  have HB0 : Hid (Below w.heap.size w ((w.alloc (.cells m.cArr 43)).alloc (.cells m.cArr 43))) := ((Below.refl _ _).alloc (Nat.le_refl _) _).alloc (by simp) _
  have HI0 : Hid (RowAt ((w.alloc (.cells m.cArr 43)).alloc (.cells m.cArr 43)) w.heap.size 43 48 m.ccell) := (RowAt.new w _ 48 m.ccell).alloc _
  have HJ0 : Hid (RowAt ((w.alloc (.cells m.cArr 43)).alloc (.cells m.cArr 43)) (w.heap.size + 1) 43 48 m.ccell) := by
    have := RowAt.new (w.alloc (.cells m.cArr 43)) 43 48 m.ccell
    rw [show (w.alloc (.cells m.cArr 43)).heap.size = w.heap.size + 1 by simp] at this
    exact this
  generalize ((w.alloc (.cells m.cArr 43)).alloc (.cells m.cArr 43)) = V at *
  go_loopw [5] (fun c w' => ∃ j : Nat, j ≤ 16 ∧ c = .int .i64 (j : Int) ∧ Hid (Below w.heap.size w w') ∧ Hid (RowAt w' w.heap.size 43 48 m.ccell) ∧ Hid (RowAt w' (w.heap.size + 1) 43 48 m.ccell)) (fun c _ => 16 - (intOf c).toNat)
  case atStart => exact ⟨0, by omega, rfl, HB0, HI0, HJ0⟩
  case round =>
    obtain ⟨j, hj, rfl, HBr, HIr, HJr⟩ := hrel
    rename_i wr
    clear HB0 HI0 HJ0
    by_cases hlt : j < 16
    · have hlt' : (j : Int) < 16 := by omega
      have c0 := HIr.out.cell (i := j * 3) (by omega)
      rw [Mm.ccell_d] at c0
      have d0 := HJr.out.cell (i := j * 3) (by omega)
      rw [Mm.ccell_d] at d0
      have c1 := HIr.out.cell (i := j * 3 + 1) (by omega)
      rw [Mm.ccell_l] at c1
      have d1 := HJr.out.cell (i := j * 3 + 1) (by omega)
      rw [Mm.ccell_l] at d1
      have c2 := HIr.out.cell (i := j * 3 + 2) (by omega)
      rw [Mm.ccell_c] at c2
      have d2 := HJr.out.cell (i := j * 3 + 2) (by omega)
      rw [Mm.ccell_c] at d2
      have k0 := cell_regrown c0
      have q0 := cell_regrown d0
      have k1 := cell_regrown c1
      have q1 := cell_regrown d1
      have k2 := cell_regrown c2
      have q2 := cell_regrown d2
      go_wp2
      refine wp_region_quiet_below (by kernel_rfl) (by kernel_rfl) ?_
      repeat (first | go_big_quiet_step (exact grownCounter _ _) | quiet_step (exact grownCounter _ _))
      refine wpQuiet_nil ?_
      intro _ hw'
      obtain ⟨⟨dq, osq⟩, hw''⟩ := hw'
      subst hw''
      have HBq : Hid (Below w.heap.size w (Sort.grow (redrawn wr dq) osq)) := HBr.out.trans ((below_regrown _ dq osq).mono HBr.out.size)
      have HIq : Hid (RowAt (Sort.grow (redrawn wr dq) osq) w.heap.size 43 48 m.ccell) := HIr.out.to (below_regrown _ dq osq)
      have HJq : Hid (RowAt (Sort.grow (redrawn wr dq) osq) (w.heap.size + 1) 43 48 m.ccell) := HJr.out.to (below_regrown _ dq osq)
      clear k0 q0 c0 d0 k1 q1 c1 d1 k2 q2 c2 d2
      generalize Sort.grow (redrawn wr dq) osq = wq at *
      go_wp2
      exact ⟨⟨j + 1, by omega, by go_num, HBq, HIq, HJq⟩, by simp [intOf]; omega⟩
    · obtain rfl : j = 16 := by omega
      go_wp2
      go_ret
      exact ⟨rfl, HBr.out⟩

set_option maxHeartbeats 1000000 in
theorem eqD_any (m : Mm) (w : World) :
    Calls Tryd.prog 23 #[.agg m.dArr, .agg m.dArr] w fun e w' => e = .returned (.bool true) ∧ Below w.heap.size w w' := by
  go_enter Tryd.func23, Tryd.ntmps23
  go_wp2
  have HB0 : Hid (Below w.heap.size w ((w.alloc (.cells m.dArr 32)).alloc (.cells m.dArr 32))) := ((Below.refl _ _).alloc (Nat.le_refl _) _).alloc (by simp) _
  have HI0 : Hid (RowAt ((w.alloc (.cells m.dArr 32)).alloc (.cells m.dArr 32)) w.heap.size 32 32 m.dcell) := (RowAt.new w _ 32 m.dcell).alloc _
  have HJ0 : Hid (RowAt ((w.alloc (.cells m.dArr 32)).alloc (.cells m.dArr 32)) (w.heap.size + 1) 32 32 m.dcell) := by
    have := RowAt.new (w.alloc (.cells m.dArr 32)) 32 32 m.dcell
    rw [show (w.alloc (.cells m.dArr 32)).heap.size = w.heap.size + 1 by simp] at this
    exact this
  generalize ((w.alloc (.cells m.dArr 32)).alloc (.cells m.dArr 32)) = V at *
  go_loopw [5] (fun c w' => ∃ j : Nat, j ≤ 32 ∧ c = .int .i64 (j : Int) ∧ Hid (Below w.heap.size w w') ∧ Hid (RowAt w' w.heap.size 32 32 m.dcell) ∧ Hid (RowAt w' (w.heap.size + 1) 32 32 m.dcell)) (fun c _ => 32 - (intOf c).toNat)
  case atStart => exact ⟨0, by omega, rfl, HB0, HI0, HJ0⟩
  case round =>
    obtain ⟨j, hj, rfl, HBr, HIr, HJr⟩ := hrel
    rename_i wr
    clear HB0 HI0 HJ0
    by_cases hlt : j < 32
    · have hlt' : (j : Int) < 32 := by omega
      have c0 := HIr.out.cell (i := j) (by omega)
      rw [Mm.dcell] at c0
      have d0 := HJr.out.cell (i := j) (by omega)
      rw [Mm.dcell] at d0
      have k0 := cell_regrown c0
      have q0 := cell_regrown d0
      go_wp2
      refine wp_region_quiet_below (by kernel_rfl) (by kernel_rfl) ?_
      repeat (first | go_big_quiet_step (fail) | quiet_step (fail))
      refine wpQuiet_nil ?_
      intro _ hw'
      obtain ⟨⟨dq, osq⟩, hw''⟩ := hw'
      subst hw''
      have HBq : Hid (Below w.heap.size w (Sort.grow (redrawn wr dq) osq)) := HBr.out.trans ((below_regrown _ dq osq).mono HBr.out.size)
      have HIq : Hid (RowAt (Sort.grow (redrawn wr dq) osq) w.heap.size 32 32 m.dcell) := HIr.out.to (below_regrown _ dq osq)
      have HJq : Hid (RowAt (Sort.grow (redrawn wr dq) osq) (w.heap.size + 1) 32 32 m.dcell) := HJr.out.to (below_regrown _ dq osq)
      clear k0 q0 c0 d0
      generalize Sort.grow (redrawn wr dq) osq = wq at *
      go_wp2
      exact ⟨⟨j + 1, by omega, by go_num, HBq, HIq, HJq⟩, by simp [intOf]; omega⟩
    · obtain rfl : j = 32 := by omega
      go_wp2
      go_ret
      exact ⟨rfl, HBr.out⟩

set_option maxHeartbeats 1000000 in
theorem eqR_any (m : Mm) (r2 : Nat → Nat) (hs : ∀ i, i < 16 → SameV (m.r i) (r2 i)) (hr : ∀ i, m.r i < 2 ^ 64) (w : World) :
    Calls Tryd.prog 24 #[.agg m.rArr, .agg (m.withR r2).rArr] w fun e w' => e = .returned (.bool true) ∧ Below w.heap.size w w' := by
  have HV : Hid (∀ i, i < 16 → SameV (m.r i) (r2 i)) := hs
  have HX : Hid (∀ i, m.r i < 2 ^ 64) := hr
  clear hs hr
  go_enter Tryd.func24, Tryd.ntmps24
  go_wp2
  have HB0 : Hid (Below w.heap.size w ((w.alloc (.cells m.rArr 34)).alloc (.cells (m.withR r2).rArr 34))) := ((Below.refl _ _).alloc (Nat.le_refl _) _).alloc (by simp) _
  have HI0 : Hid (RowAt ((w.alloc (.cells m.rArr 34)).alloc (.cells (m.withR r2).rArr 34)) w.heap.size 34 16 m.rcell) := (RowAt.new w _ 16 m.rcell).alloc _
  have HJ0 : Hid (RowAt ((w.alloc (.cells m.rArr 34)).alloc (.cells (m.withR r2).rArr 34)) (w.heap.size + 1) 34 16 (m.withR r2).rcell) := by
    have := RowAt.new (w.alloc (.cells m.rArr 34)) 34 16 (m.withR r2).rcell
    rw [show (w.alloc (.cells m.rArr 34)).heap.size = w.heap.size + 1 by simp] at this
    exact this
  generalize ((w.alloc (.cells m.rArr 34)).alloc (.cells (m.withR r2).rArr 34)) = V at *
  go_loopw [5] (fun c w' => ∃ j : Nat, j ≤ 16 ∧ c = .int .i64 (j : Int) ∧ Hid (Below w.heap.size w w') ∧ Hid (RowAt w' w.heap.size 34 16 m.rcell) ∧ Hid (RowAt w' (w.heap.size + 1) 34 16 (m.withR r2).rcell)) (fun c _ => 16 - (intOf c).toNat)
  case atStart => exact ⟨0, by omega, rfl, HB0, HI0, HJ0⟩
  case round =>
    obtain ⟨j, hj, rfl, HBr, HIr, HJr⟩ := hrel
    rename_i wr
    clear HB0 HI0 HJ0
    by_cases hlt : j < 16
    · have hlt' : (j : Int) < 16 := by omega
      have c0 := HIr.out.cell (i := j) (by omega)
      rw [Mm.rcell] at c0
      have d0 := HJr.out.cell (i := j) (by omega)
      rw [Mm.rcell] at d0
      rw [show (m.withR r2).r j = r2 j from rfl] at d0
      have hv : SameV (m.r j) (r2 j) := HV.out j hlt
      have hx : m.r j < 2 ^ 64 := HX.out j
      generalize m.r j = x at *
      generalize r2 j = y at *
      have HG : Hid (∀ (n : Nat) (os : Array Obj), Calls Tryd.prog 9 #[.float .f64 x, .float .f64 y] (Sort.grow (redrawn wr n) os) fun e w'' => e = .returned (.bool true) ∧ ∃ p' : Regrown, w'' = Sort.grow (redrawn wr p'.d) p'.os) := fun n os => grownReal hv hx n os
      clear hv hx
      have k0 := cell_regrown c0
      have q0 := cell_regrown d0
      go_wp2
      refine wp_region_quiet_below (by kernel_rfl) (by kernel_rfl) ?_
      repeat (first | go_big_quiet_step (exact HG.out _ _) | quiet_step (exact HG.out _ _))
      refine wpQuiet_nil ?_
      intro _ hw'
      obtain ⟨⟨dq, osq⟩, hw''⟩ := hw'
      subst hw''
      have HBq : Hid (Below w.heap.size w (Sort.grow (redrawn wr dq) osq)) := HBr.out.trans ((below_regrown _ dq osq).mono HBr.out.size)
      have HIq : Hid (RowAt (Sort.grow (redrawn wr dq) osq) w.heap.size 34 16 m.rcell) := HIr.out.to (below_regrown _ dq osq)
      have HJq : Hid (RowAt (Sort.grow (redrawn wr dq) osq) (w.heap.size + 1) 34 16 (m.withR r2).rcell) := HJr.out.to (below_regrown _ dq osq)
      clear k0 q0 c0 d0
      generalize Sort.grow (redrawn wr dq) osq = wq at *
      go_wp2
      exact ⟨⟨j + 1, by omega, by go_num, HBq, HIq, HJq⟩, by simp [intOf]; omega⟩
    · obtain rfl : j = 16 := by omega
      go_wp2
      go_ret
      exact ⟨rfl, HBr.out⟩

set_option maxHeartbeats 1000000 in
set_option maxRecDepth 10000 in
theorem eqMem_any (m : Mm) (r2 : Nat → Nat) (hs : ∀ i, i < 16 → SameV (m.r i) (r2 i)) (hr : ∀ i, m.r i < 2 ^ 64) (w : World) :
    Calls Tryd.prog 12 #[m.val, (m.withR r2).val] w fun e w' => e = .returned (.bool true) ∧ Below w.heap.size w w' := by
  have HV : Hid (∀ i, i < 16 → SameV (m.r i) (r2 i)) := hs
  have HX : Hid (∀ i, m.r i < 2 ^ 64) := hr
  have hb1 : (m.ran != m.ran) = false := by cases m.ran <;> rfl
  have hb2 : (m.fault != m.fault) = false := by cases m.fault <;> rfl
  clear hs hr
  unfold Mm.val
  go_enter Tryd.func12, Tryd.ntmps12
  go_upto_region 1 with fail
  have HB : Hid (Below w.heap.size w ((w.alloc (.cells m.cells 45)).alloc (.cells (m.withR r2).cells 45))) := ((Below.refl _ _).alloc (Nat.le_refl _) _).alloc (by simp) _
  have HI : Hid (RowAt ((w.alloc (.cells m.cells 45)).alloc (.cells (m.withR r2).cells 45)) w.heap.size 45 136 m.cell) := (RowAt.new w _ 136 m.cell).alloc _
  have HJ : Hid (RowAt ((w.alloc (.cells m.cells 45)).alloc (.cells (m.withR r2).cells 45)) (w.heap.size + 1) 45 136 (m.withR r2).cell) := by
    have := RowAt.new (w.alloc (.cells m.cells 45)) 45 136 (m.withR r2).cell
    rw [show (w.alloc (.cells m.cells 45)).heap.size = w.heap.size + 1 by simp] at this
    exact this
  generalize ((w.alloc (.cells m.cells 45)).alloc (.cells (m.withR r2).cells 45)) = V at *
  have i0 : World.cell? V ⟨w.heap.size, 0, none⟩ = some (.int .u32 m.x) := HI.out.cell (i := 0) (by omega)
  have j0 : World.cell? V ⟨w.heap.size + 1, 0, none⟩ = some (.int .u32 m.x) := HJ.out.cell (i := 0) (by omega)
  have i1 : World.cell? V ⟨w.heap.size, 1, none⟩ = some (.int .u32 m.y) := HI.out.cell (i := 1) (by omega)
  have j1 : World.cell? V ⟨w.heap.size + 1, 1, none⟩ = some (.int .u32 m.y) := HJ.out.cell (i := 1) (by omega)
  have i2 : World.cell? V ⟨w.heap.size, 2, none⟩ = some (.int .u64 m.m) := HI.out.cell (i := 2) (by omega)
  have j2 : World.cell? V ⟨w.heap.size + 1, 2, none⟩ = some (.int .u64 m.m) := HJ.out.cell (i := 2) (by omega)
  have i3 : World.cell? V ⟨w.heap.size, 3, none⟩ = some (.int .u16 m.s) := HI.out.cell (i := 3) (by omega)
  have j3 : World.cell? V ⟨w.heap.size + 1, 3, none⟩ = some (.int .u16 m.s) := HJ.out.cell (i := 3) (by omega)
  have i4 : World.cell? V ⟨w.heap.size, 4, none⟩ = some (.int .u32 m.e) := HI.out.cell (i := 4) (by omega)
  have j4 : World.cell? V ⟨w.heap.size + 1, 4, none⟩ = some (.int .u32 m.e) := HJ.out.cell (i := 4) (by omega)
  go_wp2_with (first
    | refine wpList_rowLoad rfl 41 (.tmp 30) rfl _ 5 32 m.tcell rfl HI.out (by omega) (fun i hi => m.cell_t hi) Tryd.underlying41 rfl (by kernel_rfl) ?_
    | refine wpList_rowLoad rfl 41 (.tmp 32) rfl _ 5 32 m.tcell rfl HJ.out (by omega) (fun i hi => (m.withR r2).cell_t hi) Tryd.underlying41 rfl (by kernel_rfl) ?_)
  refine (eqT_any m _).mono ?_
  rintro e w0a ⟨rfl, hb0a⟩
  have HB0a : Hid (Below w.heap.size w w0a) := HB.out.trans (hb0a.mono HB.out.size)
  have HI0a : Hid (RowAt w0a w.heap.size 45 136 m.cell) := HI.out.to hb0a
  have HJ0a : Hid (RowAt w0a (w.heap.size + 1) 45 136 (m.withR r2).cell) := HJ.out.to hb0a
  clear hb0a HB HI HJ i0 j0 i1 j1 i2 j2 i3 j3 i4 j4 
  go_wp2_with (first
    | refine wpList_rowLoad rfl 43 (.tmp 36) rfl _ 37 48 m.ccell rfl HI0a.out (by omega) (fun i hi => m.cell_c hi) Tryd.underlying43 rfl (by kernel_rfl) ?_
    | refine wpList_rowLoad rfl 43 (.tmp 38) rfl _ 37 48 m.ccell rfl HJ0a.out (by omega) (fun i hi => (m.withR r2).cell_c hi) Tryd.underlying43 rfl (by kernel_rfl) ?_)
  refine (eqC_any m _).mono ?_
  rintro e w1a ⟨rfl, hb1a⟩
  have HB1a : Hid (Below w.heap.size w w1a) := HB0a.out.trans (hb1a.mono HB0a.out.size)
  have HI1a : Hid (RowAt w1a w.heap.size 45 136 m.cell) := HI0a.out.to hb1a
  have HJ1a : Hid (RowAt w1a (w.heap.size + 1) 45 136 (m.withR r2).cell) := HJ0a.out.to hb1a
  clear hb1a HB0a HI0a HJ0a 
  go_wp2_with (first
    | refine wpList_rowLoad rfl 32 (.tmp 42) rfl _ 85 32 m.dcell rfl HI1a.out (by omega) (fun i hi => m.cell_d hi) Tryd.underlying32 rfl (by kernel_rfl) ?_
    | refine wpList_rowLoad rfl 32 (.tmp 44) rfl _ 85 32 m.dcell rfl HJ1a.out (by omega) (fun i hi => (m.withR r2).cell_d hi) Tryd.underlying32 rfl (by kernel_rfl) ?_)
  refine (eqD_any m _).mono ?_
  rintro e w2a ⟨rfl, hb2a⟩
  have HB2a : Hid (Below w.heap.size w w2a) := HB1a.out.trans (hb2a.mono HB1a.out.size)
  have HI2a : Hid (RowAt w2a w.heap.size 45 136 m.cell) := HI1a.out.to hb2a
  have HJ2a : Hid (RowAt w2a (w.heap.size + 1) 45 136 (m.withR r2).cell) := HJ1a.out.to hb2a
  clear hb2a HB1a HI1a HJ1a 
  go_wp2_with (first
    | refine wpList_rowLoad rfl 34 (.tmp 48) rfl _ 117 16 m.rcell rfl HI2a.out (by omega) (fun i hi => m.cell_r hi) Tryd.underlying34 rfl (by kernel_rfl) ?_
    | refine wpList_rowLoad rfl 34 (.tmp 50) rfl _ 117 16 (m.withR r2).rcell rfl HJ2a.out (by omega) (fun i hi => (m.withR r2).cell_r hi) Tryd.underlying34 rfl (by kernel_rfl) ?_)
  refine (eqR_any m r2 HV.out HX.out _).mono ?_
  rintro e w3a ⟨rfl, hb3a⟩
  have HB3a : Hid (Below w.heap.size w w3a) := HB2a.out.trans (hb3a.mono HB2a.out.size)
  have HI3a : Hid (RowAt w3a w.heap.size 45 136 m.cell) := HI2a.out.to hb3a
  have HJ3a : Hid (RowAt w3a (w.heap.size + 1) 45 136 (m.withR r2).cell) := HJ2a.out.to hb3a
  clear hb3a HB2a HI2a HJ2a 
  have i1333a : World.cell? w3a ⟨w.heap.size, 133, none⟩ = some (.int .u32 m.time) := HI3a.out.cell (i := 133) (by omega)
  have j1333a : World.cell? w3a ⟨w.heap.size + 1, 133, none⟩ = some (.int .u32 m.time) := HJ3a.out.cell (i := 133) (by omega)
  have i1343a : World.cell? w3a ⟨w.heap.size, 134, none⟩ = some (.bool m.ran) := HI3a.out.cell (i := 134) (by omega)
  have j1343a : World.cell? w3a ⟨w.heap.size + 1, 134, none⟩ = some (.bool m.ran) := HJ3a.out.cell (i := 134) (by omega)
  have i1353a : World.cell? w3a ⟨w.heap.size, 135, none⟩ = some (.bool m.fault) := HI3a.out.cell (i := 135) (by omega)
  have j1353a : World.cell? w3a ⟨w.heap.size + 1, 135, none⟩ = some (.bool m.fault) := HJ3a.out.cell (i := 135) (by omega)
  go_wp2
  go_ret
  exact ⟨rfl, HB3a.out⟩
end Go.Proofs.YtljhpagpohihcabDoor
