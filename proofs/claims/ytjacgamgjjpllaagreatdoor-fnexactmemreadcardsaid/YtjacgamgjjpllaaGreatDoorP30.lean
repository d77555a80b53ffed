/- Two memories held against each other in the exact laws. Helper text: no statement is claimed here. -/
import Derived.Test.YtjacgamgjjpllaaGreatDoorP06
import Derived.Test.YtjacgamgjjpllaaGreatDoorP29
import Derived.Lib.QuietBelow
import Derived.BigQuiet
import Derived.Deep.Cut
import Derived.Test.YtjacgamgjjpllaaGreatDoorP08
import Derived.Test.YtjacgamgjjpllaaGreatDoorP05
namespace Go.Proofs.YtjacgamgjjpllaaGreatDoor
open Go.ChangeShapes Go.WideShapes Go.ChangeAt Go.RowKit Fl

/-- The same memory with other real registers. -/
def Mm.withR (m : Mm) (r2 : Nat → Nat) : Mm := { m with r := r2 }
theorem eqTimer_any (d : Bool) (c : Int) (w : World) :
    Calls Tryz.prog 64 #[.agg #[.bool d, .int .u16 c], .agg #[.bool d, .int .u16 c]] w fun e w' => e = .returned (.bool true) ∧ Below w.heap.size w w' := by
  have hd : (d != d) = false := by cases d <;> rfl
  go_enter Tryz.func64, Tryz.ntmps64
  go_wp2
  go_ret
  exact ⟨rfl, ((Below.refl _ _).alloc (Nat.le_refl _) _).alloc (by simp) _⟩
theorem eqCounter_any (d l : Bool) (c : Int) (w : World) :
    Calls Tryz.prog 65 #[.agg #[.bool d, .bool l, .int .u16 c], .agg #[.bool d, .bool l, .int .u16 c]] w fun e w' => e = .returned (.bool true) ∧ Below w.heap.size w w' := by
  have hd : (d != d) = false := by cases d <;> rfl
  have hl : (l != l) = false := by cases l <;> rfl
  go_enter Tryz.func65, Tryz.ntmps65
  go_wp2
  go_ret
  exact ⟨rfl, ((Below.refl _ _).alloc (Nat.le_refl _) _).alloc (by simp) _⟩
theorem grownTimer {d : Bool} {c : Int} {w : World} (n : Nat) (os : Array Obj) :
    Calls Tryz.prog 64 #[.agg #[.bool d, .int .u16 c], .agg #[.bool d, .int .u16 c]] (Sort.grow (redrawn w n) os) fun e w'' => e = .returned (.bool true) ∧ ∃ p' : Regrown, w'' = Sort.grow (redrawn w p'.d) p'.os :=
  Calls.regrown_of (eqTimer_any d c _)
theorem grownCounter {d l : Bool} {c : Int} {w : World} (n : Nat) (os : Array Obj) :
    Calls Tryz.prog 65 #[.agg #[.bool d, .bool l, .int .u16 c], .agg #[.bool d, .bool l, .int .u16 c]] (Sort.grow (redrawn w n) os) fun e w'' => e = .returned (.bool true) ∧ ∃ p' : Regrown, w'' = Sort.grow (redrawn w p'.d) p'.os :=
  Calls.regrown_of (eqCounter_any d l c _)
theorem grownReal {x y : Nat} {w : World} (h : SameV x y) (hx : x < 2 ^ 64) (n : Nat) (os : Array Obj) :
    Calls Tryz.prog 66 #[.float .f64 x, .float .f64 y] (Sort.grow (redrawn w n) os) fun e w'' => e = .returned (.bool true) ∧ ∃ p' : Regrown, w'' = Sort.grow (redrawn w p'.d) p'.os :=
  Calls.regrown_of ((sameFloat_any x y _ h hx).mono fun _ _ ⟨a, b⟩ => ⟨a, b ▸ Below.refl _ _⟩)

set_option maxHeartbeats 1000000 in
theorem eqT_any (m : Mm) (w : World) :
    Calls Tryz.prog 26 #[.agg m.tArr, .agg m.tArr] w fun e w' => e = .returned (.bool true) ∧ Below w.heap.size w w' := by
  go_enter Tryz.func26, Tryz.ntmps26
  go_wp2
  have HB0 : Hid (Below w.heap.size w ((w.alloc (.cells m.tArr 28)).alloc (.cells m.tArr 28))) := ((Below.refl _ _).alloc (Nat.le_refl _) _).alloc (by simp) _
  have HI0 : Hid (RowAt ((w.alloc (.cells m.tArr 28)).alloc (.cells m.tArr 28)) w.heap.size 28 32 m.tcell) := (RowAt.new w _ 32 m.tcell).alloc _
  have HJ0 : Hid (RowAt ((w.alloc (.cells m.tArr 28)).alloc (.cells m.tArr 28)) (w.heap.size + 1) 28 32 m.tcell) := by
    have := RowAt.new (w.alloc (.cells m.tArr 28)) 28 32 m.tcell
    rw [show (w.alloc (.cells m.tArr 28)).heap.size = w.heap.size + 1 by simp] at this
    exact this
  generalize ((w.alloc (.cells m.tArr 28)).alloc (.cells m.tArr 28)) = V at *
  go_loopw [5] (fun c w' => ∃ j : Nat, j ≤ 16 ∧ c = .int .i64 (j : Int) ∧ Hid (Below w.heap.size w w') ∧ Hid (RowAt w' w.heap.size 28 32 m.tcell) ∧ Hid (RowAt w' (w.heap.size + 1) 28 32 m.tcell)) (fun c _ => 16 - (intOf c).toNat)
  case atStart => exact ⟨0, by omega, rfl, HB0, HI0, HJ0⟩
  case round =>
    obtain ⟨j, hj, rfl, HBr, HIr, HJr⟩ := hrel
    rename_i wr
    clear HB0 HI0 HJ0
    by_cases hlt : j < 16
    · have hlt' : (j : Int) < 16 := by omega
      have c0 := HIr.out.cell (i := j * 2) (by omega)
      rw [Mm.tcell_d] at c0
      have d0 := HJr.out.cell (i := j * 2) (by omega)
      rw [Mm.tcell_d] at d0
      have c1 := HIr.out.cell (i := j * 2 + 1) (by omega)
      rw [Mm.tcell_c] at c1
      have d1 := HJr.out.cell (i := j * 2 + 1) (by omega)
      rw [Mm.tcell_c] at d1
      have k0 := cell_regrown c0
      have q0 := cell_regrown d0
      have k1 := cell_regrown c1
      have q1 := cell_regrown d1
      go_wp2
      refine wp_region_quiet_below (by kernel_rfl) (by kernel_rfl) ?_
      repeat (first | go_big_quiet_step (exact grownTimer _ _) | quiet_step (exact grownTimer _ _))
      refine wpQuiet_nil ?_
      intro _ hw'
      obtain ⟨⟨dq, osq⟩, hw''⟩ := hw'
      subst hw''
      have HBq : Hid (Below w.heap.size w (Sort.grow (redrawn wr dq) osq)) := HBr.out.trans ((below_regrown _ dq osq).mono HBr.out.size)
      have HIq : Hid (RowAt (Sort.grow (redrawn wr dq) osq) w.heap.size 28 32 m.tcell) := HIr.out.to (below_regrown _ dq osq)
      have HJq : Hid (RowAt (Sort.grow (redrawn wr dq) osq) (w.heap.size + 1) 28 32 m.tcell) := HJr.out.to (below_regrown _ dq osq)
      clear k0 q0 c0 d0 k1 q1 c1 d1
      generalize Sort.grow (redrawn wr dq) osq = wq at *
      go_wp2
      exact ⟨⟨j + 1, by omega, by go_num, HBq, HIq, HJq⟩, by simp [intOf]; omega⟩
    · obtain rfl : j = 16 := by omega
      go_wp2
      go_ret
      exact ⟨rfl, HBr.out⟩

set_option maxHeartbeats 1000000 in
theorem eqC_any (m : Mm) (w : World) :
    Calls Tryz.prog 27 #[.agg m.cArr, .agg m.cArr] w fun e w' => e = .returned (.bool true) ∧ Below w.heap.size w w' := by
  go_enter Tryz.func27, Tryz.ntmps27
  go_wp2
  have HB0 : Hid (Below w.heap.size w ((w.alloc (.cells m.cArr 31)).alloc (.cells m.cArr 31))) := ((Below.refl _ _).alloc (Nat.le_refl _) _).alloc (by simp) _
  have HI0 : Hid (RowAt ((w.alloc (.cells m.cArr 31)).alloc (.cells m.cArr 31)) w.heap.size 31 48 m.ccell) := (RowAt.new w _ 48 m.ccell).alloc _
  have HJ0 : Hid (RowAt ((w.alloc (.cells m.cArr 31)).alloc (.cells m.cArr 31)) (w.heap.size + 1) 31 48 m.ccell) := by
    have := RowAt.new (w.alloc (.cells m.cArr 31)) 31 48 m.ccell
    rw [show (w.alloc (.cells m.cArr 31)).heap.size = w.heap.size + 1 by simp] at this
    exact this
  generalize ((w.alloc (.cells m.cArr 31)).alloc (.cells m.cArr 31)) = V at *
  go_loopw [5] (fun c w' => ∃ j : Nat, j ≤ 16 ∧ c = .int .i64 (j : Int) ∧ Hid (Below w.heap.size w w') ∧ Hid (RowAt w' w.heap.size 31 48 m.ccell) ∧ Hid (RowAt w' (w.heap.size + 1) 31 48 m.ccell)) (fun c _ => 16 - (intOf c).toNat)
  case atStart => exact ⟨0, by omega, rfl, HB0, HI0, HJ0⟩
  case round =>
    obtain ⟨j, hj, rfl, HBr, HIr, HJr⟩ := hrel
    rename_i wr
    clear HB0 HI0 HJ0
    by_cases hlt : j < 16
    · have hlt' : (j : Int) < 16 := by omega
      have c0 := HIr.out.cell (i := j * 3) (by omega)
      rw [Mm.ccell_d] at c0
      have d0 := HJr.out.cell (i := j * 3) (by omega)
      rw [Mm.ccell_d] at d0
      have c1 := HIr.out.cell (i := j * 3 + 1) (by omega)
      rw [Mm.ccell_l] at c1
      have d1 := HJr.out.cell (i := j * 3 + 1) (by omega)
      rw [Mm.ccell_l] at d1
      have c2 := HIr.out.cell (i := j * 3 + 2) (by omega)
      rw [Mm.ccell_c] at c2
      have d2 := HJr.out.cell (i := j * 3 + 2) (by omega)
      rw [Mm.ccell_c] at d2
      have k0 := cell_regrown c0
      have q0 := cell_regrown d0
      have k1 := cell_regrown c1
      have q1 := cell_regrown d1
      have k2 := cell_regrown c2
      have q2 := cell_regrown d2
      go_wp2
      refine wp_region_quiet_below (by kernel_rfl) (by kernel_rfl) ?_
      repeat (first | go_big_quiet_step (exact grownCounter _ _) | quiet_step (exact grownCounter _ _))
      refine wpQuiet_nil ?_
      intro _ hw'
      obtain ⟨⟨dq, osq⟩, hw''⟩ := hw'
      subst hw''
      have HBq : Hid (Below w.heap.size w (Sort.grow (redrawn wr dq) osq)) := HBr.out.trans ((below_regrown _ dq osq).mono HBr.out.size)
      have HIq : Hid (RowAt (Sort.grow (redrawn wr dq) osq) w.heap.size 31 48 m.ccell) := HIr.out.to (below_regrown _ dq osq)
      have HJq : Hid (RowAt (Sort.grow (redrawn wr dq) osq) (w.heap.size + 1) 31 48 m.ccell) := HJr.out.to (below_regrown _ dq osq)
      clear k0 q0 c0 d0 k1 q1 c1 d1 k2 q2 c2 d2
      generalize Sort.grow (redrawn wr dq) osq = wq at *
      go_wp2
      exact ⟨⟨j + 1, by omega, by go_num, HBq, HIq, HJq⟩, by simp [intOf]; omega⟩
    · obtain rfl : j = 16 := by omega
      go_wp2
      go_ret
      exact ⟨rfl, HBr.out⟩

set_option maxHeartbeats 1000000 in
theorem eqD_any (m : Mm) (w : World) :
    Calls Tryz.prog 28 #[.agg m.dArr, .agg m.dArr] w fun e w' => e = .returned (.bool true) ∧ Below w.heap.size w w' := by
  go_enter Tryz.func28, Tryz.ntmps28
  go_wp2
  have HB0 : Hid (Below w.heap.size w ((w.alloc (.cells m.dArr 33)).alloc (.cells m.dArr 33))) := ((Below.refl _ _).alloc (Nat.le_refl _) _).alloc (by simp) _
  have HI0 : Hid (RowAt ((w.alloc (.cells m.dArr 33)).alloc (.cells m.dArr 33)) w.heap.size 33 32 m.dcell) := (RowAt.new w _ 32 m.dcell).alloc _
  have HJ0 : Hid (RowAt ((w.alloc (.cells m.dArr 33)).alloc (.cells m.dArr 33)) (w.heap.size + 1) 33 32 m.dcell) := by
    have := RowAt.new (w.alloc (.cells m.dArr 33)) 33 32 m.dcell
    rw [show (w.alloc (.cells m.dArr 33)).heap.size = w.heap.size + 1 by simp] at this
    exact this
  generalize ((w.alloc (.cells m.dArr 33)).alloc (.cells m.dArr 33)) = V at *
  go_loopw [5] (fun c w' => ∃ j : Nat, j ≤ 32 ∧ c = .int .i64 (j : Int) ∧ Hid (Below w.heap.size w w') ∧ Hid (RowAt w' w.heap.size 33 32 m.dcell) ∧ Hid (RowAt w' (w.heap.size + 1) 33 32 m.dcell)) (fun c _ => 32 - (intOf c).toNat)
  case atStart => exact ⟨0, by omega, rfl, HB0, HI0, HJ0⟩
  case round =>
    obtain ⟨j, hj, rfl, HBr, HIr, HJr⟩ := hrel
    rename_i wr
    clear HB0 HI0 HJ0
    by_cases hlt : j < 32
    · have hlt' : (j : Int) < 32 := by omega
      have c0 := HIr.out.cell (i := j) (by omega)
      rw [Mm.dcell] at c0
      have d0 := HJr.out.cell (i := j) (by omega)
      rw [Mm.dcell] at d0
      have k0 := cell_regrown c0
      have q0 := cell_regrown d0
      go_wp2
      refine wp_region_quiet_below (by kernel_rfl) (by kernel_rfl) ?_
      repeat (first | go_big_quiet_step (fail) | quiet_step (fail))
      refine wpQuiet_nil ?_
      intro _ hw'
      obtain ⟨⟨dq, osq⟩, hw''⟩ := hw'
      subst hw''
      have HBq : Hid (Below w.heap.size w (Sort.grow (redrawn wr dq) osq)) := HBr.out.trans ((below_regrown _ dq osq).mono HBr.out.size)
      have HIq : Hid (RowAt (Sort.grow (redrawn wr dq) osq) w.heap.size 33 32 m.dcell) := HIr.out.to (below_regrown _ dq osq)
      have HJq : Hid (RowAt (Sort.grow (redrawn wr dq) osq) (w.heap.size + 1) 33 32 m.dcell) := HJr.out.to (below_regrown _ dq osq)
      clear k0 q0 c0 d0
      generalize Sort.grow (redrawn wr dq) osq = wq at *
      go_wp2
      exact ⟨⟨j + 1, by omega, by go_num, HBq, HIq, HJq⟩, by simp [intOf]; omega⟩
    · obtain rfl : j = 32 := by omega
      go_wp2
      go_ret
      exact ⟨rfl, HBr.out⟩

set_option maxHeartbeats 1000000 in
theorem eqR_any (m : Mm) (r2 : Nat → Nat) (hs : ∀ i, i < 16 → SameV (m.r i) (r2 i)) (hr : ∀ i, m.r i < 2 ^ 64) (w : World) :
    Calls Tryz.prog 29 #[.agg m.rArr, .agg (m.withR r2).rArr] w fun e w' => e = .returned (.bool true) ∧ Below w.heap.size w w' := by
  have HV : Hid (∀ i, i < 16 → SameV (m.r i) (r2 i)) := hs
  have HX : Hid (∀ i, m.r i < 2 ^ 64) := hr
  clear hs hr
  go_enter Tryz.func29, Tryz.ntmps29
  go_wp2
  have HB0 : Hid (Below w.heap.size w ((w.alloc (.cells m.rArr 35)).alloc (.cells (m.withR r2).rArr 35))) := ((Below.refl _ _).alloc (Nat.le_refl _) _).alloc (by simp) _
  have HI0 : Hid (RowAt ((w.alloc (.cells m.rArr 35)).alloc (.cells (m.withR r2).rArr 35)) w.heap.size 35 16 m.rcell) := (RowAt.new w _ 16 m.rcell).alloc _
  have HJ0 : Hid (RowAt ((w.alloc (.cells m.rArr 35)).alloc (.cells (m.withR r2).rArr 35)) (w.heap.size + 1) 35 16 (m.withR r2).rcell) := by
    have := RowAt.new (w.alloc (.cells m.rArr 35)) 35 16 (m.withR r2).rcell
    rw [show (w.alloc (.cells m.rArr 35)).heap.size = w.heap.size + 1 by simp] at this
    exact this
  generalize ((w.alloc (.cells m.rArr 35)).alloc (.cells (m.withR r2).rArr 35)) = V at *
  go_loopw [5] (fun c w' => ∃ j : Nat, j ≤ 16 ∧ c = .int .i64 (j : Int) ∧ Hid (Below w.heap.size w w') ∧ Hid (RowAt w' w.heap.size 35 16 m.rcell) ∧ Hid (RowAt w' (w.heap.size + 1) 35 16 (m.withR r2).rcell)) (fun c _ => 16 - (intOf c).toNat)
  case atStart => exact ⟨0, by omega, rfl, HB0, HI0, HJ0⟩
  case round =>
    obtain ⟨j, hj, rfl, HBr, HIr, HJr⟩ := hrel
    rename_i wr
    clear HB0 HI0 HJ0
    by_cases hlt : j < 16
    · have hlt' : (j : Int) < 16 := by omega
      have c0 := HIr.out.cell (i := j) (by omega)
      rw [Mm.rcell] at c0
      have d0 := HJr.out.cell (i := j) (by omega)
      rw [Mm.rcell] at d0
      rw [show (m.withR r2).r j = r2 j from rfl] at d0
      have hv : SameV (m.r j) (r2 j) := HV.out j hlt
      have hx : m.r j < 2 ^ 64 := HX.out j
      generalize m.r j = x at *
      generalize r2 j = y at *
      have HG : Hid (∀ (n : Nat) (os : Array Obj), Calls Tryz.prog 66 #[.float .f64 x, .float .f64 y] (Sort.grow (redrawn wr n) os) fun e w'' => e = .returned (.bool true) ∧ ∃ p' : Regrown, w'' = Sort.grow (redrawn wr p'.d) p'.os) := fun n os => grownReal hv hx n os
      clear hv hx
      have k0 := cell_regrown c0
      have q0 := cell_regrown d0
      go_wp2
      refine wp_region_quiet_below (by kernel_rfl) (by kernel_rfl) ?_
      repeat (first | go_big_quiet_step (exact HG.out _ _) | quiet_step (exact HG.out _ _))
      refine wpQuiet_nil ?_
      intro _ hw'
      obtain ⟨⟨dq, osq⟩, hw''⟩ := hw'
      subst hw''
      have HBq : Hid (Below w.heap.size w (Sort.grow (redrawn wr dq) osq)) := HBr.out.trans ((below_regrown _ dq osq).mono HBr.out.size)
      have HIq : Hid (RowAt (Sort.grow (redrawn wr dq) osq) w.heap.size 35 16 m.rcell) := HIr.out.to (below_regrown _ dq osq)
      have HJq : Hid (RowAt (Sort.grow (redrawn wr dq) osq) (w.heap.size + 1) 35 16 (m.withR r2).rcell) := HJr.out.to (below_regrown _ dq osq)
      clear k0 q0 c0 d0
      generalize Sort.grow (redrawn wr dq) osq = wq at *
      go_wp2
      exact ⟨⟨j + 1, by omega, by go_num, HBq, HIq, HJq⟩, by simp [intOf]; omega⟩
    · obtain rfl : j = 16 := by omega
      go_wp2
      go_ret
      exact ⟨rfl, HBr.out⟩

set_option maxHeartbeats 1000000 in
set_option maxRecDepth 10000 in
theorem eqMem_any (m : Mm) (r2 : Nat → Nat) (hs : ∀ i, i < 16 → SameV (m.r i) (r2 i)) (hr : ∀ i, m.r i < 2 ^ 64) (w : World) :
    Calls Tryz.prog 11 #[m.val, (m.withR r2).val] w fun e w' => e = .returned (.bool true) ∧ Below w.heap.size w w' := by
  have HV : Hid (∀ i, i < 16 → SameV (m.r i) (r2 i)) := hs
  have HX : Hid (∀ i, m.r i < 2 ^ 64) := hr
  have hb1 : (m.ran != m.ran) = false := by cases m.ran <;> rfl
  have hb2 : (m.fault != m.fault) = false := by cases m.fault <;> rfl
  clear hs hr
  unfold Mm.val
  go_enter Tryz.func11, Tryz.ntmps11
  go_upto_region 1 with fail
  have HB : Hid (Below w.heap.size w ((w.alloc (.cells m.cells 37)).alloc (.cells (m.withR r2).cells 37))) := ((Below.refl _ _).alloc (Nat.le_refl _) _).alloc (by simp) _
  have HI : Hid (RowAt ((w.alloc (.cells m.cells 37)).alloc (.cells (m.withR r2).cells 37)) w.heap.size 37 136 m.cell) := (RowAt.new w _ 136 m.cell).alloc _
  have HJ : Hid (RowAt ((w.alloc (.cells m.cells 37)).alloc (.cells (m.withR r2).cells 37)) (w.heap.size + 1) 37 136 (m.withR r2).cell) := by
    have := RowAt.new (w.alloc (.cells m.cells 37)) 37 136 (m.withR r2).cell
    rw [show (w.alloc (.cells m.cells 37)).heap.size = w.heap.size + 1 by simp] at this
    exact this
  generalize ((w.alloc (.cells m.cells 37)).alloc (.cells (m.withR r2).cells 37)) = V at *
  have i0 : World.cell? V ⟨w.heap.size, 0, none⟩ = some (.int .u32 m.x) := HI.out.cell (i := 0) (by omega)
  have j0 : World.cell? V ⟨w.heap.size + 1, 0, none⟩ = some (.int .u32 m.x) := HJ.out.cell (i := 0) (by omega)
  have i1 : World.cell? V ⟨w.heap.size, 1, none⟩ = some (.int .u32 m.y) := HI.out.cell (i := 1) (by omega)
  have j1 : World.cell? V ⟨w.heap.size + 1, 1, none⟩ = some (.int .u32 m.y) := HJ.out.cell (i := 1) (by omega)
  have i2 : World.cell? V ⟨w.heap.size, 2, none⟩ = some (.int .u64 m.m) := HI.out.cell (i := 2) (by omega)
  have j2 : World.cell? V ⟨w.heap.size + 1, 2, none⟩ = some (.int .u64 m.m) := HJ.out.cell (i := 2) (by omega)
  have i3 : World.cell? V ⟨w.heap.size, 3, none⟩ = some (.int .u16 m.s) := HI.out.cell (i := 3) (by omega)
  have j3 : World.cell? V ⟨w.heap.size + 1, 3, none⟩ = some (.int .u16 m.s) := HJ.out.cell (i := 3) (by omega)
  have i4 : World.cell? V ⟨w.heap.size, 4, none⟩ = some (.int .u32 m.e) := HI.out.cell (i := 4) (by omega)
  have j4 : World.cell? V ⟨w.heap.size + 1, 4, none⟩ = some (.int .u32 m.e) := HJ.out.cell (i := 4) (by omega)
  go_wp2_with (first
    | refine wpList_rowLoad rfl 28 (.tmp 30) rfl _ 5 32 m.tcell rfl HI.out (by omega) (fun i hi => m.cell_t hi) Tryz.underlying28 rfl (by kernel_rfl) ?_
    | refine wpList_rowLoad rfl 28 (.tmp 32) rfl _ 5 32 m.tcell rfl HJ.out (by omega) (fun i hi => (m.withR r2).cell_t hi) Tryz.underlying28 rfl (by kernel_rfl) ?_)
  refine (eqT_any m _).mono ?_
  rintro e w0a ⟨rfl, hb0a⟩
  have HB0a : Hid (Below w.heap.size w w0a) := HB.out.trans (hb0a.mono HB.out.size)
  have HI0a : Hid (RowAt w0a w.heap.size 37 136 m.cell) := HI.out.to hb0a
  have HJ0a : Hid (RowAt w0a (w.heap.size + 1) 37 136 (m.withR r2).cell) := HJ.out.to hb0a
  clear hb0a HB HI HJ i0 j0 i1 j1 i2 j2 i3 j3 i4 j4 
  go_wp2_with (first
    | refine wpList_rowLoad rfl 31 (.tmp 36) rfl _ 37 48 m.ccell rfl HI0a.out (by omega) (fun i hi => m.cell_c hi) Tryz.underlying31 rfl (by kernel_rfl) ?_
    | refine wpList_rowLoad rfl 31 (.tmp 38) rfl _ 37 48 m.ccell rfl HJ0a.out (by omega) (fun i hi => (m.withR r2).cell_c hi) Tryz.underlying31 rfl (by kernel_rfl) ?_)
  refine (eqC_any m _).mono ?_
  rintro e w1a ⟨rfl, hb1a⟩
  have HB1a : Hid (Below w.heap.size w w1a) := HB0a.out.trans (hb1a.mono HB0a.out.size)
  have HI1a : Hid (RowAt w1a w.heap.size 37 136 m.cell) := HI0a.out.to hb1a
  have HJ1a : Hid (RowAt w1a (w.heap.size + 1) 37 136 (m.withR r2).cell) := HJ0a.out.to hb1a
  clear hb1a HB0a HI0a HJ0a 
  go_wp2_with (first
    | refine wpList_rowLoad rfl 33 (.tmp 42) rfl _ 85 32 m.dcell rfl HI1a.out (by omega) (fun i hi => m.cell_d hi) Tryz.underlying33 rfl (by kernel_rfl) ?_
    | refine wpList_rowLoad rfl 33 (.tmp 44) rfl _ 85 32 m.dcell rfl HJ1a.out (by omega) (fun i hi => (m.withR r2).cell_d hi) Tryz.underlying33 rfl (by kernel_rfl) ?_)
  refine (eqD_any m _).mono ?_
  rintro e w2a ⟨rfl, hb2a⟩
  have HB2a : Hid (Below w.heap.size w w2a) := HB1a.out.trans (hb2a.mono HB1a.out.size)
  have HI2a : Hid (RowAt w2a w.heap.size 37 136 m.cell) := HI1a.out.to hb2a
  have HJ2a : Hid (RowAt w2a (w.heap.size + 1) 37 136 (m.withR r2).cell) := HJ1a.out.to hb2a
  clear hb2a HB1a HI1a HJ1a 
  go_wp2_with (first
    | refine wpList_rowLoad rfl 35 (.tmp 48) rfl _ 117 16 m.rcell rfl HI2a.out (by omega) (fun i hi => m.cell_r hi) Tryz.underlying35 rfl (by kernel_rfl) ?_
    | refine wpList_rowLoad rfl 35 (.tmp 50) rfl _ 117 16 (m.withR r2).rcell rfl HJ2a.out (by omega) (fun i hi => (m.withR r2).cell_r hi) Tryz.underlying35 rfl (by kernel_rfl) ?_)
  refine (eqR_any m r2 HV.out HX.out _).mono ?_
  rintro e w3a ⟨rfl, hb3a⟩
  have HB3a : Hid (Below w.heap.size w w3a) := HB2a.out.trans (hb3a.mono HB2a.out.size)
  have HI3a : Hid (RowAt w3a w.heap.size 37 136 m.cell) := HI2a.out.to hb3a
  have HJ3a : Hid (RowAt w3a (w.heap.size + 1) 37 136 (m.withR r2).cell) := HJ2a.out.to hb3a
  clear hb3a HB2a HI2a HJ2a 
  have i1333a : World.cell? w3a ⟨w.heap.size, 133, none⟩ = some (.int .u32 m.time) := HI3a.out.cell (i := 133) (by omega)
  have j1333a : World.cell? w3a ⟨w.heap.size + 1, 133, none⟩ = some (.int .u32 m.time) := HJ3a.out.cell (i := 133) (by omega)
  have i1343a : World.cell? w3a ⟨w.heap.size, 134, none⟩ = some (.bool m.ran) := HI3a.out.cell (i := 134) (by omega)
  have j1343a : World.cell? w3a ⟨w.heap.size + 1, 134, none⟩ = some (.bool m.ran) := HJ3a.out.cell (i := 134) (by omega)
  have i1353a : World.cell? w3a ⟨w.heap.size, 135, none⟩ = some (.bool m.fault) := HI3a.out.cell (i := 135) (by omega)
  have j1353a : World.cell? w3a ⟨w.heap.size + 1, 135, none⟩ = some (.bool m.fault) := HJ3a.out.cell (i := 135) (by omega)
  go_wp2
  go_ret
  exact ⟨rfl, HB3a.out⟩
end Go.Proofs.YtjacgamgjjpllaaGreatDoor

/- The walk of the law FnExactMemRead. Helper text: no statement is claimed here. -/
namespace Go.Proofs.YtjacgamgjjpllaaGreatDoor
open Go.ChangeShapes Go.WideShapes Go.ChangeAt Go.RowKit Fl

theorem words_zero : wordsM zeroM = [] := by
  rw [words_places, List.flatMap_eq_nil_iff]
  exact fun q hq => zero_words q hq
theorem fold_empty {m : Mm} (h : FoldW zeroM [[]] m) : m = zeroM := by
  obtain ⟨m1, hs, h⟩ := h
  exact (show m = m1 from h).trans (hs.2 rfl)
/-- The two readings of one text. -/
theorem reads_same {t : List UInt8} {m m' : Mm} {b b' : Bool} (hm : m.Ok) (hm' : m'.Ok)
    (hA : (b = true ∧ t.length ≤ 6000 ∧ memT m = t ∧ FoldW zeroM (keepW (cutL 32 t)) m) ∨ (b = false ∧ m = zeroM ∧ (6000 < t.length ∨ ∃ m1 : Mm, m1.Ok ∧ FoldW zeroM (keepW (cutL 32 t)) m1 ∧ memT m1 ≠ t)))
    (hB : (b' = true ∧ t.length ≤ 6000 ∧ memT m' = t ∧ FoldW zeroM (Lib.split t [32]) m') ∨ (b' = false ∧ m' = zeroM ∧ (6000 < t.length ∨ ∃ m1 : Mm, m1.Ok ∧ FoldW zeroM (Lib.split t [32]) m1 ∧ memT m1 ≠ t))) : b' = b ∧ memT m' = memT m := by
  rcases hA with ⟨rfl, l1, e1, -⟩ | ⟨rfl, rfl, hA⟩ <;> rcases hB with ⟨rfl, l2, e2, -⟩ | ⟨rfl, rfl, hB⟩
  · exact ⟨rfl, e2.trans e1.symm⟩
  · exfalso
    rcases hB with h | ⟨m1, -, hf, hne⟩
    · omega
    · rw [← e1, split_words hm] at hf
      by_cases hw : wordsM m = []
      · rw [if_pos hw] at hf
        refine hne ?_
        rw [fold_empty hf, ← e1]
        unfold memT
        rw [words_zero, hw]
      · rw [if_neg hw] at hf
        exact hne ((fold_text hm hf).trans e1)
  · exfalso
    rcases hA with h | ⟨m1, -, hf, hne⟩
    · omega
    · rw [← e2, keep_words hm'] at hf
      exact hne ((fold_text hm' hf).trans e2)
  · exact ⟨rfl, rfl⟩
theorem all_at {k : Nat} {f : Nat → Bool} (h : (List.range k).all f = true) {i : Nat} (hi : i < k) : f i = true := List.all_eq_true.1 h i (List.mem_range.2 hi)
theorem same_parts {m n : Mm} (h : sameM m n = true) : n.cells = (m.withR n.r).cells ∧ ∀ i, i < 16 → SameV (m.r i) (n.r i) := by
  unfold sameM at h
  simp only [Bool.and_eq_true, beq_iff_eq] at h
  obtain ⟨hx, hy, hm, hs, he, hT, hC, hD, hR, ht, hran, hfault⟩ := h
  refine ⟨?_, fun i hi => sv_iff.1 (all_at hR hi)⟩
  show cellsOf 136 n.cell = cellsOf 136 (m.withR n.r).cell
  refine cellsOf_ext fun i hi => cell_ext (by show n.x = m.x; omega) (by show n.y = m.y; omega) (by show n.m = m.m; omega) (by show n.s = m.s; omega) (by show n.e = m.e; omega) (fun g1 g2 => ?_) (fun g1 g2 => ?_) (fun g1 g2 => ?_) (fun _ _ => rfl) (fun _ => by show n.time = m.time; omega) (fun _ => hran.symm) (fun _ => hfault.symm)
  · have q := all_at hT (i := (i - 5) / 2) (by omega)
    simp only [Bool.and_eq_true, beq_iff_eq] at q
    unfold Mm.tcell
    show _ = (if (i - 5) % 2 = 0 then Value.bool (m.td ((i - 5) / 2)) else Value.int .u16 (m.tc ((i - 5) / 2) : Nat))
    rw [q.1, q.2]
  · have q := all_at hC (i := (i - 37) / 3) (by omega)
    simp only [Bool.and_eq_true, beq_iff_eq] at q
    unfold Mm.ccell
    show _ = (if (i - 37) % 3 = 0 then Value.bool (m.cd ((i - 37) / 3)) else if (i - 37) % 3 = 1 then Value.bool (m.cl ((i - 37) / 3)) else Value.int .u16 (m.cc ((i - 37) / 3) : Nat))
    rw [q.1, q.2.1, q.2.2]
  · have q := all_at hD (i := i - 85) (by omega)
    simp only [beq_iff_eq] at q
    show Value.int .i16 (n.d (i - 85)) = Value.int .i16 (m.d (i - 85))
    rw [q]
theorem eqMem_same {m n : Mm} (hm : m.Ok) (hn : n.Ok) (h : memT m = memT n) (W : World) : Calls Tryz.prog 11 #[.agg m.cells, .agg n.cells] W fun e w' => e = .returned (.bool true) ∧ Below W.heap.size W w' := by
  have hs : sameM m n = true := by rw [← text_same hm hn, h]; simp
  obtain ⟨e, hv⟩ := same_parts hs
  rw [e]
  exact eqMem_any m n.r hv hm.hr W
set_option maxHeartbeats 2000000 in
set_option maxRecDepth 20000 in
theorem mread_walk (s : ByteArray) (w : World) (hL : LTab w) (hT : Tabs w) :
    Calls Tryz.prog 4 #[.string s] w fun e w' => e = .returned (.bool true) ∧ Below w.heap.size w w' := by
  by_cases hl : 1048576 < s.size
  · have hl1 : (1048576 : Int) < s.size := by omega
    go_enter Tryz.func4, Tryz.ntmps4
    go_wp2
    go_ret
    exact ⟨rfl, Below.refl _ _⟩
  have hz : ∀ w, (zeroValue 37).run Tryz.prog w = .ok (.agg zeroM.cells) w := fun _ => by kernel_rfl
  obtain ⟨t, rfl⟩ : ∃ t : List UInt8, s = ⟨t.toArray⟩ := ⟨s.data.toList, by simp⟩
  have hsz := ba_size t
  have hl1 : ¬ (1048576 : Int) < ((⟨t.toArray⟩ : ByteArray).size : Int) := by omega
  have H1 : Hid (∀ W, Calls Tryz.prog 10 #[.string ⟨t.toArray⟩] W (ReadM t (keepW (cutL 32 t)) W)) := fun W => smread_any t W (by omega)
  have H2 : Hid (∀ W, LTab W → Tabs W → Calls Tryz.prog 7 #[.string ⟨t.toArray⟩] W (ReadM t (Lib.split t [32]) W)) := fun W h1 h2 => imread_any t W (by omega) h1 h2
  have HL : Hid (LTab w) := hL
  have HT : Hid (Tabs w) := hT
  clear hl hsz hL hT
  generalize (⟨t.toArray⟩ : ByteArray) = s at *
  go_enter Tryz.func4, Tryz.ntmps4
  go_wp2_with fail
  refine (H1.out _).mono ?_
  rintro e w1 ⟨m, b, rfl, hm, hA, hb1⟩
  have HA : Hid ((b = true ∧ t.length ≤ 6000 ∧ memT m = t ∧ FoldW zeroM (keepW (cutL 32 t)) m) ∨ (b = false ∧ m = zeroM ∧ (6000 < t.length ∨ ∃ m1 : Mm, m1.Ok ∧ FoldW zeroM (keepW (cutL 32 t)) m1 ∧ memT m1 ≠ t))) := hA
  clear hA H1
  go_wp2_with (refine wpList_rowStore rfl 37 (.tmp 3) (.tmp 13) rfl w1.heap.size 0 136 m.cell m.cell rfl rfl (RowAt.new w1 37 136 zeroM.cell) (by omega) (fun i _ => cell_one m i) (fun i hi => by rw [if_pos ⟨by omega, by omega⟩, Nat.sub_zero]) (by kernel_rfl) ?_; intro v1 HZ1 hz1 hk1 hbv1)
  have hB1 : Below w.heap.size w v1 := hbv1 _ _ (hb1.alloc hb1.size _) hb1.size
  have hM1 : MemAt v1 w1.heap.size m := HZ1
  refine (H2.out _ (HL.out.to hB1) (HT.out.to hB1)).mono ?_
  rintro e w2 ⟨m', b', rfl, hm', hB, hb2⟩
  obtain ⟨rfl, htt⟩ := reads_same hm hm' HA.out hB
  have HE : Hid (∀ W, Calls Tryz.prog 11 #[.agg m'.cells, .agg m.cells] W fun e w' => e = .returned (.bool true) ∧ Below W.heap.size W w') := fun W => eqMem_same hm' hm htt W
  have hM2 : MemAt w2 w1.heap.size m := hM1.to hb2
  have hB2 : Below w.heap.size w w2 := hB1.trans (hb2.mono hB1.size)
  have hlt := hM2.lt
  have hbb : (b' != b') = false := by cases b' <;> rfl
  clear hB htt HA hb2 hM1 hB1 HZ1 hz1 hk1 hbv1 hb1 H2 HL HT
  go_wp2_with (first
    | (refine wpList_rowStore rfl 37 (.tmp 5) (.tmp 18) rfl w2.heap.size 0 136 m'.cell m'.cell rfl rfl (RowAt.new w2 37 136 zeroM.cell) (by omega) (fun i _ => cell_one m' i) (fun i hi => by rw [if_pos ⟨by omega, by omega⟩, Nat.sub_zero]) (by kernel_rfl) ?_
       intro v2 HZ2 hz2 hk2 hbv2
       have HB3 : Hid (Below w.heap.size w v2) := hbv2 _ _ (hB2.alloc hB2.size _) hB2.size
       have HM3 : Hid (MemAt v2 w1.heap.size m) := (hM2.alloc _).by (hk2 _ (by omega))
       have HN3 : Hid (MemAt v2 w2.heap.size m') := HZ2
       clear HZ2 hz2 hk2 hbv2 hM2 hB2)
    | refine wpList_rowLoad rfl 37 (.tmp 5) rfl _ 0 136 m'.cell rfl HN3.out (by omega) (fun i _ => by rw [Nat.zero_add]) Tryz.underlying37 rfl (by kernel_rfl) ?_
    | refine wpList_rowLoad rfl 37 (.tmp 3) rfl _ 0 136 m.cell rfl HM3.out (by omega) (fun i _ => by rw [Nat.zero_add]) Tryz.underlying37 rfl (by kernel_rfl) ?_)
  refine (HE.out _).mono ?_
  rintro e w4 ⟨rfl, hb4⟩
  have hB4 : Below w.heap.size w w4 := HB3.out.trans (hb4.mono HB3.out.size)
  clear HE HB3 HM3 HN3 hb4
  go_wp2
  go_ret
  exact ⟨rfl, hB4⟩
end Go.Proofs.YtjacgamgjjpllaaGreatDoor

/- The table of devices out of a row's condition. Helper text: no statement is claimed here. -/
namespace Go.Proofs.YtjacgamgjjpllaaGreatDoor
open Go.ChangeShapes Go.WideShapes Go.ChangeAt Go.RowKit

theorem gRows : Tryz.prog.globalNamed (Rows.fnMemBackRow.named.getD 0 "") = some 1 := by kernel_rfl
theorem laid_rowsD : (Rows.laid_loop_example_stilscan_impl_devRows : DataW Unit) = .agg rowsD := rfl
theorem devTab_of {W : World} {sp : Nat → Bool} {held : Bool} {cs : Array Value} {fuel : Nat} {p : List MemPlace}
    (hv : W.var? Tryz.prog (Rows.fnMemBackRow.named.getD 0 "") = some cs)
    (hd : DataW.trod (fun _ => ()) Tryz.prog W 0 sp held fuel 137 cs.toList = some (Rows.laid_loop_example_stilscan_impl_devRows, p)) : DevTab W := by
  rw [laid_rowsD] at hd
  obtain ⟨xs, m, rfl, hx, hl, hn, hel⟩ := DataW.trod_array Tryz.underlying137 hd
  simp only [Prod.mk.injEq, DataW.agg.injEq] at hx
  intro i hi
  have h1 := hel i hi
  have h2 := rowsD_at i hi
  rw [hx.1, List.getElem?_map] at h2
  obtain ⟨x, hx1, hx2⟩ := Option.map_eq_some_iff.1 h2
  rw [hx1, cRow] at h1
  have h3 := rowCells (p := x.2) (h1.trans (by rw [show x = (x.1, x.2) from rfl, hx2]; rfl))
  have at_ : ∀ j, j < 5 → cs[i * 5 + j]? = ((cs.toList.drop (i * 5)).take 5)[j]? := by
    intro j hj
    simp [hj]
  have hc := World.var?_cell gRows hv
  have a0 := at_ 0 (by omega)
  have a1 := at_ 1 (by omega)
  have a2 := at_ 2 (by omega)
  have a3 := at_ 3 (by omega)
  have a4 := at_ 4 (by omega)
  rw [h3] at a0 a1 a2 a3 a4
  refine ⟨?_, ?_, ?_, ?_, ?_⟩
  · rw [hc]; simpa using a0
  · rw [hc]; simpa using a1
  · rw [hc]; simpa using a2
  · rw [hc]; simpa using a3
  · rw [hc]; simpa using a4

end Go.Proofs.YtjacgamgjjpllaaGreatDoor
