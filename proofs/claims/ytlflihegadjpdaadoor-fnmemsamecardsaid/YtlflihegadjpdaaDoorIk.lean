/- Two real numbers that are one, by both sides; two arrays of them. Helper text: no statement is claimed here. -/
import Derived.Test.YtlflihegadjpdaaDoorIb
import Derived.Test.YtlflihegadjpdaaDoorXd
import Derived.Test.YtlflihegadjpdaaDoorXe
import Derived.Deep.Cut
namespace Go.Proofs.YtlflihegadjpdaaDoor
open Go.ChangeShapes Go.WideShapes Go.ChangeAt Go.RowKit Fl

/-- Whether two real numbers are one. -/
def sv (x y : Nat) : Bool := (x == y) || ((Ieee.double.read x).isNaN && (Ieee.double.read y).isNaN)
theorem sv_iff {x y : Nat} : sv x y = true ↔ SameV x y := by
  simp only [sv, Bool.or_eq_true, beq_iff_eq, Bool.and_eq_true]
  exact Iff.rfl
theorem sv_yes {x y : Nat} (h : SameV x y) : sv x y = true := sv_iff.2 h
theorem sv_no {x y : Nat} (h : ¬ SameV x y) : sv x y = false := by
  rw [Bool.eq_false_iff]
  exact fun h' => h (sv_iff.1 h')

set_option maxHeartbeats 400000 in
theorem l4Same_any (x y : Nat) (w : World) (hx : x < 2 ^ 64) (hy : y < 2 ^ 64) :
    Calls Tryd.prog 22 #[.float .f64 x, .float .f64 y] w fun e w' => e = .returned (.bool (sv x y)) ∧ Below w.heap.size w w' := by
  have H1 : Hid (∀ W, Calls Tryd.prog 27 #[.float .f64 x] W (Texted x W)) := fun W => st_any x W hx
  have H2 : Hid (∀ W, Calls Tryd.prog 27 #[.float .f64 y] W (Texted y W)) := fun W => st_any y W hy
  clear hx hy
  go_enter Tryd.func22, Tryd.ntmps22
  go_wp2_with fail
  refine (H1.out w).mono ?_
  rintro e w1 ⟨s, rfl, hs, hb1⟩
  have HB1 : Hid (Below w.heap.size w w1) := hb1
  clear hb1 H1
  go_wp2_with fail
  refine (H2.out w1).mono ?_
  rintro e w2 ⟨t, rfl, ht, hb2⟩
  have HB2 : Hid (Below w.heap.size w w2) := HB1.out.trans (hb2.mono HB1.out.size)
  clear hb2 H2 HB1
  have hv : (s == t) = sv x y := by
    by_cases h : s = t
    · rw [sv_yes ((text_iff hs ht).1 h)]; simpa using h
    · rw [sv_no (fun h' => h ((text_iff hs ht).2 h'))]; simpa using h
  clear hs ht
  go_wp2
  go_ret
  exact ⟨rfl, HB2.out⟩

theorem ord_nanR {x y : Nat} (h : nan y) : (ord x y == some .eq) = false := by
  simp only [ord, Go.FloatKind.format, order_nan_right h]; rfl
set_option maxHeartbeats 400000 in
theorem sameReal_any (x y : Nat) (w : World) (hx : x < 2 ^ 64) (hy : y < 2 ^ 64) :
    Calls Tryd.prog 40 #[.float .f64 x, .float .f64 y] w fun e w' => e = .returned (.bool (sv x y)) ∧ w' = w := by
  by_cases nx : nan x
  · have h1 := (asks_nan nx).n
    have h2 : (ord y y != some .eq) = sv x y := by
      by_cases ny : nan y
      · rw [sv_yes (.inr ⟨nx, ny⟩)]; exact (asks_nan ny).n
      · rw [sv_no (by rintro (rfl | h); exact ny nx; exact ny h.2)]; exact neq_selfI hy ny
    clear nx
    generalize sv x y = b at *
    go_enter Tryd.func40, Tryd.ntmps40
    go_wp2
    go_ret
    exact ⟨by rw [← h2]; rfl, rfl⟩
  have h1 := neq_selfI hx nx
  by_cases he : (ord x y == some .eq) = true
  · have ny : ¬ nan y := fun h => by rw [ord_nanR h] at he; cases he
    obtain ⟨r, hr, hl, hrn⟩ := one_by hx nx
    obtain ⟨q, hq, hql, hqn⟩ := one_by hy ny
    have h3 := run_some hr
    have h4 := run_some hq
    have h5 : (ord r q == some .eq) = sv x y := by
      rcases not_both hx hy nx ny he with rfl | ⟨s, t, rfl, rfl⟩
      · obtain rfl : r = q := Option.some.inj (hr.symm.trans hq)
        rw [sv_yes (.inl rfl)]
        exact eq_selfI hl hrn
      · obtain rfl : r = wi s := Option.some.inj (hr.symm.trans (one_by_zero s))
        obtain rfl : q = wi t := Option.some.inj (hq.symm.trans (one_by_zero t))
        cases s <;> cases t
        · rw [sv_yes (.inl rfl)]; decide +kernel
        · rw [sv_no (by rintro (h | h); exact absurd h (by decide +kernel); exact nx h.1)]; decide +kernel
        · rw [sv_no (by rintro (h | h); exact absurd h (by decide +kernel); exact nx h.1)]; decide +kernel
        · rw [sv_yes (.inl rfl)]; decide +kernel
    clear nx ny hr hq hl hrn hql hqn hx hy
    generalize sv x y = b at *
    go_enter Tryd.func40, Tryd.ntmps40
    go_wp2
    go_ret
    exact ⟨by rw [← h5]; rfl, rfl⟩
  · have h2 : (ord x y == some .eq) = false := by simpa using he
    have h3 : sv x y = false := sv_no (by
      rintro (rfl | h)
      · exact he (eq_selfI hx nx)
      · exact nx h.1)
    rw [h3]
    clear nx he h3 hx hy
    go_enter Tryd.func40, Tryd.ntmps40
    go_wp2
    go_ret
    exact ⟨rfl, rfl⟩
theorem grownSame2 {x y : Nat} {w : World} (hx : x < 2 ^ 64) (hy : y < 2 ^ 64) {b : Bool} (hb : sv x y = b) (n : Nat) (os : Array Obj) :
    Calls Tryd.prog 40 #[.float .f64 x, .float .f64 y] (Sort.grow (redrawn w n) os) fun e w'' => e = .returned (.bool b) ∧ ∃ p' : Regrown, w'' = Sort.grow (redrawn w p'.d) p'.os :=
  Calls.regrown_of ((sameReal_any x y _ hx hy).mono fun _ _ ⟨a, b⟩ => ⟨by rw [a, hb], b ▸ Below.refl _ _⟩)

/-- Whether the real numbers of two memories are the same. -/
def sameR (m n : Mm) : Bool := (List.range 16).all fun i => sv (m.r i) (n.r i)
theorem sameR_no {m n : Mm} {j : Nat} (hj : j < 16) (h : sv (m.r j) (n.r j) = false) : sameR m n = false := by
  rw [Bool.eq_false_iff]
  intro ha
  rw [sameR, List.all_eq_true] at ha
  rw [ha j (List.mem_range.2 hj)] at h
  cases h
theorem sameR_yes {m n : Mm} (h : ∀ j, j < 16 → sv (m.r j) (n.r j) = true) : sameR m n = true := by
  rw [sameR, List.all_eq_true]
  exact fun j hj => h j (List.mem_range.1 hj)
set_option maxHeartbeats 1000000 in
theorem sameReals_any (m n : Mm) (hr : ∀ i, m.r i < 2 ^ 64) (hs : ∀ i, n.r i < 2 ^ 64) (w : World) :
    Calls Tryd.prog 17 #[.agg m.rArr, .agg n.rArr] w fun e w' => e = .returned (.bool (sameR m n)) ∧ Below w.heap.size w w' := by
  have HX : Hid (∀ i, m.r i < 2 ^ 64) := hr
  have HY : Hid (∀ i, n.r i < 2 ^ 64) := hs
  clear hr hs
  go_enter Tryd.func17, Tryd.ntmps17
  go_wp2
  have HB0 : Hid (Below w.heap.size w ((w.alloc (.cells m.rArr 35)).alloc (.cells n.rArr 35))) := ((Below.refl _ _).alloc (Nat.le_refl _) _).alloc (by simp) _
  have HI0 : Hid (RowAt ((w.alloc (.cells m.rArr 35)).alloc (.cells n.rArr 35)) w.heap.size 35 16 m.rcell) := (RowAt.new w _ 16 m.rcell).alloc _
  have HJ0 : Hid (RowAt ((w.alloc (.cells m.rArr 35)).alloc (.cells n.rArr 35)) (w.heap.size + 1) 35 16 n.rcell) := by
    have := RowAt.new (w.alloc (.cells m.rArr 35)) 35 16 n.rcell
    rw [show (w.alloc (.cells m.rArr 35)).heap.size = w.heap.size + 1 by simp] at this
    exact this
  generalize ((w.alloc (.cells m.rArr 35)).alloc (.cells n.rArr 35)) = V at *
  go_loopw [6] (fun c w' => ∃ j : Nat, j ≤ 16 ∧ c = .int .i64 (j : Int) ∧ Hid (∀ i, i < j → sv (m.r i) (n.r i) = true) ∧ Hid (Below w.heap.size w w') ∧ Hid (RowAt w' w.heap.size 35 16 m.rcell) ∧ Hid (RowAt w' (w.heap.size + 1) 35 16 n.rcell)) (fun c _ => 16 - (intOf c).toNat)
  case atStart => exact ⟨0, by omega, rfl, (fun i hi => absurd hi (by omega) : ∀ i, i < 0 → sv (m.r i) (n.r i) = true), HB0, HI0, HJ0⟩
  case round =>
    obtain ⟨j, hj, rfl, HA, HBr, HIr, HJr⟩ := hrel
    rename_i wr
    clear HB0 HI0 HJ0
    by_cases hlt : j < 16
    · have hlt' : (j : Int) < 16 := by omega
      have c0 := HIr.out.cell (i := j) (by omega)
      rw [Mm.rcell] at c0
      have d0 := HJr.out.cell (i := j) (by omega)
      rw [Mm.rcell] at d0
      have HN : Hid (sv (m.r j) (n.r j) = false → sameR m n = false) := fun h => sameR_no hlt h
      have HZ : Hid (sv (m.r j) (n.r j) = true → ∀ i, i < j + 1 → sv (m.r i) (n.r i) = true) := fun h i hi => by
        by_cases e : i = j
        · rw [e]; exact h
        · exact HA.out i (by omega)
      have HG : Hid (∀ b, sv (m.r j) (n.r j) = b → ∀ (k : Nat) (os : Array Obj), Calls Tryd.prog 40 #[.float .f64 (m.r j), .float .f64 (n.r j)] (Sort.grow (redrawn wr k) os) fun e w'' => e = .returned (.bool b) ∧ ∃ p' : Regrown, w'' = Sort.grow (redrawn wr p'.d) p'.os) := fun b hb k os => grownSame2 (HX.out j) (HY.out j) hb k os
      cases hsv : sv (m.r j) (n.r j)
      · have HG' : Hid _ := HG.out false hsv
        have HN' : Hid (sameR m n = false) := HN.out hsv
        generalize m.r j = x at *
        generalize n.r j = y at *
        have k0 := cell_regrown c0
        have q0 := cell_regrown d0
        clear HG HN HZ hsv
        go_wp2
        refine wp_region_quiet_below (by kernel_rfl) (by kernel_rfl) ?_
        repeat (first | go_big_quiet_step (exact HG'.out _ _) | quiet_step (exact HG'.out _ _))
        refine wpQuiet_nil ?_
        intro _ hw'
        obtain ⟨⟨dq, osq⟩, hw''⟩ := hw'
        subst hw''
        have HBq : Hid (Below w.heap.size w (Sort.grow (redrawn wr dq) osq)) := HBr.out.trans ((below_regrown _ dq osq).mono HBr.out.size)
        clear k0 q0 c0 d0
        generalize Sort.grow (redrawn wr dq) osq = wq at *
        go_wp2
        go_ret
        exact ⟨by rw [HN'.out]; rfl, HBq.out⟩
      · have HG' : Hid _ := HG.out true hsv
        have HZ' : Hid (∀ i, i < j + 1 → sv (m.r i) (n.r i) = true) := HZ.out hsv
        generalize m.r j = x at *
        generalize n.r j = y at *
        have k0 := cell_regrown c0
        have q0 := cell_regrown d0
        clear HG HN HZ hsv
        go_wp2
        refine wp_region_quiet_below (by kernel_rfl) (by kernel_rfl) ?_
        repeat (first | go_big_quiet_step (exact HG'.out _ _) | quiet_step (exact HG'.out _ _))
        refine wpQuiet_nil ?_
        intro _ hw'
        obtain ⟨⟨dq, osq⟩, hw''⟩ := hw'
        subst hw''
        have HBq : Hid (Below w.heap.size w (Sort.grow (redrawn wr dq) osq)) := HBr.out.trans ((below_regrown _ dq osq).mono HBr.out.size)
        have HIq : Hid (RowAt (Sort.grow (redrawn wr dq) osq) w.heap.size 35 16 m.rcell) := HIr.out.to (below_regrown _ dq osq)
        have HJq : Hid (RowAt (Sort.grow (redrawn wr dq) osq) (w.heap.size + 1) 35 16 n.rcell) := HJr.out.to (below_regrown _ dq osq)
        clear k0 q0 c0 d0
        generalize Sort.grow (redrawn wr dq) osq = wq at *
        go_wp2
        exact ⟨⟨j + 1, by omega, by go_num, HZ', HBq, HIq, HJq⟩, by simp [intOf]; omega⟩
    · obtain rfl : j = 16 := by omega
      have HS : Hid (sameR m n = true) := sameR_yes HA.out
      go_wp2
      go_ret
      exact ⟨by rw [HS.out]; rfl, HBr.out⟩
end Go.Proofs.YtlflihegadjpdaaDoor
