/- Two real numbers that are one, by both sides; two arrays of them. Helper text: no statement is claimed here. -/
import Derived.Test.YtlflihegadjpdaaDoorP05
import Derived.Deep.Cut
import Derived.Test.YtlflihegadjpdaaDoorP01
import Derived.Test.YtlflihegadjpdaaDoorP04
import Derived.Test.YtlflihegadjpdaaDoorP03
import Derived.WalkLawsBesides
namespace Go.Proofs.YtlflihegadjpdaaDoor
open Go.ChangeShapes Go.WideShapes Go.ChangeAt Go.RowKit Fl

/-- Whether two real numbers are one. -/
def sv (x y : Nat) : Bool := (x == y) || ((Ieee.double.read x).isNaN && (Ieee.double.read y).isNaN)
theorem sv_iff {x y : Nat} : sv x y = true ↔ SameV x y := by
  simp only [sv, Bool.or_eq_true, beq_iff_eq, Bool.and_eq_true]
  exact Iff.rfl
theorem sv_yes {x y : Nat} (h : SameV x y) : sv x y = true := sv_iff.2 h
theorem sv_no {x y : Nat} (h : ¬ SameV x y) : sv x y = false := by
  rw [Bool.eq_false_iff]
  exact fun h' => h (sv_iff.1 h')

set_option maxHeartbeats 400000 in
theorem l4Same_any (x y : Nat) (w : World) (hx : x < 2 ^ 64) (hy : y < 2 ^ 64) :
    Calls Tryd.prog 22 #[.float .f64 x, .float .f64 y] w fun e w' => e = .returned (.bool (sv x y)) ∧ Below w.heap.size w w' := by
  have H1 : Hid (∀ W, Calls Tryd.prog 27 #[.float .f64 x] W (Texted x W)) := fun W => st_any x W hx
  have H2 : Hid (∀ W, Calls Tryd.prog 27 #[.float .f64 y] W (Texted y W)) := fun W => st_any y W hy
  clear hx hy
  go_enter Tryd.func22, Tryd.ntmps22
  go_wp2_with fail
  refine (H1.out w).mono ?_
  rintro e w1 ⟨s, rfl, hs, hb1⟩
  have HB1 : Hid (Below w.heap.size w w1) := hb1
  clear hb1 H1
  go_wp2_with fail
  refine (H2.out w1).mono ?_
  rintro e w2 ⟨t, rfl, ht, hb2⟩
  have HB2 : Hid (Below w.heap.size w w2) := HB1.out.trans (hb2.mono HB1.out.size)
  clear hb2 H2 HB1
  have hv : (s == t) = sv x y := by
    by_cases h : s = t
    · rw [sv_yes ((text_iff hs ht).1 h)]; simpa using h
    · rw [sv_no (fun h' => h ((text_iff hs ht).2 h'))]; simpa using h
  clear hs ht
  go_wp2
  go_ret
  exact ⟨rfl, HB2.out⟩

theorem ord_nanR {x y : Nat} (h : nan y) : (ord x y == some .eq) = false := by
  simp only [ord, Go.FloatKind.format, order_nan_right h]; rfl
set_option maxHeartbeats 400000 in
theorem sameReal_any (x y : Nat) (w : World) (hx : x < 2 ^ 64) (hy : y < 2 ^ 64) :
    Calls Tryd.prog 40 #[.float .f64 x, .float .f64 y] w fun e w' => e = .returned (.bool (sv x y)) ∧ w' = w := by
  by_cases nx : nan x
  · have h1 := (asks_nan nx).n
    have h2 : (ord y y != some .eq) = sv x y := by
      by_cases ny : nan y
      · rw [sv_yes (.inr ⟨nx, ny⟩)]; exact (asks_nan ny).n
      · rw [sv_no (by rintro (rfl | h); exact ny nx; exact ny h.2)]; exact neq_selfI hy ny
    clear nx
    generalize sv x y = b at *
    go_enter Tryd.func40, Tryd.ntmps40
    go_wp2
    go_ret
    exact ⟨by rw [← h2]; rfl, rfl⟩
  have h1 := neq_selfI hx nx
  by_cases he : (ord x y == some .eq) = true
  · have ny : ¬ nan y := fun h => by rw [ord_nanR h] at he; cases he
    obtain ⟨r, hr, hl, hrn⟩ := one_by hx nx
    obtain ⟨q, hq, hql, hqn⟩ := one_by hy ny
    have h3 := run_some hr
    have h4 := run_some hq
    have h5 : (ord r q == some .eq) = sv x y := by
      rcases not_both hx hy nx ny he with rfl | ⟨s, t, rfl, rfl⟩
      · obtain rfl : r = q := Option.some.inj (hr.symm.trans hq)
        rw [sv_yes (.inl rfl)]
        exact eq_selfI hl hrn
      · obtain rfl : r = wi s := Option.some.inj (hr.symm.trans (one_by_zero s))
        obtain rfl : q = wi t := Option.some.inj (hq.symm.trans (one_by_zero t))
        cases s <;> cases t
        · rw [sv_yes (.inl rfl)]; decide +kernel
        · rw [sv_no (by rintro (h | h); exact absurd h (by decide +kernel); exact nx h.1)]; decide +kernel
        · rw [sv_no (by rintro (h | h); exact absurd h (by decide +kernel); exact nx h.1)]; decide +kernel
        · rw [sv_yes (.inl rfl)]; decide +kernel
    clear nx ny hr hq hl hrn hql hqn hx hy
    generalize sv x y = b at *
    go_enter Tryd.func40, Tryd.ntmps40
    go_wp2
    go_ret
    exact ⟨by rw [← h5]; rfl, rfl⟩
  · have h2 : (ord x y == some .eq) = false := by simpa using he
    have h3 : sv x y = false := sv_no (by
      rintro (rfl | h)
      · exact he (eq_selfI hx nx)
      · exact nx h.1)
    rw [h3]
    clear nx he h3 hx hy
    go_enter Tryd.func40, Tryd.ntmps40
    go_wp2
    go_ret
    exact ⟨rfl, rfl⟩
theorem grownSame2 {x y : Nat} {w : World} (hx : x < 2 ^ 64) (hy : y < 2 ^ 64) {b : Bool} (hb : sv x y = b) (n : Nat) (os : Array Obj) :
    Calls Tryd.prog 40 #[.float .f64 x, .float .f64 y] (Sort.grow (redrawn w n) os) fun e w'' => e = .returned (.bool b) ∧ ∃ p' : Regrown, w'' = Sort.grow (redrawn w p'.d) p'.os :=
  Calls.regrown_of ((sameReal_any x y _ hx hy).mono fun _ _ ⟨a, b⟩ => ⟨by rw [a, hb], b ▸ Below.refl _ _⟩)

/-- Whether the real numbers of two memories are the same. -/
def sameR (m n : Mm) : Bool := (List.range 16).all fun i => sv (m.r i) (n.r i)
theorem sameR_no {m n : Mm} {j : Nat} (hj : j < 16) (h : sv (m.r j) (n.r j) = false) : sameR m n = false := by
  rw [Bool.eq_false_iff]
  intro ha
  rw [sameR, List.all_eq_true] at ha
  rw [ha j (List.mem_range.2 hj)] at h
  cases h
theorem sameR_yes {m n : Mm} (h : ∀ j, j < 16 → sv (m.r j) (n.r j) = true) : sameR m n = true := by
  rw [sameR, List.all_eq_true]
  exact fun j hj => h j (List.mem_range.1 hj)
set_option maxHeartbeats 1000000 in
theorem sameReals_any (m n : Mm) (hr : ∀ i, m.r i < 2 ^ 64) (hs : ∀ i, n.r i < 2 ^ 64) (w : World) :
    Calls Tryd.prog 17 #[.agg m.rArr, .agg n.rArr] w fun e w' => e = .returned (.bool (sameR m n)) ∧ Below w.heap.size w w' := by
  have HX : Hid (∀ i, m.r i < 2 ^ 64) := hr
  have HY : Hid (∀ i, n.r i < 2 ^ 64) := hs
  clear hr hs
  go_enter Tryd.func17, Tryd.ntmps17
  go_wp2
  have HB0 : Hid (Below w.heap.size w ((w.alloc (.cells m.rArr 35)).alloc (.cells n.rArr 35))) := ((Below.refl _ _).alloc (Nat.le_refl _) _).alloc (by simp) _
  have HI0 : Hid (RowAt ((w.alloc (.cells m.rArr 35)).alloc (.cells n.rArr 35)) w.heap.size 35 16 m.rcell) := (RowAt.new w _ 16 m.rcell).alloc _
  have HJ0 : Hid (RowAt ((w.alloc (.cells m.rArr 35)).alloc (.cells n.rArr 35)) (w.heap.size + 1) 35 16 n.rcell) := by
    have := RowAt.new (w.alloc (.cells m.rArr 35)) 35 16 n.rcell
    rw [show (w.alloc (.cells m.rArr 35)).heap.size = w.heap.size + 1 by simp] at this
    exact this
  generalize ((w.alloc (.cells m.rArr 35)).alloc (.cells n.rArr 35)) = V at *
  go_loopw [6] (fun c w' => ∃ j : Nat, j ≤ 16 ∧ c = .int .i64 (j : Int) ∧ Hid (∀ i, i < j → sv (m.r i) (n.r i) = true) ∧ Hid (Below w.heap.size w w') ∧ Hid (RowAt w' w.heap.size 35 16 m.rcell) ∧ Hid (RowAt w' (w.heap.size + 1) 35 16 n.rcell)) (fun c _ => 16 - (intOf c).toNat)
  case atStart => exact ⟨0, by omega, rfl, (fun i hi => absurd hi (by omega) : ∀ i, i < 0 → sv (m.r i) (n.r i) = true), HB0, HI0, HJ0⟩
  case round =>
    obtain ⟨j, hj, rfl, HA, HBr, HIr, HJr⟩ := hrel
    rename_i wr
    clear HB0 HI0 HJ0
    by_cases hlt : j < 16
    · have hlt' : (j : Int) < 16 := by omega
      have c0 := HIr.out.cell (i := j) (by omega)
      rw [Mm.rcell] at c0
      have d0 := HJr.out.cell (i := j) (by omega)
      rw [Mm.rcell] at d0
      have HN : Hid (sv (m.r j) (n.r j) = false → sameR m n = false) := fun h => sameR_no hlt h
      have HZ : Hid (sv (m.r j) (n.r j) = true → ∀ i, i < j + 1 → sv (m.r i) (n.r i) = true) := fun h i hi => by
        by_cases e : i = j
        · rw [e]; exact h
        · exact HA.out i (by omega)
      have HG : Hid (∀ b, sv (m.r j) (n.r j) = b → ∀ (k : Nat) (os : Array Obj), Calls Tryd.prog 40 #[.float .f64 (m.r j), .float .f64 (n.r j)] (Sort.grow (redrawn wr k) os) fun e w'' => e = .returned (.bool b) ∧ ∃ p' : Regrown, w'' = Sort.grow (redrawn wr p'.d) p'.os) := fun b hb k os => grownSame2 (HX.out j) (HY.out j) hb k os
      cases hsv : sv (m.r j) (n.r j)
      · have HG' : Hid _ := HG.out false hsv
        have HN' : Hid (sameR m n = false) := HN.out hsv
        generalize m.r j = x at *
        generalize n.r j = y at *
        have k0 := cell_regrown c0
        have q0 := cell_regrown d0
        clear HG HN HZ hsv
        go_wp2
        refine wp_region_quiet_below (by kernel_rfl) (by kernel_rfl) ?_
        repeat (first | go_big_quiet_step (exact HG'.out _ _) | quiet_step (exact HG'.out _ _))
        refine wpQuiet_nil ?_
        intro _ hw'
        obtain ⟨⟨dq, osq⟩, hw''⟩ := hw'
        subst hw''
        have HBq : Hid (Below w.heap.size w (Sort.grow (redrawn wr dq) osq)) := HBr.out.trans ((below_regrown _ dq osq).mono HBr.out.size)
        clear k0 q0 c0 d0
        generalize Sort.grow (redrawn wr dq) osq = wq at *
        go_wp2
        go_ret
        exact ⟨by rw [HN'.out]; rfl, HBq.out⟩
      · have HG' : Hid _ := HG.out true hsv
        have HZ' : Hid (∀ i, i < j + 1 → sv (m.r i) (n.r i) = true) := HZ.out hsv
        generalize m.r j = x at *
        generalize n.r j = y at *
        have k0 := cell_regrown c0
        have q0 := cell_regrown d0
        clear HG HN HZ hsv
        go_wp2
        refine wp_region_quiet_below (by kernel_rfl) (by kernel_rfl) ?_
        repeat (first | go_big_quiet_step (exact HG'.out _ _) | quiet_step (exact HG'.out _ _))
        refine wpQuiet_nil ?_
        intro _ hw'
        obtain ⟨⟨dq, osq⟩, hw''⟩ := hw'
        subst hw''
        have HBq : Hid (Below w.heap.size w (Sort.grow (redrawn wr dq) osq)) := HBr.out.trans ((below_regrown _ dq osq).mono HBr.out.size)
        have HIq : Hid (RowAt (Sort.grow (redrawn wr dq) osq) w.heap.size 35 16 m.rcell) := HIr.out.to (below_regrown _ dq osq)
        have HJq : Hid (RowAt (Sort.grow (redrawn wr dq) osq) (w.heap.size + 1) 35 16 n.rcell) := HJr.out.to (below_regrown _ dq osq)
        clear k0 q0 c0 d0
        generalize Sort.grow (redrawn wr dq) osq = wq at *
        go_wp2
        exact ⟨⟨j + 1, by omega, by go_num, HZ', HBq, HIq, HJq⟩, by simp [intOf]; omega⟩
    · obtain rfl : j = 16 := by omega
      have HS : Hid (sameR m n = true) := sameR_yes HA.out
      go_wp2
      go_ret
      exact ⟨by rw [HS.out]; rfl, HBr.out⟩
end Go.Proofs.YtlflihegadjpdaaDoor

/- Places of a memory's arrays, by value. Helper text: no statement is claimed here. -/
namespace Go.Proofs.YtlflihegadjpdaaDoor
open Go.ChangeShapes Go.WideShapes Go.ChangeAt Go.RowKit

theorem ext_two {n : Nat} (f : Nat → Value) {a : Nat} (h : a + 2 ≤ n) : (cellsOf n f).extract a (a + 2) = #[f a, f (a + 1)] := by
  apply Array.ext
  · simp [cellsOf_size]; omega
  · intro i h1 h2
    have : i = 0 ∨ i = 1 := by simp at h2; omega
    rcases this with rfl | rfl <;> simp [cellsOf]
theorem ext_three {n : Nat} (f : Nat → Value) {a : Nat} (h : a + 3 ≤ n) : (cellsOf n f).extract a (a + 3) = #[f a, f (a + 1), f (a + 2)] := by
  apply Array.ext
  · simp [cellsOf_size]; omega
  · intro i h1 h2
    have : i = 0 ∨ i = 1 ∨ i = 2 := by simp at h2; omega
    rcases this with rfl | rfl | rfl <;> simp [cellsOf]
theorem idxT (m : Mm) {j : Nat} (hj : j < 16) (w : World) : (Instr.index 28 (.agg (cellsOf 32 m.tcell)) (.int .i64 (j : Int))).run Tryd.prog w = .ok (.agg #[.bool (m.td j), .int .u16 (m.tc j : Int)]) w := by
  simp [Instr.index, run_underlying Tryd.underlying28, asIntOf, go_sem]
  rw [if_pos hj, ext_two _ (by omega), m.tcell_d, m.tcell_c]
theorem idxC (m : Mm) {j : Nat} (hj : j < 16) (w : World) : (Instr.index 31 (.agg (cellsOf 48 m.ccell)) (.int .i64 (j : Int))).run Tryd.prog w = .ok (.agg #[.bool (m.cd j), .bool (m.cl j), .int .u16 (m.cc j : Int)]) w := by
  simp [Instr.index, run_underlying Tryd.underlying31, asIntOf, go_sem]
  rw [if_pos hj, ext_three _ (by omega), m.ccell_d, m.ccell_l, m.ccell_c]
theorem idxD (m : Mm) {j : Nat} (hj : j < 32) (w : World) : (Instr.index 33 (.agg (cellsOf 32 m.dcell)) (.int .i64 (j : Int))).run Tryd.prog w = .ok (.int .i16 (m.d j)) w := by
  have h := cellsOf_at m.dcell hj
  simp [Instr.index, run_underlying Tryd.underlying33, asIntOf, h, go_sem]
  rw [if_pos hj]
  rfl
theorem idxR (m : Mm) {j : Nat} (hj : j < 16) (w : World) : (Instr.index 35 (.agg (cellsOf 16 m.rcell)) (.int .i64 (j : Int))).run Tryd.prog w = .ok (.float .f64 (m.r j)) w := by
  have h := cellsOf_at m.rcell hj
  simp [Instr.index, run_underlying Tryd.underlying35, asIntOf, h, go_sem]
  rw [if_pos hj]
  rfl
end Go.Proofs.YtlflihegadjpdaaDoor

/- The text of a real number: what it is, and how the program takes a number apart. Helper text: no statement is claimed here. -/
namespace Go.Proofs.YtlflihegadjpdaaDoor
open Go.ChangeShapes Go.WideShapes Go.ChangeAt Go.RowKit Fl

theorem fmt_any (n : Int) (w : World) (h0 : -9223372036854775808 ≤ n) (h1 : n ≤ 9223372036854775807) (hP : PowTab w) :
    Calls Tryd.prog 83 #[.int .i64 n, .int .i64 10] w fun e w' => e = .returned (.string ⟨(Lib.itoa n).toArray⟩) ∧ Below w.heap.size w w' :=
  (Any.strconv_FormatInt_10 Tryd.laysM173 n h0 h1 w hP).mono fun _ _ ⟨he, k, os, hw⟩ => ⟨he, by rw [hw]; exact below_grow w k os⟩

set_option maxHeartbeats 1000000 in
theorem apart_any (m k : Nat) (w : World) (h : Sc m k) (hk : k ≤ 2045) (hm : 0 < m) :
    Calls Tryd.prog 82 #[.float .f64 (wd false m k)] w fun e w' => e = .returned (.tuple #[.int .i64 (oN m k), .int .i64 (oE m k)]) ∧ w' = w := by
  have hI : Ap m k (.float .f64 (wd false m k)) (.int .i64 0) m k 0 := ⟨h, hm, hk, rfl, rfl, rfl, by omega⟩
  go_enter Tryd.func82, Tryd.ntmps82
  go_wp2
  go_loop [0, 4] (fun x e => ∃ m1 k1 z, Ap m k x e m1 k1 z) (fun _ e => (3000 + intOf e).toNat)
  case atStart => exact ⟨m, k, 0, hI⟩
  case round =>
    obtain ⟨m1, k1, z, hA⟩ := hrel
    have hbd := hA.bd h hk hm
    have hask := ask52 hA.1 hA.2.2.1
    obtain ⟨rfl, rfl⟩ : _ ∧ _ := ⟨hA.2.2.2.1, hA.2.2.2.2.1⟩
    by_cases hlt : k1 < 1074
    · have hc : (ord (wd false m1 k1) 4841369599423283200 == some .lt) = true := by rw [hask]; simpa using hlt
      obtain ⟨r, hr, m2, k2, hA2⟩ := hA.dbl hlt
      have hrun := run_someN hr
      clear hask hr hI hA
      obtain ⟨b1, b2⟩ := hbd
      go_wp2
      refine ⟨⟨m2, k2, z - 1, hA2⟩, by simp [intOf]; omega⟩
    · have hc : (ord (wd false m1 k1) 4841369599423283200 == some .lt) = false := by rw [hask]; simpa using hlt
      clear hask hI
      have HA : Hid (Ap m k (.float .f64 (wd false m1 k1)) (.int .i64 z) m1 k1 z) := hA
      clear hA
      obtain ⟨b1, b2⟩ := hbd
      go_wp2
      go_loop [0, 4] (fun x e => ∃ m1 k1 z, Ap m k x e m1 k1 z ∧ 1074 ≤ k1) (fun _ e => (3000 - intOf e).toNat)
      case atStart => exact ⟨m1, k1, z, HA.out, by omega⟩
      case round =>
        clear HA b1 b2 hc hlt
        obtain ⟨m2, k2, y, hA, hge⟩ := hrel
        have hbd := hA.bd h hk hm
        have hask := ask53 hA.1 hA.2.2.1
        obtain ⟨rfl, rfl⟩ : _ ∧ _ := ⟨hA.2.2.2.1, hA.2.2.2.2.1⟩
        by_cases hlt : 1075 ≤ k2
        · have hc : (ord (wd false m2 k2) 4845873199050653696 == some .gt || ord (wd false m2 k2) 4845873199050653696 == some .eq) = true := by rw [hask]; simpa using hlt
          obtain ⟨k3, rfl⟩ : ∃ k3, k2 = k3 + 1 := ⟨k2 - 1, by omega⟩
          obtain ⟨hr, hA2⟩ := hA.hlv
          have hrun := run_someN hr
          clear hask hr hA
          obtain ⟨b1, b2⟩ := hbd
          go_wp2
          refine ⟨⟨m2, k3, y + 1, hA2, by omega⟩, by simp [intOf]; omega⟩
        · have hc : (ord (wd false m2 k2) 4845873199050653696 == some .gt || ord (wd false m2 k2) 4845873199050653696 == some .eq) = false := by rw [hask]; simpa using hlt
          have hk2 : k2 = 1074 := by omega
          have hcut := run_cutN (toInt_k hA.1 hk2) 2 Tryd.underlying2
          have HQ : Hid (Aq m k m2 y) := hA.done hk2
          clear hask hA hk2 hge hlt
          obtain ⟨b1, b2⟩ := hbd
          go_wp2
          go_loop [5, 4] (fun n e => ∃ (n1 : Nat) (z1 : Int), Aq m k n1 z1 ∧ n = .int .i64 (n1 : Int) ∧ e = .int .i64 z1) (fun n _ => (intOf n).toNat)
          case atStart => exact ⟨m2, y, HQ.out, rfl, rfl⟩
          case round =>
            clear HQ b1 b2 hc hcut
            obtain ⟨n1, z1, hQ, rfl, rfl⟩ := hrel
            obtain ⟨b1, b2⟩ := hQ.bd h hk hm
            have hn0 := hQ.1
            have hn1 := hQ.2.1
            by_cases hev : n1 % 2 = 0
            · have hQ2 : Hid (Aq m k (n1 / 2) (z1 + 1)) := hQ.step hev
              have hev' : ((n1 : Int) % 2 == 0) = true := by simp; omega
              clear hQ hev
              go_wp2
              exact ⟨⟨n1 / 2, z1 + 1, hQ2.out, by go_num, rfl⟩, by simp [intOf]; omega⟩
            · have hQ2 : Hid (n1 = oN m k ∧ z1 = oE m k) := hQ.out (by omega)
              have hev' : ((n1 : Int) % 2 == 0) = false := by simp; omega
              clear hQ hev
              go_wp2
              exact bodyPost_ret (v := .tuple #[.int .i64 (n1 : Int), .int .i64 z1]) (post_2 Tryd.results82 rfl rfl) rfl ⟨by rw [← hQ2.out.1, ← hQ2.out.2], rfl⟩

set_option maxHeartbeats 400000 in
theorem oddText_any (m k : Nat) (w : World) (h : Sc m k) (hk : k ≤ 2045) (hm : 0 < m) (hP : PowTab w) :
    Calls Tryd.prog 71 #[.float .f64 (wd false m k)] w fun e w' => e = .returned (.string ⟨(oT m k).toArray⟩) ∧ Below w.heap.size w w' := by
  have a := oN_lt h hm
  have b := oE_in h hk hm
  have c := Lib.itoa_length_le (oN m k : Int) (by omega) (by omega)
  have d := Lib.itoa_length_le (oE m k) (by omega) (by omega)
  go_enter Tryd.func71, Tryd.ntmps71
  go_wp2_with fail
  refine (apart_any m k _ h hk hm).mono ?_
  rintro e w1 ⟨rfl, rfl⟩
  go_wp2_with fail
  refine (fmt_any _ _ (by omega) (by omega) hP).mono ?_
  rintro e w2 ⟨rfl, hb⟩
  go_wp2_with fail
  refine (itoa_any _ _ (by omega) (by omega) (hP.to hb)).mono ?_
  rintro e w3 ⟨rfl, hb3⟩
  have HT : Hid (oT m k = Lib.itoa (oN m k) ++ [42, 50, 94] ++ Lib.itoa (oE m k)) := rfl
  generalize Lib.itoa (oN m k : Int) = A at *
  generalize Lib.itoa (oE m k) = B at *
  go_wp2
  go_ret
  exact ⟨ret_str (by rw [HT.out]; exact cat3 A B), hb.trans (hb3.mono hb.size)⟩
end Go.Proofs.YtlflihegadjpdaaDoor

/- The text of a real number: the program's RealText. Helper text: no statement is claimed here. -/
namespace Go.Proofs.YtlflihegadjpdaaDoor
open Go.ChangeShapes Go.WideShapes Go.ChangeAt Go.RowKit Fl

section
attribute [local go_sem] unary_negF

set_option maxHeartbeats 400000 in
theorem it_nan (x : Nat) (w : World) (h : nan x) : Calls Tryd.prog 48 #[.float .f64 x] w (Texted x w) := by
  have h1 := (asks_nan h).n
  have H : Hid (nan x) := h
  clear h
  go_enter Tryd.func48, Tryd.ntmps48
  go_wp2
  go_ret
  exact ⟨[110, 97, 110], rfl, .isnan H.out, Below.refl _ _⟩
set_option maxHeartbeats 400000 in
theorem it_hi (x : Nat) (w : World) (T : TextR x [105, 110, 102]) (h1 : (ord x x != some .eq) = false) (h2 : (ord x 9218868437227405311 == some .gt) = true) : Calls Tryd.prog 48 #[.float .f64 x] w (Texted x w) := by
  have H : Hid (TextR x [105, 110, 102]) := T
  clear T
  go_enter Tryd.func48, Tryd.ntmps48
  go_wp2
  go_ret
  exact ⟨[105, 110, 102], rfl, H.out, Below.refl _ _⟩
set_option maxHeartbeats 400000 in
theorem it_lo (x : Nat) (w : World) (T : TextR x [45, 105, 110, 102]) (h1 : (ord x x != some .eq) = false) (h2 : (ord x 9218868437227405311 == some .gt) = false) (h3 : (ord x 18442240474082181119 == some .lt) = true) : Calls Tryd.prog 48 #[.float .f64 x] w (Texted x w) := by
  have H : Hid (TextR x [45, 105, 110, 102]) := T
  clear T
  go_enter Tryd.func48, Tryd.ntmps48
  go_wp2
  go_ret
  exact ⟨[45, 105, 110, 102], rfl, H.out, Below.refl _ _⟩
set_option maxHeartbeats 400000 in
theorem it_z (x y : Nat) (w : World) (T : TextR x [48]) (h1 : (ord x x != some .eq) = false) (h2 : (ord x 9218868437227405311 == some .gt) = false) (h3 : (ord x 18442240474082181119 == some .lt) = false) (h4 : (ord x 0 == some .eq) = true)
    (h6 : ∀ (t : TypeId) (w : World), (binOp .quo t (.float .f64 4607182418800017408) (.float .f64 x)).run Tryd.prog w = .ok (.float .f64 y) w) (h7 : (ord y 0 == some .lt) = false) : Calls Tryd.prog 48 #[.float .f64 x] w (Texted x w) := by
  have H : Hid (TextR x [48]) := T
  clear T
  go_enter Tryd.func48, Tryd.ntmps48
  go_wp2
  go_ret
  exact ⟨[48], rfl, H.out, Below.refl _ _⟩
set_option maxHeartbeats 400000 in
theorem it_nz (x y : Nat) (w : World) (T : TextR x [45, 48]) (h1 : (ord x x != some .eq) = false) (h2 : (ord x 9218868437227405311 == some .gt) = false) (h3 : (ord x 18442240474082181119 == some .lt) = false) (h4 : (ord x 0 == some .eq) = true)
    (h6 : ∀ (t : TypeId) (w : World), (binOp .quo t (.float .f64 4607182418800017408) (.float .f64 x)).run Tryd.prog w = .ok (.float .f64 y) w) (h7 : (ord y 0 == some .lt) = true) : Calls Tryd.prog 48 #[.float .f64 x] w (Texted x w) := by
  have H : Hid (TextR x [45, 48]) := T
  clear T
  go_enter Tryd.func48, Tryd.ntmps48
  go_wp2
  go_ret
  exact ⟨[45, 48], rfl, H.out, Below.refl _ _⟩
theorem it_inf (w : World) : Calls Tryd.prog 48 #[.float .f64 (wi false)] w (Texted (wi false) w) := it_hi _ w .inf (asks_wi false).n (asks_wi false).hi
theorem it_ninf (w : World) : Calls Tryd.prog 48 #[.float .f64 (wi true)] w (Texted (wi true) w) := it_lo _ w .ninf (asks_wi true).n (asks_wi true).hi (asks_wi true).lo
theorem it_zero (s : Bool) (w : World) : Calls Tryd.prog 48 #[.float .f64 (wd s 0 0)] w (Texted (wd s 0 0) w) := by
  have a := asks_wd sc00 (by omega) s
  cases s
  · exact it_z _ _ w .zero a.n a.hi a.lo a.z (run_someN (one_by_zero false)) (asks_wi false).ng
  · exact it_nz _ _ w .nzero a.n a.hi a.lo a.z (run_someN (one_by_zero true)) (asks_wi true).ng
set_option maxHeartbeats 400000 in
theorem it_pos (m k : Nat) (w : World) (h : Sc m k) (hk : k ≤ 2045) (hm : 0 < m) (hP : PowTab w) : Calls Tryd.prog 48 #[.float .f64 (wd false m k)] w (Texted (wd false m k) w) := by
  obtain ⟨h1, h2, h3, h4, h5⟩ := asks_wd h hk false
  have h4 : (ord (wd false m k) 0 == some .eq) = false := by rw [h4]; simp; omega
  have h5 : (ord (wd false m k) 0 == some .lt) = false := by rw [h5]; simp
  go_enter Tryd.func48, Tryd.ntmps48
  go_wp2_with fail
  refine (oddText_any m k _ h hk hm hP).mono ?_
  rintro e w1 ⟨rfl, hb⟩
  have H : Hid (TextR (wd false m k) (oT m k)) := TextR.pos h hk hm
  generalize oT m k = t at *
  go_wp2
  go_ret
  exact ⟨t, rfl, H.out, hb⟩
set_option maxHeartbeats 400000 in
theorem it_neg (m k : Nat) (w : World) (h : Sc m k) (hk : k ≤ 2045) (hm : 0 < m) (hP : PowTab w) : Calls Tryd.prog 48 #[.float .f64 (wd true m k)] w (Texted (wd true m k) w) := by
  obtain ⟨h1, h2, h3, h4, h5⟩ := asks_wd h hk true
  have h4 : (ord (wd true m k) 0 == some .eq) = false := by rw [h4]; simp; omega
  have h5 : (ord (wd true m k) 0 == some .lt) = true := by rw [h5]; simpa using hm
  have h6 : Op.negFloat .f64 (wd true m k) = wd false m k := neg_wd h hk true
  have hl := oT_len h hk hm
  go_enter Tryd.func48, Tryd.ntmps48
  go_wp2_with fail
  refine (oddText_any m k _ h hk hm hP).mono ?_
  rintro e w1 ⟨rfl, hb⟩
  have H : Hid (TextR (wd true m k) (45 :: oT m k)) := TextR.neg h hk hm
  generalize oT m k = t at *
  go_wp2
  go_ret
  exact ⟨45 :: t, ret_str (cat [45] t), H.out, hb⟩
end
theorem it_any (x : Nat) (w : World) (hx : x < 2 ^ 64) (hP : PowTab w) : Calls Tryd.prog 48 #[.float .f64 x] w (Texted x w) := by
  rcases cases_wd hx with ⟨s, m, k, hs, hk, rfl⟩ | ⟨s, rfl⟩ | hn
  · by_cases h0 : m = 0
    · rw [wd_zeroN hs h0]; exact it_zero s w
    · cases s
      · exact it_pos m k w hs hk (by omega) hP
      · exact it_neg m k w hs hk (by omega) hP
  · cases s
    · exact it_inf w
    · exact it_ninf w
  · exact it_nan x w hn
end Go.Proofs.YtlflihegadjpdaaDoor
