/- The drawing of real numbers' texts; the walk of FnRealBack. Helper text: no statement is claimed here. -/
import Derived.Test.YtedobjegolpbjaaDoorXa
import Derived.Test.YtedobjegolpbjaaDoorXe
import Derived.Test.YtedobjegolpbjaaDoorRs
import Derived.Test.YtedobjegolpbjaaDoorRo
namespace Go.Proofs.YtedobjegolpbjaaDoor
open Go.ChangeShapes Go.WideShapes Go.ChangeAt Go.RowKit Fl

def DrawnReal (w : World) (e : Ending) (w' : World) : Prop := ∃ x : Nat, e = .returned (.float .f64 x) ∧ x < 2 ^ 64 ∧ Below w.heap.size w w'
set_option maxHeartbeats 400000 in
theorem drawRT_any (a : Option Addr) (len cap : Nat) (w : World) (h : IsRow w a len) (hlc : len ≤ cap) :
    Calls Tryd.prog 11 #[.slice a len cap] w (DrawnReal w) := by
  have hH : Hid (IsRow w a len) := h
  clear h
  go_enter Tryd.func11, Tryd.ntmps11
  go_wp2_with fail
  refine (open_any a len cap _ hH.out hlc).mono ?_
  rintro e w1 ⟨rfl, hr1, hb1⟩
  go_wp2_with fail
  refine (real_any w.heap.size 0 _ hr1 (by omega)).mono ?_
  rintro e w2 ⟨x, rfl, hx, hr2, st2⟩
  have sw2 : Below w.heap.size w w2 := hb1.trans (st2.below (by omega) hb1.size)
  go_wp2
  go_ret
  exact ⟨x, rfl, hx, sw2⟩
def DrawnTx (w : World) (e : Ending) (w' : World) : Prop := ∃ t : List UInt8, e = .returned (.string ⟨t.toArray⟩) ∧ t.length ≤ 1000 ∧ Below w.heap.size w w'
theorem as_list (s : ByteArray) : ∃ t : List UInt8, s = ⟨t.toArray⟩ ∧ t.length = s.size := ⟨s.data.toList, by simp, by simp⟩
set_option maxHeartbeats 2000000 in
theorem drawRR_any (a : Option Addr) (len cap : Nat) (w : World) (h : IsRow w a len) (hlc : len ≤ cap) :
    Calls Tryd.prog 15 #[.slice a len cap] w (DrawnTx w) := by
  have hH : Hid (IsRow w a len) := h
  clear h
  go_enter Tryd.func15, Tryd.ntmps15
  go_wp2_with fail
  refine (open_any a len cap _ hH.out hlc).mono ?_
  rintro e w1 ⟨rfl, hr1, hb1⟩
  go_wp2_with fail
  refine (real_any w.heap.size 0 _ hr1 (by omega)).mono ?_
  rintro e w2 ⟨x, rfl, hx, hr2, st2⟩
  have sw2 : Below w.heap.size w w2 := hb1.trans (st2.below (by omega) hb1.size)
  clear hb1 hr1 st2
  go_wp2_with fail
  refine (st_any x _ hx).mono ?_
  rintro e w3 ⟨t, rfl, htx, hb3⟩
  have htl := htx.len
  have hr3 := hr2.to hb3
  have sw3 : Below w.heap.size w w3 := sw2.trans (hb3.mono sw2.size)
  clear htx hb3 hr2 sw2
  go_wp2_with fail
  refine (pick_any w.heap.size 120 9 _ (by omega) hr3 (by omega)).mono ?_
  rintro e w4 ⟨u, rfl, u0, u1, -, hr4, st4⟩
  have sw4 : Below w.heap.size w w4 := sw3.trans (st4.below (by omega) sw3.size)
  have hlt4 := hr4.lt
  clear st4 sw3 hr3 u1
  by_cases h0 : u = 0
  · subst h0
    go_wp2_with fail
    refine (of_any w.heap.size 121 w4.heap.size 28 _ (by omega) (by omega) (hr4.alloc _) (by omega) (strs_all _ _ _ _ rfl rfl) (by omega)).mono ?_
    rintro e w5 ⟨z, rfl, hz, hr5, st5⟩
    have sw5 : Below w.heap.size w w5 := (sw4.alloc sw4.size _).trans (st5.below (by omega) (by have := sw4.size; simp; omega))
    obtain ⟨tz, rfl, hzl⟩ := as_list z
    go_wp2
    go_ret
    exact ⟨tz, rfl, by omega, sw5⟩
  have h0' : (u == 0) = false := by simpa using h0
  by_cases h1 : u = 1
  · subst h1
    go_wp2_with fail
    refine (of_any w.heap.size 121 w4.heap.size 4 _ (by omega) (by omega) (hr4.alloc _) (by omega) (strs_all _ _ _ _ rfl rfl) (by omega)).mono ?_
    rintro e w5 ⟨z, rfl, hz, hr5, st5⟩
    have sw5 : Below w.heap.size w w5 := (sw4.alloc sw4.size _).trans (st5.below (by omega) (by have := sw4.size; simp; omega))
    obtain ⟨tz, rfl, hzl⟩ := as_list z
    have hz2 : tz.length ≤ 100 := by omega
    clear hz hzl
    go_wp2
    go_ret
    exact ⟨t ++ tz, ret_str (cat t tz), by simp; omega, sw5⟩
  have h1' : (u == 1) = false := by simpa using h1
  by_cases h2 : u = 2
  · subst h2
    go_wp2_with fail
    refine (of_any w.heap.size 121 w4.heap.size 4 _ (by omega) (by omega) (hr4.alloc _) (by omega) (strs_all _ _ _ _ rfl rfl) (by omega)).mono ?_
    rintro e w5 ⟨z, rfl, hz, hr5, st5⟩
    have sw5 : Below w.heap.size w w5 := (sw4.alloc sw4.size _).trans (st5.below (by omega) (by have := sw4.size; simp; omega))
    obtain ⟨tz, rfl, hzl⟩ := as_list z
    have hz2 : tz.length ≤ 100 := by omega
    clear hz hzl
    go_wp2
    go_ret
    exact ⟨tz ++ t, ret_str (cat tz t), by simp; omega, sw5⟩
  have h2' : (u == 2) = false := by simpa using h2
  clear h0 h1 h2
  go_wp2
  go_ret
  exact ⟨t, rfl, by omega, sw4⟩

theorem IsRow.belowX {w w' : World} {a : Option Addr} {len : Nat} (h : IsRow w a len) (hb : Below w.heap.size w w') : IsRow w' a len := by
  rcases h with h | ⟨b, off, f, rfl, hc⟩
  · exact .inl h
  · refine .inr ⟨b, off, f, rfl, fun i hi => ?_⟩
    have := hc i hi
    rw [hb.cell (p := ⟨b, off + i, none⟩) (World.block_lt_of_cell? w ⟨b, off + i, none⟩ this.1)]
    exact this
set_option maxHeartbeats 4000000 in
theorem rback_walk (c d : Option Addr) (len cap len' cap' : Nat) (w : World) (h : IsRow w c len) (hlc : len ≤ cap) (h' : IsRow w d len') (hlc' : len' ≤ cap') (hL : LTab w) (hP : PowTab w) :
    Calls Tryd.prog 4 #[.slice c len cap, .slice d len' cap'] w fun e w' => e = .returned (.bool true) ∧ Below w.heap.size w w' := by
  by_cases hl : 1048576 < len
  · have hl1 : (1048576 : Int) < len := by omega
    clear h h'
    go_enter Tryd.func4, Tryd.ntmps4
    go_wp2
    go_ret
    exact ⟨rfl, Below.refl _ _⟩
  have hl1 : ¬ (1048576 : Int) < len := by omega
  by_cases hl' : 1048576 < len'
  · have hl1' : (1048576 : Int) < len' := by omega
    clear h h'
    go_enter Tryd.func4, Tryd.ntmps4
    go_wp2
    go_ret
    exact ⟨rfl, Below.refl _ _⟩
  have hl1' : ¬ (1048576 : Int) < len' := by omega
  have hH : Hid (IsRow w c len) := h
  have hH' : Hid (IsRow w d len') := h'
  clear h h'
  go_enter Tryd.func4, Tryd.ntmps4
  go_wp2_with fail
  refine (drawRT_any c len cap _ hH.out hlc).mono ?_
  rintro e w1 ⟨x, rfl, hx, hb1⟩
  go_wp2_with fail
  refine (drawRT_any d len' cap' _ (hH'.out.belowX hb1) hlc').mono ?_
  rintro e w2 ⟨y, rfl, hy, hb2⟩
  have hb12 := hb1.trans (hb2.mono hb1.size)
  go_wp2_with fail
  refine (it_any x _ hx (hP.to hb12)).mono ?_
  rintro e w3 ⟨s, rfl, hs, hb3⟩
  have hsl := hs.len
  have HS : Hid (TextR x s) := hs
  clear hs
  have hb13 := hb12.trans (hb3.mono hb12.size)
  go_wp2_with fail
  refine (irl_any s _ (by omega) (hL.to hb13) (hP.to hb13)).mono ?_
  rintro e w4 ⟨back, ok, rfl, hrd, hb4⟩
  have hbk := hrd.1
  obtain ⟨hok, hsame⟩ := hrd.one (⟨hx, .inl ⟨rfl, HS.out⟩⟩ : RdR s x true)
  subst hok
  have HB : Hid (SameV back x) := hsame
  clear hsame hrd
  have hb14 := hb13.trans (hb4.mono hb13.size)
  go_wp2_with fail
  refine (ws_any back x _ hbk hx).mono ?_
  rintro e w5 ⟨b5, rfl, rfl, hb5⟩
  obtain rfl : b5 = true := hb5.2 HB.out
  clear hb5
  go_wp2_with fail
  refine (it_any y _ hy (hP.to hb14)).mono ?_
  rintro e w6 ⟨ty, rfl, hty, hb6⟩
  have HTY : Hid (TextR y ty) := hty
  clear hty
  have hb16 := hb14.trans (hb6.mono hb14.size)
  go_wp2_with fail
  refine (ws_any x y _ hx hy).mono ?_
  rintro e w7 ⟨b7, rfl, rfl, hb7⟩
  have heq : (s == ty) = b7 := by
    rw [Bool.eq_iff_iff, hb7]
    simp only [beq_iff_eq]
    exact text_iff HS.out HTY.out
  clear hb7
  have hHd : Hid (IsRow w7 d len') := hH'.out.belowX hb16
  go_wp2_with fail
  refine (drawRR_any d len' cap' _ hHd.out hlc').mono ?_
  rintro e w8 ⟨t, rfl, htl, hb8⟩
  have hb18 := hb16.trans (hb8.mono hb16.size)
  clear heq
  go_wp2_with fail
  refine (irl_any t _ (by omega) (hL.to hb18) (hP.to hb18)).mono ?_
  rintro e w9 ⟨z, fine, rfl, hz, hb9⟩
  have hb19 := hb18.trans (hb9.mono hb18.size)
  have hzl := hz.1
  have HZ : Hid (RdR t z fine) := hz
  clear hz
  go_wp2_with fail
  refine (srl_any t _ (by omega)).mono ?_
  rintro e w10 ⟨want, told, rfl, hwt, hb10⟩
  have hb110 := hb19.trans (hb10.mono hb19.size)
  have hwl := hwt.1
  obtain ⟨hft, hsame⟩ := HZ.out.one hwt
  subst hft
  have HSM : Hid (SameV z want) := hsame
  clear hsame hwt
  cases fine
  · go_wp2_with fail
    refine (ws_any z want _ hzl hwl).mono ?_
    rintro e w11 ⟨b11, rfl, rfl, hb11⟩
    obtain rfl : b11 = true := hb11.2 HSM.out
    clear hb11
    go_wp2
    go_ret
    exact ⟨rfl, hb110⟩
  · have HZT : Hid (TextR z t) := by
      rcases HZ.out.2 with ⟨-, h⟩ | ⟨h, -⟩
      · exact h
      · cases h
    go_wp2_with fail
    refine (ws_any z want _ hzl hwl).mono ?_
    rintro e w11 ⟨b11, rfl, rfl, hb11⟩
    obtain rfl : b11 = true := hb11.2 HSM.out
    clear hb11
    go_wp2_with fail
    refine (it_any z _ hzl (hP.to hb110)).mono ?_
    rintro e w12 ⟨tz, rfl, htz, hb12'⟩
    obtain rfl : tz = t := htz.one HZT.out
    have hb112 := hb110.trans (hb12'.mono hb110.size)
    clear htz
    go_wp2
    go_ret
    exact ⟨rfl, hb112⟩
end Go.Proofs.YtedobjegolpbjaaDoor
