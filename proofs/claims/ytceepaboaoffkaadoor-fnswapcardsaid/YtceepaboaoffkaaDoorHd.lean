/- Drawing a test of two real numbers. Helper text: no statement is claimed here. -/
import Derived.Test.YtceepaboaoffkaaDoorRs
import Derived.Test.YtceepaboaoffkaaDoorHc
namespace Go.Proofs.YtceepaboaoffkaaDoor
open Go.ChangeShapes Go.WideShapes Go.ChangeAt Go.RowKit

theorem isRow_below {w w' : World} {s : Option Addr} {len : Nat} (h : IsRow w s len) (hb : Below w.heap.size w w') : IsRow w' s len := by
  rcases h with h | ⟨b, off, f, rfl, hc⟩
  · exact .inl h
  · refine .inr ⟨b, off, f, rfl, fun i hi => ?_⟩
    have := hc i hi
    rw [hb.cell (p := ⟨b, off + i, none⟩) (World.block_lt_of_cell? w ⟨b, off + i, none⟩ this.1)]
    exact this

def DrawnRCmp (w : World) (e : Ending) (w' : World) : Prop := ∃ (o : Int) (x y : Nat), e = .returned (.tuple #[.int .i64 o, .float .f64 x, .float .f64 y]) ∧ x < 2 ^ 64 ∧ y < 2 ^ 64 ∧ Below w.heap.size w w'
set_option maxHeartbeats 400000 in
theorem drawRCmp_any (a : Option Addr) (len cap : Nat) (w : World) (h : IsRow w a len) (hlc : len ≤ cap) :
    Calls Tryd.prog 8 #[.slice a len cap] w (DrawnRCmp w) := by
  have hH : Hid (IsRow w a len) := h
  clear h
  go_enter Tryd.func8, Tryd.ntmps8
  go_wp2_with fail
  refine (open_any a len cap _ hH.out hlc).mono ?_
  rintro e w1 ⟨rfl, hr1, hb1⟩
  go_wp2_with fail
  refine (op_any w.heap.size 0 _ hr1 (by omega)).mono ?_
  rintro e w2 ⟨o, rfl, o0, o1, hr2, st2⟩
  have sw2 : Below w.heap.size w w2 := hb1.trans (st2.below (by omega) hb1.size)
  clear hb1 hr1 st2
  go_wp2_with fail
  refine (real_any w.heap.size 2 _ hr2 (by omega)).mono ?_
  rintro e w3 ⟨x, rfl, hx, hr3, st3⟩
  have sw3 : Below w.heap.size w w3 := sw2.trans (st3.below (by omega) sw2.size)
  clear sw2 hr2 st3
  have hX : Hid (x < 2 ^ 64) := hx
  clear hx
  go_wp2_with fail
  refine (pick_any w.heap.size 122 3 _ (by omega) hr3 (by omega)).mono ?_
  rintro e w4 ⟨u, rfl, u0, u1, -, hr4, st4⟩
  have sw4 : Below w.heap.size w w4 := sw3.trans (st4.below (by omega) sw3.size)
  clear st4 sw3 hr3 u1
  by_cases h0 : u = 0
  · subst h0
    go_wp2
    exact bodyPost_ret (post_3c Tryd.results8 rfl rfl rfl) rfl ⟨o, x, _, rfl, hX.out, hX.out, sw4⟩
  · have h0' : (u == 0) = false := by simpa using h0
    clear h0
    go_wp2_with fail
    refine (real_any w.heap.size 123 _ hr4 (by omega)).mono ?_
    rintro e w5 ⟨y, rfl, hy, hr5, st5⟩
    have sw5 : Below w.heap.size w w5 := sw4.trans (st5.below (by omega) sw4.size)
    have hY : Hid (y < 2 ^ 64) := hy
    clear hy
    go_wp2
    exact bodyPost_ret (post_3c Tryd.results8 rfl rfl rfl) rfl ⟨o, x, _, rfl, hX.out, hY.out, sw5⟩
end Go.Proofs.YtceepaboaoffkaaDoor
