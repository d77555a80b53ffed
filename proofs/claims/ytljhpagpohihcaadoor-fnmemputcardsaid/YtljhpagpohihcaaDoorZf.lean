/- The drawing of a memory, an operand and a bit: DrawMemPut. Helper text: no statement is claimed here. -/
import Derived.Test.YtljhpagpohihcaaDoorZe
import Derived.Deep.Cut
namespace Go.Proofs.YtljhpagpohihcaaDoor
open Go.ChangeShapes Go.WideShapes Go.ChangeAt Go.RowKit

theorem res3 {fn : Func} {W : World} {b c p q r : Nat} {tmps : Array Value} {m : Mm} {x y z v : Value} (h : fn.results = #[.cell p 37, .cell q 39, .tmp r]) (hp : tmps.getD p undef = .pointer (some ⟨b, 0, none⟩)) (hq : tmps.getD q undef = .pointer (some ⟨c, 0, none⟩)) (hr : tmps.getD r undef = v)
    (hM : MemAt W b m) (hc : W.cell? ⟨c, 0, none⟩ = some x ∧ W.cell? ⟨c, 1, none⟩ = some y ∧ W.cell? ⟨c, 2, none⟩ = some z) : (results fn tmps).run Tryd.prog W = .ok (.tuple #[m.val, .agg #[x, y, z], v]) W := by
  obtain ⟨h0, h1, h2⟩ := hc
  have hA : (loadVar 39 ⟨c, 0, none⟩).run Tryd.prog W = .ok (.agg #[x, y, z]) W := by simp [go_sem, h0, h1, h2]
  have hp' : tmps[p]?.getD undef = .pointer (some ⟨b, 0, none⟩) := by simpa [Array.getD_eq_getD_getElem?] using hp
  have hq' : tmps[q]?.getD undef = .pointer (some ⟨c, 0, none⟩) := by simpa [Array.getD_eq_getD_getElem?] using hq
  have hr' : tmps[r]?.getD undef = v := by simpa [Array.getD_eq_getD_getElem?] using hr
  simp [results, h, hp', hq', hr', asAddr, runMem hM, hA]

/-- What the drawing of a memory, an operand and a third value ends in. -/
def DrawnMAV (w : World) (G : Value → Prop) (e : Ending) (w' : World) : Prop := ∃ (mm : Mm) (k n p : Int) (v : Value), e = .returned (.tuple #[mm.val, .agg #[.int .i64 k, .int .i64 n, .int .i64 p], v]) ∧ mm.Ok ∧ Sm k ∧ (-4000000000 ≤ n ∧ n ≤ 4000000000) ∧ Sm p ∧ G v ∧ Below w.heap.size w w'
set_option maxHeartbeats 1000000 in
set_option maxRecDepth 100000 in
theorem drawPut_any (a : Option Addr) (len cap : Nat) (w : World) (h : IsRow w a len) (hlc : len ≤ cap) :
    Calls Tryd.prog 9 #[.slice a len cap] w (DrawnMAV w fun v => ∃ b, v = .bool b) := by
  have hz : ∀ w, (zeroValue 37).run Tryd.prog w = .ok (.agg zeroM.cells) w := fun _ => by kernel_rfl
  have HH : Hid (IsRow w a len) := h
  clear h
  go_enter Tryd.func9, Tryd.ntmps9
  go_upto_region 1 with fail
  have HB : Hid (Below w.heap.size w ((w.alloc (.cells zeroM.cells 37)).alloc (.cells #[.int .i64 0, .int .i64 0, .int .i64 0] 39))) := ((Below.refl _ _).alloc (Nat.le_refl _) _).alloc (by simp) _
  have HI : Hid (IsRow ((w.alloc (.cells zeroM.cells 37)).alloc (.cells #[.int .i64 0, .int .i64 0, .int .i64 0] 39)) a len) := (HH.out.alloc _).alloc _
  have HR : Hid (RowF ((w.alloc (.cells zeroM.cells 37)).alloc (.cells #[.int .i64 0, .int .i64 0, .int .i64 0] 39)) w.heap.size) := ⟨_, (RowAt.new w 37 136 zeroM.cell).alloc _⟩
  have HO : Hid (Own ((w.alloc (.cells zeroM.cells 37)).alloc (.cells #[.int .i64 0, .int .i64 0, .int .i64 0] 39)) (w.heap.size + 1) (.int .i64 0) (.int .i64 0) (.int .i64 0)) := by
    have := Own.new (w.alloc (.cells zeroM.cells 37)) (.int .i64 0) (.int .i64 0) (.int .i64 0)
    rw [show (w.alloc (.cells zeroM.cells 37)).heap.size = w.heap.size + 1 by simp] at this
    exact this
  have HS : Hid ((World.heap ((w.alloc (.cells zeroM.cells 37)).alloc (.cells #[.int .i64 0, .int .i64 0, .int .i64 0] 39))).size = w.heap.size + 2) := by show _ = _; simp
  generalize ((w.alloc (.cells zeroM.cells 37)).alloc (.cells #[.int .i64 0, .int .i64 0, .int .i64 0] 39)) = V at *
  clear hz
  have HOp : Hid (∃ rb, rb = V.heap.size ∧ Calls Tryd.prog 32 #[.slice a len cap] V fun e w' => e = .returned (.pointer (some ⟨rb, 0, none⟩)) ∧ Rd w' rb 0 ∧ Below V.heap.size V w') := ⟨_, rfl, open_any a len cap V HI.out hlc⟩
  obtain ⟨rb, hrb, hcall⟩ := HOp.out
  have hs : w.heap.size + 1 < rb := by have := hrb.trans HS.out; omega
  have HCall : Hid _ := hcall
  clear HOp hcall
  go_wp2_with fail
  refine Calls.mono HCall.out ?_
  rintro e w1 ⟨rfl, hr1, hb1⟩
  have hl1 : rb < w1.heap.size := hr1.lt
  have HB1 : Hid (Below w.heap.size w w1) := HB.out.trans (hb1.mono HB.out.size)
  have HR1 : Hid (RowF w1 w.heap.size) := by obtain ⟨f, hf⟩ := HR.out; exact ⟨f, hf.to hb1⟩
  have HO1 : Hid (Own w1 (w.heap.size + 1) (.int .i64 0) (.int .i64 0) (.int .i64 0)) := HO.out.below hb1
  have Hr1 : Hid (Rd w1 rb 0) := hr1
  clear hb1 hr1 HB HI HR HO HS HCall hrb
  go_wp2_with fail
  refine (pick_any rb 0 2 _ (by omega) Hr1.out (by omega)).mono ?_
  rintro e w1' ⟨t, rfl, -, -, -, hr1', st1'⟩
  have HR1' : Hid (RowF w1' w.heap.size) := HR1.out.step st1' (by omega)
  have HO1' : Hid (Own w1' (w.heap.size + 1) (.int .i64 0) (.int .i64 0) (.int .i64 0)) := HO1.out.step st1' (by omega)
  have hl1' : rb < w1'.heap.size := hr1'.lt
  have HB1' : Hid (Below w.heap.size w w1') := HB1.out.trans (st1'.below (by omega) (by omega))
  have Hr1' : Hid (Rd w1' rb 1) := hr1'
  clear hr1' st1' HR1 HO1 HB1 Hr1
  go_wp2_with fail
  have hA : Calls Tryd.prog 34 #[.pointer (some ⟨rb, 0, none⟩)] w1' (DrawnA rb 11 w1') := asks_any rb 1 w1' Hr1'.out (by omega)
  refine Calls.mono hA ?_
  clear hA
  rintro e w2 ⟨k, n, p, rfl, hk, hn, hp, hr2, st2⟩
  have HR2 : Hid (RowF w2 w.heap.size) := HR1'.out.step st2 (by omega)
  have HO2 : Hid (Own w2 (w.heap.size + 1) (.int .i64 0) (.int .i64 0) (.int .i64 0)) := HO1'.out.step st2 (by omega)
  have hl2 : rb < w2.heap.size := hr2.lt
  have HB2 : Hid (Below w.heap.size w w2) := HB1'.out.trans (st2.below (by omega) (by omega))
  have Hr2 : Hid (Rd w2 rb 11) := hr2
  clear hr2 st2 HR1' HO1' HB1' Hr1'
  go_upto_region 4 with fail
  have HA3 : Hid (Own (w2.alloc (.cells #[.int .i64 k, .int .i64 n, .int .i64 p] 39)) w2.heap.size (.int .i64 k) (.int .i64 n) (.int .i64 p)) := Own.new w2 _ _ _
  have HR3 : Hid (RowF (w2.alloc (.cells #[.int .i64 k, .int .i64 n, .int .i64 p] 39)) w.heap.size) := by obtain ⟨f, hf⟩ := HR2.out; exact ⟨f, hf.alloc _⟩
  have HO3 : Hid (Own (w2.alloc (.cells #[.int .i64 k, .int .i64 n, .int .i64 p] 39)) (w.heap.size + 1) (.int .i64 0) (.int .i64 0) (.int .i64 0)) := HO2.out.alloc _
  have HB3 : Hid (Below w.heap.size w (w2.alloc (.cells #[.int .i64 k, .int .i64 n, .int .i64 p] 39))) := HB2.out.alloc HB2.out.size _
  have Hr3 : Hid (Rd (w2.alloc (.cells #[.int .i64 k, .int .i64 n, .int .i64 p] 39)) rb 11) := Hr2.out.alloc _
  generalize w2.alloc (.cells #[.int .i64 k, .int .i64 n, .int .i64 p] 39) = W3 at *
  clear HR2 HO2 HB2 Hr2
  go_wp2_with fail
  refine (pick_any rb 11 2 _ (by omega) Hr3.out (by omega)).mono ?_
  rintro e W4 ⟨u, rfl, u0, u1, -, hr4, st4⟩
  have HA4 : Hid (Own W4 w2.heap.size (.int .i64 k) (.int .i64 n) (.int .i64 p)) := HA3.out.step st4 (by omega)
  have HR4 : Hid (RowF W4 w.heap.size) := HR3.out.step st4 (by omega)
  have HO4 : Hid (Own W4 (w.heap.size + 1) (.int .i64 0) (.int .i64 0) (.int .i64 0)) := HO3.out.step st4 (by omega)
  have hl4 : rb < W4.heap.size := hr4.lt
  have HB4 : Hid (Below w.heap.size w W4) := HB3.out.trans (st4.below (by omega) HB3.out.size)
  have Hr4 : Hid (Rd W4 rb 12) := hr4
  clear hr4 st4 HR3 HO3 HB3 Hr3 HA3
  by_cases hu : u = 0
  · subst hu
    go_wp2_with fail
    refine (pick_any rb 12 4 _ (by omega) Hr4.out (by omega)).mono ?_
    rintro e W5 ⟨q, rfl, q0, q1, -, hr5, st5⟩
    have q1 := q1 (by omega)
    have hwr : IntKind.i64.wrap (2 + q) = 2 + q := wrap_smallZ (by omega) (by omega)
    have HA5 : Hid (Own W5 w2.heap.size (.int .i64 k) (.int .i64 n) (.int .i64 p)) := HA4.out.step st5 (by omega)
    have HR5 : Hid (RowF W5 w.heap.size) := HR4.out.step st5 (by omega)
    have HO5 : Hid (Own W5 (w.heap.size + 1) (.int .i64 0) (.int .i64 0) (.int .i64 0)) := HO4.out.step st5 (by omega)
    have hl5 : rb < W5.heap.size := hr5.lt
    have HB5 : Hid (Below w.heap.size w W5) := HB4.out.trans (st5.below (by omega) HB4.out.size)
    have Hr5 : Hid (Rd W5 rb 13) := hr5
    clear hr5 st5 HR4 HO4 HB4 Hr4 HA4
    go_wp2_with fail
    refine (arg_any rb 13 (2 + q) _ Hr5.out (by omega) (by unfold Sm; omega)).mono ?_
    rintro e W6 ⟨k', n', p', rfl, hk', hn', hp', hr6, st6⟩
    have HA6 : Hid (Own W6 w2.heap.size (.int .i64 k) (.int .i64 n) (.int .i64 p)) := HA5.out.step st6 (by omega)
    have HR6 : Hid (RowF W6 w.heap.size) := HR5.out.step st6 (by omega)
    have HO6 : Hid (Own W6 (w.heap.size + 1) (.int .i64 0) (.int .i64 0) (.int .i64 0)) := HO5.out.step st6 (by omega)
    have hl6 : rb < W6.heap.size := hr6.lt
    have HB6 : Hid (Below w.heap.size w W6) := HB5.out.trans (st6.below (by omega) HB5.out.size)
    have Hr6 : Hid (Rd W6 rb 17) := hr6
    clear hr6 st6 HR5 HO5 HB5 Hr5 HA5
    obtain ⟨⟨o0, o1, o2⟩, z0, z1, z2⟩ := HA6.out
    go_upto_region 6 with fail
    have HA7 : Hid (Own (((W6.setCell ⟨w2.heap.size, 0, none⟩ (.int .i64 k')).setCell ⟨w2.heap.size, 1, none⟩ (.int .i64 n')).setCell ⟨w2.heap.size, 2, none⟩ (.int .i64 p')) w2.heap.size (.int .i64 k') (.int .i64 n') (.int .i64 p')) := HA6.out.put _ _ _
    have HR7 : Hid (RowF (((W6.setCell ⟨w2.heap.size, 0, none⟩ (.int .i64 k')).setCell ⟨w2.heap.size, 1, none⟩ (.int .i64 n')).setCell ⟨w2.heap.size, 2, none⟩ (.int .i64 p')) w.heap.size) := ((HR6.out.other _ (by omega)).other _ (by omega)).other _ (by omega)
    have HO7 : Hid (Own (((W6.setCell ⟨w2.heap.size, 0, none⟩ (.int .i64 k')).setCell ⟨w2.heap.size, 1, none⟩ (.int .i64 n')).setCell ⟨w2.heap.size, 2, none⟩ (.int .i64 p')) (w.heap.size + 1) (.int .i64 0) (.int .i64 0) (.int .i64 0)) := ((HO6.out.set (by omega)).set (by omega)).set (by omega)
    have HB7 : Hid (Below w.heap.size w (((W6.setCell ⟨w2.heap.size, 0, none⟩ (.int .i64 k')).setCell ⟨w2.heap.size, 1, none⟩ (.int .i64 n')).setCell ⟨w2.heap.size, 2, none⟩ (.int .i64 p'))) := put3_below HB6.out (by omega)
    have Hr7 : Hid (Rd (((W6.setCell ⟨w2.heap.size, 0, none⟩ (.int .i64 k')).setCell ⟨w2.heap.size, 1, none⟩ (.int .i64 n')).setCell ⟨w2.heap.size, 2, none⟩ (.int .i64 p')) rb 17) := Hr6.out.set3 hl2 (Nat.le_refl _)
    clear o0 o1 o2 z0 z1 z2 HR6 HO6 HB6 Hr6 HA6
    generalize (((W6.setCell ⟨w2.heap.size, 0, none⟩ (.int .i64 k')).setCell ⟨w2.heap.size, 1, none⟩ (.int .i64 n')).setCell ⟨w2.heap.size, 2, none⟩ (.int .i64 p')) = W7 at *
    refine put_regionP Tryd.call36 HA7.out ⟨_, _, _, HO7.out⟩ HR7.out Hr7.out (by omega) (by omega) (by omega) (by omega) (by omega) (by omega) (fun W hW => draw_any rb 17 W hW (by omega)) ?_
    intro mm w4 hmm hat hc hrest
    have hB4 : Below w.heap.size w w4 := HB7.out.trans ⟨hrest.2.1, hrest.2.2.1, hrest.2.2.2.1, hrest.1, fun j hj => hrest.2.2.2.2 j (Nat.lt_of_lt_of_le hj HB7.out.size) (by omega) (by omega) (by omega)⟩
    have HAT : Hid (MemAt w4 w.heap.size mm) := hat
    have HC : Hid (w4.cell? ⟨w.heap.size + 1, 0, none⟩ = some (.int .i64 k') ∧ w4.cell? ⟨w.heap.size + 1, 1, none⟩ = some (.int .i64 n') ∧ w4.cell? ⟨w.heap.size + 1, 2, none⟩ = some (.int .i64 p')) := hc
    clear hat hc hrest HA7 HO7 HR7 Hr7 HB7
    go_wp2
    exact bodyPost_ret (v := .tuple #[mm.val, .agg #[.int .i64 k', .int .i64 n', .int .i64 p'], .bool (t == 1)]) (res3 Tryd.results9 rfl rfl rfl HAT.out HC.out) rfl ⟨mm, k', n', p', _, rfl, hmm, hk', by unfold Sm at hn'; omega, hp', ⟨_, rfl⟩, hB4⟩
  · have hu' : (u == 0) = false := by simpa using hu
    go_upto_region 6 with fail
    refine put_regionP Tryd.call36 HA4.out ⟨_, _, _, HO4.out⟩ HR4.out Hr4.out (by omega) (by omega) (by omega) (by omega) (by omega) (by omega) (fun W hW => draw_any rb 12 W hW (by omega)) ?_
    intro mm w4 hmm hat hc hrest
    have hB4 : Below w.heap.size w w4 := HB4.out.trans ⟨hrest.2.1, hrest.2.2.1, hrest.2.2.2.1, hrest.1, fun j hj => hrest.2.2.2.2 j (Nat.lt_of_lt_of_le hj HB4.out.size) (by omega) (by omega) (by omega)⟩
    have HAT : Hid (MemAt w4 w.heap.size mm) := hat
    have HC : Hid (w4.cell? ⟨w.heap.size + 1, 0, none⟩ = some (.int .i64 k) ∧ w4.cell? ⟨w.heap.size + 1, 1, none⟩ = some (.int .i64 n) ∧ w4.cell? ⟨w.heap.size + 1, 2, none⟩ = some (.int .i64 p)) := hc
    clear hat hc hrest HA4 HO4 HR4 Hr4 HB4
    go_wp2
    exact bodyPost_ret (v := .tuple #[mm.val, .agg #[.int .i64 k, .int .i64 n, .int .i64 p], .bool (t == 1)]) (res3 Tryd.results9 rfl rfl rfl HAT.out HC.out) rfl ⟨mm, k, n, p, _, rfl, hmm, hk, hn, hp, ⟨_, rfl⟩, hB4⟩
end Go.Proofs.YtljhpagpohihcaaDoor
