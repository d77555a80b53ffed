/- The drawing of two memories: DrawMemSame. Helper text: no statement is claimed here. -/
import Derived.Test.YtlflihegadjpdaaDoorKr
import Derived.Test.YtlflihegadjpdaaDoorP39
import Derived.Test.YtlflihegadjpdaaDoorXe
import Derived.Test.YtlflihegadjpdaaDoorIm
namespace Go.Proofs.YtlflihegadjpdaaDoor
open Go.ChangeShapes Go.WideShapes Go.ChangeAt Go.RowKit Fl

theorem MemF.cellD {w : World} {b : Nat} (h : MemF w b) {k : Nat} (hk : k < 32) : ∃ z : Int, -32768 ≤ z ∧ z ≤ 32767 ∧ w.cell? ⟨b, 85 + k, none⟩ = Option.some (.int .i16 z) ∧ w.frozen? ⟨b, 85 + k, none⟩ = false := by
  obtain ⟨f, hf, hF⟩ := h
  obtain ⟨z, z0, z1, e⟩ := fit_dE hF k hk
  exact ⟨z, z0, z1, by rw [hf.cell (by omega), e], hf.frozen _⟩
theorem MemF.cellL {w : World} {b : Nat} (h : MemF w b) {k : Nat} (hk : k < 16) : ∃ z : Bool, w.cell? ⟨b, 37 + k * 3 + 1, none⟩ = Option.some (.bool z) ∧ w.frozen? ⟨b, 37 + k * 3 + 1, none⟩ = false := by
  obtain ⟨f, hf, hF⟩ := h
  obtain ⟨z, e⟩ := fit_clE hF k hk
  exact ⟨z, by rw [hf.cell (by omega), e], hf.frozen _⟩
theorem MemF.cellT {w : World} {b : Nat} (h : MemF w b) {k : Nat} (hk : k < 16) : ∃ z : Nat, w.cell? ⟨b, 5 + k * 2 + 1, none⟩ = Option.some (.int .u16 (z : Int)) ∧ w.frozen? ⟨b, 5 + k * 2 + 1, none⟩ = false := by
  obtain ⟨f, hf, hF⟩ := h
  obtain ⟨z, -, e⟩ := fit_tcE hF k hk
  exact ⟨z, by rw [hf.cell (by omega), e], hf.frozen _⟩
theorem res2M {fn : Func} {W : World} {b c p q : Nat} {tmps : Array Value} {m n : Mm} (h : fn.results = #[.cell p 37, .cell q 37]) (hp : tmps.getD p undef = .pointer (some ⟨b, 0, none⟩)) (hq : tmps.getD q undef = .pointer (some ⟨c, 0, none⟩))
    (hM : MemAt W b m) (hN : MemAt W c n) : (results fn tmps).run Tryd.prog W = .ok (.tuple #[m.val, n.val]) W := by
  have hp' : tmps[p]?.getD undef = .pointer (some ⟨b, 0, none⟩) := by simpa [Array.getD_eq_getD_getElem?] using hp
  have hq' : tmps[q]?.getD undef = .pointer (some ⟨c, 0, none⟩) := by simpa [Array.getD_eq_getD_getElem?] using hq
  simp [results, h, hp', hq', asAddr, runMem hM, runMem hN]
/-- What the drawing of two memories ends in. -/
def DrawnMM (w : World) (e : Ending) (w' : World) : Prop := ∃ ma mb : Mm, e = .returned (.tuple #[ma.val, mb.val]) ∧ ma.Ok ∧ mb.Ok ∧ Below w.heap.size w w'
section
attribute [local go_sem] store_floatZ
set_option maxHeartbeats 4000000 in
set_option maxRecDepth 100000 in
theorem drawSame_any (a : Option Addr) (len cap : Nat) (w : World) (h : IsRow w a len) (hlc : len ≤ cap) :
    Calls Tryd.prog 5 #[.slice a len cap] w (DrawnMM w) := by
  have hz : ∀ w, (zeroValue 37).run Tryd.prog w = .ok (.agg zeroM.cells) w := fun _ => by kernel_rfl
  have HH : Hid (IsRow w a len) := h
  clear h
  go_enter Tryd.func5, Tryd.ntmps5
  go_upto_region 1 with fail
  have HB : Hid (Below w.heap.size w ((w.alloc (.cells zeroM.cells 37)).alloc (.cells zeroM.cells 37))) := ((Below.refl _ _).alloc (Nat.le_refl _) _).alloc (by simp) _
  have HI : Hid (IsRow ((w.alloc (.cells zeroM.cells 37)).alloc (.cells zeroM.cells 37)) a len) := (HH.out.alloc _).alloc _
  have HP : Hid (RowF ((w.alloc (.cells zeroM.cells 37)).alloc (.cells zeroM.cells 37)) w.heap.size) := ⟨_, (RowAt.new w 37 136 zeroM.cell).alloc _⟩
  have HQ : Hid (RowF ((w.alloc (.cells zeroM.cells 37)).alloc (.cells zeroM.cells 37)) (w.heap.size + 1)) := by
    have := RowAt.new (w.alloc (.cells zeroM.cells 37)) 37 136 zeroM.cell
    rw [show (w.alloc (.cells zeroM.cells 37)).heap.size = w.heap.size + 1 by simp] at this
    exact ⟨_, this⟩
  have HS : Hid ((World.heap ((w.alloc (.cells zeroM.cells 37)).alloc (.cells zeroM.cells 37))).size = w.heap.size + 2) := by show _ = _; simp
  generalize ((w.alloc (.cells zeroM.cells 37)).alloc (.cells zeroM.cells 37)) = V at *
  have HOp : Hid (∃ rb, rb = V.heap.size ∧ Calls Tryd.prog 11 #[.slice a len cap] V fun e w' => e = .returned (.pointer (some ⟨rb, 0, none⟩)) ∧ Rd w' rb 0 ∧ Below V.heap.size V w') := ⟨_, rfl, open_any a len cap V HI.out hlc⟩
  obtain ⟨rb, hrb, hcall⟩ := HOp.out
  have hs : w.heap.size + 1 < rb := by have := hrb.trans HS.out; omega
  have HCall : Hid _ := hcall
  clear HOp hcall
  go_wp2_with fail
  refine Calls.mono HCall.out ?_
  rintro e w1 ⟨rfl, hr1, hb1⟩
  have hl1 : rb < w1.heap.size := hr1.lt
  have HB1 : Hid (Below w.heap.size w w1) := HB.out.trans (hb1.mono HB.out.size)
  have HP1 : Hid (RowF w1 w.heap.size) := by obtain ⟨f, hf⟩ := HP.out; exact ⟨f, hf.to hb1⟩
  have HQ1 : Hid (RowF w1 (w.heap.size + 1)) := by obtain ⟨f, hf⟩ := HQ.out; exact ⟨f, hf.to hb1⟩
  have Hr1 : Hid (Rd w1 rb 0) := hr1
  clear hb1 hr1 HB HI HP HQ HS HCall hrb
  go_wp2_with fail
  refine Calls.mono (draw_any rb 0 w1 Hr1.out (by omega)) ?_
  rintro e w2 ⟨ma, rfl, hma, hr2, st2⟩
  have HP2 : Hid (RowF w2 w.heap.size) := HP1.out.step st2 (by omega)
  have HQ2 : Hid (RowF w2 (w.heap.size + 1)) := HQ1.out.step st2 (by omega)
  have hl2 : rb < w2.heap.size := hr2.lt
  have HB2 : Hid (Below w.heap.size w w2) := HB1.out.trans (st2.below (by omega) (by omega))
  have Hr2 : Hid (Rd w2 rb 720) := hr2
  clear hr2 st2 HP1 HQ1 HB1 Hr1
  go_upto_region 3 with (refine wpList_rowStore rfl 37 (.tmp 5) (.tmp 11) rfl w2.heap.size 0 136 ma.cell ma.cell rfl rfl (RowAt.new w2 37 136 zeroM.cell) (by omega) (fun i _ => cell_one ma i) (fun i hi => by rw [if_pos ⟨by omega, by omega⟩, Nat.sub_zero]) (by kernel_rfl) ?_; intro w3 HZ3 hz3 hk3 hb3)
  have HP3 : Hid (RowF w3 w.heap.size) := by obtain ⟨f, hf⟩ := HP2.out; exact ⟨f, RowAt.by (hf.alloc _) (hk3 _ (by omega))⟩
  have HQ3 : Hid (RowF w3 (w.heap.size + 1)) := by obtain ⟨f, hf⟩ := HQ2.out; exact ⟨f, RowAt.by (hf.alloc _) (hk3 _ (by omega))⟩
  have HB3 : Hid (Below w.heap.size w w3) := hb3 _ _ (HB2.out.alloc HB2.out.size _) (by omega)
  have Hr3 : Hid (Rd w3 rb 720) := (Hr2.out.alloc _).setRow hk3 hz3 hl2
  have hl3 : w2.heap.size < w3.heap.size := by rw [hz3]; simp
  have HA3 : Hid (MemAt w3 w2.heap.size ma) := HZ3
  clear HZ3 hz3 hk3 hb3 HP2 HQ2 HB2 Hr2
  obtain ⟨b5, hb5⟩ : ∃ b5, b5 = w2.heap.size := ⟨_, rfl⟩
  rw [← hb5] at HA3 hl2 hl3 ⊢
  clear hb5
  go_upto_region 4 with (first | (refine wpList_rowLoad rfl 37 (.tmp 5) rfl _ 0 136 ma.cell rfl HA3.out (by omega) (fun i _ => by rw [Nat.zero_add]) Tryd.underlying37 rfl (by kernel_rfl) ?_) | (refine wpList_rowStore rfl 37 (.tmp 6) (.tmp 12) rfl w3.heap.size 0 136 ma.cell ma.cell rfl rfl (RowAt.new w3 37 136 zeroM.cell) (by omega) (fun i _ => cell_one ma i) (fun i hi => by rw [if_pos ⟨by omega, by omega⟩, Nat.sub_zero]) (by kernel_rfl) ?_; intro w4 HZ4 hz4 hk4 hb4))
  have HP4 : Hid (RowF w4 w.heap.size) := by obtain ⟨f, hf⟩ := HP3.out; exact ⟨f, RowAt.by (hf.alloc _) (hk4 _ (by omega))⟩
  have HQ4 : Hid (RowF w4 (w.heap.size + 1)) := by obtain ⟨f, hf⟩ := HQ3.out; exact ⟨f, RowAt.by (hf.alloc _) (hk4 _ (by omega))⟩
  have HB4 : Hid (Below w.heap.size w w4) := hb4 _ _ (HB3.out.alloc HB3.out.size _) (by omega)
  have Hr4 : Hid (Rd w4 rb 720) := (Hr3.out.alloc _).setRow hk4 hz4 (by omega)
  have HA4 : Hid (MemAt w4 b5 ma) := RowAt.by (RowAt.alloc HA3.out _) (hk4 _ (by omega))
  have HF4 : Hid (MemF w4 w3.heap.size) := MemF.of HZ4 hma
  clear HZ4 hz4 hk4 hb4 HP3 HQ3 HB3 Hr3 HA3 hz
  obtain ⟨b6, hb6⟩ : ∃ b6, b6 = w3.heap.size := ⟨_, rfl⟩
  rw [← hb6] at HF4 hl3 ⊢
  clear hb6
  go_wp2_with fail
  refine (pick_any rb 720 16 _ (by omega) Hr4.out (by omega)).mono ?_
  rintro e w5 ⟨k, rfl, k0, k1, -, hr5, st5⟩
  have HF5 : Hid (MemF w5 b6) := HF4.out.step st5 (by omega)
  have HA5 : Hid (MemAt w5 b5 ma) := RowAt.by HA4.out (st5.block b5 HA4.out.lt (by omega))
  have HP5 : Hid (RowF w5 w.heap.size) := HP4.out.step st5 (by omega)
  have HQ5 : Hid (RowF w5 (w.heap.size + 1)) := HQ4.out.step st5 (by omega)
  have HB5 : Hid (Below w.heap.size w w5) := HB4.out.trans (st5.below (by omega) HB4.out.size)
  clear st5 HF4 HA4 HP4 HQ4 HB4
  have Hr5 : Hid (Rd w5 rb 721) := hr5
  have hk16 := k1 (by omega)
  clear hr5 Hr4 k1
  obtain ⟨k, rfl⟩ := Int.eq_ofNat_of_zero_le k0
  go_wp2_with fail
  refine (pick_any rb 721 8 _ (by omega) Hr5.out (by omega)).mono ?_
  rintro e w6 ⟨c, rfl, c0, c1, -, hr6, st6⟩
  have HF6 : Hid (MemF w6 b6) := HF5.out.step st6 (by omega)
  have HA6 : Hid (MemAt w6 b5 ma) := RowAt.by HA5.out (st6.block b5 HA5.out.lt (by omega))
  have HP6 : Hid (RowF w6 w.heap.size) := HP5.out.step st6 (by omega)
  have HQ6 : Hid (RowF w6 (w.heap.size + 1)) := HQ5.out.step st6 (by omega)
  have HB6 : Hid (Below w.heap.size w w6) := HB5.out.trans (st6.below (by omega) HB5.out.size)
  clear st6 HF5 HA5 HP5 HQ5 HB5
  have Hr6 : Hid (Rd w6 rb 722) := hr6
  clear hr6 Hr5 c0 c1 k0
  by_cases h0 : c = 0
  · subst h0
    go_wp2_with fail
    refine (real_any rb 722 _ Hr6.out (by omega)).mono ?_
    rintro e w7 ⟨x, rfl, hx, hr7, st7⟩
    have HF7 : Hid (MemF w7 b6) := HF6.out.step st7 (by omega)
    have HA7 : Hid (MemAt w7 b5 ma) := RowAt.by HA6.out (st7.block b5 HA6.out.lt (by omega))
    have HP7 : Hid (RowF w7 w.heap.size) := HP6.out.step st7 (by omega)
    have HQ7 : Hid (RowF w7 (w.heap.size + 1)) := HQ6.out.step st7 (by omega)
    have HB7 : Hid (Below w.heap.size w w7) := HB6.out.trans (st7.below (by omega) HB6.out.size)
    clear st7 HF6 HA6 HP6 HQ6 HB6
    obtain ⟨v0, c0, f0⟩ := HF7.out.some (117 + k) (by omega)
    have HF8 : Hid (MemF (w7.setCell ⟨b6, 117 + k, none⟩ (.float .f64 x)) b6) := HF7.out.set _ _ (fit_r (by omega) hx)
    have HA8 : Hid (MemAt (w7.setCell ⟨b6, 117 + k, none⟩ (.float .f64 x)) b5 ma) := RowAt.other HA7.out _ (by omega)
    have HP8 : Hid (RowF (w7.setCell ⟨b6, 117 + k, none⟩ (.float .f64 x)) w.heap.size) := HP7.out.other _ (by omega)
    have HQ8 : Hid (RowF (w7.setCell ⟨b6, 117 + k, none⟩ (.float .f64 x)) (w.heap.size + 1)) := HQ7.out.other _ (by omega)
    have HB8 : Hid (Below w.heap.size w (w7.setCell ⟨b6, 117 + k, none⟩ (.float .f64 x))) := HB7.out.setCell (p := ⟨b6, 117 + k, none⟩) (by show w.heap.size ≤ b6; omega) _
    clear HF7 HA7 HP7 HQ7 HB7
    go_upto_region 18 with fail
    obtain ⟨mb, hmb, hMB⟩ := HF8.out.mem
    refine pair_region HA8.out hMB HP8.out HQ8.out (by omega) (by omega) (by omega) (by omega) (by omega) ?_
    intro w9 hm2 hm3 hkeep
    have hB9 : Below w.heap.size w w9 := HB8.out.trans ⟨hkeep.2.1, hkeep.2.2.1, hkeep.2.2.2.1, hkeep.1, fun j hj => hkeep.2.2.2.2 j (Nat.lt_of_lt_of_le hj HB8.out.size) (by omega) (by omega)⟩
    have HM2 : Hid (MemAt w9 w.heap.size ma) := hm2
    have HM3 : Hid (MemAt w9 (w.heap.size + 1) mb) := hm3
    clear hm2 hm3 hkeep hMB HF8 HA8 HP8 HQ8 HB8
    go_wp2
    exact bodyPost_ret (v := .tuple #[ma.val, mb.val]) (res2M Tryd.results5 rfl rfl HM2.out HM3.out) rfl ⟨ma, mb, rfl, hma, hmb, hB9⟩
  have g0 : (c == 0) = false := by simpa using h0
  by_cases h1 : c = 1
  · subst h1
    obtain ⟨z, z0, z1, c0, f0⟩ := HF6.out.cellD (k := k) (by omega)
    obtain ⟨y, hy, y0, y1⟩ : ∃ y : Int, IntKind.i16.wrap (z + 1) = y ∧ -32768 ≤ y ∧ y ≤ 32767 := ⟨_, rfl, (wrap_in _).1, (wrap_in _).2⟩
    have HF8 : Hid (MemF (w6.setCell ⟨b6, 85 + k, none⟩ (.int .i16 y)) b6) := HF6.out.set _ _ (fit_d (by omega) y0 y1)
    have HA8 : Hid (MemAt (w6.setCell ⟨b6, 85 + k, none⟩ (.int .i16 y)) b5 ma) := RowAt.other HA6.out _ (by omega)
    have HP8 : Hid (RowF (w6.setCell ⟨b6, 85 + k, none⟩ (.int .i16 y)) w.heap.size) := HP6.out.other _ (by omega)
    have HQ8 : Hid (RowF (w6.setCell ⟨b6, 85 + k, none⟩ (.int .i16 y)) (w.heap.size + 1)) := HQ6.out.other _ (by omega)
    have HB8 : Hid (Below w.heap.size w (w6.setCell ⟨b6, 85 + k, none⟩ (.int .i16 y))) := HB6.out.setCell (p := ⟨b6, 85 + k, none⟩) (by show w.heap.size ≤ b6; omega) _
    clear HF6 HA6 HP6 HQ6 HB6
    go_upto_region 18 with fail
    obtain ⟨mb, hmb, hMB⟩ := HF8.out.mem
    refine pair_region HA8.out hMB HP8.out HQ8.out (by omega) (by omega) (by omega) (by omega) (by omega) ?_
    intro w9 hm2 hm3 hkeep
    have hB9 : Below w.heap.size w w9 := HB8.out.trans ⟨hkeep.2.1, hkeep.2.2.1, hkeep.2.2.2.1, hkeep.1, fun j hj => hkeep.2.2.2.2 j (Nat.lt_of_lt_of_le hj HB8.out.size) (by omega) (by omega)⟩
    have HM2 : Hid (MemAt w9 w.heap.size ma) := hm2
    have HM3 : Hid (MemAt w9 (w.heap.size + 1) mb) := hm3
    clear hm2 hm3 hkeep hMB HF8 HA8 HP8 HQ8 HB8
    go_wp2
    exact bodyPost_ret (v := .tuple #[ma.val, mb.val]) (res2M Tryd.results5 rfl rfl HM2.out HM3.out) rfl ⟨ma, mb, rfl, hma, hmb, hB9⟩
  have g1 : (c == 1) = false := by simpa using h1
  by_cases h2 : c = 2
  · subst h2
    obtain ⟨z, c0, f0⟩ := HF6.out.cellL (k := k) (by omega)
    have HF8 : Hid (MemF (w6.setCell ⟨b6, 37 + k * 3 + 1, none⟩ (.bool (!z))) b6) := HF6.out.set _ _ (fit_cl (by omega) _)
    have HA8 : Hid (MemAt (w6.setCell ⟨b6, 37 + k * 3 + 1, none⟩ (.bool (!z))) b5 ma) := RowAt.other HA6.out _ (by omega)
    have HP8 : Hid (RowF (w6.setCell ⟨b6, 37 + k * 3 + 1, none⟩ (.bool (!z))) w.heap.size) := HP6.out.other _ (by omega)
    have HQ8 : Hid (RowF (w6.setCell ⟨b6, 37 + k * 3 + 1, none⟩ (.bool (!z))) (w.heap.size + 1)) := HQ6.out.other _ (by omega)
    have HB8 : Hid (Below w.heap.size w (w6.setCell ⟨b6, 37 + k * 3 + 1, none⟩ (.bool (!z)))) := HB6.out.setCell (p := ⟨b6, 37 + k * 3 + 1, none⟩) (by show w.heap.size ≤ b6; omega) _
    clear HF6 HA6 HP6 HQ6 HB6
    go_upto_region 18 with fail
    obtain ⟨mb, hmb, hMB⟩ := HF8.out.mem
    refine pair_region HA8.out hMB HP8.out HQ8.out (by omega) (by omega) (by omega) (by omega) (by omega) ?_
    intro w9 hm2 hm3 hkeep
    have hB9 : Below w.heap.size w w9 := HB8.out.trans ⟨hkeep.2.1, hkeep.2.2.1, hkeep.2.2.2.1, hkeep.1, fun j hj => hkeep.2.2.2.2 j (Nat.lt_of_lt_of_le hj HB8.out.size) (by omega) (by omega)⟩
    have HM2 : Hid (MemAt w9 w.heap.size ma) := hm2
    have HM3 : Hid (MemAt w9 (w.heap.size + 1) mb) := hm3
    clear hm2 hm3 hkeep hMB HF8 HA8 HP8 HQ8 HB8
    go_wp2
    exact bodyPost_ret (v := .tuple #[ma.val, mb.val]) (res2M Tryd.results5 rfl rfl HM2.out HM3.out) rfl ⟨ma, mb, rfl, hma, hmb, hB9⟩
  have g2 : (c == 2) = false := by simpa using h2
  by_cases h3 : c = 3
  · subst h3
    obtain ⟨z, c0, f0⟩ := HF6.out.cellT (k := k) (by omega)
    obtain ⟨y, hy1, hy⟩ := u16_nat ((z : Int) + 1)
    have HF8 : Hid (MemF (w6.setCell ⟨b6, 5 + k * 2 + 1, none⟩ (.int .u16 (y : Int))) b6) := HF6.out.set _ _ (fit_tc (by omega) hy1)
    have HA8 : Hid (MemAt (w6.setCell ⟨b6, 5 + k * 2 + 1, none⟩ (.int .u16 (y : Int))) b5 ma) := RowAt.other HA6.out _ (by omega)
    have HP8 : Hid (RowF (w6.setCell ⟨b6, 5 + k * 2 + 1, none⟩ (.int .u16 (y : Int))) w.heap.size) := HP6.out.other _ (by omega)
    have HQ8 : Hid (RowF (w6.setCell ⟨b6, 5 + k * 2 + 1, none⟩ (.int .u16 (y : Int))) (w.heap.size + 1)) := HQ6.out.other _ (by omega)
    have HB8 : Hid (Below w.heap.size w (w6.setCell ⟨b6, 5 + k * 2 + 1, none⟩ (.int .u16 (y : Int)))) := HB6.out.setCell (p := ⟨b6, 5 + k * 2 + 1, none⟩) (by show w.heap.size ≤ b6; omega) _
    clear HF6 HA6 HP6 HQ6 HB6
    go_upto_region 18 with fail
    obtain ⟨mb, hmb, hMB⟩ := HF8.out.mem
    refine pair_region HA8.out hMB HP8.out HQ8.out (by omega) (by omega) (by omega) (by omega) (by omega) ?_
    intro w9 hm2 hm3 hkeep
    have hB9 : Below w.heap.size w w9 := HB8.out.trans ⟨hkeep.2.1, hkeep.2.2.1, hkeep.2.2.2.1, hkeep.1, fun j hj => hkeep.2.2.2.2 j (Nat.lt_of_lt_of_le hj HB8.out.size) (by omega) (by omega)⟩
    have HM2 : Hid (MemAt w9 w.heap.size ma) := hm2
    have HM3 : Hid (MemAt w9 (w.heap.size + 1) mb) := hm3
    clear hm2 hm3 hkeep hMB HF8 HA8 HP8 HQ8 HB8
    go_wp2
    exact bodyPost_ret (v := .tuple #[ma.val, mb.val]) (res2M Tryd.results5 rfl rfl HM2.out HM3.out) rfl ⟨ma, mb, rfl, hma, hmb, hB9⟩
  have g3 : (c == 3) = false := by simpa using h3
  by_cases h4 : c = 4
  · subst h4
    obtain ⟨mq, hmq, hMQ⟩ := HF6.out.mem
    go_upto_region 15 with fail
    refine put_regionS hmq hMQ Hr6.out (by omega) (fun W hW => asks_any rb 722 W hW (by omega)) (fun W hW => (pick_any rb 732 2 W (by omega) hW (by omega)).mono fun e w' ⟨u, he, _, _, _, hr', st'⟩ => ⟨_, he, u, rfl, hr', st'⟩) (fun k n p b W => (sPut_any mq hmq k n p b W).mono fun e w' ⟨he, hb'⟩ => ⟨_, he, rfl, hb'⟩) ?_
    intro mm k' n' p' u' w8 hmm hM8 hkeep
    have HF8 : Hid (MemF w8 b6) := MemF.of hM8 hmm
    have HA8 : Hid (MemAt w8 b5 ma) := RowAt.by HA6.out (hkeep.2.2.2.2 b5 HA6.out.lt (by omega) (by omega))
    have HP8 : Hid (RowF w8 w.heap.size) := by obtain ⟨f, hf⟩ := HP6.out; exact ⟨f, RowAt.by hf (hkeep.2.2.2.2 _ hf.lt (by omega) (by omega))⟩
    have HQ8 : Hid (RowF w8 (w.heap.size + 1)) := by obtain ⟨f, hf⟩ := HQ6.out; exact ⟨f, RowAt.by hf (hkeep.2.2.2.2 _ hf.lt (by omega) (by omega))⟩
    have HB8 : Hid (Below w.heap.size w w8) := HB6.out.trans ⟨hkeep.2.1, hkeep.2.2.1, hkeep.2.2.2.1, hkeep.1, fun j hj => hkeep.2.2.2.2 j (Nat.lt_of_lt_of_le hj HB6.out.size) (by omega) (by omega)⟩
    clear hM8 hkeep HF6 HA6 HP6 HQ6 HB6 hMQ
    go_upto_region 18 with fail
    obtain ⟨mb, hmb, hMB⟩ := HF8.out.mem
    refine pair_region HA8.out hMB HP8.out HQ8.out (by omega) (by omega) (by omega) (by omega) (by omega) ?_
    intro w9 hm2 hm3 hkeep
    have hB9 : Below w.heap.size w w9 := HB8.out.trans ⟨hkeep.2.1, hkeep.2.2.1, hkeep.2.2.2.1, hkeep.1, fun j hj => hkeep.2.2.2.2 j (Nat.lt_of_lt_of_le hj HB8.out.size) (by omega) (by omega)⟩
    have HM2 : Hid (MemAt w9 w.heap.size ma) := hm2
    have HM3 : Hid (MemAt w9 (w.heap.size + 1) mb) := hm3
    clear hm2 hm3 hkeep hMB HF8 HA8 HP8 HQ8 HB8
    go_wp2
    exact bodyPost_ret (v := .tuple #[ma.val, mb.val]) (res2M Tryd.results5 rfl rfl HM2.out HM3.out) rfl ⟨ma, mb, rfl, hma, hmb, hB9⟩
  have g4 : (c == 4) = false := by simpa using h4
  by_cases h5 : c = 5
  · subst h5
    go_wp2_with fail
    refine Calls.mono (draw_any rb 722 _ Hr6.out (by omega)) ?_
    rintro e w7 ⟨mc, rfl, hmc, hr7, st7⟩
    have HF7 : Hid (MemF w7 b6) := HF6.out.step st7 (by omega)
    have HA7 : Hid (MemAt w7 b5 ma) := RowAt.by HA6.out (st7.block b5 HA6.out.lt (by omega))
    have HP7 : Hid (RowF w7 w.heap.size) := HP6.out.step st7 (by omega)
    have HQ7 : Hid (RowF w7 (w.heap.size + 1)) := HQ6.out.step st7 (by omega)
    have HB7 : Hid (Below w.heap.size w w7) := HB6.out.trans (st7.below (by omega) HB6.out.size)
    clear st7 HF6 HA6 HP6 HQ6 HB6
    obtain ⟨f7, hR7, -⟩ := HF7.out
    go_upto_region 18 with (refine wpList_rowStore rfl 37 (.tmp 6) (.tmp 70) rfl b6 0 136 mc.cell mc.cell rfl rfl hR7 (by omega) (fun i _ => cell_one mc i) (fun i hi => by rw [if_pos ⟨by omega, by omega⟩, Nat.sub_zero]) (by kernel_rfl) ?_; intro w8 HZ8 hz8 hk8 hb8)
    have HF8 : Hid (MemF w8 b6) := MemF.of HZ8 hmc
    have HA8 : Hid (MemAt w8 b5 ma) := RowAt.by HA7.out (hk8 b5 (by omega))
    have HP8 : Hid (RowF w8 w.heap.size) := by obtain ⟨f, hf⟩ := HP7.out; exact ⟨f, RowAt.by hf (hk8 _ (by omega))⟩
    have HQ8 : Hid (RowF w8 (w.heap.size + 1)) := by obtain ⟨f, hf⟩ := HQ7.out; exact ⟨f, RowAt.by hf (hk8 _ (by omega))⟩
    have HB8 : Hid (Below w.heap.size w w8) := hb8 _ _ HB7.out (by omega)
    clear HZ8 hz8 hk8 hb8 HF7 HA7 HP7 HQ7 HB7 hR7
    obtain ⟨mb, hmb, hMB⟩ := HF8.out.mem
    refine pair_region HA8.out hMB HP8.out HQ8.out (by omega) (by omega) (by omega) (by omega) (by omega) ?_
    intro w9 hm2 hm3 hkeep
    have hB9 : Below w.heap.size w w9 := HB8.out.trans ⟨hkeep.2.1, hkeep.2.2.1, hkeep.2.2.2.1, hkeep.1, fun j hj => hkeep.2.2.2.2 j (Nat.lt_of_lt_of_le hj HB8.out.size) (by omega) (by omega)⟩
    have HM2 : Hid (MemAt w9 w.heap.size ma) := hm2
    have HM3 : Hid (MemAt w9 (w.heap.size + 1) mb) := hm3
    clear hm2 hm3 hkeep hMB HF8 HA8 HP8 HQ8 HB8
    go_wp2
    exact bodyPost_ret (v := .tuple #[ma.val, mb.val]) (res2M Tryd.results5 rfl rfl HM2.out HM3.out) rfl ⟨ma, mb, rfl, hma, hmb, hB9⟩
  have g5 : (c == 5) = false := by simpa using h5
  clear h0 h1 h2 h3 h4 h5
  go_upto_region 18 with fail
  obtain ⟨mb, hmb, hMB⟩ := HF6.out.mem
  refine pair_region HA6.out hMB HP6.out HQ6.out (by omega) (by omega) (by omega) (by omega) (by omega) ?_
  intro w9 hm2 hm3 hkeep
  have hB9 : Below w.heap.size w w9 := HB6.out.trans ⟨hkeep.2.1, hkeep.2.2.1, hkeep.2.2.2.1, hkeep.1, fun j hj => hkeep.2.2.2.2 j (Nat.lt_of_lt_of_le hj HB6.out.size) (by omega) (by omega)⟩
  have HM2 : Hid (MemAt w9 w.heap.size ma) := hm2
  have HM3 : Hid (MemAt w9 (w.heap.size + 1) mb) := hm3
  clear hm2 hm3 hkeep hMB HF6 HA6 HP6 HQ6 HB6
  go_wp2
  exact bodyPost_ret (v := .tuple #[ma.val, mb.val]) (res2M Tryd.results5 rfl rfl HM2.out HM3.out) rfl ⟨ma, mb, rfl, hma, hmb, hB9⟩
end
end Go.Proofs.YtlflihegadjpdaaDoor

/- One text, one memory: plain mathematics of words. Helper text: no statement is claimed here. -/
namespace Go.Proofs.YtlflihegadjpdaaDoor
open Go.ChangeShapes Go.WideShapes Go.ChangeAt Go.RowKit Fl

/-! Joins of words without a blank. -/
/-- A word: it is not empty and holds no blank. -/
def Wd (t : List UInt8) : Prop := t ≠ [] ∧ (32 : UInt8) ∉ t
theorem blk_inj : ∀ {a b : List (List UInt8)}, (∀ t ∈ a, Wd t) → (∀ t ∈ b, Wd t) → blk a = blk b → a = b
  | [], [], _, _, _ => rfl
  | [], y :: l, _, _, h => by
    exfalso
    rw [blk_nil] at h
    have := congrArg List.length h
    simp [blk] at this
  | x :: l, [], _, _, h => by
    exfalso
    rw [blk_nil] at h
    have := congrArg List.length h
    simp [blk] at this
  | x :: l, y :: r, ha, hb, h => by
    have e1 : blk (x :: l) = x ++ 32 :: blk l := by simp [blk]
    have e2 : blk (y :: r) = y ++ 32 :: blk r := by simp [blk]
    rw [e1, e2] at h
    obtain ⟨rfl, h2⟩ := first_of (ha x (List.mem_cons_self ..)).2 (hb y (List.mem_cons_self ..)).2 h
    rw [blk_inj (fun t ht => ha t (List.mem_cons_of_mem _ ht)) (fun t ht => hb t (List.mem_cons_of_mem _ ht)) h2]
theorem join_nil_iff {a : List (List UInt8)} (ha : ∀ t ∈ a, Wd t) : Lib.join a [32] = [] ↔ a = [] := by
  constructor
  · intro h
    cases a with
    | nil => rfl
    | cons x l =>
      exfalso
      have h1 := join_blk (x :: l) (by simp)
      rw [h] at h1
      have e1 : blk (x :: l) = x ++ 32 :: blk l := by simp [blk]
      rw [e1] at h1
      have h2 := (ha x (List.mem_cons_self ..)).1
      cases x with
      | nil => exact h2 rfl
      | cons c r =>
        have := congrArg List.length h1
        simp at this
  · rintro rfl
    rfl
theorem join_inj {a b : List (List UInt8)} (ha : ∀ t ∈ a, Wd t) (hb : ∀ t ∈ b, Wd t) (h : Lib.join a [32] = Lib.join b [32]) : a = b := by
  by_cases he : a = []
  · have : Lib.join b [32] = [] := by rw [← h, he]; rfl
    rw [he, (join_nil_iff hb).1 this]
  · have hb' : b ≠ [] := fun e => he ((join_nil_iff ha).1 (by rw [h, e]; rfl))
    refine blk_inj ha hb ?_
    rw [← join_blk a he, ← join_blk b hb', h]

/-! Parts of a list that are told apart by their words. -/
theorem filter_all {p : List UInt8 → Bool} {l : List (List UInt8)} (h : ∀ t ∈ l, p t = true) : l.filter p = l := List.filter_eq_self.2 h
theorem filter_none {p : List UInt8 → Bool} {l : List (List UInt8)} (h : ∀ t ∈ l, p t = false) : l.filter p = [] := List.filter_eq_nil_iff.2 fun t ht => by rw [h t ht]; simp
theorem mem_upto {f : Nat → List (List UInt8)} {j : Nat} {t : List UInt8} : t ∈ upto f j ↔ ∃ i, i < j ∧ t ∈ f i := by simp [upto]
/-- A part of places: if the words of a place tell the place, the part says what each place holds. -/
theorem upto_inj {f g : Nat → List (List UInt8)} {j : Nat} (key : List UInt8 → List UInt8) (K : Nat → List UInt8) (hK : ∀ a b, a < j → b < j → K a = K b → a = b)
    (hf : ∀ i, i < j → ∀ t ∈ f i, key t = K i) (hg : ∀ i, i < j → ∀ t ∈ g i, key t = K i) (h : upto f j = upto g j) : ∀ i, i < j → f i = g i := by
  have sel : ∀ {f : Nat → List (List UInt8)} (_ : ∀ i, i < j → ∀ t ∈ f i, key t = K i) (i : Nat) (_ : i < j) (n : Nat) (_ : n ≤ j), (upto f n).filter (fun t => key t == K i) = if i < n then f i else [] := by
    intro f hf i hi n
    induction n with
    | zero => intro _; simp [upto]
    | succ n ih =>
      intro hn
      rw [upto_succ, List.filter_append, ih (by omega)]
      by_cases hin : i = n
      · subst hin
        rw [if_neg (by omega), if_pos (by omega), filter_all fun t ht => by rw [hf i hi t ht]; simp]
        rfl
      · rw [filter_none fun t ht => by
          rw [hf n (by omega) t ht]
          simp only [beq_eq_false_iff_ne, ne_eq]
          exact fun e => hin (hK n i (by omega) hi e).symm, List.append_nil]
        by_cases h2 : i < n
        · rw [if_pos h2, if_pos (by omega)]
        · rw [if_neg h2, if_neg (by omega)]
  intro i hi
  have h1 := sel hf i hi j (Nat.le_refl j)
  have h2 := sel hg i hi j (Nat.le_refl j)
  rw [if_pos hi] at h1 h2
  rw [← h1, ← h2, h]
/-- Parts that are told apart by the first byte of their words. -/
theorem parts_inj : ∀ {A B : List (UInt8 × List (List UInt8))}, A.map (·.1) = B.map (·.1) → (A.map (·.1)).Nodup → (∀ s ∈ A, ∀ t ∈ s.2, t.head? = some s.1) → (∀ s ∈ B, ∀ t ∈ s.2, t.head? = some s.1) → A.flatMap (·.2) = B.flatMap (·.2) → A = B
  | [], [], _, _, _, _, _ => rfl
  | [], y :: r, h, _, _, _, _ => by simp at h
  | x :: l, [], h, _, _, _, _ => by simp at h
  | x :: l, y :: r, h, hn, ha, hb, he => by
    simp only [List.map_cons, List.cons.injEq] at h
    obtain ⟨hxy, hlr⟩ := h
    rw [List.map_cons, List.nodup_cons] at hn
    simp only [List.flatMap_cons] at he
    have key : ∀ {L : List (UInt8 × List (List UInt8))}, x.1 ∉ L.map (·.1) → (∀ s ∈ L, ∀ t ∈ s.2, t.head? = some s.1) → (L.flatMap (·.2)).filter (fun t => t.head? == some x.1) = [] := by
      intro L hx hL
      refine filter_none fun t ht => ?_
      obtain ⟨s, hs, hts⟩ := List.mem_flatMap.1 ht
      rw [hL s hs t hts]
      simp only [beq_eq_false_iff_ne, ne_eq, Option.some.injEq]
      exact fun e => hx (e ▸ List.mem_map_of_mem hs)
    have e1 := congrArg (List.filter fun t => t.head? == some x.1) he
    have hx2 : x.2 = y.2 := by
      rw [List.filter_append, List.filter_append, key hn.1 (fun s hs => ha s (List.mem_cons_of_mem _ hs)), key (hlr ▸ hn.1) (fun s hs => hb s (List.mem_cons_of_mem _ hs)), List.append_nil, List.append_nil,
        filter_all (fun t ht => by rw [ha x (List.mem_cons_self ..) t ht]; simp), filter_all (fun t ht => by rw [hb y (List.mem_cons_self ..) t ht, hxy]; simp)] at e1
      exact e1
    rw [hx2] at he
    have ih := parts_inj hlr hn.2 (fun s hs => ha s (List.mem_cons_of_mem _ hs)) (fun s hs => hb s (List.mem_cons_of_mem _ hs)) (List.append_cancel_left he)
    rw [ih, show x = y from Prod.ext hxy hx2]
end Go.Proofs.YtlflihegadjpdaaDoor

/- One text, one memory: the words of a memory. Helper text: no statement is claimed here. -/
namespace Go.Proofs.YtlflihegadjpdaaDoor
open Go.ChangeShapes Go.WideShapes Go.ChangeAt Go.RowKit Fl

theorem itoa_not {c : UInt8} (h1 : isD c = false) (h2 : c ≠ 45) (z : Int) : c ∉ Lib.itoa z := by
  intro hm
  rcases Int.lt_or_le z 0 with h | h
  · obtain ⟨u, hu⟩ : ∃ u : Nat, z = -(u : Int) := ⟨z.natAbs, by omega⟩
    subst hu
    rw [Lib.itoa_neg u (by omega)] at hm
    rcases List.mem_cons.1 hm with h | h
    · exact h2 h
    · rw [digits_all u c h] at h1; cases h1
  · obtain ⟨u, rfl⟩ := Int.eq_ofNat_of_zero_le h
    rw [Lib.itoa_nonneg] at hm
    rw [digits_all u c hm] at h1; cases h1
theorem mkT_not {c x : UInt8} (h : c ≠ x) (b : Bool) : c ∉ mkT b [x] := by cases b <;> simp [mkT, h]
theorem mark_inj {c : UInt8} {a b : List UInt8} {p q : Bool} (ha : c ∉ a) (hb : c ∉ b) (h : a ++ mkT p [c] = b ++ mkT q [c]) : a = b ∧ p = q := by
  cases p <;> cases q <;> simp only [mkT, if_true, Bool.false_eq_true, if_false, List.append_nil] at h
  · exact ⟨h, rfl⟩
  · exact absurd (h ▸ (by simp : c ∈ b ++ [c])) ha
  · exact absurd (h ▸ (by simp : c ∈ a ++ [c])) hb
  · exact ⟨List.append_cancel_right h, rfl⟩
/-- The letter of a kind. -/
def lt (k : Int) : UInt8 := (rL (kz k)).headD 0
theorem rL_lt {k : Int} (h1 : 1 ≤ k) (h2 : k ≤ 10) : rL (kz k) = [lt k] := by
  have : k = 1 ∨ k = 2 ∨ k = 3 ∨ k = 4 ∨ k = 5 ∨ k = 6 ∨ k = 7 ∨ k = 8 ∨ k = 9 ∨ k = 10 := by omega
  rcases this with rfl | rfl | rfl | rfl | rfl | rfl | rfl | rfl | rfl | rfl <;> rfl
theorem lt_big {k : Int} (h1 : 1 ≤ k) (h2 : k ≤ 10) : 65 ≤ (lt k).toNat ∧ (lt k).toNat ≤ 90 := by
  have : k = 1 ∨ k = 2 ∨ k = 3 ∨ k = 4 ∨ k = 5 ∨ k = 6 ∨ k = 7 ∨ k = 8 ∨ k = 9 ∨ k = 10 := by omega
  rcases this with rfl | rfl | rfl | rfl | rfl | rfl | rfl | rfl | rfl | rfl <;> decide
theorem dvT_form {k : Int} (h1 : 1 ≤ k) (h2 : k ≤ 10) (i : Nat) : dvT k i = lt k :: Lib.itoa (i : Int) := by
  unfold dvT; rw [rL_lt h1 h2]; rfl
theorem dvT_not {k : Int} (h1 : 1 ≤ k) (h2 : k ≤ 10) {c : UInt8} (hc : c.toNat < 65) (hd : isD c = false) (h45 : c ≠ 45) (i : Nat) : c ∉ dvT k i := by
  rw [dvT_form h1 h2]
  intro h
  rcases List.mem_cons.1 h with h | h
  · have := lt_big h1 h2
    rw [← h] at this
    omega
  · exact itoa_not hd h45 _ h
theorem dvT_head {k : Int} (h1 : 1 ≤ k) (h2 : k ≤ 10) (i : Nat) (r : List UInt8) : (dvT k i ++ r).head? = some (lt k) := by rw [dvT_form h1 h2]; rfl
theorem dvT_inj {k : Int} {i j : Nat} (h : dvT k i = dvT k j) : i = j := by
  unfold dvT at h
  have := itoa_inj (List.append_cancel_left h)
  omega
/-- What stands ahead of a word's sign of equality. -/
def kd (t : List UInt8) : List UInt8 := t.takeWhile fun c => c != 61
theorem kd_all {a : List UInt8} (h : (61 : UInt8) ∉ a) : kd a = a := by
  have h1 : ∀ c ∈ a, (c != 61) = true := fun c hc => by
    simp only [bne_iff_ne, ne_eq]
    exact fun e => h (e ▸ hc)
  have := List.takeWhile_append_of_pos (l₂ := []) h1
  simpa [kd] using this
theorem kd_eq {a : List UInt8} (h : (61 : UInt8) ∉ a) (r : List UInt8) : kd (a ++ 61 :: r) = a := by
  have h1 : ∀ c ∈ a, (c != 61) = true := fun c hc => by
    simp only [bne_iff_ne, ne_eq]
    exact fun e => h (e ▸ hc)
  unfold kd
  rw [List.takeWhile_append_of_pos h1]
  simp
theorem rlT_not {x : Nat} (hx : x < 2 ^ 64) : (32 : UInt8) ∉ rlT x := by
  have ho : ∀ m k, (32 : UInt8) ∉ oT m k := fun m k h => by
    rw [oT_form] at h
    rcases List.mem_append.1 h with h | h
    · exact itoa_not (by decide) (by decide) _ h
    · rcases List.mem_cons.1 h with h | h
      · exact absurd h (by decide)
      · rcases List.mem_cons.1 h with h | h
        · exact absurd h (by decide)
        · rcases List.mem_cons.1 h with h | h
          · exact absurd h (by decide)
          · exact itoa_not (by decide) (by decide) _ h
  generalize hr : rlT x = t
  have h := rlT_R hx
  rw [hr] at h
  rcases h with ⟨-, rfl⟩ | ⟨-, rfl⟩ | ⟨-, rfl⟩ | ⟨-, rfl⟩ | ⟨-, rfl⟩ | ⟨m, k, a, b, c, -, rfl⟩ | ⟨m, k, a, b, c, -, rfl⟩
  · decide
  · decide
  · decide
  · decide
  · decide
  · exact ho m k
  · intro h
    rcases List.mem_cons.1 h with h | h
    · exact absurd h (by decide)
    · exact ho m k h

/-! What a word of each part looks like. -/
theorem in_bit {m : Mm} {k : Int} {i : Nat} {t : List UInt8} (h : t ∈ bitW m k i) : t = dvT k i := by
  unfold bitW at h
  split at h
  · simpa using h
  · simp at h
theorem in_tm {m : Mm} {i : Nat} {t : List UInt8} (h : t ∈ tmW m i) : t = tmT m i := by
  unfold tmW at h
  split at h
  · simpa using h
  · simp at h
theorem in_cn {m : Mm} {i : Nat} {t : List UInt8} (h : t ∈ cnW m i) : t = cnT m i := by
  unfold cnW at h
  split at h
  · simpa using h
  · simp at h
theorem in_wh {m : Mm} {i : Nat} {t : List UInt8} (h : t ∈ whW m i) : t = whT m i := by
  unfold whW at h
  split at h
  · simp at h
  · simpa using h
theorem in_re {m : Mm} {i : Nat} {t : List UInt8} (h : t ∈ reW m i) : t = reT m i := by
  unfold reW at h
  split at h
  · simp at h
  · simpa using h
theorem wd_dv {k : Int} (h1 : 1 ≤ k) (h2 : k ≤ 10) (i : Nat) {r : List UInt8} (hr : (32 : UInt8) ∉ r) : Wd (dvT k i ++ r) := by
  refine ⟨by rw [dvT_form h1 h2]; simp, fun h => ?_⟩
  rcases List.mem_append.1 h with h | h
  · exact dvT_not h1 h2 (by decide) (by decide) (by decide) i h
  · exact hr h
/-- The parts, with the first byte of their words. -/
def partsM (m : Mm) : List (UInt8 × List (List UInt8)) :=
  [(88, kindW m 0), (89, kindW m 1), (77, kindW m 2), (83, kindW m 3), (69, kindW m 4), (84, upto (tmW m) 16), (67, upto (cnW m) 16), (68, upto (whW m) 32), (82, upto (reW m) 16),
    (116, if 0 < m.time then [timeT m] else []), (114, if m.ran = true then [ranT] else []), (102, if m.fault = true then [faultT] else [])]
theorem words_parts (m : Mm) : wordsM m = (partsM m).flatMap (·.2) := by
  have h5 : bitsW m = kindW m 0 ++ (kindW m 1 ++ (kindW m 2 ++ (kindW m 3 ++ kindW m 4))) := by
    unfold bitsW
    rw [upto_succ, upto_succ, upto_succ, upto_succ, upto_succ, upto_zero]
    simp only [List.nil_append, List.append_assoc]
  simp only [wordsM, h5, numW, endW, partsM, List.flatMap_cons, List.flatMap_nil, List.append_assoc, List.append_nil]
theorem in_kind {m : Mm} {j : Nat} {t : List UInt8} (h : t ∈ kindW m j) : ∃ i, t = dvT ((j : Int) + 1) i := by
  obtain ⟨i, -, hi⟩ := mem_upto.1 h
  exact ⟨i, in_bit hi⟩
theorem kind_head {m : Mm} {j : Nat} (hj : j < 5) {t : List UInt8} (h : t ∈ kindW m j) : t.head? = some (lt ((j : Int) + 1)) := by
  obtain ⟨i, rfl⟩ := in_kind h
  have := dvT_head (k := (j : Int) + 1) (by omega) (by omega) i []
  rwa [List.append_nil] at this
theorem parts_head (m : Mm) : ∀ s ∈ partsM m, ∀ t ∈ s.2, t.head? = some s.1 := by
  intro s hs
  simp only [partsM, List.mem_cons, List.not_mem_nil, or_false] at hs
  rcases hs with rfl | rfl | rfl | rfl | rfl | rfl | rfl | rfl | rfl | rfl | rfl | rfl
  · exact fun t h => kind_head (by omega) h
  · exact fun t h => kind_head (by omega) h
  · exact fun t h => kind_head (by omega) h
  · exact fun t h => kind_head (by omega) h
  · exact fun t h => kind_head (by omega) h
  · intro t h
    obtain ⟨i, -, hi⟩ := mem_upto.1 h
    rw [in_tm hi]
    exact dvT_head (k := 7) (by omega) (by omega) i _
  · intro t h
    obtain ⟨i, -, hi⟩ := mem_upto.1 h
    rw [in_cn hi]
    exact dvT_head (k := 8) (by omega) (by omega) i _
  · intro t h
    obtain ⟨i, -, hi⟩ := mem_upto.1 h
    rw [in_wh hi]
    exact dvT_head (k := 9) (by omega) (by omega) i _
  · intro t h
    obtain ⟨i, -, hi⟩ := mem_upto.1 h
    rw [in_re hi]
    exact dvT_head (k := 10) (by omega) (by omega) i _
  · intro t h
    simp only at h
    split at h
    · obtain rfl : t = timeT m := by simpa using h
      rfl
    · simp at h
  · intro t h
    simp only at h
    split at h
    · obtain rfl : t = ranT := by simpa using h
      rfl
    · simp at h
  · intro t h
    simp only at h
    split at h
    · obtain rfl : t = faultT := by simpa using h
      rfl
    · simp at h
theorem words_wd {m : Mm} (hok : m.Ok) : ∀ t ∈ wordsM m, Wd t := by
  intro t ht
  rw [words_parts] at ht
  obtain ⟨s, hs, hts⟩ := List.mem_flatMap.1 ht
  have hk : ∀ j, j < 5 → t ∈ kindW m j → Wd t := fun j hj h => by
    obtain ⟨i, rfl⟩ := in_kind h
    have := wd_dv (k := (j : Int) + 1) (by omega) (by omega) i (r := []) (by simp)
    rwa [List.append_nil] at this
  have h32 : ∀ z, (32 : UInt8) ∉ Lib.itoa z := itoa_not (by decide) (by decide)
  simp only [partsM, List.mem_cons, List.not_mem_nil, or_false] at hs
  rcases hs with rfl | rfl | rfl | rfl | rfl | rfl | rfl | rfl | rfl | rfl | rfl | rfl
  · exact hk 0 (by omega) hts
  · exact hk 1 (by omega) hts
  · exact hk 2 (by omega) hts
  · exact hk 3 (by omega) hts
  · exact hk 4 (by omega) hts
  · obtain ⟨i, -, hi⟩ := mem_upto.1 hts
    rw [in_tm hi]
    refine wd_dv (by omega) (by omega) i ?_
    simp only [List.mem_append, List.mem_singleton, not_or]
    exact ⟨⟨by decide, h32 _⟩, mkT_not (by decide) _⟩
  · obtain ⟨i, -, hi⟩ := mem_upto.1 hts
    rw [in_cn hi]
    refine wd_dv (by omega) (by omega) i ?_
    simp only [List.mem_append, List.mem_singleton, not_or]
    exact ⟨⟨⟨by decide, h32 _⟩, mkT_not (by decide) _⟩, mkT_not (by decide) _⟩
  · obtain ⟨i, -, hi⟩ := mem_upto.1 hts
    rw [in_wh hi]
    refine wd_dv (by omega) (by omega) i ?_
    simp only [List.mem_append, List.mem_singleton, not_or]
    exact ⟨by decide, h32 _⟩
  · obtain ⟨i, -, hi⟩ := mem_upto.1 hts
    rw [in_re hi]
    refine wd_dv (by omega) (by omega) i ?_
    simp only [List.mem_append, List.mem_singleton, not_or]
    exact ⟨by decide, rlT_not (hok.hr i)⟩
  · simp only at hts
    split at hts
    · obtain rfl : t = timeT m := by simpa using hts
      refine ⟨by simp [timeT], ?_⟩
      simp only [timeT, List.mem_append, not_or]
      exact ⟨by decide, h32 _⟩
    · simp at hts
  · simp only at hts
    split at hts
    · obtain rfl : t = ranT := by simpa using hts
      exact ⟨by decide, by decide⟩
    · simp at hts
  · simp only at hts
    split at hts
    · obtain rfl : t = faultT := by simpa using hts
      exact ⟨by decide, by decide⟩
    · simp at hts
/-- From one text: the parts are the same. -/
theorem parts_of_text {m n : Mm} (hm : m.Ok) (hn : n.Ok) (h : memT m = memT n) : partsM m = partsM n := by
  have hw : wordsM m = wordsM n := join_inj (words_wd hm) (words_wd hn) h
  rw [words_parts, words_parts] at hw
  exact parts_inj rfl (show ([88, 89, 77, 83, 69, 84, 67, 68, 82, 116, 114, 102] : List UInt8).Nodup by decide) (parts_head m) (parts_head n) hw
end Go.Proofs.YtlflihegadjpdaaDoor
