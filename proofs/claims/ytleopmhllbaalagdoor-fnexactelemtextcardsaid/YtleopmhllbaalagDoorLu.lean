/- The walk of the law FnExactElemText. Helper text: no statement is claimed here. -/
import Derived.Test.YtleopmhllbaalagDoorLt
import Derived.Test.YtleopmhllbaalagDoorLi
import Derived.Deep.RegionWith
namespace Go.Proofs.YtleopmhllbaalagDoor
open Go.ChangeShapes Go.WideShapes Go.ChangeAt Go.RowKit

set_option maxHeartbeats 2000000 in
theorem etext_walk (op : Int) (ys : List Ar) (p : Option Addr) (cap : Nat) (w : World) (hA : ArgsIn w p ys) (hlc : ys.length ≤ cap) (hbd : ys.length ≤ 9223372036854775807) (hT : Tabs w) (hC : CmpTab w) :
    Calls Tryd.prog 3 #[.agg #[.int .i64 op, .slice p ys.length cap]] w fun e w' => e = .returned (.bool true) ∧ Below w.heap.size w w' := by
  have HA : Hid (ArgsIn w p ys) := hA
  have HT : Hid (Tabs w) := hT
  have HC : Hid (CmpTab w) := hC
  clear hA hT hC
  by_cases hn : ys.length ≤ 1048576
  · have hS : ∀ W, Calls Tryd.prog 4 #[.agg #[.int .i64 op, .slice p ys.length cap], .int .i64 1048576] W fun e w' => e = .returned (.int .i64 (1048576 - (ys.length : Int))) ∧ Below W.heap.size W w' := fun W => by
      have := sz_any op ys.length cap p W hbd
      rwa [if_pos hn] at this
    have HS : Hid _ := hS
    clear hS
    have hn' : ¬ (1048576 - (ys.length : Int)) < 0 := by omega
    have hn2 : (ys.length : Int) ≤ 1048576 := by omega
    go_enter Tryd.func3, Tryd.ntmps3
    go_wp2_with fail
    refine (HS.out _).mono ?_
    rintro e w1 ⟨rfl, hb1⟩
    have HB1 : Hid (Below w.heap.size w w1) := of_one hb1
    have e0 : w1.cell? ⟨w.heap.size, 0, none⟩ = some (.int .i64 op) := (hb1.cell (p := ⟨w.heap.size, 0, none⟩) (by simp)).trans (by rw [World.cell?_alloc_mark]; rfl)
    have e1 : w1.cell? ⟨w.heap.size, 1, none⟩ = some (.slice p ys.length cap) := (hb1.cell (p := ⟨w.heap.size, 1, none⟩) (by simp)).trans (by rw [World.cell?_alloc_mark]; rfl)
    clear hb1
    go_wp2_with fail
    refine (toElem_any op ys p cap _ (HA.out.to HB1.out) hlc hn).mono ?_
    rintro e w2 ⟨B2, rfl, hb2, h2, hl2, hA2⟩
    have HA2 : Hid (ArgsAt w2 B2 ys) := hA2
    have HB2 : Hid (Below w.heap.size w w2) := HB1.out.trans (hb2.mono HB1.out.size)
    replace e0 := keep2 hb2 e0
    replace e1 := keep2 hb2 e1
    clear hb2 hA2
    go_wp2_with fail
    refine (selem_any op ys (some ⟨B2, 0, none⟩) ys.length _ (HA2.out.is hl2) (Nat.le_refl _)).mono ?_
    rintro e w3 ⟨rfl, hb3⟩
    have HB3 : Hid (Below w.heap.size w w3) := HB2.out.trans (hb3.mono HB2.out.size)
    replace e0 := keep2 hb3 e0
    replace e1 := keep2 hb3 e1
    clear hb3
    go_wp2_with fail
    refine (toElem_any op ys p cap _ (HA.out.to HB3.out) hlc hn).mono ?_
    rintro e w4 ⟨B4, rfl, hb4, h4, hl4, hA4⟩
    have HA4 : Hid (ArgsAt w4 B4 ys) := hA4
    have HB4 : Hid (Below w.heap.size w w4) := HB3.out.trans (hb4.mono HB3.out.size)
    replace e0 := keep2 hb4 e0
    replace e1 := keep2 hb4 e1
    clear hb4 hA4
    go_wp2_with fail
    have HBx : Hid (Below w.heap.size w (w4.alloc (.cells #[.int .i64 op, .slice (some ⟨B4, 0, none⟩) ys.length ys.length] 29))) := HB4.out.alloc HB4.out.size _
    refine (ielem_any op ys (some ⟨B4, 0, none⟩) ys.length _ (HT.out.to HBx.out) (HC.out.to HBx.out) (.inr ⟨B4, rfl, by simp; omega, HA4.out.to hl4 (one _ _)⟩) (Nat.le_refl _) (by omega)).mono ?_
    rintro e w5 ⟨rfl, hb5⟩
    have HB5 : Hid (Below w.heap.size w w5) := HBx.out.trans (hb5.mono HBx.out.size)
    have HA5 : Hid (ArgsAt w5 B4 ys) := (HA4.out.to hl4 (one _ _)).to (by simp; omega) hb5
    have hl5 : B4 < w5.heap.size := Nat.lt_of_lt_of_le (by simp; omega) hb5.size
    have x0 : w5.cell? ⟨w4.heap.size, 0, none⟩ = some (.int .i64 op) := (hb5.cell (p := ⟨w4.heap.size, 0, none⟩) (by simp)).trans (by rw [World.cell?_alloc_mark]; rfl)
    have x1 : w5.cell? ⟨w4.heap.size, 1, none⟩ = some (.slice (some ⟨B4, 0, none⟩) ys.length ys.length) := (hb5.cell (p := ⟨w4.heap.size, 1, none⟩) (by simp)).trans (by rw [World.cell?_alloc_mark]; rfl)
    replace e0 := keep1 hb5 e0
    replace e1 := keep1 hb5 e1
    clear hb5 HBx
    generalize (⟨(eT op ys).toArray⟩ : ByteArray) = sT at *
    go_wp2
    go_region_with (first
      | (go_at_call 6; refine (toElem_any op ys p cap _ ?_ hlc hn).mono ?_; exact (HA.out.to HB5.out).to (Below.refl _ _).drew; rintro e w6 ⟨B6, rfl, hb6, h6, hl6, hA6⟩; have HB6 : Hid (Below w5.heap.size w5 w6) := (Below.refl _ _).drew.trans hb6; have HA6 : Hid (ArgsAt w6 B6 ys) := hA6; have y0 := keep2 HB6.out x0; have y1 := keep2 HB6.out x1; have y2 := keep2 HB6.out e0; have y3 := keep2 HB6.out e1; clear hb6 hA6)
      | (go_at_call 8; refine (eqElem_any op ys B4 B6 ys.length ys.length _ ?_ ?_ ?_ ?_ (Nat.le_refl _) (Nat.le_refl _) hn).mono ?_; exact HA5.out.to hl5 HB6.out; exact Nat.lt_of_lt_of_le hl5 HB6.out.size; exact HA6.out; exact hl6; rintro e w7 ⟨rfl, hb7⟩; have HB7 : Hid (Below w.heap.size w w7) := HB5.out.trans ((HB6.out.trans (hb7.mono HB6.out.size)).mono HB5.out.size); clear hb7))
    all_goals (try go_wp2)
    all_goals go_ret
    all_goals exact ⟨rfl, HB7.out⟩
  · have hS : ∀ W, Calls Tryd.prog 4 #[.agg #[.int .i64 op, .slice p ys.length cap], .int .i64 1048576] W fun e w' => e = .returned (.int .i64 (-1)) ∧ Below W.heap.size W w' := fun W => by
      have := sz_any op ys.length cap p W hbd
      rwa [if_neg hn] at this
    have HS : Hid _ := hS
    clear hS
    go_enter Tryd.func3, Tryd.ntmps3
    go_wp2_with fail
    refine (HS.out _).mono ?_
    rintro e w1 ⟨rfl, hb1⟩
    have HB1 : Hid (Below w.heap.size w w1) := of_one hb1
    go_wp2
    go_ret
    exact ⟨rfl, HB1.out⟩
end Go.Proofs.YtleopmhllbaalagDoor
