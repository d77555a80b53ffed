/- The walk of FnSwap. Helper text: no statement is claimed here. -/
import Derived.Test.YtceepaboaoffkaaDoorEc
import Derived.Test.YtceepaboaoffkaaDoorHd
namespace Go.Proofs.YtceepaboaoffkaaDoor
open Go.ChangeShapes Go.WideShapes Go.ChangeAt Go.RowKit Fl

set_option maxHeartbeats 4000000 in
theorem swap_walk (s : Option Addr) (len cap : Nat) (w : World) (h : IsRow w s len) (hlc : len ≤ cap) (hT : CmpTab w) :
    Calls Tryd.prog 4 #[.slice s len cap] w fun e w' => e = .returned (.bool true) ∧ Below w.heap.size w w' := by
  by_cases hl : 1048576 < len
  · have hl1 : (1048576 : Int) < len := by omega
    clear h hT
    go_enter Tryd.func4, Tryd.ntmps4
    go_wp2
    go_ret
    exact ⟨rfl, Below.refl _ _⟩
  have hl1 : ¬ (1048576 : Int) < len := by omega
  have hH : Hid (IsRow w s len) := h
  clear h
  go_enter Tryd.func4, Tryd.ntmps4
  go_wp2_with fail
  refine (drawCmp_any s len cap _ hH.out hlc).mono ?_
  rintro e w1 ⟨o, a, b, rfl, -, -, -, -, hb1⟩
  have hH1 : Hid (IsRow w1 s len) := isRow_below hH.out hb1
  go_wp2_with fail
  refine (drawRCmp_any s len cap _ hH1.out hlc).mono ?_
  rintro e w2 ⟨o2, x, y, rfl, hx, hy, hb2⟩
  have hB2 := hb1.trans (hb2.mono hb1.size)
  have hT2 := hT.to hB2
  have hC : Hid ((∃ o, ord x y = some o ∧ ord y x = some o.swap) ∨ (ord x y = none ∧ ord y x = none)) := by
    rcases ord_cases hx hy with ⟨o, h1, h2, _⟩ | ⟨h1, h2, _⟩
    · exact .inl ⟨o, h1, h2⟩
    · exact .inr ⟨h1, h2⟩
  clear hb1 hb2 hT hH hH1 hx hy
  go_wp2
  go_loopw [9] (fun i w' => ∃ m : Nat, 1 ≤ m ∧ m ≤ 7 ∧ i = .int .i64 (m : Int) ∧ CmpTab w' ∧ Below w.heap.size w w') (fun i _ => (7 - intOf i).toNat)
  case atStart => exact ⟨1, by omega, by omega, rfl, hT2, hB2⟩
  case round =>
    obtain ⟨m, hm1, hm, rfl, hT, hB⟩ := hrel
    rename_i wr
    clear hT2 hB2
    by_cases hlt : m ≤ 6
    · have hm6 : ¬ (6 : Int) < m := by omega
      obtain ⟨j, F⟩ := swaps_at hm1 hlt
      have hF : Hid (Swaps m j) := F
      clear F
      go_wp2_with fail
      refine (swap_any m _ hm1 hlt hT).mono ?_
      rintro e w3 ⟨rfl, hb3⟩
      have hT3 := hT.to hb3
      have hB3 := hB.trans (hb3.mono hB.size)
      clear hT hB hb3
      rw [hF.out.1]
      go_wp2_with fail
      refine (sswap_any m _ hm1 hlt).mono ?_
      rintro e w4 ⟨rfl, rfl⟩
      rw [hF.out.1]
      go_wp2_with fail
      refine (swap_any j _ hF.out.2.2.1 hF.out.2.2.2.1 hT3).mono ?_
      rintro e w5 ⟨rfl, hb5⟩
      have hT5 := hT3.to hb5
      have hB5 := hB3.trans (hb5.mono hB3.size)
      clear hT3 hB3 hb5
      rw [hF.out.2.1]
      go_wp2_with fail
      refine (wcmp_any m a b _ hm1 hlt).mono ?_
      rintro e w6 ⟨rfl, hb6⟩
      have hT6 := hT5.to hb6
      have hB6 := hB5.trans (hb6.mono hB5.size)
      clear hT5 hB5 hb6
      go_wp2_with fail
      refine (wcmp_any j b a _ hF.out.2.2.1 hF.out.2.2.2.1).mono ?_
      rintro e w7 ⟨rfl, hb7⟩
      have hT7 := hT6.to hb7
      have hB7 := hB6.trans (hb7.mono hB6.size)
      clear hT6 hB6 hb7
      rw [hF.out.2.2.2.2.1 a b]
      generalize wT m a b = P at *
      have hR : Hid (rT j y x = rT m x y) := by
        rcases hC.out with ⟨oo, c1, c2⟩ | ⟨c1, c2⟩
        · exact hF.out.2.2.2.2.2.1 x y oo c1 c2
        · exact hF.out.2.2.2.2.2.2 x y c1 c2
      go_wp2_with fail
      refine (rcmp_any m x y _ hm1 hlt).mono ?_
      rintro e w8 ⟨rfl, hb8⟩
      have hT8 := hT7.to hb8
      have hB8 := hB7.trans (hb8.mono hB7.size)
      clear hT7 hB7 hb8
      go_wp2_with fail
      refine (rcmp_any j y x _ hF.out.2.2.1 hF.out.2.2.2.1).mono ?_
      rintro e w9 ⟨rfl, hb9⟩
      have hT9 := hT8.to hb9
      have hB9 := hB8.trans (hb9.mono hB8.size)
      clear hT8 hB8 hb9
      rw [hR.out]
      generalize rT m x y = R at *
      go_wp2
      exact ⟨⟨m + 1, by omega, by omega, by simp, hT9, hB9⟩, by simp [intOf]; omega⟩
    · have hm6 : (6 : Int) < m := by omega
      go_wp2
      go_ret
      exact ⟨rfl, hB⟩
end Go.Proofs.YtceepaboaoffkaaDoor
