/- The walk of the law FnExactElemRead. Helper text: no statement is claimed here. -/
import Derived.Test.YtlddkhhaclfmiaaGreatDoorP14
import Derived.Test.YtlddkhhaclfmiaaGreatDoorP17
import Derived.Test.YtlddkhhaclfmiaaGreatDoorP01
namespace Go.Proofs.YtlddkhhaclfmiaaGreatDoor
open Go.ChangeShapes Go.WideShapes Go.ChangeAt Go.RowKit

theorem Own2.grown {W W' : World} {b c : Nat} {x y : Value} (h : Own2 W b x y) (hg : W.grownBy W' (some c)) (hne : b ≠ c) : Own2 W' b x y := by
  have e := hg.block b h.lt (by simpa using hne)
  unfold Own2
  rw [World.cell?_of_block (a := ⟨b, 0, none⟩) e, World.cell?_of_block (a := ⟨b, 1, none⟩) e, World.frozen?_of_block (a := ⟨b, 0, none⟩) e, World.frozen?_of_block (a := ⟨b, 1, none⟩) e]
  exact h
theorem ARow.grown {W W' : World} {g cp c : Nat} {ys : List Ar} (h : ARow W g cp ys) (hg : W.grownBy W' (some c)) (hne : g ≠ c) : ARow W' g cp ys := by
  have hl := h.lt
  obtain ⟨cur, h1, h2⟩ := h
  exact ⟨cur, (hg.block g hl (by simpa using hne)).trans h1, h2⟩

set_option maxRecDepth 100000 in
set_option maxHeartbeats 2000000 in
theorem eread_walk (s : ByteArray) (w : World) (hT : Tabs w) (hC : CmpTab w) (hM : MaxT w) (hE : ErrT w) :
    Calls Tryz.prog 4 #[.string s] w fun e w' => e = .returned (.bool true) ∧ Below w.heap.size w w' := by
  by_cases hlen : 1048576 < s.size
  · have hlen' : (1048576 : Int) < (s.size : Int) := by omega
    go_enter Tryz.func4, Tryz.ntmps4
    go_wp2
    go_ret
    exact ⟨rfl, Below.refl _ _⟩
  have hlen' : ¬ (1048576 : Int) < (s.size : Int) := by omega
  have HI : Hid (∀ W, Below w.heap.size w W → Calls Tryz.prog 10 #[.string s] W (ReadE s.data.toList W)) := fun W hb =>
    ireadE_any s W (by omega) (hT.to hb) (hC.to hb) (hM.to hb) (hE.to hb)
  clear hT hC hM hE
  go_enter Tryz.func4, Tryz.ntmps4
  go_wp2_with fail
  refine (sreadE_any s _).mono ?_
  rintro e w1 ⟨⟨hb1, h1⟩, hOne⟩
  have HB1 : Hid (Below w.heap.size w w1) := hb1
  have HOne : Hid (OneE s.data.toList) := hOne
  clear hb1 hOne
  rcases h1 with ⟨op, ys, g, cap, rfl, hok, ht, hrow, hg⟩ | ⟨rfl, hno⟩
  · have HK : Hid (okA (ez op) ys = true ∧ s.data.toList = eT op ys) := ⟨hok, ht⟩
    have HR1 : Hid (ARow w1 g cap ys) := hrow
    have hyl : ys.length ≤ 3 := by have := okA_len hok; have := (fm0_ok (ez op)).1; omega
    clear hok ht hrow
    have HBa : Hid (∀ o, Below w.heap.size w (w1.alloc o)) := fun o => HB1.out.alloc HB1.out.size o
    have HOa : Hid (Own2 (w1.alloc (.cells #[.int .i64 op, .slice (some ⟨g, 0, none⟩) ys.length cap] 25)) w1.heap.size (.int .i64 op) (.slice (some ⟨g, 0, none⟩) ys.length cap)) := Own2.new w1 _ _
    have HRa : Hid (∀ o, ARow (w1.alloc o) g cap ys) := fun o => HR1.out.to (one _ _)
    unfold elemV
    go_wp2_with fail
    refine (HI.out _ (HBa.out _)).mono ?_
    rintro e w2 ⟨hb2, h2⟩
    rcases h2 with ⟨op', ys', g', cap', rfl, hok', ht', hrow', hg'⟩ | ⟨rfl, hno⟩
    · obtain ⟨rfl, rfl⟩ := HOne.out op ys op' ys' HK.out.1 HK.out.2 hok' ht'
      have HR2 : Hid (ARow w2 g cap ys) := (HRa.out _).to hb2
      have HR2' : Hid (ARow w2 g' cap' ys) := hrow'
      have HO2 : Hid (Own2 w2 w1.heap.size (.int .i64 op) (.slice (some ⟨g, 0, none⟩) ys.length cap)) := HOa.out.below hb2
      have HB2 : Hid (Below w.heap.size w w2) := (HBa.out _).trans (hb2.mono (HBa.out _).size)
      have hgg : g < g' := by have := HR1.out.lt; simp at hg'; omega
      have hz2 := HO2.out.lt
      have hwg : w.heap.size ≤ g' := by omega
      clear hok' ht' hrow' hb2 HRa HOa HBa
      have HOb : Hid (Own2 (w2.alloc (.cells #[.int .i64 op, .slice (some ⟨g', 0, none⟩) ys.length cap'] 25)) w2.heap.size (.int .i64 op) (.slice (some ⟨g', 0, none⟩) ys.length cap')) := Own2.new w2 _ _
      have HRb : Hid (∀ o, ARow (w2.alloc o) g cap ys ∧ ARow (w2.alloc o) g' cap' ys ∧ Below w.heap.size w (w2.alloc o) ∧ Own2 (w2.alloc o) w1.heap.size (.int .i64 op) (.slice (some ⟨g, 0, none⟩) ys.length cap)) := fun o => ⟨HR2.out.to (one _ _), HR2'.out.to (one _ _), HB2.out.alloc HB2.out.size o, HO2.out.alloc o⟩
      have o2 := HO2.out
      obtain ⟨⟨r0, r1⟩, -, -⟩ := o2
      have hq0 : ¬ (1 + 3 * (ys.length : Int)) < 0 := by omega
      have hg1z : g' < w2.heap.size := HR2'.out.lt
      have hA0 : w1.heap.size < g' := by simp at hg'; omega
      unfold elemV
      go_wp2_with fail
      refine (eqElem_any op ys g' g cap' cap _ (HRb.out _).2.1.args (HRb.out _).2.1.lt (HRb.out _).1.args (HRb.out _).1.lt HR2'.out.room HR2.out.room (by omega)).mono ?_
      rintro e w3 ⟨rfl, hb3⟩
      have HR3 : Hid (ARow w3 g cap ys) := (HRb.out _).1.to hb3
      have HR3' : Hid (ARow w3 g' cap' ys) := (HRb.out _).2.1.to hb3
      have HB3 : Hid (Below w.heap.size w w3) := (HRb.out _).2.2.1.trans (hb3.mono (HRb.out _).2.2.1.size)
      have HO3 : Hid (Own2 w3 w1.heap.size (.int .i64 op) (.slice (some ⟨g, 0, none⟩) ys.length cap)) := (HRb.out _).2.2.2.below hb3
      have HO3' : Hid (Own2 w3 w2.heap.size (.int .i64 op) (.slice (some ⟨g', 0, none⟩) ys.length cap')) := HOb.out.below hb3
      clear hb3 HRb HOb r0 r1 HR2 HR2' HO2
      have o3 := HO3'.out
      obtain ⟨⟨r0, r1⟩, -, -⟩ := o3
      go_wp2_with fail
      refine (markElem_any op g' cap' ys w3 HR3'.out (by omega)).mono ?_
      rintro e w4 ⟨rfl, hrow4, hg4⟩
      have HR4 : Hid (ARow w4 g cap ys) := HR3.out.grown hg4 (by omega)
      have HR4' : Hid (ARow w4 g' cap' (marked ys ys.length)) := hrow4
      have HB4 : Hid (Below w.heap.size w w4) := HB3.out.grown hg4 HB3.out.size (fun k e => by cases e; exact hwg)
      have HO4 : Hid (Own2 w4 w1.heap.size (.int .i64 op) (.slice (some ⟨g, 0, none⟩) ys.length cap)) := HO3.out.grown hg4 (by omega)
      have HO4' : Hid (Own2 w4 w2.heap.size (.int .i64 op) (.slice (some ⟨g', 0, none⟩) ys.length cap')) := HO3'.out.grown hg4 (by omega)
      clear hrow4 hg4 r0 r1 HR3 HR3' HO3 HO3'
      have o4 := HO4'.out
      obtain ⟨⟨r0, r1⟩, -, -⟩ := o4
      go_wp2_with fail
      refine (heldElem_any op g' cap' ys w4 HR4'.out (by omega)).mono ?_
      rintro e w5 ⟨rfl, hb5⟩
      have HR5 : Hid (ARow w5 g cap ys) := HR4.out.to hb5
      have HR5' : Hid (ARow w5 g' cap' (marked ys ys.length)) := HR4'.out.to hb5
      have HB5 : Hid (Below w.heap.size w w5) := HB4.out.trans (hb5.mono HB4.out.size)
      have HO5 : Hid (Own2 w5 w1.heap.size (.int .i64 op) (.slice (some ⟨g, 0, none⟩) ys.length cap)) := HO4.out.below hb5
      have HO5' : Hid (Own2 w5 w2.heap.size (.int .i64 op) (.slice (some ⟨g', 0, none⟩) ys.length cap')) := HO4'.out.below hb5
      clear hb5 r0 r1 HR4 HR4' HO4 HO4'
      go_wp2_with fail
      refine (HI.out _ HB5.out).mono ?_
      rintro e w6 ⟨hb6, h6⟩
      rcases h6 with ⟨op6, ys6, g6, cap6, rfl, hok6, ht6, hrow6, hg6⟩ | ⟨rfl, hno⟩
      · obtain ⟨rfl, rfl⟩ := HOne.out op ys op6 ys6 HK.out.1 HK.out.2 hok6 ht6
        have HR6 : Hid (ARow w6 g cap ys) := HR5.out.to hb6
        have HR6' : Hid (ARow w6 g' cap' (marked ys ys.length)) := HR5'.out.to hb6
        have HRx : Hid (ARow w6 g6 cap6 ys) := hrow6
        have HB6 : Hid (Below w.heap.size w w6) := HB5.out.trans (hb6.mono HB5.out.size)
        have HO6 : Hid (Own2 w6 w1.heap.size (.int .i64 op) (.slice (some ⟨g, 0, none⟩) ys.length cap)) := HO5.out.below hb6
        have HO6' : Hid (Own2 w6 w2.heap.size (.int .i64 op) (.slice (some ⟨g', 0, none⟩) ys.length cap')) := HO5'.out.below hb6
        clear hb6 hok6 ht6 hrow6 HR5 HR5' HO5 HO5'
        have HRb : Hid (∀ o, ARow (w6.alloc o) g cap ys ∧ ARow (w6.alloc o) g6 cap6 ys ∧ Below w.heap.size w (w6.alloc o) ∧ ARow (w6.alloc o) g' cap' (marked ys ys.length) ∧ Own2 (w6.alloc o) w2.heap.size (.int .i64 op) (.slice (some ⟨g', 0, none⟩) ys.length cap')) := fun o => ⟨HR6.out.to (one _ _), HRx.out.to (one _ _), HB6.out.alloc HB6.out.size o, HR6'.out.to (one _ _), HO6'.out.alloc o⟩
        have o6 := HO6.out
        obtain ⟨⟨r0, r1⟩, -, -⟩ := o6
        have hz6 := HO6.out.lt
        unfold elemV
        go_wp2_with fail
        refine (eqElem_any op ys g6 g cap6 cap _ (HRb.out _).2.1.args (HRb.out _).2.1.lt (HRb.out _).1.args (HRb.out _).1.lt HRx.out.room HR6.out.room (by omega)).mono ?_
        rintro e w7 ⟨rfl, hb7⟩
        have HB7 : Hid (Below w.heap.size w w7) := (HRb.out _).2.2.1.trans (hb7.mono (HRb.out _).2.2.1.size)
        have HR7' : Hid (ARow w7 g' cap' (marked ys ys.length)) := (HRb.out _).2.2.2.1.to hb7
        have HO7' : Hid (Own2 w7 w2.heap.size (.int .i64 op) (.slice (some ⟨g', 0, none⟩) ys.length cap')) := (HRb.out _).2.2.2.2.below hb7
        clear hb7 r0 r1 HRb
        have o7 := HO7'.out
        obtain ⟨⟨r0, r1⟩, -, -⟩ := o7
        go_wp2_with fail
        refine (heldElem_any op g' cap' ys w7 HR7'.out (by omega)).mono ?_
        rintro e w8 ⟨rfl, hb8⟩
        have HB8 : Hid (Below w.heap.size w w8) := HB7.out.trans (hb8.mono HB7.out.size)
        clear hb8
        go_wp2
        go_ret
        exact ⟨rfl, HB8.out⟩
      · exact absurd HK.out.2 (hno op ys HK.out.1)
    · exact absurd HK.out.2 (hno op ys HK.out.1)
  · have HN : Hid (∀ op ys, okA (ez op) ys = true → s.data.toList ≠ eT op ys) := hno
    clear hno
    have HBa : Hid (∀ o, Below w.heap.size w (w1.alloc o)) := fun o => HB1.out.alloc HB1.out.size o
    have HOa : Hid (Own2 (w1.alloc (.cells #[.int .i64 0, .slice none 0 0] 25)) w1.heap.size (.int .i64 0) (.slice none 0 0)) := Own2.new w1 _ _
    unfold elemV
    go_wp2_with fail
    refine (HI.out _ (HBa.out _)).mono ?_
    rintro e w2 ⟨hb2, h2⟩
    rcases h2 with ⟨op', ys', g', cap', rfl, hok', ht', -, -⟩ | ⟨rfl, -⟩
    · exact absurd ht' (HN.out op' ys' hok')
    have HO2 : Hid (Own2 w2 w1.heap.size (.int .i64 0) (.slice none 0 0)) := HOa.out.below hb2
    have HB2 : Hid (Below w.heap.size w w2) := (HBa.out _).trans (hb2.mono (HBa.out _).size)
    have hz2 := HO2.out.lt
    clear hb2 HOa HBa
    have HOb : Hid (Own2 (w2.alloc (.cells #[.int .i64 0, .slice none 0 0] 25)) w2.heap.size (.int .i64 0) (.slice none 0 0)) := Own2.new w2 _ _
    have HRb : Hid (∀ o, Below w.heap.size w (w2.alloc o) ∧ Own2 (w2.alloc o) w1.heap.size (.int .i64 0) (.slice none 0 0)) := fun o => ⟨HB2.out.alloc HB2.out.size o, HO2.out.alloc o⟩
    have o2 := HO2.out
    obtain ⟨⟨r0, r1⟩, -, -⟩ := o2
    unfold elemV
    go_wp2_with fail
    refine (eqNil_any _).mono ?_
    rintro e w3 ⟨rfl, hb3⟩
    have HB3 : Hid (Below w.heap.size w w3) := (HRb.out _).1.trans (hb3.mono (HRb.out _).1.size)
    have HO3 : Hid (Own2 w3 w1.heap.size (.int .i64 0) (.slice none 0 0)) := (HRb.out _).2.below hb3
    have HO3' : Hid (Own2 w3 w2.heap.size (.int .i64 0) (.slice none 0 0)) := HOb.out.below hb3
    clear hb3 HRb HOb r0 r1 HO2
    have o3 := HO3'.out
    obtain ⟨⟨r0, r1⟩, -, -⟩ := o3
    go_wp2_with fail
    refine (markNil_any w3).mono ?_
    rintro e w4 ⟨rfl, hb4⟩
    have HB4 : Hid (Below w.heap.size w w4) := HB3.out.trans (hb4.mono HB3.out.size)
    have HO4 : Hid (Own2 w4 w1.heap.size (.int .i64 0) (.slice none 0 0)) := HO3.out.below hb4
    have HO4' : Hid (Own2 w4 w2.heap.size (.int .i64 0) (.slice none 0 0)) := HO3'.out.below hb4
    clear hb4 r0 r1 HO3 HO3'
    have o4 := HO4'.out
    obtain ⟨⟨r0, r1⟩, -, -⟩ := o4
    go_wp2_with fail
    refine (heldNil_any w4).mono ?_
    rintro e w5 ⟨rfl, hb5⟩
    have HB5 : Hid (Below w.heap.size w w5) := HB4.out.trans (hb5.mono HB4.out.size)
    have HO5 : Hid (Own2 w5 w1.heap.size (.int .i64 0) (.slice none 0 0)) := HO4.out.below hb5
    have HO5' : Hid (Own2 w5 w2.heap.size (.int .i64 0) (.slice none 0 0)) := HO4'.out.below hb5
    clear hb5 r0 r1 HO4 HO4'
    go_wp2_with fail
    refine (HI.out _ HB5.out).mono ?_
    rintro e w6 ⟨hb6, h6⟩
    rcases h6 with ⟨op', ys', g', cap', rfl, hok', ht', -, -⟩ | ⟨rfl, -⟩
    · exact absurd ht' (HN.out op' ys' hok')
    have HB6 : Hid (Below w.heap.size w w6) := HB5.out.trans (hb6.mono HB5.out.size)
    have HO6 : Hid (Own2 w6 w1.heap.size (.int .i64 0) (.slice none 0 0)) := HO5.out.below hb6
    have HO6' : Hid (Own2 w6 w2.heap.size (.int .i64 0) (.slice none 0 0)) := HO5'.out.below hb6
    clear hb6 HO5 HO5'
    have HRb : Hid (∀ o, Below w.heap.size w (w6.alloc o) ∧ Own2 (w6.alloc o) w2.heap.size (.int .i64 0) (.slice none 0 0)) := fun o => ⟨HB6.out.alloc HB6.out.size o, HO6'.out.alloc o⟩
    have o6 := HO6.out
    obtain ⟨⟨r0, r1⟩, -, -⟩ := o6
    have hz6 := HO6.out.lt
    unfold elemV
    go_wp2_with fail
    refine (eqNil_any _).mono ?_
    rintro e w7 ⟨rfl, hb7⟩
    have HB7 : Hid (Below w.heap.size w w7) := (HRb.out _).1.trans (hb7.mono (HRb.out _).1.size)
    have HO7' : Hid (Own2 w7 w2.heap.size (.int .i64 0) (.slice none 0 0)) := (HRb.out _).2.below hb7
    clear hb7 r0 r1 HRb
    have o7 := HO7'.out
    obtain ⟨⟨r0, r1⟩, -, -⟩ := o7
    go_wp2_with fail
    refine (heldNil_any w7).mono ?_
    rintro e w8 ⟨rfl, hb8⟩
    have HB8 : Hid (Below w.heap.size w w8) := HB7.out.trans (hb8.mono HB7.out.size)
    clear hb8
    go_wp2
    go_ret
    exact ⟨rfl, HB8.out⟩
end Go.Proofs.YtlddkhhaclfmiaaGreatDoor

/- The table of devices out of a row's condition. Helper text: no statement is claimed here. -/
namespace Go.Proofs.YtlddkhhaclfmiaaGreatDoor
open Go.ChangeShapes Go.WideShapes Go.ChangeAt Go.RowKit

theorem gRows : Tryz.prog.globalNamed (Rows.fnElemBackRow.named.getD 0 "") = some 2 := by kernel_rfl
theorem laid_rowsD : (Rows.laid_loop_example_stilscan_impl_devRows : DataW Unit) = .agg rowsD := rfl
theorem devTab_of {W : World} {sp : Nat → Bool} {held : Bool} {cs : Array Value} {fuel : Nat} {p : List MemPlace}
    (hv : W.var? Tryz.prog (Rows.fnElemBackRow.named.getD 0 "") = some cs)
    (hd : DataW.trod (fun _ => ()) Tryz.prog W 0 sp held fuel 138 cs.toList = some (Rows.laid_loop_example_stilscan_impl_devRows, p)) : DevTab W := by
  rw [laid_rowsD] at hd
  obtain ⟨xs, m, rfl, hx, hl, hn, hel⟩ := DataW.trod_array Tryz.underlying138 hd
  simp only [Prod.mk.injEq, DataW.agg.injEq] at hx
  intro i hi
  have h1 := hel i hi
  have h2 := rowsD_at i hi
  rw [hx.1, List.getElem?_map] at h2
  obtain ⟨x, hx1, hx2⟩ := Option.map_eq_some_iff.1 h2
  rw [hx1, cRow] at h1
  have h3 := rowCells (p := x.2) (h1.trans (by rw [show x = (x.1, x.2) from rfl, hx2]; rfl))
  have at_ : ∀ j, j < 5 → cs[i * 5 + j]? = ((cs.toList.drop (i * 5)).take 5)[j]? := by
    intro j hj
    simp [hj]
  have hc := World.var?_cell gRows hv
  have a0 := at_ 0 (by omega)
  have a1 := at_ 1 (by omega)
  have a2 := at_ 2 (by omega)
  have a3 := at_ 3 (by omega)
  have a4 := at_ 4 (by omega)
  rw [h3] at a0 a1 a2 a3 a4
  refine ⟨?_, ?_, ?_, ?_, ?_⟩
  · rw [hc]; simpa using a0
  · rw [hc]; simpa using a1
  · rw [hc]; simpa using a2
  · rw [hc]; simpa using a3
  · rw [hc]; simpa using a4

end Go.Proofs.YtlddkhhaclfmiaaGreatDoor
