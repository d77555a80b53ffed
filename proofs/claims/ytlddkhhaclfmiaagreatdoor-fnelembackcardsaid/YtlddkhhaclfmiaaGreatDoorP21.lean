/- The walk of FnElemBack: whatever the bytes, it answers true, and nothing that was there has turned. Helper text: no statement is claimed here. -/
import Derived.Test.YtlddkhhaclfmiaaGreatDoorP14
import Derived.Test.YtlddkhhaclfmiaaGreatDoorP17
import Derived.Test.YtlddkhhaclfmiaaGreatDoorP20
import Derived.Test.YtlddkhhaclfmiaaGreatDoorP01
namespace Go.Proofs.YtlddkhhaclfmiaaGreatDoor
open Go.ChangeShapes Go.WideShapes Go.ChangeAt Go.RowKit

theorem isRow_on {w w' : World} {a : Option Addr} {len : Nat} (h : IsRow w a len) (hb : Below w.heap.size w w') : IsRow w' a len := by
  rcases h with h | ⟨b, off, f, rfl, hc⟩
  · exact .inl h
  · refine .inr ⟨b, off, f, rfl, fun i hi => ?_⟩
    have := hc i hi
    rw [hb.cell (p := ⟨b, off + i, none⟩) (World.block_lt_of_cell? w ⟨b, off + i, none⟩ this.1)]
    exact this
/-- A text is that of one contact or coil at most: the reading says so. -/
theorem oneE_all (t : List UInt8) (w : World) : OneE t := by
  obtain ⟨e, w', fr, h, -⟩ := sreadE_any ⟨t.toArray⟩ w []
  simpa using h.2
theorem text_data (t : List UInt8) : (⟨t.toArray⟩ : ByteArray).data.toList = t := by simp
theorem text_size {t : List UInt8} {n : Nat} (h : t.length ≤ n) : (⟨t.toArray⟩ : ByteArray).size ≤ n := by simpa [ByteArray.size] using h
theorem text_list (s : ByteArray) : s.toList = s.data.toList := ByteArray.toList_eq s

set_option maxRecDepth 100000 in
set_option maxHeartbeats 8000000 in
theorem eback_walk (a0 : Option Addr) (len0 cap0 : Nat) (a1 : Option Addr) (len1 cap1 : Nat) (w : World) (h0 : IsRow w a0 len0) (hlc0 : len0 ≤ cap0) (h1 : IsRow w a1 len1) (hlc1 : len1 ≤ cap1) (hT : Tabs w) (hC : CmpTab w) (hM : MaxT w) (hE : ErrT w) :
    Calls Tryz.prog 3 #[.slice a0 len0 cap0, .slice a1 len1 cap1] w fun e w' => e = .returned (.bool true) ∧ Below w.heap.size w w' := by
  have H0 : Hid (IsRow w a0 len0) := h0
  have H1 : Hid (∀ W, Below w.heap.size w W → IsRow W a1 len1) := fun W hb => isRow_on h1 hb
  clear h0 h1
  by_cases hl : 1048576 < len0
  · have hl1 : (1048576 : Int) < len0 := by omega
    go_enter Tryz.func3, Tryz.ntmps3
    go_wp2
    go_ret
    exact ⟨rfl, Below.refl _ _⟩
  have hl1 : ¬ (1048576 : Int) < len0 := by omega
  by_cases hm : 1048576 < len1
  · have hm1 : (1048576 : Int) < len1 := by omega
    go_enter Tryz.func3, Tryz.ntmps3
    go_wp2
    go_ret
    exact ⟨rfl, Below.refl _ _⟩
  have hm1 : ¬ (1048576 : Int) < len1 := by omega
  have HI : Hid (∀ (s : ByteArray) W, s.size ≤ 1000 → Below w.heap.size w W → Calls Tryz.prog 10 #[.string s] W (ReadE s.data.toList W)) := fun s W hs hb =>
    ireadE_any s W (by omega) (hT.to hb) (hC.to hb) (hM.to hb) (hE.to hb)
  have HX : Hid (∀ op ys p cap W, Below w.heap.size w W → ArgsIs W p ys → ys.length ≤ cap → ys.length ≤ 4 → Calls Tryz.prog 6 #[elemV op p ys.length cap] W fun e w' => e = .returned (.string ⟨(eT op ys).toArray⟩) ∧ Below W.heap.size W w') := fun op ys p cap W hb hA hc hl =>
    ielem_any op ys p cap W (hT.to hb) (hC.to hb) hA hc (by omega)
  have HD : Hid (∀ W, Below w.heap.size w W → DevTab W) := fun W hb => hT.dev.to hb
  clear hT hC hM hE
  go_enter Tryz.func3, Tryz.ntmps3
  go_wp2_with fail
  refine (drawEText_any a0 len0 cap0 _ H0.out hlc0).mono ?_
  rintro e w1 ⟨op, ys, p, cap, rfl, -, -, hy4, hyc, hEls, hb1⟩
  have HB1 : Hid (Below w.heap.size w w1) := hb1
  have HA1 : Hid (ArgsIs w1 p ys) := hEls.is
  clear hEls hb1
  have HBa : Hid (∀ o, Below w.heap.size w (w1.alloc o) ∧ ArgsIs (w1.alloc o) p ys) := fun o => ⟨HB1.out.alloc HB1.out.size o, HA1.out.to (one _ _)⟩
  have HOa : Hid (Own2 (w1.alloc (.cells #[.int .i64 op, .slice p ys.length cap] 25)) w1.heap.size (.int .i64 op) (.slice p ys.length cap)) := Own2.new w1 _ _
  have HTl := eT_short op ys
  unfold elemV
  go_wp2_with fail
  refine (HX.out op ys p cap _ (HBa.out _).1 (HBa.out _).2 hyc hy4).mono ?_
  rintro e w2 ⟨rfl, hb2⟩
  have HB2 : Hid (Below w.heap.size w w2) := (HBa.out _).1.trans (hb2.mono (HBa.out _).1.size)
  have HA2 : Hid (ArgsIs w2 p ys) := (HBa.out _).2.to hb2
  have HO2 : Hid (Own2 w2 w1.heap.size (.int .i64 op) (.slice p ys.length cap)) := HOa.out.below hb2
  clear hb2 HBa HOa
  have o2 := HO2.out
  obtain ⟨⟨r0, r1⟩, -, -⟩ := o2
  go_wp2_with fail
  refine (selem_any op ys p cap _ HA2.out hyc).mono ?_
  rintro e w3 ⟨rfl, hb3⟩
  have HB3 : Hid (Below w.heap.size w w3) := HB2.out.trans (hb3.mono HB2.out.size)
  have HA3 : Hid (ArgsIs w3 p ys) := HA2.out.to hb3
  have HO3 : Hid (Own2 w3 w1.heap.size (.int .i64 op) (.slice p ys.length cap)) := HO2.out.below hb3
  clear hb3 r0 r1 HA2 HO2
  have o3 := HO3.out
  obtain ⟨⟨r0, r1⟩, -, -⟩ := o3
  have HSp : Hid (okA (ez op) ys = (coilB op ys || conB op ys)) := okA_split op ys
  have HOne : Hid (OneE (eT op ys)) := oneE_all _ w
  have heq : (eT op ys == eT op ys) = true := by simp
  cases hk : okA (ez op) ys
  · have HZ : Hid (eT op ys = []) := by show _ = _; unfold eT; rw [hk]; rfl
    have hz : (eT op ys == []) = true := by rw [HZ.out]; rfl
    have HC1 : Hid (conB op ys = false) := by
      have := HSp.out
      rw [hk] at this
      show _ = _
      cases h : conB op ys
      · rfl
      · rw [h] at this; simp at this
    have HC2 : Hid (coilB op ys = false) := by
      have := HSp.out
      rw [hk] at this
      show _ = _
      cases h : coilB op ys
      · rfl
      · rw [h] at this; simp at this
    clear hk HSp
    go_wp2_with fail
    refine (isContact_any op ys p cap _ (HD.out _ HB3.out) HA3.out hyc (by omega)).mono ?_
    rintro e w4 ⟨rfl, hb4⟩
    rw [HC1.out]
    have HB4 : Hid (Below w.heap.size w w4) := HB3.out.trans (hb4.mono HB3.out.size)
    have HA4 : Hid (ArgsIs w4 p ys) := HA3.out.to hb4
    have HO4 : Hid (Own2 w4 w1.heap.size (.int .i64 op) (.slice p ys.length cap)) := HO3.out.below hb4
    clear hb4 r0 r1
    have o4 := HO4.out
    obtain ⟨⟨r0, r1⟩, -, -⟩ := o4

    go_wp2_with fail
    refine (isCoil_any op ys p cap _ (HD.out _ HB4.out) HA4.out hyc (by omega)).mono ?_
    rintro e w5 ⟨rfl, hb5⟩
    rw [HC2.out]
    have HB5 : Hid (Below w.heap.size w w5) := HB4.out.trans (hb5.mono HB4.out.size)
    have HA5 : Hid (ArgsIs w5 p ys) := HA4.out.to hb5
    have HO5 : Hid (Own2 w5 w1.heap.size (.int .i64 op) (.slice p ys.length cap)) := HO4.out.below hb5
    clear hb5 r0 r1

    go_wp2_with fail
    refine (HI.out ⟨(eT op ys).toArray⟩ _ (text_size (by omega)) HB5.out).mono ?_
    rw [text_data]
    rintro e w6 ⟨hb6, h6⟩
    have HB6 : Hid (Below w.heap.size w w6) := HB5.out.trans (hb6.mono HB5.out.size)
    have HA6 : Hid (ArgsIs w6 p ys) := HA5.out.to hb6
    have HO6 : Hid (Own2 w6 w1.heap.size (.int .i64 op) (.slice p ys.length cap)) := HO5.out.below hb6
    clear hb6

    obtain ⟨op', ys', g', cap', rfl, hok', ht', -, -⟩ | ⟨rfl, -⟩ := h6
    · exact absurd ht'.symm (by rw [HZ.out]; exact fun h => eT_some hok' h)
    have HRr : Hid (∀ o, Below w.heap.size w (w6.alloc o)) := fun o => HB6.out.alloc HB6.out.size o
    unfold elemV
    go_wp2_with fail
    refine (weNil_any _).mono ?_
    rintro e w7 ⟨rfl, hb7⟩
    have HB7 : Hid (Below w.heap.size w w7) := (HRr.out _).trans (hb7.mono (HRr.out _).size)
    clear hb7 HRr

    go_wp2_with fail
    refine (drawERead_any a1 len1 cap1 _ (H1.out _ HB7.out) hlc1).mono ?_
    rintro e w8 ⟨tx2, rfl, hs2, hb8⟩
    have HB8 : Hid (Below w.heap.size w w8) := HB7.out.trans (hb8.mono HB7.out.size)
    clear hb8
    go_wp2_with fail
    refine (HI.out tx2 _ hs2 HB8.out).mono ?_
    rintro e w9 ⟨hb9, h9⟩
    have HB9 : Hid (Below w.heap.size w w9) := HB8.out.trans (hb9.mono HB8.out.size)
    clear hb9
    have HOne2 : Hid (OneE tx2.data.toList) := oneE_all _ w
    obtain ⟨op2, ys2, g2, cap2, rfl, hok2, ht2, hrow2, -⟩ | ⟨rfl, hno2⟩ := h9
    · have HK2 : Hid (okA (ez op2) ys2 = true ∧ tx2.data.toList = eT op2 ys2) := ⟨hok2, ht2⟩
      have hy3 : ys2.length ≤ 3 := by have := okA_len hok2; have := (fm0_ok (ez op2)).1; omega
      have HR9 : Hid (∀ o, ARow (w9.alloc o) g2 cap2 ys2 ∧ Below w.heap.size w (w9.alloc o)) := fun o => ⟨hrow2.to (one _ _), HB9.out.alloc HB9.out.size o⟩
      have HO9 : Hid (Own2 (w9.alloc (.cells #[.int .i64 op2, .slice (some ⟨g2, 0, none⟩) ys2.length cap2] 25)) w9.heap.size (.int .i64 op2) (.slice (some ⟨g2, 0, none⟩) ys2.length cap2)) := Own2.new w9 _ _
      have HRm := hrow2.room
      clear hok2 ht2 hrow2
      unfold elemV
      go_wp2_with fail
      refine (sreadE_any tx2 _).mono ?_
      rintro e w10 ⟨⟨hb10, h10⟩, -⟩
      obtain ⟨op3, ys3, g3, cap3, rfl, hok3, ht3, hrow3, -⟩ | ⟨rfl, hno3⟩ := h10
      rotate_left
      · exact absurd HK2.out.2 (hno3 op2 ys2 HK2.out.1)
      obtain ⟨rfl, rfl⟩ := HOne2.out op2 ys2 op3 ys3 HK2.out.1 HK2.out.2 hok3 ht3
      have HO10 : Hid (Own2 w10 w9.heap.size (.int .i64 op2) (.slice (some ⟨g2, 0, none⟩) ys2.length cap2)) := HO9.out.below hb10
      have HB10 : Hid (Below w.heap.size w w10) := (HR9.out _).2.trans (hb10.mono (HR9.out _).2.size)
      have HR10 : Hid (∀ o, ARow (w10.alloc o) g2 cap2 ys2 ∧ ARow (w10.alloc o) g3 cap3 ys2 ∧ Below w.heap.size w (w10.alloc o) ∧ Own2 (w10.alloc o) w9.heap.size (.int .i64 op2) (.slice (some ⟨g2, 0, none⟩) ys2.length cap2)) := fun o => ⟨((HR9.out _).1.to hb10).to (one _ _), hrow3.to (one _ _), HB10.out.alloc HB10.out.size o, HO10.out.alloc o⟩
      clear hok3 ht3 hrow3 hb10 HR9 HO9
      have o10 := HO10.out
      obtain ⟨⟨r0, r1⟩, -, -⟩ := o10
      have hz10 := HO10.out.lt
      unfold elemV
      go_wp2_with fail
      refine (weSame_any op2 ys2 g2 g3 cap2 cap3 _ (HR10.out _).1.args (HR10.out _).1.lt (HR10.out _).2.1.args (HR10.out _).2.1.lt (by omega)).mono ?_
      rintro e w11 ⟨rfl, hb11⟩
      have HB11 : Hid (Below w.heap.size w w11) := (HR10.out _).2.2.1.trans (hb11.mono (HR10.out _).2.2.1.size)
      have HR11 : Hid (ARow w11 g2 cap2 ys2) := (HR10.out _).1.to hb11
      have HO11 : Hid (Own2 w11 w9.heap.size (.int .i64 op2) (.slice (some ⟨g2, 0, none⟩) ys2.length cap2)) := (HR10.out _).2.2.2.below hb11
      clear hb11 r0 r1 HR10
      have o11 := HO11.out
      obtain ⟨⟨r0, r1⟩, -, -⟩ := o11
      go_wp2_with fail
      refine (HX.out op2 ys2 (some ⟨g2, 0, none⟩) cap2 _ HB11.out (.inr ⟨g2, rfl, HR11.out.lt, HR11.out.args⟩) HRm (by omega)).mono ?_
      rintro e w12 ⟨rfl, hb12⟩
      have HB12 : Hid (Below w.heap.size w w12) := HB11.out.trans (hb12.mono HB11.out.size)
      have heq2 : (eT op2 ys2 == tx2.toList) = true := by rw [text_list, HK2.out.2]; simp
      clear hb12
      go_wp2
      go_ret
      exact ⟨rfl, HB12.out⟩
    · have HN2 : Hid (∀ op ys, okA (ez op) ys = true → tx2.data.toList ≠ eT op ys) := hno2
      have HR9 : Hid (∀ o, Below w.heap.size w (w9.alloc o)) := fun o => HB9.out.alloc HB9.out.size o
      have HO9 : Hid (Own2 (w9.alloc (.cells #[.int .i64 0, .slice none 0 0] 25)) w9.heap.size (.int .i64 0) (.slice none 0 0)) := Own2.new w9 _ _
      clear hno2
      unfold elemV
      go_wp2_with fail
      refine (sreadE_any tx2 _).mono ?_
      rintro e w10 ⟨⟨hb10, h10⟩, -⟩
      obtain ⟨op3, ys3, g3, cap3, rfl, hok3, ht3, -, -⟩ | ⟨rfl, -⟩ := h10
      · exact absurd ht3 (HN2.out op3 ys3 hok3)
      have HO10 : Hid (Own2 w10 w9.heap.size (.int .i64 0) (.slice none 0 0)) := HO9.out.below hb10
      have HB10 : Hid (Below w.heap.size w w10) := (HR9.out _).trans (hb10.mono (HR9.out _).size)
      have HR10 : Hid (∀ o, Below w.heap.size w (w10.alloc o)) := fun o => HB10.out.alloc HB10.out.size o
      clear hb10 HR9 HO9
      have o10 := HO10.out
      obtain ⟨⟨r0, r1⟩, -, -⟩ := o10
      have hz10 := HO10.out.lt
      unfold elemV
      go_wp2_with fail
      refine (weNil_any _).mono ?_
      rintro e w11 ⟨rfl, hb11⟩
      have HB11 : Hid (Below w.heap.size w w11) := (HR10.out _).trans (hb11.mono (HR10.out _).size)
      clear hb11 r0 r1 HR10
      go_wp2
      go_ret
      exact ⟨rfl, HB11.out⟩
  · have HK : Hid (okA (ez op) ys = true) := hk
    have hz : (eT op ys == []) = false := by
      rw [beq_eq_false_iff_ne]
      exact eT_some hk
    clear hk
    cases hc : conB op ys
    · have HC1 : Hid (conB op ys = false) := hc
      have HC2 : Hid (coilB op ys = true) := by
        have := HSp.out
        rw [HK.out, hc] at this
        show _ = _
        simpa using this.symm
      clear hc HSp
      go_wp2_with fail
      refine (isContact_any op ys p cap _ (HD.out _ HB3.out) HA3.out hyc (by omega)).mono ?_
      rintro e w4 ⟨rfl, hb4⟩
      rw [HC1.out]
      have HB4 : Hid (Below w.heap.size w w4) := HB3.out.trans (hb4.mono HB3.out.size)
      have HA4 : Hid (ArgsIs w4 p ys) := HA3.out.to hb4
      have HO4 : Hid (Own2 w4 w1.heap.size (.int .i64 op) (.slice p ys.length cap)) := HO3.out.below hb4
      clear hb4 r0 r1
      have o4 := HO4.out
      obtain ⟨⟨r0, r1⟩, -, -⟩ := o4

      go_wp2_with fail
      refine (isCoil_any op ys p cap _ (HD.out _ HB4.out) HA4.out hyc (by omega)).mono ?_
      rintro e w5 ⟨rfl, hb5⟩
      rw [HC2.out]
      have HB5 : Hid (Below w.heap.size w w5) := HB4.out.trans (hb5.mono HB4.out.size)
      have HA5 : Hid (ArgsIs w5 p ys) := HA4.out.to hb5
      have HO5 : Hid (Own2 w5 w1.heap.size (.int .i64 op) (.slice p ys.length cap)) := HO4.out.below hb5
      clear hb5 r0 r1

      go_wp2_with fail
      refine (HI.out ⟨(eT op ys).toArray⟩ _ (text_size (by omega)) HB5.out).mono ?_
      rw [text_data]
      rintro e w6 ⟨hb6, h6⟩
      have HB6 : Hid (Below w.heap.size w w6) := HB5.out.trans (hb6.mono HB5.out.size)
      have HA6 : Hid (ArgsIs w6 p ys) := HA5.out.to hb6
      have HO6 : Hid (Own2 w6 w1.heap.size (.int .i64 op) (.slice p ys.length cap)) := HO5.out.below hb6
      clear hb6

      obtain ⟨op', ys', g', cap', rfl, hok', ht', hrow', -⟩ | ⟨rfl, hno⟩ := h6
      rotate_left
      · exact absurd rfl (hno op ys HK.out)
      obtain ⟨rfl, rfl⟩ := HOne.out op ys op' ys' HK.out rfl hok' ht'
      clear hok' ht'
      obtain ⟨B, rfl, hB, hAt⟩ : ∃ B, p = some ⟨B, 0, none⟩ ∧ B < w6.heap.size ∧ ArgsAt w6 B ys := by
        rcases HA6.out with h | ⟨B, h1, h2, h3⟩
        · exact absurd h (okA_ne HK.out)
        · exact ⟨B, h1, h2, h3⟩
      have HRr : Hid (∀ o, ArgsAt (w6.alloc o) g' ys ∧ g' < (w6.alloc o).heap.size ∧ ArgsAt (w6.alloc o) B ys ∧ B < (w6.alloc o).heap.size ∧ Below w.heap.size w (w6.alloc o)) := fun o => ⟨(hrow'.to (one _ _)).args, (hrow'.to (one _ _)).lt, hAt.to hB (one _ _), by simp; omega, HB6.out.alloc HB6.out.size o⟩
      clear hrow' hAt
      have o6 := HO6.out
      obtain ⟨⟨r0, r1⟩, -, -⟩ := o6
      have hz6 := HO6.out.lt
      unfold elemV
      go_wp2_with fail
      refine (weSame_any op ys g' B cap' cap _ (HRr.out _).1 (HRr.out _).2.1 (HRr.out _).2.2.1 (HRr.out _).2.2.2.1 (by omega)).mono ?_
      rintro e w7 ⟨rfl, hb7⟩
      have HB7 : Hid (Below w.heap.size w w7) := (HRr.out _).2.2.2.2.trans (hb7.mono (HRr.out _).2.2.2.2.size)
      clear hb7 r0 r1 HRr

      go_wp2_with fail
      refine (drawERead_any a1 len1 cap1 _ (H1.out _ HB7.out) hlc1).mono ?_
      rintro e w8 ⟨tx2, rfl, hs2, hb8⟩
      have HB8 : Hid (Below w.heap.size w w8) := HB7.out.trans (hb8.mono HB7.out.size)
      clear hb8
      go_wp2_with fail
      refine (HI.out tx2 _ hs2 HB8.out).mono ?_
      rintro e w9 ⟨hb9, h9⟩
      have HB9 : Hid (Below w.heap.size w w9) := HB8.out.trans (hb9.mono HB8.out.size)
      clear hb9
      have HOne2 : Hid (OneE tx2.data.toList) := oneE_all _ w
      obtain ⟨op2, ys2, g2, cap2, rfl, hok2, ht2, hrow2, -⟩ | ⟨rfl, hno2⟩ := h9
      · have HK2 : Hid (okA (ez op2) ys2 = true ∧ tx2.data.toList = eT op2 ys2) := ⟨hok2, ht2⟩
        have hy3 : ys2.length ≤ 3 := by have := okA_len hok2; have := (fm0_ok (ez op2)).1; omega
        have HR9 : Hid (∀ o, ARow (w9.alloc o) g2 cap2 ys2 ∧ Below w.heap.size w (w9.alloc o)) := fun o => ⟨hrow2.to (one _ _), HB9.out.alloc HB9.out.size o⟩
        have HO9 : Hid (Own2 (w9.alloc (.cells #[.int .i64 op2, .slice (some ⟨g2, 0, none⟩) ys2.length cap2] 25)) w9.heap.size (.int .i64 op2) (.slice (some ⟨g2, 0, none⟩) ys2.length cap2)) := Own2.new w9 _ _
        have HRm := hrow2.room
        clear hok2 ht2 hrow2
        unfold elemV
        go_wp2_with fail
        refine (sreadE_any tx2 _).mono ?_
        rintro e w10 ⟨⟨hb10, h10⟩, -⟩
        obtain ⟨op3, ys3, g3, cap3, rfl, hok3, ht3, hrow3, -⟩ | ⟨rfl, hno3⟩ := h10
        rotate_left
        · exact absurd HK2.out.2 (hno3 op2 ys2 HK2.out.1)
        obtain ⟨rfl, rfl⟩ := HOne2.out op2 ys2 op3 ys3 HK2.out.1 HK2.out.2 hok3 ht3
        have HO10 : Hid (Own2 w10 w9.heap.size (.int .i64 op2) (.slice (some ⟨g2, 0, none⟩) ys2.length cap2)) := HO9.out.below hb10
        have HB10 : Hid (Below w.heap.size w w10) := (HR9.out _).2.trans (hb10.mono (HR9.out _).2.size)
        have HR10 : Hid (∀ o, ARow (w10.alloc o) g2 cap2 ys2 ∧ ARow (w10.alloc o) g3 cap3 ys2 ∧ Below w.heap.size w (w10.alloc o) ∧ Own2 (w10.alloc o) w9.heap.size (.int .i64 op2) (.slice (some ⟨g2, 0, none⟩) ys2.length cap2)) := fun o => ⟨((HR9.out _).1.to hb10).to (one _ _), hrow3.to (one _ _), HB10.out.alloc HB10.out.size o, HO10.out.alloc o⟩
        clear hok3 ht3 hrow3 hb10 HR9 HO9
        have o10 := HO10.out
        obtain ⟨⟨r0, r1⟩, -, -⟩ := o10
        have hz10 := HO10.out.lt
        unfold elemV
        go_wp2_with fail
        refine (weSame_any op2 ys2 g2 g3 cap2 cap3 _ (HR10.out _).1.args (HR10.out _).1.lt (HR10.out _).2.1.args (HR10.out _).2.1.lt (by omega)).mono ?_
        rintro e w11 ⟨rfl, hb11⟩
        have HB11 : Hid (Below w.heap.size w w11) := (HR10.out _).2.2.1.trans (hb11.mono (HR10.out _).2.2.1.size)
        have HR11 : Hid (ARow w11 g2 cap2 ys2) := (HR10.out _).1.to hb11
        have HO11 : Hid (Own2 w11 w9.heap.size (.int .i64 op2) (.slice (some ⟨g2, 0, none⟩) ys2.length cap2)) := (HR10.out _).2.2.2.below hb11
        clear hb11 r0 r1 HR10
        have o11 := HO11.out
        obtain ⟨⟨r0, r1⟩, -, -⟩ := o11
        go_wp2_with fail
        refine (HX.out op2 ys2 (some ⟨g2, 0, none⟩) cap2 _ HB11.out (.inr ⟨g2, rfl, HR11.out.lt, HR11.out.args⟩) HRm (by omega)).mono ?_
        rintro e w12 ⟨rfl, hb12⟩
        have HB12 : Hid (Below w.heap.size w w12) := HB11.out.trans (hb12.mono HB11.out.size)
        have heq2 : (eT op2 ys2 == tx2.toList) = true := by rw [text_list, HK2.out.2]; simp
        clear hb12
        go_wp2
        go_ret
        exact ⟨rfl, HB12.out⟩
      · have HN2 : Hid (∀ op ys, okA (ez op) ys = true → tx2.data.toList ≠ eT op ys) := hno2
        have HR9 : Hid (∀ o, Below w.heap.size w (w9.alloc o)) := fun o => HB9.out.alloc HB9.out.size o
        have HO9 : Hid (Own2 (w9.alloc (.cells #[.int .i64 0, .slice none 0 0] 25)) w9.heap.size (.int .i64 0) (.slice none 0 0)) := Own2.new w9 _ _
        clear hno2
        unfold elemV
        go_wp2_with fail
        refine (sreadE_any tx2 _).mono ?_
        rintro e w10 ⟨⟨hb10, h10⟩, -⟩
        obtain ⟨op3, ys3, g3, cap3, rfl, hok3, ht3, -, -⟩ | ⟨rfl, -⟩ := h10
        · exact absurd ht3 (HN2.out op3 ys3 hok3)
        have HO10 : Hid (Own2 w10 w9.heap.size (.int .i64 0) (.slice none 0 0)) := HO9.out.below hb10
        have HB10 : Hid (Below w.heap.size w w10) := (HR9.out _).trans (hb10.mono (HR9.out _).size)
        have HR10 : Hid (∀ o, Below w.heap.size w (w10.alloc o)) := fun o => HB10.out.alloc HB10.out.size o
        clear hb10 HR9 HO9
        have o10 := HO10.out
        obtain ⟨⟨r0, r1⟩, -, -⟩ := o10
        have hz10 := HO10.out.lt
        unfold elemV
        go_wp2_with fail
        refine (weNil_any _).mono ?_
        rintro e w11 ⟨rfl, hb11⟩
        have HB11 : Hid (Below w.heap.size w w11) := (HR10.out _).trans (hb11.mono (HR10.out _).size)
        clear hb11 r0 r1 HR10
        go_wp2
        go_ret
        exact ⟨rfl, HB11.out⟩
    · have HC1 : Hid (conB op ys = true) := hc
      clear hc HSp
      go_wp2_with fail
      refine (isContact_any op ys p cap _ (HD.out _ HB3.out) HA3.out hyc (by omega)).mono ?_
      rintro e w4 ⟨rfl, hb4⟩
      rw [HC1.out]
      have HB4 : Hid (Below w.heap.size w w4) := HB3.out.trans (hb4.mono HB3.out.size)
      have HA4 : Hid (ArgsIs w4 p ys) := HA3.out.to hb4
      have HO4 : Hid (Own2 w4 w1.heap.size (.int .i64 op) (.slice p ys.length cap)) := HO3.out.below hb4
      clear hb4 r0 r1
      have o4 := HO4.out
      obtain ⟨⟨r0, r1⟩, -, -⟩ := o4

      have HB5 : Hid (Below w.heap.size w w4) := HB4
      have HA5 : Hid (ArgsIs w4 p ys) := HA4
      have HO5 : Hid (Own2 w4 w1.heap.size (.int .i64 op) (.slice p ys.length cap)) := HO4
      clear r0 r1

      go_wp2_with fail
      refine (HI.out ⟨(eT op ys).toArray⟩ _ (text_size (by omega)) HB5.out).mono ?_
      rw [text_data]
      rintro e w6 ⟨hb6, h6⟩
      have HB6 : Hid (Below w.heap.size w w6) := HB5.out.trans (hb6.mono HB5.out.size)
      have HA6 : Hid (ArgsIs w6 p ys) := HA5.out.to hb6
      have HO6 : Hid (Own2 w6 w1.heap.size (.int .i64 op) (.slice p ys.length cap)) := HO5.out.below hb6
      clear hb6

      obtain ⟨op', ys', g', cap', rfl, hok', ht', hrow', -⟩ | ⟨rfl, hno⟩ := h6
      rotate_left
      · exact absurd rfl (hno op ys HK.out)
      obtain ⟨rfl, rfl⟩ := HOne.out op ys op' ys' HK.out rfl hok' ht'
      clear hok' ht'
      obtain ⟨B, rfl, hB, hAt⟩ : ∃ B, p = some ⟨B, 0, none⟩ ∧ B < w6.heap.size ∧ ArgsAt w6 B ys := by
        rcases HA6.out with h | ⟨B, h1, h2, h3⟩
        · exact absurd h (okA_ne HK.out)
        · exact ⟨B, h1, h2, h3⟩
      have HRr : Hid (∀ o, ArgsAt (w6.alloc o) g' ys ∧ g' < (w6.alloc o).heap.size ∧ ArgsAt (w6.alloc o) B ys ∧ B < (w6.alloc o).heap.size ∧ Below w.heap.size w (w6.alloc o)) := fun o => ⟨(hrow'.to (one _ _)).args, (hrow'.to (one _ _)).lt, hAt.to hB (one _ _), by simp; omega, HB6.out.alloc HB6.out.size o⟩
      clear hrow' hAt
      have o6 := HO6.out
      obtain ⟨⟨r0, r1⟩, -, -⟩ := o6
      have hz6 := HO6.out.lt
      unfold elemV
      go_wp2_with fail
      refine (weSame_any op ys g' B cap' cap _ (HRr.out _).1 (HRr.out _).2.1 (HRr.out _).2.2.1 (HRr.out _).2.2.2.1 (by omega)).mono ?_
      rintro e w7 ⟨rfl, hb7⟩
      have HB7 : Hid (Below w.heap.size w w7) := (HRr.out _).2.2.2.2.trans (hb7.mono (HRr.out _).2.2.2.2.size)
      clear hb7 r0 r1 HRr

      go_wp2_with fail
      refine (drawERead_any a1 len1 cap1 _ (H1.out _ HB7.out) hlc1).mono ?_
      rintro e w8 ⟨tx2, rfl, hs2, hb8⟩
      have HB8 : Hid (Below w.heap.size w w8) := HB7.out.trans (hb8.mono HB7.out.size)
      clear hb8
      go_wp2_with fail
      refine (HI.out tx2 _ hs2 HB8.out).mono ?_
      rintro e w9 ⟨hb9, h9⟩
      have HB9 : Hid (Below w.heap.size w w9) := HB8.out.trans (hb9.mono HB8.out.size)
      clear hb9
      have HOne2 : Hid (OneE tx2.data.toList) := oneE_all _ w
      obtain ⟨op2, ys2, g2, cap2, rfl, hok2, ht2, hrow2, -⟩ | ⟨rfl, hno2⟩ := h9
      · have HK2 : Hid (okA (ez op2) ys2 = true ∧ tx2.data.toList = eT op2 ys2) := ⟨hok2, ht2⟩
        have hy3 : ys2.length ≤ 3 := by have := okA_len hok2; have := (fm0_ok (ez op2)).1; omega
        have HR9 : Hid (∀ o, ARow (w9.alloc o) g2 cap2 ys2 ∧ Below w.heap.size w (w9.alloc o)) := fun o => ⟨hrow2.to (one _ _), HB9.out.alloc HB9.out.size o⟩
        have HO9 : Hid (Own2 (w9.alloc (.cells #[.int .i64 op2, .slice (some ⟨g2, 0, none⟩) ys2.length cap2] 25)) w9.heap.size (.int .i64 op2) (.slice (some ⟨g2, 0, none⟩) ys2.length cap2)) := Own2.new w9 _ _
        have HRm := hrow2.room
        clear hok2 ht2 hrow2
        unfold elemV
        go_wp2_with fail
        refine (sreadE_any tx2 _).mono ?_
        rintro e w10 ⟨⟨hb10, h10⟩, -⟩
        obtain ⟨op3, ys3, g3, cap3, rfl, hok3, ht3, hrow3, -⟩ | ⟨rfl, hno3⟩ := h10
        rotate_left
        · exact absurd HK2.out.2 (hno3 op2 ys2 HK2.out.1)
        obtain ⟨rfl, rfl⟩ := HOne2.out op2 ys2 op3 ys3 HK2.out.1 HK2.out.2 hok3 ht3
        have HO10 : Hid (Own2 w10 w9.heap.size (.int .i64 op2) (.slice (some ⟨g2, 0, none⟩) ys2.length cap2)) := HO9.out.below hb10
        have HB10 : Hid (Below w.heap.size w w10) := (HR9.out _).2.trans (hb10.mono (HR9.out _).2.size)
        have HR10 : Hid (∀ o, ARow (w10.alloc o) g2 cap2 ys2 ∧ ARow (w10.alloc o) g3 cap3 ys2 ∧ Below w.heap.size w (w10.alloc o) ∧ Own2 (w10.alloc o) w9.heap.size (.int .i64 op2) (.slice (some ⟨g2, 0, none⟩) ys2.length cap2)) := fun o => ⟨((HR9.out _).1.to hb10).to (one _ _), hrow3.to (one _ _), HB10.out.alloc HB10.out.size o, HO10.out.alloc o⟩
        clear hok3 ht3 hrow3 hb10 HR9 HO9
        have o10 := HO10.out
        obtain ⟨⟨r0, r1⟩, -, -⟩ := o10
        have hz10 := HO10.out.lt
        unfold elemV
        go_wp2_with fail
        refine (weSame_any op2 ys2 g2 g3 cap2 cap3 _ (HR10.out _).1.args (HR10.out _).1.lt (HR10.out _).2.1.args (HR10.out _).2.1.lt (by omega)).mono ?_
        rintro e w11 ⟨rfl, hb11⟩
        have HB11 : Hid (Below w.heap.size w w11) := (HR10.out _).2.2.1.trans (hb11.mono (HR10.out _).2.2.1.size)
        have HR11 : Hid (ARow w11 g2 cap2 ys2) := (HR10.out _).1.to hb11
        have HO11 : Hid (Own2 w11 w9.heap.size (.int .i64 op2) (.slice (some ⟨g2, 0, none⟩) ys2.length cap2)) := (HR10.out _).2.2.2.below hb11
        clear hb11 r0 r1 HR10
        have o11 := HO11.out
        obtain ⟨⟨r0, r1⟩, -, -⟩ := o11
        go_wp2_with fail
        refine (HX.out op2 ys2 (some ⟨g2, 0, none⟩) cap2 _ HB11.out (.inr ⟨g2, rfl, HR11.out.lt, HR11.out.args⟩) HRm (by omega)).mono ?_
        rintro e w12 ⟨rfl, hb12⟩
        have HB12 : Hid (Below w.heap.size w w12) := HB11.out.trans (hb12.mono HB11.out.size)
        have heq2 : (eT op2 ys2 == tx2.toList) = true := by rw [text_list, HK2.out.2]; simp
        clear hb12
        go_wp2
        go_ret
        exact ⟨rfl, HB12.out⟩
      · have HN2 : Hid (∀ op ys, okA (ez op) ys = true → tx2.data.toList ≠ eT op ys) := hno2
        have HR9 : Hid (∀ o, Below w.heap.size w (w9.alloc o)) := fun o => HB9.out.alloc HB9.out.size o
        have HO9 : Hid (Own2 (w9.alloc (.cells #[.int .i64 0, .slice none 0 0] 25)) w9.heap.size (.int .i64 0) (.slice none 0 0)) := Own2.new w9 _ _
        clear hno2
        unfold elemV
        go_wp2_with fail
        refine (sreadE_any tx2 _).mono ?_
        rintro e w10 ⟨⟨hb10, h10⟩, -⟩
        obtain ⟨op3, ys3, g3, cap3, rfl, hok3, ht3, -, -⟩ | ⟨rfl, -⟩ := h10
        · exact absurd ht3 (HN2.out op3 ys3 hok3)
        have HO10 : Hid (Own2 w10 w9.heap.size (.int .i64 0) (.slice none 0 0)) := HO9.out.below hb10
        have HB10 : Hid (Below w.heap.size w w10) := (HR9.out _).trans (hb10.mono (HR9.out _).size)
        have HR10 : Hid (∀ o, Below w.heap.size w (w10.alloc o)) := fun o => HB10.out.alloc HB10.out.size o
        clear hb10 HR9 HO9
        have o10 := HO10.out
        obtain ⟨⟨r0, r1⟩, -, -⟩ := o10
        have hz10 := HO10.out.lt
        unfold elemV
        go_wp2_with fail
        refine (weNil_any _).mono ?_
        rintro e w11 ⟨rfl, hb11⟩
        have HB11 : Hid (Below w.heap.size w w11) := (HR10.out _).trans (hb11.mono (HR10.out _).size)
        clear hb11 r0 r1 HR10
        go_wp2
        go_ret
        exact ⟨rfl, HB11.out⟩
end Go.Proofs.YtlddkhhaclfmiaaGreatDoor

/- The table of devices out of a row's condition. Helper text: no statement is claimed here. -/
namespace Go.Proofs.YtlddkhhaclfmiaaGreatDoor
open Go.ChangeShapes Go.WideShapes Go.ChangeAt Go.RowKit

theorem gRows : Tryz.prog.globalNamed (Rows.fnElemBackRow.named.getD 0 "") = some 2 := by kernel_rfl
theorem laid_rowsD : (Rows.laid_loop_example_stilscan_impl_devRows : DataW Unit) = .agg rowsD := rfl
theorem devTab_of {W : World} {sp : Nat → Bool} {held : Bool} {cs : Array Value} {fuel : Nat} {p : List MemPlace}
    (hv : W.var? Tryz.prog (Rows.fnElemBackRow.named.getD 0 "") = some cs)
    (hd : DataW.trod (fun _ => ()) Tryz.prog W 0 sp held fuel 138 cs.toList = some (Rows.laid_loop_example_stilscan_impl_devRows, p)) : DevTab W := by
  rw [laid_rowsD] at hd
  obtain ⟨xs, m, rfl, hx, hl, hn, hel⟩ := DataW.trod_array Tryz.underlying138 hd
  simp only [Prod.mk.injEq, DataW.agg.injEq] at hx
  intro i hi
  have h1 := hel i hi
  have h2 := rowsD_at i hi
  rw [hx.1, List.getElem?_map] at h2
  obtain ⟨x, hx1, hx2⟩ := Option.map_eq_some_iff.1 h2
  rw [hx1, cRow] at h1
  have h3 := rowCells (p := x.2) (h1.trans (by rw [show x = (x.1, x.2) from rfl, hx2]; rfl))
  have at_ : ∀ j, j < 5 → cs[i * 5 + j]? = ((cs.toList.drop (i * 5)).take 5)[j]? := by
    intro j hj
    simp [hj]
  have hc := World.var?_cell gRows hv
  have a0 := at_ 0 (by omega)
  have a1 := at_ 1 (by omega)
  have a2 := at_ 2 (by omega)
  have a3 := at_ 3 (by omega)
  have a4 := at_ 4 (by omega)
  rw [h3] at a0 a1 a2 a3 a4
  refine ⟨?_, ?_, ?_, ?_, ?_⟩
  · rw [hc]; simpa using a0
  · rw [hc]; simpa using a1
  · rw [hc]; simpa using a2
  · rw [hc]; simpa using a3
  · rw [hc]; simpa using a4

end Go.Proofs.YtlddkhhaclfmiaaGreatDoor
