/- The program's DevRead. Helper text: no statement is claimed here. -/
import Derived.Test.YtkffgjagiihppaaDoorTi
namespace Go.Proofs.YtkffgjagiihppaaDoor
open Go.ChangeShapes Go.WideShapes Go.ChangeAt Go.RowKit

theorem read_notok {t : List UInt8} {k n p : Int} (hg : Gs t k n p) (h : okB k n p = false) : RdOk t 0 0 0 false := by
  refine .inr ⟨rfl, rfl, rfl, rfl, fun K N P hk e => ?_⟩
  obtain ⟨rfl, rfl, rfl⟩ := hg K N P (by rw [← e]; exact shape_of hk)
  rw [h] at hk; exact absurd hk (by simp)
theorem read_ok {t : List UInt8} {k n p : Int} (hg : Gs t k n p) (h1 : okB k n p = true) (h : txt k n p = t) : RdOk t k n p true :=
  .inl ⟨rfl, h1, h, fun K N P hk e => hg K N P (by rw [← e]; exact shape_of hk)⟩

set_option maxHeartbeats 1000000 in
theorem iread_any (s : ByteArray) (w : World) (hs : s.size ≤ 2000000) (hT : Tabs w) :
    Calls Tryd.prog 9 #[.string s] w (Read s.data.toList w) := by
  go_enter Tryd.func9, Tryd.ntmps9
  go_wp2_with fail
  refine (iword_any s _ (hT.alloc _)).mono ?_
  rintro e w1 ⟨k, n, p, b, rfl, hW, hb⟩
  have ob := ((Own.new w (.int .i64 0) (.int .i64 0) (.int .i64 0)).below hb)
  have sw := of_one hb
  have hlt := ob.lt
  have hT1 := hT.to sw
  have hTa := hT1.alloc (.cells #[.int .i64 k, .int .i64 n, .int .i64 p] 24)
  have on := Own.new w1 (.int .i64 k) (.int .i64 n) (.int .i64 p)
  have oba := ob.alloc (.cells #[.int .i64 k, .int .i64 n, .int .i64 p] 24)
  have swa : Below w.heap.size w (w1.alloc (.cells #[.int .i64 k, .int .i64 n, .int .i64 p] 24)) := sw.alloc sw.size _
  have hne : w1.heap.size ≠ w.heap.size := by omega
  rcases hW with ⟨rfl, hg, hne2⟩ | ⟨rfl, hnw⟩
  · have HG : Hid (Gs s.data.toList k n p) := hg
    clear hg
    cases hok : okB k n p
    · have HK : Hid (okB k n p = false) := hok
      clear hok
      go_wp2_with fail
      refine (devOk_any _ _ _ _ hTa.dev).mono ?_
      rintro e w2 ⟨rfl, hb2⟩
      rw [HK.out]
      have ob2 := oba.below hb2
      have sw2 : Below w.heap.size w w2 := swa.trans (hb2.mono swa.size)
      obtain ⟨⟨r0, r1, r2⟩, y0, y1, y2⟩ := ob2
      go_wp2
      exact bodyPost_ret (v := .tuple #[.agg #[.int .i64 0, .int .i64 0, .int .i64 0], .bool false]) (resArg2 Tryd.results9 rfl rfl (put3 ⟨r0, r1, r2⟩)) rfl ⟨0, 0, 0, false, rfl, read_notok HG.out HK.out, ((sw2.setCell (Nat.le_refl _) _).setCell (Nat.le_refl _) _).setCell (Nat.le_refl _) _⟩
    · have HK : Hid (okB k n p = true) := hok
      clear hok
      go_wp2_with fail
      refine (devOk_any _ _ _ _ hTa.dev).mono ?_
      rintro e w2 ⟨rfl, hb2⟩
      rw [HK.out]
      have on2 := on.below hb2
      have ob2 := oba.below hb2
      have sw2 : Below w.heap.size w w2 := swa.trans (hb2.mono swa.size)
      obtain ⟨⟨o0, o1, o2⟩, z0, z1, z2⟩ := on2
      go_wp2_with fail
      refine (itext_any _ _ _ _ (hTa.to hb2)).mono ?_
      rintro e w3 ⟨rfl, hb3⟩
      have on3 := (on.below hb2).below hb3
      have ob3 := ob2.below hb3
      have sw3 : Below w.heap.size w w3 := sw2.trans (hb3.mono sw2.size)
      obtain ⟨⟨q0, q1, q2⟩, x0, x1, x2⟩ := on3
      obtain ⟨⟨r0, r1, r2⟩, y0, y1, y2⟩ := ob3
      by_cases hE : txt k n p = s.toList
      · have hE' : (txt k n p == s.toList) = true := by simp [hE]
        have HE : Hid (txt k n p = s.data.toList) := by rw [← ByteArray.toList_eq]; exact hE
        clear hE
        go_wp2
        exact bodyPost_ret (v := .tuple #[.agg #[.int .i64 k, .int .i64 n, .int .i64 p], .bool true]) (resArg2 Tryd.results9 rfl rfl (put3 ⟨r0, r1, r2⟩)) rfl ⟨k, n, p, true, rfl, read_ok HG.out HK.out HE.out, ((sw3.setCell (Nat.le_refl _) _).setCell (Nat.le_refl _) _).setCell (Nat.le_refl _) _⟩
      · have hE' : (txt k n p == s.toList) = false := by simp [hE]
        have HE : Hid (txt k n p ≠ s.data.toList) := by rw [← ByteArray.toList_eq]; exact hE
        clear hE
        go_wp2
        exact bodyPost_ret (v := .tuple #[.agg #[.int .i64 0, .int .i64 0, .int .i64 0], .bool false]) (resArg2 Tryd.results9 rfl rfl (put3 ⟨r0, r1, r2⟩)) rfl ⟨0, 0, 0, false, rfl, read_no HG.out HE.out, ((sw3.setCell (Nat.le_refl _) _).setCell (Nat.le_refl _) _).setCell (Nat.le_refl _) _⟩
  · have HNW : Hid (∀ j, j < 4 → s.data.toList ≠ wordL j) := hnw
    clear hnw
    go_wp2_with fail
    refine (iguess_any s _ hs hTa).mono ?_
    rintro e w2 ⟨K, N, P, rfl, hg2, hb2⟩
    have HG : Hid (Gs s.data.toList K N P) := hg2 HNW.out
    clear hg2
    have on2 := on.below hb2
    have ob2 := oba.below hb2
    have sw2 : Below w.heap.size w w2 := swa.trans (hb2.mono swa.size)
    have hT2 := hTa.to hb2
    have on2' := on2
    obtain ⟨⟨o0, o1, o2⟩, z0, z1, z2⟩ := on2'
    have on3 := on2.put (.int .i64 K) (.int .i64 N) (.int .i64 P)
    have ob3 : Own (((w2.setCell ⟨w1.heap.size, 0, none⟩ (.int .i64 K)).setCell ⟨w1.heap.size, 1, none⟩ (.int .i64 N)).setCell ⟨w1.heap.size, 2, none⟩ (.int .i64 P)) w.heap.size (.int .i64 0) (.int .i64 0) (.int .i64 0) := ((ob2.set hne).set hne).set hne
    have sw3 : Below w.heap.size w (((w2.setCell ⟨w1.heap.size, 0, none⟩ (.int .i64 K)).setCell ⟨w1.heap.size, 1, none⟩ (.int .i64 N)).setCell ⟨w1.heap.size, 2, none⟩ (.int .i64 P)) := ((sw2.setCell (by simp; omega) _).setCell (by simp; omega) _).setCell (by simp; omega) _
    have hT3 : Tabs (((w2.setCell ⟨w1.heap.size, 0, none⟩ (.int .i64 K)).setCell ⟨w1.heap.size, 1, none⟩ (.int .i64 N)).setCell ⟨w1.heap.size, 2, none⟩ (.int .i64 P)) := hT.to sw3
    go_wp2_with fail
    generalize hw3 : ((w2.setCell ⟨w1.heap.size, 0, none⟩ (.int .i64 K)).setCell ⟨w1.heap.size, 1, none⟩ (.int .i64 N)).setCell ⟨w1.heap.size, 2, none⟩ (.int .i64 P) = w3 at *
    clear hw3
    clear on2 ob2 sw2 hT2 o0 o1 o2 z0 z1 z2 hTa on oba swa hT1
    cases hok : okB K N P
    · have HK : Hid (okB K N P = false) := hok
      clear hok
      refine (devOk_any _ _ _ _ hT3.dev).mono ?_
      rintro e w4 ⟨rfl, hb4⟩
      rw [HK.out]
      have ob4 := ob3.below hb4
      have sw4 : Below w.heap.size w w4 := sw3.trans (hb4.mono sw3.size)
      obtain ⟨⟨r0, r1, r2⟩, y0, y1, y2⟩ := ob4
      go_wp2
      exact bodyPost_ret (v := .tuple #[.agg #[.int .i64 0, .int .i64 0, .int .i64 0], .bool false]) (resArg2 Tryd.results9 rfl rfl (put3 ⟨r0, r1, r2⟩)) rfl ⟨0, 0, 0, false, rfl, read_notok HG.out HK.out, ((sw4.setCell (Nat.le_refl _) _).setCell (Nat.le_refl _) _).setCell (Nat.le_refl _) _⟩
    · have HK : Hid (okB K N P = true) := hok
      clear hok
      refine (devOk_any _ _ _ _ hT3.dev).mono ?_
      rintro e w4 ⟨rfl, hb4⟩
      rw [HK.out]
      have on4 := on3.below hb4
      have ob4 := ob3.below hb4
      have sw4 : Below w.heap.size w w4 := sw3.trans (hb4.mono sw3.size)
      obtain ⟨⟨o0, o1, o2⟩, z0, z1, z2⟩ := on4
      go_wp2_with fail
      refine (itext_any _ _ _ _ (hT3.to hb4)).mono ?_
      rintro e w5 ⟨rfl, hb5⟩
      have on5 := (on3.below hb4).below hb5
      have ob5 := ob4.below hb5
      have sw5 : Below w.heap.size w w5 := sw4.trans (hb5.mono sw4.size)
      obtain ⟨⟨q0, q1, q2⟩, x0, x1, x2⟩ := on5
      obtain ⟨⟨r0, r1, r2⟩, y0, y1, y2⟩ := ob5
      by_cases hE : txt K N P = s.toList
      · have hE' : (txt K N P == s.toList) = true := by simp [hE]
        have HE : Hid (txt K N P = s.data.toList) := by rw [← ByteArray.toList_eq]; exact hE
        clear hE
        go_wp2
        exact bodyPost_ret (v := .tuple #[.agg #[.int .i64 K, .int .i64 N, .int .i64 P], .bool true]) (resArg2 Tryd.results9 rfl rfl (put3 ⟨r0, r1, r2⟩)) rfl ⟨K, N, P, true, rfl, read_ok HG.out HK.out HE.out, ((sw5.setCell (Nat.le_refl _) _).setCell (Nat.le_refl _) _).setCell (Nat.le_refl _) _⟩
      · have hE' : (txt K N P == s.toList) = false := by simp [hE]
        have HE : Hid (txt K N P ≠ s.data.toList) := by rw [← ByteArray.toList_eq]; exact hE
        clear hE
        go_wp2
        exact bodyPost_ret (v := .tuple #[.agg #[.int .i64 0, .int .i64 0, .int .i64 0], .bool false]) (resArg2 Tryd.results9 rfl rfl (put3 ⟨r0, r1, r2⟩)) rfl ⟨0, 0, 0, false, rfl, read_no HG.out HE.out, ((sw5.setCell (Nat.le_refl _) _).setCell (Nat.le_refl _) _).setCell (Nat.le_refl _) _⟩

end Go.Proofs.YtkffgjagiihppaaDoor
