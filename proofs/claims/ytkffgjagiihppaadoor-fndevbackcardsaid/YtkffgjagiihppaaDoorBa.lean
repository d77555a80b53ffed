/- The walk of FnDevBack: whatever the bytes, it answers true, and nothing that was there has turned. Helper text: no statement is claimed here. -/
import Derived.Test.YtkffgjagiihppaaDoorRe
import Derived.Test.YtkffgjagiihppaaDoorTj
namespace Go.Proofs.YtkffgjagiihppaaDoor
open Go.ChangeShapes Go.WideShapes Go.ChangeAt Go.RowKit

theorem IsRow.below {w w' : World} {a : Option Addr} {len : Nat} (h : IsRow w a len) (hb : Below w.heap.size w w') : IsRow w' a len := by
  rcases h with h | ⟨b, off, f, rfl, hc⟩
  · exact .inl h
  · refine .inr ⟨b, off, f, rfl, fun i hi => ?_⟩
    have := hc i hi
    rw [hb.cell (p := ⟨b, off + i, none⟩) (World.block_lt_of_cell? w ⟨b, off + i, none⟩ this.1)]
    exact this
theorem rd_back {k n p k' n' p' : Int} {b : Bool} (h : okB k n p = true) (hR : RdOk (txt k n p) k' n' p' b) : k' = k ∧ n' = n ∧ p' = p ∧ b = true := by
  rcases hR with ⟨rfl, h1, h2, h3⟩ | ⟨rfl, -, -, -, h4⟩
  · obtain ⟨a, b, c⟩ := h3 k n p h rfl
    exact ⟨a, b, c, rfl⟩
  · exact absurd rfl (h4 k n p h)
theorem rd_none {k' n' p' : Int} {b : Bool} (hR : RdOk [] k' n' p' b) : k' = 0 ∧ n' = 0 ∧ p' = 0 ∧ b = false := by
  rcases hR with ⟨rfl, h1, h2, h3⟩ | ⟨rfl, rfl, rfl, rfl, -⟩
  · exact absurd h2 (txt_ne h1)
  · exact ⟨rfl, rfl, rfl, rfl⟩
theorem sz_txt (k n p : Int) : (⟨(txt k n p).toArray⟩ : ByteArray).size ≤ 2000000 := by
  rw [sz_of]; have := txt_len k n p; omega
theorem list_of (t : List UInt8) : (⟨t.toArray⟩ : ByteArray).data.toList = t := by simp

set_option maxHeartbeats 4000000 in
theorem back_walk (a0 : Option Addr) (len0 cap0 : Nat) (a1 : Option Addr) (len1 cap1 : Nat) (w : World) (h0 : IsRow w a0 len0) (hlc0 : len0 ≤ cap0) (h1 : IsRow w a1 len1) (hlc1 : len1 ≤ cap1) (hT : Tabs w) :
    Calls Tryd.prog 3 #[.slice a0 len0 cap0, .slice a1 len1 cap1] w fun e w' => e = .returned (.bool true) ∧ Below w.heap.size w w' := by
  have H0 : Hid (IsRow w a0 len0) := h0
  have H1 : Hid (IsRow w a1 len1) := h1
  clear h0 h1
  by_cases hl : 1048576 < len0
  · have hl1 : (1048576 : Int) < len0 := by omega
    go_enter Tryd.func3, Tryd.ntmps3
    go_wp2
    go_ret
    exact ⟨rfl, Below.refl _ _⟩
  have hl1 : ¬ (1048576 : Int) < len0 := by omega
  by_cases hm : 1048576 < len1
  · have hm1 : (1048576 : Int) < len1 := by omega
    go_enter Tryd.func3, Tryd.ntmps3
    go_wp2
    go_ret
    exact ⟨rfl, Below.refl _ _⟩
  have hm1 : ¬ (1048576 : Int) < len1 := by omega
  go_enter Tryd.func3, Tryd.ntmps3
  go_wp2_with fail
  refine (drawText_any a0 len0 cap0 _ H0.out hlc0).mono ?_
  rintro e w1 ⟨k, n, p, rfl, hk, hn, hp, hb1⟩
  clear hk hn hp
  have on1 := Own.new w1 (.int .i64 k) (.int .i64 n) (.int .i64 p)
  have sw1 : Below w.heap.size w (w1.alloc (.cells #[.int .i64 k, .int .i64 n, .int .i64 p] 24)) := hb1.alloc hb1.size _
  go_wp2_with fail
  refine (itext_any _ _ _ _ (hT.to sw1)).mono ?_
  rintro e w2 ⟨rfl, hb2⟩
  have on2 := on1.below hb2
  have sw2 : Below w.heap.size w w2 := sw1.trans (hb2.mono sw1.size)
  have on2' := on2
  obtain ⟨⟨o0, o1, o2⟩, -⟩ := on2'
  go_wp2_with fail
  refine (stext_any _ _ _ _).mono ?_
  rintro e w3 ⟨rfl, hb3⟩
  have on3 := on2.below hb3
  have sw3 : Below w.heap.size w w3 := sw2.trans (hb3.mono sw2.size)
  have on3' := on3
  obtain ⟨⟨p0, p1, p2⟩, -⟩ := on3'
  clear o0 o1 o2 hb1 hb2 hb3 on1 on2 sw1 sw2
  have hsz := sz_txt k n p
  cases hok : okB k n p
  · have HK : Hid (okB k n p = false) := hok
    have htx := txt_no hok
    clear hok
    rw [htx] at hsz ⊢
    go_wp2_with fail
    refine (devOk_any _ _ _ _ (hT.to sw3).dev).mono ?_
    rintro e w4 ⟨rfl, hb4⟩
    rw [HK.out]
    have sw4 : Below w.heap.size w w4 := sw3.trans (hb4.mono sw3.size)
    go_wp2_with fail
    refine (iread_any _ _ hsz (hT.to sw4)).mono ?_
    rintro e w5 ⟨k', n', p', b', rfl, hR, hb5⟩
    obtain ⟨rfl, rfl, rfl, rfl⟩ := rd_none hR
    have sw5 : Below w.heap.size w w5 := sw4.trans (hb5.mono sw4.size)
    go_wp2_with fail
    have sw6 : Below w.heap.size w (w5.alloc (.cells #[.int .i64 0, .int .i64 0, .int .i64 0] 24)) := sw5.alloc sw5.size _
    refine (drawRead_any a1 len1 cap1 _ (H1.out.below sw6) hlc1).mono ?_
    rintro e w6 ⟨z, rfl, hz, hb6⟩
    have sw7 : Below w.heap.size w w6 := sw6.trans (hb6.mono sw6.size)
    go_wp2_with fail
    refine (iread_any z _ (by omega) (hT.to sw7)).mono ?_
    rintro e w7 ⟨c1, c2, c3, fb, rfl, hR1, hb7⟩
    have HR1 : Hid (RdOk z.data.toList c1 c2 c3 fb) := hR1
    clear hR1
    have on7 := Own.new w7 (.int .i64 c1) (.int .i64 c2) (.int .i64 c3)
    have sw7' : Below w.heap.size w w7 := sw7.trans (hb7.mono sw7.size)
    have sw8 : Below w.heap.size w (w7.alloc (.cells #[.int .i64 c1, .int .i64 c2, .int .i64 c3] 24)) := sw7'.alloc sw7'.size _
    go_wp2_with fail
    refine (sread_any z _ (by omega)).mono ?_
    rintro e w8 ⟨d1, d2, d3, gb, rfl, hR2, hb8⟩
    obtain ⟨rfl, rfl, rfl, rfl⟩ := hR2.one HR1.out
    have HR2 : Hid (RdOk z.data.toList d1 d2 d3 gb) := hR2
    clear hR2
    have on8 := on7.below hb8
    have hlt8 := on8.lt
    have sw9 : Below w.heap.size w w8 := sw8.trans (hb8.mono sw8.size)
    have on8a := on8.alloc (.cells #[.int .i64 d1, .int .i64 d2, .int .i64 d3] 24)
    have sw9a : Below w.heap.size w (w8.alloc (.cells #[.int .i64 d1, .int .i64 d2, .int .i64 d3] 24)) := sw9.alloc sw9.size _
    obtain ⟨⟨s0, s1, s2⟩, -⟩ := on8
    cases gb
    · go_wp2
      go_ret
      exact ⟨rfl, sw9a⟩
    · obtain ⟨hok2, htx2⟩ : okB d1 d2 d3 = true ∧ txt d1 d2 d3 = z.data.toList := by
        rcases HR2.out with ⟨-, g1, g2, -⟩ | ⟨g, -⟩
        · exact ⟨g1, g2⟩
        · exact absurd g (by simp)
      have HO : Hid (okB d1 d2 d3 = true) := hok2
      have htx3 : (txt d1 d2 d3 == z.toList) = true := by rw [ByteArray.toList_eq, htx2]; simp
      clear hok2 htx2
      go_wp2_with fail
      refine (devOk_any _ _ _ _ (hT.to sw9a).dev).mono ?_
      rintro e w9 ⟨rfl, hb9⟩
      rw [HO.out]
      have on9 := on8a.below hb9
      have sw10 : Below w.heap.size w w9 := sw9a.trans (hb9.mono sw9a.size)
      obtain ⟨⟨t0, t1, t2⟩, -⟩ := on9
      go_wp2_with fail
      refine (itext_any _ _ _ _ (hT.to sw10)).mono ?_
      rintro e w10 ⟨rfl, hb10⟩
      have sw11 : Below w.heap.size w w10 := sw10.trans (hb10.mono sw10.size)
      go_wp2
      go_ret
      exact ⟨rfl, sw11⟩
  · have HK : Hid (okB k n p = true) := hok
    have htx := txt_ne hok
    have htx' : (txt k n p == []) = false := by simpa using htx
    clear hok htx
    go_wp2_with fail
    refine (devOk_any _ _ _ _ (hT.to sw3).dev).mono ?_
    rintro e w4 ⟨rfl, hb4⟩
    rw [HK.out]
    have on4 := on3.below hb4
    have sw4 : Below w.heap.size w w4 := sw3.trans (hb4.mono sw3.size)
    go_wp2_with fail
    refine (iread_any _ _ hsz (hT.to sw4)).mono ?_
    rintro e w5 ⟨k', n', p', b', rfl, hR, hb5⟩
    rw [list_of] at hR
    obtain ⟨rfl, rfl, rfl, rfl⟩ := rd_back HK.out hR
    have on5 := on4.below hb5
    have sw5 : Below w.heap.size w w5 := sw4.trans (hb5.mono sw4.size)
    have hlt5 := on5.lt
    obtain ⟨⟨q0, q1, q2⟩, -⟩ := on5
    go_wp2_with fail
    have sw6 : Below w.heap.size w (w5.alloc (.cells #[.int .i64 k', .int .i64 n', .int .i64 p'] 24)) := sw5.alloc sw5.size _
    refine (drawRead_any a1 len1 cap1 _ (H1.out.below sw6) hlc1).mono ?_
    rintro e w6 ⟨z, rfl, hz, hb6⟩
    have sw7 : Below w.heap.size w w6 := sw6.trans (hb6.mono sw6.size)
    go_wp2_with fail
    refine (iread_any z _ (by omega) (hT.to sw7)).mono ?_
    rintro e w7 ⟨c1, c2, c3, fb, rfl, hR1, hb7⟩
    have HR1 : Hid (RdOk z.data.toList c1 c2 c3 fb) := hR1
    clear hR1
    have on7 := Own.new w7 (.int .i64 c1) (.int .i64 c2) (.int .i64 c3)
    have sw7' : Below w.heap.size w w7 := sw7.trans (hb7.mono sw7.size)
    have sw8 : Below w.heap.size w (w7.alloc (.cells #[.int .i64 c1, .int .i64 c2, .int .i64 c3] 24)) := sw7'.alloc sw7'.size _
    go_wp2_with fail
    refine (sread_any z _ (by omega)).mono ?_
    rintro e w8 ⟨d1, d2, d3, gb, rfl, hR2, hb8⟩
    obtain ⟨rfl, rfl, rfl, rfl⟩ := hR2.one HR1.out
    have HR2 : Hid (RdOk z.data.toList d1 d2 d3 gb) := hR2
    clear hR2
    have on8 := on7.below hb8
    have hlt8 := on8.lt
    have sw9 : Below w.heap.size w w8 := sw8.trans (hb8.mono sw8.size)
    have on8a := on8.alloc (.cells #[.int .i64 d1, .int .i64 d2, .int .i64 d3] 24)
    have sw9a : Below w.heap.size w (w8.alloc (.cells #[.int .i64 d1, .int .i64 d2, .int .i64 d3] 24)) := sw9.alloc sw9.size _
    obtain ⟨⟨s0, s1, s2⟩, -⟩ := on8
    cases gb
    · go_wp2
      go_ret
      exact ⟨rfl, sw9a⟩
    · obtain ⟨hok2, htx2⟩ : okB d1 d2 d3 = true ∧ txt d1 d2 d3 = z.data.toList := by
        rcases HR2.out with ⟨-, g1, g2, -⟩ | ⟨g, -⟩
        · exact ⟨g1, g2⟩
        · exact absurd g (by simp)
      have HO : Hid (okB d1 d2 d3 = true) := hok2
      have htx3 : (txt d1 d2 d3 == z.toList) = true := by rw [ByteArray.toList_eq, htx2]; simp
      clear hok2 htx2
      go_wp2_with fail
      refine (devOk_any _ _ _ _ (hT.to sw9a).dev).mono ?_
      rintro e w9 ⟨rfl, hb9⟩
      rw [HO.out]
      have on9 := on8a.below hb9
      have sw10 : Below w.heap.size w w9 := sw9a.trans (hb9.mono sw9a.size)
      obtain ⟨⟨t0, t1, t2⟩, -⟩ := on9
      go_wp2_with fail
      refine (itext_any _ _ _ _ (hT.to sw10)).mono ?_
      rintro e w10 ⟨rfl, hb10⟩
      have sw11 : Below w.heap.size w w10 := sw10.trans (hb10.mono sw10.size)
      go_wp2
      go_ret
      exact ⟨rfl, sw11⟩
end Go.Proofs.YtkffgjagiihppaaDoor
