/- The program's words of numbers: memNumberWords. Helper text: no statement is claimed here. -/
import Derived.Test.YtjacgamgjjpllaaGreatDoorP27
import Derived.Test.YtjacgamgjjpllaaGreatDoorP07
import Derived.Test.YtjacgamgjjpllaaGreatDoorP03
import Derived.Test.YtjacgamgjjpllaaGreatDoorP01
import Derived.Shelf.Strconv.Itoa3
import Derived.Lib.AppendIntMem
namespace Go.Proofs.YtjacgamgjjpllaaGreatDoor
open Go.ChangeShapes Go.WideShapes Go.ChangeAt Go.RowKit Fl

/-- The words of numbers as far as a place of each list. -/
def nU1 (m : Mm) (j : Nat) : List (List UInt8) := upto (tmW m) j
def nU2 (m : Mm) (j : Nat) : List (List UInt8) := upto (tmW m) 16 ++ upto (cnW m) j
def nU3 (m : Mm) (j : Nat) : List (List UInt8) := upto (tmW m) 16 ++ upto (cnW m) 16 ++ upto (whW m) j
def nU4 (m : Mm) (j : Nat) : List (List UInt8) := upto (tmW m) 16 ++ upto (cnW m) 16 ++ upto (whW m) 32 ++ upto (reW m) j
theorem nU2_0 (m : Mm) : nU2 m 0 = nU1 m 16 := by simp [nU1, nU2, upto_zero]
theorem nU3_0 (m : Mm) : nU3 m 0 = nU2 m 16 := by simp [nU2, nU3, upto_zero]
theorem nU4_0 (m : Mm) : nU4 m 0 = nU3 m 32 := by simp [nU3, nU4, upto_zero]
theorem nU4_e (m : Mm) : nU4 m 16 = numW m := rfl
theorem nU1_s (m : Mm) (j : Nat) : nU1 m (j + 1) = nU1 m j ++ tmW m j := by simp only [nU1, upto_succ]
theorem nU2_s (m : Mm) (j : Nat) : nU2 m (j + 1) = nU2 m j ++ cnW m j := by simp only [nU2, upto_succ, List.append_assoc]
theorem nU3_s (m : Mm) (j : Nat) : nU3 m (j + 1) = nU3 m j ++ whW m j := by simp only [nU3, upto_succ, List.append_assoc]
theorem nU4_s (m : Mm) (j : Nat) : nU4 m (j + 1) = nU4 m j ++ reW m j := by simp only [nU4, upto_succ, List.append_assoc]
theorem nU1_len {m : Mm} (h : m.Ok) {j : Nat} (hj : j ≤ 16) : (nU1 m j).length ≤ 80 := by
  have := (fits_tm h hj).1
  show (upto _ _).length ≤ _
  omega
theorem nU2_len {m : Mm} (h : m.Ok) {j : Nat} (hj : j ≤ 16) : (nU2 m j).length ≤ 80 := by
  have := ((fits_tm h (Nat.le_refl 16)).app (fits_cn h hj)).1
  show (_ ++ _ : List _).length ≤ _
  omega
theorem nU3_len {m : Mm} (h : m.Ok) {j : Nat} (hj : j ≤ 32) : (nU3 m j).length ≤ 80 := by
  have := (((fits_tm h (Nat.le_refl 16)).app (fits_cn h (Nat.le_refl 16))).app (fits_wh h hj)).1
  show (_ ++ _ : List _).length ≤ _
  omega
theorem nU4_len {m : Mm} (h : m.Ok) {j : Nat} (hj : j ≤ 16) : (nU4 m j).length ≤ 80 := by
  have := ((((fits_tm h (Nat.le_refl 16)).app (fits_cn h (Nat.le_refl 16))).app (fits_wh h (Nat.le_refl 32))).app (fits_re h hj)).1
  show (_ ++ _ : List _).length ≤ _
  omega
theorem zero_text : rlT 0 = [48] := rfl
theorem sv_zero {x : Nat} (hx : x < 2 ^ 64) : sv x 0 = decide (rlT x = [48]) := by
  have h0 : TextR 0 (rlT 0) := rlT_R (by decide)
  rw [zero_text] at h0
  by_cases h : rlT x = [48]
  · rw [sv_yes ((text_iff (rlT_R hx) h0).1 h)]; simp [h]
  · rw [sv_no fun h' => h ((text_iff (rlT_R hx) h0).2 h')]; simp [h]

set_option maxHeartbeats 2000000 in
set_option maxRecDepth 100000 in
theorem numberWords_any (m : Mm) (hok : m.Ok) (w : World) (hT : DevTab w) (hP : PowTab w) :
    Calls Tryz.prog 15 #[m.val] w fun e w' => ∃ v, e = .returned v ∧ Hid (SRow w' w.heap.size v (numW m)) ∧ Below w.heap.size w w' := by
  have HOK : Hid m.Ok := hok
  have HT : Hid (DevTab w) := hT
  have HP : Hid (PowTab w) := hP
  clear hT hP hok
  unfold Mm.val
  go_enter Tryz.func15, Tryz.ntmps15
  go_upto_region 2 with fail
  have HBV : Hid (Below w.heap.size w (w.alloc (.cells m.cells 37))) := (Below.refl _ _).alloc (Nat.le_refl _) _
  have HM0 : Hid (MemAt (w.alloc (.cells m.cells 37)) w.heap.size m) := RowAt.new w _ 136 m.cell
  generalize (w.alloc (.cells m.cells 37)) = V at *
  have HT0 : Hid (DevTab V) := HT.out.to HBV.out
  have HP0 : Hid (PowTab V) := HP.out.to HBV.out
  clear HT HP
  have HR0 : Hid (SRow V V.heap.size (.slice none 0 0) (nU1 m 0)) := SRow.nil _ _
  have HB0 : Hid (Below V.heap.size V V) := Below.refl _ _
  have HMv : Hid (MemAt V w.heap.size m) := HM0
  go_wp2_with (first | (refine wpList_rowLoad rfl 28 (.tmp 12) rfl w.heap.size 5 32 m.tcell rfl HMv.out (by omega) (fun i hi => m.cell_t hi) Tryz.underlying28 rfl (by kernel_rfl) ?_) | fail)
  clear HMv
  go_loopw [14, 3] (fun c o w' => ∃ (j : Nat) (W : World), W = w' ∧ j ≤ 16 ∧ c = .int .i64 (j : Int) ∧ Hid (SRow W V.heap.size o (nU1 m j)) ∧ Hid (Below V.heap.size V W)) (fun c _ _ => 16 - (intOf c).toNat)
  case atStart => exact ⟨0, _, rfl, by omega, rfl, HR0, HB0⟩
  case round =>
    clear HR0 HB0
    obtain ⟨j, wr, rfl, hj, rfl, HRr, HBr⟩ := hrel
    have hwl := nU1_len HOK.out hj
    by_cases hlt : j < 16
    · have hlt' : (j : Int) < 16 := by omega
      have HS : Hid (nU1 m (j + 1) = nU1 m j ++ tmW m j) := nU1_s m j
      have hix : ∀ W, (Instr.index 28 (.agg (cellsOf 32 m.tcell)) (.int .i64 (j : Int))).run Tryz.prog W = .ok (.agg #[.bool (m.td j), .int .u16 (m.tc j : Int)]) W := fun W => idxT m hlt W
      have HTm : Hid (∀ W, PowTab W → Calls Tryz.prog 38 #[.agg #[.bool (m.td j), .int .u16 (m.tc j : Int)]] W fun e w' => e = .returned (.string ⟨(Lib.itoa (m.tc j : Int) ++ mkT (m.td j) [33]).toArray⟩) ∧ Below W.heap.size W w') := fun W h => timerText_any _ _ W (HOK.out.htc j) h
      have hln : (Lib.itoa (m.tc j : Int) ++ mkT (m.td j) [33]).length ≤ 100 := by
        have := HOK.out.htc j
        have := itoa_len (m.tc j : Int) (by omega) (by omega)
        have := mkT_len (m.td j) 33
        rw [List.length_append]
        omega
      have HNw : Hid (∀ W, DevTab W → PowTab W → Calls Tryz.prog 37 #[.int .i64 7, .int .i64 (j : Int), .string ⟨(Lib.itoa (m.tc j : Int) ++ mkT (m.td j) [33]).toArray⟩] W fun e w' => e = .returned (.string ⟨(dvT 7 j ++ ([61] ++ (Lib.itoa (m.tc j : Int) ++ mkT (m.td j) [33]))).toArray⟩) ∧ Below W.heap.size W w') := fun W h1 h2 => numberWord_any 7 j _ W h1 h2 (by omega) (by omega) (by omega) (by show (j : Int) < 16; omega) hln
      have HT1 : Hid (m.td j = true ∨ 0 < m.tc j → tmW m j = [dvT 7 j ++ ([61] ++ (Lib.itoa (m.tc j : Int) ++ mkT (m.td j) [33]))]) := fun h => by
        unfold tmW; rw [if_pos h]; simp only [tmT, List.append_assoc]
      have HT2 : Hid (¬ (m.td j = true ∨ 0 < m.tc j) → tmW m j = []) := fun h => by
        unfold tmW; rw [if_neg h]
      clear hln
      generalize dvT 7 j ++ ([61] ++ (Lib.itoa (m.tc j : Int) ++ mkT (m.td j) [33])) = dt at *
      generalize Lib.itoa (m.tc j : Int) ++ mkT (m.td j) [33] = tt at *
      generalize nU1 m j = nu at *
      have HEQ : Hid (∀ W, (Op.equal 27 (.agg #[.bool (m.td j), .int .u16 (m.tc j : Int)]) (.agg #[.bool false, .int .u16 0])).run Tryz.prog W = .ok (m.td j == false && (m.tc j : Int) == 0) W) := fun W => eqTimerV 9998 _ _ _ _ W
      generalize m.td j = td at *
      generalize m.tc j = tc at *
      go_upto_region 5 with fail
      have HBa : Hid (Below V.heap.size V (wr.alloc (.cells #[.bool td, .int .u16 (tc : Int)] 27))) := HBr.out.alloc HBr.out.size _
      have HRa : Hid (SRow (wr.alloc (.cells #[.bool td, .int .u16 (tc : Int)] 27)) V.heap.size u3 nu) := HRr.out.to ((Below.refl _ _).alloc (Nat.le_refl _) _)
      have d0 : (wr.alloc (.cells #[.bool td, .int .u16 (tc : Int)] 27)).cell? ⟨wr.heap.size, 0, none⟩ = some (.bool td) := by simp [go_sem]
      have d1 : (wr.alloc (.cells #[.bool td, .int .u16 (tc : Int)] 27)).cell? ⟨wr.heap.size, 1, none⟩ = some (.int .u16 (tc : Int)) := by simp [go_sem]
      clear HBr HRr
      generalize (wr.alloc (.cells #[.bool td, .int .u16 (tc : Int)] 27)) = wa at *
      generalize wr.heap.size = B at *
      cases td
      · by_cases htp : 0 < tc
        · have hz : ¬ tc = 0 := by omega
          have hz1 : ¬ (tc : Int) = 0 := by omega
          have hz2 : ((tc : Int) == 0) = false := by simpa using hz1
          have HT : Hid (tmW m j = [dt]) := HT1.out (.inr htp)
          clear HT1 HT2 HEQ htp
          go_wp2_with fail
          refine (HTm.out _ (HP0.out.to HBa.out)).mono ?_
          rintro e wb ⟨rfl, hbb⟩
          have HBb : Hid (Below V.heap.size V wb) := HBa.out.trans (hbb.mono HBa.out.size)
          have HRb : Hid (SRow wb V.heap.size u3 nu) := HRa.out.to hbb
          clear hbb HBa HRa
          go_wp2_with fail
          refine (HNw.out _ (HT0.out.to HBb.out) (HP0.out.to HBb.out)).mono ?_
          rintro e wc ⟨rfl, hbc⟩
          have HBc : Hid (Below V.heap.size V wc) := HBb.out.trans (hbc.mono HBb.out.size)
          have HRc : Hid (SRow wc V.heap.size u3 nu) := HRb.out.to hbc
          clear hbc HBb HRb
          have hbs : V.heap.size ≤ wc.heap.size := HBc.out.size
          have HC := sone_cell wc dt
          go_wp2_with (refine wpList_sapp _ rfl _ _ rfl V.heap.size _ nu [dt] rfl (HRc.out.to ((Below.refl _ _).alloc (Nat.le_refl _) _)) wc.heap.size 1 rfl HC (by simp; omega) (by simp; omega) ?_)
          intro v5 w5 HR5 hb5
          have HB5 : Hid (Below V.heap.size V w5) := (HBc.out.alloc HBc.out.size _).trans hb5.out
          have HW5 : Hid (SRow w5 V.heap.size v5 (nU1 m (j + 1))) := by
            show SRow w5 V.heap.size v5 (nU1 m (j + 1))
            rw [HS.out, HT.out]
            exact HR5.out
          clear HR5 hb5 HBc HRc HC hbs HT HS
          go_wp2
          exact ⟨⟨j + 1, _, rfl, by omega, by go_num, HW5, HB5⟩, by simp [intOf]; omega⟩
        · obtain rfl : tc = 0 := by omega
          have HN : Hid (tmW m j = []) := HT2.out (by rintro (h | h) <;> simp_all)
          clear HT1 HT2 HEQ htp
          have HW : Hid (SRow wa V.heap.size u3 (nU1 m (j + 1))) := by
            show SRow wa V.heap.size u3 (nU1 m (j + 1))
            rw [HS.out, HN.out, List.append_nil]
            exact HRa.out
          clear HS HN
          go_wp2
          exact ⟨⟨j + 1, _, rfl, by omega, by go_num, HW, HBa⟩, by simp [intOf]; omega⟩
      · have HT : Hid (tmW m j = [dt]) := HT1.out (.inl rfl)
        clear HT1 HT2 HEQ
        go_wp2_with fail
        refine (HTm.out _ (HP0.out.to HBa.out)).mono ?_
        rintro e wb ⟨rfl, hbb⟩
        have HBb : Hid (Below V.heap.size V wb) := HBa.out.trans (hbb.mono HBa.out.size)
        have HRb : Hid (SRow wb V.heap.size u3 nu) := HRa.out.to hbb
        clear hbb HBa HRa
        go_wp2_with fail
        refine (HNw.out _ (HT0.out.to HBb.out) (HP0.out.to HBb.out)).mono ?_
        rintro e wc ⟨rfl, hbc⟩
        have HBc : Hid (Below V.heap.size V wc) := HBb.out.trans (hbc.mono HBb.out.size)
        have HRc : Hid (SRow wc V.heap.size u3 nu) := HRb.out.to hbc
        clear hbc HBb HRb
        have hbs : V.heap.size ≤ wc.heap.size := HBc.out.size
        have HC := sone_cell wc dt
        go_wp2_with (refine wpList_sapp _ rfl _ _ rfl V.heap.size _ nu [dt] rfl (HRc.out.to ((Below.refl _ _).alloc (Nat.le_refl _) _)) wc.heap.size 1 rfl HC (by simp; omega) (by simp; omega) ?_)
        intro v5 w5 HR5 hb5
        have HB5 : Hid (Below V.heap.size V w5) := (HBc.out.alloc HBc.out.size _).trans hb5.out
        have HW5 : Hid (SRow w5 V.heap.size v5 (nU1 m (j + 1))) := by
          show SRow w5 V.heap.size v5 (nU1 m (j + 1))
          rw [HS.out, HT.out]
          exact HR5.out
        clear HR5 hb5 HBc HRc HC hbs HT HS
        go_wp2
        exact ⟨⟨j + 1, _, rfl, by omega, by go_num, HW5, HB5⟩, by simp [intOf]; omega⟩
    · have hlt' : ¬ (j : Int) < 16 := by omega
      have hjN : j = 16 := by omega
      have HR0 : Hid (SRow wr V.heap.size u3 (nU2 m 0)) := by
        show SRow wr V.heap.size u3 (nU2 m 0)
        rw [nU2_0, ← hjN]
        exact HRr.out
      have HB0 : Hid (Below V.heap.size V wr) := HBr
      have HMv : Hid (MemAt wr w.heap.size m) := HM0.out.to HBr.out
      clear HRr HBr hjN hlt hj hwl
      go_wp2_with (first | (refine wpList_rowLoad rfl 31 (.tmp 29) rfl w.heap.size 37 48 m.ccell rfl HMv.out (by omega) (fun i hi => m.cell_c hi) Tryz.underlying31 rfl (by kernel_rfl) ?_) | fail)
      clear hlt' HMv
      go_loopw [31, 3] (fun c o w' => ∃ (j : Nat) (W : World), W = w' ∧ j ≤ 16 ∧ c = .int .i64 (j : Int) ∧ Hid (SRow W V.heap.size o (nU2 m j)) ∧ Hid (Below V.heap.size V W)) (fun c _ _ => 16 - (intOf c).toNat)
      case atStart => exact ⟨0, _, rfl, by omega, rfl, HR0, HB0⟩
      case round =>
        clear HR0 HB0
        obtain ⟨j, wr, rfl, hj, rfl, HRr, HBr⟩ := hrel
        have hwl := nU2_len HOK.out hj
        by_cases hlt : j < 16
        · have hlt' : (j : Int) < 16 := by omega
          have HS : Hid (nU2 m (j + 1) = nU2 m j ++ cnW m j) := nU2_s m j
          have hix : ∀ W, (Instr.index 31 (.agg (cellsOf 48 m.ccell)) (.int .i64 (j : Int))).run Tryz.prog W = .ok (.agg #[.bool (m.cd j), .bool (m.cl j), .int .u16 (m.cc j : Int)]) W := fun W => idxC m hlt W
          have HTm : Hid (∀ W, PowTab W → Calls Tryz.prog 39 #[.agg #[.bool (m.cd j), .bool (m.cl j), .int .u16 (m.cc j : Int)]] W fun e w' => e = .returned (.string ⟨(Lib.itoa (m.cc j : Int) ++ mkT (m.cd j) [33] ++ mkT (m.cl j) [43]).toArray⟩) ∧ Below W.heap.size W w') := fun W h => counterText_any _ _ _ W (HOK.out.hcc j) h
          have hln : (Lib.itoa (m.cc j : Int) ++ mkT (m.cd j) [33] ++ mkT (m.cl j) [43]).length ≤ 100 := by
            have := HOK.out.hcc j
            have := itoa_len (m.cc j : Int) (by omega) (by omega)
            have := mkT_len (m.cd j) 33
            have := mkT_len (m.cl j) 43
            rw [List.length_append, List.length_append]
            omega
          have HNw : Hid (∀ W, DevTab W → PowTab W → Calls Tryz.prog 37 #[.int .i64 8, .int .i64 (j : Int), .string ⟨(Lib.itoa (m.cc j : Int) ++ mkT (m.cd j) [33] ++ mkT (m.cl j) [43]).toArray⟩] W fun e w' => e = .returned (.string ⟨(dvT 8 j ++ ([61] ++ (Lib.itoa (m.cc j : Int) ++ mkT (m.cd j) [33] ++ mkT (m.cl j) [43]))).toArray⟩) ∧ Below W.heap.size W w') := fun W h1 h2 => numberWord_any 8 j _ W h1 h2 (by omega) (by omega) (by omega) (by show (j : Int) < 16; omega) hln
          have HT1 : Hid (m.cd j = true ∨ m.cl j = true ∨ 0 < m.cc j → cnW m j = [dvT 8 j ++ ([61] ++ (Lib.itoa (m.cc j : Int) ++ mkT (m.cd j) [33] ++ mkT (m.cl j) [43]))]) := fun h => by
            unfold cnW; rw [if_pos h]; simp only [cnT, List.append_assoc]
          have HT2 : Hid (¬ (m.cd j = true ∨ m.cl j = true ∨ 0 < m.cc j) → cnW m j = []) := fun h => by
            unfold cnW; rw [if_neg h]
          clear hln
          generalize dvT 8 j ++ ([61] ++ (Lib.itoa (m.cc j : Int) ++ mkT (m.cd j) [33] ++ mkT (m.cl j) [43])) = dt at *
          generalize Lib.itoa (m.cc j : Int) ++ mkT (m.cd j) [33] ++ mkT (m.cl j) [43] = tt at *
          generalize nU2 m j = nu at *
          generalize m.cd j = cd at *
          generalize m.cl j = cl at *
          generalize m.cc j = cc at *
          go_upto_region 11 with fail
          have HBa : Hid (Below V.heap.size V (wr.alloc (.cells #[.bool cd, .bool cl, .int .u16 (cc : Int)] 30))) := HBr.out.alloc HBr.out.size _
          have HRa : Hid (SRow (wr.alloc (.cells #[.bool cd, .bool cl, .int .u16 (cc : Int)] 30)) V.heap.size u3 nu) := HRr.out.to ((Below.refl _ _).alloc (Nat.le_refl _) _)
          have d0 : (wr.alloc (.cells #[.bool cd, .bool cl, .int .u16 (cc : Int)] 30)).cell? ⟨wr.heap.size, 0, none⟩ = some (.bool cd) := by simp [go_sem]
          have d1 : (wr.alloc (.cells #[.bool cd, .bool cl, .int .u16 (cc : Int)] 30)).cell? ⟨wr.heap.size, 1, none⟩ = some (.bool cl) := by simp [go_sem]
          have d2 : (wr.alloc (.cells #[.bool cd, .bool cl, .int .u16 (cc : Int)] 30)).cell? ⟨wr.heap.size, 2, none⟩ = some (.int .u16 (cc : Int)) := by simp [go_sem]
          clear HBr HRr
          generalize (wr.alloc (.cells #[.bool cd, .bool cl, .int .u16 (cc : Int)] 30)) = wa at *
          generalize wr.heap.size = B at *
          cases cd
          · cases cl
            · by_cases htp : 0 < cc
              · have hz : ¬ cc = 0 := by omega
                have hz1 : ¬ (cc : Int) = 0 := by omega
                have hz2 : ((cc : Int) == 0) = false := by simpa using hz1
                have HT : Hid (cnW m j = [dt]) := HT1.out (.inr (.inr htp))
                clear HT1 HT2 htp
                go_wp2_with fail
                refine (HTm.out _ (HP0.out.to HBa.out)).mono ?_
                rintro e wb ⟨rfl, hbb⟩
                have HBb : Hid (Below V.heap.size V wb) := HBa.out.trans (hbb.mono HBa.out.size)
                have HRb : Hid (SRow wb V.heap.size u3 nu) := HRa.out.to hbb
                clear hbb HBa HRa
                go_wp2_with fail
                refine (HNw.out _ (HT0.out.to HBb.out) (HP0.out.to HBb.out)).mono ?_
                rintro e wc ⟨rfl, hbc⟩
                have HBc : Hid (Below V.heap.size V wc) := HBb.out.trans (hbc.mono HBb.out.size)
                have HRc : Hid (SRow wc V.heap.size u3 nu) := HRb.out.to hbc
                clear hbc HBb HRb
                have hbs : V.heap.size ≤ wc.heap.size := HBc.out.size
                have HC := sone_cell wc dt
                go_wp2_with (refine wpList_sapp _ rfl _ _ rfl V.heap.size _ nu [dt] rfl (HRc.out.to ((Below.refl _ _).alloc (Nat.le_refl _) _)) wc.heap.size 1 rfl HC (by simp; omega) (by simp; omega) ?_)
                intro v5 w5 HR5 hb5
                have HB5 : Hid (Below V.heap.size V w5) := (HBc.out.alloc HBc.out.size _).trans hb5.out
                have HW5 : Hid (SRow w5 V.heap.size v5 (nU2 m (j + 1))) := by
                  show SRow w5 V.heap.size v5 (nU2 m (j + 1))
                  rw [HS.out, HT.out]
                  exact HR5.out
                clear HR5 hb5 HBc HRc HC hbs HT HS
                go_wp2
                exact ⟨⟨j + 1, _, rfl, by omega, by go_num, HW5, HB5⟩, by simp [intOf]; omega⟩
              · obtain rfl : cc = 0 := by omega
                have HN : Hid (cnW m j = []) := HT2.out (by rintro (h | h | h) <;> simp_all)
                clear HT1 HT2 htp
                have HW : Hid (SRow wa V.heap.size u3 (nU2 m (j + 1))) := by
                  show SRow wa V.heap.size u3 (nU2 m (j + 1))
                  rw [HS.out, HN.out, List.append_nil]
                  exact HRa.out
                clear HS HN
                go_wp2
                exact ⟨⟨j + 1, _, rfl, by omega, by go_num, HW, HBa⟩, by simp [intOf]; omega⟩
            · have HT : Hid (cnW m j = [dt]) := HT1.out (.inr (.inl rfl))
              clear HT1 HT2
              go_wp2_with fail
              refine (HTm.out _ (HP0.out.to HBa.out)).mono ?_
              rintro e wb ⟨rfl, hbb⟩
              have HBb : Hid (Below V.heap.size V wb) := HBa.out.trans (hbb.mono HBa.out.size)
              have HRb : Hid (SRow wb V.heap.size u3 nu) := HRa.out.to hbb
              clear hbb HBa HRa
              go_wp2_with fail
              refine (HNw.out _ (HT0.out.to HBb.out) (HP0.out.to HBb.out)).mono ?_
              rintro e wc ⟨rfl, hbc⟩
              have HBc : Hid (Below V.heap.size V wc) := HBb.out.trans (hbc.mono HBb.out.size)
              have HRc : Hid (SRow wc V.heap.size u3 nu) := HRb.out.to hbc
              clear hbc HBb HRb
              have hbs : V.heap.size ≤ wc.heap.size := HBc.out.size
              have HC := sone_cell wc dt
              go_wp2_with (refine wpList_sapp _ rfl _ _ rfl V.heap.size _ nu [dt] rfl (HRc.out.to ((Below.refl _ _).alloc (Nat.le_refl _) _)) wc.heap.size 1 rfl HC (by simp; omega) (by simp; omega) ?_)
              intro v5 w5 HR5 hb5
              have HB5 : Hid (Below V.heap.size V w5) := (HBc.out.alloc HBc.out.size _).trans hb5.out
              have HW5 : Hid (SRow w5 V.heap.size v5 (nU2 m (j + 1))) := by
                show SRow w5 V.heap.size v5 (nU2 m (j + 1))
                rw [HS.out, HT.out]
                exact HR5.out
              clear HR5 hb5 HBc HRc HC hbs HT HS
              go_wp2
              exact ⟨⟨j + 1, _, rfl, by omega, by go_num, HW5, HB5⟩, by simp [intOf]; omega⟩
          · have HT : Hid (cnW m j = [dt]) := HT1.out (.inl rfl)
            clear HT1 HT2
            go_wp2_with fail
            refine (HTm.out _ (HP0.out.to HBa.out)).mono ?_
            rintro e wb ⟨rfl, hbb⟩
            have HBb : Hid (Below V.heap.size V wb) := HBa.out.trans (hbb.mono HBa.out.size)
            have HRb : Hid (SRow wb V.heap.size u3 nu) := HRa.out.to hbb
            clear hbb HBa HRa
            go_wp2_with fail
            refine (HNw.out _ (HT0.out.to HBb.out) (HP0.out.to HBb.out)).mono ?_
            rintro e wc ⟨rfl, hbc⟩
            have HBc : Hid (Below V.heap.size V wc) := HBb.out.trans (hbc.mono HBb.out.size)
            have HRc : Hid (SRow wc V.heap.size u3 nu) := HRb.out.to hbc
            clear hbc HBb HRb
            have hbs : V.heap.size ≤ wc.heap.size := HBc.out.size
            have HC := sone_cell wc dt
            go_wp2_with (refine wpList_sapp _ rfl _ _ rfl V.heap.size _ nu [dt] rfl (HRc.out.to ((Below.refl _ _).alloc (Nat.le_refl _) _)) wc.heap.size 1 rfl HC (by simp; omega) (by simp; omega) ?_)
            intro v5 w5 HR5 hb5
            have HB5 : Hid (Below V.heap.size V w5) := (HBc.out.alloc HBc.out.size _).trans hb5.out
            have HW5 : Hid (SRow w5 V.heap.size v5 (nU2 m (j + 1))) := by
              show SRow w5 V.heap.size v5 (nU2 m (j + 1))
              rw [HS.out, HT.out]
              exact HR5.out
            clear HR5 hb5 HBc HRc HC hbs HT HS
            go_wp2
            exact ⟨⟨j + 1, _, rfl, by omega, by go_num, HW5, HB5⟩, by simp [intOf]; omega⟩
        · have hlt' : ¬ (j : Int) < 16 := by omega
          have hjN : j = 16 := by omega
          have HR0 : Hid (SRow wr V.heap.size u3 (nU3 m 0)) := by
            show SRow wr V.heap.size u3 (nU3 m 0)
            rw [nU3_0, ← hjN]
            exact HRr.out
          have HB0 : Hid (Below V.heap.size V wr) := HBr
          have HMv : Hid (MemAt wr w.heap.size m) := HM0.out.to HBr.out
          clear HRr HBr hjN hlt hj hwl
          go_wp2_with (first | (refine wpList_rowLoad rfl 33 (.tmp 46) rfl w.heap.size 85 32 m.dcell rfl HMv.out (by omega) (fun i hi => m.cell_d hi) Tryz.underlying33 rfl (by kernel_rfl) ?_) | fail)
          clear hlt' HMv
          go_loopw [48, 3] (fun c o w' => ∃ (j : Nat) (W : World), W = w' ∧ j ≤ 32 ∧ c = .int .i64 (j : Int) ∧ Hid (SRow W V.heap.size o (nU3 m j)) ∧ Hid (Below V.heap.size V W)) (fun c _ _ => 32 - (intOf c).toNat)
          case atStart => exact ⟨0, _, rfl, by omega, rfl, HR0, HB0⟩
          case round =>
            clear HR0 HB0
            obtain ⟨j, wr, rfl, hj, rfl, HRr, HBr⟩ := hrel
            have hwl := nU3_len HOK.out hj
            by_cases hlt : j < 32
            · have hlt' : (j : Int) < 32 := by omega
              have HS : Hid (nU3 m (j + 1) = nU3 m j ++ whW m j) := nU3_s m j
              have hix : ∀ W, (Instr.index 33 (.agg (cellsOf 32 m.dcell)) (.int .i64 (j : Int))).run Tryz.prog W = .ok (.int .i16 (m.d j)) W := fun W => idxD m hlt W
              obtain ⟨hd0, hd1⟩ := HOK.out.hd j
              have HTm : Hid (∀ W, PowTab W → Calls Tryz.prog 40 #[.int .i64 (m.d j)] W fun e w' => e = .returned (.string ⟨(Lib.itoa (m.d j)).toArray⟩) ∧ Below W.heap.size W w') := fun W h => itoa_any _ W (by omega) (by omega) h
              have hln : (Lib.itoa (m.d j)).length ≤ 100 := by
                have := itoa_len (m.d j) (by omega) (by omega)
                omega
              have HNw : Hid (∀ W, DevTab W → PowTab W → Calls Tryz.prog 37 #[.int .i64 9, .int .i64 (j : Int), .string ⟨(Lib.itoa (m.d j)).toArray⟩] W fun e w' => e = .returned (.string ⟨(dvT 9 j ++ ([61] ++ Lib.itoa (m.d j))).toArray⟩) ∧ Below W.heap.size W w') := fun W h1 h2 => numberWord_any 9 j _ W h1 h2 (by omega) (by omega) (by omega) (by show (j : Int) < 32; omega) hln
              have HT1 : Hid (¬ m.d j = 0 → whW m j = [dvT 9 j ++ ([61] ++ Lib.itoa (m.d j))]) := fun h => by
                unfold whW; rw [if_neg h]; rfl
              have HT2 : Hid (m.d j = 0 → whW m j = []) := fun h => by
                unfold whW; rw [if_pos h]
              clear hln
              generalize dvT 9 j ++ ([61] ++ Lib.itoa (m.d j)) = dt at *
              generalize Lib.itoa (m.d j) = tt at *
              generalize nU3 m j = nu at *
              generalize m.d j = dj at *
              by_cases hz : dj = 0
              · subst hz
                have HN : Hid (whW m j = []) := HT2.out rfl
                clear HT1 HT2
                have HW : Hid (SRow wr V.heap.size u3 (nU3 m (j + 1))) := by
                  show SRow wr V.heap.size u3 (nU3 m (j + 1))
                  rw [HS.out, HN.out, List.append_nil]
                  exact HRr.out
                clear HS HN
                go_wp2
                exact ⟨⟨j + 1, _, rfl, by omega, by go_num, HW, HBr⟩, by simp [intOf]; omega⟩
              · have hz' : (dj != 0) = true := by simpa using hz
                have HT : Hid (whW m j = [dt]) := HT1.out hz
                clear HT1 HT2 hz
                go_wp2_with fail
                refine (HTm.out _ (HP0.out.to HBr.out)).mono ?_
                rintro e wb ⟨rfl, hbb⟩
                have HBb : Hid (Below V.heap.size V wb) := HBr.out.trans (hbb.mono HBr.out.size)
                have HRb : Hid (SRow wb V.heap.size u3 nu) := HRr.out.to hbb
                clear hbb HBr HRr
                go_wp2_with fail
                refine (HNw.out _ (HT0.out.to HBb.out) (HP0.out.to HBb.out)).mono ?_
                rintro e wc ⟨rfl, hbc⟩
                have HBc : Hid (Below V.heap.size V wc) := HBb.out.trans (hbc.mono HBb.out.size)
                have HRc : Hid (SRow wc V.heap.size u3 nu) := HRb.out.to hbc
                clear hbc HBb HRb
                have hbs : V.heap.size ≤ wc.heap.size := HBc.out.size
                have HC := sone_cell wc dt
                go_wp2_with (refine wpList_sapp _ rfl _ _ rfl V.heap.size _ nu [dt] rfl (HRc.out.to ((Below.refl _ _).alloc (Nat.le_refl _) _)) wc.heap.size 1 rfl HC (by simp; omega) (by simp; omega) ?_)
                intro v5 w5 HR5 hb5
                have HB5 : Hid (Below V.heap.size V w5) := (HBc.out.alloc HBc.out.size _).trans hb5.out
                have HW5 : Hid (SRow w5 V.heap.size v5 (nU3 m (j + 1))) := by
                  show SRow w5 V.heap.size v5 (nU3 m (j + 1))
                  rw [HS.out, HT.out]
                  exact HR5.out
                clear HR5 hb5 HBc HRc HC hbs HT HS
                go_wp2
                exact ⟨⟨j + 1, _, rfl, by omega, by go_num, HW5, HB5⟩, by simp [intOf]; omega⟩
            · have hlt' : ¬ (j : Int) < 32 := by omega
              have hjN : j = 32 := by omega
              have HR0 : Hid (SRow wr V.heap.size u3 (nU4 m 0)) := by
                show SRow wr V.heap.size u3 (nU4 m 0)
                rw [nU4_0, ← hjN]
                exact HRr.out
              have HB0 : Hid (Below V.heap.size V wr) := HBr
              have HMv : Hid (MemAt wr w.heap.size m) := HM0.out.to HBr.out
              clear HRr HBr hjN hlt hj hwl
              go_wp2_with (first | (refine wpList_rowLoad rfl 35 (.tmp 63) rfl w.heap.size 117 16 m.rcell rfl HMv.out (by omega) (fun i hi => m.cell_r hi) Tryz.underlying35 rfl (by kernel_rfl) ?_) | fail)
              clear hlt' HMv
              go_loopw [65, 3] (fun c o w' => ∃ (j : Nat) (W : World), W = w' ∧ j ≤ 16 ∧ c = .int .i64 (j : Int) ∧ Hid (SRow W V.heap.size o (nU4 m j)) ∧ Hid (Below V.heap.size V W)) (fun c _ _ => 16 - (intOf c).toNat)
              case atStart => exact ⟨0, _, rfl, by omega, rfl, HR0, HB0⟩
              case round =>
                clear HR0 HB0
                obtain ⟨j, wr, rfl, hj, rfl, HRr, HBr⟩ := hrel
                have hwl := nU4_len HOK.out hj
                by_cases hlt : j < 16
                · have hlt' : (j : Int) < 16 := by omega
                  have HS : Hid (nU4 m (j + 1) = nU4 m j ++ reW m j) := nU4_s m j
                  have hix : ∀ W, (Instr.index 35 (.agg (cellsOf 16 m.rcell)) (.int .i64 (j : Int))).run Tryz.prog W = .ok (.float .f64 (m.r j)) W := fun W => idxR m hlt W
                  have HSm : Hid (∀ W, Calls Tryz.prog 41 #[.float .f64 (m.r j), .float .f64 0] W fun e w' => e = .returned (.bool (decide (rlT (m.r j) = [48]))) ∧ w' = W) := fun W => by
                    rw [← sv_zero (HOK.out.hr j)]
                    exact sameReal_any (m.r j) 0 W (HOK.out.hr j) (by decide)
                  have HTm : Hid (∀ W, PowTab W → Calls Tryz.prog 42 #[.float .f64 (m.r j)] W fun e w' => e = .returned (.string ⟨(rlT (m.r j)).toArray⟩) ∧ Below W.heap.size W w') := fun W h =>
                    (it_any (m.r j) W (HOK.out.hr j) h).mono fun _ _ ⟨t, he, ht, hb⟩ => ⟨by rw [he, rlT_is ht], hb⟩
                  have hln : (rlT (m.r j)).length ≤ 100 := by
                    have := rlT_len (HOK.out.hr j)
                    omega
                  have HNw : Hid (∀ W, DevTab W → PowTab W → Calls Tryz.prog 37 #[.int .i64 10, .int .i64 (j : Int), .string ⟨(rlT (m.r j)).toArray⟩] W fun e w' => e = .returned (.string ⟨(dvT 10 j ++ ([61] ++ rlT (m.r j))).toArray⟩) ∧ Below W.heap.size W w') := fun W h1 h2 => numberWord_any 10 j _ W h1 h2 (by omega) (by omega) (by omega) (by show (j : Int) < 16; omega) hln
                  have HT1 : Hid (¬ rlT (m.r j) = [48] → reW m j = [dvT 10 j ++ ([61] ++ rlT (m.r j))]) := fun h => by
                    unfold reW; rw [if_neg h]; rfl
                  have HT2 : Hid (rlT (m.r j) = [48] → reW m j = []) := fun h => by
                    unfold reW; rw [if_pos h]
                  clear hln
                  generalize dvT 10 j ++ ([61] ++ rlT (m.r j)) = dt at *
                  generalize rlT (m.r j) = tt at *
                  generalize nU4 m j = nu at *
                  generalize m.r j = rj at *
                  go_wp2_with fail
                  refine (HSm.out _).mono ?_
                  rintro e w0 ⟨rfl, rfl⟩
                  by_cases hz : tt = [48]
                  · have hz' : decide (tt = [48]) = true := by simpa using hz
                    have HN : Hid (reW m j = []) := HT2.out hz
                    clear HT1 HT2 hz HSm
                    rw [hz']
                    have HW : Hid (SRow w0 V.heap.size u3 (nU4 m (j + 1))) := by
                      show SRow w0 V.heap.size u3 (nU4 m (j + 1))
                      rw [HS.out, HN.out, List.append_nil]
                      exact HRr.out
                    clear HS HN
                    go_wp2
                    exact ⟨⟨j + 1, _, rfl, by omega, by go_num, HW, HBr⟩, by simp [intOf]; omega⟩
                  · have hz' : decide (tt = [48]) = false := by simpa using hz
                    have HT : Hid (reW m j = [dt]) := HT1.out hz
                    clear HT1 HT2 hz HSm
                    rw [hz']
                    go_wp2_with fail
                    refine (HTm.out _ (HP0.out.to HBr.out)).mono ?_
                    rintro e wb ⟨rfl, hbb⟩
                    have HBb : Hid (Below V.heap.size V wb) := HBr.out.trans (hbb.mono HBr.out.size)
                    have HRb : Hid (SRow wb V.heap.size u3 nu) := HRr.out.to hbb
                    clear hbb HBr HRr
                    go_wp2_with fail
                    refine (HNw.out _ (HT0.out.to HBb.out) (HP0.out.to HBb.out)).mono ?_
                    rintro e wc ⟨rfl, hbc⟩
                    have HBc : Hid (Below V.heap.size V wc) := HBb.out.trans (hbc.mono HBb.out.size)
                    have HRc : Hid (SRow wc V.heap.size u3 nu) := HRb.out.to hbc
                    clear hbc HBb HRb
                    have hbs : V.heap.size ≤ wc.heap.size := HBc.out.size
                    have HC := sone_cell wc dt
                    go_wp2_with (refine wpList_sapp _ rfl _ _ rfl V.heap.size _ nu [dt] rfl (HRc.out.to ((Below.refl _ _).alloc (Nat.le_refl _) _)) wc.heap.size 1 rfl HC (by simp; omega) (by simp; omega) ?_)
                    intro v5 w5 HR5 hb5
                    have HB5 : Hid (Below V.heap.size V w5) := (HBc.out.alloc HBc.out.size _).trans hb5.out
                    have HW5 : Hid (SRow w5 V.heap.size v5 (nU4 m (j + 1))) := by
                      show SRow w5 V.heap.size v5 (nU4 m (j + 1))
                      rw [HS.out, HT.out]
                      exact HR5.out
                    clear HR5 hb5 HBc HRc HC hbs HT HS
                    go_wp2
                    exact ⟨⟨j + 1, _, rfl, by omega, by go_num, HW5, HB5⟩, by simp [intOf]; omega⟩
                · have hlt' : ¬ (j : Int) < 16 := by omega
                  have hjN : j = 16 := by omega
                  have HW : Hid (SRow wr V.heap.size u3 (numW m)) := by
                    show SRow wr V.heap.size u3 (numW m)
                    rw [← nU4_e, ← hjN]
                    exact HRr.out
                  clear HRr hjN
                  go_wp2
                  go_ret
                  exact ⟨_, rfl, HW.out.low HBV.out.size, HBV.out.trans (HBr.out.mono HBV.out.size)⟩
end Go.Proofs.YtjacgamgjjpllaaGreatDoor

/- The library's FormatUint in decimals. Helper text: no statement is claimed here. -/
namespace Go.Proofs.YtjacgamgjjpllaaGreatDoor
open Go.ChangeShapes Go.WideShapes Go.ChangeAt Go.RowKit Go.Sort

theorem small_any (u : Nat) (hu : u < 100) (w : World) :
    Calls Tryz.prog 79 #[.int .i64 (u : Int)] w fun e w' => e = .returned (.string ⟨(Lib.decDigits u).toArray⟩) ∧ w' = w :=
  Any.internal_strconv_small { Tryz.laysM171 with } u hu w
theorem nd_any (u : Nat) (h1 : 1 ≤ u) (h2 : u < 18446744073709551616) (w : World) (hP : PowTab w) :
    Calls Tryz.prog 80 #[.int .u64 (u : Int)] w fun e w' => e = .returned (.int .i64 (Lib.nDigits u : Int)) ∧ w' = w :=
  Any.internal_strconv_numDigits { Tryz.laysM171 with } u h1 h2 w hP
theorem fb_any (bk : Nat) (u : Nat) (d : Array UInt8) (w : World) (hH : Holds (fun (b : UInt8) => Value.int .u8 (b.toNat : Int)) w bk 0 d) (hu : u < 10 ^ d.size) (hu64 : u < 18446744073709551616) (hsz : d.size < 4611686018427387904) :
    Calls Tryz.prog 81 #[.slice (some ⟨bk, 0, none⟩) d.size 24, .int .u64 (u : Int)] w fun e w' =>
      e = .returned (.tuple #[]) ∧ ∃ (n v' : Nat) (dk : Array UInt8), w' = (putRow (fun (b : UInt8) => Value.int .u8 (b.toNat : Int)) w bk 0 dk).drewN n ∧ Lib.FmtInv d.size u 0 v' dk :=
  Any.internal_strconv_formatBase10 { Tryz.laysM171 with } bk 0 24 u d w hH hu hu64 hsz

set_option maxHeartbeats 4000000 in
set_option maxRecDepth 100000 in
theorem ifmt_any (u : Nat) (hu64 : u < 4294967296) (w : World) (hP : PowTab w) :
    Calls Tryz.prog 43 #[.int .u64 (u : Int), .int .i64 10] w fun e w' => e = .returned (.string ⟨(Lib.itoa (u : Int)).toArray⟩) ∧ Below w.heap.size w w' := by
  rw [Lib.itoa_nonneg]
  by_cases hs : u < 100
  · have hs' : (u : Int) < 100 := by omega
    go_enter Tryz.func43, Tryz.ntmps43
    go_wp2_with fail
    refine (small_any u hs _).mono ?_
    rintro e w1 ⟨rfl, rfl⟩
    go_wp2
    go_ret
    exact ⟨rfl, Below.refl _ _⟩
  · have hs' : ¬ (u : Int) < 100 := by omega
    have hnd20 : Lib.nDigits u ≤ 20 := by have := Lib.numDigits_eq u (by omega) (by omega); split at this <;> omega
    have hal : Tryz.prog.arrayLen 116 = 24 := by simp [Program.arrayLen, Tryz.underlying116]
    have hsl : ∀ W, (Instr.sliceAt 116 (.pointer (some ⟨w.heap.size, 0, none⟩)) none (some (.int .i64 (Lib.nDigits u : Int))) none).run Tryz.prog W = .ok (.slice (some ⟨w.heap.size, 0, none⟩) (Lib.nDigits u) 24) W := fun W => by
      rw [run_sliceAt_array_h W 116 ⟨w.heap.size, 0, none⟩ (by simp [Program.arrayLen, Program.elem, Tryz.underlying116]) .i64 (Lib.nDigits u : Int) (by omega) (by rw [hal]; omega)]
      go_simp
      try (simp [hal])
    have hH0 := Lib.holds_zero0 w 116 (Lib.nDigits u) (by omega)
    have HF : Hid _ := fb_any w.heap.size u (Array.replicate (Lib.nDigits u) 0) (w.alloc (.cells Lib.zeros24 116)) hH0 (by rw [Array.size_replicate]; exact Lib.lt_pow_nDigits u) (by omega) (by rw [Array.size_replicate]; omega)
    have HN : Hid (∀ W, PowTab W → Calls Tryz.prog 80 #[.int .u64 (u : Int)] W fun e w' => e = .returned (.int .i64 (Lib.nDigits u : Int)) ∧ w' = W) := fun W h => nd_any u (by omega) (by omega) W h
    have HH0 : Hid _ := hH0
    have HP : Hid (PowTab w) := hP
    clear hH0 hal hP
    go_enter Tryz.func43, Tryz.ntmps43
    go_upto_region 5 with fail
    show Code.wp _ _ _ _ (w.alloc (.cells Lib.zeros24 116))
    have HB : Hid (∀ dk k, Below w.heap.size w ((putRow (fun (b : UInt8) => Value.int .u8 (b.toNat : Int)) (w.alloc (.cells Lib.zeros24 116)) w.heap.size 0 dk).drewN k)) := fun dk k => by
      obtain ⟨os, eo⟩ := Lib.fin_at w (.cells Lib.zeros24 116) dk k 0
      rw [eo]
      exact below_grow w k os
    have HP1 : Hid (PowTab (w.alloc (.cells Lib.zeros24 116))) := HP.out.alloc _
    clear HP
    generalize w.alloc (.cells Lib.zeros24 116) = V at *
    generalize hB : w.heap.size = B at *
    go_wp2_with fail
    refine (HN.out _ HP1.out).mono ?_
    rintro e w1 ⟨rfl, rfl⟩
    go_wp2_with fail
    have hF := HF.out
    rw [Array.size_replicate] at hF
    refine Calls.mono hF ?_
    clear hF HF
    rintro e w' ⟨rfl, k, v', dk, rfl, hFm⟩
    have hcv : (convert 22 9 (.slice (some ⟨B, 0, none⟩) (Lib.nDigits u) 24)).run Tryz.prog ((putRow (fun (b : UInt8) => Value.int .u8 (b.toNat : Int)) w1 B 0 dk).drewN k) = .ok (.string ⟨(Lib.decDigits u).toArray⟩) ((putRow (fun (b : UInt8) => Value.int .u8 (b.toNat : Int)) w1 B 0 dk).drewN k) := by
      have h := run_convert_bytes_back (P := Tryz.prog) ((putRow (fun (b : UInt8) => Value.int .u8 (b.toNat : Int)) w1 B 0 dk).drewN k) 22 9 5 ⟨B, 0, none⟩ 24 (Lib.decDigits u) Tryz.underlying22 Tryz.underlying5 Tryz.underlying9 (fun j hj => by
        rw [Lib.row_is_numeral hFm j hj, Lib.add_plain, World.cell?_drewN]
        exact cell?_putRow (fun (b : UInt8) => Value.int .u8 (b.toNat : Int)) _ B 0 _ dk HH0.out (by rw [hFm.size, Array.size_replicate]) j (by rw [hFm.size]; rw [Lib.decDigits_length] at hj; exact hj))
      rw [Lib.decDigits_length] at h
      exact h
    have HB1 : Hid (Below B w ((putRow (fun (b : UInt8) => Value.int .u8 (b.toNat : Int)) w1 B 0 dk).drewN k)) := HB.out dk k
    clear HB HH0 hFm HN HP1
    generalize (putRow (fun (b : UInt8) => Value.int .u8 (b.toNat : Int)) w1 B 0 dk).drewN k = W2 at *
    go_wp2
    go_ret
    exact ⟨rfl, by rw [hB]; exact HB1.out⟩
theorem fmtU_any (u : Nat) (hu64 : u < 4294967296) (w : World) (hP : PowTab w) :
    Calls Tryz.prog 16 #[.int .u64 (u : Int), .int .i64 10] w fun e w' => e = .returned (.string ⟨(Lib.itoa (u : Int)).toArray⟩) ∧ Below w.heap.size w w' := by
  go_enter Tryz.func16, Tryz.ntmps16
  go_wp2_with fail
  refine (ifmt_any u hu64 w hP).mono ?_
  rintro e w1 ⟨rfl, hb⟩
  go_wp2
  go_ret
  exact ⟨rfl, hb⟩
end Go.Proofs.YtjacgamgjjpllaaGreatDoor
