/- The document's text of a memory: MemText. Helper text: no statement is claimed here. -/
import Derived.Test.YtjacgamgjjpllaaGreatDoorP25
import Derived.Lib.QuietBelow
namespace Go.Proofs.YtjacgamgjjpllaaGreatDoor
open Go.ChangeShapes Go.WideShapes Go.ChangeAt Go.RowKit Fl

/-- What is written as far as a place of each list, each word with a blank behind it. -/
def tU1 (m : Mm) (j : Nat) : List UInt8 := blk (upto (kindW m) j)
def tU2 (m : Mm) (j : Nat) : List UInt8 := blk (bitsW m ++ upto (tmW m) j)
def tU3 (m : Mm) (j : Nat) : List UInt8 := blk (bitsW m ++ upto (tmW m) 16 ++ upto (cnW m) j)
def tU4 (m : Mm) (j : Nat) : List UInt8 := blk (bitsW m ++ upto (tmW m) 16 ++ upto (cnW m) 16 ++ upto (whW m) j)
def tU5 (m : Mm) (j : Nat) : List UInt8 := blk (bitsW m ++ upto (tmW m) 16 ++ upto (cnW m) 16 ++ upto (whW m) 32 ++ upto (reW m) j)
theorem tU1_0 (m : Mm) : tU1 m 0 = [] := rfl
theorem tU2_0 (m : Mm) : tU2 m 0 = tU1 m 5 := by simp [tU1, tU2, bitsW, upto_zero]
theorem tU3_0 (m : Mm) : tU3 m 0 = tU2 m 16 := by simp [tU2, tU3, upto_zero]
theorem tU4_0 (m : Mm) : tU4 m 0 = tU3 m 16 := by simp [tU3, tU4, upto_zero]
theorem tU5_0 (m : Mm) : tU5 m 0 = tU4 m 32 := by simp [tU4, tU5, upto_zero]
theorem tU1_s (m : Mm) (j : Nat) : tU1 m (j + 1) = tU1 m j ++ blk (kindW m j) := by simp only [tU1, upto_succ, blk_app]
theorem tU2_s (m : Mm) (j : Nat) : tU2 m (j + 1) = tU2 m j ++ blk (tmW m j) := by simp only [tU2, upto_succ, blk_app, List.append_assoc]
theorem tU3_s (m : Mm) (j : Nat) : tU3 m (j + 1) = tU3 m j ++ blk (cnW m j) := by simp only [tU3, upto_succ, blk_app, List.append_assoc]
theorem tU4_s (m : Mm) (j : Nat) : tU4 m (j + 1) = tU4 m j ++ blk (whW m j) := by simp only [tU4, upto_succ, blk_app, List.append_assoc]
theorem tU5_s (m : Mm) (j : Nat) : tU5 m (j + 1) = tU5 m j ++ blk (reW m j) := by simp only [tU5, upto_succ, blk_app, List.append_assoc]
theorem tU1_len (m : Mm) {j : Nat} (hj : j ≤ 5) : (tU1 m j).length ≤ 41000 := by
  have := (fits_kind m (j := j)).len
  show (blk _).length ≤ _
  omega
theorem tU2_len {m : Mm} (h : m.Ok) {j : Nat} (hj : j ≤ 16) : (tU2 m j).length ≤ 41000 := by
  have := ((fits_bits m).app (fits_tm h hj)).len
  show (blk _).length ≤ _
  omega
theorem tU3_len {m : Mm} (h : m.Ok) {j : Nat} (hj : j ≤ 16) : (tU3 m j).length ≤ 41000 := by
  have := (((fits_bits m).app (fits_tm h (Nat.le_refl 16))).app (fits_cn h hj)).len
  show (blk _).length ≤ _
  omega
theorem tU4_len {m : Mm} (h : m.Ok) {j : Nat} (hj : j ≤ 32) : (tU4 m j).length ≤ 41000 := by
  have := ((((fits_bits m).app (fits_tm h (Nat.le_refl 16))).app (fits_cn h (Nat.le_refl 16))).app (fits_wh h hj)).len
  show (blk _).length ≤ _
  omega
theorem tU5_len {m : Mm} (h : m.Ok) {j : Nat} (hj : j ≤ 16) : (tU5 m j).length ≤ 41000 := by
  have := (((((fits_bits m).app (fits_tm h (Nat.le_refl 16))).app (fits_cn h (Nat.le_refl 16))).app (fits_wh h (Nat.le_refl 32))).app (fits_re h hj)).len
  show (blk _).length ≤ _
  omega
theorem blk_mk (b : Bool) (t : List UInt8) : mkT b (t ++ [32]) = blk (if b = true then [t] else []) := by cases b <;> simp [mkT, blk]
theorem tEnd (m : Mm) : tU5 m 16 ++ mkT (decide (0 < m.time)) (timeT m ++ [32]) ++ mkT m.ran (ranT ++ [32]) ++ mkT m.fault (faultT ++ [32]) = blk (wordsM m) := by
  rw [blk_mk, blk_mk, blk_mk]
  simp only [tU5, wordsM, numW, endW, blk_app, List.append_assoc, decide_eq_true_eq]
theorem blk_nil_iff (ws : List (List UInt8)) : blk ws = [] ↔ ws = [] := by
  cases ws <;> simp [blk]
theorem memT_nil {m : Mm} (h : blk (wordsM m) = []) : memT m = [] := by
  unfold memT
  rw [(blk_nil_iff _).1 h]
  rfl
theorem memT_cut {m : Mm} (h : blk (wordsM m) ≠ []) : blk (wordsM m) = memT m ++ [32] := (join_blk _ fun e => h (by rw [e]; rfl)).symm

theorem cut_last (l : List UInt8) (x : UInt8) : (⟨(l ++ [x]).toArray⟩ : ByteArray).extract 0 ((l ++ [x]).length - 1) = ⟨l.toArray⟩ := by
  apply ByteArray.ext
  rw [ByteArray.data_extract]
  simp
theorem decG {W : World} {n : Int} (h0 : -9223372036854775807 ≤ n) (h1 : n ≤ 9223372036854775807) (d : Nat) (os : Array Obj) :
    Calls Tryz.prog 55 #[.int .i64 n] (Sort.grow (redrawn W d) os) fun e w'' => e = .returned (.string ⟨(Lib.itoa n).toArray⟩) ∧ ∃ q : Regrown, w'' = Sort.grow (redrawn W q.d) q.os :=
  Calls.regrown_of (dec_any _ _ h0 h1)
theorem markG {W : World} {b : Bool} {s : ByteArray} {l : List UInt8} (hs : s = ⟨l.toArray⟩) (d : Nat) (os : Array Obj) :
    Calls Tryz.prog 56 #[.bool b, .string s] (Sort.grow (redrawn W d) os) fun e w'' => e = .returned (.string ⟨(mkT b l).toArray⟩) ∧ ∃ q : Regrown, w'' = Sort.grow (redrawn W q.d) q.os := by
  subst hs
  exact (smark_any b l _).mono fun _ _ ⟨he, hw⟩ => ⟨he, ⟨d, os⟩, hw⟩
theorem l4devG {W : World} {k : Int} {i : Nat} {s : ByteArray} {t res : List UInt8} (hi : i ≤ 64) (hs : s = ⟨t.toArray⟩) (ht : t.length ≤ 100) (hr : blk [dvT k i ++ t] = res) (d : Nat) (os : Array Obj) :
    Calls Tryz.prog 54 #[.int .i64 k, .int .i64 (i : Int), .string s] (Sort.grow (redrawn W d) os) fun e w'' => e = .returned (.string ⟨res.toArray⟩) ∧ ∃ q : Regrown, w'' = Sort.grow (redrawn W q.d) q.os := by
  subst hs hr
  exact Calls.regrown_of (l4dev_any k i t _ hi ht)
theorem cat_e2 (a b : List UInt8) : (⟨#[61]⟩ : ByteArray) ++ ⟨a.toArray⟩ ++ ⟨b.toArray⟩ = ⟨([61] ++ a ++ b).toArray⟩ := by
  have := cat [61] a
  rw [← cat, ← this]
theorem cat_e3 (a b c : List UInt8) : (⟨#[61]⟩ : ByteArray) ++ ⟨a.toArray⟩ ++ ⟨b.toArray⟩ ++ ⟨c.toArray⟩ = ⟨([61] ++ a ++ b ++ c).toArray⟩ := by
  rw [← cat, ← cat_e2]

theorem cat_t (a : List UInt8) : (⟨#[116, 105, 109, 101, 61]⟩ : ByteArray) ++ ⟨a.toArray⟩ ++ ⟨#[32]⟩ = ⟨([116, 105, 109, 101, 61] ++ a ++ [32]).toArray⟩ := by
  have h1 := cat [116, 105, 109, 101, 61] a
  have h2 := cat ([116, 105, 109, 101, 61] ++ a) [32]
  rw [← h2, ← h1]
theorem mk_dec {p : Prop} (i : Decidable p) {x r : List UInt8} (h1 : p → x = r) (h2 : ¬ p → [] = r) : mkT (@decide p i) x = r := by
  unfold mkT
  by_cases h : p
  · simp [h, h1]
  · simp [h, h2]
theorem markTm {W : World} {b : Bool} {a r : List UInt8} (hr : mkT b ([116, 105, 109, 101, 61] ++ a ++ [32]) = r) (d : Nat) (os : Array Obj) :
    Calls Tryz.prog 56 #[.bool b, .string (⟨#[116, 105, 109, 101, 61]⟩ ++ ⟨a.toArray⟩ ++ ⟨#[32]⟩)] (Sort.grow (redrawn W d) os) fun e w'' => e = .returned (.string ⟨r.toArray⟩) ∧ ∃ q : Regrown, w'' = Sort.grow (redrawn W q.d) q.os := by
  subst hr
  exact markG (cat_t a) d os
theorem markRan {W : World} {b : Bool} (d : Nat) (os : Array Obj) :
    Calls Tryz.prog 56 #[.bool b, .string ⟨#[114, 97, 110, 32]⟩] (Sort.grow (redrawn W d) os) fun e w'' => e = .returned (.string ⟨(mkT b [114, 97, 110, 32]).toArray⟩) ∧ ∃ q : Regrown, w'' = Sort.grow (redrawn W q.d) q.os := markG rfl d os
theorem markFault {W : World} {b : Bool} (d : Nat) (os : Array Obj) :
    Calls Tryz.prog 56 #[.bool b, .string ⟨#[102, 97, 117, 108, 116, 32]⟩] (Sort.grow (redrawn W d) os) fun e w'' => e = .returned (.string ⟨(mkT b [102, 97, 117, 108, 116, 32]).toArray⟩) ∧ ∃ q : Regrown, w'' = Sort.grow (redrawn W q.d) q.os := markG rfl d os
theorem cell_lat133 (m : Mm) : m.cell 133 = .int .u32 m.time := rfl
theorem cell_lat134 (m : Mm) : m.cell 134 = .bool m.ran := rfl
theorem cell_lat135 (m : Mm) : m.cell 135 = .bool m.fault := rfl

set_option maxHeartbeats 4000000 in
set_option maxRecDepth 100000 in
theorem stextM_any (m : Mm) (hok : m.Ok) (w : World) :
    Calls Tryz.prog 21 #[m.val] w fun e w' => e = .returned (.string ⟨(memT m).toArray⟩) ∧ Below w.heap.size w w' := by
  have HOK : Hid m.Ok := hok
  clear hok
  unfold Mm.val
  go_enter Tryz.func21, Tryz.ntmps21
  go_wp2
  have HB0 : Hid (Below w.heap.size w (w.alloc (.cells m.cells 37))) := (Below.refl _ _).alloc (Nat.le_refl _) _
  have HM0 : Hid (MemAt (w.alloc (.cells m.cells 37)) w.heap.size m) := RowAt.new w _ 136 m.cell
  generalize (w.alloc (.cells m.cells 37)) = V at *
  go_loopw [4, 3] (fun c o w' => ∃ j : Nat, j ≤ 5 ∧ c = .int .i64 ((j : Int) + 1) ∧ o = .string ⟨(tU1 m j).toArray⟩ ∧ Hid (Below w.heap.size w w') ∧ Hid (MemAt w' w.heap.size m)) (fun c _ _ => 6 - (intOf c).toNat)
  case atStart => exact ⟨0, by omega, rfl, by rw [tU1_0], HB0, HM0⟩
  case round =>
    obtain ⟨j, hj, rfl, rfl, HBr, HMr⟩ := hrel
    rename_i wr
    clear HB0 HM0
    have hl1 := tU1_len m hj
    by_cases hlt : j < 5
    · have hlt' : (j : Int) + 1 ≤ 5 := by omega
      have HS : Hid (tU1 m (j + 1) = tU1 m j ++ blk (kindW m j)) := tU1_s m j
      have hl2 : (blk (kindW m j)).length ≤ 6464 := by
        have := (fits_bit m ((j : Int) + 1) (bits5_le j)).len
        have := bits5_le j
        show (blk (upto _ _)).length ≤ _
        omega
      have HC : Hid (∀ W, Calls Tryz.prog 53 #[m.val, .int .i64 ((j : Int) + 1)] W fun e w' => e = .returned (.string ⟨(blk (kindW m j)).toArray⟩) ∧ Below W.heap.size W w') := fun W => l4bits_any m HOK.out j W
      generalize blk (kindW m j) = bl at *
      go_wp2_with (first | (refine wpList_rowLoad rfl 37 (.tmp 1) rfl _ 0 136 m.cell rfl HMr.out (by omega) (fun i _ => by rw [Nat.zero_add]) Tryz.underlying37 rfl (by kernel_rfl) ?_) | fail)
      refine (HC.out _).mono ?_
      rintro e w1 ⟨rfl, hb1⟩
      have HB1 : Hid (Below w.heap.size w w1) := HBr.out.trans (hb1.mono HBr.out.size)
      have HM1 : Hid (MemAt w1 w.heap.size m) := HMr.out.to hb1
      clear hb1 HBr HMr HC
      generalize tU1 m j = u at *
      go_wp2
      exact ⟨⟨j + 1, by omega, by go_num, by rw [HS.out]; exact congrArg Value.string (cat _ _), HB1, HM1⟩, by simp [intOf]; omega⟩
    · have hlt' : ¬ (j : Int) + 1 ≤ 5 := by omega
      have hjN : j = 5 := by omega
      have HE0 : Hid (tU1 m j = tU2 m 0) := by
        show tU1 m j = _
        rw [hjN]
        exact (tU2_0 m).symm
      clear hjN hlt hj
      generalize tU1 m j = u at *
      go_wp2
      clear hlt'
      go_loopw [5, 3] (fun c o w' => ∃ j : Nat, j ≤ 16 ∧ c = .int .i64 (j : Int) ∧ o = .string ⟨(tU2 m j).toArray⟩ ∧ Hid (Below w.heap.size w w') ∧ Hid (MemAt w' w.heap.size m)) (fun c _ _ => 16 - (intOf c).toNat)
      case atStart => exact ⟨0, by omega, rfl, by rw [HE0.out], HBr, HMr⟩
      case round =>
        clear HE0 HBr HMr hl1
        obtain ⟨j, hj, rfl, rfl, HBr, HMr⟩ := hrel
        rename_i wr
        have hl1 := tU2_len HOK.out hj
        by_cases hlt : j < 16
        · have hlt' : (j : Int) < 16 := by omega
          have c0 := HMr.out.cell (i := 5 + j * 2) (by omega)
          rw [m.cell_t (by omega), m.tcell_d] at c0
          have c1 := HMr.out.cell (i := 5 + j * 2 + 1) (by omega)
          rw [Nat.add_assoc, m.cell_t (by omega), m.tcell_c, ← Nat.add_assoc] at c1
          have htc := HOK.out.htc j
          have HS : Hid (tU2 m (j + 1) = tU2 m j ++ blk (tmW m j)) := tU2_s m j
          have HT1 : Hid (m.td j = true ∨ 0 < m.tc j → blk [dvT 7 j ++ ([61] ++ Lib.itoa (m.tc j : Int) ++ mkT (m.td j) [33])] = blk (tmW m j)) := fun h => by
            unfold tmW; rw [if_pos h]; rfl
          have HT2 : Hid (¬ (m.td j = true ∨ 0 < m.tc j) → blk (tmW m j) = []) := fun h => by
            unfold tmW; rw [if_neg h]; rfl
          have hln : ([61] ++ Lib.itoa (m.tc j : Int) ++ mkT (m.td j) [33]).length ≤ 100 := by
            have := tmT_len HOK.out hlt
            unfold tmT at this
            rw [List.length_append] at this
            omega
          have hlb : (blk (tmW m j)).length ≤ 101 := (show Fits 1 (tmW m j) from .maybe (tmT_len HOK.out hlt)).len
          have hli := itoa_len (m.tc j : Int) (by omega) (by omega)
          have hlk := mkT_len (m.td j) 33
          generalize m.td j = td at *
          generalize m.tc j = tc at *
          generalize tU2 m j = u at *
          generalize blk (tmW m j) = bl at *
          go_upto_region 10 with fail
          have HBa : Hid (Below w.heap.size w (wr.alloc (.cells #[.bool td, .int .u16 (tc : Int)] 27))) := HBr.out.alloc HBr.out.size _
          have HMa : Hid (MemAt (wr.alloc (.cells #[.bool td, .int .u16 (tc : Int)] 27)) w.heap.size m) := HMr.out.alloc _
          have d0 : (wr.alloc (.cells #[.bool td, .int .u16 (tc : Int)] 27)).cell? ⟨wr.heap.size, 0, none⟩ = some (.bool td) := by simp [go_sem]
          have d1 : (wr.alloc (.cells #[.bool td, .int .u16 (tc : Int)] 27)).cell? ⟨wr.heap.size, 1, none⟩ = some (.int .u16 (tc : Int)) := by simp [go_sem]
          clear HBr HMr c0 c1
          generalize (wr.alloc (.cells #[.bool td, .int .u16 (tc : Int)] 27)) = W at *
          generalize wr.heap.size = B at *
          have k0 := cell_regrown d0
          have k1 := cell_regrown d1
          cases td
          · by_cases htp : 0 < tc
            · have htp' : (0 : Int) < (tc : Int) := by omega
              have HT : Hid _ := HT1.out (.inr htp)
              clear HT1 HT2
              have hT := HT.out
              go_wp2
              refine wp_region_quiet_below (by kernel_rfl) (by kernel_rfl) ?_
              repeat (first | go_big_quiet_step ((first | exact decG (by omega) (by omega) _ _ | exact markG rfl _ _ | exact l4devG (by omega) (cat_e2 _ _) hln hT _ _)) | quiet_step ((first | exact decG (by omega) (by omega) _ _ | exact markG rfl _ _ | exact l4devG (by omega) (cat_e2 _ _) hln hT _ _)))
              refine wpQuiet_nil ?_
              intro _ hw'
              obtain ⟨⟨dq, osq⟩, hw''⟩ := hw'
              subst hw''
              have HB2 : Hid (Below w.heap.size w _) := HBa.out.trans ((below_regrown _ dq osq).mono HBa.out.size)
              have HM2 : Hid (MemAt _ w.heap.size m) := HMa.out.to (below_regrown _ dq osq)
              go_wp2
              exact ⟨⟨j + 1, by omega, by go_num, by rw [HS.out]; exact congrArg Value.string (cat _ _), HB2, HM2⟩, by simp [intOf]; omega⟩
            · have htp' : ¬ (0 : Int) < (tc : Int) := by omega
              have HN : Hid (bl = []) := HT2.out (by rintro (h | h) <;> simp_all)
              clear HT1 HT2
              go_wp2
              exact ⟨⟨j + 1, by omega, by go_num, by rw [HS.out, HN.out, List.append_nil], HBa, HMa⟩, by simp [intOf]; omega⟩
          · have HT : Hid _ := HT1.out (.inl rfl)
            clear HT1 HT2
            have hT := HT.out
            go_wp2
            refine wp_region_quiet_below (by kernel_rfl) (by kernel_rfl) ?_
            repeat (first | go_big_quiet_step ((first | exact decG (by omega) (by omega) _ _ | exact markG rfl _ _ | exact l4devG (by omega) (cat_e2 _ _) hln hT _ _)) | quiet_step ((first | exact decG (by omega) (by omega) _ _ | exact markG rfl _ _ | exact l4devG (by omega) (cat_e2 _ _) hln hT _ _)))
            refine wpQuiet_nil ?_
            intro _ hw'
            obtain ⟨⟨dq, osq⟩, hw''⟩ := hw'
            subst hw''
            have HB2 : Hid (Below w.heap.size w _) := HBa.out.trans ((below_regrown _ dq osq).mono HBa.out.size)
            have HM2 : Hid (MemAt _ w.heap.size m) := HMa.out.to (below_regrown _ dq osq)
            go_wp2
            exact ⟨⟨j + 1, by omega, by go_num, by rw [HS.out]; exact congrArg Value.string (cat _ _), HB2, HM2⟩, by simp [intOf]; omega⟩
        · have hlt' : ¬ (j : Int) < 16 := by omega
          have hjN : j = 16 := by omega
          have HE0 : Hid (tU2 m j = tU3 m 0) := by
            show tU2 m j = _
            rw [hjN]
            exact (tU3_0 m).symm
          clear hjN hlt hj
          generalize tU2 m j = u at *
          go_wp2
          clear hlt'
          go_loopw [7, 3] (fun c o w' => ∃ j : Nat, j ≤ 16 ∧ c = .int .i64 (j : Int) ∧ o = .string ⟨(tU3 m j).toArray⟩ ∧ Hid (Below w.heap.size w w') ∧ Hid (MemAt w' w.heap.size m)) (fun c _ _ => 16 - (intOf c).toNat)
          case atStart => exact ⟨0, by omega, rfl, by rw [HE0.out], HBr, HMr⟩
          case round =>
            clear HE0 HBr HMr hl1
            obtain ⟨j, hj, rfl, rfl, HBr, HMr⟩ := hrel
            rename_i wr
            have hl1 := tU3_len HOK.out hj
            by_cases hlt : j < 16
            · have hlt' : (j : Int) < 16 := by omega
              have c0 := HMr.out.cell (i := 37 + j * 3) (by omega)
              rw [m.cell_c (by omega), m.ccell_d] at c0
              have c1 := HMr.out.cell (i := 37 + j * 3 + 1) (by omega)
              rw [Nat.add_assoc, m.cell_c (by omega), m.ccell_l, ← Nat.add_assoc] at c1
              have c2 := HMr.out.cell (i := 37 + j * 3 + 2) (by omega)
              rw [Nat.add_assoc, m.cell_c (by omega), m.ccell_c, ← Nat.add_assoc] at c2
              have htc := HOK.out.hcc j
              have HS : Hid (tU3 m (j + 1) = tU3 m j ++ blk (cnW m j)) := tU3_s m j
              have HT1 : Hid (m.cd j = true ∨ m.cl j = true ∨ 0 < m.cc j → blk [dvT 8 j ++ ([61] ++ Lib.itoa (m.cc j : Int) ++ mkT (m.cd j) [33] ++ mkT (m.cl j) [43])] = blk (cnW m j)) := fun h => by
                unfold cnW; rw [if_pos h]; rfl
              have HT2 : Hid (¬ (m.cd j = true ∨ m.cl j = true ∨ 0 < m.cc j) → blk (cnW m j) = []) := fun h => by
                unfold cnW; rw [if_neg h]; rfl
              have hln : ([61] ++ Lib.itoa (m.cc j : Int) ++ mkT (m.cd j) [33] ++ mkT (m.cl j) [43]).length ≤ 100 := by
                have := cnT_len HOK.out hlt
                unfold cnT at this
                rw [List.length_append] at this
                omega
              have hlb : (blk (cnW m j)).length ≤ 101 := (show Fits 1 (cnW m j) from .maybe (cnT_len HOK.out hlt)).len
              have hli := itoa_len (m.cc j : Int) (by omega) (by omega)
              have hlk := mkT_len (m.cd j) 33
              have hlm := mkT_len (m.cl j) 43
              generalize m.cd j = cd at *
              generalize m.cl j = cl at *
              generalize m.cc j = cc at *
              generalize tU3 m j = u at *
              generalize blk (cnW m j) = bl at *
              go_upto_region 16 with fail
              have HBa : Hid (Below w.heap.size w (wr.alloc (.cells #[.bool cd, .bool cl, .int .u16 (cc : Int)] 30))) := HBr.out.alloc HBr.out.size _
              have HMa : Hid (MemAt (wr.alloc (.cells #[.bool cd, .bool cl, .int .u16 (cc : Int)] 30)) w.heap.size m) := HMr.out.alloc _
              have d0 : (wr.alloc (.cells #[.bool cd, .bool cl, .int .u16 (cc : Int)] 30)).cell? ⟨wr.heap.size, 0, none⟩ = some (.bool cd) := by simp [go_sem]
              have d1 : (wr.alloc (.cells #[.bool cd, .bool cl, .int .u16 (cc : Int)] 30)).cell? ⟨wr.heap.size, 1, none⟩ = some (.bool cl) := by simp [go_sem]
              have d2 : (wr.alloc (.cells #[.bool cd, .bool cl, .int .u16 (cc : Int)] 30)).cell? ⟨wr.heap.size, 2, none⟩ = some (.int .u16 (cc : Int)) := by simp [go_sem]
              clear HBr HMr c0 c1 c2
              generalize (wr.alloc (.cells #[.bool cd, .bool cl, .int .u16 (cc : Int)] 30)) = W at *
              generalize wr.heap.size = B at *
              have k0 := cell_regrown d0
              have k1 := cell_regrown d1
              have k2 := cell_regrown d2
              cases cd
              · cases cl
                · by_cases htp : 0 < cc
                  · have htp' : (0 : Int) < (cc : Int) := by omega
                    have HT : Hid _ := HT1.out (.inr (.inr htp))
                    clear HT1 HT2
                    have hT := HT.out
                    go_wp2
                    refine wp_region_quiet_below (by kernel_rfl) (by kernel_rfl) ?_
                    repeat (first | go_big_quiet_step ((first | exact decG (by omega) (by omega) _ _ | exact markG rfl _ _ | exact l4devG (by omega) (cat_e3 _ _ _) hln hT _ _)) | quiet_step ((first | exact decG (by omega) (by omega) _ _ | exact markG rfl _ _ | exact l4devG (by omega) (cat_e3 _ _ _) hln hT _ _)))
                    refine wpQuiet_nil ?_
                    intro _ hw'
                    obtain ⟨⟨dq, osq⟩, hw''⟩ := hw'
                    subst hw''
                    have HB2 : Hid (Below w.heap.size w _) := HBa.out.trans ((below_regrown _ dq osq).mono HBa.out.size)
                    have HM2 : Hid (MemAt _ w.heap.size m) := HMa.out.to (below_regrown _ dq osq)
                    go_wp2
                    exact ⟨⟨j + 1, by omega, by go_num, by rw [HS.out]; exact congrArg Value.string (cat _ _), HB2, HM2⟩, by simp [intOf]; omega⟩
                  · have htp' : ¬ (0 : Int) < (cc : Int) := by omega
                    have HN : Hid (bl = []) := HT2.out (by rintro (h | h | h) <;> simp_all)
                    clear HT1 HT2
                    go_wp2
                    exact ⟨⟨j + 1, by omega, by go_num, by rw [HS.out, HN.out, List.append_nil], HBa, HMa⟩, by simp [intOf]; omega⟩
                · have HT : Hid _ := HT1.out (.inr (.inl rfl))
                  clear HT1 HT2
                  have hT := HT.out
                  go_wp2
                  refine wp_region_quiet_below (by kernel_rfl) (by kernel_rfl) ?_
                  repeat (first | go_big_quiet_step ((first | exact decG (by omega) (by omega) _ _ | exact markG rfl _ _ | exact l4devG (by omega) (cat_e3 _ _ _) hln hT _ _)) | quiet_step ((first | exact decG (by omega) (by omega) _ _ | exact markG rfl _ _ | exact l4devG (by omega) (cat_e3 _ _ _) hln hT _ _)))
                  refine wpQuiet_nil ?_
                  intro _ hw'
                  obtain ⟨⟨dq, osq⟩, hw''⟩ := hw'
                  subst hw''
                  have HB2 : Hid (Below w.heap.size w _) := HBa.out.trans ((below_regrown _ dq osq).mono HBa.out.size)
                  have HM2 : Hid (MemAt _ w.heap.size m) := HMa.out.to (below_regrown _ dq osq)
                  go_wp2
                  exact ⟨⟨j + 1, by omega, by go_num, by rw [HS.out]; exact congrArg Value.string (cat _ _), HB2, HM2⟩, by simp [intOf]; omega⟩
              · have HT : Hid _ := HT1.out (.inl rfl)
                clear HT1 HT2
                have hT := HT.out
                go_wp2
                refine wp_region_quiet_below (by kernel_rfl) (by kernel_rfl) ?_
                repeat (first | go_big_quiet_step ((first | exact decG (by omega) (by omega) _ _ | exact markG rfl _ _ | exact l4devG (by omega) (cat_e3 _ _ _) hln hT _ _)) | quiet_step ((first | exact decG (by omega) (by omega) _ _ | exact markG rfl _ _ | exact l4devG (by omega) (cat_e3 _ _ _) hln hT _ _)))
                refine wpQuiet_nil ?_
                intro _ hw'
                obtain ⟨⟨dq, osq⟩, hw''⟩ := hw'
                subst hw''
                have HB2 : Hid (Below w.heap.size w _) := HBa.out.trans ((below_regrown _ dq osq).mono HBa.out.size)
                have HM2 : Hid (MemAt _ w.heap.size m) := HMa.out.to (below_regrown _ dq osq)
                go_wp2
                exact ⟨⟨j + 1, by omega, by go_num, by rw [HS.out]; exact congrArg Value.string (cat _ _), HB2, HM2⟩, by simp [intOf]; omega⟩
            · have hlt' : ¬ (j : Int) < 16 := by omega
              have hjN : j = 16 := by omega
              have HE0 : Hid (tU3 m j = tU4 m 0) := by
                show tU3 m j = _
                rw [hjN]
                exact (tU4_0 m).symm
              clear hjN hlt hj
              generalize tU3 m j = u at *
              go_wp2
              clear hlt'
              go_loopw [9, 3] (fun c o w' => ∃ j : Nat, j ≤ 32 ∧ c = .int .i64 (j : Int) ∧ o = .string ⟨(tU4 m j).toArray⟩ ∧ Hid (Below w.heap.size w w') ∧ Hid (MemAt w' w.heap.size m)) (fun c _ _ => 32 - (intOf c).toNat)
              case atStart => exact ⟨0, by omega, rfl, by rw [HE0.out], HBr, HMr⟩
              case round =>
                clear HE0 HBr HMr hl1
                obtain ⟨j, hj, rfl, rfl, HBr, HMr⟩ := hrel
                rename_i wr
                have hl1 := tU4_len HOK.out hj
                by_cases hlt : j < 32
                · have hlt' : (j : Int) < 32 := by omega
                  have c0 := HMr.out.cell (i := 85 + j) (by omega)
                  rw [m.cell_d (by omega), Mm.dcell] at c0
                  obtain ⟨hd0, hd1⟩ := HOK.out.hd j
                  have HS : Hid (tU4 m (j + 1) = tU4 m j ++ blk (whW m j)) := tU4_s m j
                  have HT1 : Hid (¬ m.d j = 0 → blk [dvT 9 j ++ ([61] ++ Lib.itoa (m.d j))] = blk (whW m j)) := fun h => by
                    unfold whW; rw [if_neg h]; rfl
                  have HT2 : Hid (m.d j = 0 → blk (whW m j) = []) := fun h => by
                    unfold whW; rw [if_pos h]; rfl
                  have hln : ([61] ++ Lib.itoa (m.d j)).length ≤ 100 := by
                    have := whT_len HOK.out hlt
                    unfold whT at this
                    rw [List.length_append] at this
                    omega
                  have hlb : (blk (whW m j)).length ≤ 101 := (show Fits 1 (whW m j) from .none (whT_len HOK.out hlt)).len
                  have hli := itoa_len (m.d j) (by omega) (by omega)
                  generalize m.d j = dj at *
                  generalize tU4 m j = u at *
                  generalize blk (whW m j) = bl at *
                  by_cases hz : dj = 0
                  · have hz' : (dj != 0) = false := by simpa using hz
                    have HN : Hid (bl = []) := HT2.out hz
                    clear HT1 HT2 hz
                    go_wp2
                    exact ⟨⟨j + 1, by omega, by go_num, by rw [HS.out, HN.out, List.append_nil], HBr, HMr⟩, by simp [intOf]; omega⟩
                  · have hz' : (dj != 0) = true := by simpa using hz
                    have HT : Hid (blk [dvT 9 j ++ ([61] ++ Lib.itoa dj)] = bl) := HT1.out hz
                    clear HT1 HT2 hz
                    go_wp2_with fail
                    refine (dec_any dj _ (by omega) (by omega)).mono ?_
                    rintro e w1 ⟨rfl, hb1⟩
                    have HB1 : Hid (Below w.heap.size w w1) := HBr.out.trans (hb1.mono HBr.out.size)
                    have HM1 : Hid (MemAt w1 w.heap.size m) := HMr.out.to hb1
                    have HC : Hid (∀ W, Calls Tryz.prog 54 #[.int .i64 9, .int .i64 (j : Int), .string (⟨#[61]⟩ ++ ⟨(Lib.itoa dj).toArray⟩)] W fun e w' => e = .returned (.string ⟨bl.toArray⟩) ∧ Below W.heap.size W w') := fun W => by
                      rw [← HT.out, show ((⟨#[61]⟩ : ByteArray) ++ ⟨(Lib.itoa dj).toArray⟩) = ⟨([61] ++ Lib.itoa dj).toArray⟩ from cat [61] _]
                      exact l4dev_any 9 j _ W (by omega) hln
                    clear HT hb1 HBr HMr c0
                    generalize Lib.itoa dj = il at *
                    go_wp2_with fail
                    refine (HC.out _).mono ?_
                    rintro e w2 ⟨rfl, hb2⟩
                    have HB2 : Hid (Below w.heap.size w w2) := HB1.out.trans (hb2.mono HB1.out.size)
                    have HM2 : Hid (MemAt w2 w.heap.size m) := HM1.out.to hb2
                    clear hb2 HB1 HM1 HC
                    go_wp2
                    exact ⟨⟨j + 1, by omega, by go_num, by rw [HS.out]; exact congrArg Value.string (cat _ _), HB2, HM2⟩, by simp [intOf]; omega⟩
                · have hlt' : ¬ (j : Int) < 32 := by omega
                  have hjN : j = 32 := by omega
                  have HE0 : Hid (tU4 m j = tU5 m 0) := by
                    show tU4 m j = _
                    rw [hjN]
                    exact (tU5_0 m).symm
                  clear hjN hlt hj
                  generalize tU4 m j = u at *
                  go_wp2
                  clear hlt'
                  go_loopw [10, 3] (fun c o w' => ∃ j : Nat, j ≤ 16 ∧ c = .int .i64 (j : Int) ∧ o = .string ⟨(tU5 m j).toArray⟩ ∧ Hid (Below w.heap.size w w') ∧ Hid (MemAt w' w.heap.size m)) (fun c _ _ => 16 - (intOf c).toNat)
                  case atStart => exact ⟨0, by omega, rfl, by rw [HE0.out], HBr, HMr⟩
                  case round =>
                    clear HE0 HBr HMr hl1
                    obtain ⟨j, hj, rfl, rfl, HBr, HMr⟩ := hrel
                    rename_i wr
                    have hl1 := tU5_len HOK.out hj
                    by_cases hlt : j < 16
                    · have hlt' : (j : Int) < 16 := by omega
                      have c0 := HMr.out.cell (i := 117 + j) (by omega)
                      rw [m.cell_r (by omega), Mm.rcell] at c0
                      have HS : Hid (tU5 m (j + 1) = tU5 m j ++ blk (reW m j)) := tU5_s m j
                      have HT1 : Hid (¬ rlT (m.r j) = [48] → blk [dvT 10 j ++ ([61] ++ rlT (m.r j))] = blk (reW m j)) := fun h => by
                        unfold reW; rw [if_neg h]; rfl
                      have HT2 : Hid (rlT (m.r j) = [48] → blk (reW m j) = []) := fun h => by
                        unfold reW; rw [if_pos h]; rfl
                      have hln : ([61] ++ rlT (m.r j)).length ≤ 100 := by
                        have := reT_len HOK.out hlt
                        unfold reT at this
                        rw [List.length_append] at this
                        omega
                      have hlb : (blk (reW m j)).length ≤ 101 := (show Fits 1 (reW m j) from .none (reT_len HOK.out hlt)).len
                      have hli := rlT_len (HOK.out.hr j)
                      have HR : Hid (∀ W, Calls Tryz.prog 52 #[.float .f64 (m.r j)] W fun e w' => e = .returned (.string ⟨(rlT (m.r j)).toArray⟩) ∧ Below W.heap.size W w') := fun W =>
                        (st_any (m.r j) W (HOK.out.hr j)).mono fun _ _ ⟨t, he, ht, hb⟩ => ⟨by rw [he, rlT_is ht], hb⟩
                      have HC : Hid (∀ W, blk [dvT 10 j ++ ([61] ++ rlT (m.r j))] = blk (reW m j) → Calls Tryz.prog 54 #[.int .i64 10, .int .i64 (j : Int), .string (⟨#[61]⟩ ++ ⟨(rlT (m.r j)).toArray⟩)] W fun e w' => e = .returned (.string ⟨(blk (reW m j)).toArray⟩) ∧ Below W.heap.size W w') := fun W hT => by
                        rw [← hT, show ((⟨#[61]⟩ : ByteArray) ++ ⟨(rlT (m.r j)).toArray⟩) = ⟨([61] ++ rlT (m.r j)).toArray⟩ from cat [61] _]
                        exact l4dev_any 10 j _ W (by omega) hln
                      generalize rlT (m.r j) = rt at *
                      generalize tU5 m j = u at *
                      generalize blk (reW m j) = bl at *
                      go_wp2_with fail
                      refine (HR.out _).mono ?_
                      rintro e w1 ⟨rfl, hb1⟩
                      have HB1 : Hid (Below w.heap.size w w1) := HBr.out.trans (hb1.mono HBr.out.size)
                      have HM1 : Hid (MemAt w1 w.heap.size m) := HMr.out.to hb1
                      clear hb1 HBr HMr c0
                      by_cases hz : rt = [48]
                      · have hz' : (rt != [48]) = false := by simpa using hz
                        have hz2 : (rt == [48]) = true := by simpa using hz
                        have HN : Hid (bl = []) := HT2.out hz
                        clear HT1 HT2 hz HC HR
                        go_wp2
                        exact ⟨⟨j + 1, by omega, by go_num, by rw [HS.out, HN.out, List.append_nil], HB1, HM1⟩, by simp [intOf]; omega⟩
                      · have hz' : (rt != [48]) = true := by simpa using hz
                        have hz2 : (rt == [48]) = false := by simpa using hz
                        have HT : Hid (blk [dvT 10 j ++ ([61] ++ rt)] = bl) := HT1.out hz
                        have c0 := HM1.out.cell (i := 117 + j) (by omega)
                        rw [m.cell_r (by omega), Mm.rcell] at c0
                        clear HT1 HT2 hz
                        go_wp2_with fail
                        refine (HR.out _).mono ?_
                        rintro e w2 ⟨rfl, hb2⟩
                        have HB2 : Hid (Below w.heap.size w w2) := HB1.out.trans (hb2.mono HB1.out.size)
                        have HM2 : Hid (MemAt w2 w.heap.size m) := HM1.out.to hb2
                        clear hb2 HB1 HM1 c0 HR
                        go_wp2_with fail
                        refine (HC.out _ HT.out).mono ?_
                        rintro e w3 ⟨rfl, hb3⟩
                        have HB3 : Hid (Below w.heap.size w w3) := HB2.out.trans (hb3.mono HB2.out.size)
                        have HM3 : Hid (MemAt w3 w.heap.size m) := HM2.out.to hb3
                        clear hb3 HB2 HM2 HC HT
                        go_wp2
                        exact ⟨⟨j + 1, by omega, by go_num, by rw [HS.out]; exact congrArg Value.string (cat _ _), HB3, HM3⟩, by simp [intOf]; omega⟩
                    · have hlt' : ¬ (j : Int) < 16 := by omega
                      have hjN : j = 16 := by omega
                      have HE : Hid (tU5 m j ++ mkT (decide (0 < m.time)) ([116, 105, 109, 101, 61] ++ Lib.itoa (m.time : Int) ++ [32]) ++ mkT m.ran [114, 97, 110, 32] ++ mkT m.fault [102, 97, 117, 108, 116, 32] = blk (wordsM m)) := by
                        show tU5 m j ++ _ ++ _ ++ _ = _
                        rw [hjN]
                        exact tEnd m
                      clear hjN hlt hj
                      have hR1 : 0 < m.time → [116, 105, 109, 101, 61] ++ Lib.itoa (m.time : Int) ++ [32] = mkT (decide (0 < m.time)) ([116, 105, 109, 101, 61] ++ Lib.itoa (m.time : Int) ++ [32]) := fun h => by simp [mkT, h]
                      have hR2 : ¬ 0 < m.time → [] = mkT (decide (0 < m.time)) ([116, 105, 109, 101, 61] ++ Lib.itoa (m.time : Int) ++ [32]) := fun h => by simp [mkT, h]
                      have HX1 : Hid (blk (wordsM m) = [] → memT m = []) := memT_nil
                      have HX2 : Hid (blk (wordsM m) ≠ [] → blk (wordsM m) = memT m ++ [32]) := memT_cut
                      have hlw := (fits_words HOK.out).len
                      have htm := HOK.out.htime
                      have hli := itoa_len (m.time : Int) (by omega) (by omega)
                      have c0 := HMr.out.cell (i := 133) (by omega)
                      rw [cell_lat133] at c0
                      have c1 := HMr.out.cell (i := 134) (by omega)
                      rw [cell_lat134] at c1
                      have c2 := HMr.out.cell (i := 135) (by omega)
                      rw [cell_lat135] at c2
                      have k0 := cell_regrown c0
                      have k1 := cell_regrown c1
                      have k2 := cell_regrown c2
                      have hm0 : (mkT (decide (0 < m.time)) ([116, 105, 109, 101, 61] ++ Lib.itoa (m.time : Int) ++ [32])).length ≤ 40 := by
                        unfold mkT
                        split <;> simp <;> omega
                      have hm1 : (mkT m.ran [114, 97, 110, 32]).length ≤ 4 := by unfold mkT; split <;> simp
                      have hm2 : (mkT m.fault [102, 97, 117, 108, 116, 32]).length ≤ 6 := by unfold mkT; split <;> simp
                      generalize mkT (decide (0 < m.time)) ([116, 105, 109, 101, 61] ++ Lib.itoa (m.time : Int) ++ [32]) = tw at *
                      generalize blk (wordsM m) = all at *
                      generalize m.time = tm at *
                      generalize m.ran = rn at *
                      generalize m.fault = ft at *
                      generalize tU5 m j = u at *
                      go_upto_region 28 with fail
                      refine wp_region_quiet_below (by kernel_rfl) (by kernel_rfl) ?_
                      repeat (first | go_big_quiet_step ((first | exact decG (by omega) (by omega) _ _ | exact markRan (b := rn) _ _ | exact markFault (b := ft) _ _ | exact markTm (mk_dec _ hR1 hR2) _ _)) | quiet_step ((first | exact decG (by omega) (by omega) _ _ | exact markRan (b := rn) _ _ | exact markFault (b := ft) _ _ | exact markTm (mk_dec _ hR1 hR2) _ _)))
                      refine wpQuiet_nil ?_
                      intro _ hw'
                      obtain ⟨⟨dq, osq⟩, hw''⟩ := hw'
                      subst hw''
                      have HB2 : Hid (Below w.heap.size w _) := HBr.out.trans ((below_regrown _ dq osq).mono HBr.out.size)
                      go_upto_region 29 with fail
                      have hcat : ((⟨u.toArray⟩ : ByteArray) ++ ⟨tw.toArray⟩ ++ ⟨(mkT rn [114, 97, 110, 32]).toArray⟩ ++ ⟨(mkT ft [102, 97, 117, 108, 116, 32]).toArray⟩) = ⟨all.toArray⟩ := by rw [cat, cat, cat, HE.out]
                      rw [hcat]
                      clear hcat HE hm0 hm1 hm2 hR1 hR2 k0 k1 k2 c0 c1 c2 hl1 hli htm
                      generalize Sort.grow (redrawn wr dq) osq = W2 at *
                      by_cases hz : all = []
                      · have HR : Hid (memT m = []) := HX1.out hz
                        subst hz
                        go_wp2
                        go_ret
                        exact ⟨by rw [HR.out]; rfl, HB2.out⟩
                      · have HR : Hid (all = memT m ++ [32]) := HX2.out hz
                        have hz2 : (all == []) = false := by simpa using hz
                        have hpos : 1 ≤ all.length := by rw [HR.out]; simp
                        have HC : Hid ((⟨all.toArray⟩ : ByteArray).extract 0 (all.length - 1) = ⟨(memT m).toArray⟩) := by
                          show (⟨all.toArray⟩ : ByteArray).extract 0 (all.length - 1) = ⟨(memT m).toArray⟩
                          rw [HR.out]
                          exact cut_last _ _
                        clear HX1 HX2 HR
                        go_wp2
                        go_ret
                        exact ⟨ret_str HC.out, HB2.out⟩
end Go.Proofs.YtjacgamgjjpllaaGreatDoor
