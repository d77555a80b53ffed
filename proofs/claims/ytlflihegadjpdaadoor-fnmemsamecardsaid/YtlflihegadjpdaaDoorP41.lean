/- The text of a real number: what it is, and how the program takes a number apart. Helper text: no statement is claimed here. -/
import Derived.Test.YtlflihegadjpdaaDoorP40
import Derived.Test.YtlflihegadjpdaaDoorNg
import Derived.Test.YtlflihegadjpdaaDoorFf
import Derived.WalkLawsBesides
import Derived.Test.YtlflihegadjpdaaDoorNh
import Derived.Test.YtlflihegadjpdaaDoorIk
import Derived.Test.YtlflihegadjpdaaDoorIa
namespace Go.Proofs.YtlflihegadjpdaaDoor
open Go.ChangeShapes Go.WideShapes Go.ChangeAt Go.RowKit Fl

theorem fmt_any (n : Int) (w : World) (h0 : -9223372036854775808 ≤ n) (h1 : n ≤ 9223372036854775807) (hP : PowTab w) :
    Calls Tryd.prog 83 #[.int .i64 n, .int .i64 10] w fun e w' => e = .returned (.string ⟨(Lib.itoa n).toArray⟩) ∧ Below w.heap.size w w' :=
  (Any.strconv_FormatInt_10 Tryd.laysM173 n h0 h1 w hP).mono fun _ _ ⟨he, k, os, hw⟩ => ⟨he, by rw [hw]; exact below_grow w k os⟩

set_option maxHeartbeats 1000000 in
theorem apart_any (m k : Nat) (w : World) (h : Sc m k) (hk : k ≤ 2045) (hm : 0 < m) :
    Calls Tryd.prog 82 #[.float .f64 (wd false m k)] w fun e w' => e = .returned (.tuple #[.int .i64 (oN m k), .int .i64 (oE m k)]) ∧ w' = w := by
  have hI : Ap m k (.float .f64 (wd false m k)) (.int .i64 0) m k 0 := ⟨h, hm, hk, rfl, rfl, rfl, by omega⟩
  go_enter Tryd.func82, Tryd.ntmps82
  go_wp2
  go_loop [0, 4] (fun x e => ∃ m1 k1 z, Ap m k x e m1 k1 z) (fun _ e => (3000 + intOf e).toNat)
  case atStart => exact ⟨m, k, 0, hI⟩
  case round =>
    obtain ⟨m1, k1, z, hA⟩ := hrel
    have hbd := hA.bd h hk hm
    have hask := ask52 hA.1 hA.2.2.1
    obtain ⟨rfl, rfl⟩ : _ ∧ _ := ⟨hA.2.2.2.1, hA.2.2.2.2.1⟩
    by_cases hlt : k1 < 1074
    · have hc : (ord (wd false m1 k1) 4841369599423283200 == some .lt) = true := by rw [hask]; simpa using hlt
      obtain ⟨r, hr, m2, k2, hA2⟩ := hA.dbl hlt
      have hrun := run_someN hr
      clear hask hr hI hA
      obtain ⟨b1, b2⟩ := hbd
      go_wp2
      refine ⟨⟨m2, k2, z - 1, hA2⟩, by simp [intOf]; omega⟩
    · have hc : (ord (wd false m1 k1) 4841369599423283200 == some .lt) = false := by rw [hask]; simpa using hlt
      clear hask hI
      have HA : Hid (Ap m k (.float .f64 (wd false m1 k1)) (.int .i64 z) m1 k1 z) := hA
      clear hA
      obtain ⟨b1, b2⟩ := hbd
      go_wp2
      go_loop [0, 4] (fun x e => ∃ m1 k1 z, Ap m k x e m1 k1 z ∧ 1074 ≤ k1) (fun _ e => (3000 - intOf e).toNat)
      case atStart => exact ⟨m1, k1, z, HA.out, by omega⟩
      case round =>
        clear HA b1 b2 hc hlt
        obtain ⟨m2, k2, y, hA, hge⟩ := hrel
        have hbd := hA.bd h hk hm
        have hask := ask53 hA.1 hA.2.2.1
        obtain ⟨rfl, rfl⟩ : _ ∧ _ := ⟨hA.2.2.2.1, hA.2.2.2.2.1⟩
        by_cases hlt : 1075 ≤ k2
        · have hc : (ord (wd false m2 k2) 4845873199050653696 == some .gt || ord (wd false m2 k2) 4845873199050653696 == some .eq) = true := by rw [hask]; simpa using hlt
          obtain ⟨k3, rfl⟩ : ∃ k3, k2 = k3 + 1 := ⟨k2 - 1, by omega⟩
          obtain ⟨hr, hA2⟩ := hA.hlv
          have hrun := run_someN hr
          clear hask hr hA
          obtain ⟨b1, b2⟩ := hbd
          go_wp2
          refine ⟨⟨m2, k3, y + 1, hA2, by omega⟩, by simp [intOf]; omega⟩
        · have hc : (ord (wd false m2 k2) 4845873199050653696 == some .gt || ord (wd false m2 k2) 4845873199050653696 == some .eq) = false := by rw [hask]; simpa using hlt
          have hk2 : k2 = 1074 := by omega
          have hcut := run_cutN (toInt_k hA.1 hk2) 2 Tryd.underlying2
          have HQ : Hid (Aq m k m2 y) := hA.done hk2
          clear hask hA hk2 hge hlt
          obtain ⟨b1, b2⟩ := hbd
          go_wp2
          go_loop [5, 4] (fun n e => ∃ (n1 : Nat) (z1 : Int), Aq m k n1 z1 ∧ n = .int .i64 (n1 : Int) ∧ e = .int .i64 z1) (fun n _ => (intOf n).toNat)
          case atStart => exact ⟨m2, y, HQ.out, rfl, rfl⟩
          case round =>
            clear HQ b1 b2 hc hcut
            obtain ⟨n1, z1, hQ, rfl, rfl⟩ := hrel
            obtain ⟨b1, b2⟩ := hQ.bd h hk hm
            have hn0 := hQ.1
            have hn1 := hQ.2.1
            by_cases hev : n1 % 2 = 0
            · have hQ2 : Hid (Aq m k (n1 / 2) (z1 + 1)) := hQ.step hev
              have hev' : ((n1 : Int) % 2 == 0) = true := by simp; omega
              clear hQ hev
              go_wp2
              exact ⟨⟨n1 / 2, z1 + 1, hQ2.out, by go_num, rfl⟩, by simp [intOf]; omega⟩
            · have hQ2 : Hid (n1 = oN m k ∧ z1 = oE m k) := hQ.out (by omega)
              have hev' : ((n1 : Int) % 2 == 0) = false := by simp; omega
              clear hQ hev
              go_wp2
              exact bodyPost_ret (v := .tuple #[.int .i64 (n1 : Int), .int .i64 z1]) (post_2 Tryd.results82 rfl rfl) rfl ⟨by rw [← hQ2.out.1, ← hQ2.out.2], rfl⟩

set_option maxHeartbeats 400000 in
theorem oddText_any (m k : Nat) (w : World) (h : Sc m k) (hk : k ≤ 2045) (hm : 0 < m) (hP : PowTab w) :
    Calls Tryd.prog 71 #[.float .f64 (wd false m k)] w fun e w' => e = .returned (.string ⟨(oT m k).toArray⟩) ∧ Below w.heap.size w w' := by
  have a := oN_lt h hm
  have b := oE_in h hk hm
  have c := Lib.itoa_length_le (oN m k : Int) (by omega) (by omega)
  have d := Lib.itoa_length_le (oE m k) (by omega) (by omega)
  go_enter Tryd.func71, Tryd.ntmps71
  go_wp2_with fail
  refine (apart_any m k _ h hk hm).mono ?_
  rintro e w1 ⟨rfl, rfl⟩
  go_wp2_with fail
  refine (fmt_any _ _ (by omega) (by omega) hP).mono ?_
  rintro e w2 ⟨rfl, hb⟩
  go_wp2_with fail
  refine (itoa_any _ _ (by omega) (by omega) (hP.to hb)).mono ?_
  rintro e w3 ⟨rfl, hb3⟩
  have HT : Hid (oT m k = Lib.itoa (oN m k) ++ [42, 50, 94] ++ Lib.itoa (oE m k)) := rfl
  generalize Lib.itoa (oN m k : Int) = A at *
  generalize Lib.itoa (oE m k) = B at *
  go_wp2
  go_ret
  exact ⟨ret_str (by rw [HT.out]; exact cat3 A B), hb.trans (hb3.mono hb.size)⟩
end Go.Proofs.YtlflihegadjpdaaDoor

/- The text of a real number: the program's RealText. Helper text: no statement is claimed here. -/
namespace Go.Proofs.YtlflihegadjpdaaDoor
open Go.ChangeShapes Go.WideShapes Go.ChangeAt Go.RowKit Fl

section
attribute [local go_sem] unary_negF

set_option maxHeartbeats 400000 in
theorem it_nan (x : Nat) (w : World) (h : nan x) : Calls Tryd.prog 48 #[.float .f64 x] w (Texted x w) := by
  have h1 := (asks_nan h).n
  have H : Hid (nan x) := h
  clear h
  go_enter Tryd.func48, Tryd.ntmps48
  go_wp2
  go_ret
  exact ⟨[110, 97, 110], rfl, .isnan H.out, Below.refl _ _⟩
set_option maxHeartbeats 400000 in
theorem it_hi (x : Nat) (w : World) (T : TextR x [105, 110, 102]) (h1 : (ord x x != some .eq) = false) (h2 : (ord x 9218868437227405311 == some .gt) = true) : Calls Tryd.prog 48 #[.float .f64 x] w (Texted x w) := by
  have H : Hid (TextR x [105, 110, 102]) := T
  clear T
  go_enter Tryd.func48, Tryd.ntmps48
  go_wp2
  go_ret
  exact ⟨[105, 110, 102], rfl, H.out, Below.refl _ _⟩
set_option maxHeartbeats 400000 in
theorem it_lo (x : Nat) (w : World) (T : TextR x [45, 105, 110, 102]) (h1 : (ord x x != some .eq) = false) (h2 : (ord x 9218868437227405311 == some .gt) = false) (h3 : (ord x 18442240474082181119 == some .lt) = true) : Calls Tryd.prog 48 #[.float .f64 x] w (Texted x w) := by
  have H : Hid (TextR x [45, 105, 110, 102]) := T
  clear T
  go_enter Tryd.func48, Tryd.ntmps48
  go_wp2
  go_ret
  exact ⟨[45, 105, 110, 102], rfl, H.out, Below.refl _ _⟩
set_option maxHeartbeats 400000 in
theorem it_z (x y : Nat) (w : World) (T : TextR x [48]) (h1 : (ord x x != some .eq) = false) (h2 : (ord x 9218868437227405311 == some .gt) = false) (h3 : (ord x 18442240474082181119 == some .lt) = false) (h4 : (ord x 0 == some .eq) = true)
    (h6 : ∀ (t : TypeId) (w : World), (binOp .quo t (.float .f64 4607182418800017408) (.float .f64 x)).run Tryd.prog w = .ok (.float .f64 y) w) (h7 : (ord y 0 == some .lt) = false) : Calls Tryd.prog 48 #[.float .f64 x] w (Texted x w) := by
  have H : Hid (TextR x [48]) := T
  clear T
  go_enter Tryd.func48, Tryd.ntmps48
  go_wp2
  go_ret
  exact ⟨[48], rfl, H.out, Below.refl _ _⟩
set_option maxHeartbeats 400000 in
theorem it_nz (x y : Nat) (w : World) (T : TextR x [45, 48]) (h1 : (ord x x != some .eq) = false) (h2 : (ord x 9218868437227405311 == some .gt) = false) (h3 : (ord x 18442240474082181119 == some .lt) = false) (h4 : (ord x 0 == some .eq) = true)
    (h6 : ∀ (t : TypeId) (w : World), (binOp .quo t (.float .f64 4607182418800017408) (.float .f64 x)).run Tryd.prog w = .ok (.float .f64 y) w) (h7 : (ord y 0 == some .lt) = true) : Calls Tryd.prog 48 #[.float .f64 x] w (Texted x w) := by
  have H : Hid (TextR x [45, 48]) := T
  clear T
  go_enter Tryd.func48, Tryd.ntmps48
  go_wp2
  go_ret
  exact ⟨[45, 48], rfl, H.out, Below.refl _ _⟩
theorem it_inf (w : World) : Calls Tryd.prog 48 #[.float .f64 (wi false)] w (Texted (wi false) w) := it_hi _ w .inf (asks_wi false).n (asks_wi false).hi
theorem it_ninf (w : World) : Calls Tryd.prog 48 #[.float .f64 (wi true)] w (Texted (wi true) w) := it_lo _ w .ninf (asks_wi true).n (asks_wi true).hi (asks_wi true).lo
theorem it_zero (s : Bool) (w : World) : Calls Tryd.prog 48 #[.float .f64 (wd s 0 0)] w (Texted (wd s 0 0) w) := by
  have a := asks_wd sc00 (by omega) s
  cases s
  · exact it_z _ _ w .zero a.n a.hi a.lo a.z (run_someN (one_by_zero false)) (asks_wi false).ng
  · exact it_nz _ _ w .nzero a.n a.hi a.lo a.z (run_someN (one_by_zero true)) (asks_wi true).ng
set_option maxHeartbeats 400000 in
theorem it_pos (m k : Nat) (w : World) (h : Sc m k) (hk : k ≤ 2045) (hm : 0 < m) (hP : PowTab w) : Calls Tryd.prog 48 #[.float .f64 (wd false m k)] w (Texted (wd false m k) w) := by
  obtain ⟨h1, h2, h3, h4, h5⟩ := asks_wd h hk false
  have h4 : (ord (wd false m k) 0 == some .eq) = false := by rw [h4]; simp; omega
  have h5 : (ord (wd false m k) 0 == some .lt) = false := by rw [h5]; simp
  go_enter Tryd.func48, Tryd.ntmps48
  go_wp2_with fail
  refine (oddText_any m k _ h hk hm hP).mono ?_
  rintro e w1 ⟨rfl, hb⟩
  have H : Hid (TextR (wd false m k) (oT m k)) := TextR.pos h hk hm
  generalize oT m k = t at *
  go_wp2
  go_ret
  exact ⟨t, rfl, H.out, hb⟩
set_option maxHeartbeats 400000 in
theorem it_neg (m k : Nat) (w : World) (h : Sc m k) (hk : k ≤ 2045) (hm : 0 < m) (hP : PowTab w) : Calls Tryd.prog 48 #[.float .f64 (wd true m k)] w (Texted (wd true m k) w) := by
  obtain ⟨h1, h2, h3, h4, h5⟩ := asks_wd h hk true
  have h4 : (ord (wd true m k) 0 == some .eq) = false := by rw [h4]; simp; omega
  have h5 : (ord (wd true m k) 0 == some .lt) = true := by rw [h5]; simpa using hm
  have h6 : Op.negFloat .f64 (wd true m k) = wd false m k := neg_wd h hk true
  have hl := oT_len h hk hm
  go_enter Tryd.func48, Tryd.ntmps48
  go_wp2_with fail
  refine (oddText_any m k _ h hk hm hP).mono ?_
  rintro e w1 ⟨rfl, hb⟩
  have H : Hid (TextR (wd true m k) (45 :: oT m k)) := TextR.neg h hk hm
  generalize oT m k = t at *
  go_wp2
  go_ret
  exact ⟨45 :: t, ret_str (cat [45] t), H.out, hb⟩
end
theorem it_any (x : Nat) (w : World) (hx : x < 2 ^ 64) (hP : PowTab w) : Calls Tryd.prog 48 #[.float .f64 x] w (Texted x w) := by
  rcases cases_wd hx with ⟨s, m, k, hs, hk, rfl⟩ | ⟨s, rfl⟩ | hn
  · by_cases h0 : m = 0
    · rw [wd_zeroN hs h0]; exact it_zero s w
    · cases s
      · exact it_pos m k w hs hk (by omega) hP
      · exact it_neg m k w hs hk (by omega) hP
  · cases s
    · exact it_inf w
    · exact it_ninf w
  · exact it_nan x w hn
end Go.Proofs.YtlflihegadjpdaaDoor

/- The program's words of numbers: memNumberWords. Helper text: no statement is claimed here. -/
namespace Go.Proofs.YtlflihegadjpdaaDoor
open Go.ChangeShapes Go.WideShapes Go.ChangeAt Go.RowKit Fl

/-- The words of numbers as far as a place of each list. -/
def nU1 (m : Mm) (j : Nat) : List (List UInt8) := upto (tmW m) j
def nU2 (m : Mm) (j : Nat) : List (List UInt8) := upto (tmW m) 16 ++ upto (cnW m) j
def nU3 (m : Mm) (j : Nat) : List (List UInt8) := upto (tmW m) 16 ++ upto (cnW m) 16 ++ upto (whW m) j
def nU4 (m : Mm) (j : Nat) : List (List UInt8) := upto (tmW m) 16 ++ upto (cnW m) 16 ++ upto (whW m) 32 ++ upto (reW m) j
theorem nU2_0 (m : Mm) : nU2 m 0 = nU1 m 16 := by simp [nU1, nU2, upto_zero]
theorem nU3_0 (m : Mm) : nU3 m 0 = nU2 m 16 := by simp [nU2, nU3, upto_zero]
theorem nU4_0 (m : Mm) : nU4 m 0 = nU3 m 32 := by simp [nU3, nU4, upto_zero]
theorem nU4_e (m : Mm) : nU4 m 16 = numW m := rfl
theorem nU1_s (m : Mm) (j : Nat) : nU1 m (j + 1) = nU1 m j ++ tmW m j := by simp only [nU1, upto_succ]
theorem nU2_s (m : Mm) (j : Nat) : nU2 m (j + 1) = nU2 m j ++ cnW m j := by simp only [nU2, upto_succ, List.append_assoc]
theorem nU3_s (m : Mm) (j : Nat) : nU3 m (j + 1) = nU3 m j ++ whW m j := by simp only [nU3, upto_succ, List.append_assoc]
theorem nU4_s (m : Mm) (j : Nat) : nU4 m (j + 1) = nU4 m j ++ reW m j := by simp only [nU4, upto_succ, List.append_assoc]
theorem nU1_len {m : Mm} (h : m.Ok) {j : Nat} (hj : j ≤ 16) : (nU1 m j).length ≤ 80 := by
  have := (fits_tm h hj).1
  show (upto _ _).length ≤ _
  omega
theorem nU2_len {m : Mm} (h : m.Ok) {j : Nat} (hj : j ≤ 16) : (nU2 m j).length ≤ 80 := by
  have := ((fits_tm h (Nat.le_refl 16)).app (fits_cn h hj)).1
  show (_ ++ _ : List _).length ≤ _
  omega
theorem nU3_len {m : Mm} (h : m.Ok) {j : Nat} (hj : j ≤ 32) : (nU3 m j).length ≤ 80 := by
  have := (((fits_tm h (Nat.le_refl 16)).app (fits_cn h (Nat.le_refl 16))).app (fits_wh h hj)).1
  show (_ ++ _ : List _).length ≤ _
  omega
theorem nU4_len {m : Mm} (h : m.Ok) {j : Nat} (hj : j ≤ 16) : (nU4 m j).length ≤ 80 := by
  have := ((((fits_tm h (Nat.le_refl 16)).app (fits_cn h (Nat.le_refl 16))).app (fits_wh h (Nat.le_refl 32))).app (fits_re h hj)).1
  show (_ ++ _ : List _).length ≤ _
  omega
theorem zero_text : rlT 0 = [48] := rfl
theorem sv_zero {x : Nat} (hx : x < 2 ^ 64) : sv x 0 = decide (rlT x = [48]) := by
  have h0 : TextR 0 (rlT 0) := rlT_R (by decide)
  rw [zero_text] at h0
  by_cases h : rlT x = [48]
  · rw [sv_yes ((text_iff (rlT_R hx) h0).1 h)]; simp [h]
  · rw [sv_no fun h' => h ((text_iff (rlT_R hx) h0).2 h')]; simp [h]

set_option maxHeartbeats 2000000 in
set_option maxRecDepth 100000 in
theorem numberWords_any (m : Mm) (hok : m.Ok) (w : World) (hT : DevTab w) (hP : PowTab w) :
    Calls Tryd.prog 19 #[m.val] w fun e w' => ∃ v, e = .returned v ∧ Hid (SRow w' w.heap.size v (numW m)) ∧ Below w.heap.size w w' := by
  have HOK : Hid m.Ok := hok
  have HT : Hid (DevTab w) := hT
  have HP : Hid (PowTab w) := hP
  clear hT hP hok
  unfold Mm.val
  go_enter Tryd.func19, Tryd.ntmps19
  go_upto_region 2 with fail
  have HBV : Hid (Below w.heap.size w (w.alloc (.cells m.cells 37))) := (Below.refl _ _).alloc (Nat.le_refl _) _
  have HM0 : Hid (MemAt (w.alloc (.cells m.cells 37)) w.heap.size m) := RowAt.new w _ 136 m.cell
  generalize (w.alloc (.cells m.cells 37)) = V at *
  have HT0 : Hid (DevTab V) := HT.out.to HBV.out
  have HP0 : Hid (PowTab V) := HP.out.to HBV.out
  clear HT HP
  have HR0 : Hid (SRow V V.heap.size (.slice none 0 0) (nU1 m 0)) := SRow.nil _ _
  have HB0 : Hid (Below V.heap.size V V) := Below.refl _ _
  have HMv : Hid (MemAt V w.heap.size m) := HM0
  go_wp2_with (first | (refine wpList_rowLoad rfl 28 (.tmp 12) rfl w.heap.size 5 32 m.tcell rfl HMv.out (by omega) (fun i hi => m.cell_t hi) Tryd.underlying28 rfl (by kernel_rfl) ?_) | fail)
  clear HMv
  go_loopw [14, 3] (fun c o w' => ∃ (j : Nat) (W : World), W = w' ∧ j ≤ 16 ∧ c = .int .i64 (j : Int) ∧ Hid (SRow W V.heap.size o (nU1 m j)) ∧ Hid (Below V.heap.size V W)) (fun c _ _ => 16 - (intOf c).toNat)
  case atStart => exact ⟨0, _, rfl, by omega, rfl, HR0, HB0⟩
  case round =>
    clear HR0 HB0
    obtain ⟨j, wr, rfl, hj, rfl, HRr, HBr⟩ := hrel
    have hwl := nU1_len HOK.out hj
    by_cases hlt : j < 16
    · have hlt' : (j : Int) < 16 := by omega
      have HS : Hid (nU1 m (j + 1) = nU1 m j ++ tmW m j) := nU1_s m j
      have hix : ∀ W, (Instr.index 28 (.agg (cellsOf 32 m.tcell)) (.int .i64 (j : Int))).run Tryd.prog W = .ok (.agg #[.bool (m.td j), .int .u16 (m.tc j : Int)]) W := fun W => idxT m hlt W
      have HTm : Hid (∀ W, PowTab W → Calls Tryd.prog 45 #[.agg #[.bool (m.td j), .int .u16 (m.tc j : Int)]] W fun e w' => e = .returned (.string ⟨(Lib.itoa (m.tc j : Int) ++ mkT (m.td j) [33]).toArray⟩) ∧ Below W.heap.size W w') := fun W h => timerText_any _ _ W (HOK.out.htc j) h
      have hln : (Lib.itoa (m.tc j : Int) ++ mkT (m.td j) [33]).length ≤ 100 := by
        have := HOK.out.htc j
        have := itoa_len (m.tc j : Int) (by omega) (by omega)
        have := mkT_len (m.td j) 33
        rw [List.length_append]
        omega
      have HNw : Hid (∀ W, DevTab W → PowTab W → Calls Tryd.prog 44 #[.int .i64 7, .int .i64 (j : Int), .string ⟨(Lib.itoa (m.tc j : Int) ++ mkT (m.td j) [33]).toArray⟩] W fun e w' => e = .returned (.string ⟨(dvT 7 j ++ ([61] ++ (Lib.itoa (m.tc j : Int) ++ mkT (m.td j) [33]))).toArray⟩) ∧ Below W.heap.size W w') := fun W h1 h2 => numberWord_any 7 j _ W h1 h2 (by omega) (by omega) (by omega) (by show (j : Int) < 16; omega) hln
      have HT1 : Hid (m.td j = true ∨ 0 < m.tc j → tmW m j = [dvT 7 j ++ ([61] ++ (Lib.itoa (m.tc j : Int) ++ mkT (m.td j) [33]))]) := fun h => by
        unfold tmW; rw [if_pos h]; simp only [tmT, List.append_assoc]
      have HT2 : Hid (¬ (m.td j = true ∨ 0 < m.tc j) → tmW m j = []) := fun h => by
        unfold tmW; rw [if_neg h]
      clear hln
      generalize dvT 7 j ++ ([61] ++ (Lib.itoa (m.tc j : Int) ++ mkT (m.td j) [33])) = dt at *
      generalize Lib.itoa (m.tc j : Int) ++ mkT (m.td j) [33] = tt at *
      generalize nU1 m j = nu at *
      have HEQ : Hid (∀ W, (Op.equal 27 (.agg #[.bool (m.td j), .int .u16 (m.tc j : Int)]) (.agg #[.bool false, .int .u16 0])).run Tryd.prog W = .ok (m.td j == false && (m.tc j : Int) == 0) W) := fun W => eqTimerV 9998 _ _ _ _ W
      generalize m.td j = td at *
      generalize m.tc j = tc at *
      go_upto_region 5 with fail
      have HBa : Hid (Below V.heap.size V (wr.alloc (.cells #[.bool td, .int .u16 (tc : Int)] 27))) := HBr.out.alloc HBr.out.size _
      have HRa : Hid (SRow (wr.alloc (.cells #[.bool td, .int .u16 (tc : Int)] 27)) V.heap.size u3 nu) := HRr.out.to ((Below.refl _ _).alloc (Nat.le_refl _) _)
      have d0 : (wr.alloc (.cells #[.bool td, .int .u16 (tc : Int)] 27)).cell? ⟨wr.heap.size, 0, none⟩ = some (.bool td) := by simp [go_sem]
      have d1 : (wr.alloc (.cells #[.bool td, .int .u16 (tc : Int)] 27)).cell? ⟨wr.heap.size, 1, none⟩ = some (.int .u16 (tc : Int)) := by simp [go_sem]
      clear HBr HRr
      generalize (wr.alloc (.cells #[.bool td, .int .u16 (tc : Int)] 27)) = wa at *
      generalize wr.heap.size = B at *
      cases td
      · by_cases htp : 0 < tc
        · have hz : ¬ tc = 0 := by omega
          have hz1 : ¬ (tc : Int) = 0 := by omega
          have hz2 : ((tc : Int) == 0) = false := by simpa using hz1
          have HT : Hid (tmW m j = [dt]) := HT1.out (.inr htp)
          clear HT1 HT2 HEQ htp
          go_wp2_with fail
          refine (HTm.out _ (HP0.out.to HBa.out)).mono ?_
          rintro e wb ⟨rfl, hbb⟩
          have HBb : Hid (Below V.heap.size V wb) := HBa.out.trans (hbb.mono HBa.out.size)
          have HRb : Hid (SRow wb V.heap.size u3 nu) := HRa.out.to hbb
          clear hbb HBa HRa
          go_wp2_with fail
          refine (HNw.out _ (HT0.out.to HBb.out) (HP0.out.to HBb.out)).mono ?_
          rintro e wc ⟨rfl, hbc⟩
          have HBc : Hid (Below V.heap.size V wc) := HBb.out.trans (hbc.mono HBb.out.size)
          have HRc : Hid (SRow wc V.heap.size u3 nu) := HRb.out.to hbc
          clear hbc HBb HRb
          have hbs : V.heap.size ≤ wc.heap.size := HBc.out.size
          have HC := sone_cell wc dt
          go_wp2_with (refine wpList_sapp _ rfl _ _ rfl V.heap.size _ nu [dt] rfl (HRc.out.to ((Below.refl _ _).alloc (Nat.le_refl _) _)) wc.heap.size 1 rfl HC (by simp; omega) (by simp; omega) ?_)
          intro v5 w5 HR5 hb5
          have HB5 : Hid (Below V.heap.size V w5) := (HBc.out.alloc HBc.out.size _).trans hb5.out
          have HW5 : Hid (SRow w5 V.heap.size v5 (nU1 m (j + 1))) := by
            show SRow w5 V.heap.size v5 (nU1 m (j + 1))
            rw [HS.out, HT.out]
            exact HR5.out
          clear HR5 hb5 HBc HRc HC hbs HT HS
          go_wp2
          exact ⟨⟨j + 1, _, rfl, by omega, by go_num, HW5, HB5⟩, by simp [intOf]; omega⟩
        · obtain rfl : tc = 0 := by omega
          have HN : Hid (tmW m j = []) := HT2.out (by rintro (h | h) <;> simp_all)
          clear HT1 HT2 HEQ htp
          have HW : Hid (SRow wa V.heap.size u3 (nU1 m (j + 1))) := by
            show SRow wa V.heap.size u3 (nU1 m (j + 1))
            rw [HS.out, HN.out, List.append_nil]
            exact HRa.out
          clear HS HN
          go_wp2
          exact ⟨⟨j + 1, _, rfl, by omega, by go_num, HW, HBa⟩, by simp [intOf]; omega⟩
      · have HT : Hid (tmW m j = [dt]) := HT1.out (.inl rfl)
        clear HT1 HT2 HEQ
        go_wp2_with fail
        refine (HTm.out _ (HP0.out.to HBa.out)).mono ?_
        rintro e wb ⟨rfl, hbb⟩
        have HBb : Hid (Below V.heap.size V wb) := HBa.out.trans (hbb.mono HBa.out.size)
        have HRb : Hid (SRow wb V.heap.size u3 nu) := HRa.out.to hbb
        clear hbb HBa HRa
        go_wp2_with fail
        refine (HNw.out _ (HT0.out.to HBb.out) (HP0.out.to HBb.out)).mono ?_
        rintro e wc ⟨rfl, hbc⟩
        have HBc : Hid (Below V.heap.size V wc) := HBb.out.trans (hbc.mono HBb.out.size)
        have HRc : Hid (SRow wc V.heap.size u3 nu) := HRb.out.to hbc
        clear hbc HBb HRb
        have hbs : V.heap.size ≤ wc.heap.size := HBc.out.size
        have HC := sone_cell wc dt
        go_wp2_with (refine wpList_sapp _ rfl _ _ rfl V.heap.size _ nu [dt] rfl (HRc.out.to ((Below.refl _ _).alloc (Nat.le_refl _) _)) wc.heap.size 1 rfl HC (by simp; omega) (by simp; omega) ?_)
        intro v5 w5 HR5 hb5
        have HB5 : Hid (Below V.heap.size V w5) := (HBc.out.alloc HBc.out.size _).trans hb5.out
        have HW5 : Hid (SRow w5 V.heap.size v5 (nU1 m (j + 1))) := by
          show SRow w5 V.heap.size v5 (nU1 m (j + 1))
          rw [HS.out, HT.out]
          exact HR5.out
        clear HR5 hb5 HBc HRc HC hbs HT HS
        go_wp2
        exact ⟨⟨j + 1, _, rfl, by omega, by go_num, HW5, HB5⟩, by simp [intOf]; omega⟩
    · have hlt' : ¬ (j : Int) < 16 := by omega
      have hjN : j = 16 := by omega
      have HR0 : Hid (SRow wr V.heap.size u3 (nU2 m 0)) := by
        show SRow wr V.heap.size u3 (nU2 m 0)
        rw [nU2_0, ← hjN]
        exact HRr.out
      have HB0 : Hid (Below V.heap.size V wr) := HBr
      have HMv : Hid (MemAt wr w.heap.size m) := HM0.out.to HBr.out
      clear HRr HBr hjN hlt hj hwl
      go_wp2_with (first | (refine wpList_rowLoad rfl 31 (.tmp 29) rfl w.heap.size 37 48 m.ccell rfl HMv.out (by omega) (fun i hi => m.cell_c hi) Tryd.underlying31 rfl (by kernel_rfl) ?_) | fail)
      clear hlt' HMv
      go_loopw [31, 3] (fun c o w' => ∃ (j : Nat) (W : World), W = w' ∧ j ≤ 16 ∧ c = .int .i64 (j : Int) ∧ Hid (SRow W V.heap.size o (nU2 m j)) ∧ Hid (Below V.heap.size V W)) (fun c _ _ => 16 - (intOf c).toNat)
      case atStart => exact ⟨0, _, rfl, by omega, rfl, HR0, HB0⟩
      case round =>
        clear HR0 HB0
        obtain ⟨j, wr, rfl, hj, rfl, HRr, HBr⟩ := hrel
        have hwl := nU2_len HOK.out hj
        by_cases hlt : j < 16
        · have hlt' : (j : Int) < 16 := by omega
          have HS : Hid (nU2 m (j + 1) = nU2 m j ++ cnW m j) := nU2_s m j
          have hix : ∀ W, (Instr.index 31 (.agg (cellsOf 48 m.ccell)) (.int .i64 (j : Int))).run Tryd.prog W = .ok (.agg #[.bool (m.cd j), .bool (m.cl j), .int .u16 (m.cc j : Int)]) W := fun W => idxC m hlt W
          have HTm : Hid (∀ W, PowTab W → Calls Tryd.prog 46 #[.agg #[.bool (m.cd j), .bool (m.cl j), .int .u16 (m.cc j : Int)]] W fun e w' => e = .returned (.string ⟨(Lib.itoa (m.cc j : Int) ++ mkT (m.cd j) [33] ++ mkT (m.cl j) [43]).toArray⟩) ∧ Below W.heap.size W w') := fun W h => counterText_any _ _ _ W (HOK.out.hcc j) h
          have hln : (Lib.itoa (m.cc j : Int) ++ mkT (m.cd j) [33] ++ mkT (m.cl j) [43]).length ≤ 100 := by
            have := HOK.out.hcc j
            have := itoa_len (m.cc j : Int) (by omega) (by omega)
            have := mkT_len (m.cd j) 33
            have := mkT_len (m.cl j) 43
            rw [List.length_append, List.length_append]
            omega
          have HNw : Hid (∀ W, DevTab W → PowTab W → Calls Tryd.prog 44 #[.int .i64 8, .int .i64 (j : Int), .string ⟨(Lib.itoa (m.cc j : Int) ++ mkT (m.cd j) [33] ++ mkT (m.cl j) [43]).toArray⟩] W fun e w' => e = .returned (.string ⟨(dvT 8 j ++ ([61] ++ (Lib.itoa (m.cc j : Int) ++ mkT (m.cd j) [33] ++ mkT (m.cl j) [43]))).toArray⟩) ∧ Below W.heap.size W w') := fun W h1 h2 => numberWord_any 8 j _ W h1 h2 (by omega) (by omega) (by omega) (by show (j : Int) < 16; omega) hln
          have HT1 : Hid (m.cd j = true ∨ m.cl j = true ∨ 0 < m.cc j → cnW m j = [dvT 8 j ++ ([61] ++ (Lib.itoa (m.cc j : Int) ++ mkT (m.cd j) [33] ++ mkT (m.cl j) [43]))]) := fun h => by
            unfold cnW; rw [if_pos h]; simp only [cnT, List.append_assoc]
          have HT2 : Hid (¬ (m.cd j = true ∨ m.cl j = true ∨ 0 < m.cc j) → cnW m j = []) := fun h => by
            unfold cnW; rw [if_neg h]
          clear hln
          generalize dvT 8 j ++ ([61] ++ (Lib.itoa (m.cc j : Int) ++ mkT (m.cd j) [33] ++ mkT (m.cl j) [43])) = dt at *
          generalize Lib.itoa (m.cc j : Int) ++ mkT (m.cd j) [33] ++ mkT (m.cl j) [43] = tt at *
          generalize nU2 m j = nu at *
          generalize m.cd j = cd at *
          generalize m.cl j = cl at *
          generalize m.cc j = cc at *
          go_upto_region 11 with fail
          have HBa : Hid (Below V.heap.size V (wr.alloc (.cells #[.bool cd, .bool cl, .int .u16 (cc : Int)] 30))) := HBr.out.alloc HBr.out.size _
          have HRa : Hid (SRow (wr.alloc (.cells #[.bool cd, .bool cl, .int .u16 (cc : Int)] 30)) V.heap.size u3 nu) := HRr.out.to ((Below.refl _ _).alloc (Nat.le_refl _) _)
          have d0 : (wr.alloc (.cells #[.bool cd, .bool cl, .int .u16 (cc : Int)] 30)).cell? ⟨wr.heap.size, 0, none⟩ = some (.bool cd) := by simp [go_sem]
          have d1 : (wr.alloc (.cells #[.bool cd, .bool cl, .int .u16 (cc : Int)] 30)).cell? ⟨wr.heap.size, 1, none⟩ = some (.bool cl) := by simp [go_sem]
          have d2 : (wr.alloc (.cells #[.bool cd, .bool cl, .int .u16 (cc : Int)] 30)).cell? ⟨wr.heap.size, 2, none⟩ = some (.int .u16 (cc : Int)) := by simp [go_sem]
          clear HBr HRr
          generalize (wr.alloc (.cells #[.bool cd, .bool cl, .int .u16 (cc : Int)] 30)) = wa at *
          generalize wr.heap.size = B at *
          cases cd
          · cases cl
            · by_cases htp : 0 < cc
              · have hz : ¬ cc = 0 := by omega
                have hz1 : ¬ (cc : Int) = 0 := by omega
                have hz2 : ((cc : Int) == 0) = false := by simpa using hz1
                have HT : Hid (cnW m j = [dt]) := HT1.out (.inr (.inr htp))
                clear HT1 HT2 htp
                go_wp2_with fail
                refine (HTm.out _ (HP0.out.to HBa.out)).mono ?_
                rintro e wb ⟨rfl, hbb⟩
                have HBb : Hid (Below V.heap.size V wb) := HBa.out.trans (hbb.mono HBa.out.size)
                have HRb : Hid (SRow wb V.heap.size u3 nu) := HRa.out.to hbb
                clear hbb HBa HRa
                go_wp2_with fail
                refine (HNw.out _ (HT0.out.to HBb.out) (HP0.out.to HBb.out)).mono ?_
                rintro e wc ⟨rfl, hbc⟩
                have HBc : Hid (Below V.heap.size V wc) := HBb.out.trans (hbc.mono HBb.out.size)
                have HRc : Hid (SRow wc V.heap.size u3 nu) := HRb.out.to hbc
                clear hbc HBb HRb
                have hbs : V.heap.size ≤ wc.heap.size := HBc.out.size
                have HC := sone_cell wc dt
                go_wp2_with (refine wpList_sapp _ rfl _ _ rfl V.heap.size _ nu [dt] rfl (HRc.out.to ((Below.refl _ _).alloc (Nat.le_refl _) _)) wc.heap.size 1 rfl HC (by simp; omega) (by simp; omega) ?_)
                intro v5 w5 HR5 hb5
                have HB5 : Hid (Below V.heap.size V w5) := (HBc.out.alloc HBc.out.size _).trans hb5.out
                have HW5 : Hid (SRow w5 V.heap.size v5 (nU2 m (j + 1))) := by
                  show SRow w5 V.heap.size v5 (nU2 m (j + 1))
                  rw [HS.out, HT.out]
                  exact HR5.out
                clear HR5 hb5 HBc HRc HC hbs HT HS
                go_wp2
                exact ⟨⟨j + 1, _, rfl, by omega, by go_num, HW5, HB5⟩, by simp [intOf]; omega⟩
              · obtain rfl : cc = 0 := by omega
                have HN : Hid (cnW m j = []) := HT2.out (by rintro (h | h | h) <;> simp_all)
                clear HT1 HT2 htp
                have HW : Hid (SRow wa V.heap.size u3 (nU2 m (j + 1))) := by
                  show SRow wa V.heap.size u3 (nU2 m (j + 1))
                  rw [HS.out, HN.out, List.append_nil]
                  exact HRa.out
                clear HS HN
                go_wp2
                exact ⟨⟨j + 1, _, rfl, by omega, by go_num, HW, HBa⟩, by simp [intOf]; omega⟩
            · have HT : Hid (cnW m j = [dt]) := HT1.out (.inr (.inl rfl))
              clear HT1 HT2
              go_wp2_with fail
              refine (HTm.out _ (HP0.out.to HBa.out)).mono ?_
              rintro e wb ⟨rfl, hbb⟩
              have HBb : Hid (Below V.heap.size V wb) := HBa.out.trans (hbb.mono HBa.out.size)
              have HRb : Hid (SRow wb V.heap.size u3 nu) := HRa.out.to hbb
              clear hbb HBa HRa
              go_wp2_with fail
              refine (HNw.out _ (HT0.out.to HBb.out) (HP0.out.to HBb.out)).mono ?_
              rintro e wc ⟨rfl, hbc⟩
              have HBc : Hid (Below V.heap.size V wc) := HBb.out.trans (hbc.mono HBb.out.size)
              have HRc : Hid (SRow wc V.heap.size u3 nu) := HRb.out.to hbc
              clear hbc HBb HRb
              have hbs : V.heap.size ≤ wc.heap.size := HBc.out.size
              have HC := sone_cell wc dt
              go_wp2_with (refine wpList_sapp _ rfl _ _ rfl V.heap.size _ nu [dt] rfl (HRc.out.to ((Below.refl _ _).alloc (Nat.le_refl _) _)) wc.heap.size 1 rfl HC (by simp; omega) (by simp; omega) ?_)
              intro v5 w5 HR5 hb5
              have HB5 : Hid (Below V.heap.size V w5) := (HBc.out.alloc HBc.out.size _).trans hb5.out
              have HW5 : Hid (SRow w5 V.heap.size v5 (nU2 m (j + 1))) := by
                show SRow w5 V.heap.size v5 (nU2 m (j + 1))
                rw [HS.out, HT.out]
                exact HR5.out
              clear HR5 hb5 HBc HRc HC hbs HT HS
              go_wp2
              exact ⟨⟨j + 1, _, rfl, by omega, by go_num, HW5, HB5⟩, by simp [intOf]; omega⟩
          · have HT : Hid (cnW m j = [dt]) := HT1.out (.inl rfl)
            clear HT1 HT2
            go_wp2_with fail
            refine (HTm.out _ (HP0.out.to HBa.out)).mono ?_
            rintro e wb ⟨rfl, hbb⟩
            have HBb : Hid (Below V.heap.size V wb) := HBa.out.trans (hbb.mono HBa.out.size)
            have HRb : Hid (SRow wb V.heap.size u3 nu) := HRa.out.to hbb
            clear hbb HBa HRa
            go_wp2_with fail
            refine (HNw.out _ (HT0.out.to HBb.out) (HP0.out.to HBb.out)).mono ?_
            rintro e wc ⟨rfl, hbc⟩
            have HBc : Hid (Below V.heap.size V wc) := HBb.out.trans (hbc.mono HBb.out.size)
            have HRc : Hid (SRow wc V.heap.size u3 nu) := HRb.out.to hbc
            clear hbc HBb HRb
            have hbs : V.heap.size ≤ wc.heap.size := HBc.out.size
            have HC := sone_cell wc dt
            go_wp2_with (refine wpList_sapp _ rfl _ _ rfl V.heap.size _ nu [dt] rfl (HRc.out.to ((Below.refl _ _).alloc (Nat.le_refl _) _)) wc.heap.size 1 rfl HC (by simp; omega) (by simp; omega) ?_)
            intro v5 w5 HR5 hb5
            have HB5 : Hid (Below V.heap.size V w5) := (HBc.out.alloc HBc.out.size _).trans hb5.out
            have HW5 : Hid (SRow w5 V.heap.size v5 (nU2 m (j + 1))) := by
              show SRow w5 V.heap.size v5 (nU2 m (j + 1))
              rw [HS.out, HT.out]
              exact HR5.out
            clear HR5 hb5 HBc HRc HC hbs HT HS
            go_wp2
            exact ⟨⟨j + 1, _, rfl, by omega, by go_num, HW5, HB5⟩, by simp [intOf]; omega⟩
        · have hlt' : ¬ (j : Int) < 16 := by omega
          have hjN : j = 16 := by omega
          have HR0 : Hid (SRow wr V.heap.size u3 (nU3 m 0)) := by
            show SRow wr V.heap.size u3 (nU3 m 0)
            rw [nU3_0, ← hjN]
            exact HRr.out
          have HB0 : Hid (Below V.heap.size V wr) := HBr
          have HMv : Hid (MemAt wr w.heap.size m) := HM0.out.to HBr.out
          clear HRr HBr hjN hlt hj hwl
          go_wp2_with (first | (refine wpList_rowLoad rfl 33 (.tmp 46) rfl w.heap.size 85 32 m.dcell rfl HMv.out (by omega) (fun i hi => m.cell_d hi) Tryd.underlying33 rfl (by kernel_rfl) ?_) | fail)
          clear hlt' HMv
          go_loopw [48, 3] (fun c o w' => ∃ (j : Nat) (W : World), W = w' ∧ j ≤ 32 ∧ c = .int .i64 (j : Int) ∧ Hid (SRow W V.heap.size o (nU3 m j)) ∧ Hid (Below V.heap.size V W)) (fun c _ _ => 32 - (intOf c).toNat)
          case atStart => exact ⟨0, _, rfl, by omega, rfl, HR0, HB0⟩
          case round =>
            clear HR0 HB0
            obtain ⟨j, wr, rfl, hj, rfl, HRr, HBr⟩ := hrel
            have hwl := nU3_len HOK.out hj
            by_cases hlt : j < 32
            · have hlt' : (j : Int) < 32 := by omega
              have HS : Hid (nU3 m (j + 1) = nU3 m j ++ whW m j) := nU3_s m j
              have hix : ∀ W, (Instr.index 33 (.agg (cellsOf 32 m.dcell)) (.int .i64 (j : Int))).run Tryd.prog W = .ok (.int .i16 (m.d j)) W := fun W => idxD m hlt W
              obtain ⟨hd0, hd1⟩ := HOK.out.hd j
              have HTm : Hid (∀ W, PowTab W → Calls Tryd.prog 47 #[.int .i64 (m.d j)] W fun e w' => e = .returned (.string ⟨(Lib.itoa (m.d j)).toArray⟩) ∧ Below W.heap.size W w') := fun W h => itoa_any _ W (by omega) (by omega) h
              have hln : (Lib.itoa (m.d j)).length ≤ 100 := by
                have := itoa_len (m.d j) (by omega) (by omega)
                omega
              have HNw : Hid (∀ W, DevTab W → PowTab W → Calls Tryd.prog 44 #[.int .i64 9, .int .i64 (j : Int), .string ⟨(Lib.itoa (m.d j)).toArray⟩] W fun e w' => e = .returned (.string ⟨(dvT 9 j ++ ([61] ++ Lib.itoa (m.d j))).toArray⟩) ∧ Below W.heap.size W w') := fun W h1 h2 => numberWord_any 9 j _ W h1 h2 (by omega) (by omega) (by omega) (by show (j : Int) < 32; omega) hln
              have HT1 : Hid (¬ m.d j = 0 → whW m j = [dvT 9 j ++ ([61] ++ Lib.itoa (m.d j))]) := fun h => by
                unfold whW; rw [if_neg h]; rfl
              have HT2 : Hid (m.d j = 0 → whW m j = []) := fun h => by
                unfold whW; rw [if_pos h]
              clear hln
              generalize dvT 9 j ++ ([61] ++ Lib.itoa (m.d j)) = dt at *
              generalize Lib.itoa (m.d j) = tt at *
              generalize nU3 m j = nu at *
              generalize m.d j = dj at *
              by_cases hz : dj = 0
              · subst hz
                have HN : Hid (whW m j = []) := HT2.out rfl
                clear HT1 HT2
                have HW : Hid (SRow wr V.heap.size u3 (nU3 m (j + 1))) := by
                  show SRow wr V.heap.size u3 (nU3 m (j + 1))
                  rw [HS.out, HN.out, List.append_nil]
                  exact HRr.out
                clear HS HN
                go_wp2
                exact ⟨⟨j + 1, _, rfl, by omega, by go_num, HW, HBr⟩, by simp [intOf]; omega⟩
              · have hz' : (dj != 0) = true := by simpa using hz
                have HT : Hid (whW m j = [dt]) := HT1.out hz
                clear HT1 HT2 hz
                go_wp2_with fail
                refine (HTm.out _ (HP0.out.to HBr.out)).mono ?_
                rintro e wb ⟨rfl, hbb⟩
                have HBb : Hid (Below V.heap.size V wb) := HBr.out.trans (hbb.mono HBr.out.size)
                have HRb : Hid (SRow wb V.heap.size u3 nu) := HRr.out.to hbb
                clear hbb HBr HRr
                go_wp2_with fail
                refine (HNw.out _ (HT0.out.to HBb.out) (HP0.out.to HBb.out)).mono ?_
                rintro e wc ⟨rfl, hbc⟩
                have HBc : Hid (Below V.heap.size V wc) := HBb.out.trans (hbc.mono HBb.out.size)
                have HRc : Hid (SRow wc V.heap.size u3 nu) := HRb.out.to hbc
                clear hbc HBb HRb
                have hbs : V.heap.size ≤ wc.heap.size := HBc.out.size
                have HC := sone_cell wc dt
                go_wp2_with (refine wpList_sapp _ rfl _ _ rfl V.heap.size _ nu [dt] rfl (HRc.out.to ((Below.refl _ _).alloc (Nat.le_refl _) _)) wc.heap.size 1 rfl HC (by simp; omega) (by simp; omega) ?_)
                intro v5 w5 HR5 hb5
                have HB5 : Hid (Below V.heap.size V w5) := (HBc.out.alloc HBc.out.size _).trans hb5.out
                have HW5 : Hid (SRow w5 V.heap.size v5 (nU3 m (j + 1))) := by
                  show SRow w5 V.heap.size v5 (nU3 m (j + 1))
                  rw [HS.out, HT.out]
                  exact HR5.out
                clear HR5 hb5 HBc HRc HC hbs HT HS
                go_wp2
                exact ⟨⟨j + 1, _, rfl, by omega, by go_num, HW5, HB5⟩, by simp [intOf]; omega⟩
            · have hlt' : ¬ (j : Int) < 32 := by omega
              have hjN : j = 32 := by omega
              have HR0 : Hid (SRow wr V.heap.size u3 (nU4 m 0)) := by
                show SRow wr V.heap.size u3 (nU4 m 0)
                rw [nU4_0, ← hjN]
                exact HRr.out
              have HB0 : Hid (Below V.heap.size V wr) := HBr
              have HMv : Hid (MemAt wr w.heap.size m) := HM0.out.to HBr.out
              clear HRr HBr hjN hlt hj hwl
              go_wp2_with (first | (refine wpList_rowLoad rfl 35 (.tmp 63) rfl w.heap.size 117 16 m.rcell rfl HMv.out (by omega) (fun i hi => m.cell_r hi) Tryd.underlying35 rfl (by kernel_rfl) ?_) | fail)
              clear hlt' HMv
              go_loopw [65, 3] (fun c o w' => ∃ (j : Nat) (W : World), W = w' ∧ j ≤ 16 ∧ c = .int .i64 (j : Int) ∧ Hid (SRow W V.heap.size o (nU4 m j)) ∧ Hid (Below V.heap.size V W)) (fun c _ _ => 16 - (intOf c).toNat)
              case atStart => exact ⟨0, _, rfl, by omega, rfl, HR0, HB0⟩
              case round =>
                clear HR0 HB0
                obtain ⟨j, wr, rfl, hj, rfl, HRr, HBr⟩ := hrel
                have hwl := nU4_len HOK.out hj
                by_cases hlt : j < 16
                · have hlt' : (j : Int) < 16 := by omega
                  have HS : Hid (nU4 m (j + 1) = nU4 m j ++ reW m j) := nU4_s m j
                  have hix : ∀ W, (Instr.index 35 (.agg (cellsOf 16 m.rcell)) (.int .i64 (j : Int))).run Tryd.prog W = .ok (.float .f64 (m.r j)) W := fun W => idxR m hlt W
                  have HSm : Hid (∀ W, Calls Tryd.prog 40 #[.float .f64 (m.r j), .float .f64 0] W fun e w' => e = .returned (.bool (decide (rlT (m.r j) = [48]))) ∧ w' = W) := fun W => by
                    rw [← sv_zero (HOK.out.hr j)]
                    exact sameReal_any (m.r j) 0 W (HOK.out.hr j) (by decide)
                  have HTm : Hid (∀ W, PowTab W → Calls Tryd.prog 48 #[.float .f64 (m.r j)] W fun e w' => e = .returned (.string ⟨(rlT (m.r j)).toArray⟩) ∧ Below W.heap.size W w') := fun W h =>
                    (it_any (m.r j) W (HOK.out.hr j) h).mono fun _ _ ⟨t, he, ht, hb⟩ => ⟨by rw [he, rlT_is ht], hb⟩
                  have hln : (rlT (m.r j)).length ≤ 100 := by
                    have := rlT_len (HOK.out.hr j)
                    omega
                  have HNw : Hid (∀ W, DevTab W → PowTab W → Calls Tryd.prog 44 #[.int .i64 10, .int .i64 (j : Int), .string ⟨(rlT (m.r j)).toArray⟩] W fun e w' => e = .returned (.string ⟨(dvT 10 j ++ ([61] ++ rlT (m.r j))).toArray⟩) ∧ Below W.heap.size W w') := fun W h1 h2 => numberWord_any 10 j _ W h1 h2 (by omega) (by omega) (by omega) (by show (j : Int) < 16; omega) hln
                  have HT1 : Hid (¬ rlT (m.r j) = [48] → reW m j = [dvT 10 j ++ ([61] ++ rlT (m.r j))]) := fun h => by
                    unfold reW; rw [if_neg h]; rfl
                  have HT2 : Hid (rlT (m.r j) = [48] → reW m j = []) := fun h => by
                    unfold reW; rw [if_pos h]
                  clear hln
                  generalize dvT 10 j ++ ([61] ++ rlT (m.r j)) = dt at *
                  generalize rlT (m.r j) = tt at *
                  generalize nU4 m j = nu at *
                  generalize m.r j = rj at *
                  go_wp2_with fail
                  refine (HSm.out _).mono ?_
                  rintro e w0 ⟨rfl, rfl⟩
                  by_cases hz : tt = [48]
                  · have hz' : decide (tt = [48]) = true := by simpa using hz
                    have HN : Hid (reW m j = []) := HT2.out hz
                    clear HT1 HT2 hz HSm
                    rw [hz']
                    have HW : Hid (SRow w0 V.heap.size u3 (nU4 m (j + 1))) := by
                      show SRow w0 V.heap.size u3 (nU4 m (j + 1))
                      rw [HS.out, HN.out, List.append_nil]
                      exact HRr.out
                    clear HS HN
                    go_wp2
                    exact ⟨⟨j + 1, _, rfl, by omega, by go_num, HW, HBr⟩, by simp [intOf]; omega⟩
                  · have hz' : decide (tt = [48]) = false := by simpa using hz
                    have HT : Hid (reW m j = [dt]) := HT1.out hz
                    clear HT1 HT2 hz HSm
                    rw [hz']
                    go_wp2_with fail
                    refine (HTm.out _ (HP0.out.to HBr.out)).mono ?_
                    rintro e wb ⟨rfl, hbb⟩
                    have HBb : Hid (Below V.heap.size V wb) := HBr.out.trans (hbb.mono HBr.out.size)
                    have HRb : Hid (SRow wb V.heap.size u3 nu) := HRr.out.to hbb
                    clear hbb HBr HRr
                    go_wp2_with fail
                    refine (HNw.out _ (HT0.out.to HBb.out) (HP0.out.to HBb.out)).mono ?_
                    rintro e wc ⟨rfl, hbc⟩
                    have HBc : Hid (Below V.heap.size V wc) := HBb.out.trans (hbc.mono HBb.out.size)
                    have HRc : Hid (SRow wc V.heap.size u3 nu) := HRb.out.to hbc
                    clear hbc HBb HRb
                    have hbs : V.heap.size ≤ wc.heap.size := HBc.out.size
                    have HC := sone_cell wc dt
                    go_wp2_with (refine wpList_sapp _ rfl _ _ rfl V.heap.size _ nu [dt] rfl (HRc.out.to ((Below.refl _ _).alloc (Nat.le_refl _) _)) wc.heap.size 1 rfl HC (by simp; omega) (by simp; omega) ?_)
                    intro v5 w5 HR5 hb5
                    have HB5 : Hid (Below V.heap.size V w5) := (HBc.out.alloc HBc.out.size _).trans hb5.out
                    have HW5 : Hid (SRow w5 V.heap.size v5 (nU4 m (j + 1))) := by
                      show SRow w5 V.heap.size v5 (nU4 m (j + 1))
                      rw [HS.out, HT.out]
                      exact HR5.out
                    clear HR5 hb5 HBc HRc HC hbs HT HS
                    go_wp2
                    exact ⟨⟨j + 1, _, rfl, by omega, by go_num, HW5, HB5⟩, by simp [intOf]; omega⟩
                · have hlt' : ¬ (j : Int) < 16 := by omega
                  have hjN : j = 16 := by omega
                  have HW : Hid (SRow wr V.heap.size u3 (numW m)) := by
                    show SRow wr V.heap.size u3 (numW m)
                    rw [← nU4_e, ← hjN]
                    exact HRr.out
                  clear HRr hjN
                  go_wp2
                  go_ret
                  exact ⟨_, rfl, HW.out.low HBV.out.size, HBV.out.trans (HBr.out.mono HBV.out.size)⟩
end Go.Proofs.YtlflihegadjpdaaDoor
