/- The text of a real number: what it is, and how the program takes a number apart. Helper text: no statement is claimed here. -/
import Derived.Test.YtedobjegolpbjaaDoorSn
import Derived.Test.YtedobjegolpbjaaDoorNg
import Derived.Test.YtedobjegolpbjaaDoorFf
import Derived.WalkLawsBesides
namespace Go.Proofs.YtedobjegolpbjaaDoor
open Go.ChangeShapes Go.WideShapes Go.ChangeAt Go.RowKit Fl

theorem fmt_any (n : Int) (w : World) (h0 : -9223372036854775808 ≤ n) (h1 : n ≤ 9223372036854775807) (hP : PowTab w) :
    Calls Tryd.prog 49 #[.int .i64 n, .int .i64 10] w fun e w' => e = .returned (.string ⟨(Lib.itoa n).toArray⟩) ∧ Below w.heap.size w w' :=
  (Any.strconv_FormatInt_10 Tryd.laysM173 n h0 h1 w hP).mono fun _ _ ⟨he, k, os, hw⟩ => ⟨he, by rw [hw]; exact below_grow w k os⟩

set_option maxHeartbeats 1000000 in
theorem apart_any (m k : Nat) (w : World) (h : Sc m k) (hk : k ≤ 2045) (hm : 0 < m) :
    Calls Tryd.prog 48 #[.float .f64 (wd false m k)] w fun e w' => e = .returned (.tuple #[.int .i64 (oN m k), .int .i64 (oE m k)]) ∧ w' = w := by
  have hI : Ap m k (.float .f64 (wd false m k)) (.int .i64 0) m k 0 := ⟨h, hm, hk, rfl, rfl, rfl, by omega⟩
  go_enter Tryd.func48, Tryd.ntmps48
  go_wp2
  go_loop [0, 4] (fun x e => ∃ m1 k1 z, Ap m k x e m1 k1 z) (fun _ e => (3000 + intOf e).toNat)
  case atStart => exact ⟨m, k, 0, hI⟩
  case round =>
    obtain ⟨m1, k1, z, hA⟩ := hrel
    have hbd := hA.bd h hk hm
    have hask := ask52 hA.1 hA.2.2.1
    obtain ⟨rfl, rfl⟩ : _ ∧ _ := ⟨hA.2.2.2.1, hA.2.2.2.2.1⟩
    by_cases hlt : k1 < 1074
    · have hc : (ord (wd false m1 k1) 4841369599423283200 == some .lt) = true := by rw [hask]; simpa using hlt
      obtain ⟨r, hr, m2, k2, hA2⟩ := hA.dbl hlt
      have hrun := run_someN hr
      clear hask hr hI hA
      obtain ⟨b1, b2⟩ := hbd
      go_wp2
      refine ⟨⟨m2, k2, z - 1, hA2⟩, by simp [intOf]; omega⟩
    · have hc : (ord (wd false m1 k1) 4841369599423283200 == some .lt) = false := by rw [hask]; simpa using hlt
      clear hask hI
      have HA : Hid (Ap m k (.float .f64 (wd false m1 k1)) (.int .i64 z) m1 k1 z) := hA
      clear hA
      obtain ⟨b1, b2⟩ := hbd
      go_wp2
      go_loop [0, 4] (fun x e => ∃ m1 k1 z, Ap m k x e m1 k1 z ∧ 1074 ≤ k1) (fun _ e => (3000 - intOf e).toNat)
      case atStart => exact ⟨m1, k1, z, HA.out, by omega⟩
      case round =>
        clear HA b1 b2 hc hlt
        obtain ⟨m2, k2, y, hA, hge⟩ := hrel
        have hbd := hA.bd h hk hm
        have hask := ask53 hA.1 hA.2.2.1
        obtain ⟨rfl, rfl⟩ : _ ∧ _ := ⟨hA.2.2.2.1, hA.2.2.2.2.1⟩
        by_cases hlt : 1075 ≤ k2
        · have hc : (ord (wd false m2 k2) 4845873199050653696 == some .gt || ord (wd false m2 k2) 4845873199050653696 == some .eq) = true := by rw [hask]; simpa using hlt
          obtain ⟨k3, rfl⟩ : ∃ k3, k2 = k3 + 1 := ⟨k2 - 1, by omega⟩
          obtain ⟨hr, hA2⟩ := hA.hlv
          have hrun := run_someN hr
          clear hask hr hA
          obtain ⟨b1, b2⟩ := hbd
          go_wp2
          refine ⟨⟨m2, k3, y + 1, hA2, by omega⟩, by simp [intOf]; omega⟩
        · have hc : (ord (wd false m2 k2) 4845873199050653696 == some .gt || ord (wd false m2 k2) 4845873199050653696 == some .eq) = false := by rw [hask]; simpa using hlt
          have hk2 : k2 = 1074 := by omega
          have hcut := run_cutN (toInt_k hA.1 hk2) 2 Tryd.underlying2
          have HQ : Hid (Aq m k m2 y) := hA.done hk2
          clear hask hA hk2 hge hlt
          obtain ⟨b1, b2⟩ := hbd
          go_wp2
          go_loop [5, 4] (fun n e => ∃ (n1 : Nat) (z1 : Int), Aq m k n1 z1 ∧ n = .int .i64 (n1 : Int) ∧ e = .int .i64 z1) (fun n _ => (intOf n).toNat)
          case atStart => exact ⟨m2, y, HQ.out, rfl, rfl⟩
          case round =>
            clear HQ b1 b2 hc hcut
            obtain ⟨n1, z1, hQ, rfl, rfl⟩ := hrel
            obtain ⟨b1, b2⟩ := hQ.bd h hk hm
            have hn0 := hQ.1
            have hn1 := hQ.2.1
            by_cases hev : n1 % 2 = 0
            · have hQ2 : Hid (Aq m k (n1 / 2) (z1 + 1)) := hQ.step hev
              have hev' : ((n1 : Int) % 2 == 0) = true := by simp; omega
              clear hQ hev
              go_wp2
              exact ⟨⟨n1 / 2, z1 + 1, hQ2.out, by go_num, rfl⟩, by simp [intOf]; omega⟩
            · have hQ2 : Hid (n1 = oN m k ∧ z1 = oE m k) := hQ.out (by omega)
              have hev' : ((n1 : Int) % 2 == 0) = false := by simp; omega
              clear hQ hev
              go_wp2
              exact bodyPost_ret (v := .tuple #[.int .i64 (n1 : Int), .int .i64 z1]) (post_2 Tryd.results48 rfl rfl) rfl ⟨by rw [← hQ2.out.1, ← hQ2.out.2], rfl⟩

set_option maxHeartbeats 400000 in
theorem oddText_any (m k : Nat) (w : World) (h : Sc m k) (hk : k ≤ 2045) (hm : 0 < m) (hP : PowTab w) :
    Calls Tryd.prog 25 #[.float .f64 (wd false m k)] w fun e w' => e = .returned (.string ⟨(oT m k).toArray⟩) ∧ Below w.heap.size w w' := by
  have a := oN_lt h hm
  have b := oE_in h hk hm
  have c := Lib.itoa_length_le (oN m k : Int) (by omega) (by omega)
  have d := Lib.itoa_length_le (oE m k) (by omega) (by omega)
  go_enter Tryd.func25, Tryd.ntmps25
  go_wp2_with fail
  refine (apart_any m k _ h hk hm).mono ?_
  rintro e w1 ⟨rfl, rfl⟩
  go_wp2_with fail
  refine (fmt_any _ _ (by omega) (by omega) hP).mono ?_
  rintro e w2 ⟨rfl, hb⟩
  go_wp2_with fail
  refine (itoa_any _ _ (by omega) (by omega) (hP.to hb)).mono ?_
  rintro e w3 ⟨rfl, hb3⟩
  have HT : Hid (oT m k = Lib.itoa (oN m k) ++ [42, 50, 94] ++ Lib.itoa (oE m k)) := rfl
  generalize Lib.itoa (oN m k : Int) = A at *
  generalize Lib.itoa (oE m k) = B at *
  go_wp2
  go_ret
  exact ⟨ret_str (by rw [HT.out]; exact cat3 A B), hb.trans (hb3.mono hb.size)⟩
end Go.Proofs.YtedobjegolpbjaaDoor
