/- The text of a real number: the document's RealText; the walk of FnExactRealText. Helper text: no statement is claimed here. -/
import Derived.Test.YtedobjegolpbjaaDoorNh
namespace Go.Proofs.YtedobjegolpbjaaDoor
open Go.ChangeShapes Go.WideShapes Go.ChangeAt Go.RowKit Fl

theorem toInt_kN {m k : Nat} (h : Sc m k) (hk : k = 1074) (w : World) : (convert 26 3 (.float .f64 (wd false m k))).run Tryd.prog w = .ok (.int .i64 (m : Int)) w := run_cutN (toInt_k h hk) 3 Tryd.underlying3 w

set_option maxHeartbeats 1000000 in
theorem plain_any (m k : Nat) (w : World) (h : Sc m k) (hk : k ≤ 2045) (hm : 0 < m) :
    Calls Tryd.prog 57 #[.float .f64 (wd false m k)] w fun e w' => e = .returned (.string ⟨(oT m k).toArray⟩) ∧ Below w.heap.size w w' := by
  have hI : Ap m k (.float .f64 (wd false m k)) (.int .i64 0) m k 0 := ⟨h, hm, hk, rfl, rfl, rfl, by omega⟩
  have hhi := (asks_wd h hk false).hi
  go_enter Tryd.func57, Tryd.ntmps57
  go_wp2
  go_loop [0, 3] (fun x e => ∃ m1 k1 z, Ap m k x e m1 k1 z) (fun _ e => (3000 - intOf e).toNat)
  case atStart => exact ⟨m, k, 0, hI⟩
  case round =>
    clear hI hhi
    obtain ⟨m2, k2, y, hA⟩ := hrel
    have hbd := hA.bd h hk hm
    have hask := ask53 hA.1 hA.2.2.1
    obtain ⟨rfl, rfl⟩ : _ ∧ _ := ⟨hA.2.2.2.1, hA.2.2.2.2.1⟩
    by_cases hlt : 1075 ≤ k2
    · have hc : (ord (wd false m2 k2) 4845873199050653696 == some .gt || ord (wd false m2 k2) 4845873199050653696 == some .eq) = true := by rw [hask]; simpa using hlt
      obtain ⟨k3, rfl⟩ : ∃ k3, k2 = k3 + 1 := ⟨k2 - 1, by omega⟩
      obtain ⟨hr, hA2⟩ := hA.hlv
      have hrun := run_someN hr
      clear hask hr hA
      obtain ⟨b1, b2⟩ := hbd
      go_wp2
      refine ⟨⟨m2, k3, y + 1, hA2⟩, by simp [intOf]; omega⟩
    · have hc : (ord (wd false m2 k2) 4845873199050653696 == some .gt || ord (wd false m2 k2) 4845873199050653696 == some .eq) = false := by rw [hask]; simpa using hlt
      clear hask
      have HA : Hid (Ap m k (.float .f64 (wd false m2 k2)) (.int .i64 y) m2 k2 y) := hA
      clear hA
      obtain ⟨b1, b2⟩ := hbd
      go_wp2
      go_loop [0, 3] (fun x e => ∃ m1 k1 z, Ap m k x e m1 k1 z ∧ k1 ≤ 1074) (fun _ e => (3000 + intOf e).toNat)
      case atStart => exact ⟨m2, k2, y, HA.out, by omega⟩
      case round =>
        clear HA b1 b2 hc hlt
        obtain ⟨m1, k1, z, hA, hle⟩ := hrel
        have hbd := hA.bd h hk hm
        have hask := ask52 hA.1 hA.2.2.1
        obtain ⟨rfl, rfl⟩ : _ ∧ _ := ⟨hA.2.2.2.1, hA.2.2.2.2.1⟩
        by_cases hlt : k1 < 1074
        · have hc : (ord (wd false m1 k1) 4841369599423283200 == some .lt) = true := by rw [hask]; simpa using hlt
          obtain ⟨r, hr, m3, k3, hA2, hk3⟩ := hA.dbl2 hlt
          have hrun := run_someN hr
          clear hask hr hA
          obtain ⟨b1, b2⟩ := hbd
          go_wp2
          refine ⟨⟨m3, k3, z - 1, hA2, hk3⟩, by simp [intOf]; omega⟩
        · have hc : (ord (wd false m1 k1) 4841369599423283200 == some .lt) = false := by rw [hask]; simpa using hlt
          have hk2 : k1 = 1074 := by omega
          have hcut := toInt_kN hA.1 hk2
          have HQ : Hid (Aq m k m1 z) := hA.done hk2
          clear hask hA hk2 hle hlt
          obtain ⟨b1, b2⟩ := hbd
          go_wp2
          go_loop [4, 3] (fun n e => ∃ (n1 : Nat) (z1 : Int), Aq m k n1 z1 ∧ n = .int .i64 (n1 : Int) ∧ e = .int .i64 z1) (fun n _ => (intOf n).toNat)
          case atStart => exact ⟨m1, z, HQ.out, rfl, rfl⟩
          case round =>
            clear HQ b1 b2 hc hcut
            obtain ⟨n1, z1, hQ, rfl, rfl⟩ := hrel
            obtain ⟨b1, b2⟩ := hQ.bd h hk hm
            have hn0 := hQ.1
            have hn1 := hQ.2.1
            have hpos : (0 : Int) < (n1 : Int) := by omega
            by_cases hev : n1 % 2 = 0
            · have hQ2 : Hid (Aq m k (n1 / 2) (z1 + 1)) := hQ.step hev
              have hev' : ((n1 : Int) % 2 == 0) = true := by simp; omega
              clear hQ hev
              go_wp2
              exact ⟨⟨n1 / 2, z1 + 1, hQ2.out, by go_num, rfl⟩, by simp [intOf]; omega⟩
            · have hQ2 : n1 = oN m k ∧ z1 = oE m k := hQ.out (by omega)
              have hev' : ((n1 : Int) % 2 == 0) = false := by simp; omega
              have HT : Hid (oT m k = Lib.itoa n1 ++ [42, 50, 94] ++ Lib.itoa z1) := by
                show oT m k = _
                rw [hQ2.1, hQ2.2]; rfl
              have c := Lib.itoa_length_le (n1 : Int) (by omega) (by omega)
              have d := Lib.itoa_length_le z1 (by omega) (by omega)
              clear hQ hev hQ2
              go_wp2_with fail
              refine (dec_any _ _ (by omega) (by omega)).mono ?_
              rintro e w2 ⟨rfl, hb⟩
              go_wp2_with fail
              refine (dec_any _ _ (by omega) (by omega)).mono ?_
              rintro e w3 ⟨rfl, hb3⟩
              generalize Lib.itoa (n1 : Int) = A at *
              generalize Lib.itoa z1 = B at *
              go_wp2
              go_ret
              exact ⟨ret_str (by rw [HT.out]; exact cat3 A B), hb.trans (hb3.mono hb.size)⟩
end Go.Proofs.YtedobjegolpbjaaDoor
