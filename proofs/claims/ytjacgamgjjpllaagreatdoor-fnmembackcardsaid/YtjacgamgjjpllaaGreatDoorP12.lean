/- The document's l1Guess, walked. Helper text: no statement is claimed here. -/
import Derived.Test.YtjacgamgjjpllaaGreatDoorP11
import Derived.Test.YtjacgamgjjpllaaGreatDoorP09
import Derived.Test.YtjacgamgjjpllaaGreatDoorP06
namespace Go.Proofs.YtjacgamgjjpllaaGreatDoor
open Go.ChangeShapes Go.WideShapes Go.ChangeAt Go.RowKit

theorem ext_all (s : ByteArray) (k : Nat) : (s.extract k s.size).data.toList = s.data.toList.drop k := by
  rw [ByteArray.data_extract]
  simp
  exact List.take_of_length_le (by simp)
theorem ext_to (s : ByteArray) (k : Nat) : (s.extract 0 k).data.toList = s.data.toList.take k := by
  rw [ByteArray.data_extract]
  simp

theorem dot_parts {x : ByteArray} {l1 l2 : List UInt8} (hx : x.data.toList = l1 ++ 46 :: l2) : List.take l1.length x.data.toList ++ List.take (x.size - (l1.length + 1)) (List.drop (l1.length + 1) x.data.toList) = l1 ++ l2 := by
  rw [size_list, hx]
  have e : List.drop (l1.length + 1) (l1 ++ 46 :: l2) = l2 := by simp [List.drop_append]
  rw [e]
  simp
  exact List.take_of_length_le (by omega)
theorem wrap_dig (l : List UInt8) : IntKind.i64.wrap (digN l) = digN l ∧ IntKind.i64.wrap (-digN l) = -digN l := by
  have := digN_bd l
  rw [IntKind.wrap_i64, IntKind.wrap_i64]; omega
theorem gs_dot {t : List UInt8} {x : ByteArray} {l1 l2 : List UInt8} (hn : NoName t) (ho : Off t x.data.toList 1) (hx : x.data.toList = l1 ++ 46 :: l2) (h46 : (46 : UInt8) ∉ l1) :
    Gs t 12 (IntKind.i64.wrap (digN (List.take l1.length x.data.toList ++ List.take (x.size - (l1.length + 1)) (List.drop (l1.length + 1) x.data.toList)))) ((x.size : Int) - (l1.length : Int) - 1) := by
  have g := gs_dec hn ho hx h46 digN_yes
  rw [dot_parts hx, (wrap_dig _).1, show (x.size : Int) - (l1.length : Int) - 1 = (l2.length : Int) by rw [size_list, hx]; simp; omega]
  simpa using g
theorem gs_dotm {t : List UInt8} {x : ByteArray} {l1 l2 : List UInt8} (hn : NoName t) (ho : Off t x.data.toList (-1)) (hx : x.data.toList = l1 ++ 46 :: l2) (h46 : (46 : UInt8) ∉ l1) :
    Gs t 12 (IntKind.i64.wrap (-digN (List.take l1.length x.data.toList ++ List.take (x.size - (l1.length + 1)) (List.drop (l1.length + 1) x.data.toList)))) ((x.size : Int) - (l1.length : Int) - 1) := by
  have g := gs_dec hn ho hx h46 digN_yes
  rw [dot_parts hx, (wrap_dig _).2, show (x.size : Int) - (l1.length : Int) - 1 = (l2.length : Int) by rw [size_list, hx]; simp; omega]
  simpa using g

set_option maxHeartbeats 4000000 in
theorem sguess_any (s : ByteArray) (w : World) (hs : s.size ≤ 2000000) :
    Calls Tryz.prog 101 #[.string s] w (Guessed s.data.toList w) := by
  go_enter Tryz.func101, Tryz.ntmps101
  go_wp2
  go_loopw [3] (fun i w' => ∃ m : Nat, m ≤ 4 ∧ i = .int .i64 m ∧ (∀ j, j < m → s.data.toList ≠ wordL j) ∧ Own w' w.heap.size (.int .i64 0) (.int .i64 0) (.int .i64 0) ∧ Below w.heap.size w w') (fun i _ => 4 - (intOf i).toNat)
  case atStart => exact ⟨0, by omega, rfl, by intro j hj; omega, Own.new w _ _ _, one _ _⟩
  case round =>
    obtain ⟨m, hm, rfl, hn, hO, hB⟩ := hrel
    rename_i wr
    have HN : Hid (∀ j, j < m → s.data.toList ≠ wordL j) := hn
    clear hn
    by_cases hlt : m < 4
    · have hw := words_at wr m hlt
      have hO2 := hO.alloc wordsO
      by_cases hE : s.toList = wordL m
      · have HE : Hid (s.data.toList = wordL m) := by rw [← ByteArray.toList_eq]; exact hE
        have hE' : (s.toList == wordL m) = true := by simp [hE]
        clear hE
        obtain ⟨⟨o0, o1, o2⟩, z0, z1, z2⟩ := hO2
        go_wp2_with fail
        refine (words_anyD _).mono ?_
        rintro e w1 ⟨rfl, rfl⟩
        go_wp2
        exact bodyPost_ret (v := .agg #[.int .i64 13, .int .i64 m, .int .i64 0]) (resArg Tryz.results101 rfl (put3 ⟨o0, o1, o2⟩)) rfl ⟨13, m, 0, rfl, gs_word hlt HE.out, (((hB.alloc hB.size _).setCell (Nat.le_refl _) _).setCell (Nat.le_refl _) _).setCell (Nat.le_refl _) _⟩
      · have hE' : (s.toList == wordL m) = false := by simp [hE]
        have HE : Hid (s.data.toList ≠ wordL m) := by rw [← ByteArray.toList_eq]; exact hE
        clear hE
        go_wp2_with fail
        refine (words_anyD _).mono ?_
        rintro e w1 ⟨rfl, rfl⟩
        go_wp2
        go_roundw
        case rel =>
          refine ⟨m + 1, by omega, by go_num, ?_, hO.alloc _, hB.alloc hB.size _⟩
          intro j hj
          by_cases e : j = m
          · subst e; exact HE.out
          · exact HN.out j (by omega)
        case measure => simp [intOf]; omega
    · obtain rfl : m = 4 := by omega
      go_wp2
      go_loopw [4] (fun i w' => ∃ m : Nat, 1 ≤ m ∧ m ≤ 11 ∧ i = .int .i64 m ∧ (∀ j, 1 ≤ j → j < m → ∀ c r, s.data.toList = c :: r → rL j ≠ [c]) ∧ Own w' w.heap.size (.int .i64 0) (.int .i64 0) (.int .i64 0) ∧ Below w.heap.size w w') (fun i _ => 11 - (intOf i).toNat)
      case atStart => exact ⟨1, by omega, by omega, rfl, by intro j h1 h2; omega, hO, hB⟩
      case round =>
        obtain ⟨m, hm1, hm2, rfl, hnl, hO, hB⟩ := hrel
        have HL : Hid (∀ j, 1 ≤ j → j < m → ∀ c r, s.data.toList = c :: r → rL j ≠ [c]) := hnl
        clear hnl
        by_cases hlt : m < 11
        · by_cases hE : s.toList = []
          · have hE' : (s.toList == []) = true := by simp [hE]
            have HE : Hid (s.data.toList = []) := by rw [← ByteArray.toList_eq]; exact hE
            clear hE
            go_wp2
            go_quiet (fail)
            go_wp2
            go_roundw
            case rel =>
              refine ⟨m + 1, by omega, by omega, by go_num, ?_, hO.below (below_drewN (Below.refl _ _) _), below_drewN hB _⟩
              intro j _ _ c r e
              exact absurd (HE.out.symm.trans e) (by simp)
            case measure => simp [intOf]; omega
          · have hE' : (s.toList == []) = false := by simp [hE]
            have HE : Hid (s.data.toList ≠ []) := by rw [← ByteArray.toList_eq]; exact hE
            clear hE
            have hz : 1 ≤ s.size := by
              have := HE.out
              rw [size_list]; exact List.length_pos_iff.2 this
            have hz' : (1 : Int) ≤ s.size := by omega
            obtain ⟨c, r, hcr⟩ : ∃ c r, s.data.toList = c :: r := by
              cases h : s.data.toList with
              | nil => exact absurd h HE.out
              | cons c r => exact ⟨c, r, rfl⟩
            have hx1 : (s.extract 0 1).toList = [c] := by rw [ByteArray.toList_eq, ext_to, hcr]; rfl
            have HX : Hid ((s.extract 0 1).toList = [c]) := hx1
            have hx2 : (s.extract 1 s.size).data.toList = r := by rw [ext_all, hcr]; rfl
            have HY : Hid ((s.extract 1 s.size).data.toList = r) := hx2
            have HC : Hid (s.data.toList = c :: r) := hcr
            clear hx1 hx2 hcr
            by_cases hF : (s.extract 0 1).toList = rL (kz m)
            · have hF' : ((s.extract 0 1).toList == rL (kz m)) = true := by simp [hF]
              have HF : Hid (rL m = [c]) := by
                show rL m = [c]
                rw [← HX.out, hF, kz_nat m (by omega) (by omega)]
              clear hF
              have hO' := hO
              obtain ⟨⟨o0, o1, o2⟩, z0, z1, z2⟩ := hO'
              have hbd := digN_bd r
              go_wp2
              go_quiet ((go_at_call 100; exact Calls.quiet_of_same (sletter_any _ _)))
              go_wp2_with fail
              refine (digs_any _ _ (by simp; omega)).mono ?_
              rintro e w1 ⟨rfl, rfl⟩
              rw [HY.out]
              go_wp2
              exact bodyPost_ret (v := .agg #[.int .i64 m, .int .i64 (digN r), .int .i64 0]) (resArg Tryz.results101 rfl (put3 ⟨o0, o1, o2⟩)) rfl ⟨m, digN r, 0, rfl, gs_letter HC.out (by omega) (by omega) HF.out digN_yes, below_drewN (((hB.setCell (Nat.le_refl _) _).setCell (Nat.le_refl _) _).setCell (Nat.le_refl _) _) _⟩
            · have hF' : ((s.extract 0 1).toList == rL (kz m)) = false := by simp [hF]
              have HF : Hid (rL m ≠ [c]) := by
                show rL m ≠ [c]
                intro e
                exact hF (by rw [HX.out, kz_nat m (by omega) (by omega), e])
              clear hF
              go_wp2
              go_quiet ((go_at_call 100; exact Calls.quiet_of_same (sletter_any _ _)))
              go_wp2
              go_roundw
              case rel =>
                refine ⟨m + 1, by omega, by omega, by go_num, ?_, hO.below (below_drewN (Below.refl _ _) _), below_drewN hB _⟩
                intro j hj1 hj2 c' r' e
                by_cases ej : j = m
                · subst ej
                  have e2 := HC.out.symm.trans e
                  simp only [List.cons.injEq] at e2
                  rw [← e2.1]; exact HF.out
                · exact HL.out j hj1 (by omega) c' r' e
              case measure => simp [intOf]; omega
        · obtain rfl : m = 11 := by omega
          have hNN : Hid (NoName s.data.toList) := ⟨HN.out, fun m h1 h2 => HL.out m h1 (by omega)⟩
          have hO' := hO
          obtain ⟨⟨o0, o1, o2⟩, z0, z1, z2⟩ := hO'
          by_cases hE : s.toList = []
          · have hE' : (s.toList == []) = true := by simp [hE]
            have HE : Hid (s.data.toList = []) := by rw [← ByteArray.toList_eq]; exact hE
            clear hE
            have hoff : Hid (Off s.data.toList s.data.toList 1) := .inl ⟨rfl, rfl, fun r e => by rw [HE.out] at e; simp at e⟩
            go_wp2_with fail
            refine (find_any s _ hs).mono ?_
            rintro e w1 ⟨v, rfl, rfl, hv⟩
            rcases hv with ⟨rfl, h46⟩ | ⟨l1, l2, hx, h46, rfl⟩
            · have H46 : Hid ((46 : UInt8) ∉ s.data.toList) := h46
              clear h46
              generalize hdl : digN s.data.toList = dv at *
              have hbd := digN_bd s.data.toList
              rw [hdl] at hbd
              have HDL : Hid (digN s.data.toList = dv) := hdl
              clear hdl
              obtain ⟨hbd0, hbd1⟩ := hbd
              go_wp2_with fail
              refine (digs_any s _ hs).mono ?_
              rintro e w2 ⟨rfl, rfl⟩
              rw [HDL.out]
              go_wp2
              exact bodyPost_ret (v := .agg #[.int .i64 11, .int .i64 (dv), .int .i64 0]) (resArg Tryz.results101 rfl (put3 ⟨o0, o1, o2⟩)) rfl ⟨11, _, 0, rfl, by have g := gs_int hNN.out hoff.out H46.out digN_yes; rw [HDL.out] at g; simpa using g, ((hB.setCell (Nat.le_refl _) _).setCell (Nat.le_refl _) _).setCell (Nat.le_refl _) _⟩
            · have HX : Hid (s.data.toList = l1 ++ 46 :: l2) := hx
              have H46 : Hid ((46 : UInt8) ∉ l1) := h46
              have hsz : s.size = l1.length + 1 + l2.length := by rw [size_list, hx]; simp; omega
              have HSZ : Hid (s.size = l1.length + 1 + l2.length) := hsz
              clear hx h46 hsz
              have hi1 : (l1.length : Int) ≤ (s.size : Int) := by rw [HSZ.out]; omega
              have hi2 : (l1.length : Int) + 1 ≤ (s.size : Int) := by rw [HSZ.out]; omega
              have hj1 : l1.length ≤ s.size := by omega
              have hj2 : l1.length + 1 ≤ s.size := by omega
              have hw1 : IntKind.i64.wrap ((l1.length : Int) + 1) = (l1.length : Int) + 1 := by rw [IntKind.wrap_i64]; omega
              have hw2 : IntKind.i64.wrap ((s.size : Int) - (l1.length : Int)) = (s.size : Int) - (l1.length : Int) := by rw [IntKind.wrap_i64]; omega
              have hw3 : IntKind.i64.wrap ((s.size : Int) - (l1.length : Int) - 1) = (s.size : Int) - (l1.length : Int) - 1 := by rw [IntKind.wrap_i64]; omega
              go_wp2
              go_region_with (go_at_call 133; refine (digs_any _ _ (by simp; omega)).mono ?_; rintro e w2 ⟨rfl, rfl⟩)
              all_goals go_wp2
              all_goals exact bodyPost_ret (v := .agg #[.int .i64 12, .int .i64 _, .int .i64 _]) (resArg Tryz.results101 rfl (put3 ⟨o0, o1, o2⟩)) rfl ⟨12, _, _, rfl, gs_dot hNN.out hoff.out HX.out H46.out, (((hB.setCell (Nat.le_refl _) _).setCell (Nat.le_refl _) _).setCell (Nat.le_refl _) _).drew⟩
          · have hE' : (s.toList == []) = false := by simp [hE]
            have HE : Hid (s.data.toList ≠ []) := by rw [← ByteArray.toList_eq]; exact hE
            clear hE
            have hz : 0 < s.size := by
              have := HE.out
              rw [size_list]; exact List.length_pos_iff.2 this
            have h0 := split_at s 0 hz
            simp only [List.take_zero, List.nil_append] at h0
            by_cases h45 : s[0] = 45
            · have h45' : ((s[0].toNat : Int) == 45) = true := by rw [h45]; rfl
              have hoff : Hid (Off s.data.toList (s.extract 1 s.size).data.toList (-1)) := .inr ⟨rfl, by rw [ext_all, ← h45]; exact h0⟩
              clear h0 h45
              go_wp2_with fail
              generalize hxg : s.extract 1 s.size = x at *
              have hxs : x.size ≤ 2000000 := by rw [← hxg]; simp; omega
              clear hxg
              refine (find_any x _ hxs).mono ?_
              rintro e w1 ⟨v, rfl, rfl, hv⟩
              rcases hv with ⟨rfl, h46⟩ | ⟨l1, l2, hx, h46, rfl⟩
              · have H46 : Hid ((46 : UInt8) ∉ x.data.toList) := h46
                clear h46
                generalize hdl : digN x.data.toList = dv at *
                have hbd := digN_bd x.data.toList
                rw [hdl] at hbd
                have HDL : Hid (digN x.data.toList = dv) := hdl
                clear hdl
                obtain ⟨hbd0, hbd1⟩ := hbd
                go_wp2_with fail
                refine (digs_any x _ hxs).mono ?_
                rintro e w2 ⟨rfl, rfl⟩
                rw [HDL.out]
                go_wp2
                exact bodyPost_ret (v := .agg #[.int .i64 11, .int .i64 (-dv), .int .i64 0]) (resArg Tryz.results101 rfl (put3 ⟨o0, o1, o2⟩)) rfl ⟨11, _, 0, rfl, by have g := gs_int hNN.out hoff.out H46.out digN_yes; rw [HDL.out] at g; simpa using g, ((hB.setCell (Nat.le_refl _) _).setCell (Nat.le_refl _) _).setCell (Nat.le_refl _) _⟩
              · have HX : Hid (x.data.toList = l1 ++ 46 :: l2) := hx
                have H46 : Hid ((46 : UInt8) ∉ l1) := h46
                have hsz : x.size = l1.length + 1 + l2.length := by rw [size_list, hx]; simp; omega
                have HSZ : Hid (x.size = l1.length + 1 + l2.length) := hsz
                clear hx h46 hsz
                have hi1 : (l1.length : Int) ≤ (x.size : Int) := by rw [HSZ.out]; omega
                have hi2 : (l1.length : Int) + 1 ≤ (x.size : Int) := by rw [HSZ.out]; omega
                have hj1 : l1.length ≤ x.size := by omega
                have hj2 : l1.length + 1 ≤ x.size := by omega
                have hw1 : IntKind.i64.wrap ((l1.length : Int) + 1) = (l1.length : Int) + 1 := by rw [IntKind.wrap_i64]; omega
                have hw2 : IntKind.i64.wrap ((x.size : Int) - (l1.length : Int)) = (x.size : Int) - (l1.length : Int) := by rw [IntKind.wrap_i64]; omega
                have hw3 : IntKind.i64.wrap ((x.size : Int) - (l1.length : Int) - 1) = (x.size : Int) - (l1.length : Int) - 1 := by rw [IntKind.wrap_i64]; omega
                go_wp2
                go_region_with (go_at_call 133; refine (digs_any _ _ (by simp; omega)).mono ?_; rintro e w2 ⟨rfl, rfl⟩)
                all_goals go_wp2
                all_goals exact bodyPost_ret (v := .agg #[.int .i64 12, .int .i64 _, .int .i64 _]) (resArg Tryz.results101 rfl (put3 ⟨o0, o1, o2⟩)) rfl ⟨12, _, _, rfl, gs_dotm hNN.out hoff.out HX.out H46.out, (((hB.setCell (Nat.le_refl _) _).setCell (Nat.le_refl _) _).setCell (Nat.le_refl _) _).drew⟩
            · have h45' : ((s[0].toNat : Int) == 45) = false := by
                rw [beq_eq_false_iff_ne]; intro e
                apply h45
                apply UInt8.toNat.inj
                have : s[0].toNat = 45 := by omega
                rw [this]; rfl
              have hoff : Hid (Off s.data.toList s.data.toList 1) := .inl ⟨rfl, rfl, fun r e => by
                rw [h0] at e
                simp only [List.cons.injEq] at e
                exact h45 e.1⟩
              clear h0 h45
              go_wp2_with fail
              refine (find_any s _ hs).mono ?_
              rintro e w1 ⟨v, rfl, rfl, hv⟩
              rcases hv with ⟨rfl, h46⟩ | ⟨l1, l2, hx, h46, rfl⟩
              · have H46 : Hid ((46 : UInt8) ∉ s.data.toList) := h46
                clear h46
                generalize hdl : digN s.data.toList = dv at *
                have hbd := digN_bd s.data.toList
                rw [hdl] at hbd
                have HDL : Hid (digN s.data.toList = dv) := hdl
                clear hdl
                obtain ⟨hbd0, hbd1⟩ := hbd
                go_wp2_with fail
                refine (digs_any s _ hs).mono ?_
                rintro e w2 ⟨rfl, rfl⟩
                rw [HDL.out]
                go_wp2
                exact bodyPost_ret (v := .agg #[.int .i64 11, .int .i64 (dv), .int .i64 0]) (resArg Tryz.results101 rfl (put3 ⟨o0, o1, o2⟩)) rfl ⟨11, _, 0, rfl, by have g := gs_int hNN.out hoff.out H46.out digN_yes; rw [HDL.out] at g; simpa using g, ((hB.setCell (Nat.le_refl _) _).setCell (Nat.le_refl _) _).setCell (Nat.le_refl _) _⟩
              · have HX : Hid (s.data.toList = l1 ++ 46 :: l2) := hx
                have H46 : Hid ((46 : UInt8) ∉ l1) := h46
                have hsz : s.size = l1.length + 1 + l2.length := by rw [size_list, hx]; simp; omega
                have HSZ : Hid (s.size = l1.length + 1 + l2.length) := hsz
                clear hx h46 hsz
                have hi1 : (l1.length : Int) ≤ (s.size : Int) := by rw [HSZ.out]; omega
                have hi2 : (l1.length : Int) + 1 ≤ (s.size : Int) := by rw [HSZ.out]; omega
                have hj1 : l1.length ≤ s.size := by omega
                have hj2 : l1.length + 1 ≤ s.size := by omega
                have hw1 : IntKind.i64.wrap ((l1.length : Int) + 1) = (l1.length : Int) + 1 := by rw [IntKind.wrap_i64]; omega
                have hw2 : IntKind.i64.wrap ((s.size : Int) - (l1.length : Int)) = (s.size : Int) - (l1.length : Int) := by rw [IntKind.wrap_i64]; omega
                have hw3 : IntKind.i64.wrap ((s.size : Int) - (l1.length : Int) - 1) = (s.size : Int) - (l1.length : Int) - 1 := by rw [IntKind.wrap_i64]; omega
                go_wp2
                go_region_with (go_at_call 133; refine (digs_any _ _ (by simp; omega)).mono ?_; rintro e w2 ⟨rfl, rfl⟩)
                all_goals go_wp2
                all_goals exact bodyPost_ret (v := .agg #[.int .i64 12, .int .i64 _, .int .i64 _]) (resArg Tryz.results101 rfl (put3 ⟨o0, o1, o2⟩)) rfl ⟨12, _, _, rfl, gs_dot hNN.out hoff.out HX.out H46.out, (((hB.setCell (Nat.le_refl _) _).setCell (Nat.le_refl _) _).setCell (Nat.le_refl _) _).drew⟩
end Go.Proofs.YtjacgamgjjpllaaGreatDoor

/- The document's DevRead. Helper text: no statement is claimed here. -/
namespace Go.Proofs.YtjacgamgjjpllaaGreatDoor
open Go.ChangeShapes Go.WideShapes Go.ChangeAt Go.RowKit

theorem resArg2 {fn : Func} {W : World} {b p u : Nat} {tmps : Array Value} {x y z v : Value} (h : fn.results = #[.cell p 71, .tmp u]) (hp : tmps.getD p undef = .pointer (some ⟨b, 0, none⟩)) (hu : tmps.getD u undef = v)
    (hc : W.cell? ⟨b, 0, none⟩ = some x ∧ W.cell? ⟨b, 1, none⟩ = some y ∧ W.cell? ⟨b, 2, none⟩ = some z) : (results fn tmps).run Tryz.prog W = .ok (.tuple #[.agg #[x, y, z], v]) W := by
  obtain ⟨h0, h1, h2⟩ := hc
  rw [results_cell_tmp h, hp, hu]
  simp [go_sem, h0, h1, h2]

/-- What a reading of the text t is. -/
def RdOk (t : List UInt8) (k n p : Int) (b : Bool) : Prop :=
  (b = true ∧ okB k n p = true ∧ txt k n p = t ∧ ∀ K N P, okB K N P = true → txt K N P = t → k = K ∧ n = N ∧ p = P) ∨
  (b = false ∧ k = 0 ∧ n = 0 ∧ p = 0 ∧ ∀ K N P, okB K N P = true → txt K N P ≠ t)
theorem RdOk.one {t : List UInt8} {k n p k' n' p' : Int} {b b' : Bool} (h : RdOk t k n p b) (h' : RdOk t k' n' p' b') : k = k' ∧ n = n' ∧ p = p' ∧ b = b' := by
  rcases h with ⟨rfl, h1, h2, h3⟩ | ⟨rfl, rfl, rfl, rfl, h4⟩ <;> rcases h' with ⟨rfl, g1, g2, g3⟩ | ⟨rfl, rfl, rfl, rfl, g4⟩
  · obtain ⟨a, b, c⟩ := h3 _ _ _ g1 g2
    exact ⟨a, b, c, rfl⟩
  · exact absurd h2 (g4 _ _ _ h1)
  · exact absurd g2 (h4 _ _ _ g1)
  · exact ⟨rfl, rfl, rfl, rfl⟩
def Read (t : List UInt8) (w : World) (e : Ending) (w' : World) : Prop := ∃ (k n p : Int) (b : Bool), e = .returned (.tuple #[.agg #[.int .i64 k, .int .i64 n, .int .i64 p], .bool b]) ∧ RdOk t k n p b ∧ Below w.heap.size w w'

theorem txt_ne {K N P : Int} (h : okB K N P = true) : txt K N P ≠ [] := by
  rcases shape_of h with ⟨-, -, i, hi, -, e⟩ | ⟨-, k, u, k1, k2, -, -, -, e⟩ | hS | hS
  · rw [e]
    have a : i = 0 ∨ i = 1 ∨ i = 2 ∨ i = 3 := by omega
    rcases a with rfl | rfl | rfl | rfl <;> simp [wordL]
  · obtain ⟨c, e2, -, -⟩ := rL_oneT k1 k2
    rw [e, e2]; simp
  · obtain ⟨c, r, e, -⟩ := num_head (.inl hS)
    rw [e]; simp
  · obtain ⟨c, r, e, -⟩ := num_head (.inr hS)
    rw [e]; simp
theorem txt_no {K N P : Int} (h : okB K N P = false) : txt K N P = [] := by simp [txt, h]
theorem read_yes {t : List UInt8} {k n p : Int} (hg : Gs t k n p) (ht : t ≠ []) (h : txt k n p = t) : RdOk t k n p true := by
  refine .inl ⟨rfl, ?_, h, fun K N P hk e => hg K N P (by rw [← e]; exact shape_of hk)⟩
  cases hk : okB k n p
  · rw [txt_no hk] at h; exact absurd h.symm ht
  · rfl
theorem read_no {t : List UInt8} {k n p : Int} (hg : Gs t k n p) (h : txt k n p ≠ t) : RdOk t 0 0 0 false := by
  refine .inr ⟨rfl, rfl, rfl, rfl, fun K N P hk e => ?_⟩
  obtain ⟨rfl, rfl, rfl⟩ := hg K N P (by rw [← e]; exact shape_of hk)
  exact h e
theorem read_empty : RdOk [] 0 0 0 false := .inr ⟨rfl, rfl, rfl, rfl, fun _ _ _ hk e => txt_ne hk e⟩

set_option maxHeartbeats 1000000 in
theorem sread_any (s : ByteArray) (w : World) (hs : s.size ≤ 2000000) :
    Calls Tryz.prog 60 #[.string s] w (Read s.data.toList w) := by
  go_enter Tryz.func60, Tryz.ntmps60
  go_wp2_with fail
  refine (sguess_any s _ hs).mono ?_
  rintro e w1 ⟨k, n, p, rfl, hg, hb⟩
  have HG : Hid (Gs s.data.toList k n p) := hg
  clear hg
  have ob := ((Own.new w (.int .i64 0) (.int .i64 0) (.int .i64 0)).below hb)
  have sw := of_one hb
  have hlt := ob.lt
  by_cases hE : s.toList = []
  · have hE' : (s.toList == []) = true := by simp [hE]
    have HE : Hid (s.data.toList = []) := by rw [← ByteArray.toList_eq]; exact hE
    clear hE
    have ob' := ob
    obtain ⟨⟨r0, r1, r2⟩, y0, y1, y2⟩ := ob'
    go_wp2
    refine bodyPost_ret (v := .tuple #[.agg #[.int .i64 0, .int .i64 0, .int .i64 0], .bool false]) (resArg2 Tryz.results60 rfl rfl ((ob.put _ _ _).alloc _).1) rfl ⟨0, 0, 0, false, rfl, by rw [HE.out]; exact read_empty, ?_⟩
    exact ((((sw.setCell (Nat.le_refl _) _).setCell (Nat.le_refl _) _).setCell (Nat.le_refl _) _)).alloc (by simpa [World.setCell] using sw.size) _
  · have hE' : (s.toList == []) = false := by simp [hE]
    have HE : Hid (s.data.toList ≠ []) := by rw [← ByteArray.toList_eq]; exact hE
    clear hE
    have on := Own.new w1 (.int .i64 k) (.int .i64 n) (.int .i64 p)
    go_wp2_with fail
    refine (stext_any _ _ _ _).mono ?_
    rintro e w2 ⟨rfl, hb2⟩
    have on2 := on.below hb2
    have ob2 := (ob.alloc _).below hb2
    have sw2 : Below w.heap.size w w2 := (sw.alloc sw.size _).trans (hb2.mono (by have := sw.size; simp; omega))
    obtain ⟨⟨r0, r1, r2⟩, y0, y1, y2⟩ := ob2
    obtain ⟨⟨o0, o1, o2⟩, z0, z1, z2⟩ := on2
    by_cases hT : txt k n p = s.toList
    · have hT' : (txt k n p == s.toList) = true := by simp [hT]
      have HT : Hid (txt k n p = s.data.toList) := by rw [← ByteArray.toList_eq]; exact hT
      clear hT
      go_wp2
      exact bodyPost_ret (v := .tuple #[.agg #[.int .i64 k, .int .i64 n, .int .i64 p], .bool true]) (resArg2 Tryz.results60 rfl rfl (put3 ⟨r0, r1, r2⟩)) rfl ⟨k, n, p, true, rfl, read_yes HG.out HE.out HT.out, ((sw2.setCell (Nat.le_refl _) _).setCell (Nat.le_refl _) _).setCell (Nat.le_refl _) _⟩
    · have hT' : (txt k n p == s.toList) = false := by simp [hT]
      have HT : Hid (txt k n p ≠ s.data.toList) := by rw [← ByteArray.toList_eq]; exact hT
      clear hT
      go_wp2
      exact bodyPost_ret (v := .tuple #[.agg #[.int .i64 0, .int .i64 0, .int .i64 0], .bool false]) (resArg2 Tryz.results60 rfl rfl (put3 ⟨r0, r1, r2⟩)) rfl ⟨0, 0, 0, false, rfl, read_no HG.out HT.out, ((sw2.setCell (Nat.le_refl _) _).setCell (Nat.le_refl _) _).setCell (Nat.le_refl _) _⟩
end Go.Proofs.YtjacgamgjjpllaaGreatDoor

/- The document's words of a text: l9Words. Helper text: no statement is claimed here. -/
namespace Go.Proofs.YtjacgamgjjpllaaGreatDoor
open Go.ChangeShapes Go.WideShapes Go.ChangeAt Go.RowKit Fl

/-- The words of a text: the pieces between blanks that are not empty. -/
def keepW (ps : List (List UInt8)) : List (List UInt8) := ps.filter fun t => !t.isEmpty
theorem keepW_next {ps : List (List UInt8)} {j : Nat} {t : List UInt8} (h : ps[j]? = some t) : keepW (ps.take (j + 1)) = keepW (ps.take j) ++ (if t = [] then [] else [t]) := by
  rw [List.take_add_one, h]
  unfold keepW
  rw [List.filter_append]
  cases t <;> simp
theorem keepW_len (ps : List (List UInt8)) : (keepW ps).length ≤ ps.length := List.length_filter_le _ _
theorem srow_new (w : World) : SRow (w.alloc (.cells #[] 9)) w.heap.size (.slice (some ⟨w.heap.size, 0, none⟩) 0 0) [] :=
  ⟨rfl, .inr ⟨w.heap.size, 0, #[], rfl, Nat.le_refl _, heap_alloc_last _ _, Nat.le_refl _, by unfold maxLen; omega, rfl, rfl⟩⟩
set_option maxHeartbeats 1000000 in
theorem l9words_any (s : ByteArray) (w : World) (hs : s.size ≤ 6000) :
    Calls Tryz.prog 24 #[.string s] w fun e w' => ∃ v, e = .returned v ∧ Hid (SRow w' w.heap.size v (keepW (cutL 32 s.data.toList))) ∧ Below w.heap.size w w' := by
  have HC : Hid (∀ W, Calls Tryz.prog 57 #[.string s, .int .u8 32] W fun e w' => ∃ g cap, e = .returned (.slice (some ⟨g, 0, none⟩) (cutL 32 s.data.toList).length cap) ∧
      w'.ownsRow W.heap.size 9 1 (.slice (some ⟨g, 0, none⟩) (cutL 32 s.data.toList).length cap) (cutL 32 s.data.toList).length ((cutL 32 s.data.toList).map strV) ∧ Below W.heap.size W w') := fun W => cutw_any s 32 W (by omega)
  have hpl : (cutL 32 s.data.toList).length ≤ 6001 := by
    have := cutL_len 32 s.data.toList
    have hl : s.data.toList.length = s.size := by simp
    omega
  generalize cutL 32 s.data.toList = ps at *
  go_enter Tryz.func24, Tryz.ntmps24
  go_wp2_with fail
  refine (HC.out w).mono ?_
  rintro e w1 ⟨g, cap, rfl, hown, hb1⟩
  have HR : Hid (SRow w1 w.heap.size (.slice (some ⟨g, 0, none⟩) ps.length cap) ps) := hown
  have HB1 : Hid (Below w.heap.size w w1) := hb1
  clear hown hb1 HC
  have hgl : g < w1.heap.size ∧ ps.length ≤ cap := by
    rcases HR.out.form with ⟨h, -⟩ | ⟨g', cap', h, -, h2, h3, -⟩
    · cases h
    · cases h
      exact ⟨h2, h3⟩
  obtain ⟨hgl1, hgl2⟩ := hgl
  have HCe : Hid (∀ j l, ps[j]? = some l → w1.cell? ⟨g, j, none⟩ = some (.string ⟨l.toArray⟩)) := by
    rcases HR.out.form with ⟨h, -⟩ | ⟨g', cap', h, -, -, -, -, h4⟩
    · cases h
    · cases h
      exact h4
  go_wp2
  have HS0 : Hid (SRow (w1.alloc (.cells #[] 9)) w1.heap.size (.slice (some ⟨w1.heap.size, 0, none⟩) 0 0) (keepW (ps.take 0))) := srow_new w1
  have HV1 : Hid (Below w1.heap.size w1 (w1.alloc (.cells #[] 9))) := (Below.refl _ _).alloc (Nat.le_refl _) _
  generalize w1.alloc (.cells #[] 9) = V at *
  go_loopw [4, 5] (fun c d w' => ∃ j : Nat, j ≤ ps.length ∧ d = .int .i64 (j : Int) ∧ Hid (SRow w' w1.heap.size c (keepW (ps.take j))) ∧ Hid (Below w1.heap.size w1 w')) (fun _ d _ => ps.length - (intOf d).toNat)
  case atStart => exact ⟨0, by omega, rfl, HS0, HV1⟩
  case round =>
    obtain ⟨j, hj, rfl, HS, HB⟩ := hrel
    rename_i wr
    by_cases hlt : j < ps.length
    · have hlt' : (j : Int) < (ps.length : Int) := by omega
      obtain ⟨t, ht⟩ : ∃ t, ps[j]? = some t := ⟨ps[j], List.getElem?_eq_getElem hlt⟩
      have c0 : wr.cell? ⟨g, j, none⟩ = some (.string ⟨t.toArray⟩) := (HB.out.cell (p := ⟨g, j, none⟩) hgl1).trans (HCe.out j t ht)
      have hnx := keepW_next ht
      have hkl := keepW_len (ps.take j)
      rw [List.length_take] at hkl
      cases t with
      | nil =>
        have HN : Hid (SRow wr w1.heap.size u4 (keepW (ps.take (j + 1)))) := by
          rw [hnx, if_pos rfl, List.append_nil]; exact HS.out
        clear hnx HS
        go_wp2
        exact ⟨⟨j + 1, by omega, by go_num, HN, HB⟩, by simp [intOf]; omega⟩
      | cons x r =>
        have HN : Hid (keepW (ps.take (j + 1)) = keepW (ps.take j) ++ [x :: r]) := by
          show _ = _
          rw [hnx, if_neg (by simp)]
        clear hnx
        have hbs : w1.heap.size ≤ wr.heap.size := HB.out.size
        have HC1 := sone_cell wr (x :: r)
        generalize hkw : keepW (ps.take j) = kw at *
        go_wp2_with (refine wpList_sapp _ rfl _ _ rfl w1.heap.size _ kw [x :: r] rfl (HS.out.to ((Below.refl _ _).alloc (Nat.le_refl _) _)) wr.heap.size 1 rfl HC1 (by simp; omega) (by simp; omega) ?_)
        intro v5 w5 HR5 hb5
        have HN5 : Hid (SRow w5 w1.heap.size v5 (keepW (ps.take (j + 1)))) := by
          show SRow _ _ _ _
          rw [HN.out]; exact HR5.out
        have HB5 : Hid (Below w1.heap.size w1 w5) := (HB.out.alloc hbs _).trans hb5.out
        clear HR5 hb5 HC1 HS HN
        go_wp2
        exact ⟨⟨j + 1, by omega, by go_num, HN5, HB5⟩, by simp [intOf]; omega⟩
    · obtain rfl : j = ps.length := by omega
      have HE : Hid (SRow wr w.heap.size u4 (keepW ps)) := by
        have h := HS.out
        rw [List.take_length] at h
        exact h.low HB1.out.size
      have HBe : Hid (Below w.heap.size w wr) := HB1.out.trans (HB.out.mono HB1.out.size)
      go_wp2
      go_ret
      exact ⟨_, rfl, HE, HBe.out⟩
end Go.Proofs.YtjacgamgjjpllaaGreatDoor

/- A register put, as plain mathematics. Helper text: no statement is claimed here. -/
namespace Go.Proofs.YtjacgamgjjpllaaGreatDoor
open Go.ChangeShapes Go.WideShapes Go.ChangeAt Go.RowKit

theorem store_float2 (P : Program) (w : World) (a : Addr) (k : FloatKind) (x : Nat) (m : Mode) : (store a (.float k x) m).run P w = stored P w a (.float k x) m := run_store P w a _ m rfl
/-- The memory with a register put. -/
def Mm.putR (m : Mm) (k n : Int) (v : Nat) : Mm := if k = 10 then { m with r := fun i => if i = (plc 10 n).toNat then v else m.r i } else m
theorem putR_cell (m : Mm) (n : Int) (v : Nat) (q : Nat) (hq : plc 10 n = (q : Int)) (hl : q < 16) (i : Nat) (_hi : i < 136) : (if i = 117 + q then .float .f64 v else m.cell i) = (m.putR 10 n v).cell i := by
  have e : m.putR 10 n v = { m with r := fun i => if i = q then v else m.r i } := by
    unfold Mm.putR
    rw [if_pos rfl, hq]
    rfl
  rw [e]
  by_cases h : 117 ≤ i ∧ i < 133
  · obtain ⟨j, rfl⟩ : ∃ j, i = 117 + j := ⟨i - 117, by omega⟩
    rw [Mm.cell_r _ (by omega), Mm.cell_r _ (by omega)]
    show _ = Value.float .f64 (if j = q then v else m.r j)
    by_cases hj : j = q
    · subst hj; rw [if_pos rfl, if_pos rfl]
    · rw [if_neg (by omega), if_neg hj]; rfl
  · rw [if_neg (by omega)]
    unfold Mm.cell
    by_cases h5 : i < 5
    · rw [if_pos h5, if_pos h5]
    · rw [if_neg h5, if_neg h5]
      by_cases h37 : i < 37
      · rw [if_pos h37, if_pos h37]; rfl
      · rw [if_neg h37, if_neg h37]
        by_cases h85 : i < 85
        · rw [if_pos h85, if_pos h85]; rfl
        · rw [if_neg h85, if_neg h85]
          by_cases h117 : i < 117
          · rw [if_pos h117, if_pos h117]; first | omega | rfl
          · rw [if_neg h117, if_neg h117]
            by_cases h133 : i < 133
            · rw [if_pos h133, if_pos h133]; first | omega | rfl
            · rw [if_neg h133, if_neg h133]
theorem putR_real {m : Mm} (h : m.Ok) {v : Nat} (hv : v < 2 ^ 64) (k n : Int) (i : Nat) : (m.putR k n v).r i < 2 ^ 64 := by
  unfold Mm.putR
  split
  · show (if i = (plc 10 n).toNat then v else m.r i) < 2 ^ 64
    split
    · exact hv
    · exact h.hr i
  · exact h.hr i
end Go.Proofs.YtjacgamgjjpllaaGreatDoor
