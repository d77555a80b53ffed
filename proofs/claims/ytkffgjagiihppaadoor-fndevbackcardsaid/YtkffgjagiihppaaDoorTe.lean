/- The document's l1Guess, walked. Helper text: no statement is claimed here. -/
import Derived.Test.YtkffgjagiihppaaDoorTd
namespace Go.Proofs.YtkffgjagiihppaaDoor
open Go.ChangeShapes Go.WideShapes Go.ChangeAt Go.RowKit

theorem ext_all (s : ByteArray) (k : Nat) : (s.extract k s.size).data.toList = s.data.toList.drop k := by
  rw [ByteArray.data_extract]
  simp
  exact List.take_of_length_le (by simp)
theorem ext_to (s : ByteArray) (k : Nat) : (s.extract 0 k).data.toList = s.data.toList.take k := by
  rw [ByteArray.data_extract]
  simp

theorem dot_parts {x : ByteArray} {l1 l2 : List UInt8} (hx : x.data.toList = l1 ++ 46 :: l2) : List.take l1.length x.data.toList ++ List.take (x.size - (l1.length + 1)) (List.drop (l1.length + 1) x.data.toList) = l1 ++ l2 := by
  rw [size_list, hx]
  have e : List.drop (l1.length + 1) (l1 ++ 46 :: l2) = l2 := by simp [List.drop_append]
  rw [e]
  simp
  exact List.take_of_length_le (by omega)
theorem wrap_dig (l : List UInt8) : IntKind.i64.wrap (digN l) = digN l ∧ IntKind.i64.wrap (-digN l) = -digN l := by
  have := digN_bd l
  rw [IntKind.wrap_i64, IntKind.wrap_i64]; omega
theorem gs_dot {t : List UInt8} {x : ByteArray} {l1 l2 : List UInt8} (hn : NoName t) (ho : Off t x.data.toList 1) (hx : x.data.toList = l1 ++ 46 :: l2) (h46 : (46 : UInt8) ∉ l1) :
    Gs t 12 (IntKind.i64.wrap (digN (List.take l1.length x.data.toList ++ List.take (x.size - (l1.length + 1)) (List.drop (l1.length + 1) x.data.toList)))) ((x.size : Int) - (l1.length : Int) - 1) := by
  have g := gs_dec hn ho hx h46 digN_yes
  rw [dot_parts hx, (wrap_dig _).1, show (x.size : Int) - (l1.length : Int) - 1 = (l2.length : Int) by rw [size_list, hx]; simp; omega]
  simpa using g
theorem gs_dotm {t : List UInt8} {x : ByteArray} {l1 l2 : List UInt8} (hn : NoName t) (ho : Off t x.data.toList (-1)) (hx : x.data.toList = l1 ++ 46 :: l2) (h46 : (46 : UInt8) ∉ l1) :
    Gs t 12 (IntKind.i64.wrap (-digN (List.take l1.length x.data.toList ++ List.take (x.size - (l1.length + 1)) (List.drop (l1.length + 1) x.data.toList)))) ((x.size : Int) - (l1.length : Int) - 1) := by
  have g := gs_dec hn ho hx h46 digN_yes
  rw [dot_parts hx, (wrap_dig _).2, show (x.size : Int) - (l1.length : Int) - 1 = (l2.length : Int) by rw [size_list, hx]; simp; omega]
  simpa using g

set_option maxHeartbeats 4000000 in
theorem sguess_any (s : ByteArray) (w : World) (hs : s.size ≤ 2000000) :
    Calls Tryd.prog 34 #[.string s] w (Guessed s.data.toList w) := by
  go_enter Tryd.func34, Tryd.ntmps34
  go_wp2
  go_loopw [3] (fun i w' => ∃ m : Nat, m ≤ 4 ∧ i = .int .i64 m ∧ (∀ j, j < m → s.data.toList ≠ wordL j) ∧ Own w' w.heap.size (.int .i64 0) (.int .i64 0) (.int .i64 0) ∧ Below w.heap.size w w') (fun i _ => 4 - (intOf i).toNat)
  case atStart => exact ⟨0, by omega, rfl, by intro j hj; omega, Own.new w _ _ _, one _ _⟩
  case round =>
    obtain ⟨m, hm, rfl, hn, hO, hB⟩ := hrel
    rename_i wr
    have HN : Hid (∀ j, j < m → s.data.toList ≠ wordL j) := hn
    clear hn
    by_cases hlt : m < 4
    · have hw := words_at wr m hlt
      have hO2 := hO.alloc wordsO
      by_cases hE : s.toList = wordL m
      · have HE : Hid (s.data.toList = wordL m) := by rw [← ByteArray.toList_eq]; exact hE
        have hE' : (s.toList == wordL m) = true := by simp [hE]
        clear hE
        obtain ⟨⟨o0, o1, o2⟩, z0, z1, z2⟩ := hO2
        go_wp2_with fail
        refine (words_any _).mono ?_
        rintro e w1 ⟨rfl, rfl⟩
        go_wp2
        exact bodyPost_ret (v := .agg #[.int .i64 13, .int .i64 m, .int .i64 0]) (resArg Tryd.results34 rfl (put3 ⟨o0, o1, o2⟩)) rfl ⟨13, m, 0, rfl, gs_word hlt HE.out, (((hB.alloc hB.size _).setCell (Nat.le_refl _) _).setCell (Nat.le_refl _) _).setCell (Nat.le_refl _) _⟩
      · have hE' : (s.toList == wordL m) = false := by simp [hE]
        have HE : Hid (s.data.toList ≠ wordL m) := by rw [← ByteArray.toList_eq]; exact hE
        clear hE
        go_wp2_with fail
        refine (words_any _).mono ?_
        rintro e w1 ⟨rfl, rfl⟩
        go_wp2
        go_roundw
        case rel =>
          refine ⟨m + 1, by omega, by go_num, ?_, hO.alloc _, hB.alloc hB.size _⟩
          intro j hj
          by_cases e : j = m
          · subst e; exact HE.out
          · exact HN.out j (by omega)
        case measure => simp [intOf]; omega
    · obtain rfl : m = 4 := by omega
      go_wp2
      go_loopw [4] (fun i w' => ∃ m : Nat, 1 ≤ m ∧ m ≤ 11 ∧ i = .int .i64 m ∧ (∀ j, 1 ≤ j → j < m → ∀ c r, s.data.toList = c :: r → rL j ≠ [c]) ∧ Own w' w.heap.size (.int .i64 0) (.int .i64 0) (.int .i64 0) ∧ Below w.heap.size w w') (fun i _ => 11 - (intOf i).toNat)
      case atStart => exact ⟨1, by omega, by omega, rfl, by intro j h1 h2; omega, hO, hB⟩
      case round =>
        obtain ⟨m, hm1, hm2, rfl, hnl, hO, hB⟩ := hrel
        have HL : Hid (∀ j, 1 ≤ j → j < m → ∀ c r, s.data.toList = c :: r → rL j ≠ [c]) := hnl
        clear hnl
        by_cases hlt : m < 11
        · by_cases hE : s.toList = []
          · have hE' : (s.toList == []) = true := by simp [hE]
            have HE : Hid (s.data.toList = []) := by rw [← ByteArray.toList_eq]; exact hE
            clear hE
            go_wp2
            go_quiet (fail)
            go_wp2
            go_roundw
            case rel =>
              refine ⟨m + 1, by omega, by omega, by go_num, ?_, hO.below (below_drewN (Below.refl _ _) _), below_drewN hB _⟩
              intro j _ _ c r e
              exact absurd (HE.out.symm.trans e) (by simp)
            case measure => simp [intOf]; omega
          · have hE' : (s.toList == []) = false := by simp [hE]
            have HE : Hid (s.data.toList ≠ []) := by rw [← ByteArray.toList_eq]; exact hE
            clear hE
            have hz : 1 ≤ s.size := by
              have := HE.out
              rw [size_list]; exact List.length_pos_iff.2 this
            have hz' : (1 : Int) ≤ s.size := by omega
            obtain ⟨c, r, hcr⟩ : ∃ c r, s.data.toList = c :: r := by
              cases h : s.data.toList with
              | nil => exact absurd h HE.out
              | cons c r => exact ⟨c, r, rfl⟩
            have hx1 : (s.extract 0 1).toList = [c] := by rw [ByteArray.toList_eq, ext_to, hcr]; rfl
            have HX : Hid ((s.extract 0 1).toList = [c]) := hx1
            have hx2 : (s.extract 1 s.size).data.toList = r := by rw [ext_all, hcr]; rfl
            have HY : Hid ((s.extract 1 s.size).data.toList = r) := hx2
            have HC : Hid (s.data.toList = c :: r) := hcr
            clear hx1 hx2 hcr
            by_cases hF : (s.extract 0 1).toList = rL (kz m)
            · have hF' : ((s.extract 0 1).toList == rL (kz m)) = true := by simp [hF]
              have HF : Hid (rL m = [c]) := by
                show rL m = [c]
                rw [← HX.out, hF, kz_nat m (by omega) (by omega)]
              clear hF
              have hO' := hO
              obtain ⟨⟨o0, o1, o2⟩, z0, z1, z2⟩ := hO'
              have hbd := digN_bd r
              go_wp2
              go_quiet ((go_at_call 28; exact Calls.quiet_of_same (sletter_any _ _)))
              go_wp2_with fail
              refine (digs_any _ _ (by simp; omega)).mono ?_
              rintro e w1 ⟨rfl, rfl⟩
              rw [HY.out]
              go_wp2
              exact bodyPost_ret (v := .agg #[.int .i64 m, .int .i64 (digN r), .int .i64 0]) (resArg Tryd.results34 rfl (put3 ⟨o0, o1, o2⟩)) rfl ⟨m, digN r, 0, rfl, gs_letter HC.out (by omega) (by omega) HF.out digN_yes, below_drewN (((hB.setCell (Nat.le_refl _) _).setCell (Nat.le_refl _) _).setCell (Nat.le_refl _) _) _⟩
            · have hF' : ((s.extract 0 1).toList == rL (kz m)) = false := by simp [hF]
              have HF : Hid (rL m ≠ [c]) := by
                show rL m ≠ [c]
                intro e
                exact hF (by rw [HX.out, kz_nat m (by omega) (by omega), e])
              clear hF
              go_wp2
              go_quiet ((go_at_call 28; exact Calls.quiet_of_same (sletter_any _ _)))
              go_wp2
              go_roundw
              case rel =>
                refine ⟨m + 1, by omega, by omega, by go_num, ?_, hO.below (below_drewN (Below.refl _ _) _), below_drewN hB _⟩
                intro j hj1 hj2 c' r' e
                by_cases ej : j = m
                · subst ej
                  have e2 := HC.out.symm.trans e
                  simp only [List.cons.injEq] at e2
                  rw [← e2.1]; exact HF.out
                · exact HL.out j hj1 (by omega) c' r' e
              case measure => simp [intOf]; omega
        · obtain rfl : m = 11 := by omega
          have hNN : Hid (NoName s.data.toList) := ⟨HN.out, fun m h1 h2 => HL.out m h1 (by omega)⟩
          have hO' := hO
          obtain ⟨⟨o0, o1, o2⟩, z0, z1, z2⟩ := hO'
          by_cases hE : s.toList = []
          · have hE' : (s.toList == []) = true := by simp [hE]
            have HE : Hid (s.data.toList = []) := by rw [← ByteArray.toList_eq]; exact hE
            clear hE
            have hoff : Hid (Off s.data.toList s.data.toList 1) := .inl ⟨rfl, rfl, fun r e => by rw [HE.out] at e; simp at e⟩
            go_wp2_with fail
            refine (find_any s _ hs).mono ?_
            rintro e w1 ⟨v, rfl, rfl, hv⟩
            rcases hv with ⟨rfl, h46⟩ | ⟨l1, l2, hx, h46, rfl⟩
            · have H46 : Hid ((46 : UInt8) ∉ s.data.toList) := h46
              clear h46
              generalize hdl : digN s.data.toList = dv at *
              have hbd := digN_bd s.data.toList
              rw [hdl] at hbd
              have HDL : Hid (digN s.data.toList = dv) := hdl
              clear hdl
              obtain ⟨hbd0, hbd1⟩ := hbd
              go_wp2_with fail
              refine (digs_any s _ hs).mono ?_
              rintro e w2 ⟨rfl, rfl⟩
              rw [HDL.out]
              go_wp2
              exact bodyPost_ret (v := .agg #[.int .i64 11, .int .i64 (dv), .int .i64 0]) (resArg Tryd.results34 rfl (put3 ⟨o0, o1, o2⟩)) rfl ⟨11, _, 0, rfl, by have g := gs_int hNN.out hoff.out H46.out digN_yes; rw [HDL.out] at g; simpa using g, ((hB.setCell (Nat.le_refl _) _).setCell (Nat.le_refl _) _).setCell (Nat.le_refl _) _⟩
            · have HX : Hid (s.data.toList = l1 ++ 46 :: l2) := hx
              have H46 : Hid ((46 : UInt8) ∉ l1) := h46
              have hsz : s.size = l1.length + 1 + l2.length := by rw [size_list, hx]; simp; omega
              have HSZ : Hid (s.size = l1.length + 1 + l2.length) := hsz
              clear hx h46 hsz
              have hi1 : (l1.length : Int) ≤ (s.size : Int) := by rw [HSZ.out]; omega
              have hi2 : (l1.length : Int) + 1 ≤ (s.size : Int) := by rw [HSZ.out]; omega
              have hj1 : l1.length ≤ s.size := by omega
              have hj2 : l1.length + 1 ≤ s.size := by omega
              have hw1 : IntKind.i64.wrap ((l1.length : Int) + 1) = (l1.length : Int) + 1 := by rw [IntKind.wrap_i64]; omega
              have hw2 : IntKind.i64.wrap ((s.size : Int) - (l1.length : Int)) = (s.size : Int) - (l1.length : Int) := by rw [IntKind.wrap_i64]; omega
              have hw3 : IntKind.i64.wrap ((s.size : Int) - (l1.length : Int) - 1) = (s.size : Int) - (l1.length : Int) - 1 := by rw [IntKind.wrap_i64]; omega
              go_wp2
              go_region_with (go_at_call 42; refine (digs_any _ _ (by simp; omega)).mono ?_; rintro e w2 ⟨rfl, rfl⟩)
              all_goals go_wp2
              all_goals exact bodyPost_ret (v := .agg #[.int .i64 12, .int .i64 _, .int .i64 _]) (resArg Tryd.results34 rfl (put3 ⟨o0, o1, o2⟩)) rfl ⟨12, _, _, rfl, gs_dot hNN.out hoff.out HX.out H46.out, (((hB.setCell (Nat.le_refl _) _).setCell (Nat.le_refl _) _).setCell (Nat.le_refl _) _).drew⟩
          · have hE' : (s.toList == []) = false := by simp [hE]
            have HE : Hid (s.data.toList ≠ []) := by rw [← ByteArray.toList_eq]; exact hE
            clear hE
            have hz : 0 < s.size := by
              have := HE.out
              rw [size_list]; exact List.length_pos_iff.2 this
            have h0 := split_at s 0 hz
            simp only [List.take_zero, List.nil_append] at h0
            by_cases h45 : s[0] = 45
            · have h45' : ((s[0].toNat : Int) == 45) = true := by rw [h45]; rfl
              have hoff : Hid (Off s.data.toList (s.extract 1 s.size).data.toList (-1)) := .inr ⟨rfl, by rw [ext_all, ← h45]; exact h0⟩
              clear h0 h45
              go_wp2_with fail
              generalize hxg : s.extract 1 s.size = x at *
              have hxs : x.size ≤ 2000000 := by rw [← hxg]; simp; omega
              clear hxg
              refine (find_any x _ hxs).mono ?_
              rintro e w1 ⟨v, rfl, rfl, hv⟩
              rcases hv with ⟨rfl, h46⟩ | ⟨l1, l2, hx, h46, rfl⟩
              · have H46 : Hid ((46 : UInt8) ∉ x.data.toList) := h46
                clear h46
                generalize hdl : digN x.data.toList = dv at *
                have hbd := digN_bd x.data.toList
                rw [hdl] at hbd
                have HDL : Hid (digN x.data.toList = dv) := hdl
                clear hdl
                obtain ⟨hbd0, hbd1⟩ := hbd
                go_wp2_with fail
                refine (digs_any x _ hxs).mono ?_
                rintro e w2 ⟨rfl, rfl⟩
                rw [HDL.out]
                go_wp2
                exact bodyPost_ret (v := .agg #[.int .i64 11, .int .i64 (-dv), .int .i64 0]) (resArg Tryd.results34 rfl (put3 ⟨o0, o1, o2⟩)) rfl ⟨11, _, 0, rfl, by have g := gs_int hNN.out hoff.out H46.out digN_yes; rw [HDL.out] at g; simpa using g, ((hB.setCell (Nat.le_refl _) _).setCell (Nat.le_refl _) _).setCell (Nat.le_refl _) _⟩
              · have HX : Hid (x.data.toList = l1 ++ 46 :: l2) := hx
                have H46 : Hid ((46 : UInt8) ∉ l1) := h46
                have hsz : x.size = l1.length + 1 + l2.length := by rw [size_list, hx]; simp; omega
                have HSZ : Hid (x.size = l1.length + 1 + l2.length) := hsz
                clear hx h46 hsz
                have hi1 : (l1.length : Int) ≤ (x.size : Int) := by rw [HSZ.out]; omega
                have hi2 : (l1.length : Int) + 1 ≤ (x.size : Int) := by rw [HSZ.out]; omega
                have hj1 : l1.length ≤ x.size := by omega
                have hj2 : l1.length + 1 ≤ x.size := by omega
                have hw1 : IntKind.i64.wrap ((l1.length : Int) + 1) = (l1.length : Int) + 1 := by rw [IntKind.wrap_i64]; omega
                have hw2 : IntKind.i64.wrap ((x.size : Int) - (l1.length : Int)) = (x.size : Int) - (l1.length : Int) := by rw [IntKind.wrap_i64]; omega
                have hw3 : IntKind.i64.wrap ((x.size : Int) - (l1.length : Int) - 1) = (x.size : Int) - (l1.length : Int) - 1 := by rw [IntKind.wrap_i64]; omega
                go_wp2
                go_region_with (go_at_call 42; refine (digs_any _ _ (by simp; omega)).mono ?_; rintro e w2 ⟨rfl, rfl⟩)
                all_goals go_wp2
                all_goals exact bodyPost_ret (v := .agg #[.int .i64 12, .int .i64 _, .int .i64 _]) (resArg Tryd.results34 rfl (put3 ⟨o0, o1, o2⟩)) rfl ⟨12, _, _, rfl, gs_dotm hNN.out hoff.out HX.out H46.out, (((hB.setCell (Nat.le_refl _) _).setCell (Nat.le_refl _) _).setCell (Nat.le_refl _) _).drew⟩
            · have h45' : ((s[0].toNat : Int) == 45) = false := by
                rw [beq_eq_false_iff_ne]; intro e
                apply h45
                apply UInt8.toNat.inj
                have : s[0].toNat = 45 := by omega
                rw [this]; rfl
              have hoff : Hid (Off s.data.toList s.data.toList 1) := .inl ⟨rfl, rfl, fun r e => by
                rw [h0] at e
                simp only [List.cons.injEq] at e
                exact h45 e.1⟩
              clear h0 h45
              go_wp2_with fail
              refine (find_any s _ hs).mono ?_
              rintro e w1 ⟨v, rfl, rfl, hv⟩
              rcases hv with ⟨rfl, h46⟩ | ⟨l1, l2, hx, h46, rfl⟩
              · have H46 : Hid ((46 : UInt8) ∉ s.data.toList) := h46
                clear h46
                generalize hdl : digN s.data.toList = dv at *
                have hbd := digN_bd s.data.toList
                rw [hdl] at hbd
                have HDL : Hid (digN s.data.toList = dv) := hdl
                clear hdl
                obtain ⟨hbd0, hbd1⟩ := hbd
                go_wp2_with fail
                refine (digs_any s _ hs).mono ?_
                rintro e w2 ⟨rfl, rfl⟩
                rw [HDL.out]
                go_wp2
                exact bodyPost_ret (v := .agg #[.int .i64 11, .int .i64 (dv), .int .i64 0]) (resArg Tryd.results34 rfl (put3 ⟨o0, o1, o2⟩)) rfl ⟨11, _, 0, rfl, by have g := gs_int hNN.out hoff.out H46.out digN_yes; rw [HDL.out] at g; simpa using g, ((hB.setCell (Nat.le_refl _) _).setCell (Nat.le_refl _) _).setCell (Nat.le_refl _) _⟩
              · have HX : Hid (s.data.toList = l1 ++ 46 :: l2) := hx
                have H46 : Hid ((46 : UInt8) ∉ l1) := h46
                have hsz : s.size = l1.length + 1 + l2.length := by rw [size_list, hx]; simp; omega
                have HSZ : Hid (s.size = l1.length + 1 + l2.length) := hsz
                clear hx h46 hsz
                have hi1 : (l1.length : Int) ≤ (s.size : Int) := by rw [HSZ.out]; omega
                have hi2 : (l1.length : Int) + 1 ≤ (s.size : Int) := by rw [HSZ.out]; omega
                have hj1 : l1.length ≤ s.size := by omega
                have hj2 : l1.length + 1 ≤ s.size := by omega
                have hw1 : IntKind.i64.wrap ((l1.length : Int) + 1) = (l1.length : Int) + 1 := by rw [IntKind.wrap_i64]; omega
                have hw2 : IntKind.i64.wrap ((s.size : Int) - (l1.length : Int)) = (s.size : Int) - (l1.length : Int) := by rw [IntKind.wrap_i64]; omega
                have hw3 : IntKind.i64.wrap ((s.size : Int) - (l1.length : Int) - 1) = (s.size : Int) - (l1.length : Int) - 1 := by rw [IntKind.wrap_i64]; omega
                go_wp2
                go_region_with (go_at_call 42; refine (digs_any _ _ (by simp; omega)).mono ?_; rintro e w2 ⟨rfl, rfl⟩)
                all_goals go_wp2
                all_goals exact bodyPost_ret (v := .agg #[.int .i64 12, .int .i64 _, .int .i64 _]) (resArg Tryd.results34 rfl (put3 ⟨o0, o1, o2⟩)) rfl ⟨12, _, _, rfl, gs_dot hNN.out hoff.out HX.out H46.out, (((hB.setCell (Nat.le_refl _) _).setCell (Nat.le_refl _) _).setCell (Nat.le_refl _) _).drew⟩
end Go.Proofs.YtkffgjagiihppaaDoor
