/- The document's l1Guess, walked. Helper text: no statement is claimed here. -/
import Derived.Test.YtlddkhhaclfmiaaGreatDoorP03
import Derived.Test.YtlddkhhaclfmiaaGreatDoorP01
namespace Go.Proofs.YtlddkhhaclfmiaaGreatDoor
open Go.ChangeShapes Go.WideShapes Go.ChangeAt Go.RowKit

theorem ext_all (s : ByteArray) (k : Nat) : (s.extract k s.size).data.toList = s.data.toList.drop k := by
  rw [ByteArray.data_extract]
  simp
  exact List.take_of_length_le (by simp)
theorem ext_to (s : ByteArray) (k : Nat) : (s.extract 0 k).data.toList = s.data.toList.take k := by
  rw [ByteArray.data_extract]
  simp

theorem dot_parts {x : ByteArray} {l1 l2 : List UInt8} (hx : x.data.toList = l1 ++ 46 :: l2) : List.take l1.length x.data.toList ++ List.take (x.size - (l1.length + 1)) (List.drop (l1.length + 1) x.data.toList) = l1 ++ l2 := by
  rw [size_list, hx]
  have e : List.drop (l1.length + 1) (l1 ++ 46 :: l2) = l2 := by simp [List.drop_append]
  rw [e]
  simp
  exact List.take_of_length_le (by omega)
theorem wrap_dig (l : List UInt8) : IntKind.i64.wrap (digN l) = digN l ∧ IntKind.i64.wrap (-digN l) = -digN l := by
  have := digN_bd l
  rw [IntKind.wrap_i64, IntKind.wrap_i64]; omega
theorem gs_dot {t : List UInt8} {x : ByteArray} {l1 l2 : List UInt8} (hn : NoName t) (ho : Off t x.data.toList 1) (hx : x.data.toList = l1 ++ 46 :: l2) (h46 : (46 : UInt8) ∉ l1) :
    Gs t 12 (IntKind.i64.wrap (digN (List.take l1.length x.data.toList ++ List.take (x.size - (l1.length + 1)) (List.drop (l1.length + 1) x.data.toList)))) ((x.size : Int) - (l1.length : Int) - 1) := by
  have g := gs_dec hn ho hx h46 digN_yes
  rw [dot_parts hx, (wrap_dig _).1, show (x.size : Int) - (l1.length : Int) - 1 = (l2.length : Int) by rw [size_list, hx]; simp; omega]
  simpa using g
theorem gs_dotm {t : List UInt8} {x : ByteArray} {l1 l2 : List UInt8} (hn : NoName t) (ho : Off t x.data.toList (-1)) (hx : x.data.toList = l1 ++ 46 :: l2) (h46 : (46 : UInt8) ∉ l1) :
    Gs t 12 (IntKind.i64.wrap (-digN (List.take l1.length x.data.toList ++ List.take (x.size - (l1.length + 1)) (List.drop (l1.length + 1) x.data.toList)))) ((x.size : Int) - (l1.length : Int) - 1) := by
  have g := gs_dec hn ho hx h46 digN_yes
  rw [dot_parts hx, (wrap_dig _).2, show (x.size : Int) - (l1.length : Int) - 1 = (l2.length : Int) by rw [size_list, hx]; simp; omega]
  simpa using g

set_option maxHeartbeats 4000000 in
theorem sguess_any (s : ByteArray) (w : World) (hs : s.size ≤ 2000000) :
    Calls Tryz.prog 122 #[.string s] w (Guessed s.data.toList w) := by
  go_enter Tryz.func122, Tryz.ntmps122
  go_wp2
  go_loopw [3] (fun i w' => ∃ m : Nat, m ≤ 4 ∧ i = .int .i64 m ∧ (∀ j, j < m → s.data.toList ≠ wordL j) ∧ Own w' w.heap.size (.int .i64 0) (.int .i64 0) (.int .i64 0) ∧ Below w.heap.size w w') (fun i _ => 4 - (intOf i).toNat)
  case atStart => exact ⟨0, by omega, rfl, by intro j hj; omega, Own.new w _ _ _, one _ _⟩
  case round =>
    obtain ⟨m, hm, rfl, hn, hO, hB⟩ := hrel
    rename_i wr
    have HN : Hid (∀ j, j < m → s.data.toList ≠ wordL j) := hn
    clear hn
    by_cases hlt : m < 4
    · have hw := words_at wr m hlt
      have hO2 := hO.alloc wordsO
      by_cases hE : s.toList = wordL m
      · have HE : Hid (s.data.toList = wordL m) := by rw [← ByteArray.toList_eq]; exact hE
        have hE' : (s.toList == wordL m) = true := by simp [hE]
        clear hE
        obtain ⟨⟨o0, o1, o2⟩, z0, z1, z2⟩ := hO2
        go_wp2_with fail
        refine (words_anyD _).mono ?_
        rintro e w1 ⟨rfl, rfl⟩
        go_wp2
        exact bodyPost_ret (v := .agg #[.int .i64 13, .int .i64 m, .int .i64 0]) (resArg Tryz.results122 rfl (put3 ⟨o0, o1, o2⟩)) rfl ⟨13, m, 0, rfl, gs_word hlt HE.out, (((hB.alloc hB.size _).setCell (Nat.le_refl _) _).setCell (Nat.le_refl _) _).setCell (Nat.le_refl _) _⟩
      · have hE' : (s.toList == wordL m) = false := by simp [hE]
        have HE : Hid (s.data.toList ≠ wordL m) := by rw [← ByteArray.toList_eq]; exact hE
        clear hE
        go_wp2_with fail
        refine (words_anyD _).mono ?_
        rintro e w1 ⟨rfl, rfl⟩
        go_wp2
        go_roundw
        case rel =>
          refine ⟨m + 1, by omega, by go_num, ?_, hO.alloc _, hB.alloc hB.size _⟩
          intro j hj
          by_cases e : j = m
          · subst e; exact HE.out
          · exact HN.out j (by omega)
        case measure => simp [intOf]; omega
    · obtain rfl : m = 4 := by omega
      go_wp2
      go_loopw [4] (fun i w' => ∃ m : Nat, 1 ≤ m ∧ m ≤ 11 ∧ i = .int .i64 m ∧ (∀ j, 1 ≤ j → j < m → ∀ c r, s.data.toList = c :: r → rL j ≠ [c]) ∧ Own w' w.heap.size (.int .i64 0) (.int .i64 0) (.int .i64 0) ∧ Below w.heap.size w w') (fun i _ => 11 - (intOf i).toNat)
      case atStart => exact ⟨1, by omega, by omega, rfl, by intro j h1 h2; omega, hO, hB⟩
      case round =>
        obtain ⟨m, hm1, hm2, rfl, hnl, hO, hB⟩ := hrel
        have HL : Hid (∀ j, 1 ≤ j → j < m → ∀ c r, s.data.toList = c :: r → rL j ≠ [c]) := hnl
        clear hnl
        by_cases hlt : m < 11
        · by_cases hE : s.toList = []
          · have hE' : (s.toList == []) = true := by simp [hE]
            have HE : Hid (s.data.toList = []) := by rw [← ByteArray.toList_eq]; exact hE
            clear hE
            go_wp2
            go_quiet (fail)
            go_wp2
            go_roundw
            case rel =>
              refine ⟨m + 1, by omega, by omega, by go_num, ?_, hO.below (below_drewN (Below.refl _ _) _), below_drewN hB _⟩
              intro j _ _ c r e
              exact absurd (HE.out.symm.trans e) (by simp)
            case measure => simp [intOf]; omega
          · have hE' : (s.toList == []) = false := by simp [hE]
            have HE : Hid (s.data.toList ≠ []) := by rw [← ByteArray.toList_eq]; exact hE
            clear hE
            have hz : 1 ≤ s.size := by
              have := HE.out
              rw [size_list]; exact List.length_pos_iff.2 this
            have hz' : (1 : Int) ≤ s.size := by omega
            obtain ⟨c, r, hcr⟩ : ∃ c r, s.data.toList = c :: r := by
              cases h : s.data.toList with
              | nil => exact absurd h HE.out
              | cons c r => exact ⟨c, r, rfl⟩
            have hx1 : (s.extract 0 1).toList = [c] := by rw [ByteArray.toList_eq, ext_to, hcr]; rfl
            have HX : Hid ((s.extract 0 1).toList = [c]) := hx1
            have hx2 : (s.extract 1 s.size).data.toList = r := by rw [ext_all, hcr]; rfl
            have HY : Hid ((s.extract 1 s.size).data.toList = r) := hx2
            have HC : Hid (s.data.toList = c :: r) := hcr
            clear hx1 hx2 hcr
            by_cases hF : (s.extract 0 1).toList = rL (kz m)
            · have hF' : ((s.extract 0 1).toList == rL (kz m)) = true := by simp [hF]
              have HF : Hid (rL m = [c]) := by
                show rL m = [c]
                rw [← HX.out, hF, kz_nat m (by omega) (by omega)]
              clear hF
              have hO' := hO
              obtain ⟨⟨o0, o1, o2⟩, z0, z1, z2⟩ := hO'
              have hbd := digN_bd r
              go_wp2
              go_quiet ((go_at_call 72; exact Calls.quiet_of_same (sletter_any _ _)))
              go_wp2_with fail
              refine (digs_any _ _ (by simp; omega)).mono ?_
              rintro e w1 ⟨rfl, rfl⟩
              rw [HY.out]
              go_wp2
              exact bodyPost_ret (v := .agg #[.int .i64 m, .int .i64 (digN r), .int .i64 0]) (resArg Tryz.results122 rfl (put3 ⟨o0, o1, o2⟩)) rfl ⟨m, digN r, 0, rfl, gs_letter HC.out (by omega) (by omega) HF.out digN_yes, below_drewN (((hB.setCell (Nat.le_refl _) _).setCell (Nat.le_refl _) _).setCell (Nat.le_refl _) _) _⟩
            · have hF' : ((s.extract 0 1).toList == rL (kz m)) = false := by simp [hF]
              have HF : Hid (rL m ≠ [c]) := by
                show rL m ≠ [c]
                intro e
                exact hF (by rw [HX.out, kz_nat m (by omega) (by omega), e])
              clear hF
              go_wp2
              go_quiet ((go_at_call 72; exact Calls.quiet_of_same (sletter_any _ _)))
              go_wp2
              go_roundw
              case rel =>
                refine ⟨m + 1, by omega, by omega, by go_num, ?_, hO.below (below_drewN (Below.refl _ _) _), below_drewN hB _⟩
                intro j hj1 hj2 c' r' e
                by_cases ej : j = m
                · subst ej
                  have e2 := HC.out.symm.trans e
                  simp only [List.cons.injEq] at e2
                  rw [← e2.1]; exact HF.out
                · exact HL.out j hj1 (by omega) c' r' e
              case measure => simp [intOf]; omega
        · obtain rfl : m = 11 := by omega
          have hNN : Hid (NoName s.data.toList) := ⟨HN.out, fun m h1 h2 => HL.out m h1 (by omega)⟩
          have hO' := hO
          obtain ⟨⟨o0, o1, o2⟩, z0, z1, z2⟩ := hO'
          by_cases hE : s.toList = []
          · have hE' : (s.toList == []) = true := by simp [hE]
            have HE : Hid (s.data.toList = []) := by rw [← ByteArray.toList_eq]; exact hE
            clear hE
            have hoff : Hid (Off s.data.toList s.data.toList 1) := .inl ⟨rfl, rfl, fun r e => by rw [HE.out] at e; simp at e⟩
            go_wp2_with fail
            refine (find_any s _ hs).mono ?_
            rintro e w1 ⟨v, rfl, rfl, hv⟩
            rcases hv with ⟨rfl, h46⟩ | ⟨l1, l2, hx, h46, rfl⟩
            · have H46 : Hid ((46 : UInt8) ∉ s.data.toList) := h46
              clear h46
              generalize hdl : digN s.data.toList = dv at *
              have hbd := digN_bd s.data.toList
              rw [hdl] at hbd
              have HDL : Hid (digN s.data.toList = dv) := hdl
              clear hdl
              obtain ⟨hbd0, hbd1⟩ := hbd
              go_wp2_with fail
              refine (digs_any s _ hs).mono ?_
              rintro e w2 ⟨rfl, rfl⟩
              rw [HDL.out]
              go_wp2
              exact bodyPost_ret (v := .agg #[.int .i64 11, .int .i64 (dv), .int .i64 0]) (resArg Tryz.results122 rfl (put3 ⟨o0, o1, o2⟩)) rfl ⟨11, _, 0, rfl, by have g := gs_int hNN.out hoff.out H46.out digN_yes; rw [HDL.out] at g; simpa using g, ((hB.setCell (Nat.le_refl _) _).setCell (Nat.le_refl _) _).setCell (Nat.le_refl _) _⟩
            · have HX : Hid (s.data.toList = l1 ++ 46 :: l2) := hx
              have H46 : Hid ((46 : UInt8) ∉ l1) := h46
              have hsz : s.size = l1.length + 1 + l2.length := by rw [size_list, hx]; simp; omega
              have HSZ : Hid (s.size = l1.length + 1 + l2.length) := hsz
              clear hx h46 hsz
              have hi1 : (l1.length : Int) ≤ (s.size : Int) := by rw [HSZ.out]; omega
              have hi2 : (l1.length : Int) + 1 ≤ (s.size : Int) := by rw [HSZ.out]; omega
              have hj1 : l1.length ≤ s.size := by omega
              have hj2 : l1.length + 1 ≤ s.size := by omega
              have hw1 : IntKind.i64.wrap ((l1.length : Int) + 1) = (l1.length : Int) + 1 := by rw [IntKind.wrap_i64]; omega
              have hw2 : IntKind.i64.wrap ((s.size : Int) - (l1.length : Int)) = (s.size : Int) - (l1.length : Int) := by rw [IntKind.wrap_i64]; omega
              have hw3 : IntKind.i64.wrap ((s.size : Int) - (l1.length : Int) - 1) = (s.size : Int) - (l1.length : Int) - 1 := by rw [IntKind.wrap_i64]; omega
              go_wp2
              go_region_with (go_at_call 132; refine (digs_any _ _ (by simp; omega)).mono ?_; rintro e w2 ⟨rfl, rfl⟩)
              all_goals go_wp2
              all_goals exact bodyPost_ret (v := .agg #[.int .i64 12, .int .i64 _, .int .i64 _]) (resArg Tryz.results122 rfl (put3 ⟨o0, o1, o2⟩)) rfl ⟨12, _, _, rfl, gs_dot hNN.out hoff.out HX.out H46.out, (((hB.setCell (Nat.le_refl _) _).setCell (Nat.le_refl _) _).setCell (Nat.le_refl _) _).drew⟩
          · have hE' : (s.toList == []) = false := by simp [hE]
            have HE : Hid (s.data.toList ≠ []) := by rw [← ByteArray.toList_eq]; exact hE
            clear hE
            have hz : 0 < s.size := by
              have := HE.out
              rw [size_list]; exact List.length_pos_iff.2 this
            have h0 := split_at s 0 hz
            simp only [List.take_zero, List.nil_append] at h0
            by_cases h45 : s[0] = 45
            · have h45' : ((s[0].toNat : Int) == 45) = true := by rw [h45]; rfl
              have hoff : Hid (Off s.data.toList (s.extract 1 s.size).data.toList (-1)) := .inr ⟨rfl, by rw [ext_all, ← h45]; exact h0⟩
              clear h0 h45
              go_wp2_with fail
              generalize hxg : s.extract 1 s.size = x at *
              have hxs : x.size ≤ 2000000 := by rw [← hxg]; simp; omega
              clear hxg
              refine (find_any x _ hxs).mono ?_
              rintro e w1 ⟨v, rfl, rfl, hv⟩
              rcases hv with ⟨rfl, h46⟩ | ⟨l1, l2, hx, h46, rfl⟩
              · have H46 : Hid ((46 : UInt8) ∉ x.data.toList) := h46
                clear h46
                generalize hdl : digN x.data.toList = dv at *
                have hbd := digN_bd x.data.toList
                rw [hdl] at hbd
                have HDL : Hid (digN x.data.toList = dv) := hdl
                clear hdl
                obtain ⟨hbd0, hbd1⟩ := hbd
                go_wp2_with fail
                refine (digs_any x _ hxs).mono ?_
                rintro e w2 ⟨rfl, rfl⟩
                rw [HDL.out]
                go_wp2
                exact bodyPost_ret (v := .agg #[.int .i64 11, .int .i64 (-dv), .int .i64 0]) (resArg Tryz.results122 rfl (put3 ⟨o0, o1, o2⟩)) rfl ⟨11, _, 0, rfl, by have g := gs_int hNN.out hoff.out H46.out digN_yes; rw [HDL.out] at g; simpa using g, ((hB.setCell (Nat.le_refl _) _).setCell (Nat.le_refl _) _).setCell (Nat.le_refl _) _⟩
              · have HX : Hid (x.data.toList = l1 ++ 46 :: l2) := hx
                have H46 : Hid ((46 : UInt8) ∉ l1) := h46
                have hsz : x.size = l1.length + 1 + l2.length := by rw [size_list, hx]; simp; omega
                have HSZ : Hid (x.size = l1.length + 1 + l2.length) := hsz
                clear hx h46 hsz
                have hi1 : (l1.length : Int) ≤ (x.size : Int) := by rw [HSZ.out]; omega
                have hi2 : (l1.length : Int) + 1 ≤ (x.size : Int) := by rw [HSZ.out]; omega
                have hj1 : l1.length ≤ x.size := by omega
                have hj2 : l1.length + 1 ≤ x.size := by omega
                have hw1 : IntKind.i64.wrap ((l1.length : Int) + 1) = (l1.length : Int) + 1 := by rw [IntKind.wrap_i64]; omega
                have hw2 : IntKind.i64.wrap ((x.size : Int) - (l1.length : Int)) = (x.size : Int) - (l1.length : Int) := by rw [IntKind.wrap_i64]; omega
                have hw3 : IntKind.i64.wrap ((x.size : Int) - (l1.length : Int) - 1) = (x.size : Int) - (l1.length : Int) - 1 := by rw [IntKind.wrap_i64]; omega
                go_wp2
                go_region_with (go_at_call 132; refine (digs_any _ _ (by simp; omega)).mono ?_; rintro e w2 ⟨rfl, rfl⟩)
                all_goals go_wp2
                all_goals exact bodyPost_ret (v := .agg #[.int .i64 12, .int .i64 _, .int .i64 _]) (resArg Tryz.results122 rfl (put3 ⟨o0, o1, o2⟩)) rfl ⟨12, _, _, rfl, gs_dotm hNN.out hoff.out HX.out H46.out, (((hB.setCell (Nat.le_refl _) _).setCell (Nat.le_refl _) _).setCell (Nat.le_refl _) _).drew⟩
            · have h45' : ((s[0].toNat : Int) == 45) = false := by
                rw [beq_eq_false_iff_ne]; intro e
                apply h45
                apply UInt8.toNat.inj
                have : s[0].toNat = 45 := by omega
                rw [this]; rfl
              have hoff : Hid (Off s.data.toList s.data.toList 1) := .inl ⟨rfl, rfl, fun r e => by
                rw [h0] at e
                simp only [List.cons.injEq] at e
                exact h45 e.1⟩
              clear h0 h45
              go_wp2_with fail
              refine (find_any s _ hs).mono ?_
              rintro e w1 ⟨v, rfl, rfl, hv⟩
              rcases hv with ⟨rfl, h46⟩ | ⟨l1, l2, hx, h46, rfl⟩
              · have H46 : Hid ((46 : UInt8) ∉ s.data.toList) := h46
                clear h46
                generalize hdl : digN s.data.toList = dv at *
                have hbd := digN_bd s.data.toList
                rw [hdl] at hbd
                have HDL : Hid (digN s.data.toList = dv) := hdl
                clear hdl
                obtain ⟨hbd0, hbd1⟩ := hbd
                go_wp2_with fail
                refine (digs_any s _ hs).mono ?_
                rintro e w2 ⟨rfl, rfl⟩
                rw [HDL.out]
                go_wp2
                exact bodyPost_ret (v := .agg #[.int .i64 11, .int .i64 (dv), .int .i64 0]) (resArg Tryz.results122 rfl (put3 ⟨o0, o1, o2⟩)) rfl ⟨11, _, 0, rfl, by have g := gs_int hNN.out hoff.out H46.out digN_yes; rw [HDL.out] at g; simpa using g, ((hB.setCell (Nat.le_refl _) _).setCell (Nat.le_refl _) _).setCell (Nat.le_refl _) _⟩
              · have HX : Hid (s.data.toList = l1 ++ 46 :: l2) := hx
                have H46 : Hid ((46 : UInt8) ∉ l1) := h46
                have hsz : s.size = l1.length + 1 + l2.length := by rw [size_list, hx]; simp; omega
                have HSZ : Hid (s.size = l1.length + 1 + l2.length) := hsz
                clear hx h46 hsz
                have hi1 : (l1.length : Int) ≤ (s.size : Int) := by rw [HSZ.out]; omega
                have hi2 : (l1.length : Int) + 1 ≤ (s.size : Int) := by rw [HSZ.out]; omega
                have hj1 : l1.length ≤ s.size := by omega
                have hj2 : l1.length + 1 ≤ s.size := by omega
                have hw1 : IntKind.i64.wrap ((l1.length : Int) + 1) = (l1.length : Int) + 1 := by rw [IntKind.wrap_i64]; omega
                have hw2 : IntKind.i64.wrap ((s.size : Int) - (l1.length : Int)) = (s.size : Int) - (l1.length : Int) := by rw [IntKind.wrap_i64]; omega
                have hw3 : IntKind.i64.wrap ((s.size : Int) - (l1.length : Int) - 1) = (s.size : Int) - (l1.length : Int) - 1 := by rw [IntKind.wrap_i64]; omega
                go_wp2
                go_region_with (go_at_call 132; refine (digs_any _ _ (by simp; omega)).mono ?_; rintro e w2 ⟨rfl, rfl⟩)
                all_goals go_wp2
                all_goals exact bodyPost_ret (v := .agg #[.int .i64 12, .int .i64 _, .int .i64 _]) (resArg Tryz.results122 rfl (put3 ⟨o0, o1, o2⟩)) rfl ⟨12, _, _, rfl, gs_dot hNN.out hoff.out HX.out H46.out, (((hB.setCell (Nat.le_refl _) _).setCell (Nat.le_refl _) _).setCell (Nat.le_refl _) _).drew⟩
end Go.Proofs.YtlddkhhaclfmiaaGreatDoor

/- The document's DevRead. Helper text: no statement is claimed here. -/
namespace Go.Proofs.YtlddkhhaclfmiaaGreatDoor
open Go.ChangeShapes Go.WideShapes Go.ChangeAt Go.RowKit

theorem resArg2 {fn : Func} {W : World} {b p u : Nat} {tmps : Array Value} {x y z v : Value} (h : fn.results = #[.cell p 51, .tmp u]) (hp : tmps.getD p undef = .pointer (some ⟨b, 0, none⟩)) (hu : tmps.getD u undef = v)
    (hc : W.cell? ⟨b, 0, none⟩ = some x ∧ W.cell? ⟨b, 1, none⟩ = some y ∧ W.cell? ⟨b, 2, none⟩ = some z) : (results fn tmps).run Tryz.prog W = .ok (.tuple #[.agg #[x, y, z], v]) W := by
  obtain ⟨h0, h1, h2⟩ := hc
  rw [results_cell_tmp h, hp, hu]
  simp [go_sem, h0, h1, h2]

/-- What a reading of the text t is. -/
def RdOk (t : List UInt8) (k n p : Int) (b : Bool) : Prop :=
  (b = true ∧ okB k n p = true ∧ txt k n p = t ∧ ∀ K N P, okB K N P = true → txt K N P = t → k = K ∧ n = N ∧ p = P) ∨
  (b = false ∧ k = 0 ∧ n = 0 ∧ p = 0 ∧ ∀ K N P, okB K N P = true → txt K N P ≠ t)
theorem RdOk.one {t : List UInt8} {k n p k' n' p' : Int} {b b' : Bool} (h : RdOk t k n p b) (h' : RdOk t k' n' p' b') : k = k' ∧ n = n' ∧ p = p' ∧ b = b' := by
  rcases h with ⟨rfl, h1, h2, h3⟩ | ⟨rfl, rfl, rfl, rfl, h4⟩ <;> rcases h' with ⟨rfl, g1, g2, g3⟩ | ⟨rfl, rfl, rfl, rfl, g4⟩
  · obtain ⟨a, b, c⟩ := h3 _ _ _ g1 g2
    exact ⟨a, b, c, rfl⟩
  · exact absurd h2 (g4 _ _ _ h1)
  · exact absurd g2 (h4 _ _ _ g1)
  · exact ⟨rfl, rfl, rfl, rfl⟩
def Read (t : List UInt8) (w : World) (e : Ending) (w' : World) : Prop := ∃ (k n p : Int) (b : Bool), e = .returned (.tuple #[.agg #[.int .i64 k, .int .i64 n, .int .i64 p], .bool b]) ∧ RdOk t k n p b ∧ Below w.heap.size w w'

theorem txt_ne {K N P : Int} (h : okB K N P = true) : txt K N P ≠ [] := by
  rcases shape_of h with ⟨-, -, i, hi, -, e⟩ | ⟨-, k, u, k1, k2, -, -, -, e⟩ | hS | hS
  · rw [e]
    have a : i = 0 ∨ i = 1 ∨ i = 2 ∨ i = 3 := by omega
    rcases a with rfl | rfl | rfl | rfl <;> simp [wordL]
  · obtain ⟨c, e2, -, -⟩ := rL_oneT k1 k2
    rw [e, e2]; simp
  · obtain ⟨c, r, e, -⟩ := num_head (.inl hS)
    rw [e]; simp
  · obtain ⟨c, r, e, -⟩ := num_head (.inr hS)
    rw [e]; simp
theorem txt_no {K N P : Int} (h : okB K N P = false) : txt K N P = [] := by simp [txt, h]
theorem read_yes {t : List UInt8} {k n p : Int} (hg : Gs t k n p) (ht : t ≠ []) (h : txt k n p = t) : RdOk t k n p true := by
  refine .inl ⟨rfl, ?_, h, fun K N P hk e => hg K N P (by rw [← e]; exact shape_of hk)⟩
  cases hk : okB k n p
  · rw [txt_no hk] at h; exact absurd h.symm ht
  · rfl
theorem read_no {t : List UInt8} {k n p : Int} (hg : Gs t k n p) (h : txt k n p ≠ t) : RdOk t 0 0 0 false := by
  refine .inr ⟨rfl, rfl, rfl, rfl, fun K N P hk e => ?_⟩
  obtain ⟨rfl, rfl, rfl⟩ := hg K N P (by rw [← e]; exact shape_of hk)
  exact h e
theorem read_empty : RdOk [] 0 0 0 false := .inr ⟨rfl, rfl, rfl, rfl, fun _ _ _ hk e => txt_ne hk e⟩

set_option maxHeartbeats 1000000 in
theorem sread_any (s : ByteArray) (w : World) (hs : s.size ≤ 2000000) :
    Calls Tryz.prog 109 #[.string s] w (Read s.data.toList w) := by
  go_enter Tryz.func109, Tryz.ntmps109
  go_wp2_with fail
  refine (sguess_any s _ hs).mono ?_
  rintro e w1 ⟨k, n, p, rfl, hg, hb⟩
  have HG : Hid (Gs s.data.toList k n p) := hg
  clear hg
  have ob := ((Own.new w (.int .i64 0) (.int .i64 0) (.int .i64 0)).below hb)
  have sw := of_one hb
  have hlt := ob.lt
  by_cases hE : s.toList = []
  · have hE' : (s.toList == []) = true := by simp [hE]
    have HE : Hid (s.data.toList = []) := by rw [← ByteArray.toList_eq]; exact hE
    clear hE
    have ob' := ob
    obtain ⟨⟨r0, r1, r2⟩, y0, y1, y2⟩ := ob'
    go_wp2
    refine bodyPost_ret (v := .tuple #[.agg #[.int .i64 0, .int .i64 0, .int .i64 0], .bool false]) (resArg2 Tryz.results109 rfl rfl ((ob.put _ _ _).alloc _).1) rfl ⟨0, 0, 0, false, rfl, by rw [HE.out]; exact read_empty, ?_⟩
    exact ((((sw.setCell (Nat.le_refl _) _).setCell (Nat.le_refl _) _).setCell (Nat.le_refl _) _)).alloc (by simpa [World.setCell] using sw.size) _
  · have hE' : (s.toList == []) = false := by simp [hE]
    have HE : Hid (s.data.toList ≠ []) := by rw [← ByteArray.toList_eq]; exact hE
    clear hE
    have on := Own.new w1 (.int .i64 k) (.int .i64 n) (.int .i64 p)
    go_wp2_with fail
    refine (stext_any _ _ _ _).mono ?_
    rintro e w2 ⟨rfl, hb2⟩
    have on2 := on.below hb2
    have ob2 := (ob.alloc _).below hb2
    have sw2 : Below w.heap.size w w2 := (sw.alloc sw.size _).trans (hb2.mono (by have := sw.size; simp; omega))
    obtain ⟨⟨r0, r1, r2⟩, y0, y1, y2⟩ := ob2
    obtain ⟨⟨o0, o1, o2⟩, z0, z1, z2⟩ := on2
    by_cases hT : txt k n p = s.toList
    · have hT' : (txt k n p == s.toList) = true := by simp [hT]
      have HT : Hid (txt k n p = s.data.toList) := by rw [← ByteArray.toList_eq]; exact hT
      clear hT
      go_wp2
      exact bodyPost_ret (v := .tuple #[.agg #[.int .i64 k, .int .i64 n, .int .i64 p], .bool true]) (resArg2 Tryz.results109 rfl rfl (put3 ⟨r0, r1, r2⟩)) rfl ⟨k, n, p, true, rfl, read_yes HG.out HE.out HT.out, ((sw2.setCell (Nat.le_refl _) _).setCell (Nat.le_refl _) _).setCell (Nat.le_refl _) _⟩
    · have hT' : (txt k n p == s.toList) = false := by simp [hT]
      have HT : Hid (txt k n p ≠ s.data.toList) := by rw [← ByteArray.toList_eq]; exact hT
      clear hT
      go_wp2
      exact bodyPost_ret (v := .tuple #[.agg #[.int .i64 0, .int .i64 0, .int .i64 0], .bool false]) (resArg2 Tryz.results109 rfl rfl (put3 ⟨r0, r1, r2⟩)) rfl ⟨0, 0, 0, false, rfl, read_no HG.out HT.out, ((sw2.setCell (Nat.le_refl _) _).setCell (Nat.le_refl _) _).setCell (Nat.le_refl _) _⟩
end Go.Proofs.YtlddkhhaclfmiaaGreatDoor

/- What an operand can be asked for, as mathematics. Helper text: no statement is claimed here. -/
namespace Go.Proofs.YtlddkhhaclfmiaaGreatDoor
open Go.ChangeShapes Go.WideShapes Go.ChangeAt Go.RowKit

def isB (k n p : Int) : Bool := okB k n p && rB (kz k)
def isW (k n p : Int) : Bool := okB k n p && rW (kz k)
def isR (k n p : Int) : Bool := okB k n p && rR (kz k)
end Go.Proofs.YtlddkhhaclfmiaaGreatDoor

/- What the tables of contacts and coils say, as mathematics; operands in memory. Helper text: no statement is claimed here. -/
namespace Go.Proofs.YtlddkhhaclfmiaaGreatDoor
open Go.ChangeShapes Go.WideShapes Go.ChangeAt Go.RowKit

def fm0 : Nat → List Nat
  | 1 => [1] | 2 => [1] | 3 => [1, 4] | 4 => [1, 4] | 5 => [2, 2] | 6 => [2, 2] | 7 => [2, 2] | 8 => [2, 2] | 9 => [2, 2] | 10 => [2, 2] | 21 => [10] | 22 => [11] | 23 => [12] | 24 => [10, 4] | 25 => [5] | 26 => [6, 13] | 27 => [6, 13] | 28 => [6, 13] | 29 => [7, 13] | 30 => [8, 2] | 31 => [8, 2, 2] | 32 => [8, 2, 2] | 33 => [8, 2, 2] | 34 => [8, 2, 2] | 35 => [8, 2, 2] | 36 => [9, 2] | 37 => [8, 3] | _ => []
def fm1 : Nat → List Nat
  | 5 => [3, 3] | 6 => [3, 3] | 7 => [3, 3] | 8 => [3, 3] | 9 => [3, 3] | 10 => [3, 3] | 30 => [9, 3] | 31 => [9, 3, 3] | 32 => [9, 3, 3] | 33 => [9, 3, 3] | 34 => [9, 3, 3] | _ => []
def nm : Nat → List UInt8
  | 21 => [111, 117, 116] | 22 => [115, 101, 116] | 23 => [114, 101, 115, 101, 116] | 24 => [112, 117, 108, 115, 101] | 25 => [115, 116, 101, 112] | 26 => [116, 105, 109, 101, 114] | 27 => [104, 111, 108, 100] | 28 => [108, 97, 116, 101] | 29 => [99, 111, 117, 110, 116] | 30 => [109, 111, 118, 101] | 31 => [97, 100, 100] | 32 => [115, 117, 98] | 33 => [109, 117, 108] | 34 => [100, 105, 118] | 35 => [114, 101, 109] | 36 => [114, 101, 97, 108] | 37 => [119, 104, 111, 108, 101] | _ => []
def mk : Nat → Int
  | 2 => 47 | 3 => 43 | 4 => 45 | _ => 0
def ts : Nat → Int
  | 5 => 1 | 6 => 2 | 7 => 3 | 8 => 4 | 9 => 5 | 10 => 6 | _ => 0
def ez (op : Int) : Nat := if 0 ≤ op ∧ op < 38 then op.toNat else 0
theorem ez_nat (i : Nat) (h : i < 38) : ez (i : Int) = i := by unfold ez; rw [if_pos (by omega)]; omega
theorem ez_no (op : Int) (h : op < 0 ∨ 38 ≤ op) : ez op = 0 := by unfold ez; rw [if_neg (by omega)]
/-- A number is among others. -/
def hasK (ks : List Int) (k : Int) : Bool := ks.contains k
def kinB (ks : List Int) (k n p : Int) : Bool := okB k n p && hasK ks k
/-- The kinds of a sort of operands. -/
def sk : Nat → List Int
  | 4 => [5] | 5 => [4] | 6 => [7] | 7 => [8] | 8 => [9] | 9 => [10] | 10 => [2, 3] | 11 => [2, 3, 4] | 12 => [2, 3, 4, 7, 8] | 13 => [11] | _ => []
/-- Whether an operand is of a sort. -/
def fitB : Nat → Int → Int → Int → Bool
  | 1, k, n, p => isB k n p
  | 2, k, n, p => isW k n p
  | 3, k, n, p => isR k n p
  | 13, k, n, p => kinB [11] k n p && decide (0 ≤ n)
  | c, k, n, p => kinB (sk c) k n p
/-- An operand: kind, number, places. -/
abbrev Ar := Int × Int × Int
def at3 (ys : List Ar) (i : Nat) : Ar := ys.getD i (0, 0, 0)
def fitA (fs : List Nat) (ys : List Ar) (i : Nat) : Bool := fitB (fs.getD i 0) (at3 ys i).1 (at3 ys i).2.1 (at3 ys i).2.2
/-- The operands are ys one row of sorts says. -/
def takeB (fs : List Nat) (ys : List Ar) : Bool := decide (ys.length ≠ 0) && decide (ys.length = fs.length) && (List.range ys.length).all (fitA fs ys)
/-- Operands that lie in memory. -/
def ArgsAt (w : World) (b : Nat) (ys : List Ar) : Prop := ∀ i, i < ys.length → w.cell? ⟨b, i * 3, none⟩ = some (.int .i64 (at3 ys i).1) ∧ w.cell? ⟨b, i * 3 + 1, none⟩ = some (.int .i64 (at3 ys i).2.1) ∧ w.cell? ⟨b, i * 3 + 2, none⟩ = some (.int .i64 (at3 ys i).2.2)
def ArgsIs (w : World) (p : Option Addr) (ys : List Ar) : Prop := ys = [] ∨ ∃ b, p = some ⟨b, 0, none⟩ ∧ b < w.heap.size ∧ ArgsAt w b ys
theorem ArgsAt.to {w w' : World} {b : Nat} {ys : List Ar} (h : ArgsAt w b ys) (hlt : b < w.heap.size) (hb : Below w.heap.size w w') : ArgsAt w' b ys := fun i hi => by
  rw [hb.cell (p := ⟨b, i * 3, none⟩) hlt, hb.cell (p := ⟨b, i * 3 + 1, none⟩) hlt, hb.cell (p := ⟨b, i * 3 + 2, none⟩) hlt]
  exact h i hi
theorem ArgsIs.to {w w' : World} {p : Option Addr} {ys : List Ar} (h : ArgsIs w p ys) (hb : Below w.heap.size w w') : ArgsIs w' p ys := by
  rcases h with h | ⟨b, rfl, hlt, h⟩
  · exact .inl h
  · exact .inr ⟨b, rfl, Nat.lt_of_lt_of_le hlt hb.size, h.to hlt hb⟩
/-- The sorts of a form, in range. -/
def FsOk (fs : List Nat) : Prop := fs.length ≤ 3 ∧ ∀ i, i < fs.length → 1 ≤ fs.getD i 0 ∧ fs.getD i 0 ≤ 13
theorem fm0_ok (i : Nat) : FsOk (fm0 i) := by
  unfold fm0; split <;> exact ⟨by decide, by decide⟩
theorem fm1_ok (i : Nat) : FsOk (fm1 i) := by
  unfold fm1; split <;> exact ⟨by decide, by decide⟩
theorem all_upto {fs : List Nat} {ys : List Ar} {j : Nat} (h : ∀ i, i < j → fitA fs ys i = true) (hj : fitA fs ys j = true) : ∀ i, i < j + 1 → fitA fs ys i = true := fun i hi => by
  rcases Nat.lt_or_ge i j with h' | h'
  · exact h i h'
  · obtain rfl : i = j := by omega
    exact hj
theorem take_yes {fs : List Nat} {ys : List Ar} (h0 : ys.length ≠ 0) (hl : ys.length = fs.length) (h : ∀ i, i < ys.length → fitA fs ys i = true) : takeB fs ys = true := by
  simp only [takeB, Bool.and_eq_true, decide_eq_true_eq, List.all_eq_true, List.mem_range]
  exact ⟨⟨h0, hl⟩, h⟩
theorem take_no {fs : List Nat} {ys : List Ar} {j : Nat} (hj : j < ys.length) (h : fitA fs ys j = false) : takeB fs ys = false := by
  rw [Bool.eq_false_iff]
  intro ht
  simp only [takeB, Bool.and_eq_true, decide_eq_true_eq, List.all_eq_true, List.mem_range] at ht
  rw [ht.2 j hj] at h
  cases h
/-- The operands are as the tables say of a number. -/
def okA (i : Nat) (ys : List Ar) : Bool := takeB (fm0 i) ys || takeB (fm1 i) ys
/-- A contact or coil as a value. -/
abbrev elemV (op : Int) (p : Option Addr) (n cap : Nat) : Value := .agg #[.int .i64 op, .slice p n cap]
def conB (op : Int) (ys : List Ar) : Bool := decide (nm (ez op) = []) && okA (ez op) ys
def coilB (op : Int) (ys : List Ar) : Bool := decide (nm (ez op) ≠ []) && okA (ez op) ys
theorem elem_at {w w1 : World} {op : Int} {p : Option Addr} {n cap : Nat} (hb : Below (w.alloc (.cells #[.int .i64 op, .slice p n cap] 25)).heap.size (w.alloc (.cells #[.int .i64 op, .slice p n cap] 25)) w1) (o : Obj) :
    (w1.alloc o).cell? ⟨w.heap.size, 1, none⟩ = some (.slice p n cap) := by
  have h := hb.cell (p := ⟨w.heap.size, 1, none⟩) (by simp)
  rw [World.cell?_alloc_lt _ _ _ (Nat.lt_of_lt_of_le (by simp) hb.size), h, World.cell?_alloc_mark]
  rfl
end Go.Proofs.YtlddkhhaclfmiaaGreatDoor

/- A contact or coil in memory of the call's own. Helper text: no statement is claimed here. -/
namespace Go.Proofs.YtlddkhhaclfmiaaGreatDoor
open Go.ChangeShapes Go.WideShapes Go.ChangeAt Go.RowKit

theorem resElem {fn : Func} {W : World} {b p : Nat} {tmps : Array Value} {x y : Value} (h : fn.results = #[.cell p 25]) (hp : tmps.getD p undef = .pointer (some ⟨b, 0, none⟩))
    (hc : W.cell? ⟨b, 0, none⟩ = some x ∧ W.cell? ⟨b, 1, none⟩ = some y) : (results fn tmps).run Tryz.prog W = .ok (.agg #[x, y]) W := by
  obtain ⟨h0, h1⟩ := hc
  simp only [results, h]
  simp [go_sem]
  rw [show tmps[p]?.getD undef = .pointer (some ⟨b, 0, none⟩) by simpa [Array.getD_eq_getD_getElem?] using hp]
  simp [go_sem, h0, h1]
theorem put2 {w1 : World} {b : Nat} {x y u0 u1 : Value} (hc : w1.cell? ⟨b, 0, none⟩ = some u0 ∧ w1.cell? ⟨b, 1, none⟩ = some u1) :
    ((w1.setCell ⟨b, 0, none⟩ x).setCell ⟨b, 1, none⟩ y).cell? ⟨b, 0, none⟩ = some x ∧ ((w1.setCell ⟨b, 0, none⟩ x).setCell ⟨b, 1, none⟩ y).cell? ⟨b, 1, none⟩ = some y := by
  obtain ⟨h0, h1⟩ := hc
  have e1 : (w1.setCell ⟨b, 0, none⟩ x).cell? ⟨b, 1, none⟩ = some u1 := by rw [World.cell?_setCell_other _ _ _ _ (by simp)]; exact h1
  refine ⟨?_, World.cell?_setCell_same _ _ _ e1⟩
  rw [World.cell?_setCell_other _ _ _ _ (by simp)]; exact World.cell?_setCell_same _ _ _ h0
/-- An Elem of the call's own lies in block b. -/
def Own2 (w : World) (b : Nat) (x y : Value) : Prop := (w.cell? ⟨b, 0, none⟩ = some x ∧ w.cell? ⟨b, 1, none⟩ = some y) ∧ w.frozen? ⟨b, 0, none⟩ = false ∧ w.frozen? ⟨b, 1, none⟩ = false
theorem Own2.new (w : World) (x y : Value) : Own2 (w.alloc (.cells #[x, y] 25)) w.heap.size x y := by
  refine ⟨⟨?_, ?_⟩, ?_, ?_⟩ <;> simp [go_sem]
theorem Own2.lt {w : World} {b : Nat} {x y : Value} (h : Own2 w b x y) : b < w.heap.size := World.block_lt_of_cell? w ⟨b, 0, none⟩ h.1.1
theorem Own2.below {w w' : World} {b : Nat} {x y : Value} (h : Own2 w b x y) (hb : Below w.heap.size w w') : Own2 w' b x y := by
  have hlt := h.lt
  unfold Own2
  rw [hb.cell (p := ⟨b, 0, none⟩) hlt, hb.cell (p := ⟨b, 1, none⟩) hlt, hb.frozen (p := ⟨b, 0, none⟩) hlt, hb.frozen (p := ⟨b, 1, none⟩) hlt]
  exact h
theorem Own2.alloc {b : Nat} {w : World} {x y : Value} (h : Own2 w b x y) (o : Obj) : Own2 (w.alloc o) b x y := h.below (one w o)
theorem Own2.put {w : World} {b : Nat} {x y : Value} (h : Own2 w b x y) (x' y' : Value) : Own2 ((w.setCell ⟨b, 0, none⟩ x').setCell ⟨b, 1, none⟩ y') b x' y' :=
  ⟨put2 h.1, by rw [World.frozen?_setCell, World.frozen?_setCell]; exact h.2.1, by rw [World.frozen?_setCell, World.frozen?_setCell]; exact h.2.2⟩
theorem Own2.set {w : World} {b c i : Nat} {x y v : Value} (h : Own2 w b x y) (hc : c ≠ b) : Own2 (w.setCell ⟨c, i, none⟩ v) b x y := by
  unfold Own2
  rw [World.cell?_setCell_other w ⟨c, i, none⟩ ⟨b, 0, none⟩ _ (by simp <;> omega), World.cell?_setCell_other w ⟨c, i, none⟩ ⟨b, 1, none⟩ _ (by simp <;> omega), World.frozen?_setCell, World.frozen?_setCell]
  exact h
/-- The cells of operands in a row. -/
def arCells (ys : List Ar) : List Value := ys.flatMap fun a => [.int .i64 a.1, .int .i64 a.2.1, .int .i64 a.2.2]
theorem arCells_at : ∀ (ys : List Ar) (i : Nat), i < ys.length → (arCells ys)[i * 3]? = some (.int .i64 (at3 ys i).1) ∧ (arCells ys)[i * 3 + 1]? = some (.int .i64 (at3 ys i).2.1) ∧ (arCells ys)[i * 3 + 2]? = some (.int .i64 (at3 ys i).2.2)
  | [], i, h => by simp at h
  | a :: l, 0, _ => by simp [arCells, at3]
  | a :: l, i + 1, h => by
    have ih := arCells_at l i (by simpa using h)
    rw [show (i + 1) * 3 = i * 3 + 1 + 1 + 1 by omega]
    simpa [arCells, at3] using ih
theorem arCells_len (ys : List Ar) : (arCells ys).length = ys.length * 3 := by
  induction ys with
  | nil => rfl
  | cons a l ih => simp only [arCells, List.flatMap_cons, List.length_append, List.length_cons, List.length_nil] at ih ⊢; omega
theorem argsAt_new (w : World) (ys : List Ar) (t : TypeId) : ArgsAt (w.alloc (.cells (arCells ys).toArray t)) w.heap.size ys := fun i hi => by
  obtain ⟨a, b, c⟩ := arCells_at ys i hi
  refine ⟨?_, ?_, ?_⟩ <;> rw [World.cell?_alloc_mark] <;> simpa
theorem ArgsAt.set {w : World} {b c i : Nat} {v : Value} {ys : List Ar} (h : ArgsAt w b ys) (hc : c ≠ b) : ArgsAt (w.setCell ⟨c, i, none⟩ v) b ys := fun j hj => by
  rw [World.cell?_setCell_other w ⟨c, i, none⟩ ⟨b, _, none⟩ _ (by simp <;> omega), World.cell?_setCell_other w ⟨c, i, none⟩ ⟨b, _, none⟩ _ (by simp <;> omega), World.cell?_setCell_other w ⟨c, i, none⟩ ⟨b, _, none⟩ _ (by simp <;> omega)]
  exact h j hj
theorem Own.set1 {w : World} {b : Nat} {x y z : Value} (h : Own w b x y z) (v : Value) : Own (w.setCell ⟨b, 1, none⟩ v) b x v z := by
  unfold Own
  rw [World.cell?_setCell_other w ⟨b, 1, none⟩ ⟨b, 0, none⟩ _ (by simp), World.cell?_setCell_other w ⟨b, 1, none⟩ ⟨b, 2, none⟩ _ (by simp), World.cell?_setCell_same w ⟨b, 1, none⟩ _ h.1.2.1, World.frozen?_setCell, World.frozen?_setCell, World.frozen?_setCell]
  exact ⟨⟨h.1.1, rfl, h.1.2.2⟩, h.2⟩
end Go.Proofs.YtlddkhhaclfmiaaGreatDoor
