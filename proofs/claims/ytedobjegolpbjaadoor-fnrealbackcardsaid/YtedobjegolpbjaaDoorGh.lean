/- Reading a real number, as the document does it: the walk of l2Read. Helper text: no statement is claimed here. -/
import Derived.Test.YtedobjegolpbjaaDoorGg
namespace Go.Proofs.YtedobjegolpbjaaDoor
open Go.ChangeShapes Go.WideShapes Go.ChangeAt Go.RowKit Fl

set_option maxHeartbeats 400000 in
theorem l2InfG (w : World) : Calls Tryd.prog 31 #[] w fun e w' => e = .returned (.float .f64 (wi false)) ∧ w' = w := by
  have h := run_someN (show floatBits .quo .f64 4607182418800017408 0 = some (wi false) from one_by_zero false)
  go_enter Tryd.func31, Tryd.ntmps31
  go_wp2
  go_ret
  exact ⟨rfl, rfl⟩

theorem slice_G (s : ByteArray) (i j : Nat) (h1 : i ≤ j) (h2 : j ≤ s.size) (w : World) : (Instr.slice 9 (.string s) (some (.int .i64 (i : Int))) (some (.int .i64 (j : Int))) none).run Tryd.prog w = .ok (.string (s.extract i j)) w := by
  have hi : ¬ (s.size : Int) < j := by omega
  have hj : ¬ (j : Int) < i := by omega
  simp [Instr.slice, Instr.sliceBounds, Instr.sliceBound, asIntOf, run_underlying Tryd.underlying9, h1, h2]
theorem slice_to (s : ByteArray) (j : Nat) (h2 : j ≤ s.size) (w : World) : (Instr.slice 9 (.string s) none (some (.int .i64 (j : Int))) none).run Tryd.prog w = .ok (.string (s.extract 0 j)) w := by
  simp [Instr.slice, Instr.sliceBounds, Instr.sliceBound, asIntOf, run_underlying Tryd.underlying9, h2]
theorem slice_from (s : ByteArray) (i : Nat) (h1 : i ≤ s.size) (w : World) : (Instr.slice 9 (.string s) (some (.int .i64 (i : Int))) none none).run Tryd.prog w = .ok (.string (s.extract i s.size)) w := by
  simp [Instr.slice, Instr.sliceBounds, Instr.sliceBound, asIntOf, run_underlying Tryd.underlying9, h1]
def FinV (N j x : Nat) : Prop := ∃ m k, Sc m k ∧ k ≤ 2045 ∧ 0 < m ∧ x = wd false m k ∧ m * 2 ^ k = N * 2 ^ j
theorem up_start {N z x : Nat} (h : FinV N z x) : Up N (z + 0) x := by rw [Nat.add_zero]; exact .inl h
theorem fin_start {N : Nat} (h0 : 1 ≤ N) (h : N ≤ 9007199254740991) : FinV N 1074 (floatOfInt .f64 (N : Int)) := by
  obtain ⟨z, hz⟩ : ∃ z, z = 1074 := ⟨_, rfl⟩
  obtain ⟨m, k, g1, g2, g3, g4, g5⟩ := ofInt_z (n := (N : Int)) (by simp; omega) z hz
  have hs : decide ((N : Int) < 0) = false := by simp
  have hna : ((N : Nat) : Int).natAbs = N := by simp
  rw [hs] at g3
  rw [hna] at g4
  rw [← hz]
  refine ⟨m, k, g1, by omega, ?_, g3, g4⟩
  rcases Nat.eq_zero_or_pos m with hh | hh
  · have := g5.2 hh; omega
  · exact hh
set_option maxRecDepth 100000 in
set_option maxHeartbeats 2000000 in
theorem l2read_any (s : ByteArray) (w : World) (hs : s.size ≤ 1900000) :
    Calls Tryd.prog 32 #[.string s] w (L2d s.data.toList w) := by
  obtain ⟨T, hT⟩ : ∃ T, T = s.data.toList := ⟨_, rfl⟩
  have HT : Hid (T = s.data.toList) := hT
  rw [← hT]
  clear hT
  have HLEN : Hid (s.data.toList.length = s.size) := by show _ = _; simp
  go_enter Tryd.func32, Tryd.ntmps32
  go_wp2_with fail
  refine (findS_any s _ (by omega)).mono ?_
  rintro e w1 ⟨v, rfl, rfl, hf⟩
  rcases hf with ⟨rfl, hn⟩ | ⟨l1, l2, hl, h42, rfl⟩
  · have HZ : Hid (L2R T 0 false) := l2_no fun m k _ _ _ e => hn (by rw [← HT.out, e]; exact oT_mem m k)
    clear hn
    go_wp2
    exact bodyPost_ret (v := .tuple #[.float .f64 0, .bool false]) (post_r Tryd.results32 rfl rfl) rfl ⟨0, false, rfl, HZ.out, rfl⟩
  have HL : Hid (T = l1 ++ 42 :: l2) := by show _ = _; rw [HT.out]; exact hl
  have H42 : Hid ((42 : UInt8) ∉ l1) := h42
  have hlen : l1.length + (l2.length + 1) = s.size := by
    have := HLEN.out
    rw [← this, hl]; simp
  clear hl h42
  have hge : ¬ (l1.length : Int) < 0 := by omega
  by_cases hsh : s.size < l1.length + 4
  · have hsh' : (s.size : Int) < (l1.length : Int) + 4 := by omega
    have HZ : Hid (L2R T 0 false) := l2_no fun m k _ _ _ e => by
      have c := (oT_cut H42.out (HL.out.symm.trans e)).2
      have := itoa_ne (oE m k)
      rw [c] at hlen
      simp at hlen
      omega
    go_wp2
    exact bodyPost_ret (v := .tuple #[.float .f64 0, .bool false]) (post_r Tryd.results32 rfl rfl) rfl ⟨0, false, rfl, HZ.out, rfl⟩
  have hsh' : ¬ (s.size : Int) < (l1.length : Int) + 4 := by omega
  have HA : Hid (l1.length + (l2.length + 1) = s.size) := hlen
  clear hlen
  obtain ⟨a, ha⟩ : ∃ a, a = l1.length := ⟨_, rfl⟩
  have HAL : Hid (a = l1.length) := ha
  rw [← ha] at hsh hsh' hge ⊢
  clear ha
  have a4 : a + 4 ≤ s.size := by omega
  have a3 : (a : Int) + 3 ≤ s.size := by omega
  clear hsh
  have hsl : ∀ w : World, (Instr.slice 9 (.string s) (some (.int .i64 (a : Int))) (some (.int .i64 ((a : Int) + 3))) none).run Tryd.prog w = .ok (.string (s.extract a (a + 3))) w := fun w => by
    have := slice_G s a (a + 3) (by omega) (by omega) w
    simpa using this
  have hto : ∀ w : World, (Instr.slice 9 (.string s) none (some (.int .i64 (a : Int))) none).run Tryd.prog w = .ok (.string (s.extract 0 a)) w := fun w => slice_to s a (by omega) w
  have hfr : ∀ w : World, (Instr.slice 9 (.string s) (some (.int .i64 ((a : Int) + 3))) none none).run Tryd.prog w = .ok (.string (s.extract (a + 3) s.size)) w := fun w => by
    have := slice_from s (a + 3) (by omega) w
    simpa using this
  have X3 : Hid ((s.extract a (a + 3)).data.toList = 42 :: l2.take 2) := by
    show _ = _
    rw [ByteArray.data_extract]
    simp
    have := HL.out
    rw [HT.out] at this
    rw [this, HAL.out]
    simp
  have X1 : Hid ((s.extract 0 a).data.toList = l1) := by
    show _ = _
    rw [ext_toG, ← HT.out, HL.out, HAL.out]
    simp
  have X2 : Hid ((s.extract (a + 3) s.size).data.toList = l2.drop 2) := by
    show _ = _
    rw [ext_allG, ← HT.out, HL.out, HAL.out]
    simp
  generalize s.extract a (a + 3) = y3 at *
  generalize s.extract 0 a = y1 at *
  generalize s.extract (a + 3) s.size = y2 at *
  by_cases hsg : l2.take 2 = [50, 94]
  case neg =>
    have hne : (y3.toList == [42, 50, 94]) = false := by
      rw [ByteArray.toList_eq, X3.out]
      simpa using hsg
    have HZ : Hid (L2R T 0 false) := l2_no fun m k _ _ _ e => by
      have c := (oT_cut H42.out (HL.out.symm.trans e)).2
      exact hsg (by rw [c]; rfl)
    clear hsg
    go_wp2
    exact bodyPost_ret (v := .tuple #[.float .f64 0, .bool false]) (post_r Tryd.results32 rfl rfl) rfl ⟨0, false, rfl, HZ.out, rfl⟩
  have heq : (y3.toList == [42, 50, 94]) = true := by
    rw [ByteArray.toList_eq, X3.out, hsg]; rfl
  have HL2 : Hid (T = l1 ++ 42 :: 50 :: 94 :: l2.drop 2) := by
    show _ = _
    have := List.take_append_drop 2 l2
    rw [hsg] at this
    rw [HL.out]
    conv => lhs; rw [← this]
    rfl
  clear hsg
  generalize l2.drop 2 = r at *
  have y1s : y1.size ≤ 2000000 := by
    have h1 : y1.data.toList.length = y1.size := by simp
    have := HA.out
    rw [X1.out] at h1; omega
  have y2s : y2.size ≤ 2000000 := by
    have h1 : y2.data.toList.length = y2.size := by simp
    have h3 := congrArg List.length HL2.out
    rw [HT.out, HLEN.out] at h3
    simp at h3
    rw [X2.out] at h1; omega
  have hbd : ∀ {l n b}, NumR l n b → -100000000000000000 ≤ n ∧ n ≤ 100000000000000000 := fun {l n b} h => by
    rcases h with ⟨-, -, h⟩ | ⟨-, rfl, -⟩
    · rw [ten17] at h; omega
    · omega
  go_wp2_with fail
  refine (l9num_any y1 _ y1s).mono ?_
  rintro e w2 ⟨n, b1, rfl, hn, rfl⟩
  rw [X1.out] at hn
  go_wp2_with fail
  refine (l9num_any y2 _ y2s).mono ?_
  rintro e w3 ⟨E, b2, rfl, hE, rfl⟩
  rw [X2.out] at hE
  obtain ⟨n0, n1⟩ := hbd hn
  obtain ⟨e0, e1⟩ := hbd hE
  clear X1 X2 X3 hbd heq hsl hto hfr y1s y2s
  cases b1
  · have HZ : Hid (L2R T 0 false) := by show L2R T 0 false; rw [HL2.out]; exact l2_no (bad_left H42.out hn)
    clear hn hE
    go_wp2
    exact bodyPost_ret (v := .tuple #[.float .f64 0, .bool false]) (post_r Tryd.results32 rfl rfl) rfl ⟨0, false, rfl, HZ.out, rfl⟩
  cases b2
  · have HZ : Hid (L2R T 0 false) := by show L2R T 0 false; rw [HL2.out]; exact l2_no (bad_right H42.out hE)
    clear hn hE
    go_wp2
    exact bodyPost_ret (v := .tuple #[.float .f64 0, .bool false]) (post_r Tryd.results32 rfl rfl) rfl ⟨0, false, rfl, HZ.out, rfl⟩
  have HB : Hid (¬ Good n E → L2R T 0 false) := fun h => by rw [HL2.out]; exact l2_no (bad_val H42.out hn hE h)
  have HN : Hid (NumR l1 n true) := hn
  have HE : Hid (NumR r E true) := hE
  clear hn hE
  by_cases c1 : n < 1
  · have HZ : Hid (L2R T 0 false) := HB.out fun g => by have := g.n1; omega
    go_wp2
    exact bodyPost_ret (v := .tuple #[.float .f64 0, .bool false]) (post_r Tryd.results32 rfl rfl) rfl ⟨0, false, rfl, HZ.out, rfl⟩
  by_cases c2 : 9007199254740991 < n
  · have HZ : Hid (L2R T 0 false) := HB.out fun g => by have := g.n2; omega
    go_wp2
    exact bodyPost_ret (v := .tuple #[.float .f64 0, .bool false]) (post_r Tryd.results32 rfl rfl) rfl ⟨0, false, rfl, HZ.out, rfl⟩
  obtain ⟨N, rfl⟩ := Int.eq_ofNat_of_zero_le (show 0 ≤ n by omega)
  by_cases c3 : N % 2 = 0
  · have HZ : Hid (L2R T 0 false) := HB.out fun g => by have := g.odd; omega
    have c3' : ((N : Int) % 2 == 0) = true := by simp; omega
    clear c3
    go_wp2
    exact bodyPost_ret (v := .tuple #[.float .f64 0, .bool false]) (post_r Tryd.results32 rfl rfl) rfl ⟨0, false, rfl, HZ.out, rfl⟩
  have c3' : ((N : Int) % 2 == 0) = false := by simp; omega
  by_cases c4 : E < -1074
  · have HZ : Hid (L2R T 0 false) := HB.out fun g => by have := g.e1; omega
    clear c3
    go_wp2
    exact bodyPost_ret (v := .tuple #[.float .f64 0, .bool false]) (post_r Tryd.results32 rfl rfl) rfl ⟨0, false, rfl, HZ.out, rfl⟩
  by_cases c5 : 1023 < E
  · have HZ : Hid (L2R T 0 false) := HB.out fun g => by have := g.e2; omega
    clear c3
    go_wp2
    exact bodyPost_ret (v := .tuple #[.float .f64 0, .bool false]) (post_r Tryd.results32 rfl rfl) rfl ⟨0, false, rfl, HZ.out, rfl⟩
  have HG : Hid (Good (N : Int) E) := ⟨by omega, by omega, by omega, by omega, by omega⟩
  clear c3
  have HEND : Hid (∀ x, Up N (1074 + E).toNat x → L2R T x (ord x (wi false) == some .lt)) := fun x hU => by
    rw [HL2.out]; exact l2_end H42.out HN.out HE.out HG.out rfl hU
  have HSTART : Hid (FinV N 1074 (floatOfInt .f64 (N : Int))) := fin_start (by omega) (by omega)
  clear HB HN HE HG HL2 HL HA HAL H42 HT HLEN
  go_wp2
  go_loop [9, 10] (fun x c => ∃ (r j : Nat), x = .float .f64 r ∧ c = .int .i64 (j : Int) ∧ Up N (1074 + j) r ∧ (j = 0 → FinV N 1074 r) ∧ (j = 0 ∨ (j : Int) ≤ E)) (fun _ c => (1024 - intOf c).toNat)
  case atStart => exact ⟨_, 0, rfl, rfl, up_start HSTART.out, fun _ => HSTART.out, .inl rfl⟩
  case round =>
    clear HSTART
    obtain ⟨q, j, rfl, rfl, hU, hF, hj⟩ := hrel
    by_cases hlt : (j : Int) < E
    · obtain ⟨q2, hr, hU2⟩ := hU.step
      have hrun := run_someN hr
      have H2 : Hid (Up N (1074 + (j + 1)) q2) := hU2
      clear hU hr hU2 hF
      go_wp2
      exact ⟨⟨q2, j + 1, rfl, by go_num, H2.out, fun h => by omega, by omega⟩, by simp [intOf]; omega⟩
    · have HI : Hid ((0 ≤ E ∧ Up N (1074 + E).toNat q) ∨ (E < 0 ∧ FinV N 1074 q)) := by
        by_cases h0 : 0 ≤ E
        · left
          refine ⟨h0, ?_⟩
          have : (1074 + E).toNat = 1074 + j := by omega
          rw [this]; exact hU
        · right; exact ⟨by omega, hF (by omega)⟩
      clear hU hF hj
      go_wp2
      go_loop [9, 11] (fun x c => ∃ (r j : Nat), x = .float .f64 r ∧ c = .int .i64 (-(j : Int)) ∧ ((0 ≤ E ∧ j = 0 ∧ Up N (1074 + E).toNat r) ∨ (E < 0 ∧ (j : Int) ≤ -E ∧ FinV N (1074 - j) r))) (fun _ c => (intOf c - E).toNat)
      case atStart =>
        rcases HI.out with ⟨a1, a2⟩ | ⟨a1, a2⟩
        · exact ⟨q, 0, rfl, rfl, .inl ⟨a1, rfl, a2⟩⟩
        · exact ⟨q, 0, rfl, rfl, .inr ⟨a1, by omega, a2⟩⟩
      case round =>
        clear HI hlt
        obtain ⟨q1, j1, rfl, rfl, hI⟩ := hrel
        by_cases hlt : E < -(j1 : Int)
        · rcases hI with ⟨a1, a2, -⟩ | ⟨a1, a2, a3⟩
          · omega
          obtain ⟨i1, hi1⟩ : ∃ i1, 1074 - j1 = i1 + 1 := ⟨1074 - j1 - 1, by omega⟩
          rw [hi1] at a3
          obtain ⟨q2, hr, hF2⟩ := Up.half a3
          have hrun := run_someN hr
          have H2 : Hid (FinV N i1 q2) := hF2
          clear a3 hr hF2
          go_wp2
          refine ⟨⟨q2, j1 + 1, rfl, by go_num, .inr ⟨a1, by omega, ?_⟩⟩, by simp [intOf]; omega⟩
          have : 1074 - (j1 + 1) = i1 := by omega
          rw [this]; exact H2.out
        · have HU : Hid (Up N (1074 + E).toNat q1) := by
            show Up _ _ _
            rcases hI with ⟨a1, a2, a3⟩ | ⟨a1, a2, a3⟩
            · exact a3
            · have : (1074 + E).toNat = 1074 - j1 := by omega
              rw [this]; exact .inl a3
          clear hI
          have HR : Hid (L2R T q1 (ord q1 (wi false) == some .lt)) := HEND.out q1 HU.out
          go_wp2_with fail
          refine (l2InfG _).mono ?_
          rintro e w4 ⟨rfl, rfl⟩
          generalize wi false = inf at *
          go_wp2
          exact bodyPost_ret (v := .tuple #[.float .f64 q1, .bool (ord q1 inf == some .lt)]) (post_r Tryd.results32 rfl rfl) rfl ⟨q1, _, rfl, HR.out, rfl⟩
end Go.Proofs.YtedobjegolpbjaaDoor
