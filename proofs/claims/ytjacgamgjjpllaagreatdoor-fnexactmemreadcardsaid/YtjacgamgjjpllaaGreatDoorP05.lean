/- Reading a real number, as the document does it: the walk of l2Read. Helper text: no statement is claimed here. -/
import Derived.Test.YtjacgamgjjpllaaGreatDoorP04
import Derived.Test.YtjacgamgjjpllaaGreatDoorRows
import Derived.WalkKit
import Derived.ProofKit
import Derived.LaidMore
import Derived.OpenShut
import Derived.Below
import Derived.Deep.QuietTactic
import Derived.BigQuiet
import Derived.Deep.RegionHeld3
import Derived.WalkSmall
import Derived.Lib.QuietBelow
namespace Go.Proofs.YtjacgamgjjpllaaGreatDoor
open Go.ChangeShapes Go.WideShapes Go.ChangeAt Go.RowKit Fl

set_option maxHeartbeats 400000 in
theorem l2InfG (w : World) : Calls Tryz.prog 68 #[] w fun e w' => e = .returned (.float .f64 (wi false)) ∧ w' = w := by
  have h := run_someN (show floatBits .quo .f64 4607182418800017408 0 = some (wi false) from one_by_zero false)
  go_enter Tryz.func68, Tryz.ntmps68
  go_wp2
  go_ret
  exact ⟨rfl, rfl⟩

theorem slice_G (s : ByteArray) (i j : Nat) (h1 : i ≤ j) (h2 : j ≤ s.size) (w : World) : (Instr.slice 9 (.string s) (some (.int .i64 (i : Int))) (some (.int .i64 (j : Int))) none).run Tryz.prog w = .ok (.string (s.extract i j)) w := by
  have hi : ¬ (s.size : Int) < j := by omega
  have hj : ¬ (j : Int) < i := by omega
  simp [Instr.slice, Instr.sliceBounds, Instr.sliceBound, asIntOf, run_underlying Tryz.underlying9, h1, h2]
theorem slice_to (s : ByteArray) (j : Nat) (h2 : j ≤ s.size) (w : World) : (Instr.slice 9 (.string s) none (some (.int .i64 (j : Int))) none).run Tryz.prog w = .ok (.string (s.extract 0 j)) w := by
  simp [Instr.slice, Instr.sliceBounds, Instr.sliceBound, asIntOf, run_underlying Tryz.underlying9, h2]
theorem slice_from (s : ByteArray) (i : Nat) (h1 : i ≤ s.size) (w : World) : (Instr.slice 9 (.string s) (some (.int .i64 (i : Int))) none none).run Tryz.prog w = .ok (.string (s.extract i s.size)) w := by
  simp [Instr.slice, Instr.sliceBounds, Instr.sliceBound, asIntOf, run_underlying Tryz.underlying9, h1]
def FinV (N j x : Nat) : Prop := ∃ m k, Sc m k ∧ k ≤ 2045 ∧ 0 < m ∧ x = wd false m k ∧ m * 2 ^ k = N * 2 ^ j
theorem up_start {N z x : Nat} (h : FinV N z x) : Up N (z + 0) x := by rw [Nat.add_zero]; exact .inl h
theorem fin_start {N : Nat} (h0 : 1 ≤ N) (h : N ≤ 9007199254740991) : FinV N 1074 (floatOfInt .f64 (N : Int)) := by
  obtain ⟨z, hz⟩ : ∃ z, z = 1074 := ⟨_, rfl⟩
  obtain ⟨m, k, g1, g2, g3, g4, g5⟩ := ofInt_z (n := (N : Int)) (by simp; omega) z hz
  have hs : decide ((N : Int) < 0) = false := by simp
  have hna : ((N : Nat) : Int).natAbs = N := by simp
  rw [hs] at g3
  rw [hna] at g4
  rw [← hz]
  refine ⟨m, k, g1, by omega, ?_, g3, g4⟩
  rcases Nat.eq_zero_or_pos m with hh | hh
  · have := g5.2 hh; omega
  · exact hh
set_option maxRecDepth 100000 in
set_option maxHeartbeats 2000000 in
theorem l2read_any (s : ByteArray) (w : World) (hs : s.size ≤ 1900000) :
    Calls Tryz.prog 136 #[.string s] w (L2d s.data.toList w) := by
  obtain ⟨T, hT⟩ : ∃ T, T = s.data.toList := ⟨_, rfl⟩
  have HT : Hid (T = s.data.toList) := hT
  rw [← hT]
  clear hT
  have HLEN : Hid (s.data.toList.length = s.size) := by show _ = _; simp
  go_enter Tryz.func136, Tryz.ntmps136
  go_wp2_with fail
  refine (findS_any s _ (by omega)).mono ?_
  rintro e w1 ⟨v, rfl, rfl, hf⟩
  rcases hf with ⟨rfl, hn⟩ | ⟨l1, l2, hl, h42, rfl⟩
  · have HZ : Hid (L2R T 0 false) := l2_no fun m k _ _ _ e => hn (by rw [← HT.out, e]; exact oT_mem m k)
    clear hn
    go_wp2
    exact bodyPost_ret (v := .tuple #[.float .f64 0, .bool false]) (post_r Tryz.results136 rfl rfl) rfl ⟨0, false, rfl, HZ.out, rfl⟩
  have HL : Hid (T = l1 ++ 42 :: l2) := by show _ = _; rw [HT.out]; exact hl
  have H42 : Hid ((42 : UInt8) ∉ l1) := h42
  have hlen : l1.length + (l2.length + 1) = s.size := by
    have := HLEN.out
    rw [← this, hl]; simp
  clear hl h42
  have hge : ¬ (l1.length : Int) < 0 := by omega
  by_cases hsh : s.size < l1.length + 4
  · have hsh' : (s.size : Int) < (l1.length : Int) + 4 := by omega
    have HZ : Hid (L2R T 0 false) := l2_no fun m k _ _ _ e => by
      have c := (oT_cut H42.out (HL.out.symm.trans e)).2
      have := itoa_ne (oE m k)
      rw [c] at hlen
      simp at hlen
      omega
    go_wp2
    exact bodyPost_ret (v := .tuple #[.float .f64 0, .bool false]) (post_r Tryz.results136 rfl rfl) rfl ⟨0, false, rfl, HZ.out, rfl⟩
  have hsh' : ¬ (s.size : Int) < (l1.length : Int) + 4 := by omega
  have HA : Hid (l1.length + (l2.length + 1) = s.size) := hlen
  clear hlen
  obtain ⟨a, ha⟩ : ∃ a, a = l1.length := ⟨_, rfl⟩
  have HAL : Hid (a = l1.length) := ha
  rw [← ha] at hsh hsh' hge ⊢
  clear ha
  have a4 : a + 4 ≤ s.size := by omega
  have a3 : (a : Int) + 3 ≤ s.size := by omega
  clear hsh
  have hsl : ∀ w : World, (Instr.slice 9 (.string s) (some (.int .i64 (a : Int))) (some (.int .i64 ((a : Int) + 3))) none).run Tryz.prog w = .ok (.string (s.extract a (a + 3))) w := fun w => by
    have := slice_G s a (a + 3) (by omega) (by omega) w
    simpa using this
  have hto : ∀ w : World, (Instr.slice 9 (.string s) none (some (.int .i64 (a : Int))) none).run Tryz.prog w = .ok (.string (s.extract 0 a)) w := fun w => slice_to s a (by omega) w
  have hfr : ∀ w : World, (Instr.slice 9 (.string s) (some (.int .i64 ((a : Int) + 3))) none none).run Tryz.prog w = .ok (.string (s.extract (a + 3) s.size)) w := fun w => by
    have := slice_from s (a + 3) (by omega) w
    simpa using this
  have X3 : Hid ((s.extract a (a + 3)).data.toList = 42 :: l2.take 2) := by
    show _ = _
    rw [ByteArray.data_extract]
    simp
    have := HL.out
    rw [HT.out] at this
    rw [this, HAL.out]
    simp
  have X1 : Hid ((s.extract 0 a).data.toList = l1) := by
    show _ = _
    rw [ext_toG, ← HT.out, HL.out, HAL.out]
    simp
  have X2 : Hid ((s.extract (a + 3) s.size).data.toList = l2.drop 2) := by
    show _ = _
    rw [ext_allG, ← HT.out, HL.out, HAL.out]
    simp
  generalize s.extract a (a + 3) = y3 at *
  generalize s.extract 0 a = y1 at *
  generalize s.extract (a + 3) s.size = y2 at *
  by_cases hsg : l2.take 2 = [50, 94]
  case neg =>
    have hne : (y3.toList == [42, 50, 94]) = false := by
      rw [ByteArray.toList_eq, X3.out]
      simpa using hsg
    have HZ : Hid (L2R T 0 false) := l2_no fun m k _ _ _ e => by
      have c := (oT_cut H42.out (HL.out.symm.trans e)).2
      exact hsg (by rw [c]; rfl)
    clear hsg
    go_wp2
    exact bodyPost_ret (v := .tuple #[.float .f64 0, .bool false]) (post_r Tryz.results136 rfl rfl) rfl ⟨0, false, rfl, HZ.out, rfl⟩
  have heq : (y3.toList == [42, 50, 94]) = true := by
    rw [ByteArray.toList_eq, X3.out, hsg]; rfl
  have HL2 : Hid (T = l1 ++ 42 :: 50 :: 94 :: l2.drop 2) := by
    show _ = _
    have := List.take_append_drop 2 l2
    rw [hsg] at this
    rw [HL.out]
    conv => lhs; rw [← this]
    rfl
  clear hsg
  generalize l2.drop 2 = r at *
  have y1s : y1.size ≤ 2000000 := by
    have h1 : y1.data.toList.length = y1.size := by simp
    have := HA.out
    rw [X1.out] at h1; omega
  have y2s : y2.size ≤ 2000000 := by
    have h1 : y2.data.toList.length = y2.size := by simp
    have h3 := congrArg List.length HL2.out
    rw [HT.out, HLEN.out] at h3
    simp at h3
    rw [X2.out] at h1; omega
  have hbd : ∀ {l n b}, NumR l n b → -100000000000000000 ≤ n ∧ n ≤ 100000000000000000 := fun {l n b} h => by
    rcases h with ⟨-, -, h⟩ | ⟨-, rfl, -⟩
    · rw [ten17] at h; omega
    · omega
  go_wp2_with fail
  refine (l9num_any y1 _ y1s).mono ?_
  rintro e w2 ⟨n, b1, rfl, hn, rfl⟩
  rw [X1.out] at hn
  go_wp2_with fail
  refine (l9num_any y2 _ y2s).mono ?_
  rintro e w3 ⟨E, b2, rfl, hE, rfl⟩
  rw [X2.out] at hE
  obtain ⟨n0, n1⟩ := hbd hn
  obtain ⟨e0, e1⟩ := hbd hE
  clear X1 X2 X3 hbd heq hsl hto hfr y1s y2s
  cases b1
  · have HZ : Hid (L2R T 0 false) := by show L2R T 0 false; rw [HL2.out]; exact l2_no (bad_left H42.out hn)
    clear hn hE
    go_wp2
    exact bodyPost_ret (v := .tuple #[.float .f64 0, .bool false]) (post_r Tryz.results136 rfl rfl) rfl ⟨0, false, rfl, HZ.out, rfl⟩
  cases b2
  · have HZ : Hid (L2R T 0 false) := by show L2R T 0 false; rw [HL2.out]; exact l2_no (bad_right H42.out hE)
    clear hn hE
    go_wp2
    exact bodyPost_ret (v := .tuple #[.float .f64 0, .bool false]) (post_r Tryz.results136 rfl rfl) rfl ⟨0, false, rfl, HZ.out, rfl⟩
  have HB : Hid (¬ Good n E → L2R T 0 false) := fun h => by rw [HL2.out]; exact l2_no (bad_val H42.out hn hE h)
  have HN : Hid (NumR l1 n true) := hn
  have HE : Hid (NumR r E true) := hE
  clear hn hE
  by_cases c1 : n < 1
  · have HZ : Hid (L2R T 0 false) := HB.out fun g => by have := g.n1; omega
    go_wp2
    exact bodyPost_ret (v := .tuple #[.float .f64 0, .bool false]) (post_r Tryz.results136 rfl rfl) rfl ⟨0, false, rfl, HZ.out, rfl⟩
  by_cases c2 : 9007199254740991 < n
  · have HZ : Hid (L2R T 0 false) := HB.out fun g => by have := g.n2; omega
    go_wp2
    exact bodyPost_ret (v := .tuple #[.float .f64 0, .bool false]) (post_r Tryz.results136 rfl rfl) rfl ⟨0, false, rfl, HZ.out, rfl⟩
  obtain ⟨N, rfl⟩ := Int.eq_ofNat_of_zero_le (show 0 ≤ n by omega)
  by_cases c3 : N % 2 = 0
  · have HZ : Hid (L2R T 0 false) := HB.out fun g => by have := g.odd; omega
    have c3' : ((N : Int) % 2 == 0) = true := by simp; omega
    clear c3
    go_wp2
    exact bodyPost_ret (v := .tuple #[.float .f64 0, .bool false]) (post_r Tryz.results136 rfl rfl) rfl ⟨0, false, rfl, HZ.out, rfl⟩
  have c3' : ((N : Int) % 2 == 0) = false := by simp; omega
  by_cases c4 : E < -1074
  · have HZ : Hid (L2R T 0 false) := HB.out fun g => by have := g.e1; omega
    clear c3
    go_wp2
    exact bodyPost_ret (v := .tuple #[.float .f64 0, .bool false]) (post_r Tryz.results136 rfl rfl) rfl ⟨0, false, rfl, HZ.out, rfl⟩
  by_cases c5 : 1023 < E
  · have HZ : Hid (L2R T 0 false) := HB.out fun g => by have := g.e2; omega
    clear c3
    go_wp2
    exact bodyPost_ret (v := .tuple #[.float .f64 0, .bool false]) (post_r Tryz.results136 rfl rfl) rfl ⟨0, false, rfl, HZ.out, rfl⟩
  have HG : Hid (Good (N : Int) E) := ⟨by omega, by omega, by omega, by omega, by omega⟩
  clear c3
  have HEND : Hid (∀ x, Up N (1074 + E).toNat x → L2R T x (ord x (wi false) == some .lt)) := fun x hU => by
    rw [HL2.out]; exact l2_end H42.out HN.out HE.out HG.out rfl hU
  have HSTART : Hid (FinV N 1074 (floatOfInt .f64 (N : Int))) := fin_start (by omega) (by omega)
  clear HB HN HE HG HL2 HL HA HAL H42 HT HLEN
  go_wp2
  go_loop [9, 10] (fun x c => ∃ (r j : Nat), x = .float .f64 r ∧ c = .int .i64 (j : Int) ∧ Up N (1074 + j) r ∧ (j = 0 → FinV N 1074 r) ∧ (j = 0 ∨ (j : Int) ≤ E)) (fun _ c => (1024 - intOf c).toNat)
  case atStart => exact ⟨_, 0, rfl, rfl, up_start HSTART.out, fun _ => HSTART.out, .inl rfl⟩
  case round =>
    clear HSTART
    obtain ⟨q, j, rfl, rfl, hU, hF, hj⟩ := hrel
    by_cases hlt : (j : Int) < E
    · obtain ⟨q2, hr, hU2⟩ := hU.step
      have hrun := run_someN hr
      have H2 : Hid (Up N (1074 + (j + 1)) q2) := hU2
      clear hU hr hU2 hF
      go_wp2
      exact ⟨⟨q2, j + 1, rfl, by go_num, H2.out, fun h => by omega, by omega⟩, by simp [intOf]; omega⟩
    · have HI : Hid ((0 ≤ E ∧ Up N (1074 + E).toNat q) ∨ (E < 0 ∧ FinV N 1074 q)) := by
        by_cases h0 : 0 ≤ E
        · left
          refine ⟨h0, ?_⟩
          have : (1074 + E).toNat = 1074 + j := by omega
          rw [this]; exact hU
        · right; exact ⟨by omega, hF (by omega)⟩
      clear hU hF hj
      go_wp2
      go_loop [9, 11] (fun x c => ∃ (r j : Nat), x = .float .f64 r ∧ c = .int .i64 (-(j : Int)) ∧ ((0 ≤ E ∧ j = 0 ∧ Up N (1074 + E).toNat r) ∨ (E < 0 ∧ (j : Int) ≤ -E ∧ FinV N (1074 - j) r))) (fun _ c => (intOf c - E).toNat)
      case atStart =>
        rcases HI.out with ⟨a1, a2⟩ | ⟨a1, a2⟩
        · exact ⟨q, 0, rfl, rfl, .inl ⟨a1, rfl, a2⟩⟩
        · exact ⟨q, 0, rfl, rfl, .inr ⟨a1, by omega, a2⟩⟩
      case round =>
        clear HI hlt
        obtain ⟨q1, j1, rfl, rfl, hI⟩ := hrel
        by_cases hlt : E < -(j1 : Int)
        · rcases hI with ⟨a1, a2, -⟩ | ⟨a1, a2, a3⟩
          · omega
          obtain ⟨i1, hi1⟩ : ∃ i1, 1074 - j1 = i1 + 1 := ⟨1074 - j1 - 1, by omega⟩
          rw [hi1] at a3
          obtain ⟨q2, hr, hF2⟩ := Up.half a3
          have hrun := run_someN hr
          have H2 : Hid (FinV N i1 q2) := hF2
          clear a3 hr hF2
          go_wp2
          refine ⟨⟨q2, j1 + 1, rfl, by go_num, .inr ⟨a1, by omega, ?_⟩⟩, by simp [intOf]; omega⟩
          have : 1074 - (j1 + 1) = i1 := by omega
          rw [this]; exact H2.out
        · have HU : Hid (Up N (1074 + E).toNat q1) := by
            show Up _ _ _
            rcases hI with ⟨a1, a2, a3⟩ | ⟨a1, a2, a3⟩
            · exact a3
            · have : (1074 + E).toNat = 1074 - j1 := by omega
              rw [this]; exact .inl a3
          clear hI
          have HR : Hid (L2R T q1 (ord q1 (wi false) == some .lt)) := HEND.out q1 HU.out
          go_wp2_with fail
          refine (l2InfG _).mono ?_
          rintro e w4 ⟨rfl, rfl⟩
          generalize wi false = inf at *
          go_wp2
          exact bodyPost_ret (v := .tuple #[.float .f64 q1, .bool (ord q1 inf == some .lt)]) (post_r Tryz.results136 rfl rfl) rfl ⟨q1, _, rfl, HR.out, rfl⟩
end Go.Proofs.YtjacgamgjjpllaaGreatDoor

/- Reading a real number, as the document does it: RealRead; the walk of FnExactRealRead. Helper text: no statement is claimed here. -/
namespace Go.Proofs.YtjacgamgjjpllaaGreatDoor
open Go.ChangeShapes Go.WideShapes Go.ChangeAt Go.RowKit Fl

set_option maxHeartbeats 400000 in
theorem l2NanG (w : World) : Calls Tryz.prog 67 #[] w fun e w' => ∃ r, e = .returned (.float .f64 r) ∧ nan r ∧ r < 2 ^ 64 ∧ Below w.heap.size w w' := by
  obtain ⟨r, hr, hn, hl⟩ := run_nan .quo (by simp [arith]) 34 0 0 w (by rfl)
  go_enter Tryz.func67, Tryz.ntmps67
  go_wp2
  go_ret
  exact ⟨r, rfl, hn, hl, drewW_below (Below.refl _ _)⟩
/-- Texts of their own. -/
def Own5 (t : List UInt8) : Prop := t = [110, 97, 110] ∨ t = [105, 110, 102] ∨ t = [45, 105, 110, 102] ∨ t = [48] ∨ t = [45, 48]
theorem rest_form {t : List UInt8} {y : Nat} (h : TextR y t) (hn : ¬ Own5 t) : (∃ m k, Sc m k ∧ k ≤ 2045 ∧ 0 < m ∧ t = oT m k) ∨ ∃ m k, Sc m k ∧ k ≤ 2045 ∧ 0 < m ∧ t = 45 :: oT m k := by
  rcases h.form with ⟨-, e⟩ | ⟨-, e⟩ | ⟨-, e⟩ | ⟨-, e⟩ | ⟨-, e⟩ | ⟨m, k, g1, g2, g3, -, e⟩ | ⟨m, k, g1, g2, g3, -, e⟩
  · exact absurd (.inl e) hn
  · exact absurd (.inr (.inl e)) hn
  · exact absurd (.inr (.inr (.inl e))) hn
  · exact absurd (.inr (.inr (.inr (.inl e)))) hn
  · exact absurd (.inr (.inr (.inr (.inr e)))) hn
  · exact .inl ⟨m, k, g1, g2, g3, e⟩
  · exact .inr ⟨m, k, g1, g2, g3, e⟩
theorem head_45 {m k : Nat} {r : List UInt8} : oT m k ≠ 45 :: r := by
  obtain ⟨c, q, hc, h1, h2⟩ := oN_head m k
  rw [hc]
  intro e
  have h3 := congrArg UInt8.toNat (List.cons.inj e).1
  have h4 : (45 : UInt8).toNat = 45 := rfl
  omega
/-- Behind a sign. -/
theorem rd_neg {r : List UInt8} {x : Nat} {b : Bool} (h : L2R r x b) (hn : ¬ Own5 (45 :: r)) : (b = true → RdR (45 :: r) (Op.negFloat .f64 x) true) ∧ (b = false → RdR (45 :: r) 0 false) := by
  rcases h.2 with ⟨rfl, m, k, g1, g2, g3, rfl, rfl⟩ | ⟨rfl, hno⟩
  · refine ⟨fun _ => ?_, fun h => (by cases h)⟩
    have e : Op.negFloat .f64 (wd false m k) = wd true m k := neg_wd g1 g2 false
    rw [e]
    exact ⟨wd_lt g1 g2 true, .inl ⟨rfl, .neg g1 g2 g3⟩⟩
  · refine ⟨fun h => (by cases h), fun _ => ⟨by omega, .inr ⟨rfl, rfl, fun y hy => ?_⟩⟩⟩
    rcases rest_form hy hn with ⟨m, k, g1, g2, g3, e⟩ | ⟨m, k, g1, g2, g3, e⟩
    · exact head_45 e.symm
    · exact hno m k g1 g2 g3 (List.cons.inj e).2
theorem rd_pos {t : List UInt8} {x : Nat} {b : Bool} (h : L2R t x b) (hn : ¬ Own5 t) (h45 : ∀ r, t ≠ 45 :: r) : (b = true → RdR t x true) ∧ (b = false → RdR t 0 false) := by
  rcases h.2 with ⟨rfl, m, k, g1, g2, g3, rfl, rfl⟩ | ⟨rfl, hno⟩
  · exact ⟨fun _ => ⟨wd_lt g1 g2 false, .inl ⟨rfl, .pos g1 g2 g3⟩⟩, fun h => (by cases h)⟩
  · refine ⟨fun h => (by cases h), fun _ => ⟨by omega, .inr ⟨rfl, rfl, fun y hy => ?_⟩⟩⟩
    rcases rest_form hy hn with ⟨m, k, g1, g2, g3, e⟩ | ⟨m, k, g1, g2, g3, e⟩
    · exact hno m k g1 g2 g3 e
    · exact h45 _ e
theorem rd_empty : RdR [] 0 false := by
  refine ⟨by omega, .inr ⟨rfl, rfl, fun y hy => ?_⟩⟩
  rcases hy.form with ⟨-, e⟩ | ⟨-, e⟩ | ⟨-, e⟩ | ⟨-, e⟩ | ⟨-, e⟩ | ⟨m, k, g1, g2, g3, -, e⟩ | ⟨m, k, g1, g2, g3, -, e⟩
  · cases e
  · cases e
  · cases e
  · cases e
  · cases e
  · have := oT_mem m k; rw [← e] at this; simp at this
  · cases e

section
theorem unary_negG (k : FloatKind) (b : Nat) : Op.unary .neg (.float k b) = pure (.float k (Op.negFloat k b)) := rfl
attribute [local go_sem] unary_negG
set_option maxRecDepth 100000 in
set_option maxHeartbeats 4000000 in
theorem srl_any (t : List UInt8) (w : World) (ht : t.length ≤ 1500000) : Calls Tryz.prog 103 #[.string ⟨t.toArray⟩] w (ReadR t w) := by
  by_cases h1 : t = [110, 97, 110]
  · subst h1
    go_enter Tryz.func103, Tryz.ntmps103
    go_wp2_with fail
    refine (l2NanG _).mono ?_
    rintro e w1 ⟨r, rfl, hn, hl, hb⟩
    go_wp2
    exact bodyPost_ret (v := .tuple #[.float .f64 r, .bool true]) (post_r Tryz.results103 rfl rfl) rfl ⟨r, true, rfl, ⟨hl, .inl ⟨rfl, .isnan hn⟩⟩, hb⟩
  by_cases h2 : t = [105, 110, 102]
  · subst h2
    go_enter Tryz.func103, Tryz.ntmps103
    go_wp2_with fail
    refine (l2InfG _).mono ?_
    rintro e w1 ⟨rfl, rfl⟩
    have HR : Hid (RdR [105, 110, 102] (wi false) true) := ⟨wi_lt false, .inl ⟨rfl, .inf⟩⟩
    generalize wi false = x at *
    go_wp2
    exact bodyPost_ret (v := .tuple #[.float .f64 x, .bool true]) (post_r Tryz.results103 rfl rfl) rfl ⟨x, true, rfl, HR.out, Below.refl _ _⟩
  by_cases h3 : t = [45, 105, 110, 102]
  · subst h3
    go_enter Tryz.func103, Tryz.ntmps103
    go_wp2_with fail
    refine (l2InfG _).mono ?_
    rintro e w1 ⟨rfl, rfl⟩
    have HR : Hid (RdR [45, 105, 110, 102] (Op.negFloat .f64 (wi false)) true) := by
      show RdR _ _ _
      rw [neg_wi]; exact ⟨wi_lt true, .inl ⟨rfl, .ninf⟩⟩
    generalize wi false = x at *
    go_wp2
    exact bodyPost_ret (v := .tuple #[.float .f64 _, .bool true]) (post_r Tryz.results103 rfl rfl) rfl ⟨_, true, rfl, HR.out, Below.refl _ _⟩
  by_cases h4 : t = [48]
  · subst h4
    go_enter Tryz.func103, Tryz.ntmps103
    go_wp2
    exact bodyPost_ret (v := .tuple #[.float .f64 0, .bool true]) (post_r Tryz.results103 rfl rfl) rfl ⟨0, true, rfl, ⟨by omega, .inl ⟨rfl, .zero⟩⟩, Below.refl _ _⟩
  by_cases h5 : t = [45, 48]
  · subst h5
    have HR : Hid (RdR [45, 48] (Op.negFloat .f64 0) true) := by
      have e : Op.negFloat .f64 0 = wd true 0 0 := neg_wd sc00 (by omega) false
      show RdR _ _ _
      rw [e]; exact ⟨wd_lt sc00 (by omega) true, .inl ⟨rfl, .nzero⟩⟩
    go_enter Tryz.func103, Tryz.ntmps103
    go_wp2
    exact bodyPost_ret (v := .tuple #[.float .f64 _, .bool true]) (post_r Tryz.results103 rfl rfl) rfl ⟨_, true, rfl, HR.out, Below.refl _ _⟩
  by_cases h6 : t = []
  · subst h6
    go_enter Tryz.func103, Tryz.ntmps103
    go_wp2
    exact bodyPost_ret (v := .tuple #[.float .f64 0, .bool false]) (post_r Tryz.results103 rfl rfl) rfl ⟨0, false, rfl, rd_empty, Below.refl _ _⟩
  have HO : Hid (¬ Own5 t) := fun h => by
    rcases h with h | h | h | h | h
    · exact h1 h
    · exact h2 h
    · exact h3 h
    · exact h4 h
    · exact h5 h
  obtain ⟨S, hS⟩ : ∃ S : ByteArray, S = ⟨t.toArray⟩ := ⟨_, rfl⟩
  have hSt : S.toList = t := by rw [ByteArray.toList_eq, hS]
  have hSd : S.data.toList = t := by rw [hS]
  have h1' : (S.toList == [110, 97, 110]) = false := by rw [hSt]; simpa using h1
  have h2' : (S.toList == [105, 110, 102]) = false := by rw [hSt]; simpa using h2
  have h3' : (S.toList == [45, 105, 110, 102]) = false := by rw [hSt]; simpa using h3
  have h4' : (S.toList == [48]) = false := by rw [hSt]; simpa using h4
  have h5' : (S.toList == [45, 48]) = false := by rw [hSt]; simpa using h5
  have h6' : (S.toList == []) = false := by rw [hSt]; simpa using h6
  have hsz : S.size = t.length := by rw [← hSd]; simp
  have hz0 : 0 < S.size := by
    rw [hsz]
    cases t with
    | nil => exact absurd rfl h6
    | cons c r => simp
  have HD : Hid (S.data.toList = t) := hSd
  have hfr : ∀ w : World, (Instr.slice 9 (.string S) (some (.int .i64 1)) none none).run Tryz.prog w = .ok (.string (S.extract 1 S.size)) w := fun w => by
    have := slice_from S 1 (by omega) w
    simpa using this
  have HS2 : Hid ((S.extract 1 S.size).data.toList = t.drop 1) := by show _ = _; rw [ext_allG, HD.out]
  have hs2 : (S.extract 1 S.size).size ≤ 1900000 := by
    have h : (S.extract 1 S.size).data.toList.length = (S.extract 1 S.size).size := by simp
    rw [HS2.out] at h
    have h2 : (t.drop 1).length = t.length - 1 := List.length_drop
    omega
  have hs1 : S.size ≤ 1900000 := by omega
  rw [← hS]
  clear h1 h2 h3 h4 h5 h6 hS hSt hSd
  by_cases h45 : S[0] = 45
  · have h45' : ((S[0].toNat : Int) == 45) = true := by rw [h45]; rfl
    have HT : Hid (t = 45 :: t.drop 1) := by
      show _ = _
      have := split_atG S 0 hz0
      rw [HD.out, h45] at this
      simpa using this
    clear h45
    generalize S.extract 1 S.size = S2 at *
    go_enter Tryz.func103, Tryz.ntmps103
    go_wp2_with fail
    refine (l2read_any S2 _ hs2).mono ?_
    rintro e w1 ⟨x, b, rfl, hx, rfl⟩
    rw [HS2.out] at hx
    have HX : Hid ((b = true → RdR t (Op.negFloat .f64 x) true) ∧ (b = false → RdR t 0 false)) := by
      have ho := HO.out
      rw [HT.out] at ho
      have := rd_neg hx ho
      rw [← HT.out] at this
      exact this
    clear hx
    cases b
    · go_wp2
      exact bodyPost_ret (v := .tuple #[.float .f64 0, .bool false]) (post_r Tryz.results103 rfl rfl) rfl ⟨0, false, rfl, HX.out.2 (by first | rfl | trivial), Below.refl _ _⟩
    · go_wp2
      exact bodyPost_ret (v := .tuple #[.float .f64 _, .bool true]) (post_r Tryz.results103 rfl rfl) rfl ⟨_, true, rfl, HX.out.1 (by first | rfl | trivial), Below.refl _ _⟩
  · have h45' : ((S[0].toNat : Int) == 45) = false := by
      rw [beq_eq_false_iff_ne]; intro e
      exact h45 (UInt8.toNat.inj (by have : S[0].toNat = 45 := by omega
                                     rw [this]; rfl))
    have HT : Hid (∀ r, t ≠ 45 :: r) := fun r e => by
      have := split_atG S 0 hz0
      rw [HD.out, e] at this
      simp at this
      exact h45 this.symm
    clear h45 hfr
    go_enter Tryz.func103, Tryz.ntmps103
    go_wp2_with fail
    refine (l2read_any S _ hs1).mono ?_
    rintro e w1 ⟨x, b, rfl, hx, rfl⟩
    rw [HD.out] at hx
    have HX : Hid ((b = true → RdR t x true) ∧ (b = false → RdR t 0 false)) := rd_pos hx HO.out HT.out
    clear hx
    cases b
    · go_wp2
      exact bodyPost_ret (v := .tuple #[.float .f64 0, .bool false]) (post_r Tryz.results103 rfl rfl) rfl ⟨0, false, rfl, HX.out.2 (by first | rfl | trivial), Below.refl _ _⟩
    · go_wp2
      exact bodyPost_ret (v := .tuple #[.float .f64 x, .bool true]) (post_r Tryz.results103 rfl rfl) rfl ⟨x, true, rfl, HX.out.1 (by first | rfl | trivial), Below.refl _ _⟩
end
end Go.Proofs.YtjacgamgjjpllaaGreatDoor

/- The table of devices, as the program's own text lays it, cell for cell; and what devRowOf answers. Helper text: no statement is claimed here. -/
namespace Go.Proofs.YtjacgamgjjpllaaGreatDoor
open Go.ChangeShapes Go.WideShapes Go.ChangeAt Go.RowKit

def rL : Nat → List UInt8
  | 1 => [88] | 2 => [89] | 3 => [77] | 4 => [83] | 5 => [69] | 6 => [71] | 7 => [84] | 8 => [67] | 9 => [68] | 10 => [82] | _ => []
def rN : Nat → Int
  | 1 => 32 | 2 => 32 | 3 => 64 | 4 => 16 | 5 => 32 | 6 => 5 | 7 => 16 | 8 => 16 | 9 => 32 | 10 => 16 | _ => 0
def rB : Nat → Bool
  | 1 => true | 2 => true | 3 => true | 4 => true | 6 => true | 7 => true | 8 => true | _ => false
def rW : Nat → Bool
  | 7 => true | 8 => true | 9 => true | 11 => true | _ => false
def rR : Nat → Bool
  | 10 => true | 12 => true | 13 => true | _ => false

/-- The cells of the table of devices. -/
def DevTab (w : World) : Prop := ∀ i, i < 14 →
  w.cell? ⟨1, i * 5, none⟩ = some (.string ⟨(rL i).toArray⟩) ∧ w.cell? ⟨1, i * 5 + 1, none⟩ = some (.int .i64 (rN i)) ∧
  w.cell? ⟨1, i * 5 + 2, none⟩ = some (.bool (rB i)) ∧ w.cell? ⟨1, i * 5 + 3, none⟩ = some (.bool (rW i)) ∧ w.cell? ⟨1, i * 5 + 4, none⟩ = some (.bool (rR i))

theorem tRows : (Tryz.prog.globals[1]?).map (·.type) = some 137 := by kernel_rfl
theorem cRow : Tryz.prog.cellsOf 107 = 5 := by kernel_rfl
theorem cRows : Tryz.prog.cellsOf 137 = 70 := by kernel_rfl
theorem cInt : Tryz.prog.cellsOf 3 = 1 := by kernel_rfl
theorem cBool : Tryz.prog.cellsOf 4 = 1 := by kernel_rfl
theorem cStr : Tryz.prog.cellsOf 9 = 1 := by kernel_rfl

theorem five {α : Type} {l : List α} (h : l.length = 5) : ∃ a b c d e, l = [a, b, c, d, e] := by
  match l, h with
  | [a, b, c, d, e], _ => exact ⟨a, b, c, d, e, rfl⟩

theorem rowCells {w : World} {sp : Nat → Bool} {held : Bool} {fuel : Nat} {cs : List Value} {l : List UInt8} {n : Int} {b1 b2 b3 : Bool} {p : List MemPlace}
    (h : DataW.trod (fun _ => ()) Tryz.prog w 0 sp held fuel 107 cs = some (.agg [.lit (.string l), .lit (.int .i64 n), .lit (.bool b1), .lit (.bool b2), .lit (.bool b3)], p)) :
    cs = [.string ⟨l.toArray⟩, .int .i64 n, .bool b1, .bool b2, .bool b3] := by
  obtain ⟨xs, m, rfl, hx, hl, hn, hf⟩ := DataW.trod_struct Tryz.underlying107 h
  simp only [Prod.mk.injEq, DataW.agg.injEq] at hx
  rw [cRow] at hl
  obtain ⟨x0, x1, x2, x3, x4, rfl⟩ := five (show xs.length = 5 from hn)
  obtain ⟨c0, c1, c2, c3, c4, rfl⟩ := five hl
  · skip
    have f0 := hf 0 _ rfl
    have f1 := hf 1 _ rfl
    have f2 := hf 2 _ rfl
    have f3 := hf 3 _ rfl
    have f4 := hf 4 _ rfl
    simp only [List.map_cons, List.map_nil, List.cons.injEq, and_true] at hx
    obtain ⟨⟨e0, e1, e2, e3, e4⟩, _⟩ := hx
    simp [cInt, cStr, cBool] at f0 f1 f2 f3 f4
    obtain ⟨s0, g0, h0, _⟩ := DataW.trod_string Tryz.underlying9 f0
    obtain ⟨n1, g1, h1, _⟩ := DataW.trod_int Tryz.underlying3 f1
    obtain ⟨n2, g2, h2⟩ := DataW.trod_bool Tryz.underlying4 f2
    obtain ⟨n3, g3, h3⟩ := DataW.trod_bool Tryz.underlying4 f3
    obtain ⟨n4, g4, h4⟩ := DataW.trod_bool Tryz.underlying4 f4
    rw [h0] at e0; rw [h1] at e1; rw [h2] at e2; rw [h3] at e3; rw [h4] at e4
    simp only [DataW.lit.injEq, Lit.string.injEq, Lit.int.injEq, Lit.bool.injEq, true_and] at e0 e1 e2 e3 e4
    simp only [List.cons.injEq, and_true] at g0 g1 g2 g3 g4
    subst e0 e1 e2 e3 e4 g0 g1 g2 g3 g4
    simp

def rowD (i : Nat) : DataW Unit := .agg [.lit (.string (rL i)), .lit (.int .i64 (rN i)), .lit (.bool (rB i)), .lit (.bool (rW i)), .lit (.bool (rR i))]
def rowsD : List (DataW Unit) := [rowD 0, rowD 1, rowD 2, rowD 3, rowD 4, rowD 5, rowD 6, rowD 7, rowD 8, rowD 9, rowD 10, rowD 11, rowD 12, rowD 13]
theorem rowsD_at (i : Nat) (h : i < 14) : rowsD[i]? = some (rowD i) := by
  have : i = 0 ∨ i = 1 ∨ i = 2 ∨ i = 3 ∨ i = 4 ∨ i = 5 ∨ i = 6 ∨ i = 7 ∨ i = 8 ∨ i = 9 ∨ i = 10 ∨ i = 11 ∨ i = 12 ∨ i = 13 := by omega
  rcases this with rfl | rfl | rfl | rfl | rfl | rfl | rfl | rfl | rfl | rfl | rfl | rfl | rfl | rfl <;> rfl


theorem DevTab.below {w w' : World} (h : DevTab w) (hb : Below w.heap.size w w') (hs : 1 < w.heap.size) : DevTab w' := fun i hi => by
  have := h i hi
  simp only [hb.cell (p := ⟨1, _, none⟩) hs]
  exact this
end Go.Proofs.YtjacgamgjjpllaaGreatDoor

/- What the program's functions on operands answer. Helper text: no statement is claimed here. -/
namespace Go.Proofs.YtjacgamgjjpllaaGreatDoor
open Go.ChangeShapes Go.WideShapes Go.ChangeAt Go.RowKit

theorem DevTab.lt {w : World} (h : DevTab w) : 1 < w.heap.size := World.block_lt_of_cell? w ⟨1, _, none⟩ (h 0 (by omega)).1
theorem DevTab.to {w w' : World} (h : DevTab w) (hb : Below w.heap.size w w') : DevTab w' := h.below hb h.lt
theorem DevTab.alloc {w : World} (h : DevTab w) (o : Obj) : DevTab (w.alloc o) := h.to ((Below.refl _ _).alloc (Nat.le_refl _) o)
theorem DevTab.drew {w : World} (h : DevTab w) : DevTab w.drew := h.to (Below.refl _ _).drew
theorem bcell {W w1 : World} (hb : Below W.heap.size W w1) : (∀ b o, b < W.heap.size → w1.cell? ⟨b, o, none⟩ = W.cell? ⟨b, o, none⟩) ∧ (∀ b o, b < W.heap.size → w1.frozen? ⟨b, o, none⟩ = W.frozen? ⟨b, o, none⟩) :=
  ⟨fun b o h => hb.cell (p := ⟨b, o, none⟩) h, fun b o h => hb.frozen (p := ⟨b, o, none⟩) h⟩
theorem ret_bool {a b : Bool} (h : a = b) : Ending.returned (.bool a) = .returned (.bool b) := by rw [h]

def kz (k : Int) : Nat := if 1 ≤ k ∧ k ≤ 13 then k.toNat else 0
theorem kz_nat (i : Nat) (h1 : 1 ≤ i) (h2 : i ≤ 13) : kz (i : Int) = i := by unfold kz; rw [if_pos (by omega)]; omega
theorem kz_no (k : Int) (h : k < 1 ∨ 13 < k) : kz k = 0 := by unfold kz; rw [if_neg (by omega)]
def rowV (k : Int) : Value := .agg #[.string ⟨(rL (kz k)).toArray⟩, .int .i64 (rN (kz k)), .bool (rB (kz k)), .bool (rW (kz k)), .bool (rR (kz k))]

set_option maxHeartbeats 400000 in
theorem rowOf_no (k : Int) (w : World) (h : k < 1 ∨ 13 < k) :
    Calls Tryz.prog 69 #[.int .i64 k] w fun e w' => e = .returned (.agg #[.string ⟨#[]⟩, .int .i64 0, .bool false, .bool false, .bool false]) ∧ Below w.heap.size w w' := by
  rcases h with h | h
  · go_enter Tryz.func69, Tryz.ntmps69
    go_wp2
    exact bodyPost_ret (v := .agg #[.string ⟨#[]⟩, .int .i64 0, .bool false, .bool false, .bool false]) (by simp [results, Tryz.results69, go_sem]) rfl ⟨rfl, (Below.refl _ _).alloc (Nat.le_refl _) _⟩
  · have h' : ¬ k < 1 := by omega
    go_enter Tryz.func69, Tryz.ntmps69
    go_wp2
    exact bodyPost_ret (v := .agg #[.string ⟨#[]⟩, .int .i64 0, .bool false, .bool false, .bool false]) (by simp [results, Tryz.results69, go_sem]) rfl ⟨rfl, (Below.refl _ _).alloc (Nat.le_refl _) _⟩

set_option maxHeartbeats 400000 in
theorem rowOf_yes (i : Nat) (w : World) (h1 : 1 ≤ i) (h2 : i ≤ 13) (hT : DevTab w) :
    Calls Tryz.prog 69 #[.int .i64 (i : Int)] w fun e w' => e = .returned (.agg #[.string ⟨(rL i).toArray⟩, .int .i64 (rN i), .bool (rB i), .bool (rW i), .bool (rR i)]) ∧ Below w.heap.size w w' := by
  obtain ⟨t0, t1, t2, t3, t4⟩ := hT i (by omega)
  have a : ¬ (i : Int) < 1 := by omega
  have b : ¬ (13 : Int) < i := by omega
  have hs : 1 < w.heap.size := hT.lt
  clear hT
  go_enter Tryz.func69, Tryz.ntmps69
  go_wp2
  exact bodyPost_ret (v := .agg #[.string ⟨(rL i).toArray⟩, .int .i64 (rN i), .bool (rB i), .bool (rW i), .bool (rR i)]) (by simp [results, Tryz.results69, go_sem]) rfl ⟨rfl, (Below.refl _ _).alloc (Nat.le_refl _) _⟩

theorem rowOf_any (k : Int) (w : World) (hT : DevTab w) :
    Calls Tryz.prog 69 #[.int .i64 k] w fun e w' => e = .returned (.agg #[.string ⟨(rL (kz k)).toArray⟩, .int .i64 (rN (kz k)), .bool (rB (kz k)), .bool (rW (kz k)), .bool (rR (kz k))]) ∧ Below w.heap.size w w' := by
  by_cases h : k < 1 ∨ 13 < k
  · rw [kz_no k h]; exact rowOf_no k w h
  · obtain ⟨i, rfl⟩ := Int.eq_ofNat_of_zero_le (show 0 ≤ k by omega)
    rw [kz_nat i (by omega) (by omega)]; exact rowOf_yes i w (by omega) (by omega) hT

theorem field_0 (a b c d e : Value) (w : World) : Sem.run Tryz.prog (Instr.field 107 (.agg #[a, b, c, d, e]) 0) w = .ok a w := by kernel_rfl
theorem field_1 (a b c d e : Value) (w : World) : Sem.run Tryz.prog (Instr.field 107 (.agg #[a, b, c, d, e]) 1) w = .ok b w := by kernel_rfl
theorem field_2 (a b c d e : Value) (w : World) : Sem.run Tryz.prog (Instr.field 107 (.agg #[a, b, c, d, e]) 2) w = .ok c w := by kernel_rfl
theorem field_3 (a b c d e : Value) (w : World) : Sem.run Tryz.prog (Instr.field 107 (.agg #[a, b, c, d, e]) 3) w = .ok d w := by kernel_rfl
theorem field_4 (a b c d e : Value) (w : World) : Sem.run Tryz.prog (Instr.field 107 (.agg #[a, b, c, d, e]) 4) w = .ok e w := by kernel_rfl
attribute [local go_sem] field_0 field_1 field_2 field_3 field_4

set_option maxHeartbeats 400000 in
theorem size_any (k : Int) (w : World) (hT : DevTab w) :
    Calls Tryz.prog 34 #[.int .i64 k] w fun e w' => e = .returned (.int .i64 (rN (kz k))) ∧ Below w.heap.size w w' := by
  go_enter Tryz.func34, Tryz.ntmps34
  go_wp2_with fail
  refine (rowOf_any _ _ hT).mono ?_
  rintro e w' ⟨rfl, hb⟩
  go_wp2
  go_ret
  exact ⟨rfl, hb⟩

def decOk (n p : Int) : Bool := decide (-999999999 ≤ n ∧ n ≤ 999999999 ∧ 1 ≤ p ∧ p ≤ 6 ∧ (p = 1 ∨ n.tmod 10 ≠ 0))

set_option maxHeartbeats 400000 in
theorem decOk_any (n p : Int) (w : World) :
    Calls Tryz.prog 108 #[.int .i64 n, .int .i64 p] w fun e w' => e = .returned (.bool (decOk n p)) ∧ w' = w := by
  by_cases h1 : n < -999999999
  · go_enter Tryz.func108, Tryz.ntmps108
    go_wp2
    go_ret
    exact ⟨ret_bool (by simp [decOk]; omega), rfl⟩
  by_cases h2 : 999999999 < n
  · go_enter Tryz.func108, Tryz.ntmps108
    go_wp2
    go_ret
    exact ⟨ret_bool (by simp [decOk]; omega), rfl⟩
  by_cases h3 : p < 1
  · go_enter Tryz.func108, Tryz.ntmps108
    go_wp2
    go_ret
    exact ⟨ret_bool (by simp [decOk]; omega), rfl⟩
  by_cases h4 : 6 < p
  · go_enter Tryz.func108, Tryz.ntmps108
    go_wp2
    go_ret
    exact ⟨ret_bool (by simp [decOk]; omega), rfl⟩
  by_cases h5 : p = 1
  · subst h5
    go_enter Tryz.func108, Tryz.ntmps108
    go_wp2
    go_ret
    exact ⟨ret_bool (by simp [decOk]; omega), rfl⟩
  · have h5' : (p == 1) = false := by simpa using h5
    clear h5
    go_enter Tryz.func108, Tryz.ntmps108
    go_wp2
    go_ret
    have h5 : p ≠ 1 := by simpa using h5'
    exact ⟨ret_bool (by by_cases h6 : n.tmod 10 = 0 <;> simp [decOk, h1, h2, h3, h4, h5, h6]), rfl⟩
end Go.Proofs.YtjacgamgjjpllaaGreatDoor

/- DevOk, the program's and the document's. Helper text: no statement is claimed here. -/
namespace Go.Proofs.YtjacgamgjjpllaaGreatDoor
open Go.ChangeShapes Go.WideShapes Go.ChangeAt Go.RowKit

def okB (k n p : Int) : Bool := decide ((k = 11 ∧ -32768 ≤ n ∧ n ≤ 32767 ∧ p = 0) ∨ (k = 12 ∧ decOk n p = true) ∨ (k = 13 ∧ 0 ≤ n ∧ n < 4 ∧ p = 0) ∨ (k ≠ 11 ∧ k ≠ 12 ∧ k ≠ 13 ∧ 0 ≤ n ∧ n < rN (kz k) ∧ p = 0))
theorem okB_11 (n p : Int) : okB 11 n p = decide (-32768 ≤ n ∧ n ≤ 32767 ∧ p = 0) := by simp [okB]
theorem okB_12 (n p : Int) : okB 12 n p = decOk n p := by simp [okB]
theorem okB_13 (n p : Int) : okB 13 n p = decide (0 ≤ n ∧ n < 4 ∧ p = 0) := by simp [okB]
theorem okB_dev (k n p : Int) (h1 : k ≠ 11) (h2 : k ≠ 12) (h3 : k ≠ 13) : okB k n p = decide (0 ≤ n ∧ n < rN (kz k) ∧ p = 0) := by simp [okB, h1, h2, h3]
theorem rN_bd (i : Nat) : 0 ≤ rN i ∧ rN i ≤ 64 := by unfold rN; split <;> omega

theorem one (w : World) (o : Obj) : Below w.heap.size w (w.alloc o) := (Below.refl _ _).alloc (Nat.le_refl _) _

set_option maxHeartbeats 400000 in
theorem devOk_11 (n p : Int) (w : World) :
    Calls Tryz.prog 73 #[.agg #[.int .i64 11, .int .i64 n, .int .i64 p]] w fun e w' => e = .returned (.bool (okB 11 n p)) ∧ Below w.heap.size w w' := by
  rw [okB_11]
  go_enter Tryz.func73, Tryz.ntmps73
  go_wp2
  all_goals go_ret
  all_goals exact ⟨ret_bool (by rw [Bool.eq_iff_iff]; simp <;> omega), one _ _⟩

set_option maxHeartbeats 400000 in
theorem devOk_12 (n p : Int) (w : World) :
    Calls Tryz.prog 73 #[.agg #[.int .i64 12, .int .i64 n, .int .i64 p]] w fun e w' => e = .returned (.bool (okB 12 n p)) ∧ Below w.heap.size w w' := by
  rw [okB_12]
  go_enter Tryz.func73, Tryz.ntmps73
  go_wp2_with fail
  refine (decOk_any _ _ _).mono ?_
  rintro e w' ⟨rfl, rfl⟩
  go_wp2
  go_ret
  exact ⟨rfl, one _ _⟩

set_option maxHeartbeats 400000 in
theorem devOk_13 (n p : Int) (w : World) :
    Calls Tryz.prog 73 #[.agg #[.int .i64 13, .int .i64 n, .int .i64 p]] w fun e w' => e = .returned (.bool (okB 13 n p)) ∧ Below w.heap.size w w' := by
  rw [okB_13]
  go_enter Tryz.func73, Tryz.ntmps73
  go_wp2
  all_goals go_ret
  all_goals exact ⟨ret_bool (by rw [Bool.eq_iff_iff]; simp <;> omega), one _ _⟩

set_option maxHeartbeats 400000 in
theorem devOk_dev0 (k n p : Int) (w : World) (h1 : (k == 11) = false) (h2 : (k == 12) = false) (h3 : (k == 13) = false) (hn : n < 0) :
    Calls Tryz.prog 73 #[.agg #[.int .i64 k, .int .i64 n, .int .i64 p]] w fun e w' => e = .returned (.bool false) ∧ Below w.heap.size w w' := by
  have hd : decide (0 ≤ n) = false := by simp; omega
  go_enter Tryz.func73, Tryz.ntmps73
  go_wp2
  go_quiet (fail)
  go_wp2
  go_ret
  exact ⟨rfl, below_drewN (one _ _) _⟩
abbrev argO (k n p : Int) : Obj := .cells #[.int .i64 k, .int .i64 n, .int .i64 p] 71
theorem arg_at (k n p : Int) (w : World) : (w.alloc (argO k n p)).cell? ⟨w.heap.size, 0, none⟩ = some (.int .i64 k) ∧ (w.alloc (argO k n p)).cell? ⟨w.heap.size, 1, none⟩ = some (.int .i64 n) ∧ (w.alloc (argO k n p)).cell? ⟨w.heap.size, 2, none⟩ = some (.int .i64 p) := by
  refine ⟨?_, ?_, ?_⟩ <;> simp [go_sem]
theorem size_grown {k n p : Int} {w : World} (hT : DevTab w) (d : Nat) (os : Array Obj) :
    Calls Tryz.prog 34 #[.int .i64 k] (Sort.grow (redrawn (w.alloc (argO k n p)) d) os) fun e w'' => e = .returned (.int .i64 (rN (kz k))) ∧ ∃ p' : Regrown, w'' = Sort.grow (redrawn (w.alloc (argO k n p)) p'.d) p'.os :=
  Calls.regrown_of (size_any _ _ ((hT.alloc _).to (below_regrown _ d os)))

set_option maxHeartbeats 400000 in
theorem devOk_dev1 (k n p : Int) (w : World) (hT : DevTab w) (h1 : (k == 11) = false) (h2 : (k == 12) = false) (h3 : (k == 13) = false) (hn : 0 ≤ n) (hl : n < rN (kz k)) :
    Calls Tryz.prog 73 #[.agg #[.int .i64 k, .int .i64 n, .int .i64 p]] w fun e w' => e = .returned (.bool (p == 0)) ∧ Below w.heap.size w w' := by
  have hb := rN_bd (kz k)
  obtain ⟨c0, c1, c2⟩ := arg_at k n p w
  have k0 := cell_regrown c0
  have k1 := cell_regrown c1
  have k2 := cell_regrown c2
  clear c0 c1 c2
  go_enter Tryz.func73, Tryz.ntmps73
  go_wp2
  refine wp_region_quiet_below (by kernel_rfl) (by kernel_rfl) ?_
  repeat (first | go_big_quiet_step (exact size_grown hT _ _) | quiet_step (exact size_grown hT _ _))
  refine wpQuiet_nil ?_
  intro _ hw'
  obtain ⟨⟨dq, osq⟩, hw''⟩ := hw'
  subst hw''
  go_wp2
  go_ret
  exact ⟨rfl, (one _ _).trans ((below_regrown _ dq osq).mono (by simp))⟩
set_option maxHeartbeats 400000 in
theorem devOk_dev2 (k n p : Int) (w : World) (hT : DevTab w) (h1 : (k == 11) = false) (h2 : (k == 12) = false) (h3 : (k == 13) = false) (hn : 0 ≤ n) (hl : rN (kz k) ≤ n) :
    Calls Tryz.prog 73 #[.agg #[.int .i64 k, .int .i64 n, .int .i64 p]] w fun e w' => e = .returned (.bool false) ∧ Below w.heap.size w w' := by
  have hb := rN_bd (kz k)
  have hd : decide (n < rN (kz k)) = false := by simp; omega
  obtain ⟨c0, c1, c2⟩ := arg_at k n p w
  have k0 := cell_regrown c0
  have k1 := cell_regrown c1
  have k2 := cell_regrown c2
  clear c0 c1 c2
  go_enter Tryz.func73, Tryz.ntmps73
  go_wp2
  refine wp_region_quiet_below (by kernel_rfl) (by kernel_rfl) ?_
  repeat (first | go_big_quiet_step (exact size_grown hT _ _) | quiet_step (exact size_grown hT _ _))
  refine wpQuiet_nil ?_
  intro _ hw'
  obtain ⟨⟨dq, osq⟩, hw''⟩ := hw'
  subst hw''
  go_wp2
  go_ret
  exact ⟨rfl, (one _ _).trans ((below_regrown _ dq osq).mono (by simp))⟩

theorem of_one {w w1 : World} {o : Obj} (h : Below (w.alloc o).heap.size (w.alloc o) w1) : Below w.heap.size w w1 := (one w o).trans (h.mono (by simp))
theorem of_two {w w1 w2 : World} {o : Obj} (h : Below (w.alloc o).heap.size (w.alloc o) w1) (h2 : Below w1.heap.size w1 w2) : Below w.heap.size w w2 := (of_one h).trans (h2.mono (of_one h).size)

theorem devOk_any (k n p : Int) (w : World) (hT : DevTab w) :
    Calls Tryz.prog 73 #[.agg #[.int .i64 k, .int .i64 n, .int .i64 p]] w fun e w' => e = .returned (.bool (okB k n p)) ∧ Below w.heap.size w w' := by
  by_cases h1 : k = 11
  · subst h1; exact devOk_11 n p w
  by_cases h2 : k = 12
  · subst h2; exact devOk_12 n p w
  by_cases h3 : k = 13
  · subst h3; exact devOk_13 n p w
  rw [okB_dev k n p h1 h2 h3]
  have e1 : (k == 11) = false := by simpa using h1
  have e2 : (k == 12) = false := by simpa using h2
  have e3 : (k == 13) = false := by simpa using h3
  by_cases hn : n < 0
  · rw [show decide (0 ≤ n ∧ n < rN (kz k) ∧ p = 0) = false by simp; omega]
    exact devOk_dev0 k n p w e1 e2 e3 hn
  by_cases hl : n < rN (kz k)
  · rw [show decide (0 ≤ n ∧ n < rN (kz k) ∧ p = 0) = (p == 0) by rw [Bool.eq_iff_iff]; simp; omega]
    exact devOk_dev1 k n p w hT e1 e2 e3 (by omega) hl
  · rw [show decide (0 ≤ n ∧ n < rN (kz k) ∧ p = 0) = false by simp; omega]
    exact devOk_dev2 k n p w hT e1 e2 e3 (by omega) (by omega)
end Go.Proofs.YtjacgamgjjpllaaGreatDoor
