/- Reading a real number, as the document does it: RealRead; the walk of FnExactRealRead. Helper text: no statement is claimed here. -/
import Derived.Test.YtedobjegolpbjaaDoorGh
namespace Go.Proofs.YtedobjegolpbjaaDoor
open Go.ChangeShapes Go.WideShapes Go.ChangeAt Go.RowKit Fl

set_option maxHeartbeats 400000 in
theorem l2NanG (w : World) : Calls Tryd.prog 30 #[] w fun e w' => ∃ r, e = .returned (.float .f64 r) ∧ nan r ∧ r < 2 ^ 64 ∧ Below w.heap.size w w' := by
  obtain ⟨r, hr, hn, hl⟩ := run_nan .quo (by simp [arith]) 26 0 0 w (by rfl)
  go_enter Tryd.func30, Tryd.ntmps30
  go_wp2
  go_ret
  exact ⟨r, rfl, hn, hl, drewW_below (Below.refl _ _)⟩
/-- Texts of their own. -/
def Own5 (t : List UInt8) : Prop := t = [110, 97, 110] ∨ t = [105, 110, 102] ∨ t = [45, 105, 110, 102] ∨ t = [48] ∨ t = [45, 48]
theorem rest_form {t : List UInt8} {y : Nat} (h : TextR y t) (hn : ¬ Own5 t) : (∃ m k, Sc m k ∧ k ≤ 2045 ∧ 0 < m ∧ t = oT m k) ∨ ∃ m k, Sc m k ∧ k ≤ 2045 ∧ 0 < m ∧ t = 45 :: oT m k := by
  rcases h.form with ⟨-, e⟩ | ⟨-, e⟩ | ⟨-, e⟩ | ⟨-, e⟩ | ⟨-, e⟩ | ⟨m, k, g1, g2, g3, -, e⟩ | ⟨m, k, g1, g2, g3, -, e⟩
  · exact absurd (.inl e) hn
  · exact absurd (.inr (.inl e)) hn
  · exact absurd (.inr (.inr (.inl e))) hn
  · exact absurd (.inr (.inr (.inr (.inl e)))) hn
  · exact absurd (.inr (.inr (.inr (.inr e)))) hn
  · exact .inl ⟨m, k, g1, g2, g3, e⟩
  · exact .inr ⟨m, k, g1, g2, g3, e⟩
theorem head_45 {m k : Nat} {r : List UInt8} : oT m k ≠ 45 :: r := by
  obtain ⟨c, q, hc, h1, h2⟩ := oN_head m k
  rw [hc]
  intro e
  have h3 := congrArg UInt8.toNat (List.cons.inj e).1
  have h4 : (45 : UInt8).toNat = 45 := rfl
  omega
/-- Behind a sign. -/
theorem rd_neg {r : List UInt8} {x : Nat} {b : Bool} (h : L2R r x b) (hn : ¬ Own5 (45 :: r)) : (b = true → RdR (45 :: r) (Op.negFloat .f64 x) true) ∧ (b = false → RdR (45 :: r) 0 false) := by
  rcases h.2 with ⟨rfl, m, k, g1, g2, g3, rfl, rfl⟩ | ⟨rfl, hno⟩
  · refine ⟨fun _ => ?_, fun h => (by cases h)⟩
    have e : Op.negFloat .f64 (wd false m k) = wd true m k := neg_wd g1 g2 false
    rw [e]
    exact ⟨wd_lt g1 g2 true, .inl ⟨rfl, .neg g1 g2 g3⟩⟩
  · refine ⟨fun h => (by cases h), fun _ => ⟨by omega, .inr ⟨rfl, rfl, fun y hy => ?_⟩⟩⟩
    rcases rest_form hy hn with ⟨m, k, g1, g2, g3, e⟩ | ⟨m, k, g1, g2, g3, e⟩
    · exact head_45 e.symm
    · exact hno m k g1 g2 g3 (List.cons.inj e).2
theorem rd_pos {t : List UInt8} {x : Nat} {b : Bool} (h : L2R t x b) (hn : ¬ Own5 t) (h45 : ∀ r, t ≠ 45 :: r) : (b = true → RdR t x true) ∧ (b = false → RdR t 0 false) := by
  rcases h.2 with ⟨rfl, m, k, g1, g2, g3, rfl, rfl⟩ | ⟨rfl, hno⟩
  · exact ⟨fun _ => ⟨wd_lt g1 g2 false, .inl ⟨rfl, .pos g1 g2 g3⟩⟩, fun h => (by cases h)⟩
  · refine ⟨fun h => (by cases h), fun _ => ⟨by omega, .inr ⟨rfl, rfl, fun y hy => ?_⟩⟩⟩
    rcases rest_form hy hn with ⟨m, k, g1, g2, g3, e⟩ | ⟨m, k, g1, g2, g3, e⟩
    · exact hno m k g1 g2 g3 e
    · exact h45 _ e
theorem rd_empty : RdR [] 0 false := by
  refine ⟨by omega, .inr ⟨rfl, rfl, fun y hy => ?_⟩⟩
  rcases hy.form with ⟨-, e⟩ | ⟨-, e⟩ | ⟨-, e⟩ | ⟨-, e⟩ | ⟨-, e⟩ | ⟨m, k, g1, g2, g3, -, e⟩ | ⟨m, k, g1, g2, g3, -, e⟩
  · cases e
  · cases e
  · cases e
  · cases e
  · cases e
  · have := oT_mem m k; rw [← e] at this; simp at this
  · cases e

section
theorem unary_negG (k : FloatKind) (b : Nat) : Op.unary .neg (.float k b) = pure (.float k (Op.negFloat k b)) := rfl
attribute [local go_sem] unary_negG
set_option maxRecDepth 100000 in
set_option maxHeartbeats 4000000 in
theorem srl_any (t : List UInt8) (w : World) (ht : t.length ≤ 1500000) : Calls Tryd.prog 16 #[.string ⟨t.toArray⟩] w (ReadR t w) := by
  by_cases h1 : t = [110, 97, 110]
  · subst h1
    go_enter Tryd.func16, Tryd.ntmps16
    go_wp2_with fail
    refine (l2NanG _).mono ?_
    rintro e w1 ⟨r, rfl, hn, hl, hb⟩
    go_wp2
    exact bodyPost_ret (v := .tuple #[.float .f64 r, .bool true]) (post_r Tryd.results16 rfl rfl) rfl ⟨r, true, rfl, ⟨hl, .inl ⟨rfl, .isnan hn⟩⟩, hb⟩
  by_cases h2 : t = [105, 110, 102]
  · subst h2
    go_enter Tryd.func16, Tryd.ntmps16
    go_wp2_with fail
    refine (l2InfG _).mono ?_
    rintro e w1 ⟨rfl, rfl⟩
    have HR : Hid (RdR [105, 110, 102] (wi false) true) := ⟨wi_lt false, .inl ⟨rfl, .inf⟩⟩
    generalize wi false = x at *
    go_wp2
    exact bodyPost_ret (v := .tuple #[.float .f64 x, .bool true]) (post_r Tryd.results16 rfl rfl) rfl ⟨x, true, rfl, HR.out, Below.refl _ _⟩
  by_cases h3 : t = [45, 105, 110, 102]
  · subst h3
    go_enter Tryd.func16, Tryd.ntmps16
    go_wp2_with fail
    refine (l2InfG _).mono ?_
    rintro e w1 ⟨rfl, rfl⟩
    have HR : Hid (RdR [45, 105, 110, 102] (Op.negFloat .f64 (wi false)) true) := by
      show RdR _ _ _
      rw [neg_wi]; exact ⟨wi_lt true, .inl ⟨rfl, .ninf⟩⟩
    generalize wi false = x at *
    go_wp2
    exact bodyPost_ret (v := .tuple #[.float .f64 _, .bool true]) (post_r Tryd.results16 rfl rfl) rfl ⟨_, true, rfl, HR.out, Below.refl _ _⟩
  by_cases h4 : t = [48]
  · subst h4
    go_enter Tryd.func16, Tryd.ntmps16
    go_wp2
    exact bodyPost_ret (v := .tuple #[.float .f64 0, .bool true]) (post_r Tryd.results16 rfl rfl) rfl ⟨0, true, rfl, ⟨by omega, .inl ⟨rfl, .zero⟩⟩, Below.refl _ _⟩
  by_cases h5 : t = [45, 48]
  · subst h5
    have HR : Hid (RdR [45, 48] (Op.negFloat .f64 0) true) := by
      have e : Op.negFloat .f64 0 = wd true 0 0 := neg_wd sc00 (by omega) false
      show RdR _ _ _
      rw [e]; exact ⟨wd_lt sc00 (by omega) true, .inl ⟨rfl, .nzero⟩⟩
    go_enter Tryd.func16, Tryd.ntmps16
    go_wp2
    exact bodyPost_ret (v := .tuple #[.float .f64 _, .bool true]) (post_r Tryd.results16 rfl rfl) rfl ⟨_, true, rfl, HR.out, Below.refl _ _⟩
  by_cases h6 : t = []
  · subst h6
    go_enter Tryd.func16, Tryd.ntmps16
    go_wp2
    exact bodyPost_ret (v := .tuple #[.float .f64 0, .bool false]) (post_r Tryd.results16 rfl rfl) rfl ⟨0, false, rfl, rd_empty, Below.refl _ _⟩
  have HO : Hid (¬ Own5 t) := fun h => by
    rcases h with h | h | h | h | h
    · exact h1 h
    · exact h2 h
    · exact h3 h
    · exact h4 h
    · exact h5 h
  obtain ⟨S, hS⟩ : ∃ S : ByteArray, S = ⟨t.toArray⟩ := ⟨_, rfl⟩
  have hSt : S.toList = t := by rw [ByteArray.toList_eq, hS]
  have hSd : S.data.toList = t := by rw [hS]
  have h1' : (S.toList == [110, 97, 110]) = false := by rw [hSt]; simpa using h1
  have h2' : (S.toList == [105, 110, 102]) = false := by rw [hSt]; simpa using h2
  have h3' : (S.toList == [45, 105, 110, 102]) = false := by rw [hSt]; simpa using h3
  have h4' : (S.toList == [48]) = false := by rw [hSt]; simpa using h4
  have h5' : (S.toList == [45, 48]) = false := by rw [hSt]; simpa using h5
  have h6' : (S.toList == []) = false := by rw [hSt]; simpa using h6
  have hsz : S.size = t.length := by rw [← hSd]; simp
  have hz0 : 0 < S.size := by
    rw [hsz]
    cases t with
    | nil => exact absurd rfl h6
    | cons c r => simp
  have HD : Hid (S.data.toList = t) := hSd
  have hfr : ∀ w : World, (Instr.slice 9 (.string S) (some (.int .i64 1)) none none).run Tryd.prog w = .ok (.string (S.extract 1 S.size)) w := fun w => by
    have := slice_from S 1 (by omega) w
    simpa using this
  have HS2 : Hid ((S.extract 1 S.size).data.toList = t.drop 1) := by show _ = _; rw [ext_allG, HD.out]
  have hs2 : (S.extract 1 S.size).size ≤ 1900000 := by
    have h : (S.extract 1 S.size).data.toList.length = (S.extract 1 S.size).size := by simp
    rw [HS2.out] at h
    have h2 : (t.drop 1).length = t.length - 1 := List.length_drop
    omega
  have hs1 : S.size ≤ 1900000 := by omega
  rw [← hS]
  clear h1 h2 h3 h4 h5 h6 hS hSt hSd
  by_cases h45 : S[0] = 45
  · have h45' : ((S[0].toNat : Int) == 45) = true := by rw [h45]; rfl
    have HT : Hid (t = 45 :: t.drop 1) := by
      show _ = _
      have := split_atG S 0 hz0
      rw [HD.out, h45] at this
      simpa using this
    clear h45
    generalize S.extract 1 S.size = S2 at *
    go_enter Tryd.func16, Tryd.ntmps16
    go_wp2_with fail
    refine (l2read_any S2 _ hs2).mono ?_
    rintro e w1 ⟨x, b, rfl, hx, rfl⟩
    rw [HS2.out] at hx
    have HX : Hid ((b = true → RdR t (Op.negFloat .f64 x) true) ∧ (b = false → RdR t 0 false)) := by
      have ho := HO.out
      rw [HT.out] at ho
      have := rd_neg hx ho
      rw [← HT.out] at this
      exact this
    clear hx
    cases b
    · go_wp2
      exact bodyPost_ret (v := .tuple #[.float .f64 0, .bool false]) (post_r Tryd.results16 rfl rfl) rfl ⟨0, false, rfl, HX.out.2 (by first | rfl | trivial), Below.refl _ _⟩
    · go_wp2
      exact bodyPost_ret (v := .tuple #[.float .f64 _, .bool true]) (post_r Tryd.results16 rfl rfl) rfl ⟨_, true, rfl, HX.out.1 (by first | rfl | trivial), Below.refl _ _⟩
  · have h45' : ((S[0].toNat : Int) == 45) = false := by
      rw [beq_eq_false_iff_ne]; intro e
      exact h45 (UInt8.toNat.inj (by have : S[0].toNat = 45 := by omega
                                     rw [this]; rfl))
    have HT : Hid (∀ r, t ≠ 45 :: r) := fun r e => by
      have := split_atG S 0 hz0
      rw [HD.out, e] at this
      simp at this
      exact h45 this.symm
    clear h45 hfr
    go_enter Tryd.func16, Tryd.ntmps16
    go_wp2_with fail
    refine (l2read_any S _ hs1).mono ?_
    rintro e w1 ⟨x, b, rfl, hx, rfl⟩
    rw [HD.out] at hx
    have HX : Hid ((b = true → RdR t x true) ∧ (b = false → RdR t 0 false)) := rd_pos hx HO.out HT.out
    clear hx
    cases b
    · go_wp2
      exact bodyPost_ret (v := .tuple #[.float .f64 0, .bool false]) (post_r Tryd.results16 rfl rfl) rfl ⟨0, false, rfl, HX.out.2 (by first | rfl | trivial), Below.refl _ _⟩
    · go_wp2
      exact bodyPost_ret (v := .tuple #[.float .f64 x, .bool true]) (post_r Tryd.results16 rfl rfl) rfl ⟨x, true, rfl, HX.out.1 (by first | rfl | trivial), Below.refl _ _⟩
end
end Go.Proofs.YtedobjegolpbjaaDoor
