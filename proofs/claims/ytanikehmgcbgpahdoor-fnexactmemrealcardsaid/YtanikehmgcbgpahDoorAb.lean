/- RealArg of the program and of the document. Helper text: no statement is claimed here. -/
import Derived.Test.YtanikehmgcbgpahDoorAa
import Derived.Test.YtanikehmgcbgpahDoorDs
import Derived.Test.YtanikehmgcbgpahDoorFf
import Derived.Test.YtanikehmgcbgpahDoorCq
namespace Go.Proofs.YtanikehmgcbgpahDoor
open Go.ChangeShapes Go.WideShapes Go.ChangeAt Go.RowKit Fl

def IsNan (w : World) (e : Ending) (w' : World) : Prop := ∃ r, e = .returned (.float .f64 r) ∧ nan r ∧ r < 2 ^ 64 ∧ Below w.heap.size w w'
set_option maxHeartbeats 400000 in
theorem l2Nan_any (w : World) : Calls Tryd.prog 67 #[] w (IsNan w) := by
  obtain ⟨r, hr, hn, hl⟩ := run_nan .quo (by simp [arith]) 33 0 0 w (by rfl)
  go_enter Tryd.func67, Tryd.ntmps67
  go_wp2
  go_ret
  exact ⟨r, rfl, hn, hl, drewW_below (Below.refl _ _)⟩
set_option maxHeartbeats 400000 in
theorem l2Inf_any (w : World) : Calls Tryd.prog 68 #[] w fun e w' => e = .returned (.float .f64 (wi false)) ∧ w' = w := by
  have h := run_some (show floatBits .quo .f64 4607182418800017408 0 = some (wi false) from one_by_zero false)
  go_enter Tryd.func68, Tryd.ntmps68
  go_wp2
  go_ret
  exact ⟨rfl, rfl⟩

/-- The real number of a word. -/
def WordR (n : Int) (r : Nat) : Prop := r < 2 ^ 64 ∧ (if n = 0 then nan r else if n = 1 then r = wi false else if n = 2 then r = wi true else r = wd true 0 0)
theorem WordR.one {n : Int} {r r' : Nat} (h : WordR n r) (h' : WordR n r') : SameV r r' := by
  have a := h.2
  have b := h'.2
  split at a
  · exact .inr ⟨a, by simpa [*] using b⟩
  split at a
  · left; rw [a]; simp_all
  split at a
  · left; rw [a]; simp_all
  · left; rw [a]; simp_all
section
attribute [local go_sem] unary_negF
def Worded2 (n : Int) (w : World) (e : Ending) (w' : World) : Prop := ∃ r, e = .returned (.float .f64 r) ∧ WordR n r ∧ Below w.heap.size w w'
set_option maxHeartbeats 400000 in
theorem sword_any (n : Int) (w : World) : Calls Tryd.prog 47 #[.int .i64 n] w (Worded2 n w) := by
  by_cases h0 : n = 0
  · subst h0
    go_enter Tryd.func47, Tryd.ntmps47
    go_wp2_with fail
    refine (l2Nan_any _).mono ?_
    rintro e w1 ⟨r, rfl, hn, hl, hb⟩
    go_wp2
    go_ret
    exact ⟨r, rfl, ⟨hl, hn⟩, hb⟩
  by_cases h1 : n = 1
  · subst h1
    go_enter Tryd.func47, Tryd.ntmps47
    go_wp2_with fail
    refine (l2Inf_any _).mono ?_
    rintro e w1 ⟨rfl, rfl⟩
    go_wp2
    go_ret
    exact ⟨_, rfl, ⟨wi_lt false, rfl⟩, Below.refl _ _⟩
  by_cases h2 : n = 2
  · subst h2
    go_enter Tryd.func47, Tryd.ntmps47
    go_wp2_with fail
    refine (l2Inf_any _).mono ?_
    rintro e w1 ⟨rfl, rfl⟩
    go_wp2
    go_ret
    exact ⟨_, rfl, ⟨by rw [neg_wi]; exact wi_lt true, by rw [neg_wi]; rfl⟩, Below.refl _ _⟩
  · have h0' : (n == 0) = false := by simpa using h0
    have h1' : (n == 1) = false := by simpa using h1
    have h2' : (n == 2) = false := by simpa using h2
    have H : Hid (n ≠ 0 ∧ n ≠ 1 ∧ n ≠ 2) := ⟨h0, h1, h2⟩
    clear h0 h1 h2
    go_enter Tryd.func47, Tryd.ntmps47
    go_wp2
    go_ret
    have e : Op.negFloat .f64 0 = wd true 0 0 := neg_wd sc00 (by omega) false
    exact ⟨_, rfl, ⟨by rw [e]; exact wd_lt sc00 (by omega) true, by rw [e]; simp [H.out]⟩, Below.refl _ _⟩

end

theorem ten_step (k : Nat) : ((10 ^ k : Nat) : Int) * 10 = ((10 ^ (k + 1) : Nat) : Int) := by rw [Nat.pow_succ]; push_cast; rfl
theorem ten_le {k : Nat} (h : k ≤ 6) : 1 ≤ (10 ^ k : Nat) ∧ (10 ^ k : Nat) ≤ 1000000 :=
  ⟨Nat.pow_pos (by omega), Nat.pow_le_pow_right (n := 10) (by omega) h⟩
theorem dec_some {n : Int} {p : Nat} (h0 : -999999999 ≤ n) (h9 : n ≤ 999999999) (hp : p ≤ 6) : ∃ r, floatBits .quo .f64 (floatOfInt .f64 n) (floatOfInt .f64 ((10 ^ p : Nat) : Int)) = some r ∧ r < 2 ^ 64 ∧ ¬ nan r := by
  have := ten_le hp
  generalize (10 ^ p : Nat) = t at *
  exact quo_ints (by omega) (by omega) (by omega)
def DecR (n : Int) (p : Nat) (w : World) (e : Ending) (w' : World) : Prop := ∃ r, e = .returned (.float .f64 r) ∧ floatBits .quo .f64 (floatOfInt .f64 n) (floatOfInt .f64 ((10 ^ p : Nat) : Int)) = some r ∧ r < 2 ^ 64 ∧ w' = w

set_option maxHeartbeats 400000 in
theorem dec_loop (n : Int) (p : Nat) (w : World) (h0 : -999999999 ≤ n) (h9 : n ≤ 999999999) (hp : p ≤ 6) :
    Calls Tryd.prog 49 #[.int .i64 n, .int .i64 (p : Int)] w (DecR n p w) := by
  go_enter Tryd.func49, Tryd.ntmps49
  go_wp2
  go_loop [5, 7] (fun t c => ∃ k : Nat, k ≤ p ∧ t = .int .i64 ((10 ^ k : Nat) : Int) ∧ c = .int .i64 (k : Int)) (fun _ c => 10 - (intOf c).toNat)
  case atStart => exact ⟨0, by omega, rfl, rfl⟩
  case round =>
    obtain ⟨k, hk, rfl, rfl⟩ := hrel
    obtain ⟨t1, t2⟩ := ten_le (k := k) (by omega)
    by_cases hlt : k < p
    · have hlt' : (k : Int) < p := by omega
      have hs := ten_step k
      generalize hT : (10 ^ k : Nat) = T at *
      have HS : Hid ((T : Int) * 10 = _) := hs
      clear hs hT
      go_wp2
      refine ⟨⟨k + 1, by omega, ?_, by go_num⟩, by simp [intOf]; omega⟩
      rw [← HS.out]
    · have hlt' : ¬ (k : Int) < p := by omega
      have hkp : k = p := by omega
      obtain ⟨r, hr, hl, -⟩ := dec_some h0 h9 hp
      rw [← hkp] at hr
      have hrun := run_some hr
      have HR : Hid (floatBits .quo .f64 (floatOfInt .f64 n) (floatOfInt .f64 ((10 ^ p : Nat) : Int)) = some r) := by rw [← hkp]; exact hr
      clear hr
      generalize hT : (10 ^ k : Nat) = T at *
      go_wp2
      go_ret
      exact ⟨r, rfl, HR.out, hl, rfl⟩

/-- What RealArg may answer. -/
def ArgR (k n p : Int) (r : Nat) : Prop := r < 2 ^ 64 ∧
  ((okB k n p = true ∧ k = 12 ∧ floatBits .quo .f64 (floatOfInt .f64 n) (floatOfInt .f64 ((10 ^ p.toNat : Nat) : Int)) = some r) ∨ (okB k n p = true ∧ k = 13 ∧ WordR n r) ∨ (¬ (okB k n p = true ∧ (k = 12 ∨ k = 13)) ∧ r = 0))
theorem ArgR.one {k n p : Int} {r r' : Nat} (h : ArgR k n p r) (h' : ArgR k n p r') : SameV r r' := by
  rcases h.2 with ⟨a1, a2, a3⟩ | ⟨a1, a2, a3⟩ | ⟨a1, a2⟩ <;> rcases h'.2 with ⟨b1, b2, b3⟩ | ⟨b1, b2, b3⟩ | ⟨b1, b2⟩
  · left; rw [a3] at b3; exact Option.some.inj b3
  · omega
  · exact absurd ⟨a1, .inl a2⟩ b1
  · omega
  · exact a3.one b3
  · exact absurd ⟨a1, .inr a2⟩ b1
  · exact absurd ⟨b1, .inl b2⟩ a1
  · exact absurd ⟨b1, .inr b2⟩ a1
  · left; rw [a2, b2]
def ArgCame (k n p : Int) (w : World) (e : Ending) (w' : World) : Prop := ∃ r, e = .returned (.float .f64 r) ∧ ArgR k n p r ∧ Below w.heap.size w w'
theorem decOk_in {n p : Int} (h : okB 12 n p = true) : -999999999 ≤ n ∧ n ≤ 999999999 ∧ 1 ≤ p ∧ p ≤ 6 := by
  rw [okB_12] at h
  simp [decOk] at h
  omega
theorem wordOk_in {n p : Int} (h : okB 13 n p = true) : 0 ≤ n ∧ n < 4 ∧ p = 0 := by
  rw [okB_13] at h
  simpa using h

set_option maxHeartbeats 400000 in
theorem iarg_12 (n p : Int) (w : World) (hT : DevTab w) : Calls Tryd.prog 30 #[.agg #[.int .i64 12, .int .i64 n, .int .i64 p]] w (ArgCame 12 n p w) := by
  cases hok : okB 12 n p
  · have HO : Hid (okB 12 n p = false) := hok
    clear hok
    go_enter Tryd.func30, Tryd.ntmps30
    go_wp2_with fail
    refine (devOk_any _ _ _ _ (hT.alloc _)).mono ?_
    rintro e w1 ⟨rfl, hb⟩
    rw [HO.out]
    obtain ⟨c0, c1, c2⟩ := arg_at 12 n p w
    have hlt : w.heap.size < (w.alloc (argO 12 n p)).heap.size := by simp
    rw [← hb.cell (p := ⟨w.heap.size, 0, none⟩) hlt] at c0
    go_wp2
    go_ret
    exact ⟨0, rfl, ⟨by omega, .inr (.inr ⟨by rw [HO.out]; simp, rfl⟩)⟩, of_one hb⟩
  · obtain ⟨h0, h9, p1, p6⟩ := decOk_in hok
    obtain ⟨q, rfl⟩ := Int.eq_ofNat_of_zero_le (show 0 ≤ p by omega)
    have HO : Hid (okB 12 n (q : Int) = true) := hok
    clear hok
    go_enter Tryd.func30, Tryd.ntmps30
    go_wp2_with fail
    refine (devOk_any _ _ _ _ (hT.alloc _)).mono ?_
    rintro e w1 ⟨rfl, hb⟩
    rw [HO.out]
    obtain ⟨c0, c1, c2⟩ := arg_at 12 n (q : Int) w
    have hlt : w.heap.size < (w.alloc (argO 12 n (q : Int))).heap.size := by simp
    rw [← hb.cell (p := ⟨w.heap.size, 0, none⟩) hlt] at c0
    rw [← hb.cell (p := ⟨w.heap.size, 1, none⟩) hlt] at c1
    rw [← hb.cell (p := ⟨w.heap.size, 2, none⟩) hlt] at c2
    go_wp2_with fail
    refine (dec_loop n q _ h0 h9 (by omega)).mono ?_
    rintro e w2 ⟨r, rfl, hr, hl, rfl⟩
    have HR : Hid (floatBits .quo .f64 (floatOfInt .f64 n) (floatOfInt .f64 ((10 ^ q : Nat) : Int)) = some r) := hr
    clear hr
    go_wp2
    go_ret
    exact ⟨r, rfl, ⟨hl, .inl ⟨HO.out, rfl, HR.out⟩⟩, of_one hb⟩
end Go.Proofs.YtanikehmgcbgpahDoor
