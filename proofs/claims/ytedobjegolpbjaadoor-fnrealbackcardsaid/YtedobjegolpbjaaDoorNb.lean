/- The text of a real number: the program's RealText. Helper text: no statement is claimed here. -/
import Derived.Test.YtedobjegolpbjaaDoorNa
import Derived.Test.YtedobjegolpbjaaDoorNh
namespace Go.Proofs.YtedobjegolpbjaaDoor
open Go.ChangeShapes Go.WideShapes Go.ChangeAt Go.RowKit Fl

section
attribute [local go_sem] unary_negF

set_option maxHeartbeats 400000 in
theorem it_nan (x : Nat) (w : World) (h : nan x) : Calls Tryd.prog 12 #[.float .f64 x] w (Texted x w) := by
  have h1 := (asks_nan h).n
  have H : Hid (nan x) := h
  clear h
  go_enter Tryd.func12, Tryd.ntmps12
  go_wp2
  go_ret
  exact ⟨[110, 97, 110], rfl, .isnan H.out, Below.refl _ _⟩
set_option maxHeartbeats 400000 in
theorem it_hi (x : Nat) (w : World) (T : TextR x [105, 110, 102]) (h1 : (ord x x != some .eq) = false) (h2 : (ord x 9218868437227405311 == some .gt) = true) : Calls Tryd.prog 12 #[.float .f64 x] w (Texted x w) := by
  have H : Hid (TextR x [105, 110, 102]) := T
  clear T
  go_enter Tryd.func12, Tryd.ntmps12
  go_wp2
  go_ret
  exact ⟨[105, 110, 102], rfl, H.out, Below.refl _ _⟩
set_option maxHeartbeats 400000 in
theorem it_lo (x : Nat) (w : World) (T : TextR x [45, 105, 110, 102]) (h1 : (ord x x != some .eq) = false) (h2 : (ord x 9218868437227405311 == some .gt) = false) (h3 : (ord x 18442240474082181119 == some .lt) = true) : Calls Tryd.prog 12 #[.float .f64 x] w (Texted x w) := by
  have H : Hid (TextR x [45, 105, 110, 102]) := T
  clear T
  go_enter Tryd.func12, Tryd.ntmps12
  go_wp2
  go_ret
  exact ⟨[45, 105, 110, 102], rfl, H.out, Below.refl _ _⟩
set_option maxHeartbeats 400000 in
theorem it_z (x y : Nat) (w : World) (T : TextR x [48]) (h1 : (ord x x != some .eq) = false) (h2 : (ord x 9218868437227405311 == some .gt) = false) (h3 : (ord x 18442240474082181119 == some .lt) = false) (h4 : (ord x 0 == some .eq) = true)
    (h6 : ∀ (t : TypeId) (w : World), (binOp .quo t (.float .f64 4607182418800017408) (.float .f64 x)).run Tryd.prog w = .ok (.float .f64 y) w) (h7 : (ord y 0 == some .lt) = false) : Calls Tryd.prog 12 #[.float .f64 x] w (Texted x w) := by
  have H : Hid (TextR x [48]) := T
  clear T
  go_enter Tryd.func12, Tryd.ntmps12
  go_wp2
  go_ret
  exact ⟨[48], rfl, H.out, Below.refl _ _⟩
set_option maxHeartbeats 400000 in
theorem it_nz (x y : Nat) (w : World) (T : TextR x [45, 48]) (h1 : (ord x x != some .eq) = false) (h2 : (ord x 9218868437227405311 == some .gt) = false) (h3 : (ord x 18442240474082181119 == some .lt) = false) (h4 : (ord x 0 == some .eq) = true)
    (h6 : ∀ (t : TypeId) (w : World), (binOp .quo t (.float .f64 4607182418800017408) (.float .f64 x)).run Tryd.prog w = .ok (.float .f64 y) w) (h7 : (ord y 0 == some .lt) = true) : Calls Tryd.prog 12 #[.float .f64 x] w (Texted x w) := by
  have H : Hid (TextR x [45, 48]) := T
  clear T
  go_enter Tryd.func12, Tryd.ntmps12
  go_wp2
  go_ret
  exact ⟨[45, 48], rfl, H.out, Below.refl _ _⟩
theorem it_inf (w : World) : Calls Tryd.prog 12 #[.float .f64 (wi false)] w (Texted (wi false) w) := it_hi _ w .inf (asks_wi false).n (asks_wi false).hi
theorem it_ninf (w : World) : Calls Tryd.prog 12 #[.float .f64 (wi true)] w (Texted (wi true) w) := it_lo _ w .ninf (asks_wi true).n (asks_wi true).hi (asks_wi true).lo
theorem it_zero (s : Bool) (w : World) : Calls Tryd.prog 12 #[.float .f64 (wd s 0 0)] w (Texted (wd s 0 0) w) := by
  have a := asks_wd sc00 (by omega) s
  cases s
  · exact it_z _ _ w .zero a.n a.hi a.lo a.z (run_someN (one_by_zero false)) (asks_wi false).ng
  · exact it_nz _ _ w .nzero a.n a.hi a.lo a.z (run_someN (one_by_zero true)) (asks_wi true).ng
set_option maxHeartbeats 400000 in
theorem it_pos (m k : Nat) (w : World) (h : Sc m k) (hk : k ≤ 2045) (hm : 0 < m) (hP : PowTab w) : Calls Tryd.prog 12 #[.float .f64 (wd false m k)] w (Texted (wd false m k) w) := by
  obtain ⟨h1, h2, h3, h4, h5⟩ := asks_wd h hk false
  have h4 : (ord (wd false m k) 0 == some .eq) = false := by rw [h4]; simp; omega
  have h5 : (ord (wd false m k) 0 == some .lt) = false := by rw [h5]; simp
  go_enter Tryd.func12, Tryd.ntmps12
  go_wp2_with fail
  refine (oddText_any m k _ h hk hm hP).mono ?_
  rintro e w1 ⟨rfl, hb⟩
  have H : Hid (TextR (wd false m k) (oT m k)) := TextR.pos h hk hm
  generalize oT m k = t at *
  go_wp2
  go_ret
  exact ⟨t, rfl, H.out, hb⟩
set_option maxHeartbeats 400000 in
theorem it_neg (m k : Nat) (w : World) (h : Sc m k) (hk : k ≤ 2045) (hm : 0 < m) (hP : PowTab w) : Calls Tryd.prog 12 #[.float .f64 (wd true m k)] w (Texted (wd true m k) w) := by
  obtain ⟨h1, h2, h3, h4, h5⟩ := asks_wd h hk true
  have h4 : (ord (wd true m k) 0 == some .eq) = false := by rw [h4]; simp; omega
  have h5 : (ord (wd true m k) 0 == some .lt) = true := by rw [h5]; simpa using hm
  have h6 : Op.negFloat .f64 (wd true m k) = wd false m k := neg_wd h hk true
  have hl := oT_len h hk hm
  go_enter Tryd.func12, Tryd.ntmps12
  go_wp2_with fail
  refine (oddText_any m k _ h hk hm hP).mono ?_
  rintro e w1 ⟨rfl, hb⟩
  have H : Hid (TextR (wd true m k) (45 :: oT m k)) := TextR.neg h hk hm
  generalize oT m k = t at *
  go_wp2
  go_ret
  exact ⟨45 :: t, ret_str (cat [45] t), H.out, hb⟩
end
theorem it_any (x : Nat) (w : World) (hx : x < 2 ^ 64) (hP : PowTab w) : Calls Tryd.prog 12 #[.float .f64 x] w (Texted x w) := by
  rcases cases_wd hx with ⟨s, m, k, hs, hk, rfl⟩ | ⟨s, rfl⟩ | hn
  · by_cases h0 : m = 0
    · rw [wd_zeroN hs h0]; exact it_zero s w
    · cases s
      · exact it_pos m k w hs hk (by omega) hP
      · exact it_neg m k w hs hk (by omega) hP
  · cases s
    · exact it_inf w
    · exact it_ninf w
  · exact it_nan x w hn
end Go.Proofs.YtedobjegolpbjaaDoor
