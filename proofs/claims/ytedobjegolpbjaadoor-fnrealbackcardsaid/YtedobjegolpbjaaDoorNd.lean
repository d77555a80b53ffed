/- The text of a real number: the document's RealText; one number, one text. Helper text: no statement is claimed here. -/
import Derived.Test.YtedobjegolpbjaaDoorNc
namespace Go.Proofs.YtedobjegolpbjaaDoor
open Go.ChangeShapes Go.WideShapes Go.ChangeAt Go.RowKit Fl

theorem TextR.form {x : Nat} {t : List UInt8} (h : TextR x t) :
    (nan x ∧ t = [110, 97, 110]) ∨ (x = wi false ∧ t = [105, 110, 102]) ∨ (x = wi true ∧ t = [45, 105, 110, 102]) ∨ (x = wd false 0 0 ∧ t = [48]) ∨ (x = wd true 0 0 ∧ t = [45, 48]) ∨
    (∃ m k, Sc m k ∧ k ≤ 2045 ∧ 0 < m ∧ x = wd false m k ∧ t = oT m k) ∨ (∃ m k, Sc m k ∧ k ≤ 2045 ∧ 0 < m ∧ x = wd true m k ∧ t = 45 :: oT m k) := by
  exact h
theorem wi_ne_wd {s t : Bool} {m k : Nat} (h : Sc m k) (hk : k ≤ 2045) : wi s ≠ wd t m k := by
  intro e
  have := read_wi s
  rw [e, read_wd h hk] at this
  cases this
theorem wi_inj {s t : Bool} (e : wi s = wi t) : s = t := by
  have := read_wi s
  rw [e, read_wi t] at this
  cases this; rfl

/-- The text as a function of what a word stands for. -/
def txtD : Ieee.Datum → List UInt8
  | .nan .. => [110, 97, 110]
  | .infinity s => if s then [45, 105, 110, 102] else [105, 110, 102]
  | .number s m p => if m = 0 then (if s then [45, 48] else [48]) else if s then 45 :: oT m (p + 1074).toNat else oT m (p + 1074).toNat
theorem txt_num (s : Bool) {m k : Nat} (hm : 0 < m) : txtD (.number s m ((k : Int) - 1074)) = if s then 45 :: oT m k else oT m k := by
  have e : ((k : Int) - 1074 + 1074).toNat = k := by omega
  have h0 : ¬ m = 0 := by omega
  simp only [txtD, h0, if_false, e]
theorem TextR.fn {x : Nat} {t : List UInt8} (h : TextR x t) : t = txtD (Ieee.double.read x) := by
  rcases h with ⟨h, rfl⟩ | ⟨rfl, rfl⟩ | ⟨rfl, rfl⟩ | ⟨rfl, rfl⟩ | ⟨rfl, rfl⟩ | ⟨m, k, a, b, c, rfl, rfl⟩ | ⟨m, k, a, b, c, rfl, rfl⟩
  · obtain ⟨s, f, e⟩ := nan_read h; rw [e]; rfl
  · rw [read_wi]; rfl
  · rw [read_wi]; rfl
  · rw [read_wd sc00 (by omega)]; rfl
  · rw [read_wd sc00 (by omega)]; rfl
  · rw [read_wd a b, txt_num false c]; rfl
  · rw [read_wd a b, txt_num true c]; rfl
theorem TextR.one {x : Nat} {t t' : List UInt8} (h : TextR x t) (h' : TextR x t') : t = t' := h.fn.trans h'.fn.symm
theorem TextR.len {x : Nat} {t : List UInt8} (h : TextR x t) : t.length ≤ 60 := by
  rcases h with ⟨-, rfl⟩ | ⟨-, rfl⟩ | ⟨-, rfl⟩ | ⟨-, rfl⟩ | ⟨-, rfl⟩ | ⟨m, k, a, b, c, -, rfl⟩ | ⟨m, k, a, b, c, -, rfl⟩
  · simp
  · simp
  · simp
  · simp
  · simp
  · have := oT_len a b c; omega
  · have := oT_len a b c; simp; omega

section
attribute [local go_sem] unary_negF
set_option maxHeartbeats 400000 in
theorem st_nan (x : Nat) (w : World) (h : nan x) : Calls Tryd.prog 28 #[.float .f64 x] w (Texted x w) := by
  have h1 := (asks_nan h).n
  have H : Hid (nan x) := h
  clear h
  go_enter Tryd.func28, Tryd.ntmps28
  go_wp2
  go_ret
  exact ⟨[110, 97, 110], rfl, .isnan H.out, Below.refl _ _⟩
set_option maxHeartbeats 400000 in
theorem plain_inf (x : Nat) (w : World) (h2 : (ord x 9218868437227405311 == some .gt) = true) : Calls Tryd.prog 57 #[.float .f64 x] w fun e w' => e = .returned (.string ⟨#[105, 110, 102]⟩) ∧ w' = w := by
  go_enter Tryd.func57, Tryd.ntmps57
  go_wp2
  go_ret
  exact ⟨rfl, rfl⟩
set_option maxHeartbeats 400000 in
theorem st_z (x y : Nat) (w : World) (T : TextR x [48]) (h1 : (ord x x != some .eq) = false) (h4 : (ord x 0 == some .eq) = true)
    (h6 : ∀ (t : TypeId) (w : World), (binOp .quo t (.float .f64 4607182418800017408) (.float .f64 x)).run Tryd.prog w = .ok (.float .f64 y) w) (h7 : (ord y 0 == some .lt) = false) : Calls Tryd.prog 28 #[.float .f64 x] w (Texted x w) := by
  have H : Hid (TextR x [48]) := T
  clear T
  go_enter Tryd.func28, Tryd.ntmps28
  go_wp2
  go_ret
  exact ⟨[48], rfl, H.out, Below.refl _ _⟩
set_option maxHeartbeats 400000 in
theorem st_nz (x y : Nat) (w : World) (T : TextR x [45, 48]) (h1 : (ord x x != some .eq) = false) (h4 : (ord x 0 == some .eq) = true)
    (h6 : ∀ (t : TypeId) (w : World), (binOp .quo t (.float .f64 4607182418800017408) (.float .f64 x)).run Tryd.prog w = .ok (.float .f64 y) w) (h7 : (ord y 0 == some .lt) = true) : Calls Tryd.prog 28 #[.float .f64 x] w (Texted x w) := by
  have H : Hid (TextR x [45, 48]) := T
  clear T
  go_enter Tryd.func28, Tryd.ntmps28
  go_wp2
  go_ret
  exact ⟨[45, 48], rfl, H.out, Below.refl _ _⟩
set_option maxHeartbeats 400000 in
theorem st_up (x : Nat) (w : World) (t : List UInt8) (T : TextR x t) (h1 : (ord x x != some .eq) = false) (h4 : (ord x 0 == some .eq) = false) (h5 : (ord x 0 == some .lt) = false)
    (hp : Calls Tryd.prog 57 #[.float .f64 x] w fun e w' => e = .returned (.string ⟨t.toArray⟩) ∧ Below w.heap.size w w') : Calls Tryd.prog 28 #[.float .f64 x] w (Texted x w) := by
  have H : Hid (TextR x t) := T
  clear T
  have HP : Hid _ := hp
  clear hp
  go_enter Tryd.func28, Tryd.ntmps28
  go_wp2_with fail
  refine Calls.mono HP.out ?_
  rintro e w1 ⟨rfl, hb⟩
  go_wp2
  go_ret
  exact ⟨t, rfl, H.out, hb⟩
set_option maxHeartbeats 400000 in
theorem st_down (x y : Nat) (w : World) (t : List UInt8) (T : TextR x (45 :: t)) (hl : t.length ≤ 60) (h1 : (ord x x != some .eq) = false) (h4 : (ord x 0 == some .eq) = false) (h5 : (ord x 0 == some .lt) = true) (h6 : Op.negFloat .f64 x = y)
    (hp : Calls Tryd.prog 57 #[.float .f64 y] w fun e w' => e = .returned (.string ⟨t.toArray⟩) ∧ Below w.heap.size w w') : Calls Tryd.prog 28 #[.float .f64 x] w (Texted x w) := by
  have H : Hid (TextR x (45 :: t)) := T
  clear T
  have HP : Hid _ := hp
  clear hp
  go_enter Tryd.func28, Tryd.ntmps28
  go_wp2_with fail
  refine Calls.mono HP.out ?_
  rintro e w1 ⟨rfl, hb⟩
  go_wp2
  go_ret
  exact ⟨45 :: t, ret_str (cat [45] t), H.out, hb⟩
end
theorem inf_plain (x : Nat) (w : World) (h2 : (ord x 9218868437227405311 == some .gt) = true) : Calls Tryd.prog 57 #[.float .f64 x] w fun e w' => e = .returned (.string ⟨([105, 110, 102] : List UInt8).toArray⟩) ∧ Below w.heap.size w w' :=
  (plain_inf x w h2).mono fun _ _ ⟨he, hw⟩ => ⟨he, hw ▸ Below.refl _ _⟩
theorem st_any (x : Nat) (w : World) (hx : x < 2 ^ 64) : Calls Tryd.prog 28 #[.float .f64 x] w (Texted x w) := by
  rcases cases_wd hx with ⟨s, m, k, hs, hk, rfl⟩ | ⟨s, rfl⟩ | hn
  · by_cases h0 : m = 0
    · rw [wd_zeroN hs h0]
      have a := asks_wd sc00 (by omega) s
      cases s
      · exact st_z _ _ w .zero a.n a.z (run_someN (one_by_zero false)) (asks_wi false).ng
      · exact st_nz _ _ w .nzero a.n a.z (run_someN (one_by_zero true)) (asks_wi true).ng
    · have a := asks_wd hs hk s
      have hm : 0 < m := by omega
      have az : (ord (wd s m k) 0 == some .eq) = false := by rw [a.z]; simpa using h0
      cases s
      · exact st_up _ w _ (.pos hs hk hm) a.n az (by rw [a.ng]; simp) (plain_any m k w hs hk hm)
      · exact st_down _ _ w _ (.neg hs hk hm) (by have := oT_len hs hk hm; omega) a.n az (by rw [a.ng]; simpa using hm) (neg_wd hs hk true) (plain_any m k w hs hk hm)
  · have a := asks_wi s
    cases s
    · exact st_up _ w _ .inf a.n a.z a.ng (inf_plain _ w a.hi)
    · exact st_down _ _ w _ .ninf (by simp) a.n a.z a.ng (neg_wi true) (inf_plain _ w (asks_wi false).hi)
  · exact st_nan x w hn

end Go.Proofs.YtedobjegolpbjaaDoor
