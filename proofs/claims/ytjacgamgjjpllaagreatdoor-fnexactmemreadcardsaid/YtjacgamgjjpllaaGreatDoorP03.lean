/- One text, one number; the texts of real numbers taken apart. Helper text: no statement is claimed here. -/
import Derived.Test.YtjacgamgjjpllaaGreatDoorP01
import Derived.Test.YtjacgamgjjpllaaGreatDoorP02
import Derived.Lib.IndexMore
import Derived.Lib.SmallJoins
import Derived.WalkLawsBesides
import Derived.Test.YtjacgamgjjpllaaGreatDoorRows
import Derived.WalkKit
import Derived.ProofKit
import Derived.OpenShut
import Derived.Below
import Derived.WalkSmall
namespace Go.Proofs.YtjacgamgjjpllaaGreatDoor
open Go.RowKit Fl

theorem first_of {c : UInt8} : ∀ {a b l1 l2 : List UInt8}, c ∉ a → c ∉ l1 → a ++ c :: b = l1 ++ c :: l2 → a = l1 ∧ b = l2
  | [], b, [], l2, _, _, h => ⟨rfl, by simpa using h⟩
  | [], b, x :: l1, l2, _, h2, h => by simp at h; exact absurd (by simp [h.1]) h2
  | x :: a, b, [], l2, h1, _, h => by simp at h; exact absurd (by simp [h.1]) h1
  | x :: a, b, y :: l1, l2, h1, h2, h => by
    simp only [List.cons_append, List.cons.injEq] at h
    obtain ⟨rfl, h⟩ := h
    obtain ⟨rfl, rfl⟩ := first_of (a := a) (l1 := l1) (fun hm => h1 (by simp [hm])) (fun hm => h2 (by simp [hm])) h
    exact ⟨rfl, rfl⟩
theorem oT_form (m k : Nat) : oT m k = Lib.itoa (oN m k) ++ 42 :: (50 :: 94 :: Lib.itoa (oE m k)) := by unfold oT; simp
theorem oT_inj {m k m' k' : Nat} (h : Sc m k) (hm : 0 < m) (h' : Sc m' k') (hm' : 0 < m') (e : oT m k = oT m' k') : m = m' ∧ k = k' := by
  rw [oT_form, oT_form] at e
  obtain ⟨e1, e2⟩ := first_of (itoa_no42 _) (itoa_no42 _) e
  have a := itoa_inj e1
  simp only [List.cons.injEq, true_and] at e2
  have b := itoa_inj e2
  have hN : oN m k = oN m' k' := by omega
  have hv : m * 2 ^ k = m' * 2 ^ k' := by
    have v := (oddp_val (m * 2 ^ k) (pos_val hm)).1
    have v' := (oddp_val (m' * 2 ^ k') (pos_val hm')).1
    have hE : (oddp (m * 2 ^ k)).2 = (oddp (m' * 2 ^ k')).2 := by unfold oE at b; omega
    unfold oN at hN
    rw [← v, ← v', hN, hE]
  exact sc_unique h h' hm hv
theorem oN_head (m k : Nat) : ∃ c r, oT m k = c :: r ∧ 48 ≤ c.toNat ∧ c.toNat ≤ 57 := by
  obtain ⟨c, r, hd, h1, h2⟩ := digits_first (oN m k)
  refine ⟨c, r ++ 42 :: (50 :: 94 :: Lib.itoa (oE m k)), ?_, h1, h2⟩
  rw [oT_form, Lib.itoa_nonneg, hd]; rfl
theorem oT_mem (m k : Nat) : (42 : UInt8) ∈ oT m k := by rw [oT_form]; simp

/-- What stands behind the sign: how a text begins. -/
theorem TextR.inj {x y : Nat} {t : List UInt8} (h : TextR x t) (h' : TextR y t) : x = y ∨ (nan x ∧ nan y) := by
  have n42 : ∀ {l : List UInt8}, l = [110, 97, 110] ∨ l = [105, 110, 102] ∨ l = [45, 105, 110, 102] ∨ l = [48] ∨ l = [45, 48] → (42 : UInt8) ∉ l := by
    intro l hl
    rcases hl with rfl | rfl | rfl | rfl | rfl <;> decide
  have key : ∀ {x y : Nat} {t : List UInt8} {m k : Nat}, t = oT m k ∨ t = 45 :: oT m k → t = [110, 97, 110] ∨ t = [105, 110, 102] ∨ t = [45, 105, 110, 102] ∨ t = [48] ∨ t = [45, 48] → False := by
    intro x y t m k h1 h2
    refine n42 h2 ?_
    rcases h1 with h | h
    · rw [h]; exact oT_mem m k
    · rw [h]; exact List.mem_cons_of_mem _ (oT_mem m k)
  have sgn : ∀ {m k m' k' : Nat}, oT m k ≠ 45 :: oT m' k' := by
    intro m k m' k' e
    obtain ⟨c, r, hc, h1, h2⟩ := oN_head m k
    rw [hc] at e
    have := (List.cons.inj e).1
    have h3 := congrArg UInt8.toNat this
    have h4 : (45 : UInt8).toNat = 45 := rfl
    omega
  rcases h.form with ⟨a, rfl⟩ | ⟨rfl, rfl⟩ | ⟨rfl, rfl⟩ | ⟨rfl, rfl⟩ | ⟨rfl, rfl⟩ | ⟨m, k, g1, g2, g3, rfl, ht⟩ | ⟨m, k, g1, g2, g3, rfl, ht⟩
  · rcases h'.form with ⟨b, -⟩ | ⟨-, e⟩ | ⟨-, e⟩ | ⟨-, e⟩ | ⟨-, e⟩ | ⟨m', k', -, -, -, -, e⟩ | ⟨m', k', -, -, -, -, e⟩
    · exact .inr ⟨a, b⟩
    · exact absurd e (by decide)
    · exact absurd e (by decide)
    · exact absurd e (by decide)
    · exact absurd e (by decide)
    · exact (key (x := x) (y := x) (.inl e) (by simp)).elim
    · exact (key (x := x) (y := x) (.inr e) (by simp)).elim
  · rcases h'.form with ⟨-, e⟩ | ⟨e, -⟩ | ⟨-, e⟩ | ⟨-, e⟩ | ⟨-, e⟩ | ⟨m', k', -, -, -, -, e⟩ | ⟨m', k', -, -, -, -, e⟩
    · exact absurd e (by decide)
    · exact .inl e.symm
    · exact absurd e (by decide)
    · exact absurd e (by decide)
    · exact absurd e (by decide)
    · exact (key (x := y) (y := y) (.inl e) (by simp)).elim
    · exact (key (x := y) (y := y) (.inr e) (by simp)).elim
  · rcases h'.form with ⟨-, e⟩ | ⟨-, e⟩ | ⟨e, -⟩ | ⟨-, e⟩ | ⟨-, e⟩ | ⟨m', k', -, -, -, -, e⟩ | ⟨m', k', -, -, -, -, e⟩
    · exact absurd e (by decide)
    · exact absurd e (by decide)
    · exact .inl e.symm
    · exact absurd e (by decide)
    · exact absurd e (by decide)
    · exact (key (x := y) (y := y) (.inl e) (by simp)).elim
    · exact (key (x := y) (y := y) (.inr e) (by simp)).elim
  · rcases h'.form with ⟨-, e⟩ | ⟨-, e⟩ | ⟨-, e⟩ | ⟨e, -⟩ | ⟨-, e⟩ | ⟨m', k', -, -, -, -, e⟩ | ⟨m', k', -, -, -, -, e⟩
    · exact absurd e (by decide)
    · exact absurd e (by decide)
    · exact absurd e (by decide)
    · exact .inl e.symm
    · exact absurd e (by decide)
    · exact (key (x := y) (y := y) (.inl e) (by simp)).elim
    · exact (key (x := y) (y := y) (.inr e) (by simp)).elim
  · rcases h'.form with ⟨-, e⟩ | ⟨-, e⟩ | ⟨-, e⟩ | ⟨-, e⟩ | ⟨e, -⟩ | ⟨m', k', -, -, -, -, e⟩ | ⟨m', k', -, -, -, -, e⟩
    · exact absurd e (by decide)
    · exact absurd e (by decide)
    · exact absurd e (by decide)
    · exact absurd e (by decide)
    · exact .inl e.symm
    · exact (key (x := y) (y := y) (.inl e) (by simp)).elim
    · exact (key (x := y) (y := y) (.inr e) (by simp)).elim
  · rcases h'.form with ⟨-, e⟩ | ⟨-, e⟩ | ⟨-, e⟩ | ⟨-, e⟩ | ⟨-, e⟩ | ⟨m', k', f1, f2, f3, rfl, e⟩ | ⟨m', k', -, -, -, -, e⟩
    · exact (key (x := y) (y := y) (.inl ht) (by simp [e])).elim
    · exact (key (x := y) (y := y) (.inl ht) (by simp [e])).elim
    · exact (key (x := y) (y := y) (.inl ht) (by simp [e])).elim
    · exact (key (x := y) (y := y) (.inl ht) (by simp [e])).elim
    · exact (key (x := y) (y := y) (.inl ht) (by simp [e])).elim
    · obtain ⟨rfl, rfl⟩ := oT_inj g1 g3 f1 f3 (ht.symm.trans e); exact .inl rfl
    · exact absurd (ht.symm.trans e) sgn
  · rcases h'.form with ⟨-, e⟩ | ⟨-, e⟩ | ⟨-, e⟩ | ⟨-, e⟩ | ⟨-, e⟩ | ⟨m', k', -, -, -, -, e⟩ | ⟨m', k', f1, f2, f3, rfl, e⟩
    · exact (key (x := y) (y := y) (.inr ht) (by simp [e])).elim
    · exact (key (x := y) (y := y) (.inr ht) (by simp [e])).elim
    · exact (key (x := y) (y := y) (.inr ht) (by simp [e])).elim
    · exact (key (x := y) (y := y) (.inr ht) (by simp [e])).elim
    · exact (key (x := y) (y := y) (.inr ht) (by simp [e])).elim
    · exact absurd (e.symm.trans ht) sgn
    · obtain ⟨rfl, rfl⟩ := oT_inj g1 g3 f1 f3 (List.cons.inj (ht.symm.trans e)).2; exact .inl rfl

/-- What RealRead may answer. -/
def RdR (t : List UInt8) (x : Nat) (b : Bool) : Prop := x < 2 ^ 64 ∧ ((b = true ∧ TextR x t) ∨ (b = false ∧ x = 0 ∧ ∀ y, ¬ TextR y t))
theorem RdR.one {t : List UInt8} {x x' : Nat} {b b' : Bool} (h : RdR t x b) (h' : RdR t x' b') : b = b' ∧ (x = x' ∨ (nan x ∧ nan x')) := by
  rcases h.2 with ⟨rfl, a⟩ | ⟨rfl, rfl, a⟩ <;> rcases h'.2 with ⟨rfl, c⟩ | ⟨rfl, rfl, c⟩
  · exact ⟨rfl, a.inj c⟩
  · exact absurd a (c x)
  · exact absurd c (a x')
  · exact ⟨rfl, .inl rfl⟩

/-- Cut at the first of three signs. -/
theorem cut_at {a b : List UInt8} (h : (42 : UInt8) ∉ a) : Lib.cut (a ++ 42 :: (50 :: 94 :: b)) [42, 50, 94] = (a, b, true) := by
  have hi : Lib.index (a ++ 42 :: (50 :: 94 :: b)) [42, 50, 94] = (a.length : Int) := by
    refine Lib.index_first (by simp) ?_ ?_
    · unfold Lib.occAt
      rw [List.drop_left' rfl]
      simp [List.isPrefixOf]
    · intro j hj
      unfold Lib.occAt
      have hd : ∃ c r, (a ++ 42 :: (50 :: 94 :: b)).drop j = c :: r ∧ c ∈ a := by
        rw [List.drop_append_of_le_length (by omega)]
        cases hh : a.drop j with
        | nil => have := congrArg List.length hh; simp at this; omega
        | cons c r => exact ⟨c, _, rfl, List.mem_of_mem_drop (i := j) (by rw [hh]; simp)⟩
      obtain ⟨c, r, e, hc⟩ := hd
      rw [e]
      have : ((42 : UInt8) == c) = false := by
        rw [beq_eq_false_iff_ne]; intro e; rw [e] at h; exact h hc
      simp [List.isPrefixOf, this]
  unfold Lib.cut
  rw [hi, if_pos (by omega)]
  simp
end Go.Proofs.YtjacgamgjjpllaaGreatDoor

/- Reading a real number: the library's Cut, ParseInt and Atoi, as they are asked. Helper text: no statement is claimed here. -/
namespace Go.Proofs.YtjacgamgjjpllaaGreatDoor
open Go.ChangeShapes Go.WideShapes Go.ChangeAt Go.RowKit Fl

/-- What the library's functions look up: two errors and a number. -/
structure LTab (w : World) : Prop where
  syn : ∃ t p, w.cell? ⟨8, 0, none⟩ = some (.iface t p)
  rng : ∃ t p, w.cell? ⟨9, 0, none⟩ = some (.iface t p)
  max : ∃ m, w.cell? ⟨3, 0, none⟩ = some (.int .i64 m)
theorem LTab.to {w w' : World} (h : LTab w) (hb : Below w.heap.size w w') : LTab w' := by
  obtain ⟨⟨a, b, h1⟩, ⟨c, d, h2⟩, ⟨m, h3⟩⟩ := h
  refine ⟨⟨a, b, ?_⟩, ⟨c, d, ?_⟩, ⟨m, ?_⟩⟩
  · rw [hb.cell (p := ⟨8, 0, none⟩) (World.block_lt_of_cell? w ⟨_, 0, none⟩ h1)]; exact h1
  · rw [hb.cell (p := ⟨9, 0, none⟩) (World.block_lt_of_cell? w ⟨_, 0, none⟩ h2)]; exact h2
  · rw [hb.cell (p := ⟨3, 0, none⟩) (World.block_lt_of_cell? w ⟨_, 0, none⟩ h3)]; exact h3

theorem cut_any (s : ByteArray) (w : World) (hs : s.size ≤ 2000000) (hL : LTab w) :
    Calls Tryz.prog 48 #[.string s, .string ⟨#[42, 50, 94]⟩] w fun e w' => e = .returned (.tuple #[.string ⟨(Lib.cut s.data.toList [42, 50, 94]).1.toArray⟩, .string ⟨(Lib.cut s.data.toList [42, 50, 94]).2.1.toArray⟩, .bool (Lib.cut s.data.toList [42, 50, 94]).2.2]) ∧ Below w.heap.size w w' := by
  obtain ⟨m, hm⟩ := hL.max
  exact (Any.strings_Cut Tryz.lays145 s ⟨#[42, 50, 94]⟩ m w (by omega) hm).mono fun _ _ ⟨he, n, hw⟩ => ⟨he, by rw [hw]; exact below_drewN (Below.refl _ _) n⟩

/-- What a reading of a numeral ends in. -/
def Numbered (good : Lib.NumEnd Int) (w : World) (e : Ending) (w' : World) : Prop :=
  ∃ (v : Int) (err : Value), e = .returned (.tuple #[.int .i64 v, err]) ∧ -9223372036854775808 ≤ v ∧ v ≤ 9223372036854775807 ∧ ((err = .nilIface ∧ good = .ok v) ∨ ((∃ t p, err = .iface t p) ∧ ∀ u, good ≠ .ok u)) ∧ Below w.heap.size w w'
theorem same_below {w w' : World} {e : TypeId} (h : w' = w ∨ ∃ t, w' = Lib.bytesWorld w e t) : Below w.heap.size w w' := by
  rcases h with rfl | ⟨t, rfl⟩
  · exact Below.refl _ _
  · exact Lib.bytesWorld_below w e t
theorem end_in {neg : Bool} {u : Nat} {v : Int} (h : (if ¬ (neg = true) ∧ 9223372036854775808 ≤ u then Lib.NumEnd.range else if neg = true ∧ 9223372036854775808 < u then Lib.NumEnd.range else Lib.NumEnd.ok (if neg = true then -(u : Int) else u)) = .ok v) : -9223372036854775808 ≤ v ∧ v ≤ 9223372036854775807 := by
  cases neg
  · by_cases h1 : 9223372036854775808 ≤ u
    · simp [h1] at h
    · simp [h1] at h; omega
  · by_cases h1 : 9223372036854775808 < u
    · simp [h1] at h
    · simp [h1] at h; omega
theorem ok_in64 {l : List UInt8} {v : Int} (h : Lib.parseIntB 64 l = .ok v) : -9223372036854775808 ≤ v ∧ v ≤ 9223372036854775807 := by
  have h63 : (2 ^ (64 - 1) : Nat) = 9223372036854775808 := rfl
  cases l with
  | nil => simp [Lib.parseIntB] at h
  | cons c r =>
    simp only [Lib.parseIntB, h63] at h
    generalize Lib.parseUintB 64 (if c.toNat = 43 ∨ c.toNat = 45 then r else c :: r) = q at h
    rcases q with u | _ | _
    · exact end_in (neg := decide (c.toNat = 45)) (u := u) (by simpa using h)
    · cases h
    · cases h
theorem ok_inAtoi {l : List UInt8} {v : Int} (h : Lib.atoiAll l = .ok v) : -9223372036854775808 ≤ v ∧ v ≤ 9223372036854775807 := by
  cases l with
  | nil => simp [Lib.atoiAll] at h
  | cons c r =>
    simp only [Lib.atoiAll] at h
    generalize Lib.parseMag (if c.toNat = 43 ∨ c.toNat = 45 then r else c :: r) = q at h
    rcases q with u | _ | _
    · exact end_in (neg := decide (c.toNat = 45)) (u := u) (by simpa using h)
    · cases h
    · cases h
theorem sat_in (l : List UInt8) : -9223372036854775808 ≤ Lib.intSat 64 l ∧ Lib.intSat 64 l ≤ 9223372036854775807 := by
  have h63 : (2 ^ (64 - 1) : Nat) = 9223372036854775808 := rfl
  unfold Lib.intSat
  rw [h63]
  split <;> omega
theorem sat_inAtoi (l : List UInt8) : -9223372036854775808 ≤ Lib.atoiSat l ∧ Lib.atoiSat l ≤ 9223372036854775807 := by
  unfold Lib.atoiSat
  split <;> omega

theorem parse_any (s : ByteArray) (w : World) (hs : s.size ≤ 2000000) (hL : LTab w) :
    Calls Tryz.prog 94 #[.string s, .int .i64 10, .int .i64 64] w (Numbered (Lib.parseIntB 64 s.data.toList) w) := by
  obtain ⟨⟨a, b, h1⟩, ⟨c, d, h2⟩, -⟩ := hL
  rcases h : Lib.parseIntB 64 s.data.toList with v | _ | _
  · have := ok_in64 h
    exact (Any.strconv_ParseInt_10_at64_ok Tryz.laysC174 s (by omega) v h w).mono fun _ _ ⟨he, hw⟩ => ⟨v, _, he, this.1, this.2, .inl ⟨rfl, rfl⟩, same_below hw⟩
  · exact (Any.strconv_ParseInt_10_at64_syntax Tryz.laysC174 s (by omega) h (.iface a b) w h1 (.inr ⟨a, b, rfl⟩)).mono fun _ _ ⟨N, he, _, _, hb⟩ => ⟨0, _, he, by omega, by omega, .inr ⟨⟨_, _, rfl⟩, fun _ h => by cases h⟩, hb⟩
  · have := sat_in s.data.toList
    exact (Any.strconv_ParseInt_10_at64_range Tryz.laysC174 s (by omega) h (.iface c d) w h2 (.inr ⟨c, d, rfl⟩)).mono fun _ _ ⟨N, he, _, _, hb⟩ => ⟨_, _, he, this.1, this.2, .inr ⟨⟨_, _, rfl⟩, fun _ h => by cases h⟩, hb⟩
theorem atoi_any (s : ByteArray) (w : World) (hs : s.size ≤ 2000000) (hL : LTab w) :
    Calls Tryz.prog 154 #[.string s] w (Numbered (Lib.atoiAll s.data.toList) w) := by
  obtain ⟨⟨a, b, h1⟩, ⟨c, d, h2⟩, -⟩ := hL
  rcases h : Lib.atoiAll s.data.toList with v | _ | _
  · have := ok_inAtoi h
    exact (Any.strconv_Atoi_ok Tryz.laysC172 s (by omega) v h w).mono fun _ _ ⟨he, hw⟩ => ⟨v, _, he, this.1, this.2, .inl ⟨rfl, rfl⟩, same_below hw⟩
  · exact (Any.strconv_Atoi_syntax Tryz.laysC172 s (by omega) h (.iface a b) w h1 (.inr ⟨a, b, rfl⟩)).mono fun _ _ ⟨N, he, _, _, hb⟩ => ⟨0, _, he, by omega, by omega, .inr ⟨⟨_, _, rfl⟩, fun _ h => by cases h⟩, hb⟩
  · have := sat_inAtoi s.data.toList
    exact (Any.strconv_Atoi_range Tryz.laysC172 s (by omega) h (.iface c d) w h2 (.inr ⟨c, d, rfl⟩)).mono fun _ _ ⟨N, he, _, _, hb⟩ => ⟨_, _, he, this.1, this.2, .inr ⟨⟨_, _, rfl⟩, fun _ h => by cases h⟩, hb⟩
end Go.Proofs.YtjacgamgjjpllaaGreatDoor

/- Reading a real number: the program's realGuess. Helper text: no statement is claimed here. -/
namespace Go.Proofs.YtjacgamgjjpllaaGreatDoor
open Go.ChangeShapes Go.WideShapes Go.ChangeAt Go.RowKit Fl

def sgL (s : Bool) : List UInt8 := if s then [45] else []
/-- The text of a number that is finite and not 0. -/
def IsNum (t : List UInt8) (s : Bool) (m k : Nat) : Prop := Sc m k ∧ k ≤ 2045 ∧ 0 < m ∧ t = sgL s ++ oT m k
/-- What a guess is: no nan, and where the text is a finite number's, but -0, that number. -/
def GsR (t : List UInt8) (g : Nat) : Prop := g < 2 ^ 64 ∧ ¬ nan g ∧ (t = [48] → g = 0) ∧ (∀ s m k, IsNum t s m k → g = wd s m k)
def Guess (t : List UInt8) (w : World) (e : Ending) (w' : World) : Prop := ∃ g, e = .returned (.float .f64 g) ∧ GsR t g ∧ Below w.heap.size w w'
/-- How the loops stand: e is left to be done of E. -/
def Lp (t : List UInt8) (E e : Int) (x : Nat) : Prop := x < 2 ^ 64 ∧ ¬ nan x ∧ t ≠ [48] ∧
  ∀ s m k, IsNum t s m k → E = oE m k ∧ ∃ m1 k1, Sc m1 k1 ∧ k1 ≤ 2045 ∧ 0 < m1 ∧ x = wd s m1 k1 ∧ m1 * 2 ^ k1 = oN m k * 2 ^ (1074 + E - e).toNat

theorem val_o {m k : Nat} (hm : 0 < m) : oN m k * 2 ^ (1074 + oE m k).toNat = m * 2 ^ k := by
  have v := (oddp_val (m * 2 ^ k) (pos_val hm)).1
  have e : (1074 + oE m k).toNat = (oddp (m * 2 ^ k)).2 := by unfold oE; omega
  rw [e]; exact v
theorem oE_hi {m k : Nat} (h : Sc m k) (hk : k ≤ 2045) (hm : 0 < m) : oE m k ≤ 1023 := by
  have v := val_o (k := k) hm
  have n := oN_lt h hm
  have hb : m * 2 ^ k < 2 ^ (53 + k) := by rw [Nat.pow_add]; exact Nat.mul_lt_mul_of_pos_right h.hm (Nat.two_pow_pos k)
  have hl : 2 ^ (1074 + oE m k).toNat ≤ oN m k * 2 ^ (1074 + oE m k).toNat := Nat.le_mul_of_pos_left _ n.1
  have := pow_lt_pow_iff2.1 (Nat.lt_of_le_of_lt (Nat.le_trans hl (Nat.le_of_eq v)) hb)
  omega
theorem Lp.up {t : List UInt8} {E e : Int} {x : Nat} (h : Lp t E e x) (h0 : 0 < e) (h1 : e ≤ E) : ∃ r, floatBits .mul .f64 x 4611686018427387904 = some r ∧ Lp t E (e - 1) r := by
  obtain ⟨a, b, c, d⟩ := h
  obtain ⟨r, hr, hl, hn⟩ := mul_keeps a b
  refine ⟨r, hr, hl, hn, c, fun s m k hI => ?_⟩
  obtain ⟨hE, m1, k1, g1, g2, g3, rfl, g5⟩ := d s m k hI
  have v := val_o (k := k) hI.2.2.1
  have ee : (1074 + E - (e - 1)).toNat = (1074 + E - e).toNat + 1 := by omega
  have hk1 : k1 ≤ 2044 := by
    rcases Nat.lt_or_ge k1 2045 with h | h
    · omega
    · exfalso
      have h52 : 2 ^ 52 ≤ m1 := by have := g1.hk; omega
      have hb : m * 2 ^ k < 2 ^ (53 + k) := by rw [Nat.pow_add]; exact Nat.mul_lt_mul_of_pos_right hI.1.hm (Nat.two_pow_pos k)
      have h1' : 2 ^ (52 + k1) ≤ m1 * 2 ^ k1 := by rw [Nat.pow_add]; exact Nat.mul_le_mul_right _ h52
      have h2' : oN m k * 2 ^ ((1074 + E - e).toNat + 1) ≤ m * 2 ^ k := by
        rw [← v]; exact Nat.mul_le_mul_left _ (pow_le_pow_iff2.2 (by omega))
      rw [Nat.pow_succ, ← Nat.mul_assoc, ← g5] at h2'
      have h3' : 2 ^ (53 + k1) ≤ m * 2 ^ k := by
        have : 2 ^ (53 + k1) = 2 ^ (52 + k1) * 2 := by rw [← Nat.pow_succ]; congr 1; omega
        rw [this]
        exact Nat.le_trans (Nat.mul_le_mul_right 2 h1') h2'
      have := pow_lt_pow_iff2.1 (Nat.lt_of_le_of_lt h3' hb)
      have := hI.2.1
      omega
  obtain ⟨m2, k2, q1, q2, q3, q4, q5⟩ := Fl.dbl g1 g3 hk1 s
  rw [q5] at hr
  refine ⟨hE, m2, k2, q1, by omega, q2, (Option.some.inj hr).symm, ?_⟩
  rw [q4, g5, ee, Nat.pow_succ]
  generalize 2 ^ (1074 + E - e).toNat = A
  rw [Nat.mul_comm 2, Nat.mul_assoc]
theorem Lp.down {t : List UInt8} {E e : Int} {x : Nat} (h : Lp t E e x) (h0 : e < 0) (h1 : E ≤ e) (h2 : -1074 ≤ E) : ∃ r, floatBits .quo .f64 x 4611686018427387904 = some r ∧ Lp t E (e + 1) r := by
  obtain ⟨a, b, c, d⟩ := h
  obtain ⟨r, hr, hl, hn⟩ := div_keeps a b
  refine ⟨r, hr, hl, hn, c, fun s m k hI => ?_⟩
  obtain ⟨hE, m1, k1, g1, g2, g3, rfl, g5⟩ := d s m k hI
  obtain ⟨j, hj⟩ : ∃ j, (1074 + E - e).toNat = j + 1 := ⟨(1074 + E - e).toNat - 1, by omega⟩
  have ee : (1074 + E - (e + 1)).toNat = j := by omega
  rw [hj, Nat.pow_succ, ← Nat.mul_assoc] at g5
  rcases Nat.eq_zero_or_pos k1 with rfl | hk
  · rw [Nat.pow_zero, Nat.mul_one] at g5
    obtain ⟨q, hq⟩ : ∃ q, m1 = 2 * q := ⟨oN m k * 2 ^ j, by omega⟩
    subst hq
    obtain ⟨s1, s2⟩ := Fl.hlv0 g1 (by omega) s
    rw [s2] at hr
    exact ⟨hE, q, 0, s1, by omega, by omega, (Option.some.inj hr).symm, by rw [ee]; omega⟩
  · obtain ⟨k2, rfl⟩ : ∃ k2, k1 = k2 + 1 := ⟨k1 - 1, by omega⟩
    obtain ⟨s1, s2⟩ := Fl.hlv g1 g2 s
    rw [s2] at hr
    refine ⟨hE, m1, k2, s1, by omega, g3, (Option.some.inj hr).symm, ?_⟩
    rw [ee]
    rw [Nat.pow_succ, ← Nat.mul_assoc] at g5
    omega
theorem Lp.done {t : List UInt8} {E : Int} {x : Nat} (h : Lp t E 0 x) : GsR t x := by
  obtain ⟨a, b, c, d⟩ := h
  refine ⟨a, b, fun h => absurd h c, fun s m k hI => ?_⟩
  obtain ⟨hE, m1, k1, g1, g2, g3, rfl, g5⟩ := d s m k hI
  have e : 1074 + E - 0 = 1074 + oE m k := by omega
  rw [e, val_o hI.2.2.1] at g5
  obtain ⟨rfl, rfl⟩ := sc_unique g1 hI.1 g3 g5
  rfl

/-- What the text is cut into, and what is read of it. -/
structure Pieces (t c1 c2 : List UInt8) : Prop where
  zero : t = [48] → c2 = []
  num : ∀ s m k, IsNum t s m k → c1 = sgL s ++ Lib.itoa (oN m k) ∧ c2 = Lib.itoa (oE m k)
theorem pieces_of (t : List UInt8) : Pieces t (Lib.cut t [42, 50, 94]).1 (Lib.cut t [42, 50, 94]).2.1 := by
  refine ⟨fun h => by rw [h]; decide, fun s m k hI => ?_⟩
  have : Lib.cut t [42, 50, 94] = (sgL s ++ Lib.itoa (oN m k), Lib.itoa (oE m k), true) := by
    rw [hI.2.2.2, oT_form, ← List.append_assoc]
    exact cut_at (by
      rw [List.mem_append]
      rintro (h | h)
      · cases s <;> simp [sgL] at h
      · exact itoa_no42 _ h)
  rw [this]
  exact ⟨rfl, rfl⟩
theorem sg_itoa {s : Bool} {n : Nat} (hn : 0 < n) : sgL s ++ Lib.itoa n = Lib.itoa (if s then -(n : Int) else n) := by
  cases s
  · rfl
  · simp only [sgL, if_true]
    rw [Lib.itoa_neg n hn, Lib.itoa_nonneg]; rfl
theorem Pieces.read {t c1 c2 : List UInt8} (h : Pieces t c1 c2) {s : Bool} {m k : Nat} (hI : IsNum t s m k) :
    Lib.parseIntB 64 c1 = .ok (if s then -(oN m k : Int) else oN m k) ∧ Lib.atoiAll c2 = .ok (oE m k) := by
  obtain ⟨h1, h2⟩ := h.num s m k hI
  have n := oN_lt hI.1 hI.2.2.1
  have e := oE_in hI.1 hI.2.1 hI.2.2.1
  rw [h1, h2, sg_itoa n.1]
  exact ⟨parse_itoa _ (by split <;> omega), atoi_itoa _ (by omega)⟩
theorem Pieces.start {t c1 c2 : List UInt8} (h : Pieces t c1 c2) {v E : Int} (h1 : Lib.parseIntB 64 c1 = .ok v) (h2 : Lib.atoiAll c2 = .ok E) : Lp t E E (floatOfInt .f64 v) := by
  refine ⟨(ofInt_keeps v).1, (ofInt_keeps v).2, fun h0 => ?_, fun s m k hI => ?_⟩
  · rw [h.zero h0] at h2
    simp [Lib.atoiAll] at h2
  · obtain ⟨r1, r2⟩ := h.read hI
    rw [r1] at h1
    rw [r2] at h2
    injection h1 with h1
    injection h2 with h2
    have n := oN_lt hI.1 hI.2.2.1
    have hna : v.natAbs = oN m k := by rw [← h1]; split <;> omega
    have hneg : decide (v < 0) = s := by rw [← h1]; cases s <;> simp <;> omega
    obtain ⟨z, hz⟩ : ∃ z, z = 1074 := ⟨_, rfl⟩
    obtain ⟨m1, k1, g1, g2, g3, g4, g5⟩ := ofInt_z (n := v) (by omega) z hz
    have hm1 : 0 < m1 := by
      rcases Nat.eq_zero_or_pos m1 with hh | hh
      · have := g5.2 hh; omega
      · exact hh
    refine ⟨h2.symm, m1, k1, g1, by omega, hm1, by rw [g3, hneg], ?_⟩
    have ee : (1074 + E - E).toNat = z := by omega
    rw [ee, g4, hna]
/-- Where the numerals are none, there is no such number. -/
theorem gs_none {t : List UInt8} (hf : ∀ s m k, IsNum t s m k → False) : GsR t 0 :=
  ⟨by omega, not_nan_wd sc00 (by omega) false, fun _ => rfl, fun s m k hI => (hf s m k hI).elim⟩

set_option maxHeartbeats 1000000 in
theorem guess_any (t : List UInt8) (w : World) (ht : t.length ≤ 1500000) (hL : LTab w) :
    Calls Tryz.prog 128 #[.string ⟨t.toArray⟩] w (Guess t w) := by
  have hlen : (Lib.cut t [42, 50, 94]).1.length ≤ t.length ∧ (Lib.cut t [42, 50, 94]).2.1.length ≤ t.length := by
    unfold Lib.cut
    split
    · simp; omega
    · simp
  have HP : Hid (Pieces t (Lib.cut t [42, 50, 94]).1 (Lib.cut t [42, 50, 94]).2.1) := pieces_of t
  have hcut := cut_any ⟨t.toArray⟩ w (by simp [ByteArray.size]; omega) hL
  rw [show (⟨t.toArray⟩ : ByteArray).data.toList = t by simp] at hcut
  generalize Lib.cut t [42, 50, 94] = cc at *
  obtain ⟨c1, c2, c3⟩ := cc
  obtain ⟨l1, l2⟩ := hlen
  have HC : Hid _ := hcut
  clear hcut
  go_enter Tryz.func128, Tryz.ntmps128
  go_wp2_with fail
  refine Calls.mono HC.out ?_
  rintro e w1 ⟨rfl, hb1⟩
  clear HC
  have HP : Hid (Pieces t c1 c2) := HP
  have hL1 := hL.to hb1
  go_wp2_with fail
  refine (parse_any ⟨c1.toArray⟩ _ (by simp [ByteArray.size] at l1 ⊢; omega) hL1).mono ?_
  rintro e w2 ⟨v, err1, rfl, v0, v1, hv, hb2⟩
  rw [show (⟨c1.toArray⟩ : ByteArray).data.toList = c1 by simp] at hv
  have HV : Hid _ := hv
  clear hv
  have hb12 := hb1.trans (hb2.mono hb1.size)
  have hL2 := hL.to hb12
  go_wp2_with fail
  refine (atoi_any ⟨c2.toArray⟩ _ (by simp [ByteArray.size] at l2 ⊢; omega) hL2).mono ?_
  rintro e w3 ⟨E, err2, rfl, e0, e1, he, hb3⟩
  rw [show (⟨c2.toArray⟩ : ByteArray).data.toList = c2 by simp] at he
  have hb13 := hb12.trans (hb3.mono hb12.size)
  clear hL1 hL2 hL hb1 hb2 hb3 hb12 l1 l2
  rcases he with ⟨rfl, he⟩ | ⟨⟨t2, p2, rfl⟩, he⟩
  case inr =>
    have HG : Hid (GsR t 0) := gs_none fun s m k hI => he _ (HP.out.read hI).2
    clear he
    rcases HV.out with ⟨rfl, -⟩ | ⟨⟨t1, p1, rfl⟩, -⟩
    · go_wp2
      go_ret
      exact ⟨0, rfl, HG.out, hb13⟩
    · go_wp2
      go_ret
      exact ⟨0, rfl, HG.out, hb13⟩
  have HE : Hid (Lib.atoiAll c2 = .ok E) := he
  clear he
  rcases HV.out with ⟨rfl, hv⟩ | ⟨⟨t1, p1, rfl⟩, hv⟩
  case inr =>
    have HG : Hid (GsR t 0) := gs_none fun s m k hI => hv _ (HP.out.read hI).1
    clear hv
    go_wp2
    go_ret
    exact ⟨0, rfl, HG.out, hb13⟩
  have HS : Hid (Lp t E E (floatOfInt .f64 v)) := HP.out.start hv HE.out
  clear hv
  by_cases hlo : E < -1074
  · have HG : Hid (GsR t 0) := gs_none fun s m k hI => by
      have := (HS.out.2.2.2 s m k hI).1
      have := oE_in hI.1 hI.2.1 hI.2.2.1
      omega
    clear HS HE HV HP
    go_wp2
    go_ret
    exact ⟨0, rfl, HG.out, hb13⟩
  by_cases hhi : 1023 < E
  · have HG : Hid (GsR t 0) := gs_none fun s m k hI => by
      have := (HS.out.2.2.2 s m k hI).1
      have := oE_hi hI.1 hI.2.1 hI.2.2.1
      omega
    clear HS HE HV HP
    go_wp2
    go_ret
    exact ⟨0, rfl, HG.out, hb13⟩
  clear HE HV HP
  go_wp2
  go_loop [8, 10] (fun e x => ∃ (y : Int) (r : Nat), e = .int .i64 y ∧ x = .float .f64 r ∧ Lp t E y r ∧ y ≤ E ∧ -1074 ≤ y ∧ (0 ≤ y ∨ y = E)) (fun e _ => (intOf e).toNat)
  case atStart => exact ⟨E, _, rfl, rfl, HS.out, by omega, by omega, .inr rfl⟩
  case round =>
    clear HS
    obtain ⟨y, r, rfl, rfl, hLp, y1, y2, y3⟩ := hrel
    by_cases hpos : 0 < y
    · obtain ⟨r2, hr, hLp2⟩ := hLp.up hpos y1
      have hrun := run_someN hr
      have H2 : Hid (Lp t E (y - 1) r2) := hLp2
      clear hLp hr hLp2
      go_wp2
      exact ⟨⟨y - 1, r2, rfl, rfl, H2.out, by omega, by omega, by omega⟩, by simp [intOf]; omega⟩
    · have HL : Hid (Lp t E y r) := hLp
      clear hLp
      go_wp2
      go_loop [8, 10] (fun e x => ∃ (y : Int) (r : Nat), e = .int .i64 y ∧ x = .float .f64 r ∧ Lp t E y r ∧ y ≤ 0 ∧ -1074 ≤ y ∧ (y = 0 ∨ E ≤ y)) (fun e _ => (-(intOf e)).toNat)
      case atStart => exact ⟨y, r, rfl, rfl, HL.out, by omega, by omega, by omega⟩
      case round =>
        clear HL y1 y2 y3 hpos
        obtain ⟨y, r, rfl, rfl, hLp, y1, y2, y3⟩ := hrel
        by_cases hneg : y < 0
        · obtain ⟨r2, hr, hLp2⟩ := hLp.down hneg (by omega) (by omega)
          have hrun := run_someN hr
          have H2 : Hid (Lp t E (y + 1) r2) := hLp2
          clear hLp hr hLp2
          go_wp2
          exact ⟨⟨y + 1, r2, rfl, rfl, H2.out, by omega, by omega, by omega⟩, by simp [intOf]; omega⟩
        · have hy : y = 0 := by omega
          subst hy
          have HG : Hid (GsR t r) := hLp.done
          clear hLp
          go_wp2
          go_ret
          exact ⟨r, rfl, HG.out, hb13⟩
end Go.Proofs.YtjacgamgjjpllaaGreatDoor

/- The text of a real number: what it is, and how the program takes a number apart. Helper text: no statement is claimed here. -/
namespace Go.Proofs.YtjacgamgjjpllaaGreatDoor
open Go.ChangeShapes Go.WideShapes Go.ChangeAt Go.RowKit Fl

theorem fmt_any (n : Int) (w : World) (h0 : -9223372036854775808 ≤ n) (h1 : n ≤ 9223372036854775807) (hP : PowTab w) :
    Calls Tryz.prog 112 #[.int .i64 n, .int .i64 10] w fun e w' => e = .returned (.string ⟨(Lib.itoa n).toArray⟩) ∧ Below w.heap.size w w' :=
  (Any.strconv_FormatInt_10 Tryz.laysM173 n h0 h1 w hP).mono fun _ _ ⟨he, k, os, hw⟩ => ⟨he, by rw [hw]; exact below_grow w k os⟩

set_option maxHeartbeats 1000000 in
theorem apart_any (m k : Nat) (w : World) (h : Sc m k) (hk : k ≤ 2045) (hm : 0 < m) :
    Calls Tryz.prog 111 #[.float .f64 (wd false m k)] w fun e w' => e = .returned (.tuple #[.int .i64 (oN m k), .int .i64 (oE m k)]) ∧ w' = w := by
  have hI : Ap m k (.float .f64 (wd false m k)) (.int .i64 0) m k 0 := ⟨h, hm, hk, rfl, rfl, rfl, by omega⟩
  go_enter Tryz.func111, Tryz.ntmps111
  go_wp2
  go_loop [0, 4] (fun x e => ∃ m1 k1 z, Ap m k x e m1 k1 z) (fun _ e => (3000 + intOf e).toNat)
  case atStart => exact ⟨m, k, 0, hI⟩
  case round =>
    obtain ⟨m1, k1, z, hA⟩ := hrel
    have hbd := hA.bd h hk hm
    have hask := ask52 hA.1 hA.2.2.1
    obtain ⟨rfl, rfl⟩ : _ ∧ _ := ⟨hA.2.2.2.1, hA.2.2.2.2.1⟩
    by_cases hlt : k1 < 1074
    · have hc : (ord (wd false m1 k1) 4841369599423283200 == some .lt) = true := by rw [hask]; simpa using hlt
      obtain ⟨r, hr, m2, k2, hA2⟩ := hA.dbl hlt
      have hrun := run_someN hr
      clear hask hr hI hA
      obtain ⟨b1, b2⟩ := hbd
      go_wp2
      refine ⟨⟨m2, k2, z - 1, hA2⟩, by simp [intOf]; omega⟩
    · have hc : (ord (wd false m1 k1) 4841369599423283200 == some .lt) = false := by rw [hask]; simpa using hlt
      clear hask hI
      have HA : Hid (Ap m k (.float .f64 (wd false m1 k1)) (.int .i64 z) m1 k1 z) := hA
      clear hA
      obtain ⟨b1, b2⟩ := hbd
      go_wp2
      go_loop [0, 4] (fun x e => ∃ m1 k1 z, Ap m k x e m1 k1 z ∧ 1074 ≤ k1) (fun _ e => (3000 - intOf e).toNat)
      case atStart => exact ⟨m1, k1, z, HA.out, by omega⟩
      case round =>
        clear HA b1 b2 hc hlt
        obtain ⟨m2, k2, y, hA, hge⟩ := hrel
        have hbd := hA.bd h hk hm
        have hask := ask53 hA.1 hA.2.2.1
        obtain ⟨rfl, rfl⟩ : _ ∧ _ := ⟨hA.2.2.2.1, hA.2.2.2.2.1⟩
        by_cases hlt : 1075 ≤ k2
        · have hc : (ord (wd false m2 k2) 4845873199050653696 == some .gt || ord (wd false m2 k2) 4845873199050653696 == some .eq) = true := by rw [hask]; simpa using hlt
          obtain ⟨k3, rfl⟩ : ∃ k3, k2 = k3 + 1 := ⟨k2 - 1, by omega⟩
          obtain ⟨hr, hA2⟩ := hA.hlv
          have hrun := run_someN hr
          clear hask hr hA
          obtain ⟨b1, b2⟩ := hbd
          go_wp2
          refine ⟨⟨m2, k3, y + 1, hA2, by omega⟩, by simp [intOf]; omega⟩
        · have hc : (ord (wd false m2 k2) 4845873199050653696 == some .gt || ord (wd false m2 k2) 4845873199050653696 == some .eq) = false := by rw [hask]; simpa using hlt
          have hk2 : k2 = 1074 := by omega
          have hcut := run_cutN (toInt_k hA.1 hk2) 2 Tryz.underlying2
          have HQ : Hid (Aq m k m2 y) := hA.done hk2
          clear hask hA hk2 hge hlt
          obtain ⟨b1, b2⟩ := hbd
          go_wp2
          go_loop [5, 4] (fun n e => ∃ (n1 : Nat) (z1 : Int), Aq m k n1 z1 ∧ n = .int .i64 (n1 : Int) ∧ e = .int .i64 z1) (fun n _ => (intOf n).toNat)
          case atStart => exact ⟨m2, y, HQ.out, rfl, rfl⟩
          case round =>
            clear HQ b1 b2 hc hcut
            obtain ⟨n1, z1, hQ, rfl, rfl⟩ := hrel
            obtain ⟨b1, b2⟩ := hQ.bd h hk hm
            have hn0 := hQ.1
            have hn1 := hQ.2.1
            by_cases hev : n1 % 2 = 0
            · have hQ2 : Hid (Aq m k (n1 / 2) (z1 + 1)) := hQ.step hev
              have hev' : ((n1 : Int) % 2 == 0) = true := by simp; omega
              clear hQ hev
              go_wp2
              exact ⟨⟨n1 / 2, z1 + 1, hQ2.out, by go_num, rfl⟩, by simp [intOf]; omega⟩
            · have hQ2 : Hid (n1 = oN m k ∧ z1 = oE m k) := hQ.out (by omega)
              have hev' : ((n1 : Int) % 2 == 0) = false := by simp; omega
              clear hQ hev
              go_wp2
              exact bodyPost_ret (v := .tuple #[.int .i64 (n1 : Int), .int .i64 z1]) (post_2 Tryz.results111 rfl rfl) rfl ⟨by rw [← hQ2.out.1, ← hQ2.out.2], rfl⟩

set_option maxHeartbeats 400000 in
theorem oddText_any (m k : Nat) (w : World) (h : Sc m k) (hk : k ≤ 2045) (hm : 0 < m) (hP : PowTab w) :
    Calls Tryz.prog 78 #[.float .f64 (wd false m k)] w fun e w' => e = .returned (.string ⟨(oT m k).toArray⟩) ∧ Below w.heap.size w w' := by
  have a := oN_lt h hm
  have b := oE_in h hk hm
  have c := Lib.itoa_length_le (oN m k : Int) (by omega) (by omega)
  have d := Lib.itoa_length_le (oE m k) (by omega) (by omega)
  go_enter Tryz.func78, Tryz.ntmps78
  go_wp2_with fail
  refine (apart_any m k _ h hk hm).mono ?_
  rintro e w1 ⟨rfl, rfl⟩
  go_wp2_with fail
  refine (fmt_any _ _ (by omega) (by omega) hP).mono ?_
  rintro e w2 ⟨rfl, hb⟩
  go_wp2_with fail
  refine (itoa_any _ _ (by omega) (by omega) (hP.to hb)).mono ?_
  rintro e w3 ⟨rfl, hb3⟩
  have HT : Hid (oT m k = Lib.itoa (oN m k) ++ [42, 50, 94] ++ Lib.itoa (oE m k)) := rfl
  generalize Lib.itoa (oN m k : Int) = A at *
  generalize Lib.itoa (oE m k) = B at *
  go_wp2
  go_ret
  exact ⟨ret_str (by rw [HT.out]; exact cat3 A B), hb.trans (hb3.mono hb.size)⟩
end Go.Proofs.YtjacgamgjjpllaaGreatDoor

/- The text of a real number: the program's RealText. Helper text: no statement is claimed here. -/
namespace Go.Proofs.YtjacgamgjjpllaaGreatDoor
open Go.ChangeShapes Go.WideShapes Go.ChangeAt Go.RowKit Fl

section
attribute [local go_sem] unary_negF

set_option maxHeartbeats 400000 in
theorem it_nan (x : Nat) (w : World) (h : nan x) : Calls Tryz.prog 42 #[.float .f64 x] w (Texted x w) := by
  have h1 := (asks_nan h).n
  have H : Hid (nan x) := h
  clear h
  go_enter Tryz.func42, Tryz.ntmps42
  go_wp2
  go_ret
  exact ⟨[110, 97, 110], rfl, .isnan H.out, Below.refl _ _⟩
set_option maxHeartbeats 400000 in
theorem it_hi (x : Nat) (w : World) (T : TextR x [105, 110, 102]) (h1 : (ord x x != some .eq) = false) (h2 : (ord x 9218868437227405311 == some .gt) = true) : Calls Tryz.prog 42 #[.float .f64 x] w (Texted x w) := by
  have H : Hid (TextR x [105, 110, 102]) := T
  clear T
  go_enter Tryz.func42, Tryz.ntmps42
  go_wp2
  go_ret
  exact ⟨[105, 110, 102], rfl, H.out, Below.refl _ _⟩
set_option maxHeartbeats 400000 in
theorem it_lo (x : Nat) (w : World) (T : TextR x [45, 105, 110, 102]) (h1 : (ord x x != some .eq) = false) (h2 : (ord x 9218868437227405311 == some .gt) = false) (h3 : (ord x 18442240474082181119 == some .lt) = true) : Calls Tryz.prog 42 #[.float .f64 x] w (Texted x w) := by
  have H : Hid (TextR x [45, 105, 110, 102]) := T
  clear T
  go_enter Tryz.func42, Tryz.ntmps42
  go_wp2
  go_ret
  exact ⟨[45, 105, 110, 102], rfl, H.out, Below.refl _ _⟩
set_option maxHeartbeats 400000 in
theorem it_z (x y : Nat) (w : World) (T : TextR x [48]) (h1 : (ord x x != some .eq) = false) (h2 : (ord x 9218868437227405311 == some .gt) = false) (h3 : (ord x 18442240474082181119 == some .lt) = false) (h4 : (ord x 0 == some .eq) = true)
    (h6 : ∀ (t : TypeId) (w : World), (binOp .quo t (.float .f64 4607182418800017408) (.float .f64 x)).run Tryz.prog w = .ok (.float .f64 y) w) (h7 : (ord y 0 == some .lt) = false) : Calls Tryz.prog 42 #[.float .f64 x] w (Texted x w) := by
  have H : Hid (TextR x [48]) := T
  clear T
  go_enter Tryz.func42, Tryz.ntmps42
  go_wp2
  go_ret
  exact ⟨[48], rfl, H.out, Below.refl _ _⟩
set_option maxHeartbeats 400000 in
theorem it_nz (x y : Nat) (w : World) (T : TextR x [45, 48]) (h1 : (ord x x != some .eq) = false) (h2 : (ord x 9218868437227405311 == some .gt) = false) (h3 : (ord x 18442240474082181119 == some .lt) = false) (h4 : (ord x 0 == some .eq) = true)
    (h6 : ∀ (t : TypeId) (w : World), (binOp .quo t (.float .f64 4607182418800017408) (.float .f64 x)).run Tryz.prog w = .ok (.float .f64 y) w) (h7 : (ord y 0 == some .lt) = true) : Calls Tryz.prog 42 #[.float .f64 x] w (Texted x w) := by
  have H : Hid (TextR x [45, 48]) := T
  clear T
  go_enter Tryz.func42, Tryz.ntmps42
  go_wp2
  go_ret
  exact ⟨[45, 48], rfl, H.out, Below.refl _ _⟩
theorem it_inf (w : World) : Calls Tryz.prog 42 #[.float .f64 (wi false)] w (Texted (wi false) w) := it_hi _ w .inf (asks_wi false).n (asks_wi false).hi
theorem it_ninf (w : World) : Calls Tryz.prog 42 #[.float .f64 (wi true)] w (Texted (wi true) w) := it_lo _ w .ninf (asks_wi true).n (asks_wi true).hi (asks_wi true).lo
theorem it_zero (s : Bool) (w : World) : Calls Tryz.prog 42 #[.float .f64 (wd s 0 0)] w (Texted (wd s 0 0) w) := by
  have a := asks_wd sc00 (by omega) s
  cases s
  · exact it_z _ _ w .zero a.n a.hi a.lo a.z (run_someN (one_by_zero false)) (asks_wi false).ng
  · exact it_nz _ _ w .nzero a.n a.hi a.lo a.z (run_someN (one_by_zero true)) (asks_wi true).ng
set_option maxHeartbeats 400000 in
theorem it_pos (m k : Nat) (w : World) (h : Sc m k) (hk : k ≤ 2045) (hm : 0 < m) (hP : PowTab w) : Calls Tryz.prog 42 #[.float .f64 (wd false m k)] w (Texted (wd false m k) w) := by
  obtain ⟨h1, h2, h3, h4, h5⟩ := asks_wd h hk false
  have h4 : (ord (wd false m k) 0 == some .eq) = false := by rw [h4]; simp; omega
  have h5 : (ord (wd false m k) 0 == some .lt) = false := by rw [h5]; simp
  go_enter Tryz.func42, Tryz.ntmps42
  go_wp2_with fail
  refine (oddText_any m k _ h hk hm hP).mono ?_
  rintro e w1 ⟨rfl, hb⟩
  have H : Hid (TextR (wd false m k) (oT m k)) := TextR.pos h hk hm
  generalize oT m k = t at *
  go_wp2
  go_ret
  exact ⟨t, rfl, H.out, hb⟩
set_option maxHeartbeats 400000 in
theorem it_neg (m k : Nat) (w : World) (h : Sc m k) (hk : k ≤ 2045) (hm : 0 < m) (hP : PowTab w) : Calls Tryz.prog 42 #[.float .f64 (wd true m k)] w (Texted (wd true m k) w) := by
  obtain ⟨h1, h2, h3, h4, h5⟩ := asks_wd h hk true
  have h4 : (ord (wd true m k) 0 == some .eq) = false := by rw [h4]; simp; omega
  have h5 : (ord (wd true m k) 0 == some .lt) = true := by rw [h5]; simpa using hm
  have h6 : Op.negFloat .f64 (wd true m k) = wd false m k := neg_wd h hk true
  have hl := oT_len h hk hm
  go_enter Tryz.func42, Tryz.ntmps42
  go_wp2_with fail
  refine (oddText_any m k _ h hk hm hP).mono ?_
  rintro e w1 ⟨rfl, hb⟩
  have H : Hid (TextR (wd true m k) (45 :: oT m k)) := TextR.neg h hk hm
  generalize oT m k = t at *
  go_wp2
  go_ret
  exact ⟨45 :: t, ret_str (cat [45] t), H.out, hb⟩
end
theorem it_any (x : Nat) (w : World) (hx : x < 2 ^ 64) (hP : PowTab w) : Calls Tryz.prog 42 #[.float .f64 x] w (Texted x w) := by
  rcases cases_wd hx with ⟨s, m, k, hs, hk, rfl⟩ | ⟨s, rfl⟩ | hn
  · by_cases h0 : m = 0
    · rw [wd_zeroN hs h0]; exact it_zero s w
    · cases s
      · exact it_pos m k w hs hk (by omega) hP
      · exact it_neg m k w hs hk (by omega) hP
  · cases s
    · exact it_inf w
    · exact it_ninf w
  · exact it_nan x w hn
end Go.Proofs.YtjacgamgjjpllaaGreatDoor

/- Reckoning with real numbers: RealCalc of the program and of the document, and the walk of FnExactRealCalc. Helper text: no statement is claimed here. -/
namespace Go.Proofs.YtjacgamgjjpllaaGreatDoor
open Go.ChangeShapes Go.WideShapes Go.ChangeAt Go.RowKit Fl

/-- One value: the same bits, or both nan. -/
def SameV (x y : Nat) : Prop := x = y ∨ (nan x ∧ nan y)
/-- The world with one more thing drawn. -/
abbrev drewW (w : World) : World := { w with drawn := w.drawn + 1 }

theorem nan_cut (a b t : Nat) : nan (Question.cut (.nanBits .f64 a b) t) ∧ Question.cut (.nanBits .f64 a b) t < 2 ^ 64 := by
  have e : Question.cut (.nanBits .f64 a b) t = Ieee.double.word (t % 2 == 1) (2047 * 2 ^ 52 + 1 + (t / 2) % (2 ^ 52 - 1)) := by
    show (t % 2) * 2 ^ 63 + 0x7ff0000000000000 + 1 + (t / 2) % (2 ^ 52 - 1) = _
    unfold Ieee.Format.word
    rw [signWeight_eq]
    split <;> rename_i h <;> simp at h <;> omega
  have hl : (t / 2) % (2 ^ 52 - 1) < 2 ^ 52 - 1 := Nat.mod_lt _ (by omega)
  rw [e]
  generalize (t / 2) % (2 ^ 52 - 1) = f at *
  generalize (t % 2 == 1) = s at *
  refine ⟨?_, Ieee.Format.word_lt _ s (by rw [signWeight_eq]; omega)⟩
  unfold nan Ieee.Format.read
  rw [word_sign s (by omega), word_rung s (by omega), binade_eq, infRung_eq]
  have a1 : ¬ 2047 * 2 ^ 52 + 1 + f < 2 ^ 52 := by omega
  have a2 : ¬ 2047 * 2 ^ 52 + 1 + f < 2047 * 2 ^ 52 := by omega
  have a3 : ¬ 2047 * 2 ^ 52 + 1 + f = 2047 * 2 ^ 52 := by omega
  simp only [a1, a2, a3, if_false, Ieee.Datum.isNaN]

def arith (op : BinOp) : Prop := op = .add ∨ op = .sub ∨ op = .mul ∨ op = .quo
/-- Where there is no number, there comes a nan. -/
theorem run_nan (op : BinOp) (ho : arith op) (t : TypeId) (x y : Nat) (w : World) (h : floatBits op .f64 x y = none) :
    ∃ r, (binOp op t (.float .f64 x) (.float .f64 y)).run Tryz.prog w = .ok (.float .f64 r) (drewW w) ∧ nan r ∧ r < 2 ^ 64 := by
  refine ⟨_, ?_, nan_cut x y (w.tape w.drawn (.nanBits .f64 x y))⟩
  unfold floatBits at h
  rcases ho with rfl | rfl | rfl | rfl <;> simp only at h <;> simp [binOp, Op.floatArith, h, Question.forced]

theorem drewW_below {B : Nat} {w w' : World} (h : Below B w w') : Below B w (drewW w') := h.drew
end Go.Proofs.YtjacgamgjjpllaaGreatDoor
