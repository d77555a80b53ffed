/- Plain mathematics of the document's guess: what a text would be. Helper text: no statement is claimed here. -/
import Derived.Test.YtlddkhhaclfmiaaGreatDoorP11
import Derived.Test.YtlddkhhaclfmiaaGreatDoorP07
namespace Go.Proofs.YtlddkhhaclfmiaaGreatDoor
open Go.RowKit

/-- What is guessed of a text is what it is the text of, if it is one's. -/
def EGuess (t : List UInt8) (op : Int) (ys : List Ar) : Prop := ∀ (op0 : Int) (ys0 : List Ar), okA (ez op0) ys0 = true → t = eT op0 ys0 → op = op0 ∧ ys = ys0

theorem nm_low {i : Nat} : ∀ x ∈ nm i, 97 ≤ x.toNat ∧ x.toNat ≤ 122 := by
  unfold nm
  split <;> (intro x hx; simp only [List.mem_cons, List.not_mem_nil, or_false] at hx)
  all_goals first
    | (rcases hx with rfl | rfl | rfl | rfl | rfl <;> decide)
    | (rcases hx with rfl | rfl | rfl | rfl <;> decide)
    | (rcases hx with rfl | rfl | rfl <;> decide)
theorem join_tame {c : UInt8} : ∀ {ys : List Ar}, AllOk ys → ∀ x ∈ Lib.join (ys.map tx) [c], tame x = true ∨ x = c
  | [], _ => by simp [Lib.join]
  | [a], h => by
    rw [List.map_cons, List.map_nil, join_one]
    exact fun x hx => .inl (tx_tame (h a (by simp)) x hx)
  | a :: b :: l, h => by
    have ih := join_tame (c := c) (ys := b :: l) (fun x hx => h x (List.mem_cons_of_mem _ hx))
    rw [List.map_cons, List.map_cons, join_two]
    intro x hx
    rcases List.mem_append.1 hx with hx | hx
    · exact .inl (tx_tame (h a (by simp)) x hx)
    · rcases List.mem_append.1 hx with hx | hx
      · exact .inr (by simpa using hx)
      · exact ih x hx
/-- The text of a coil. -/
theorem eT_coil2 {i : Nat} {ys : List Ar} (h1 : 21 ≤ i) (h2 : i ≤ 37) (h : okA i ys = true) : eT (i : Int) ys = nm i ++ 58 :: Lib.join (ys.map tx) [44] := by
  have hn := nm_yes i h1 h2
  have hc : coilB (i : Int) ys = true := by rw [coilB_eq i (by omega) hn]; exact h
  rw [(eT_coil h1 h2 hc).1]
  simp [jn]
/-- The text of one of the first four contacts. -/
theorem eT_first {i : Nat} {ys : List Ar} (h1 : 1 ≤ i) (h2 : i ≤ 4) (h : okA i ys = true) :
    (i = 1 ∧ ∃ a, ys = [a] ∧ eT (i : Int) ys = tx a ∧ isB a.1 a.2.1 a.2.2 = true) ∨ (i = 2 ∧ ∃ a, ys = [a] ∧ eT (i : Int) ys = 47 :: tx a) ∨
    (i = 3 ∧ ∃ a b, ys = [a, b] ∧ eT (i : Int) ys = 43 :: (tx a ++ 58 :: tx b)) ∨ (i = 4 ∧ ∃ a b, ys = [a, b] ∧ eT (i : Int) ys = 45 :: (tx a ++ 58 :: tx b)) := by
  have hl := okA_len h
  have : i = 1 ∨ i = 2 ∨ i = 3 ∨ i = 4 := by omega
  rcases this with rfl | rfl | rfl | rfl
  · obtain ⟨a, rfl⟩ := list1 hl
    have hc : conB 1 [a] = true := by rw [show (1 : Int) = ((1 : Nat) : Int) from rfl, conB_eq 1 (by omega) rfl]; exact h
    refine .inl ⟨rfl, a, rfl, ?_, by rw [con_1] at hc; exact hc⟩
    rw [eT_one (i := 1) (by omega) hc]; rfl
  · obtain ⟨a, rfl⟩ := list1 hl
    have hc : conB 2 [a] = true := by rw [show (2 : Int) = ((2 : Nat) : Int) from rfl, conB_eq 2 (by omega) rfl]; exact h
    refine .inr (.inl ⟨rfl, a, rfl, ?_⟩)
    rw [eT_one (i := 2) (by omega) hc]; rfl
  · obtain ⟨a, b, rfl⟩ := list2 hl
    have hc : conB 3 [a, b] = true := by rw [show (3 : Int) = ((3 : Nat) : Int) from rfl, conB_eq 3 (by omega) rfl]; exact h
    refine .inr (.inr (.inl ⟨rfl, a, b, rfl, ?_⟩))
    rw [eT_two (i := 3) (by omega) hc]; rfl
  · obtain ⟨a, b, rfl⟩ := list2 hl
    have hc : conB 4 [a, b] = true := by rw [show (4 : Int) = ((4 : Nat) : Int) from rfl, conB_eq 4 (by omega) rfl]; exact h
    refine .inr (.inr (.inr ⟨rfl, a, b, rfl, ?_⟩))
    rw [eT_two (i := 4) (by omega) hc]; rfl

/-- A text that bears a sign is that of one of the six tests, or of none. -/
theorem signs_of {op0 : Int} {ys0 : List Ar} (h : okA (ez op0) ys0 = true) {x : UInt8} (hx : x ∈ eT op0 ys0) (hs : sgn3 x = true) : ∃ i : Nat, op0 = (i : Int) ∧ ez op0 = i ∧ 5 ≤ i ∧ i ≤ 10 := by
  obtain ⟨i, rfl, he, hi, hr⟩ := okA_op h
  rw [he] at h
  have ha := okA_all h
  have lowS : ∀ y : UInt8, 97 ≤ y.toNat → sgn3 y = false := fun y hy => by
    rw [Bool.eq_false_iff]
    intro hs
    simp only [sgn3, Bool.or_eq_true, beq_iff_eq] at hs
    rcases hs with (rfl | rfl) | rfl <;> simp at hy
  have no : ∀ y, sgn3 y = true → tame y = true → False := fun y h1 h2 => by rw [sgn3_tame h2] at h1; cases h1
  rcases hr with hr | hr
  · by_cases h5 : 5 ≤ i
    · exact ⟨i, rfl, he, h5, by omega⟩
    exfalso
    rcases eT_first hr.1 (by omega) h with ⟨-, a, rfl, e, -⟩ | ⟨-, a, rfl, e⟩ | ⟨-, a, b, rfl, e⟩ | ⟨-, a, b, rfl, e⟩
    · rw [e] at hx; exact no x hs (tx_tame (ha a (by simp)) x hx)
    · rw [e] at hx
      rcases List.mem_cons.1 hx with rfl | hx
      · exact absurd hs (by decide)
      · exact no x hs (tx_tame (ha a (by simp)) x hx)
    · rw [e] at hx
      rcases List.mem_cons.1 hx with rfl | hx
      · exact absurd hs (by decide)
      · rcases List.mem_append.1 hx with hx | hx
        · exact no x hs (tx_tame (ha a (by simp)) x hx)
        · rcases List.mem_cons.1 hx with rfl | hx
          · exact absurd hs (by decide)
          · exact no x hs (tx_tame (ha b (by simp)) x hx)
    · rw [e] at hx
      rcases List.mem_cons.1 hx with rfl | hx
      · exact absurd hs (by decide)
      · rcases List.mem_append.1 hx with hx | hx
        · exact no x hs (tx_tame (ha a (by simp)) x hx)
        · rcases List.mem_cons.1 hx with rfl | hx
          · exact absurd hs (by decide)
          · exact no x hs (tx_tame (ha b (by simp)) x hx)
  · exfalso
    rw [eT_coil2 hr.1 hr.2 h] at hx
    rcases List.mem_append.1 hx with hx | hx
    · rw [lowS x (nm_low x hx).1] at hs; cases hs
    · rcases List.mem_cons.1 hx with rfl | hx
      · exact absurd hs (by decide)
      · rcases join_tame (c := 44) ha x hx with h | rfl
        · exact no x hs h
        · exact absurd hs (by decide)

/-- A text with a sign: what stands ahead of it and behind it. -/
theorem sign_at {t A : List UInt8} {s : UInt8} {R : List UInt8} (ht : t = A ++ s :: R) (hA : ∀ x ∈ A, sgn3 x = false) (hs : sgn3 s = true) {op0 : Int} {ys0 : List Ar} (h : okA (ez op0) ys0 = true) (e : t = eT op0 ys0) :
    ∃ (i : Nat) (a b : Ar), op0 = (i : Int) ∧ 5 ≤ i ∧ i ≤ 10 ∧ ys0 = [a, b] ∧ okB a.1 a.2.1 a.2.2 = true ∧ okB b.1 b.2.1 b.2.2 = true ∧ A = tx a ∧ s :: R = bt i ++ tx b := by
  obtain ⟨i, rfl, he, h5, h10⟩ := signs_of h (x := s) (by rw [← e, ht]; simp) hs
  rw [he] at h
  obtain ⟨a, b, rfl, ee⟩ := eT_test h5 h10 h
  have ha := okA_all h
  obtain ⟨s', r, eb, hs'⟩ := bt_head h5 h10
  rw [ht, ee, eb, List.cons_append] at e
  obtain ⟨h1, h2, h3⟩ := split_first hA (fun x hx => sgn3_tame (tx_tame (ha a (by simp)) x hx)) hs hs' e
  exact ⟨i, a, b, rfl, h5, h10, rfl, ha a (by simp), ha b (by simp), h1, by rw [h2, h3, eb]; rfl⟩
theorem allOk1 {a : Ar} (h : okB a.1 a.2.1 a.2.2 = true) : AllOk [a] := fun x hx => by
  rw [List.mem_singleton] at hx
  rw [hx]; exact h
theorem guess_sign {t A : List UInt8} {s : UInt8} {R : List UInt8} (ht : t = A ++ s :: R) (hA : ∀ x ∈ A, sgn3 x = false) (hs : sgn3 s = true) {j : Nat} (hj1 : 5 ≤ j) (hj2 : j ≤ 10) (hb : (s :: R).take (nS (s :: R)) = bt j)
    {ys1 ys2 : List Ar} (h1 : ReadsAs (cutL 32 A) ys1) (l1 : ys1.length = min 4 (cutL 32 A).length) (h2 : ReadsAs (cutL 32 ((s :: R).drop (nS (s :: R)))) ys2) (l2 : ys2.length = min 4 (cutL 32 ((s :: R).drop (nS (s :: R)))).length) :
    EGuess t (j : Int) (ys1 ++ ys2) := by
  intro op0 ys0 h e
  obtain ⟨i, a, b, rfl, h5, h10, rfl, oa, ob, rfl, hR⟩ := sign_at ht hA hs h e
  rw [hR, nS_bt h5 h10 (tx_ne ob) (tx_tame ob)] at hb h2 l2
  simp only [List.take_left', List.drop_left'] at hb h2 l2
  have hc1 : cutL 32 (tx a) = [a].map tx := cutL_none (tx_not oa (by decide))
  have hc2 : cutL 32 (tx b) = [b].map tx := cutL_none (tx_not ob (by decide))
  rw [hc1] at h1 l1
  rw [hc2] at h2 l2
  obtain rfl := bt_inj h5 h10 hj1 hj2 hb
  rw [reads_eq (allOk1 oa) h1 (by simpa using l1), reads_eq (allOk1 ob) h2 (by simpa using l2)]
  exact ⟨rfl, rfl⟩
theorem guess_no {t A : List UInt8} {s : UInt8} {R : List UInt8} (ht : t = A ++ s :: R) (hA : ∀ x ∈ A, sgn3 x = false) (hs : sgn3 s = true) (hb : ∀ j, 5 ≤ j → j ≤ 10 → (s :: R).take (nS (s :: R)) ≠ bt j) (op : Int) (ys : List Ar) : EGuess t op ys := by
  intro op0 ys0 h e
  obtain ⟨i, a, b, rfl, h5, h10, rfl, oa, ob, rfl, hR⟩ := sign_at ht hA hs h e
  refine absurd ?_ (hb i h5 h10)
  rw [hR, nS_bt h5 h10 (tx_ne ob) (tx_tame ob)]
  simp

/-- The bytes up to the first colon. -/
theorem colon_free {i : Nat} : ∀ x ∈ nm i, (x == 58) = false := fun x hx => by
  have := nm_low x hx
  rw [beq_eq_false_iff_ne]
  rintro rfl
  simp at this
theorem nm_inj {i j : Nat} (h1 : 21 ≤ i) (h2 : i ≤ 37) (h3 : 21 ≤ j) (h4 : j ≤ 37) (h : nm i = nm j) : i = j := by
  have hi : i = 21 ∨ i = 22 ∨ i = 23 ∨ i = 24 ∨ i = 25 ∨ i = 26 ∨ i = 27 ∨ i = 28 ∨ i = 29 ∨ i = 30 ∨ i = 31 ∨ i = 32 ∨ i = 33 ∨ i = 34 ∨ i = 35 ∨ i = 36 ∨ i = 37 := by omega
  have hj : j = 21 ∨ j = 22 ∨ j = 23 ∨ j = 24 ∨ j = 25 ∨ j = 26 ∨ j = 27 ∨ j = 28 ∨ j = 29 ∨ j = 30 ∨ j = 31 ∨ j = 32 ∨ j = 33 ∨ j = 34 ∨ j = 35 ∨ j = 36 ∨ j = 37 := by omega
  rcases hi with rfl | rfl | rfl | rfl | rfl | rfl | rfl | rfl | rfl | rfl | rfl | rfl | rfl | rfl | rfl | rfl | rfl <;> rcases hj with rfl | rfl | rfl | rfl | rfl | rfl | rfl | rfl | rfl | rfl | rfl | rfl | rfl | rfl | rfl | rfl | rfl <;> first | rfl | (simp [nm] at h)
theorem bit_head {a : Ar} (h : isB a.1 a.2.1 a.2.2 = true) : ∃ c l, tx a = c :: l ∧ 65 ≤ c.toNat ∧ c.toNat ≤ 90 := by
  simp only [isB, Bool.and_eq_true] at h
  rcases shape_of h.1 with ⟨hk, -⟩ | ⟨-, k, u, k1, k2, -, -, -, e⟩ | ⟨hk, -⟩ | ⟨hk, -⟩
  · rw [hk] at h; exact absurd h.2 (by decide)
  · obtain ⟨c, e2, hc⟩ : ∃ c, rL k = [c] ∧ 65 ≤ c.toNat ∧ c.toNat ≤ 90 := by
      have : k = 1 ∨ k = 2 ∨ k = 3 ∨ k = 4 ∨ k = 5 ∨ k = 6 ∨ k = 7 ∨ k = 8 ∨ k = 9 ∨ k = 10 := by omega
      rcases this with rfl | rfl | rfl | rfl | rfl | rfl | rfl | rfl | rfl | rfl <;> exact ⟨_, rfl, by decide, by decide⟩
    refine ⟨c, Lib.decDigits u, ?_, hc.1, hc.2⟩
    show txt a.1 a.2.1 a.2.2 = _
    rw [e, e2]; rfl
  · rw [hk] at h; exact absurd h.2 (by decide)
  · rw [hk] at h; exact absurd h.2 (by decide)

/-- A text that begins with a word of a coil and a colon. -/
theorem guess_name {t r : List UInt8} {j : Nat} (hj1 : 21 ≤ j) (hj2 : j ≤ 37) (ht : t = nm j ++ 58 :: r) {ys : List Ar} (h1 : ReadsAs (cutL 44 r) ys) (l1 : ys.length = min 4 (cutL 44 r).length) : EGuess t (j : Int) ys := by
  intro op0 ys0 h e
  obtain ⟨i, rfl, he, hi, hr⟩ := okA_op h
  rw [he] at h
  have ha := okA_all h
  rcases hr with hr | hr
  · exfalso
    obtain ⟨c, l, hn⟩ := List.exists_cons_of_ne_nil (nm_yes j hj1 hj2)
    have hc := nm_low c (by rw [hn]; simp)
    by_cases h5 : 5 ≤ i
    · obtain ⟨a, b, rfl, ee⟩ := eT_test h5 hr.2 h
      rw [ht, ee] at e
      have h58 : (58 : UInt8) ∈ tx a ++ (bt i ++ tx b) := by rw [← e]; simp
      rcases List.mem_append.1 h58 with h58 | h58
      · exact absurd (tx_tame (ha a (by simp)) _ h58) (by decide)
      · rcases List.mem_append.1 h58 with h58 | h58
        · rcases bt_cases h5 hr.2 with ⟨-, eb⟩ | ⟨-, eb⟩ | ⟨-, eb⟩ | ⟨-, eb⟩ | ⟨-, eb⟩ | ⟨-, eb⟩ <;> rw [eb] at h58 <;> simp at h58
        · exact absurd (tx_tame (ha b (by simp)) _ h58) (by decide)
    · rcases eT_first hr.1 (by omega) h with ⟨-, a, rfl, ee, -⟩ | ⟨-, a, rfl, ee⟩ | ⟨-, a, b, rfl, ee⟩ | ⟨-, a, b, rfl, ee⟩
      · rw [ht, ee] at e
        have h58 : (58 : UInt8) ∈ tx a := by rw [← e]; simp
        exact absurd (tx_tame (ha a (by simp)) _ h58) (by decide)
      · rw [ht, ee, hn] at e
        simp at e
        rw [e.1] at hc
        simp at hc
      · rw [ht, ee, hn] at e
        simp at e
        rw [e.1] at hc
        simp at hc
      · rw [ht, ee, hn] at e
        simp at e
        rw [e.1] at hc
        simp at hc
  · rw [ht, eT_coil2 hr.1 hr.2 h] at e
    obtain ⟨h1', -, h3⟩ := split_first (p := fun x => x == 58) colon_free colon_free (by decide) (by decide) e
    obtain rfl := nm_inj hj1 hj2 hr.1 hr.2 h1'
    subst h3
    rw [cut_join (by decide) (okA_ne h) ha] at h1 l1
    have hl3 := okA_len h
    have := (fm0_ok j).1
    exact ⟨rfl, reads_eq ha h1 (by rw [l1, List.length_map]; omega)⟩
theorem first_of {t : List UInt8} (hn : ∀ x ∈ t, sgn3 x = false) (hm : ∀ j, 21 ≤ j → j ≤ 37 → ∀ r, t ≠ nm j ++ 58 :: r) {op0 : Int} {ys0 : List Ar} (h : okA (ez op0) ys0 = true) (e : t = eT op0 ys0) :
    ∃ i : Nat, op0 = (i : Int) ∧ 1 ≤ i ∧ i ≤ 4 ∧ okA i ys0 = true ∧ t = eT (i : Int) ys0 := by
  obtain ⟨i, rfl, he, hi, hr⟩ := okA_op h
  rw [he] at h
  rcases hr with hr | hr
  · by_cases h5 : 5 ≤ i
    · exfalso
      obtain ⟨a, b, rfl, ee⟩ := eT_test h5 hr.2 h
      obtain ⟨s', r, eb, hs'⟩ := bt_head h5 hr.2
      have := hn s' (by rw [e, ee, eb]; simp)
      rw [hs'] at this; cases this
    · exact ⟨i, rfl, hr.1, by omega, h, e⟩
  · exact absurd (e.trans (eT_coil2 hr.1 hr.2 h)) (hm i hr.1 hr.2 _)
theorem cut_colon {a b : Ar} (oa : okB a.1 a.2.1 a.2.2 = true) (ob : okB b.1 b.2.1 b.2.2 = true) : cutL 58 (tx a ++ 58 :: tx b) = [a, b].map tx := by
  rw [cutL_hit (tx_not oa (by decide)), cutL_none (tx_not ob (by decide))]; rfl
theorem guess_mark {t r : List UInt8} {m c : UInt8} {j : Nat} (hj : (j = 2 ∧ m = 47 ∧ c = 32) ∨ (j = 3 ∧ m = 43 ∧ c = 58) ∨ (j = 4 ∧ m = 45 ∧ c = 58)) (ht : t = m :: r) (hn : ∀ x ∈ t, sgn3 x = false) (hm : ∀ j, 21 ≤ j → j ≤ 37 → ∀ r, t ≠ nm j ++ 58 :: r)
    {ys : List Ar} (h1 : ReadsAs (cutL c r) ys) (l1 : ys.length = min 4 (cutL c r).length) : EGuess t (j : Int) ys := by
  intro op0 ys0 h e
  obtain ⟨i, rfl, i1, i4, hk, e⟩ := first_of hn hm h e
  have ha := okA_all hk
  rcases eT_first i1 i4 hk with ⟨rfl, a, rfl, ee, hb⟩ | ⟨rfl, a, rfl, ee⟩ | ⟨rfl, a, b, rfl, ee⟩ | ⟨rfl, a, b, rfl, ee⟩
  · exfalso
    obtain ⟨d, l, ed, hd⟩ := bit_head hb
    rw [ht, ee, ed] at e
    simp at e
    rw [← e.1] at hd
    rcases hj with ⟨-, rfl, -⟩ | ⟨-, rfl, -⟩ | ⟨-, rfl, -⟩ <;> simp at hd
  · rw [ht, ee] at e
    simp at e
    obtain ⟨rfl, rfl⟩ := e
    rcases hj with ⟨rfl, -, rfl⟩ | ⟨-, hx, -⟩ | ⟨-, hx, -⟩
    · rw [show cutL 32 (tx a) = [a].map tx from cutL_none (tx_not (ha a (by simp)) (by decide))] at h1 l1
      exact ⟨rfl, reads_eq ha h1 (by simpa using l1)⟩
    · exact absurd hx (by decide)
    · exact absurd hx (by decide)
  · rw [ht, ee] at e
    simp at e
    obtain ⟨rfl, rfl⟩ := e
    rcases hj with ⟨-, hx, -⟩ | ⟨rfl, -, rfl⟩ | ⟨-, hx, -⟩
    · exact absurd hx (by decide)
    · rw [cut_colon (ha a (by simp)) (ha b (by simp))] at h1 l1
      exact ⟨rfl, reads_eq ha h1 (by simpa using l1)⟩
    · exact absurd hx (by decide)
  · rw [ht, ee] at e
    simp at e
    obtain ⟨rfl, rfl⟩ := e
    rcases hj with ⟨-, hx, -⟩ | ⟨-, hx, -⟩ | ⟨rfl, -, rfl⟩
    · exact absurd hx (by decide)
    · exact absurd hx (by decide)
    · rw [cut_colon (ha a (by simp)) (ha b (by simp))] at h1 l1
      exact ⟨rfl, reads_eq ha h1 (by simpa using l1)⟩
theorem guess_open {t : List UInt8} (hn : ∀ x ∈ t, sgn3 x = false) (hm : ∀ j, 21 ≤ j → j ≤ 37 → ∀ r, t ≠ nm j ++ 58 :: r) (h47 : ∀ r, t ≠ 47 :: r) (h43 : ∀ r, t ≠ 43 :: r) (h45 : ∀ r, t ≠ 45 :: r)
    {ys : List Ar} (h1 : ReadsAs (cutL 32 t) ys) (l1 : ys.length = min 4 (cutL 32 t).length) : EGuess t 1 ys := by
  intro op0 ys0 h e
  obtain ⟨i, rfl, i1, i4, hk, e⟩ := first_of hn hm h e
  have ha := okA_all hk
  rcases eT_first i1 i4 hk with ⟨rfl, a, rfl, ee, hb⟩ | ⟨rfl, a, rfl, ee⟩ | ⟨rfl, a, b, rfl, ee⟩ | ⟨rfl, a, b, rfl, ee⟩
  · rw [ee] at e
    rw [e, show cutL 32 (tx a) = [a].map tx from cutL_none (tx_not (ha a (by simp)) (by decide))] at h1 l1
    exact ⟨rfl, reads_eq ha h1 (by simpa using l1)⟩
  · exact absurd (e.trans ee) (h47 _)
  · exact absurd (e.trans ee) (h43 _)
  · exact absurd (e.trans ee) (h45 _)
end Go.Proofs.YtlddkhhaclfmiaaGreatDoor

/- How long the text of a contact or coil can be. Helper text: no statement is claimed here. -/
namespace Go.Proofs.YtlddkhhaclfmiaaGreatDoor
open Go.RowKit

theorem sgn_len {sg : List UInt8} {u : Nat} {N : Int} (h : Sgn sg u N) : sg.length ≤ 1 := by
  rcases h with ⟨rfl, -⟩ | ⟨rfl, -⟩ <;> simp
theorem txt_short (k n p : Int) : (txt k n p).length ≤ 12 := by
  cases h : okB k n p
  · rw [txt_no h]; simp
  · rcases shape_of h with ⟨-, -, i, -, -, e⟩ | ⟨-, c, u, c1, c2, -, -, hu, e⟩ | ⟨-, -, sg, u, hu, hs, e⟩ | ⟨-, sg, l1, l2, u, -, -, -, hs, e, -, -, -, hl⟩
    · rw [e]; unfold wordL; split <;> simp
    · rw [e]
      have h1 := digits_small 2 u (by omega) (by omega)
      have h2 := rL_len c
      simp only [List.length_append]; omega
    · rw [e]
      have h1 := digits_small 5 u (by omega) (by omega)
      have h2 := sgn_len hs
      simp only [List.length_append]; omega
    · rw [e]
      have h2 := sgn_len hs
      simp only [List.length_append, List.length_cons] at hl ⊢; omega
theorem join_short (sep : List UInt8) (hs : sep.length ≤ 2) : ∀ ys : List Ar, (Lib.join (ys.map tx) sep).length ≤ ys.length * 14
  | [] => by simp [Lib.join]
  | [a] => by
    have : (tx a).length ≤ 12 := txt_short a.1 a.2.1 a.2.2
    rw [List.map_cons, List.map_nil, join_one]; simp; omega
  | a :: b :: l => by
    have h1 := join_short sep hs (b :: l)
    have h2 : (tx a).length ≤ 12 := txt_short a.1 a.2.1 a.2.2
    rw [List.map_cons, List.map_cons, join_two]
    rw [List.map_cons] at h1
    simp only [List.length_append, List.length_cons] at h1 ⊢
    omega
theorem eT_short (op : Int) (ys : List Ar) : (eT op ys).length ≤ 100 := by
  unfold eT
  split
  · rename_i h
    have h1 := okA_len h
    have h2 := (fm0_ok (ez op)).1
    have h3 := join_short (bt (ez op)) (bt_len _) ys
    have h4 := ah_len (ez op)
    simp only [List.length_append]
    omega
  · simp
end Go.Proofs.YtlddkhhaclfmiaaGreatDoor
