/- The words of a memory's text, as plain lists. Helper text: no statement is claimed here. -/
import Derived.Test.YtjacgamgjjpllaaGreatDoorP06
import Derived.Test.YtjacgamgjjpllaaGreatDoorP02
import Derived.Lib.Join
import Derived.Test.YtjacgamgjjpllaaGreatDoorP03
import Derived.ChangeKeysEq
import Derived.Laws.StructEq
namespace Go.Proofs.YtjacgamgjjpllaaGreatDoor
open Go.ChangeShapes Go.WideShapes Go.ChangeAt Go.RowKit Fl

/-- The text of a device. -/
def dvT (k : Int) (i : Nat) : List UInt8 := rL (kz k) ++ Lib.itoa (i : Int)
/-- A mark that is there or not. -/
def mkT (b : Bool) (l : List UInt8) : List UInt8 := if b then l else []
/-- Words of places, as far as j. -/
def upto (f : Nat → List (List UInt8)) (j : Nat) : List (List UInt8) := (List.range j).flatMap f
theorem upto_zero (f : Nat → List (List UInt8)) : upto f 0 = [] := rfl
theorem upto_succ (f : Nat → List (List UInt8)) (j : Nat) : upto f (j + 1) = upto f j ++ f j := by simp [upto, List.range_succ]
/-- Words, each with a blank behind it. -/
def blk (ws : List (List UInt8)) : List UInt8 := ws.flatMap (· ++ [32])
theorem blk_nil : blk [] = [] := rfl
theorem blk_app (a b : List (List UInt8)) : blk (a ++ b) = blk a ++ blk b := by simp [blk]
theorem blk_one (a : List UInt8) : blk [a] = a ++ [32] := by simp [blk]
theorem join_blk : ∀ ws : List (List UInt8), ws ≠ [] → Lib.join ws [32] ++ [32] = blk ws
  | [], h => absurd rfl h
  | [a], _ => by simp [Lib.join_one, blk]
  | a :: b :: l, _ => by
    have ih := join_blk (b :: l) (by simp)
    have e : Lib.join (a :: b :: l) [32] = a ++ [32] ++ Lib.join (b :: l) [32] := by simp [Lib.join, List.intercalate]
    rw [e, List.append_assoc, ih]
    simp [blk]
/-- At most k words, each of at most 100 bytes. -/
def Fits (k : Nat) (ws : List (List UInt8)) : Prop := ws.length ≤ k ∧ ∀ t ∈ ws, t.length ≤ 100
theorem Fits.nil : Fits 0 [] := ⟨by simp, by simp⟩
theorem Fits.le {k k' : Nat} {ws : List (List UInt8)} (h : Fits k ws) (hk : k ≤ k') : Fits k' ws := ⟨Nat.le_trans h.1 hk, h.2⟩
theorem Fits.app {k k' : Nat} {a b : List (List UInt8)} (h : Fits k a) (h' : Fits k' b) : Fits (k + k') (a ++ b) := by
  refine ⟨by have := h.1; have := h'.1; simp; omega, fun t ht => ?_⟩
  rcases List.mem_append.1 ht with ht | ht
  · exact h.2 t ht
  · exact h'.2 t ht
theorem Fits.one {a : List UInt8} (h : a.length ≤ 100) : Fits 1 [a] := ⟨by simp, by simpa using h⟩
theorem Fits.maybe {a : List UInt8} {p : Prop} [Decidable p] (h : a.length ≤ 100) : Fits 1 (if p then [a] else []) := by
  split
  · exact .one h
  · exact Fits.nil.le (by omega)
theorem Fits.none {a : List UInt8} {p : Prop} [Decidable p] (h : a.length ≤ 100) : Fits 1 (if p then [] else [a]) := by
  split
  · exact Fits.nil.le (by omega)
  · exact .one h
theorem Fits.upto {f : Nat → List (List UInt8)} {c : Nat} : ∀ j : Nat, (∀ i, i < j → Fits c (f i)) → Fits (j * c) (upto f j)
  | 0, _ => by rw [Nat.zero_mul]; exact Fits.nil
  | j + 1, h => by
    rw [upto_succ, Nat.succ_mul]
    exact (Fits.upto j fun i hi => h i (by omega)).app (h j (by omega))
theorem Fits.len {k : Nat} {ws : List (List UInt8)} (h : Fits k ws) : (blk ws).length ≤ k * 101 := by
  have key : ∀ ws : List (List UInt8), (∀ t ∈ ws, t.length ≤ 100) → (blk ws).length ≤ ws.length * 101 := by
    intro ws
    induction ws with
    | nil => intro _; simp [blk]
    | cons a l ih =>
      intro hl
      have h1 := ih fun t ht => hl t (List.mem_cons_of_mem _ ht)
      have h2 := hl a (List.mem_cons_self ..)
      have e : blk (a :: l) = a ++ [32] ++ blk l := by simp [blk]
      rw [e]
      simp only [List.length_append, List.length_cons, List.length_nil]
      omega
  have h1 := key ws h.2
  have h2 := Nat.mul_le_mul_right 101 h.1
  omega
theorem Fits.join {k : Nat} {ws : List (List UInt8)} (h : Fits k ws) : (Lib.join ws [32]).length ≤ k * 101 := by
  by_cases he : ws = []
  · rw [he]; simp [Lib.join_nil]
  · have := congrArg List.length (join_blk ws he)
    have := h.len
    simp at *
    omega

/-- The text of a real number, as a function. -/
def rlT (x : Nat) : List UInt8 := txtD (Ieee.double.read x)
/-- The words of one place. -/
def bitW (m : Mm) (k : Int) (i : Nat) : List (List UInt8) := if m.bit k (i : Int) = true then [dvT k i] else []
def tmT (m : Mm) (i : Nat) : List UInt8 := dvT 7 i ++ ([61] ++ Lib.itoa (m.tc i : Int) ++ mkT (m.td i) [33])
def tmW (m : Mm) (i : Nat) : List (List UInt8) := if m.td i = true ∨ 0 < m.tc i then [tmT m i] else []
def cnT (m : Mm) (i : Nat) : List UInt8 := dvT 8 i ++ ([61] ++ Lib.itoa (m.cc i : Int) ++ mkT (m.cd i) [33] ++ mkT (m.cl i) [43])
def cnW (m : Mm) (i : Nat) : List (List UInt8) := if m.cd i = true ∨ m.cl i = true ∨ 0 < m.cc i then [cnT m i] else []
def whT (m : Mm) (i : Nat) : List UInt8 := dvT 9 i ++ ([61] ++ Lib.itoa (m.d i))
def whW (m : Mm) (i : Nat) : List (List UInt8) := if m.d i = 0 then [] else [whT m i]
def reT (m : Mm) (i : Nat) : List UInt8 := dvT 10 i ++ ([61] ++ rlT (m.r i))
def reW (m : Mm) (i : Nat) : List (List UInt8) := if rlT (m.r i) = [48] then [] else [reT m i]
/-- How many bits of the kinds 1 to 5 there are. -/
def bits5 (j : Nat) : Nat := (rN (kz ((j : Int) + 1))).toNat
def kindW (m : Mm) (j : Nat) : List (List UInt8) := upto (bitW m ((j : Int) + 1)) (bits5 j)
def bitsW (m : Mm) : List (List UInt8) := upto (kindW m) 5
def timeT (m : Mm) : List UInt8 := [116, 105, 109, 101, 61] ++ Lib.itoa (m.time : Int)
def ranT : List UInt8 := [114, 97, 110]
def faultT : List UInt8 := [102, 97, 117, 108, 116]
def numW (m : Mm) : List (List UInt8) := upto (tmW m) 16 ++ upto (cnW m) 16 ++ upto (whW m) 32 ++ upto (reW m) 16
def endW (m : Mm) : List (List UInt8) := (if 0 < m.time then [timeT m] else []) ++ (if m.ran = true then [ranT] else []) ++ (if m.fault = true then [faultT] else [])
/-- All words. -/
def wordsM (m : Mm) : List (List UInt8) := bitsW m ++ numW m ++ endW m
/-- The text of a memory. -/
def memT (m : Mm) : List UInt8 := Lib.join (wordsM m) [32]

theorem itoa_len (n : Int) (h0 : -9223372036854775808 ≤ n) (h1 : n ≤ 9223372036854775807) : (Lib.itoa n).length ≤ 21 := by
  have := Lib.itoa_length_le n h0 h1
  omega
theorem rL_one (i : Nat) : (rL i).length ≤ 1 := by unfold rL; split <;> simp
theorem dvT_len (k : Int) {i : Nat} (h : i ≤ 64) : (dvT k i).length ≤ 22 := by
  have := rL_one (kz k)
  have := itoa_len (i : Int) (by omega) (by omega)
  simp only [dvT, List.length_append]
  omega
theorem mkT_len (b : Bool) (x : UInt8) : (mkT b [x]).length ≤ 1 := by cases b <;> simp [mkT]
theorem rlT_is {x : Nat} {t : List UInt8} (h : TextR x t) : t = rlT x := h.fn
theorem textR_any {x : Nat} (hx : x < 2 ^ 64) : ∃ t, TextR x t := by
  rcases cases_wd hx with ⟨s, m, k, hs, hk, rfl⟩ | ⟨s, rfl⟩ | hn
  · by_cases h0 : m = 0
    · rw [wd_zeroN hs h0]
      cases s
      · exact ⟨_, .zero⟩
      · exact ⟨_, .nzero⟩
    · cases s
      · exact ⟨_, .pos hs hk (by omega)⟩
      · exact ⟨_, .neg hs hk (by omega)⟩
  · cases s
    · exact ⟨_, .inf⟩
    · exact ⟨_, .ninf⟩
  · exact ⟨_, .isnan hn⟩
theorem rlT_R {x : Nat} (hx : x < 2 ^ 64) : TextR x (rlT x) := by
  obtain ⟨t, ht⟩ := textR_any hx
  rw [← rlT_is ht]; exact ht
theorem rlT_len {x : Nat} (hx : x < 2 ^ 64) : (rlT x).length ≤ 60 := (rlT_R hx).len
theorem tmT_len {m : Mm} (h : m.Ok) {i : Nat} (hi : i < 16) : (tmT m i).length ≤ 100 := by
  have := dvT_len 7 (i := i) (by omega)
  have := h.htc i
  have := itoa_len (m.tc i : Int) (by omega) (by omega)
  have := mkT_len (m.td i) 33
  simp only [tmT, List.length_append, List.length_cons, List.length_nil]
  omega
theorem cnT_len {m : Mm} (h : m.Ok) {i : Nat} (hi : i < 16) : (cnT m i).length ≤ 100 := by
  have := dvT_len 8 (i := i) (by omega)
  have := h.hcc i
  have := itoa_len (m.cc i : Int) (by omega) (by omega)
  have := mkT_len (m.cd i) 33
  have := mkT_len (m.cl i) 43
  simp only [cnT, List.length_append, List.length_cons, List.length_nil]
  omega
theorem whT_len {m : Mm} (h : m.Ok) {i : Nat} (hi : i < 32) : (whT m i).length ≤ 100 := by
  have := dvT_len 9 (i := i) (by omega)
  have := h.hd i
  have := itoa_len (m.d i) (by omega) (by omega)
  simp only [whT, List.length_append, List.length_cons, List.length_nil]
  omega
theorem reT_len {m : Mm} (h : m.Ok) {i : Nat} (hi : i < 16) : (reT m i).length ≤ 100 := by
  have := dvT_len 10 (i := i) (by omega)
  have := rlT_len (h.hr i)
  simp only [reT, List.length_append, List.length_cons, List.length_nil]
  omega
theorem timeT_len {m : Mm} (h : m.Ok) : (timeT m).length ≤ 100 := by
  have := h.htime
  have := itoa_len (m.time : Int) (by omega) (by omega)
  simp only [timeT, List.length_append, List.length_cons, List.length_nil]
  omega
theorem bits5_le (j : Nat) : bits5 j ≤ 64 := by
  have : ∀ i, rN i ≤ 64 := fun i => by unfold rN; split <;> omega
  have := this (kz ((j : Int) + 1))
  unfold bits5
  omega
theorem fits_bit (m : Mm) (k : Int) {j : Nat} (hj : j ≤ 64) : Fits j (upto (bitW m k) j) := by
  have := Fits.upto (f := bitW m k) (c := 1) j fun i hi => .maybe (by have := dvT_len k (i := i) (by omega); omega)
  rwa [Nat.mul_one] at this
theorem fits_kind (m : Mm) {j : Nat} : Fits (j * 64) (upto (kindW m) j) :=
  Fits.upto j fun i _ => (fits_bit m _ (bits5_le i)).le (bits5_le i)
theorem fits_tm {m : Mm} (h : m.Ok) {j : Nat} (hj : j ≤ 16) : Fits j (upto (tmW m) j) := by
  have := Fits.upto (f := tmW m) (c := 1) j fun i hi => .maybe (tmT_len h (by omega))
  rwa [Nat.mul_one] at this
theorem fits_cn {m : Mm} (h : m.Ok) {j : Nat} (hj : j ≤ 16) : Fits j (upto (cnW m) j) := by
  have := Fits.upto (f := cnW m) (c := 1) j fun i hi => .maybe (cnT_len h (by omega))
  rwa [Nat.mul_one] at this
theorem fits_wh {m : Mm} (h : m.Ok) {j : Nat} (hj : j ≤ 32) : Fits j (upto (whW m) j) := by
  have := Fits.upto (f := whW m) (c := 1) j fun i hi => .none (whT_len h (by omega))
  rwa [Nat.mul_one] at this
theorem fits_re {m : Mm} (h : m.Ok) {j : Nat} (hj : j ≤ 16) : Fits j (upto (reW m) j) := by
  have := Fits.upto (f := reW m) (c := 1) j fun i hi => .none (reT_len h (by omega))
  rwa [Nat.mul_one] at this
theorem fits_num {m : Mm} (h : m.Ok) : Fits 80 (numW m) := (((fits_tm h (Nat.le_refl 16)).app (fits_cn h (Nat.le_refl 16))).app (fits_wh h (Nat.le_refl 32))).app (fits_re h (Nat.le_refl 16))
theorem fits_bits (m : Mm) : Fits 320 (bitsW m) := fits_kind m (j := 5)
theorem fits_end {m : Mm} (h : m.Ok) : Fits 3 (endW m) := ((Fits.maybe (timeT_len h)).app (.maybe (by decide))).app (.maybe (by decide))
theorem fits_words {m : Mm} (h : m.Ok) : Fits 403 (wordsM m) := ((fits_bits m).app (fits_num h)).app (fits_end h)
end Go.Proofs.YtjacgamgjjpllaaGreatDoor

/- Texts of two real numbers are the same just if the numbers are. Helper text: no statement is claimed here. -/
namespace Go.Proofs.YtjacgamgjjpllaaGreatDoor
open Go.ChangeShapes Go.WideShapes Go.ChangeAt Go.RowKit Fl

theorem text_iff {x y : Nat} {s t : List UInt8} (hs : TextR x s) (ht : TextR y t) : s = t ↔ SameV x y := by
  constructor
  · rintro rfl; exact hs.inj ht
  · rintro (rfl | ⟨h1, h2⟩)
    · exact hs.one ht
    · exact (hs.one (.isnan h1)).trans (ht.one (.isnan h2)).symm
end Go.Proofs.YtjacgamgjjpllaaGreatDoor

/- Arrays held against each other by the program's own sign of equality. Helper text: no statement is claimed here. -/
namespace Go.Proofs.YtjacgamgjjpllaaGreatDoor
open Go.ChangeShapes Go.WideShapes Go.ChangeAt Go.RowKit

theorem eqItems_run {d sz : Nat} {e : TypeId} {xs ys : Array Value} {w : World} (r : Nat → Bool) : ∀ is : List Nat, (∀ i, i ∈ is → ∃ a b, (part e xs (i * sz)).run Tryz.prog w = .ok a w ∧ (part e ys (i * sz)).run Tryz.prog w = .ok b w ∧ (Op.equalIn d e a b).run Tryz.prog w = .ok (r i) w) →
    (Op.eqItems d e sz xs ys is).run Tryz.prog w = .ok (is.all r) w
  | [], _ => by simp [Op.eqItems]
  | i :: is, h => by
    obtain ⟨a, b, h1, h2, h3⟩ := h i (by simp)
    have ih := eqItems_run r is (fun j hj => h j (by simp [hj]))
    simp only [Op.eqItems, Sem.run_bind, h1, h2, h3, Result.andThen_ok, List.all_cons]
    cases hr : r i
    · simp
    · simpa using ih
theorem eqTimerV (d : Nat) (a a' : Bool) (c c' : Int) (w : World) : (Op.equalIn (d + 2) 27 (.agg #[.bool a, .int .u16 c]) (.agg #[.bool a', .int .u16 c'])).run Tryz.prog w = .ok (a == a' && c == c') w := by
  rw [run_equalIn_struct w (d + 1) _ _ _ (by kernel_rfl) (by kernel_rfl)]
  simp [go_sem]
  split <;> (try split) <;> simp_all
theorem eqCounterV (d : Nat) (a a' l l' : Bool) (c c' : Int) (w : World) : (Op.equalIn (d + 2) 30 (.agg #[.bool a, .bool l, .int .u16 c]) (.agg #[.bool a', .bool l', .int .u16 c'])).run Tryz.prog w = .ok (a == a' && (l == l' && c == c')) w := by
  rw [run_equalIn_struct w (d + 1) _ _ _ (by kernel_rfl) (by kernel_rfl)]
  simp [go_sem]
  split <;> (try split) <;> (try split) <;> simp_all
theorem extract2 {n : Nat} (f : Nat → Value) (k : Nat) (h : k + 2 ≤ n) : (cellsOf n f).extract k (k + 2) = #[f k, f (k + 1)] := by
  apply Array.ext_getElem?
  intro i
  rw [Array.getElem?_extract]
  by_cases hi : i < 2
  · rw [if_pos (by rw [cellsOf_size]; omega), cellsOf_at _ (by omega)]
    have : i = 0 ∨ i = 1 := by omega
    rcases this with rfl | rfl <;> simp
  · rw [if_neg (by rw [cellsOf_size]; omega)]
    simp; omega
theorem extract3 {n : Nat} (f : Nat → Value) (k : Nat) (h : k + 3 ≤ n) : (cellsOf n f).extract k (k + 3) = #[f k, f (k + 1), f (k + 2)] := by
  apply Array.ext_getElem?
  intro i
  rw [Array.getElem?_extract]
  by_cases hi : i < 3
  · rw [if_pos (by rw [cellsOf_size]; omega), cellsOf_at _ (by omega)]
    have : i = 0 ∨ i = 1 ∨ i = 2 := by omega
    rcases this with rfl | rfl | rfl <;> simp
  · rw [if_neg (by rw [cellsOf_size]; omega)]
    simp; omega
theorem partTimer (m : Mm) (i : Nat) (h : i < 16) (w : World) : (part 27 m.tArr (i * 2)).run Tryz.prog w = .ok (.agg #[.bool (m.td i), .int .u16 (m.tc i)]) w := by
  have : m.tArr.extract (i * 2) (i * 2 + 2) = #[.bool (m.td i), .int .u16 (m.tc i)] := by
    unfold Mm.tArr
    rw [extract2 _ _ (by omega), Mm.tcell_d, Mm.tcell_c]
  simp [go_sem, this]
theorem partCounter (m : Mm) (i : Nat) (h : i < 16) (w : World) : (part 30 m.cArr (i * 3)).run Tryz.prog w = .ok (.agg #[.bool (m.cd i), .bool (m.cl i), .int .u16 (m.cc i)]) w := by
  have : m.cArr.extract (i * 3) (i * 3 + 3) = #[.bool (m.cd i), .bool (m.cl i), .int .u16 (m.cc i)] := by
    unfold Mm.cArr
    rw [extract3 _ _ (by omega), Mm.ccell_d, Mm.ccell_l, Mm.ccell_c]
  simp [go_sem, this]
theorem partD (m : Mm) (i : Nat) (h : i < 32) (w : World) : (part 32 m.dArr (i * 1)).run Tryz.prog w = .ok (.int .i16 (m.d i)) w := by
  have : m.dArr[i]? = some (.int .i16 (m.d i)) := cellsOf_at _ h
  simp [go_sem, this]
/-- What the sign of equality says of two arrays. -/
def sameT (m n : Mm) : Bool := (List.range 16).all fun i => m.td i == n.td i && (m.tc i : Int) == (n.tc i : Int)
def sameC (m n : Mm) : Bool := (List.range 16).all fun i => m.cd i == n.cd i && (m.cl i == n.cl i && (m.cc i : Int) == (n.cc i : Int))
def sameD (m n : Mm) : Bool := (List.range 32).all fun i => m.d i == n.d i
theorem eqT_run (m n : Mm) (w : World) : (Op.equal 28 (.agg m.tArr) (.agg n.tArr)).run Tryz.prog w = .ok (sameT m n) w := by
  obtain ⟨i0, hi0⟩ : ∃ i, Tryz.prog.info? 27 = some i := Option.isSome_iff_exists.1 (by kernel_rfl)
  show (Op.equalIn (9999 + 1) _ _ _).run _ _ = _
  rw [run_equalIn_array w 9999 m.tArr n.tArr Tryz.underlying28 hi0, show Tryz.prog.cellsOf 27 = 2 by kernel_rfl]
  exact eqItems_run _ _ fun i hi => ⟨_, _, partTimer m i (List.mem_range.1 hi) w, partTimer n i (List.mem_range.1 hi) w, eqTimerV 9997 _ _ _ _ w⟩
theorem eqC_run (m n : Mm) (w : World) : (Op.equal 31 (.agg m.cArr) (.agg n.cArr)).run Tryz.prog w = .ok (sameC m n) w := by
  obtain ⟨i0, hi0⟩ : ∃ i, Tryz.prog.info? 30 = some i := Option.isSome_iff_exists.1 (by kernel_rfl)
  show (Op.equalIn (9999 + 1) _ _ _).run _ _ = _
  rw [run_equalIn_array w 9999 m.cArr n.cArr Tryz.underlying31 hi0, show Tryz.prog.cellsOf 30 = 3 by kernel_rfl]
  exact eqItems_run _ _ fun i hi => ⟨_, _, partCounter m i (List.mem_range.1 hi) w, partCounter n i (List.mem_range.1 hi) w, eqCounterV 9997 _ _ _ _ _ _ w⟩
theorem eqD_run (m n : Mm) (w : World) : (Op.equal 33 (.agg m.dArr) (.agg n.dArr)).run Tryz.prog w = .ok (sameD m n) w := by
  obtain ⟨i0, hi0⟩ : ∃ i, Tryz.prog.info? 32 = some i := Option.isSome_iff_exists.1 (by kernel_rfl)
  show (Op.equalIn (9999 + 1) _ _ _).run _ _ = _
  rw [run_equalIn_array w 9999 m.dArr n.dArr Tryz.underlying33 hi0, show Tryz.prog.cellsOf 32 = 1 by kernel_rfl]
  exact eqItems_run _ _ fun i hi => ⟨_, _, partD m i (List.mem_range.1 hi) w, partD n i (List.mem_range.1 hi) w, by simp [go_sem]⟩
end Go.Proofs.YtjacgamgjjpllaaGreatDoor

/- Two real numbers that are equal by the sign of equality. Helper text: no statement is claimed here. -/
namespace Go.Proofs.YtjacgamgjjpllaaGreatDoor
open Go.ChangeShapes Go.WideShapes Go.ChangeAt Go.RowKit Fl

theorem not_both {x y : Nat} (hx : x < 2 ^ 64) (hy : y < 2 ^ 64) (nx : ¬ nan x) (ny : ¬ nan y) (h : (ord x y == some .eq) = true) : x = y ∨ ∃ s t, x = wd s 0 0 ∧ y = wd t 0 0 := by
  rcases cases_wd hx with ⟨s, m, k, hs, hk, rfl⟩ | ⟨s, rfl⟩ | hn
  · rcases cases_wd hy with ⟨t, n, j, ht, hj, rfl⟩ | ⟨t, rfl⟩ | hn
    · rw [ord_eq hs hk ht hj] at h
      have h := of_decide_eq_true h
      by_cases h0 : m = 0
      · right
        have hv : m * 2 ^ k = 0 := by rw [h0, Nat.zero_mul]
        rw [hv] at h
        have hw : n * 2 ^ j = 0 := by
          generalize n * 2 ^ j = W at *
          cases s <;> cases t <;> simp [sg] at h <;> omega
        have hn : n = 0 := by
          rcases Nat.eq_zero_or_pos n with h | h
          · exact h
          · have := @pos_val n j h; omega
        exact ⟨s, t, wd_zeroN hs h0, wd_zeroN ht hn⟩
      · left
        have hp := @pos_val m k (by omega)
        have hst : s = t ∧ m * 2 ^ k = n * 2 ^ j := by
          generalize m * 2 ^ k = V at *
          generalize n * 2 ^ j = W at *
          cases s <;> cases t <;> simp [sg] at h ⊢ <;> omega
        obtain ⟨rfl, hv⟩ := hst
        obtain ⟨rfl, rfl⟩ := sc_unique hs ht (by omega) hv
        rfl
    · exfalso
      simp only [ord, Go.FloatKind.format, order_wd_wi hs hk] at h
      cases t <;> cases h
    · exact absurd hn ny
  · rcases cases_wd hy with ⟨t, n, j, ht, hj, rfl⟩ | ⟨t, rfl⟩ | hn
    · exfalso
      simp only [ord, Go.FloatKind.format, order_wi_wd ht hj] at h
      cases s <;> cases h
    · left
      simp only [ord, Go.FloatKind.format, order_wi_wi] at h
      cases s <;> cases t <;> first | rfl | cases h
    · exact absurd hn ny
  · exact absurd hn nx
end Go.Proofs.YtjacgamgjjpllaaGreatDoor

/- Whether two memories are the same, as mathematics. Helper text: no statement is claimed here. -/
namespace Go.Proofs.YtjacgamgjjpllaaGreatDoor
open Go.ChangeShapes Go.WideShapes Go.ChangeAt Go.RowKit Fl

/-- Whether two real numbers are one. -/
def sv (x y : Nat) : Bool := (x == y) || ((Ieee.double.read x).isNaN && (Ieee.double.read y).isNaN)
theorem sv_iff {x y : Nat} : sv x y = true ↔ SameV x y := by
  simp only [sv, Bool.or_eq_true, beq_iff_eq, Bool.and_eq_true]
  exact Iff.rfl
theorem sv_yes {x y : Nat} (h : SameV x y) : sv x y = true := sv_iff.2 h
theorem sv_no {x y : Nat} (h : ¬ SameV x y) : sv x y = false := by
  rw [Bool.eq_false_iff]
  exact fun h' => h (sv_iff.1 h')

/-- Whether the real numbers of two memories are the same. -/
def sameR (m n : Mm) : Bool := (List.range 16).all fun i => sv (m.r i) (n.r i)
theorem sameR_no {m n : Mm} {j : Nat} (hj : j < 16) (h : sv (m.r j) (n.r j) = false) : sameR m n = false := by
  rw [Bool.eq_false_iff]
  intro ha
  rw [sameR, List.all_eq_true] at ha
  rw [ha j (List.mem_range.2 hj)] at h
  cases h
theorem sameR_yes {m n : Mm} (h : ∀ j, j < 16 → sv (m.r j) (n.r j) = true) : sameR m n = true := by
  rw [sameR, List.all_eq_true]
  exact fun j hj => h j (List.mem_range.1 hj)
/-- Whether two memories are the same. -/
def sameM (m n : Mm) : Bool := ((m.x : Int) == (n.x : Int)) && (((m.y : Int) == (n.y : Int)) && (((m.m : Int) == (n.m : Int)) && (((m.s : Int) == (n.s : Int)) && (((m.e : Int) == (n.e : Int)) && (sameT m n && (sameC m n && (sameD m n && (sameR m n && (((m.time : Int) == (n.time : Int)) && ((m.ran == n.ran) && ((m.fault == n.fault))))))))))))
end Go.Proofs.YtjacgamgjjpllaaGreatDoor

/- One text, one memory: plain mathematics of words. Helper text: no statement is claimed here. -/
namespace Go.Proofs.YtjacgamgjjpllaaGreatDoor
open Go.ChangeShapes Go.WideShapes Go.ChangeAt Go.RowKit Fl

/-! Joins of words without a blank. -/
/-- A word: it is not empty and holds no blank. -/
def Wd (t : List UInt8) : Prop := t ≠ [] ∧ (32 : UInt8) ∉ t
theorem blk_inj : ∀ {a b : List (List UInt8)}, (∀ t ∈ a, Wd t) → (∀ t ∈ b, Wd t) → blk a = blk b → a = b
  | [], [], _, _, _ => rfl
  | [], y :: l, _, _, h => by
    exfalso
    rw [blk_nil] at h
    have := congrArg List.length h
    simp [blk] at this
  | x :: l, [], _, _, h => by
    exfalso
    rw [blk_nil] at h
    have := congrArg List.length h
    simp [blk] at this
  | x :: l, y :: r, ha, hb, h => by
    have e1 : blk (x :: l) = x ++ 32 :: blk l := by simp [blk]
    have e2 : blk (y :: r) = y ++ 32 :: blk r := by simp [blk]
    rw [e1, e2] at h
    obtain ⟨rfl, h2⟩ := first_of (ha x (List.mem_cons_self ..)).2 (hb y (List.mem_cons_self ..)).2 h
    rw [blk_inj (fun t ht => ha t (List.mem_cons_of_mem _ ht)) (fun t ht => hb t (List.mem_cons_of_mem _ ht)) h2]
theorem join_nil_iff {a : List (List UInt8)} (ha : ∀ t ∈ a, Wd t) : Lib.join a [32] = [] ↔ a = [] := by
  constructor
  · intro h
    cases a with
    | nil => rfl
    | cons x l =>
      exfalso
      have h1 := join_blk (x :: l) (by simp)
      rw [h] at h1
      have e1 : blk (x :: l) = x ++ 32 :: blk l := by simp [blk]
      rw [e1] at h1
      have h2 := (ha x (List.mem_cons_self ..)).1
      cases x with
      | nil => exact h2 rfl
      | cons c r =>
        have := congrArg List.length h1
        simp at this
  · rintro rfl
    rfl
theorem join_inj {a b : List (List UInt8)} (ha : ∀ t ∈ a, Wd t) (hb : ∀ t ∈ b, Wd t) (h : Lib.join a [32] = Lib.join b [32]) : a = b := by
  by_cases he : a = []
  · have : Lib.join b [32] = [] := by rw [← h, he]; rfl
    rw [he, (join_nil_iff hb).1 this]
  · have hb' : b ≠ [] := fun e => he ((join_nil_iff ha).1 (by rw [h, e]; rfl))
    refine blk_inj ha hb ?_
    rw [← join_blk a he, ← join_blk b hb', h]

/-! Parts of a list that are told apart by their words. -/
theorem filter_all {p : List UInt8 → Bool} {l : List (List UInt8)} (h : ∀ t ∈ l, p t = true) : l.filter p = l := List.filter_eq_self.2 h
theorem filter_none {p : List UInt8 → Bool} {l : List (List UInt8)} (h : ∀ t ∈ l, p t = false) : l.filter p = [] := List.filter_eq_nil_iff.2 fun t ht => by rw [h t ht]; simp
theorem mem_upto {f : Nat → List (List UInt8)} {j : Nat} {t : List UInt8} : t ∈ upto f j ↔ ∃ i, i < j ∧ t ∈ f i := by simp [upto]
/-- A part of places: if the words of a place tell the place, the part says what each place holds. -/
theorem upto_inj {f g : Nat → List (List UInt8)} {j : Nat} (key : List UInt8 → List UInt8) (K : Nat → List UInt8) (hK : ∀ a b, a < j → b < j → K a = K b → a = b)
    (hf : ∀ i, i < j → ∀ t ∈ f i, key t = K i) (hg : ∀ i, i < j → ∀ t ∈ g i, key t = K i) (h : upto f j = upto g j) : ∀ i, i < j → f i = g i := by
  have sel : ∀ {f : Nat → List (List UInt8)} (_ : ∀ i, i < j → ∀ t ∈ f i, key t = K i) (i : Nat) (_ : i < j) (n : Nat) (_ : n ≤ j), (upto f n).filter (fun t => key t == K i) = if i < n then f i else [] := by
    intro f hf i hi n
    induction n with
    | zero => intro _; simp [upto]
    | succ n ih =>
      intro hn
      rw [upto_succ, List.filter_append, ih (by omega)]
      by_cases hin : i = n
      · subst hin
        rw [if_neg (by omega), if_pos (by omega), filter_all fun t ht => by rw [hf i hi t ht]; simp]
        rfl
      · rw [filter_none fun t ht => by
          rw [hf n (by omega) t ht]
          simp only [beq_eq_false_iff_ne, ne_eq]
          exact fun e => hin (hK n i (by omega) hi e).symm, List.append_nil]
        by_cases h2 : i < n
        · rw [if_pos h2, if_pos (by omega)]
        · rw [if_neg h2, if_neg (by omega)]
  intro i hi
  have h1 := sel hf i hi j (Nat.le_refl j)
  have h2 := sel hg i hi j (Nat.le_refl j)
  rw [if_pos hi] at h1 h2
  rw [← h1, ← h2, h]
/-- Parts that are told apart by the first byte of their words. -/
theorem parts_inj : ∀ {A B : List (UInt8 × List (List UInt8))}, A.map (·.1) = B.map (·.1) → (A.map (·.1)).Nodup → (∀ s ∈ A, ∀ t ∈ s.2, t.head? = some s.1) → (∀ s ∈ B, ∀ t ∈ s.2, t.head? = some s.1) → A.flatMap (·.2) = B.flatMap (·.2) → A = B
  | [], [], _, _, _, _, _ => rfl
  | [], y :: r, h, _, _, _, _ => by simp at h
  | x :: l, [], h, _, _, _, _ => by simp at h
  | x :: l, y :: r, h, hn, ha, hb, he => by
    simp only [List.map_cons, List.cons.injEq] at h
    obtain ⟨hxy, hlr⟩ := h
    rw [List.map_cons, List.nodup_cons] at hn
    simp only [List.flatMap_cons] at he
    have key : ∀ {L : List (UInt8 × List (List UInt8))}, x.1 ∉ L.map (·.1) → (∀ s ∈ L, ∀ t ∈ s.2, t.head? = some s.1) → (L.flatMap (·.2)).filter (fun t => t.head? == some x.1) = [] := by
      intro L hx hL
      refine filter_none fun t ht => ?_
      obtain ⟨s, hs, hts⟩ := List.mem_flatMap.1 ht
      rw [hL s hs t hts]
      simp only [beq_eq_false_iff_ne, ne_eq, Option.some.injEq]
      exact fun e => hx (e ▸ List.mem_map_of_mem hs)
    have e1 := congrArg (List.filter fun t => t.head? == some x.1) he
    have hx2 : x.2 = y.2 := by
      rw [List.filter_append, List.filter_append, key hn.1 (fun s hs => ha s (List.mem_cons_of_mem _ hs)), key (hlr ▸ hn.1) (fun s hs => hb s (List.mem_cons_of_mem _ hs)), List.append_nil, List.append_nil,
        filter_all (fun t ht => by rw [ha x (List.mem_cons_self ..) t ht]; simp), filter_all (fun t ht => by rw [hb y (List.mem_cons_self ..) t ht, hxy]; simp)] at e1
      exact e1
    rw [hx2] at he
    have ih := parts_inj hlr hn.2 (fun s hs => ha s (List.mem_cons_of_mem _ hs)) (fun s hs => hb s (List.mem_cons_of_mem _ hs)) (List.append_cancel_left he)
    rw [ih, show x = y from Prod.ext hxy hx2]
end Go.Proofs.YtjacgamgjjpllaaGreatDoor

/- One text, one memory: the words of a memory. Helper text: no statement is claimed here. -/
namespace Go.Proofs.YtjacgamgjjpllaaGreatDoor
open Go.ChangeShapes Go.WideShapes Go.ChangeAt Go.RowKit Fl

theorem itoa_not {c : UInt8} (h1 : isD c = false) (h2 : c ≠ 45) (z : Int) : c ∉ Lib.itoa z := by
  intro hm
  rcases Int.lt_or_le z 0 with h | h
  · obtain ⟨u, hu⟩ : ∃ u : Nat, z = -(u : Int) := ⟨z.natAbs, by omega⟩
    subst hu
    rw [Lib.itoa_neg u (by omega)] at hm
    rcases List.mem_cons.1 hm with h | h
    · exact h2 h
    · rw [digits_all u c h] at h1; cases h1
  · obtain ⟨u, rfl⟩ := Int.eq_ofNat_of_zero_le h
    rw [Lib.itoa_nonneg] at hm
    rw [digits_all u c hm] at h1; cases h1
theorem mkT_not {c x : UInt8} (h : c ≠ x) (b : Bool) : c ∉ mkT b [x] := by cases b <;> simp [mkT, h]
theorem mark_inj {c : UInt8} {a b : List UInt8} {p q : Bool} (ha : c ∉ a) (hb : c ∉ b) (h : a ++ mkT p [c] = b ++ mkT q [c]) : a = b ∧ p = q := by
  cases p <;> cases q <;> simp only [mkT, if_true, Bool.false_eq_true, if_false, List.append_nil] at h
  · exact ⟨h, rfl⟩
  · exact absurd (h ▸ (by simp : c ∈ b ++ [c])) ha
  · exact absurd (h ▸ (by simp : c ∈ a ++ [c])) hb
  · exact ⟨List.append_cancel_right h, rfl⟩
/-- The letter of a kind. -/
def lt (k : Int) : UInt8 := (rL (kz k)).headD 0
theorem rL_lt {k : Int} (h1 : 1 ≤ k) (h2 : k ≤ 10) : rL (kz k) = [lt k] := by
  have : k = 1 ∨ k = 2 ∨ k = 3 ∨ k = 4 ∨ k = 5 ∨ k = 6 ∨ k = 7 ∨ k = 8 ∨ k = 9 ∨ k = 10 := by omega
  rcases this with rfl | rfl | rfl | rfl | rfl | rfl | rfl | rfl | rfl | rfl <;> rfl
theorem lt_big {k : Int} (h1 : 1 ≤ k) (h2 : k ≤ 10) : 65 ≤ (lt k).toNat ∧ (lt k).toNat ≤ 90 := by
  have : k = 1 ∨ k = 2 ∨ k = 3 ∨ k = 4 ∨ k = 5 ∨ k = 6 ∨ k = 7 ∨ k = 8 ∨ k = 9 ∨ k = 10 := by omega
  rcases this with rfl | rfl | rfl | rfl | rfl | rfl | rfl | rfl | rfl | rfl <;> decide
theorem dvT_form {k : Int} (h1 : 1 ≤ k) (h2 : k ≤ 10) (i : Nat) : dvT k i = lt k :: Lib.itoa (i : Int) := by
  unfold dvT; rw [rL_lt h1 h2]; rfl
theorem dvT_not {k : Int} (h1 : 1 ≤ k) (h2 : k ≤ 10) {c : UInt8} (hc : c.toNat < 65) (hd : isD c = false) (h45 : c ≠ 45) (i : Nat) : c ∉ dvT k i := by
  rw [dvT_form h1 h2]
  intro h
  rcases List.mem_cons.1 h with h | h
  · have := lt_big h1 h2
    rw [← h] at this
    omega
  · exact itoa_not hd h45 _ h
theorem dvT_head {k : Int} (h1 : 1 ≤ k) (h2 : k ≤ 10) (i : Nat) (r : List UInt8) : (dvT k i ++ r).head? = some (lt k) := by rw [dvT_form h1 h2]; rfl
theorem dvT_inj {k : Int} {i j : Nat} (h : dvT k i = dvT k j) : i = j := by
  unfold dvT at h
  have := itoa_inj (List.append_cancel_left h)
  omega
/-- What stands ahead of a word's sign of equality. -/
def kd (t : List UInt8) : List UInt8 := t.takeWhile fun c => c != 61
theorem kd_all {a : List UInt8} (h : (61 : UInt8) ∉ a) : kd a = a := by
  have h1 : ∀ c ∈ a, (c != 61) = true := fun c hc => by
    simp only [bne_iff_ne, ne_eq]
    exact fun e => h (e ▸ hc)
  have := List.takeWhile_append_of_pos (l₂ := []) h1
  simpa [kd] using this
theorem kd_eq {a : List UInt8} (h : (61 : UInt8) ∉ a) (r : List UInt8) : kd (a ++ 61 :: r) = a := by
  have h1 : ∀ c ∈ a, (c != 61) = true := fun c hc => by
    simp only [bne_iff_ne, ne_eq]
    exact fun e => h (e ▸ hc)
  unfold kd
  rw [List.takeWhile_append_of_pos h1]
  simp
theorem rlT_not {x : Nat} (hx : x < 2 ^ 64) : (32 : UInt8) ∉ rlT x := by
  have ho : ∀ m k, (32 : UInt8) ∉ oT m k := fun m k h => by
    rw [oT_form] at h
    rcases List.mem_append.1 h with h | h
    · exact itoa_not (by decide) (by decide) _ h
    · rcases List.mem_cons.1 h with h | h
      · exact absurd h (by decide)
      · rcases List.mem_cons.1 h with h | h
        · exact absurd h (by decide)
        · rcases List.mem_cons.1 h with h | h
          · exact absurd h (by decide)
          · exact itoa_not (by decide) (by decide) _ h
  generalize hr : rlT x = t
  have h := rlT_R hx
  rw [hr] at h
  rcases h with ⟨-, rfl⟩ | ⟨-, rfl⟩ | ⟨-, rfl⟩ | ⟨-, rfl⟩ | ⟨-, rfl⟩ | ⟨m, k, a, b, c, -, rfl⟩ | ⟨m, k, a, b, c, -, rfl⟩
  · decide
  · decide
  · decide
  · decide
  · decide
  · exact ho m k
  · intro h
    rcases List.mem_cons.1 h with h | h
    · exact absurd h (by decide)
    · exact ho m k h

/-! What a word of each part looks like. -/
theorem in_bit {m : Mm} {k : Int} {i : Nat} {t : List UInt8} (h : t ∈ bitW m k i) : t = dvT k i := by
  unfold bitW at h
  split at h
  · simpa using h
  · simp at h
theorem in_tm {m : Mm} {i : Nat} {t : List UInt8} (h : t ∈ tmW m i) : t = tmT m i := by
  unfold tmW at h
  split at h
  · simpa using h
  · simp at h
theorem in_cn {m : Mm} {i : Nat} {t : List UInt8} (h : t ∈ cnW m i) : t = cnT m i := by
  unfold cnW at h
  split at h
  · simpa using h
  · simp at h
theorem in_wh {m : Mm} {i : Nat} {t : List UInt8} (h : t ∈ whW m i) : t = whT m i := by
  unfold whW at h
  split at h
  · simp at h
  · simpa using h
theorem in_re {m : Mm} {i : Nat} {t : List UInt8} (h : t ∈ reW m i) : t = reT m i := by
  unfold reW at h
  split at h
  · simp at h
  · simpa using h
theorem wd_dv {k : Int} (h1 : 1 ≤ k) (h2 : k ≤ 10) (i : Nat) {r : List UInt8} (hr : (32 : UInt8) ∉ r) : Wd (dvT k i ++ r) := by
  refine ⟨by rw [dvT_form h1 h2]; simp, fun h => ?_⟩
  rcases List.mem_append.1 h with h | h
  · exact dvT_not h1 h2 (by decide) (by decide) (by decide) i h
  · exact hr h
/-- The parts, with the first byte of their words. -/
def partsM (m : Mm) : List (UInt8 × List (List UInt8)) :=
  [(88, kindW m 0), (89, kindW m 1), (77, kindW m 2), (83, kindW m 3), (69, kindW m 4), (84, upto (tmW m) 16), (67, upto (cnW m) 16), (68, upto (whW m) 32), (82, upto (reW m) 16),
    (116, if 0 < m.time then [timeT m] else []), (114, if m.ran = true then [ranT] else []), (102, if m.fault = true then [faultT] else [])]
theorem words_parts (m : Mm) : wordsM m = (partsM m).flatMap (·.2) := by
  have h5 : bitsW m = kindW m 0 ++ (kindW m 1 ++ (kindW m 2 ++ (kindW m 3 ++ kindW m 4))) := by
    unfold bitsW
    rw [upto_succ, upto_succ, upto_succ, upto_succ, upto_succ, upto_zero]
    simp only [List.nil_append, List.append_assoc]
  simp only [wordsM, h5, numW, endW, partsM, List.flatMap_cons, List.flatMap_nil, List.append_assoc, List.append_nil]
theorem in_kind {m : Mm} {j : Nat} {t : List UInt8} (h : t ∈ kindW m j) : ∃ i, t = dvT ((j : Int) + 1) i := by
  obtain ⟨i, -, hi⟩ := mem_upto.1 h
  exact ⟨i, in_bit hi⟩
theorem kind_head {m : Mm} {j : Nat} (hj : j < 5) {t : List UInt8} (h : t ∈ kindW m j) : t.head? = some (lt ((j : Int) + 1)) := by
  obtain ⟨i, rfl⟩ := in_kind h
  have := dvT_head (k := (j : Int) + 1) (by omega) (by omega) i []
  rwa [List.append_nil] at this
theorem parts_head (m : Mm) : ∀ s ∈ partsM m, ∀ t ∈ s.2, t.head? = some s.1 := by
  intro s hs
  simp only [partsM, List.mem_cons, List.not_mem_nil, or_false] at hs
  rcases hs with rfl | rfl | rfl | rfl | rfl | rfl | rfl | rfl | rfl | rfl | rfl | rfl
  · exact fun t h => kind_head (by omega) h
  · exact fun t h => kind_head (by omega) h
  · exact fun t h => kind_head (by omega) h
  · exact fun t h => kind_head (by omega) h
  · exact fun t h => kind_head (by omega) h
  · intro t h
    obtain ⟨i, -, hi⟩ := mem_upto.1 h
    rw [in_tm hi]
    exact dvT_head (k := 7) (by omega) (by omega) i _
  · intro t h
    obtain ⟨i, -, hi⟩ := mem_upto.1 h
    rw [in_cn hi]
    exact dvT_head (k := 8) (by omega) (by omega) i _
  · intro t h
    obtain ⟨i, -, hi⟩ := mem_upto.1 h
    rw [in_wh hi]
    exact dvT_head (k := 9) (by omega) (by omega) i _
  · intro t h
    obtain ⟨i, -, hi⟩ := mem_upto.1 h
    rw [in_re hi]
    exact dvT_head (k := 10) (by omega) (by omega) i _
  · intro t h
    simp only at h
    split at h
    · obtain rfl : t = timeT m := by simpa using h
      rfl
    · simp at h
  · intro t h
    simp only at h
    split at h
    · obtain rfl : t = ranT := by simpa using h
      rfl
    · simp at h
  · intro t h
    simp only at h
    split at h
    · obtain rfl : t = faultT := by simpa using h
      rfl
    · simp at h
theorem words_wd {m : Mm} (hok : m.Ok) : ∀ t ∈ wordsM m, Wd t := by
  intro t ht
  rw [words_parts] at ht
  obtain ⟨s, hs, hts⟩ := List.mem_flatMap.1 ht
  have hk : ∀ j, j < 5 → t ∈ kindW m j → Wd t := fun j hj h => by
    obtain ⟨i, rfl⟩ := in_kind h
    have := wd_dv (k := (j : Int) + 1) (by omega) (by omega) i (r := []) (by simp)
    rwa [List.append_nil] at this
  have h32 : ∀ z, (32 : UInt8) ∉ Lib.itoa z := itoa_not (by decide) (by decide)
  simp only [partsM, List.mem_cons, List.not_mem_nil, or_false] at hs
  rcases hs with rfl | rfl | rfl | rfl | rfl | rfl | rfl | rfl | rfl | rfl | rfl | rfl
  · exact hk 0 (by omega) hts
  · exact hk 1 (by omega) hts
  · exact hk 2 (by omega) hts
  · exact hk 3 (by omega) hts
  · exact hk 4 (by omega) hts
  · obtain ⟨i, -, hi⟩ := mem_upto.1 hts
    rw [in_tm hi]
    refine wd_dv (by omega) (by omega) i ?_
    simp only [List.mem_append, List.mem_singleton, not_or]
    exact ⟨⟨by decide, h32 _⟩, mkT_not (by decide) _⟩
  · obtain ⟨i, -, hi⟩ := mem_upto.1 hts
    rw [in_cn hi]
    refine wd_dv (by omega) (by omega) i ?_
    simp only [List.mem_append, List.mem_singleton, not_or]
    exact ⟨⟨⟨by decide, h32 _⟩, mkT_not (by decide) _⟩, mkT_not (by decide) _⟩
  · obtain ⟨i, -, hi⟩ := mem_upto.1 hts
    rw [in_wh hi]
    refine wd_dv (by omega) (by omega) i ?_
    simp only [List.mem_append, List.mem_singleton, not_or]
    exact ⟨by decide, h32 _⟩
  · obtain ⟨i, -, hi⟩ := mem_upto.1 hts
    rw [in_re hi]
    refine wd_dv (by omega) (by omega) i ?_
    simp only [List.mem_append, List.mem_singleton, not_or]
    exact ⟨by decide, rlT_not (hok.hr i)⟩
  · simp only at hts
    split at hts
    · obtain rfl : t = timeT m := by simpa using hts
      refine ⟨by simp [timeT], ?_⟩
      simp only [timeT, List.mem_append, not_or]
      exact ⟨by decide, h32 _⟩
    · simp at hts
  · simp only at hts
    split at hts
    · obtain rfl : t = ranT := by simpa using hts
      exact ⟨by decide, by decide⟩
    · simp at hts
  · simp only at hts
    split at hts
    · obtain rfl : t = faultT := by simpa using hts
      exact ⟨by decide, by decide⟩
    · simp at hts
/-- From one text: the parts are the same. -/
theorem parts_of_text {m n : Mm} (hm : m.Ok) (hn : n.Ok) (h : memT m = memT n) : partsM m = partsM n := by
  have hw : wordsM m = wordsM n := join_inj (words_wd hm) (words_wd hn) h
  rw [words_parts, words_parts] at hw
  exact parts_inj rfl (show ([88, 89, 77, 83, 69, 84, 67, 68, 82, 116, 114, 102] : List UInt8).Nodup by decide) (parts_head m) (parts_head n) hw
end Go.Proofs.YtjacgamgjjpllaaGreatDoor
