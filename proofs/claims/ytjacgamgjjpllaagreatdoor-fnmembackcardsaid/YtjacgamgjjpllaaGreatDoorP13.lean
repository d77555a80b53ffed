/- The name and the value of a word, and what is enough for a step of a reading. Helper text: no statement is claimed here. -/
import Derived.Test.YtjacgamgjjpllaaGreatDoorP12
import Derived.Lib.Split
import Derived.Lib.Strings
namespace Go.Proofs.YtjacgamgjjpllaaGreatDoor
open Go.ChangeShapes Go.WideShapes Go.ChangeAt Go.RowKit Fl

/-- A word cut at its first sign of equality. -/
def Cutd (t nm vl : List UInt8) : Prop := (61 : UInt8) ∉ nm ∧ ((t = nm ∧ vl = []) ∨ t = nm ++ 61 :: vl)
theorem Cutd.bare {t nm vl : List UInt8} (h : Cutd t nm vl) (ht : (61 : UInt8) ∉ t) : nm = t ∧ vl = [] := by
  rcases h.2 with ⟨e, hv⟩ | e
  · exact ⟨e.symm, hv⟩
  · exact absurd (show (61 : UInt8) ∈ t by rw [e]; simp) ht
theorem Cutd.at_ {t nm vl a r : List UInt8} (h : Cutd t nm vl) (ha : (61 : UInt8) ∉ a) (ht : t = a ++ 61 :: r) : nm = a ∧ vl = r := by
  have h1 := kd_eq ha r
  rw [← ht] at h1
  rcases h.2 with ⟨e, hv⟩ | e
  · exact absurd (show (61 : UInt8) ∈ nm by rw [← e, ht]; simp) h.1
  · have h2 := kd_eq h.1 vl
    rw [← e] at h2
    have e1 : nm = a := h2.symm.trans h1
    subst e1
    rw [e] at ht
    exact ⟨rfl, (List.cons.inj (List.append_cancel_left ht)).2⟩
/-- How many devices a kind of numbers has. -/
def nsz (k : Int) : Nat := if k = 9 then 32 else 16
/-- What a value makes of a device of numbers. -/
structure VRes (m : Mm) (k : Int) (i : Nat) (t : List UInt8) (m' : Mm) : Prop where
  timer : k = 7 → ∀ (c : Nat) (d : Bool), c < 65536 → t = Lib.itoa (c : Int) ++ mkT d [33] → m' = m.setT i d c
  count : k = 8 → ∀ (c : Nat) (d l : Bool), c < 65536 → t = Lib.itoa (c : Int) ++ mkT d [33] ++ mkT l [43] → m' = m.setC i d l c
  whole : k = 9 → ∀ v : Int, -32768 ≤ v → v ≤ 32767 → t = Lib.itoa v → m' = m.setD i v
  real : k = 10 → ∀ x : Nat, x < 2 ^ 64 → t = rlT x → ∃ y, rlT y = rlT x ∧ m' = m.setR i y
def timeN : List UInt8 := [116, 105, 109, 101]
theorem dv_no {k : Int} (h1 : 1 ≤ k) (h2 : k ≤ 10) (i : Nat) : (61 : UInt8) ∉ dvT k i := dvT_not h1 h2 (by decide) (by decide) (by decide) i
/-- What is enough for a step. -/
theorem res_cut {m : Mm} {t nm vl : List UInt8} {m' : Mm} (hc : Cutd t nm vl) (hran : t = ranT → m' = m.setRan) (hfault : t = faultT → m' = m.setFault) (htime : ∀ n : Nat, n < 2 ^ 32 → nm = timeN → t = nm ++ 61 :: vl → vl = Lib.itoa (n : Int) → m' = m.setTime n)
    (hbit : ∀ (k : Int) (i : Nat), 1 ≤ k → k ≤ 5 → (i : Int) < rN (kz k) → t = dvT k i → nm = dvT k i → m' = m.turn k (i : Int) true)
    (hval : ∀ (k : Int) (i : Nat), 7 ≤ k → k ≤ 10 → (i : Int) < rN (kz k) → t = nm ++ 61 :: vl → nm = dvT k i → VRes m k i vl m') (hnone : t = [] → m' = m) : Res m t m' := by
  have eqv : ∀ (k : Int) (i : Nat) (r : List UInt8), 1 ≤ k → k ≤ 10 → t = dvT k i ++ 61 :: r → nm = dvT k i ∧ vl = r ∧ t = nm ++ 61 :: vl := fun k i r h1 h2 e => by
    obtain ⟨e1, e2⟩ := hc.at_ (dv_no h1 h2 i) e
    exact ⟨e1, e2, by rw [e1, e2]; exact e⟩
  refine ⟨hran, hfault, fun n hn e => ?_, fun j i hj hi e => ?_, fun i c d hi hcc e => ?_, fun i c d l hi hcc e => ?_, fun i v hi h1 h2 e => ?_, fun i x hi hx e => ?_, hnone⟩
  · obtain ⟨e1, e2⟩ := hc.at_ (a := timeN) (r := Lib.itoa (n : Int)) (by decide) e
    exact htime n hn e1 (by rw [e1, e2]; exact e) e2
  · obtain ⟨e1, -⟩ := hc.bare (by rw [e]; exact dv_no (by omega) (by omega) i)
    refine hbit _ i (by omega) (by omega) ?_ e (e1.trans e)
    unfold bits5 at hi
    omega
  · obtain ⟨e1, e2, e3⟩ := eqv 7 i (Lib.itoa (c : Int) ++ mkT d [33]) (by omega) (by omega) (by rw [e]; simp)
    exact (hval 7 i (by omega) (by omega) (by rw [show rN (kz 7) = 16 from rfl]; omega) e3 e1).timer rfl c d hcc e2
  · obtain ⟨e1, e2, e3⟩ := eqv 8 i (Lib.itoa (c : Int) ++ mkT d [33] ++ mkT l [43]) (by omega) (by omega) (by rw [e]; simp)
    exact (hval 8 i (by omega) (by omega) (by rw [show rN (kz 8) = 16 from rfl]; omega) e3 e1).count rfl c d l hcc e2
  · obtain ⟨e1, e2, e3⟩ := eqv 9 i (Lib.itoa v) (by omega) (by omega) (by rw [e]; simp)
    exact (hval 9 i (by omega) (by omega) (by rw [show rN (kz 9) = 32 from rfl]; omega) e3 e1).whole rfl v h1 h2 e2
  · obtain ⟨e1, e2, e3⟩ := eqv 10 i (rlT x) (by omega) (by omega) (by rw [e]; simp)
    exact (hval 10 i (by omega) (by omega) (by rw [show rN (kz 10) = 16 from rfl]; omega) e3 e1).real rfl x hx e2
/-- The text of a device is read as that device. -/
theorem rd_dv {k : Int} (h1 : 1 ≤ k) (h2 : k ≤ 10) {i : Nat} (hi : (i : Int) < rN (kz k)) {k' n' p' : Int} {b' : Bool} (h : RdOk (dvT k i) k' n' p' b') : k' = k ∧ n' = (i : Int) ∧ p' = 0 ∧ b' = true := by
  have hok : okB k (i : Int) 0 = true := by
    rw [okB_dev k _ 0 (by omega) (by omega) (by omega)]
    simp; omega
  have ht : txt k (i : Int) 0 = dvT k i := by
    unfold txt
    rw [if_pos hok, if_neg (by omega), if_neg (by omega), if_neg (by omega)]
    rfl
  rcases h with ⟨hb, -, -, h3⟩ | ⟨-, -, -, -, h4⟩
  · obtain ⟨a, b, c⟩ := h3 _ _ _ hok ht
    exact ⟨a, b, c, hb⟩
  · exact absurd ht (h4 _ _ _ hok)
theorem rd_range {t : List UInt8} {k n p : Int} {b : Bool} (h : RdOk t k n p b) (h1 : 7 ≤ k) (h2 : k ≤ 10) : 0 ≤ n ∧ n < rN (kz k) := by
  rcases h with ⟨-, hok, -, -⟩ | ⟨-, hk, -, -, -⟩
  · rw [okB_dev k _ p (by omega) (by omega) (by omega)] at hok
    simp at hok
    exact ⟨hok.1, hok.2.1⟩
  · omega
/-- The width of what is put. -/
theorem upd_all {α : Type} {P : α → Prop} {f : Nat → α} {i : Nat} {v : α} (h1 : P v) (h2 : ∀ j, P (f j)) (j : Nat) : P (upd f i v j) := by
  unfold upd
  split
  · exact h1
  · exact h2 j
theorem setT_ok {m : Mm} (h : m.Ok) (i : Nat) (d : Bool) {c : Nat} (hc : c < 65536) : (m.setT i d c).Ok :=
  ⟨h.hx, h.hy, h.hm, h.hs, h.he, upd_all (P := fun c => c < 65536) hc h.htc, h.hcc, h.hd, h.hr, h.htime⟩
theorem setC_ok {m : Mm} (h : m.Ok) (i : Nat) (d l : Bool) {c : Nat} (hc : c < 65536) : (m.setC i d l c).Ok :=
  ⟨h.hx, h.hy, h.hm, h.hs, h.he, h.htc, upd_all (P := fun c => c < 65536) hc h.hcc, h.hd, h.hr, h.htime⟩
theorem setD_ok {m : Mm} (h : m.Ok) (i : Nat) {v : Int} (h1 : -32768 ≤ v) (h2 : v ≤ 32767) : (m.setD i v).Ok :=
  ⟨h.hx, h.hy, h.hm, h.hs, h.he, h.htc, h.hcc, upd_all (P := fun v => -32768 ≤ v ∧ v ≤ 32767) ⟨h1, h2⟩ h.hd, h.hr, h.htime⟩
theorem setR_ok {m : Mm} (h : m.Ok) (i : Nat) {x : Nat} (hx : x < 2 ^ 64) : (m.setR i x).Ok :=
  ⟨h.hx, h.hy, h.hm, h.hs, h.he, h.htc, h.hcc, h.hd, upd_all (P := fun x => x < 2 ^ 64) hx h.hr, h.htime⟩
theorem setTime_ok {m : Mm} (h : m.Ok) {n : Nat} (hn : n < 2 ^ 32) : (m.setTime n).Ok := ⟨h.hx, h.hy, h.hm, h.hs, h.he, h.htc, h.hcc, h.hd, h.hr, hn⟩
theorem setRan_ok {m : Mm} (h : m.Ok) : m.setRan.Ok := ⟨h.hx, h.hy, h.hm, h.hs, h.he, h.htc, h.hcc, h.hd, h.hr, h.htime⟩
theorem setFault_ok {m : Mm} (h : m.Ok) : m.setFault.Ok := ⟨h.hx, h.hy, h.hm, h.hs, h.he, h.htc, h.hcc, h.hd, h.hr, h.htime⟩
/-- The cells of what is put. -/
def tmC (d : Bool) (c : Int) (i : Nat) : Value := if i = 0 then .bool d else .int .u16 c
def cnC (d l : Bool) (c : Int) (i : Nat) : Value := if i = 0 then .bool d else if i = 1 then .bool l else .int .u16 c
theorem cell_ext {m n : Mm} {i : Nat} (hx : m.x = n.x) (hy : m.y = n.y) (hm : m.m = n.m) (hs : m.s = n.s) (he : m.e = n.e) (ht : 5 ≤ i → i < 37 → m.tcell (i - 5) = n.tcell (i - 5)) (hc : 37 ≤ i → i < 85 → m.ccell (i - 37) = n.ccell (i - 37)) (hd : 85 ≤ i → i < 117 → m.dcell (i - 85) = n.dcell (i - 85)) (hr : 117 ≤ i → i < 133 → m.rcell (i - 117) = n.rcell (i - 117))
    (h11 : i = 133 → m.time = n.time) (h12 : i = 134 → m.ran = n.ran) (h13 : 134 < i → m.fault = n.fault) : m.cell i = n.cell i := by
  unfold Mm.cell
  rw [hx, hy, hm, hs, he]
  by_cases h5 : i < 5
  · rw [if_pos h5, if_pos h5]
  · rw [if_neg h5, if_neg h5]
    by_cases h37 : i < 37
    · rw [if_pos h37, if_pos h37, ht (by omega) h37]
    · rw [if_neg h37, if_neg h37]
      by_cases h85 : i < 85
      · rw [if_pos h85, if_pos h85, hc (by omega) h85]
      · rw [if_neg h85, if_neg h85]
        by_cases h117 : i < 117
        · rw [if_pos h117, if_pos h117, hd (by omega) h117]
        · rw [if_neg h117, if_neg h117]
          by_cases h133 : i < 133
          · rw [if_pos h133, if_pos h133, hr (by omega) h133]
          · rw [if_neg h133, if_neg h133]
            by_cases e1 : i = 133
            · rw [if_pos e1, if_pos e1, h11 e1]
            · rw [if_neg e1, if_neg e1]
              by_cases e2 : i = 134
              · rw [if_pos e2, if_pos e2, h12 e2]
              · rw [if_neg e2, if_neg e2, h13 (by omega)]
theorem setT_cell (m : Mm) {k : Nat} (hk : k < 16) (d : Bool) (c : Nat) (i : Nat) (_hi : i < 136) : (m.setT k d c).cell i = if 5 + k * 2 ≤ i ∧ i < 5 + k * 2 + 2 then tmC d (c : Int) (i - (5 + k * 2)) else m.cell i := by
  by_cases hin : 5 + k * 2 ≤ i ∧ i < 5 + k * 2 + 2
  · rw [if_pos hin]
    have : i = 5 + k * 2 ∨ i = 5 + k * 2 + 1 := by omega
    rcases this with rfl | rfl
    · rw [Mm.cell_t _ (by omega), Mm.tcell_d, Nat.sub_self]
      show Value.bool (upd m.td k d k) = _
      rw [upd_at]; rfl
    · rw [Nat.add_assoc, Mm.cell_t _ (by omega), Mm.tcell_c, show 5 + (k * 2 + 1) - (5 + k * 2) = 1 by omega]
      show Value.int .u16 (upd m.tc k c k : Nat) = _
      rw [upd_at]; rfl
  · rw [if_neg hin]
    refine cell_ext rfl rfl rfl rfl rfl (fun h1 h2 => ?_) (fun _ _ => rfl) (fun _ _ => rfl) (fun _ _ => rfl) (fun _ => rfl) (fun _ => rfl) (fun _ => rfl)
    have hne : (i - 5) / 2 ≠ k := by omega
    unfold Mm.tcell
    show (if (i - 5) % 2 = 0 then Value.bool (upd m.td k d ((i - 5) / 2)) else Value.int .u16 (upd m.tc k c ((i - 5) / 2) : Nat)) = _
    rw [upd_far _ _ hne, upd_far _ _ hne]
theorem setC_cell (m : Mm) {k : Nat} (hk : k < 16) (d l : Bool) (c : Nat) (i : Nat) (_hi : i < 136) : (m.setC k d l c).cell i = if 37 + k * 3 ≤ i ∧ i < 37 + k * 3 + 3 then cnC d l (c : Int) (i - (37 + k * 3)) else m.cell i := by
  by_cases hin : 37 + k * 3 ≤ i ∧ i < 37 + k * 3 + 3
  · rw [if_pos hin]
    have : i = 37 + k * 3 ∨ i = 37 + k * 3 + 1 ∨ i = 37 + k * 3 + 2 := by omega
    rcases this with rfl | rfl | rfl
    · rw [Mm.cell_c _ (by omega), Mm.ccell_d, Nat.sub_self]
      show Value.bool (upd m.cd k d k) = _
      rw [upd_at]; rfl
    · rw [Nat.add_assoc, Mm.cell_c _ (by omega), Mm.ccell_l, show 37 + (k * 3 + 1) - (37 + k * 3) = 1 by omega]
      show Value.bool (upd m.cl k l k) = _
      rw [upd_at]; rfl
    · rw [Nat.add_assoc, Mm.cell_c _ (by omega), Mm.ccell_c, show 37 + (k * 3 + 2) - (37 + k * 3) = 2 by omega]
      show Value.int .u16 (upd m.cc k c k : Nat) = _
      rw [upd_at]; rfl
  · rw [if_neg hin]
    refine cell_ext rfl rfl rfl rfl rfl (fun _ _ => rfl) (fun h1 h2 => ?_) (fun _ _ => rfl) (fun _ _ => rfl) (fun _ => rfl) (fun _ => rfl) (fun _ => rfl)
    have hne : (i - 37) / 3 ≠ k := by omega
    unfold Mm.ccell
    show (if (i - 37) % 3 = 0 then Value.bool (upd m.cd k d ((i - 37) / 3)) else if (i - 37) % 3 = 1 then Value.bool (upd m.cl k l ((i - 37) / 3)) else Value.int .u16 (upd m.cc k c ((i - 37) / 3) : Nat)) = _
    rw [upd_far _ _ hne, upd_far _ _ hne, upd_far _ _ hne]
theorem setD_cell (m : Mm) {k : Nat} (_hk : k < 32) (v : Int) (i : Nat) (_hi : i < 136) : (if i = 85 + k then Value.int .i16 v else m.cell i) = (m.setD k v).cell i := by
  by_cases hi : i = 85 + k
  · subst hi
    rw [if_pos rfl, Mm.cell_d _ (by omega)]
    show _ = Value.int .i16 (upd m.d k v k)
    rw [upd_at]
  · rw [if_neg hi]
    refine cell_ext rfl rfl rfl rfl rfl (fun _ _ => rfl) (fun _ _ => rfl) (fun h1 h2 => ?_) (fun _ _ => rfl) (fun _ => rfl) (fun _ => rfl) (fun _ => rfl)
    show Value.int .i16 (m.d (i - 85)) = Value.int .i16 (upd m.d k v (i - 85))
    rw [upd_far _ _ (by omega)]
theorem setR_cell (m : Mm) {k : Nat} (_hk : k < 16) (v : Nat) (i : Nat) (_hi : i < 136) : (if i = 117 + k then Value.float .f64 v else m.cell i) = (m.setR k v).cell i := by
  by_cases hi : i = 117 + k
  · subst hi
    rw [if_pos rfl, Mm.cell_r _ (by omega)]
    show _ = Value.float .f64 (upd m.r k v k)
    rw [upd_at]
  · rw [if_neg hi]
    refine cell_ext rfl rfl rfl rfl rfl (fun _ _ => rfl) (fun _ _ => rfl) (fun _ _ => rfl) (fun h1 h2 => ?_) (fun _ => rfl) (fun _ => rfl) (fun _ => rfl)
    show Value.float .f64 (m.r (i - 117)) = Value.float .f64 (upd m.r k v (i - 117))
    rw [upd_far _ _ (by omega)]
theorem setTime_cell (m : Mm) (n : Nat) (i : Nat) (_hi : i < 136) : (if i = 133 then Value.int .u32 (n : Int) else m.cell i) = (m.setTime n).cell i := by
  by_cases hi : i = 133
  · subst hi; rfl
  · rw [if_neg hi]
    exact cell_ext rfl rfl rfl rfl rfl (fun _ _ => rfl) (fun _ _ => rfl) (fun _ _ => rfl) (fun _ _ => rfl) (fun h => absurd h hi) (fun _ => rfl) (fun _ => rfl)
theorem setRan_cell (m : Mm) (i : Nat) (_hi : i < 136) : (if i = 134 then Value.bool true else m.cell i) = m.setRan.cell i := by
  by_cases hi : i = 134
  · subst hi; rfl
  · rw [if_neg hi]
    exact cell_ext rfl rfl rfl rfl rfl (fun _ _ => rfl) (fun _ _ => rfl) (fun _ _ => rfl) (fun _ _ => rfl) (fun _ => rfl) (fun h => absurd h hi) (fun _ => rfl)
theorem setFault_cell (m : Mm) (i : Nat) (_hi : i < 136) : (if i = 135 then Value.bool true else m.cell i) = m.setFault.cell i := by
  by_cases hi : i = 135
  · subst hi; rfl
  · rw [if_neg hi]
    exact cell_ext rfl rfl rfl rfl rfl (fun _ _ => rfl) (fun _ _ => rfl) (fun _ _ => rfl) (fun _ _ => rfl) (fun _ => rfl) (fun _ => rfl) (fun h => absurd (show i = 135 by omega) hi)
theorem putR_set (m : Mm) {i : Nat} (hi : i < 16) (v : Nat) : m.putR 10 (i : Int) v = m.setR i v := by
  have hp : (plc 10 (i : Int)).toNat = i := by
    unfold plc sz4
    rw [if_neg (show ¬ (10 : Int) = 6 by omega), show rN (kz 10) = 16 from rfl, if_neg (by omega), Int.emod_eq_of_lt (by omega) (by omega)]
    omega
  unfold Mm.putR Mm.setR upd
  rw [if_pos rfl, hp]
end Go.Proofs.YtjacgamgjjpllaaGreatDoor

/- Cutting, splitting and reading numerals, as the library does it: plain mathematics. Helper text: no statement is claimed here. -/
namespace Go.Proofs.YtjacgamgjjpllaaGreatDoor
open Go.ChangeShapes Go.WideShapes Go.ChangeAt Go.RowKit Fl

theorem occ_one {s : List UInt8} {c : UInt8} {i : Nat} (h : Lib.occAt s [c] i = true) : s[i]? = some c := Lib.occAt_head rfl h
theorem occ_at {s : List UInt8} {c : UInt8} {i : Nat} (h : s[i]? = some c) : Lib.occAt s [c] i = true := by
  have hi : i < s.length := (List.getElem?_eq_some_iff.1 h).1
  rw [Lib.occAt_iff_take s [c] i (by simp; omega)]
  have e : s.drop i = c :: s.drop (i + 1) := by
    rw [List.drop_eq_getElem_cons hi]
    congr 1
    rw [List.getElem?_eq_getElem hi] at h
    exact Option.some.inj h
  rw [e]
  simp
theorem index_no {s : List UInt8} {c : UInt8} (h : c ∉ s) : Lib.index s [c] = -1 := Lib.index_none fun j _ => by
  by_cases ho : Lib.occAt s [c] j = true
  · exact absurd (List.mem_of_getElem? (occ_one ho)) h
  · simpa using ho
theorem index_at {a r : List UInt8} {c : UInt8} (h : c ∉ a) : Lib.index (a ++ c :: r) [c] = (a.length : Int) := by
  refine Lib.index_first (by simp) (occ_at (by simp)) fun j hj => ?_
  by_cases ho : Lib.occAt (a ++ c :: r) [c] j = true
  · have := occ_one ho
    rw [List.getElem?_append_left hj] at this
    exact absurd (List.mem_of_getElem? this) h
  · simpa using ho
/-- What stands ahead of the first sign, and behind it. -/
theorem first_parts (s : List UInt8) (c : UInt8) : c ∉ s ∨ ∃ a r, s = a ++ c :: r ∧ c ∉ a := by
  induction s with
  | nil => exact .inl (by simp)
  | cons x s ih =>
    by_cases hx : x = c
    · exact .inr ⟨[], s, by simp [hx], by simp⟩
    · rcases ih with h | ⟨a, r, h, hn⟩
      · exact .inl (by simp [h, Ne.symm hx])
      · exact .inr ⟨x :: a, r, by simp [h], by simp [hn, Ne.symm hx]⟩
theorem cut_cutd (t : List UInt8) : Cutd t (Lib.cut t [61]).1 (Lib.cut t [61]).2.1 := by
  rcases first_parts t 61 with h | ⟨a, r, rfl, hn⟩
  · unfold Lib.cut
    rw [index_no h, if_neg (by omega)]
    exact ⟨h, .inl ⟨rfl, rfl⟩⟩
  · unfold Lib.cut
    rw [index_at hn, if_pos (by omega)]
    have e1 : (a ++ 61 :: r).take ((a.length : Int)).toNat = a := by simp
    have e2 : (a ++ 61 :: r).drop (((a.length : Int)).toNat + [(61 : UInt8)].length) = r := by simp
    rw [e1, e2]
    exact ⟨hn, .inr rfl⟩
theorem cut_len (t : List UInt8) : (Lib.cut t [61]).1.length ≤ t.length ∧ (Lib.cut t [61]).2.1.length ≤ t.length := by
  unfold Lib.cut
  split
  · exact ⟨by simp; omega, by simp⟩
  · exact ⟨Nat.le_refl _, by simp⟩
/-- A suffix of one byte. -/
theorem suffix_one (l : List UInt8) (c : UInt8) : Lib.hasSuffix l [c] = (tailL c l).2 ∧ Lib.trimSuffix l [c] = (tailL c l).1 := by
  have hs : Lib.hasSuffix l [c] = (tailL c l).2 := by
    unfold Lib.hasSuffix tailL
    by_cases h : l.getLast? = some c
    · rw [if_pos h]
      obtain ⟨l', rfl⟩ := List.getLast?_eq_some_iff.1 h
      show List.isSuffixOf [c] (l' ++ [c]) = true
      rw [List.isSuffixOf_iff_suffix]
      exact ⟨l', rfl⟩
    · rw [if_neg h]
      show List.isSuffixOf [c] l = false
      rw [Bool.eq_false_iff]
      intro e
      rw [List.isSuffixOf_iff_suffix] at e
      obtain ⟨l', rfl⟩ := e
      exact h (by simp)
  refine ⟨hs, ?_⟩
  unfold Lib.trimSuffix
  rw [hs]
  unfold tailL
  by_cases h : l.getLast? = some c
  · rw [if_pos h, if_pos rfl, List.dropLast_eq_take]
    rfl
  · rw [if_neg h, if_neg (by simp)]
/-- A numeral of a count. -/
theorem uint_itoa {B n : Nat} (hB : B ≤ 64) (hn : n < 2 ^ B) : Lib.parseUintB B (Lib.itoa (n : Int)) = .ok n := by
  have h64 : 2 ^ B ≤ 18446744073709551616 := Nat.pow_le_pow_right (n := 2) (by omega) hB
  rw [Lib.itoa_nonneg]
  unfold Lib.parseUintB
  rw [if_neg (digits_ne n), parseU _ _ _ (digits_all n) (by rw [fold_digits]; omega) (by omega), fold_digits]
theorem uintM_le : ∀ (l : List UInt8) (M acc : Nat) {n : Nat}, acc ≤ M → Lib.parseUintM M acc l = .ok n → n ≤ M
  | [], M, acc, n, h, e => by cases e; exact h
  | c :: r, M, acc, n, h, e => by
    unfold Lib.parseUintM at e
    split at e
    · split at e
      · cases e
      · split at e
        · cases e
        · exact uintM_le r M _ (by omega) e
    · cases e
theorem uint_le {B : Nat} {l : List UInt8} {n : Nat} (h : Lib.parseUintB B l = .ok n) : n ≤ 2 ^ B - 1 := by
  unfold Lib.parseUintB at h
  split at h
  · cases h
  · exact uintM_le _ _ _ (Nat.zero_le _) h
theorem int16_itoa {z : Int} (h1 : -32768 ≤ z) (h2 : z ≤ 32767) : Lib.parseIntB 16 (Lib.itoa z) = .ok z := by
  have hM : (2 ^ 16 - 1 : Nat) = 65535 := rfl
  have h63 : (2 ^ (16 - 1) : Nat) = 32768 := rfl
  rcases Int.lt_or_le z 0 with hz | hz
  · obtain ⟨u, hu⟩ : ∃ u : Nat, z = -(u : Int) := ⟨z.natAbs, by omega⟩
    subst hu
    rw [Lib.itoa_neg u (by omega)]
    have hp : Lib.parseUintB 16 (Lib.decDigits u) = .ok u := by
      unfold Lib.parseUintB
      rw [if_neg (digits_ne u), hM, parseU _ _ _ (digits_all u) (by rw [fold_digits]; omega) (by omega), fold_digits]
    simp only [Lib.parseIntB]
    have e45 : (45 : UInt8).toNat = 45 := rfl
    simp only [e45, or_true, if_true, hp, h63]
    rw [if_neg (fun h => h.1 trivial), if_neg (by omega)]
  · obtain ⟨u, rfl⟩ := Int.eq_ofNat_of_zero_le hz
    rw [Lib.itoa_nonneg]
    obtain ⟨c, r, hd, c1, c2⟩ := digits_first u
    have hp : Lib.parseUintB 16 (Lib.decDigits u) = .ok u := by
      unfold Lib.parseUintB
      rw [if_neg (digits_ne u), hM, parseU _ _ _ (digits_all u) (by rw [fold_digits]; omega) (by omega), fold_digits]
    rw [hd] at hp ⊢
    simp only [Lib.parseIntB]
    rw [if_neg (show ¬ (c.toNat = 43 ∨ c.toNat = 45) by omega), hp]
    simp only [h63]
    rw [if_neg (by omega), if_neg (by omega), if_neg (by omega)]
/-- A text cut at its blanks: the words that were joined. -/
theorem count_no {s : List UInt8} {c : UInt8} (h : c ∉ s) : Lib.count s [c] = 0 := by
  unfold Lib.count Lib.countFrom
  rw [index_no h]; rfl
theorem countFrom_more (c : UInt8) : ∀ (n : Nat) (s : List UInt8) (k : Nat), s.length < n → Lib.countFrom [c] (n + k) s = Lib.countFrom [c] n s
  | 0, s, k, h => by omega
  | n + 1, s, k, h => by
    rw [show n + 1 + k = n + k + 1 by omega]
    unfold Lib.countFrom
    by_cases hi : (Lib.index s [c] == -1) = true
    · rw [if_pos hi, if_pos hi]
    · have hne : 0 < s.length := by
        rcases Nat.eq_zero_or_pos s.length with h0 | h0
        · rw [List.length_eq_zero_iff.1 h0, index_no (by simp)] at hi
          exact absurd rfl hi
        · exact h0
      rw [if_neg hi, if_neg hi, countFrom_more c n _ k (by simp; omega)]
theorem count_at {a r : List UInt8} {c : UInt8} (h : c ∉ a) : Lib.count (a ++ c :: r) [c] = 1 + Lib.count r [c] := by
  have hl : (a ++ c :: r).length = a.length + r.length + 1 := by rw [List.length_append, List.length_cons, Nat.add_assoc]
  have e : Lib.count (a ++ c :: r) [c] = 1 + Lib.countFrom [c] (a.length + r.length + 1) r := by
    unfold Lib.count
    rw [hl]
    rw [show Lib.countFrom [c] (a.length + r.length + 1 + 1) (a ++ c :: r) = if Lib.index (a ++ c :: r) [c] == -1 then 0 else 1 + Lib.countFrom [c] (a.length + r.length + 1) ((a ++ c :: r).drop ((Lib.index (a ++ c :: r) [c]).toNat + [c].length)) from rfl, index_at h]
    rw [if_neg (by intro h; have := beq_iff_eq.1 h; omega)]
    congr 2
    simp
  rw [e]
  unfold Lib.count
  have := countFrom_more c (r.length + 1) r a.length (by omega)
  rw [show r.length + 1 + a.length = a.length + r.length + 1 by omega] at this
  rw [this]
theorem split_no {s : List UInt8} {c : UInt8} (h : c ∉ s) : Lib.split s [c] = [s] := by
  unfold Lib.split
  rw [count_no h]; rfl
theorem split_hit {a r : List UInt8} {c : UInt8} (h : c ∉ a) : Lib.split (a ++ c :: r) [c] = a :: Lib.split r [c] := by
  unfold Lib.split
  rw [count_at h, Nat.add_comm]
  rw [show Lib.splitK [c] 0 (Lib.count r [c] + 1) (a ++ c :: r) = if Lib.index (a ++ c :: r) [c] == -1 then [a ++ c :: r] else (a ++ c :: r).take ((Lib.index (a ++ c :: r) [c]).toNat + 0) :: Lib.splitK [c] 0 (Lib.count r [c]) ((a ++ c :: r).drop ((Lib.index (a ++ c :: r) [c]).toNat + [c].length)) from rfl, index_at h]
  rw [if_neg (by intro h; have := beq_iff_eq.1 h; omega)]
  congr 1
  · simp
  · congr 1
    simp
theorem split_join : ∀ {ws : List (List UInt8)}, ws ≠ [] → (∀ t ∈ ws, (32 : UInt8) ∉ t) → Lib.split (Lib.join ws [32]) [32] = ws
  | [], h, _ => absurd rfl h
  | [t], _, hw => by rw [Lib.join_one, split_no (hw t (by simp))]
  | t :: u :: ws, _, hw => by
    have e : Lib.join (t :: u :: ws) [32] = t ++ 32 :: Lib.join (u :: ws) [32] := by
      rw [Lib.join_cons, Lib.join_cons]
      simp [Lib.joinTail]
    rw [e, split_hit (hw t (by simp)), split_join (by simp) (fun x hx => hw x (by simp [hx]))]
/-- The pieces of the split are no longer than the text. -/
theorem split_short : ∀ (n : Nat) (s : List UInt8) (c : UInt8), s.length ≤ n → ∀ t ∈ Lib.split s [c], t.length ≤ s.length
  | n, s, c, hn, t, ht => by
    rcases first_parts s c with h | ⟨a, r, rfl, h⟩
    · rw [split_no h] at ht
      rw [List.mem_singleton.1 ht]
      exact Nat.le_refl _
    · rw [split_hit h] at ht
      rcases List.mem_cons.1 ht with rfl | ht
      · simp
      · match n, hn with
        | 0, hn => simp at hn
        | n + 1, hn =>
          have := split_short n r c (by simp at hn; omega) t ht
          simp; omega
theorem split_words {m : Mm} (hm : m.Ok) : Lib.split (memT m) [32] = if wordsM m = [] then [[]] else wordsM m := by
  unfold memT
  by_cases h : wordsM m = []
  · rw [if_pos h, h]; rfl
  · rw [if_neg h]
    exact split_join h fun t ht => (words_wd hm t ht).2
theorem split_cutL (c : UInt8) : ∀ (n : Nat) (s : List UInt8), s.length ≤ n → Lib.split s [c] = cutL c s
  | n, s, hn => by
    rcases first_parts s c with h | ⟨a, r, rfl, h⟩
    · rw [split_no h, cutL_none (fun x hx e => h (by rw [← e]; exact hx))]
    · rw [split_hit h, cutL_hit (fun x hx e => h (by rw [← e]; exact hx))]
      match n, hn with
      | 0, hn => simp at hn
      | n + 1, hn => rw [split_cutL c n r (by simp at hn; omega)]
theorem keep_words {m : Mm} (hm : m.Ok) : keepW (cutL 32 (memT m)) = wordsM m := by
  rw [← split_cutL 32 _ _ (Nat.le_refl _), split_words hm]
  by_cases h : wordsM m = []
  · rw [if_pos h, h]; rfl
  · rw [if_neg h]
    exact filter_all fun t ht => by
      have := (words_wd hm t ht).1
      cases t with
      | nil => exact absurd rfl this
      | cons x r => rfl
end Go.Proofs.YtjacgamgjjpllaaGreatDoor

/- What a value makes of a device of numbers: plain mathematics. Helper text: no statement is claimed here. -/
namespace Go.Proofs.YtjacgamgjjpllaaGreatDoor
open Go.ChangeShapes Go.WideShapes Go.ChangeAt Go.RowKit Fl

/-- A number cut to sixteen bits, without and with a sign. -/
def c16 (v : Int) : Nat := (v % 65536).toNat
def d16 (v : Int) : Int := (v + 32768) % 65536 - 32768
theorem c16_lt (v : Int) : c16 v < 65536 := by unfold c16; omega
theorem c16_nat {c : Nat} (h : c < 65536) : c16 (c : Int) = c := by unfold c16; omega
theorem c16_wrap (v : Int) : IntKind.u16.wrap v = (c16 v : Int) := by rw [IntKind.wrap_u16]; unfold c16; omega
theorem d16_in (v : Int) : -32768 ≤ d16 v ∧ d16 v ≤ 32767 := by unfold d16; omega
theorem d16_self {v : Int} (h1 : -32768 ≤ v) (h2 : v ≤ 32767) : d16 v = v := by unfold d16; omega
theorem d16_wrap (v : Int) : IntKind.i16.wrap v = d16 v := by
  unfold d16
  simp [IntKind.wrap, IntKind.bits, IntKind.signed]
  split <;> omega
def numM (m : Mm) (k : Int) (i : Nat) (d l : Bool) (v : Int) : Mm := if k = 7 then m.setT i d (c16 v) else if k = 8 then m.setC i d l (c16 v) else if k = 9 then m.setD i (d16 v) else m
theorem numM_ok {m : Mm} (h : m.Ok) (k : Int) (i : Nat) (d l : Bool) (v : Int) : (numM m k i d l v).Ok := by
  unfold numM
  split
  · exact setT_ok h i d (c16_lt v)
  · split
    · exact setC_ok h i d l (c16_lt v)
    · split
      · exact setD_ok h i (d16_in v).1 (d16_in v).2
      · exact h
theorem numR_itoa {z v : Int} {b : Bool} (hz : z.natAbs < 10 ^ 17) (h : NumR (Lib.itoa z) v b) : b = true ∧ v = z := by
  rcases h with ⟨hb, e, -⟩ | ⟨-, -, h⟩
  · exact ⟨hb, (itoa_inj e).symm⟩
  · exact absurd rfl (h z hz)
theorem marks_parts (z : Int) (d l : Bool) : tailL 43 (Lib.itoa z ++ mkT d [33] ++ mkT l [43]) = (Lib.itoa z ++ mkT d [33], l) ∧ tailL 33 (Lib.itoa z ++ mkT d [33]) = (Lib.itoa z, d) := by
  refine ⟨tailL_mk ?_ l, tailL_mk (itoa_not (by decide) (by decide) z) d⟩
  intro h
  rcases List.mem_append.1 h with h | h
  · exact itoa_not (by decide) (by decide) z h
  · exact mkT_not (by decide) d h
theorem marks_one (z : Int) (d : Bool) : tailL 43 (Lib.itoa z ++ mkT d [33]) = (Lib.itoa z ++ mkT d [33], false) := by
  have := (marks_parts z d false).1
  rwa [show mkT false [43] = [] from rfl, List.append_nil] at this
theorem marks_none (z : Int) : tailL 43 (Lib.itoa z) = (Lib.itoa z, false) ∧ tailL 33 (Lib.itoa z) = (Lib.itoa z, false) := by
  have h1 := marks_one z false
  have h2 := (marks_parts z false false).2
  rw [show mkT false [33] = [] from rfl, List.append_nil] at h1 h2
  exact ⟨h1, h2⟩
theorem vres_yes {m : Mm} {k : Int} {i : Nat} {t : List UInt8} {v : Int} (h10 : k ≠ 10) (hN : NumR (tailL 33 (tailL 43 t).1).1 v true) : VRes m k i t (numM m k i (tailL 33 (tailL 43 t).1).2 (tailL 43 t).2 v) := by
  refine ⟨fun hk c d hc e => ?_, fun hk c d l hc e => ?_, fun hk z h1 h2 e => ?_, fun hk => absurd hk h10⟩
  · rw [e, marks_one, (marks_parts _ d false).2] at hN ⊢
    obtain ⟨-, rfl⟩ := numR_itoa (z := (c : Int)) (by omega) hN
    unfold numM
    rw [if_pos hk, c16_nat hc]
  · rw [e, (marks_parts _ d l).1, (marks_parts _ d l).2] at hN ⊢
    obtain ⟨-, rfl⟩ := numR_itoa (z := (c : Int)) (by omega) hN
    unfold numM
    rw [if_neg (by omega), if_pos hk, c16_nat hc]
  · rw [e, (marks_none _).1, (marks_none _).2] at hN ⊢
    obtain ⟨-, rfl⟩ := numR_itoa (by omega) hN
    unfold numM
    rw [if_neg (by omega), if_neg (by omega), if_pos hk, d16_self h1 h2]
theorem vres_no {m : Mm} {k : Int} {i : Nat} {t : List UInt8} {v : Int} {b : Bool} (h10 : k ≠ 10) (hN : NumR (tailL 33 (tailL 43 t).1).1 v b) (h : b = false ∨ v < -32768 ∨ 65535 < v) : VRes m k i t m := by
  refine ⟨fun hk c d hc e => ?_, fun hk c d l hc e => ?_, fun hk z h1 h2 e => ?_, fun hk => absurd hk h10⟩
  · rw [e, marks_one, (marks_parts _ d false).2] at hN
    obtain ⟨rfl, rfl⟩ := numR_itoa (z := (c : Int)) (by omega) hN
    rcases h with h | h
    · cases h
    · omega
  · rw [e, (marks_parts _ d l).1, (marks_parts _ d l).2] at hN
    obtain ⟨rfl, rfl⟩ := numR_itoa (z := (c : Int)) (by omega) hN
    rcases h with h | h
    · cases h
    · omega
  · rw [e, (marks_none _).1, (marks_none _).2] at hN
    obtain ⟨rfl, rfl⟩ := numR_itoa (by omega) hN
    rcases h with h | h
    · cases h
    · omega
theorem vres_real {m : Mm} {i : Nat} {t : List UInt8} {x : Nat} {b : Bool} (h : RdR t x b) : VRes m 10 i t (m.setR i x) := by
  refine ⟨fun hk => absurd hk (by decide), fun hk => absurd hk (by decide), fun hk => absurd hk (by decide), fun _ y hy e => ?_⟩
  refine ⟨x, ?_, rfl⟩
  have hT := rlT_R hy
  rw [← e] at hT
  rcases h.2 with ⟨-, h1⟩ | ⟨-, -, h1⟩
  · rw [← rlT_is h1, e]
  · exact absurd hT (h1 y)
/-- The program's: a timer and a counter. -/
theorem vres_timer {m : Mm} {i : Nat} {t : List UInt8} {n : Nat} (h : ∀ c : Nat, c < 65536 → (tailL 33 t).1 = Lib.itoa (c : Int) → n = c) : VRes m 7 i t (m.setT i (tailL 33 t).2 n) := by
  refine ⟨fun _ c d hc e => ?_, fun hk => absurd hk (by decide), fun hk => absurd hk (by decide), fun hk => absurd hk (by decide)⟩
  have e2 := (marks_parts (c : Int) d false).2
  rw [← e] at e2
  rw [h c hc (by rw [e2]), e2]
theorem vres_count {m : Mm} {i : Nat} {t : List UInt8} {n : Nat} (h : ∀ c : Nat, c < 65536 → (tailL 33 (tailL 43 t).1).1 = Lib.itoa (c : Int) → n = c) : VRes m 8 i t (m.setC i (tailL 33 (tailL 43 t).1).2 (tailL 43 t).2 n) := by
  refine ⟨fun hk => absurd hk (by decide), fun _ c d l hc e => ?_, fun hk => absurd hk (by decide), fun hk => absurd hk (by decide)⟩
  have e1 := (marks_parts (c : Int) d l).1
  have e2 := (marks_parts (c : Int) d l).2
  rw [← e] at e1
  rw [e1] at h ⊢
  rw [e2] at h ⊢
  rw [h c hc rfl]
theorem vres_whole {m : Mm} {i : Nat} {t : List UInt8} {v : Int} (h : ∀ z : Int, -32768 ≤ z → z ≤ 32767 → t = Lib.itoa z → v = z) : VRes m 9 i t (m.setD i v) := by
  refine ⟨fun hk => absurd hk (by decide), fun hk => absurd hk (by decide), fun _ z h1 h2 e => ?_, fun hk => absurd hk (by decide)⟩
  rw [h z h1 h2 e]
end Go.Proofs.YtjacgamgjjpllaaGreatDoor
