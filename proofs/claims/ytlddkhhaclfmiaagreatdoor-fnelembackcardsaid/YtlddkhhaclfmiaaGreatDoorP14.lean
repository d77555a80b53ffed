/- Cutting a text at the places of another: plain mathematics. Helper text: no statement is claimed here. -/
import Derived.Lib.IndexMore
import Derived.Lib.Join
import Derived.Test.YtlddkhhaclfmiaaGreatDoorP11
import Derived.Test.YtlddkhhaclfmiaaGreatDoorPh
import Derived.RangeFuncBox
import Derived.RangeFuncLeaves
import Derived.Test.YtlddkhhaclfmiaaGreatDoorShelf
import Derived.Shelf.Strings.Search3
import Derived.RangeFuncNested
import Derived.RangeFuncCalls
import Derived.Shelf.Abstract
import Derived.WalkKit
import Derived.OwnWalkIn
import Derived.TacticsInMore
import Derived.LoopNIn
import Derived.LoopIn
import Derived.Test.YtlddkhhaclfmiaaGreatDoorP04
namespace Go.Proofs.YtlddkhhaclfmiaaGreatDoor

theorem occ_free {a r sep l : List UInt8} {c : UInt8} (hs : sep = c :: l) (ha : ∀ x ∈ a, x ≠ c) {j : Nat} (hj : j < a.length) : Lib.occAt (a ++ r) sep j = false := by
  subst hs
  unfold Lib.occAt
  rw [List.drop_append_of_le_length (by omega), List.drop_eq_getElem_cons hj, List.cons_append, List.isPrefixOf_cons_cons, beq_eq_false_iff_ne.2 (Ne.symm (ha a[j] (List.getElem_mem hj)))]
  rfl
theorem index_after {a r sep l : List UInt8} {c : UInt8} (hs : sep = c :: l) (ha : ∀ x ∈ a, x ≠ c) : Lib.index (a ++ (sep ++ r)) sep = (a.length : Int) :=
  Lib.index_first (by simp) (by simp [Lib.occAt]) (fun j hj => occ_free hs ha hj)
theorem index_free {a sep l : List UInt8} {c : UInt8} (hs : sep = c :: l) (ha : ∀ x ∈ a, x ≠ c) : Lib.index a sep = -1 := by
  refine Lib.index_none fun j hj => ?_
  rcases Nat.lt_or_eq_of_le hj with h | rfl
  · have := occ_free (r := []) hs ha h
    simpa using this
  · subst hs
    simp [Lib.occAt]
theorem index_parts {s sep : List UInt8} {i : Nat} (h : Lib.index s sep = (i : Int)) : s = s.take i ++ (sep ++ s.drop (i + sep.length)) ∧ i + sep.length ≤ s.length := by
  have hr := Lib.index_room s sep (by omega)
  rcases Lib.index_spec s sep with ⟨h1, -⟩ | ⟨i', h1, -, h3, -⟩
  · omega
  · obtain rfl : i' = i := by omega
    obtain ⟨r, e⟩ := List.isPrefixOf_iff_prefix.1 h3
    have e2 : s.drop (i' + sep.length) = r := by rw [← List.drop_drop, ← e]; simp
    refine ⟨?_, by omega⟩
    rw [e2, e]; exact (List.take_append_drop _ _).symm
theorem index_is (s sep : List UInt8) : Lib.index s sep = -1 ∨ ∃ i : Nat, Lib.index s sep = (i : Int) := by
  have := Lib.index_ge s sep
  by_cases h : Lib.index s sep = -1
  · exact .inl h
  · exact .inr ⟨(Lib.index s sep).toNat, by omega⟩

/-- The pieces of a text between the places of sep. -/
def pcs (sep : List UInt8) : Nat → List UInt8 → List (List UInt8)
  | 0, s => [s]
  | k + 1, s => if Lib.index s sep = -1 then [s] else s.take (Lib.index s sep).toNat :: pcs sep k (s.drop ((Lib.index s sep).toNat + sep.length))
theorem pcs_miss {sep s : List UInt8} {k : Nat} (h : Lib.index s sep = -1) : pcs sep k s = [s] := by cases k <;> simp [pcs, h]
theorem pcs_hit {sep s : List UInt8} {k i : Nat} (h : Lib.index s sep = (i : Int)) : pcs sep (k + 1) s = s.take i :: pcs sep k (s.drop (i + sep.length)) := by
  have : ¬ ((i : Int) = -1) := by omega
  simp [pcs, h, this]
theorem pcs_ne (sep s : List UInt8) (k : Nat) : pcs sep k s ≠ [] := by
  cases k with
  | zero => simp [pcs]
  | succ k => unfold pcs; split <;> simp
theorem pcs_short (sep : List UInt8) : ∀ (k : Nat) (s p : List UInt8), p ∈ pcs sep k s → p.length ≤ s.length
  | 0, s, p, h => by simp [pcs] at h; simp [h]
  | k + 1, s, p, h => by
    rcases index_is s sep with e | ⟨i, e⟩
    · rw [pcs_miss e] at h; simp at h; simp [h]
    · rw [pcs_hit e] at h
      rcases List.mem_cons.1 h with rfl | h
      · simp; omega
      · have := pcs_short sep k _ p h
        simp at this; omega
theorem jj_one (sep x : List UInt8) : Lib.join [x] sep = x := by simp [Lib.join]
theorem jj_two (sep x : List UInt8) {l : List (List UInt8)} (h : l ≠ []) : Lib.join (x :: l) sep = x ++ (sep ++ Lib.join l sep) := by
  obtain ⟨y, l, rfl⟩ := List.exists_cons_of_ne_nil h
  simp [Lib.join, List.intercalate]
/-- Joined again they are the text. -/
theorem join_pcs (sep : List UInt8) : ∀ (k : Nat) (s : List UInt8), Lib.join (pcs sep k s) sep = s
  | 0, s => jj_one sep s
  | k + 1, s => by
    rcases index_is s sep with e | ⟨i, e⟩
    · rw [pcs_miss e, jj_one]
    · rw [pcs_hit e, jj_two sep _ (pcs_ne _ _ _), join_pcs sep k]
      exact (index_parts e).1.symm
/-- The pieces of a join whose parts bear no first byte of sep. -/
theorem pcs_join {sep l : List UInt8} {c : UInt8} (hs : sep = c :: l) : ∀ {ws : List (List UInt8)} {k : Nat}, ws ≠ [] → (∀ t ∈ ws, ∀ x ∈ t, x ≠ c) → (Lib.join ws sep).length ≤ k → pcs sep k (Lib.join ws sep) = ws
  | [], _, h, _, _ => absurd rfl h
  | [t], _, _, hw, _ => by rw [jj_one]; exact pcs_miss (index_free hs (hw t (by simp)))
  | t :: u :: ws, 0, _, _, hk => by
    rw [jj_two sep t (by simp)] at hk
    rw [hs] at hk
    simp at hk
  | t :: u :: ws, k + 1, _, hw, hk => by
    rw [jj_two sep t (by simp)] at hk ⊢
    rw [pcs_hit (index_after hs (hw t (by simp)))]
    have hd : (t ++ (sep ++ Lib.join (u :: ws) sep)).drop (t.length + sep.length) = Lib.join (u :: ws) sep := by
      rw [← List.append_assoc, ← List.length_append]; simp
    have hl : (Lib.join (u :: ws) sep).length ≤ k := by
      rw [hs] at hk ⊢
      simp at hk; omega
    rw [hd, pcs_join hs (by simp) (fun x hx => hw x (by simp [hx])) hl]
    simp
/-- The pieces of the whole text. -/
def prts (sep s : List UInt8) : List (List UInt8) := pcs sep s.length s
/-- Between two rounds: what has come, and the rest. -/
structure Cutg (sep t : List UInt8) (pre : List (List UInt8)) (r : List UInt8) : Prop where
  whole : ∃ k, r.length ≤ k ∧ pre ++ pcs sep k r = prts sep t
theorem Cutg.start (sep t : List UInt8) : Cutg sep t [] t := ⟨t.length, Nat.le_refl _, rfl⟩
theorem Cutg.last {sep t r : List UInt8} {pre : List (List UInt8)} (h : Cutg sep t pre r) (e : Lib.index r sep = -1) : pre ++ [r] = prts sep t := by
  obtain ⟨k, -, h⟩ := h
  rwa [pcs_miss e] at h
theorem Cutg.hit {sep t r : List UInt8} {pre : List (List UInt8)} {i : Nat} (h : Cutg sep t pre r) (hs : sep ≠ []) (e : Lib.index r sep = (i : Int)) : Cutg sep t (pre ++ [r.take i]) (r.drop (i + sep.length)) := by
  obtain ⟨k, hk, h⟩ := h
  have hr := (index_parts e).2
  have hs' : 0 < sep.length := List.length_pos_iff.2 hs
  obtain ⟨k, rfl⟩ : ∃ m, k = m + 1 := ⟨k - 1, by omega⟩
  rw [pcs_hit e] at h
  exact ⟨k, by simp; omega, by simpa using h⟩
theorem Cutg.part {sep t r : List UInt8} {pre : List (List UInt8)} {i : Nat} (h : Cutg sep t pre r) (hs : sep ≠ []) (e : Lib.index r sep = (i : Int)) : (pre ++ [r.take i]) <+: prts sep t := by
  obtain ⟨k, -, h2⟩ := h.hit hs e
  exact ⟨_, h2⟩
theorem prts_short {sep t p : List UInt8} (h : p ∈ prts sep t) : p.length ≤ t.length := pcs_short sep _ t p h
end Go.Proofs.YtlddkhhaclfmiaaGreatDoor

/- Which operands a text of a row bears: plain mathematics. Helper text: no statement is claimed here. -/
namespace Go.Proofs.YtlddkhhaclfmiaaGreatDoor
open Go.RowKit

theorem bt_free (i : Nat) : ∃ c l, bt i = c :: l ∧ tame c = false := by
  unfold bt
  split
  · exact ⟨44, [], rfl, by decide⟩
  · split
    · rename_i h
      have hb := ts_bd i
      have : ts i = 1 ∨ ts i = 2 ∨ ts i = 3 ∨ ts i = 4 ∨ ts i = 5 ∨ ts i = 6 := by omega
      rcases this with e | e | e | e | e | e <;> rw [e] <;> exact ⟨_, _, rfl, by decide⟩
    · exact ⟨58, [], rfl, by decide⟩
theorem bt_ne (i : Nat) : bt i ≠ [] := by
  obtain ⟨c, l, e, -⟩ := bt_free i
  rw [e]; simp
/-- A text of operands is cut into the texts of its operands. -/
theorem prts_args {i : Nat} {ys : List Ar} (h : okA i ys = true) : prts (bt i) (Lib.join (ys.map tx) (bt i)) = ys.map tx := by
  obtain ⟨c, l, e, hc⟩ := bt_free i
  refine pcs_join e (by simpa using okA_ne h) (fun t ht => ?_) (Nat.le_refl _)
  obtain ⟨a, ha, rfl⟩ := List.mem_map.1 ht
  exact tx_not (okA_all h a ha) hc
theorem args_part {i : Nat} {rest p : List UInt8} (hp : p ∈ prts (bt i) rest) {k n q : Int} (hr : RdOk p k n q false) : ∀ ys, okA i ys = true → rest ≠ Lib.join (ys.map tx) (bt i) := by
  rintro ys h rfl
  rw [prts_args h] at hp
  obtain ⟨a, ha, rfl⟩ := List.mem_map.1 hp
  rcases hr with ⟨e, -⟩ | ⟨-, -, -, -, h4⟩
  · cases e
  · exact h4 _ _ _ (okA_all h a ha) rfl
theorem args_other {i : Nat} {rest : List UInt8} {ys : List Ar} (hr : ReadsAs (prts (bt i) rest) ys) (hl : ys.length = (prts (bt i) rest).length) (hn : okA i ys = false) : ∀ ys, okA i ys = true → rest ≠ Lib.join (ys.map tx) (bt i) := by
  rintro ys0 h rfl
  rw [prts_args h] at hr hl
  rw [reads_eq (okA_all h) hr (by simpa using hl), h] at hn
  cases hn
theorem args_whole {i : Nat} {rest : List UInt8} {ys : List Ar} (e : prts (bt i) rest = ys.map tx) : rest = Lib.join (ys.map tx) (bt i) := by
  rw [← e]; exact (join_pcs (bt i) _ rest).symm
/-- What a reading of a contact or coil ends in. -/
def ReadE (t : List UInt8) (w : World) (e : Ending) (w' : World) : Prop := Below w.heap.size w w' ∧
  ((∃ (op : Int) (ys : List Ar) (g cap : Nat), e = .returned (.tuple #[elemV op (some ⟨g, 0, none⟩) ys.length cap, .bool true]) ∧ okA (ez op) ys = true ∧ t = eT op ys ∧ ARow w' g cap ys ∧ w.heap.size ≤ g) ∨
   (e = .returned (.tuple #[elemV 0 none 0 0, .bool false]) ∧ ∀ op ys, okA (ez op) ys = true → t ≠ eT op ys))
/-- The variable of an answer and whether there is one, handed back. -/
theorem resElemB {fn : Func} {W : World} {b p u : Nat} {tmps : Array Value} {x y v : Value} (h : fn.results = #[.cell p 25, .tmp u]) (hp : tmps.getD p undef = .pointer (some ⟨b, 0, none⟩)) (hu : tmps.getD u undef = v)
    (hc : W.cell? ⟨b, 0, none⟩ = some x ∧ W.cell? ⟨b, 1, none⟩ = some y) : (results fn tmps).run Tryz.prog W = .ok (.tuple #[.agg #[x, y], v]) W := by
  obtain ⟨h0, h1⟩ := hc
  rw [results_cell_tmp h, hp, hu]
  simp [go_sem, h0, h1]
end Go.Proofs.YtlddkhhaclfmiaaGreatDoor

/- The document's ElemRead. Helper text: no statement is claimed here. -/
namespace Go.Proofs.YtlddkhhaclfmiaaGreatDoor
open Go.ChangeShapes Go.WideShapes Go.ChangeAt Go.RowKit

theorem eT_some {op : Int} {ys : List Ar} (h : okA (ez op) ys = true) : eT op ys ≠ [] := by
  unfold eT
  rw [if_pos h]
  obtain ⟨a, l, e⟩ := List.exists_cons_of_ne_nil (okA_ne h)
  have ha := tx_ne (okA_all h a (by rw [e]; simp))
  intro hn
  have hj := (List.append_eq_nil_iff.1 hn).2
  rw [e, List.map_cons] at hj
  by_cases hl : l.map tx = []
  · rw [hl, jj_one] at hj
    exact ha hj
  · rw [jj_two _ _ hl] at hj
    exact ha (List.append_eq_nil_iff.1 hj).1
theorem ok_of_text {op : Int} {ys : List Ar} (h : eT op ys ≠ []) : okA (ez op) ys = true := by
  cases e : okA (ez op) ys
  · exact absurd (by unfold eT; rw [e]; rfl) h
  · rfl

/-- A text is that of one contact or coil at most. -/
def OneE (t : List UInt8) : Prop := ∀ op ys op' ys', okA (ez op) ys = true → t = eT op ys → okA (ez op') ys' = true → t = eT op' ys' → op = op' ∧ ys = ys'
theorem oneE_of {t : List UInt8} {op : Int} {ys : List Ar} (h : EGuess t op ys) : OneE t := fun op1 ys1 op2 ys2 h1 e1 h2 e2 => by
  obtain ⟨rfl, rfl⟩ := h op1 ys1 h1 e1
  exact h op2 ys2 h2 e2
theorem oneE_no {t : List UInt8} (h : ∀ op ys, okA (ez op) ys = true → t ≠ eT op ys) : OneE t := fun op1 ys1 _ _ h1 e1 _ _ => absurd e1 (h op1 ys1 h1)
theorem none_short {s : ByteArray} (h : 100 < s.size) : ∀ op ys, okA (ez op) ys = true → s.data.toList ≠ eT op ys := fun op ys _ e => by
  have h1 := eT_short op ys
  rw [← e] at h1
  simp at h1
  omega
theorem none_empty {s : ByteArray} (h : s.data.toList = []) : ∀ op ys, okA (ez op) ys = true → s.data.toList ≠ eT op ys := fun op ys hk e => eT_some hk (by rw [← e]; exact h)

set_option maxRecDepth 100000 in
set_option maxHeartbeats 2000000 in
theorem sreadE_any (s : ByteArray) (w : World) : Calls Tryz.prog 13 #[.string s] w fun e w' => ReadE s.data.toList w e w' ∧ OneE s.data.toList := by
  have HO : Hid (Own2 (w.alloc (.cells #[.int .i64 0, .slice none 0 0] 25)) w.heap.size (.int .i64 0) (.slice none 0 0)) := Own2.new w _ _
  by_cases hE : s.toList = []
  · have hE' : (s.toList == []) = true := by simp [hE]
    have HE : Hid (s.data.toList = []) := by rw [← ByteArray.toList_eq]; exact hE
    clear hE
    have on := HO.out
    have on2 := on
    obtain ⟨⟨r0, r1⟩, y0, y1⟩ := on2
    go_enter Tryz.func13, Tryz.ntmps13
    go_wp2
    exact bodyPost_ret (v := .tuple #[.agg #[.int .i64 0, .slice none 0 0], .bool false]) (resElemB Tryz.results13 rfl rfl HO.out.1) rfl ⟨⟨one _ _, .inr ⟨rfl, none_empty HE.out⟩⟩, oneE_no (none_empty HE.out)⟩
  · have hE' : (s.toList == []) = false := by simp [hE]
    have HE : Hid (s.data.toList ≠ []) := by rw [← ByteArray.toList_eq]; exact hE
    clear hE
    by_cases hL : 100 < s.size
    · have hL' : (100 : Int) < (s.size : Int) := by omega
      have on := HO.out
      have on2 := on
      obtain ⟨⟨r0, r1⟩, y0, y1⟩ := on2
      go_enter Tryz.func13, Tryz.ntmps13
      go_wp2
      exact bodyPost_ret (v := .tuple #[.agg #[.int .i64 0, .slice none 0 0], .bool false]) (resElemB Tryz.results13 rfl rfl HO.out.1) rfl ⟨⟨one _ _, .inr ⟨rfl, none_short hL⟩⟩, oneE_no (none_short hL)⟩
    · have hL' : ¬ (100 : Int) < (s.size : Int) := by omega
      go_enter Tryz.func13, Tryz.ntmps13
      go_wp2_with fail
      refine (guess_any s _ (by omega)).mono ?_
      rintro e w1 ⟨op, ys, p, cap, rfl, hG, hp, hb1⟩
      have HG : Hid (EGuess s.data.toList op ys) := hG
      have HP : Hid ((p = none ∧ ys = [] ∧ cap = 0) ∨ ∃ g, p = some ⟨g, 0, none⟩ ∧ w.heap.size < g ∧ ARow w1 g cap ys ∧ ys.length ≤ 8) := by
        rcases hp with h | ⟨g, h1, h2, h3⟩
        · exact .inl h
        · exact .inr ⟨g, h1, by simp at h2; omega, h3⟩
      have HA : Hid (ArgsIs w1 p ys ∧ ys.length ≤ cap) := by
        rcases HP.out with ⟨rfl, rfl, rfl⟩ | ⟨g, rfl, -, h3, -⟩
        · exact ⟨.inl rfl, by simp⟩
        · exact ⟨.inr ⟨g, rfl, h3.lt, h3.args⟩, h3.room⟩
      have HB1 : Hid (Below w.heap.size w w1) := of_one hb1
      have HO1 : Hid (Own2 w1 w.heap.size (.int .i64 0) (.slice none 0 0)) := HO.out.below hb1
      have HOe : Hid (Own2 (w1.alloc (.cells #[.int .i64 op, .slice p ys.length cap] 25)) w1.heap.size (.int .i64 op) (.slice p ys.length cap)) := Own2.new w1 _ _
      have hz1 := HO1.out.lt
      clear hG hp hb1 HO
      unfold elemV
      go_wp2_with fail
      refine (selem_any op ys p cap _ (HA.out.1.to (one _ _)) HA.out.2).mono ?_
      rintro e w2 ⟨rfl, hb2⟩
      have HO2 : Hid (Own2 w2 w.heap.size (.int .i64 0) (.slice none 0 0)) := (HO1.out.alloc _).below hb2
      have HOe2 : Hid (Own2 w2 w1.heap.size (.int .i64 op) (.slice p ys.length cap)) := HOe.out.below hb2
      have HB2 : Hid (Below w.heap.size w w2) := (HB1.out.alloc HB1.out.size _).trans (hb2.mono (by simp; omega))
      have HBw : Hid (Below w1.heap.size w1 w2) := of_one hb2
      have on2 := HO2.out
      obtain ⟨⟨r0, r1⟩, y0, y1⟩ := on2
      have on3 := HOe2.out
      obtain ⟨⟨e0, e1⟩, -, -⟩ := on3
      clear hb2
      by_cases hT : eT op ys = s.toList
      · have hT' : (eT op ys == s.toList) = true := by simp [hT]
        have HT : Hid (eT op ys = s.data.toList) := by rw [← ByteArray.toList_eq]; exact hT
        clear hT
        have HK : Hid (okA (ez op) ys = true) := ok_of_text (by rw [HT.out]; exact HE.out)
        rcases HP.out with ⟨-, h, -⟩ | ⟨g, rfl, hg, hrow, -⟩
        · exact absurd h (okA_ne HK.out)
        have HR : Hid (ARow w2 g cap ys) := hrow.to HBw.out
        clear hrow
        go_wp2
        exact bodyPost_ret (v := .tuple #[.agg #[.int .i64 op, .slice (some ⟨g, 0, none⟩) ys.length cap], .bool true]) (resElemB Tryz.results13 rfl rfl (HO2.out.put _ _).1) rfl ⟨⟨(HB2.out.setCell (p := ⟨w.heap.size, 0, none⟩) (Nat.le_refl _) _).setCell (p := ⟨w.heap.size, 1, none⟩) (Nat.le_refl _) _, .inl ⟨op, ys, g, cap, rfl, HK.out, HT.out.symm, (HR.out.set (Nat.ne_of_gt hg)).set (Nat.ne_of_gt hg), Nat.le_of_lt hg⟩⟩, oneE_of HG.out⟩
      · have hT' : (eT op ys == s.toList) = false := by simp [hT]
        have HT : Hid (eT op ys ≠ s.data.toList) := by rw [← ByteArray.toList_eq]; exact hT
        clear hT
        go_wp2
        refine bodyPost_ret (v := .tuple #[.agg #[.int .i64 0, .slice none 0 0], .bool false]) (resElemB Tryz.results13 rfl rfl (HO2.out.put _ _).1) rfl ⟨⟨(HB2.out.setCell (p := ⟨w.heap.size, 0, none⟩) (Nat.le_refl _) _).setCell (p := ⟨w.heap.size, 1, none⟩) (Nat.le_refl _) _, .inr ⟨rfl, fun op0 ys0 hk e => ?_⟩⟩, oneE_of HG.out⟩
        obtain ⟨rfl, rfl⟩ := HG.out op0 ys0 hk e
        exact HT.out e.symm
end Go.Proofs.YtlddkhhaclfmiaaGreatDoor

/- A range over a function whose iterator keeps what is left in a block of its own: one step of the walk. Helper text: no statement is claimed here. -/
namespace Go.Proofs.YtlddkhhaclfmiaaGreatDoor
open Go.RowKit

/-- What facts of a loop must bear: new blocks, a turn of the iterator's own block b, a turn of a block from N on that holds no cells. -/
def Bears {β : Type} (N b : Nat) (I : β → World → Prop) : Prop :=
  ∀ s W W' row, I s W → W.grownBy W' row → (∀ r, row = some r → r = b ∨ (N ≤ r ∧ ∃ o : Obj, W.heap[r]? = some o ∧ o.isCells = false)) → I s W'
theorem Bears.obj {β : Type} {N b : Nat} {I : β → World → Prop} (h : Bears N b I) {s : β} {V : World} {o : Obj} (o' : Obj) (h1 : I s V) (h2 : V.heap[N + 1]? = some o) (h3 : o.isCells = false) : I s (V.putObj (N + 1) o') :=
  h s V _ (some (N + 1)) h1 (grownBy_putObj' V (N + 1) o') (fun r e => by cases e; exact .inr ⟨by omega, o, h2, h3⟩)
/-- What lies below n and in the blocks cb stays. -/
structure Stays (n : Nat) (cb : List Nat) (W W' : World) : Prop where
  below : Below n W W'
  own : ∀ c ∈ cb, W'.heap[c]? = W.heap[c]?
theorem Stays.refl (n : Nat) (cb : List Nat) (W : World) : Stays n cb W W := ⟨Below.refl _ _, fun _ _ => rfl⟩
theorem Stays.trans {n : Nat} {cb : List Nat} {A B C : World} (h : Stays n cb A B) (k : Stays n cb B C) : Stays n cb A C := ⟨h.below.trans k.below, fun c hc => (k.own c hc).trans (h.own c hc)⟩
theorem Stays.obj {n N l : Nat} {cb : List Nat} {W : World} {o : Obj} (o' : Obj) (hn : n ≤ N) (hc : ∀ c ∈ cb, c < N) (hl : N ≤ l) (h : W.heap[l]? = some o) : Stays n cb W (W.putObj l o') :=
  ⟨(Below.refl n W).grown (grownBy_putObj' W l o') (by have := (Array.getElem?_eq_some_iff.1 h).1; omega) (fun k e => by cases e; omega),
    fun c h1 => World.putObj_heap_other (by have := hc c h1; omega)⟩

/-- What a function over which is ranged does, whatever the loop's body: its rounds are those of S, or one of them said that no more are wanted. Its own block is b. -/
def Cuts {α : Type} (F : Fence) (n : Nat) (P : Program) (gf : Nat) (lb : Array Value) (enc : α → Value) (n₀ b : Nat) (cb : List Nat) (S Sp : List α → Prop) (w : World) : Prop :=
  ∀ (l : Nat) (J Jx : List α → World → Prop) (W : World), Below w.heap.size w W →
    (∀ s A B row, J s A → A.grownBy B row → (∀ r, row = some r → r = b) → J s B) → (∀ s A B row, Jx s A → A.grownBy B row → (∀ r, row = some r → r = b) → Jx s B) →
    (∀ pre x W1, J pre W1 → Sp (pre ++ [x]) → YieldAt F (n - 1) P l #[enc x] W1 fun e W' =>
      (e = .returned (.bool true) ∧ J (pre ++ [x]) W' ∧ Stays n₀ cb W1 W') ∨ (e = .returned (.bool false) ∧ Jx (pre ++ [x]) W')) →
    J [] W → CallsIn F n P gf (#[.func (.yield l) #[] #[]] ++ lb) W fun e W' => (∃ v, e = .returned v) ∧ ((∃ xs, S xs ∧ J xs W') ∨ (∃ pre, Sp pre ∧ Jx pre W'))

/-- The loop's record. -/
def lrec (fn : FuncId) (tmps : Array Value) (ps : Array Tmp) (assign body : Code) (D : Nat) (st : LoopState) (j : Option Code) : Loop :=
  { state := st, pending := j, fn := fn, tmps := tmps, params := ps, assign := assign, body := body, defers := D }

/-- How a round may be left: by its end, or by a return. -/
def roundEnd {α : Type} (N n₀ : Nat) (cb : List Nat) (I Ix : List α → World → Prop) (xs : List α) (W : World) : Exit → Act → World → Prop
  | .normal, _, W' => KeepsFrom N W W' ∧ Stays n₀ cb W W' ∧ I xs W'
  | .ret, _, W' => KeepsFrom N W W' ∧ Ix xs W'
  | _, _, _ => False

section one
variable {F : Fence} {n : Nat} {P : Program} {fn : FuncId} {tmps : Array Value} {ps : Array Tmp} {assign body : Code} {N : Nat}

/-- The two blocks of the loop's book-keeping. -/
structure Book (fn : FuncId) (tmps : Array Value) (ps : Array Tmp) (assign body : Code) (N : Nat) (st : LoopState) (j : Option Code) (W : World) : Prop where
  r : W.heap[N + 1]? = some (.loop (lrec fn tmps ps assign body N st j))
  d : W.heap[N]? = some (.deferred (some []))
theorem Book.grown {st : LoopState} {j : Option Code} {W W' : World} {row : Option Nat} {b : Nat} (h : Book fn tmps ps assign body N st j W) (hg : W.grownBy W' row) (hr : ∀ r, row = some r → r = b) (hb : b < N) : Book fn tmps ps assign body N st j W' :=
  ⟨(hg.block _ (Array.getElem?_eq_some_iff.1 h.r).1 (fun e => by have := hr _ e.symm; omega)).trans h.r, (hg.block _ (Array.getElem?_eq_some_iff.1 h.d).1 (fun e => by have := hr _ e.symm; omega)).trans h.d⟩
theorem Book.from {st : LoopState} {j : Option Code} {W W' : World} (h : Book fn tmps ps assign body N st j W) (hk : KeepsFrom N W W') : Book fn tmps ps assign body N st j W' :=
  ⟨hk.same _ _ (by omega) h.r rfl, hk.same _ _ (Nat.le_refl _) h.d rfl⟩
theorem Book.put {st st' : LoopState} {j j' : Option Code} {W : World} (h : Book fn tmps ps assign body N st j W) : Book fn tmps ps assign body N st' j' (W.putObj (N + 1) (.loop (lrec fn tmps ps assign body N st' j'))) :=
  ⟨World.putObj_heap_same (Array.getElem?_eq_some_iff.1 h.r).1, (World.putObj_heap_other (by omega)).trans h.d⟩

theorem round_of {α : Type} {enc : α → Value} {n₀ b : Nat} {cb : List Nat} (hn : n₀ ≤ N) (hcb : ∀ c ∈ cb, c < N) (hF : F.fn fn) (hp : ps.size = 1) {I Ix : List α → World → Prop} (hI : Bears N b I) (hIx : Bears N b Ix) (a₁ : α → Act) {pre : List α} {x : α}
    (hassign : ∀ (W : World) (K : Act → World → Prop), K (a₁ x) W → assign.wpIn (F.inRound (N + 1)) n P (Exit.then K (fun _ _ _ => False)) { tmps := (ps.zip #[enc x]).foldl (fun t (p, v) => t.setIfInBounds p v) tmps, defers := [] } W)
    (hbody : ∀ (W : World), I pre W → body.wpIn (F.inRound (N + 1)) n P (roundEnd N n₀ cb I Ix (pre ++ [x]) W) (a₁ x) W)
    {W : World} (hi : I pre W) (hk : Book fn tmps ps assign body N .ready none W) :
    YieldAt F n P (N + 1) #[enc x] W fun e W' => (e = .returned (.bool true) ∧ (I (pre ++ [x]) W' ∧ Book fn tmps ps assign body N .ready none W') ∧ Stays n₀ cb W W') ∨ (e = .returned (.bool false) ∧ Ix (pre ++ [x]) W' ∧ Book fn tmps ps assign body N .done (some .ret) W') := by
  refine ⟨fn, _, assign, body, run_yield (P := P) (args := #[enc x]) hk.r hp.symm, roundIn_of_wpIn hF (hassign W _ ⟨_, run_beginRound hk.r rfl, ?_⟩)⟩
  have hk2 : Book fn tmps ps assign body N .busy none (W.putObj (N + 1) (.loop (lrec fn tmps ps assign body N .busy none))) := hk.put
  have st2 : Stays n₀ cb W (W.putObj (N + 1) (.loop (lrec fn tmps ps assign body N .busy none))) := Stays.obj _ hn hcb (by omega) hk.r
  refine wpIn_mono (hbody _ (hI.obj _ hi hk.r rfl)) ?_
  intro e a3 W3 hp3
  cases e with
  | normal =>
    obtain ⟨h1, h2, h3⟩ := hp3
    have hk3 := hk2.from h1
    exact ⟨_, _, run_endRound (P := P) none hk3.r, .inl ⟨rfl, ⟨hI.obj _ h3 hk3.r rfl, hk3.put⟩, (st2.trans h2).trans (Stays.obj _ hn hcb (by omega) hk3.r)⟩⟩
  | ret =>
    obtain ⟨h1, h3⟩ := hp3
    have hk3 := hk2.from h1
    exact ⟨_, _, run_endRound (P := P) (some .ret) hk3.r, .inr ⟨rfl, hIx.obj _ h3 hk3.r rfl, hk3.put⟩⟩
  | exit id => exact hp3.elim
  | goto t => exact hp3.elim
  | panic ch => exact hp3.elim
  | outgrown => exact hp3.elim
end one

/-- A range over such a function. -/
theorem wpIn_cuts {α : Type} {F : Fence} {n : Nat} {P : Program} {g : Operand} {ps : Array Tmp} {assign body : Code} {Q : Exit → Act → World → Prop} {a : Act} {w : World}
    (hro : F.round = none) (h1 : 1 ≤ n) {gf : Nat} {lb : Array Value} (hg : a.eval g = .func (.func gf) #[] lb) (hFg : F.fn gf) (eg : ∀ args w, (callFunc gf args).run P w = .ok (.enter gf args) w)
    {enc : α → Value} {n₀ b : Nat} {cb : List Nat} {S Sp : List α → Prop} (hseq : Cuts F (n - 1) P gf lb enc n₀ b cb S Sp w) (hn : n₀ ≤ w.heap.size) (hcb : ∀ c ∈ cb, c < w.heap.size) (hb : b < w.heap.size) (hp : ps.size = 1)
    (I Ix : List α → World → Prop) (hI : Bears w.heap.size b I) (hIx : Bears w.heap.size b Ix) (h0 : I [] w) (a₁ : α → Act)
    (hassign : ∀ (l : Nat) (x : α) (W : World) (K : Act → World → Prop), K (a₁ x) W → assign.wpIn (F.inRound l) (n - 1 - 1) P (Exit.then K (fun _ _ _ => False)) { tmps := (ps.zip #[enc x]).foldl (fun t (p, v) => t.setIfInBounds p v) a.tmps, defers := [] } W)
    (hbody : ∀ (l : Nat) (pre : List α) (x : α) (W : World), I pre W → Sp (pre ++ [x]) → body.wpIn (F.inRound l) (n - 1 - 1) P (roundEnd w.heap.size n₀ cb I Ix (pre ++ [x]) W) (a₁ x) W)
    (hdone : ∀ (D : Nat) (xs : List α) (W : World), w.heap.size ≤ D → S xs → I xs W → W.heap[D]? = some (.deferred (some [])) → Q .normal { a with defers := { target := .collected D, args := #[] } :: a.defers } W)
    (hstop : ∀ (D : Nat) (pre : List α) (W : World), w.heap.size ≤ D → Sp pre → Ix pre W → W.heap[D]? = some (.deferred (some [])) → Code.ret.wpIn F n P Q { a with defers := { target := .collected D, args := #[] } :: a.defers } W) :
    (Code.rangeFunc g ps assign body).wpIn F n P Q a w := by
  refine wpIn_rangeFunc fun fn hfn => ?_
  rw [hro]
  have hB : Book fn a.tmps ps assign body w.heap.size .ready none ((w.alloc (.deferred (some []))).alloc (.loop (lrec fn a.tmps ps assign body w.heap.size .ready none))) := by
    refine ⟨?_, (Below.heap_alloc _ _ _ (by simp)).trans (World.alloc_heap_new w _)⟩
    have := World.alloc_heap_new (w.alloc (.deferred (some []))) (.loop (lrec fn a.tmps ps assign body w.heap.size .ready none))
    rwa [World.size_alloc] at this
  have hI1 : ∀ {V : World} (o : Obj), I [] V → I [] (V.alloc o) := fun o h => hI _ _ _ none h (World.grownBy_alloc _ o none) (fun r e => by cases e)
  have hIW := hI1 (.loop (lrec fn a.tmps ps assign body w.heap.size .ready none)) (hI1 (.deferred (some [])) h0)
  have hBW : Below w.heap.size w ((w.alloc (.deferred (some []))).alloc (.loop (lrec fn a.tmps ps assign body w.heap.size .ready none))) := ((Below.refl _ w).alloc (Nat.le_refl _) _).alloc (by simp) _
  have hE : (Instr.enterLoop fn a.tmps ps assign body none).run P w = .ok (w.heap.size + 1, [{ target := .collected w.heap.size, args := #[] }]) ((w.alloc (.deferred (some []))).alloc (.loop (lrec fn a.tmps ps assign body w.heap.size .ready none))) := run_enterLoop_outer _ _ _ _ _
  generalize (w.alloc (.deferred (some []))).alloc (.loop (lrec fn a.tmps ps assign body w.heap.size .ready none)) = W1 at *
  refine ⟨w.heap.size + 1, [{ target := .collected w.heap.size, args := #[] }], W1, { target := .fn (.func gf) lb, args := #[.func (.yield (w.heap.size + 1)) #[] #[]] }, W1, gf,
    #[.func (.yield (w.heap.size + 1)) #[] #[]] ++ lb, W1, hE, ?_, ?_, ?_, fun _ => h1, ?_⟩
  · simp only [resolve, hg]
    simp [go_sem]
  · intro f' hf'
    simp [Target.leads] at hf'
    subst hf'; exact hFg
  · simp [invoke, go_sem, eg]
  · refine (hseq (w.heap.size + 1) (fun pre W => I pre W ∧ Book fn a.tmps ps assign body w.heap.size .ready none W) (fun pre W => Ix pre W ∧ Book fn a.tmps ps assign body w.heap.size .done (some .ret) W) W1 hBW
      (fun s A B row hs hg hr => ⟨hI s A B row hs.1 hg (fun r e => .inl (hr r e)), hs.2.grown hg hr hb⟩) (fun s A B row hs hg hr => ⟨hIx s A B row hs.1 hg (fun r e => .inl (hr r e)), hs.2.grown hg hr hb⟩)
      (fun pre x W1 h hsp => round_of hn hcb hfn hp hI hIx a₁ (hassign _ x) (fun W hi => hbody _ pre x W hi hsp) h.1 h.2) ⟨hIW, hB⟩).mono ?_
    rintro e W2 ⟨⟨v, rfl⟩, (⟨xs, hS, hi, hk⟩ | ⟨pre, hSp, hi, hk⟩)⟩
    · exact ⟨none, _, run_endLoop (P := P) hk.r (by simp [lrec]), hdone _ xs _ (Nat.le_refl _) hS (hI.obj _ hi hk.r rfl) ((World.putObj_heap_other (by omega)).trans hk.d)⟩
    · exact ⟨some .ret, _, run_endLoop (P := P) hk.r (by simp [lrec]), hstop _ pre _ (Nat.le_refl _) hSp (hIx.obj _ hi hk.r rfl) ((World.putObj_heap_other (by omega)).trans hk.d)⟩
end Go.Proofs.YtlddkhhaclfmiaaGreatDoor

/- strings.SplitSeq: what it makes, and how its rounds go. Helper text: no statement is claimed here. -/
namespace Go.Proofs.YtlddkhhaclfmiaaGreatDoor
open Go.RowKit Go.Shelf

attribute [local go_sem] Oper.semAt_some

/-- The world behind a call of SplitSeq. -/
def splitW (s sep : ByteArray) (w : World) : World := ((w.alloc (.cells #[.string s] 9)).alloc (.cells #[.string sep] 9)).alloc (.cells #[.int .i64 0] 3)
theorem splitSeq_any (s sep : ByteArray) (w : World) :
    Calls Tryz.prog 75 #[.string s, .string sep] w fun e w' => e = .returned (.func (.func 119) #[] #[.pointer (some ⟨w.heap.size + 1, 0, none⟩), .pointer (some ⟨w.heap.size, 0, none⟩), .pointer (some ⟨w.heap.size + 1 + 1, 0, none⟩)]) ∧ w' = splitW s sep w := by
  go_enter Tryz.func75, Tryz.ntmps75
  go_wp2
  go_ret
  exact ⟨rfl, rfl⟩
/-- A piece of a text, as a value. -/
def strP (p : List UInt8) : Value := .string ⟨p.toArray⟩
theorem strP_of (s : ByteArray) : strP s.data.toList = .string s := rfl
theorem strP_take (r : ByteArray) (i : Nat) : Value.string (r.extract 0 i) = strP (r.data.toList.take i) := by
  unfold strP
  congr 1
  apply ByteArray.ext
  rw [ByteArray.data_extract]
  apply Array.ext'
  simp [List.extract_eq_take_drop]
theorem drop_of (r : ByteArray) (i : Nat) : (r.extract i r.size).data.toList = r.data.toList.drop i := by
  rw [ByteArray.data_extract, Array.toList_extract]
  simp [List.extract_eq_take_drop]
  rw [List.take_of_length_le]
  have : r.data.toList.length = r.size := by simp
  simp
/-- How long what is left is. -/
def leftLen (b : Nat) (W : World) : Nat := match W.cell? ⟨b, 0, none⟩ with
  | some (.string s) => s.size
  | _ => 0
theorem leftLen_eq {W : World} {b : Nat} {t : TypeId} {s : ByteArray} (h : Boxed W b t (.string s)) : leftLen b W = s.size := by
  unfold leftLen
  rw [h.cell]

set_option maxRecDepth 100000 in
set_option maxHeartbeats 2000000 in
theorem cuts_any (s sep : ByteArray) (hsep : sep.data.toList ≠ []) (hs : s.size < 4000000) (bs bp bv n₀ : Nat) (w : World) (h1 : bp ≠ bs) (h2 : bv ≠ bs)
    (hbs : Boxed w bs 9 (.string s)) (hbp : Boxed w bp 9 (.string sep)) (hbv : Boxed w bv 3 (.int .i64 0))
    (hn : n₀ ≤ bs) (hg : 4 < n₀) (m : Int) (hm : w.cell? ⟨4, 0, none⟩ = some (.int .i64 m)) (n : Nat) :
    Cuts Fence.wide n Tryz.prog 119 #[.pointer (some ⟨bp, 0, none⟩), .pointer (some ⟨bs, 0, none⟩), .pointer (some ⟨bv, 0, none⟩)] strP n₀ bs [bs, bp, bv]
      (fun xs => xs = prts sep.data.toList s.data.toList) (fun pre => pre <+: prts sep.data.toList s.data.toList) w := by
  intro l J Jx W hW hJ hJx hY h0
  have HJ : Hid (∀ s A B row, J s A → A.grownBy B row → (∀ r, row = some r → r = bs) → J s B) := hJ
  have HY : Hid _ := hY
  have HS : Hid (Boxed W bs 9 (.string s)) := (hW.block _ hbs.lt).trans hbs
  have HP : Hid (Boxed W bp 9 (.string sep)) := (hW.block _ hbp.lt).trans hbp
  have HV : Hid (Boxed W bv 3 (.int .i64 0)) := (hW.block _ hbv.lt).trans hbv
  have hgm : w.heap.size > 4 := by have := hbs.lt; omega
  have HM : Hid (W.cell? ⟨4, 0, none⟩ = some (.int .i64 m)) := (hW.cell (p := ⟨4, 0, none⟩) hgm).trans hm
  have hp0 : (sep.size == 0) = false := by
    rw [beq_eq_false_iff_ne]
    intro e
    exact hsep (List.length_eq_zero_iff.1 (by simpa using e))
  have hsz : 0 < sep.size := by
    rw [beq_eq_false_iff_ne] at hp0
    omega
  have hp1 : ((sep.size : Int) == 0) = false := by
    rw [beq_eq_false_iff_ne] at hp0 ⊢
    omega
  clear hJ hJx hY hbs hbp hbv hm hW
  refine callsIn_of_wp Tryz.func119 rfl trivial ?_ rfl
  simp only [Tryz.ntmps119, List.size_toArray, List.length_cons, List.length_nil, Nat.reduceAdd, Nat.reduceSub, Array.replicate_succ, Array.replicate_zero, List.push_toArray, List.append_toArray, List.nil_append, List.cons_append]
  have c0 := HP.out.cell
  gi_wp2
  gi_loopw [] (fun wr => ∃ (pre : List (List UInt8)) (r : ByteArray), r.size ≤ s.size ∧ Hid (J pre wr) ∧ Hid (Boxed wr bs 9 (.string r)) ∧ Hid (Boxed wr bp 9 (.string sep)) ∧ Hid (Boxed wr bv 3 (.int .i64 0)) ∧ Hid (wr.cell? ⟨4, 0, none⟩ = some (.int .i64 m)) ∧ Hid (Cutg sep.data.toList s.data.toList pre r.data.toList)) (fun wr => leftLen bs wr)
  case atStart => exact ⟨[], s, Nat.le_refl _, h0, HS, HP, HV, HM, Cutg.start _ _⟩
  case round =>
    obtain ⟨pre, r, hr, HJr, HSr, HPr, HVr, HMr, HC⟩ := hrel
    rename_i wr
    clear c0 HS HP HV HM h0
    have hc := HSr.out.cell
    have hcp := HPr.out.cell
    have hcv := HVr.out.cell
    have hrs : r.size < 4294967281 := by omega
    rcases index_is r.data.toList sep.data.toList with e | ⟨i, e⟩
    · have HE : Hid (Lib.index r.data.toList sep.data.toList = -1) := e
      clear e
      have hl := HC.out.last HE.out
      obtain ⟨fn, tmps, assign, body, hy, hR⟩ := HY.out pre r.data.toList wr HJr.out (by rw [hl]; exact List.prefix_rfl)
      rw [strP_of] at hy
      gi_wp2
      refine ⟨trivial, fun h => (by cases h), (callsIn_wide.2 (Any.strings_Index Tryz.lays143 r sep m _ hrs HMr.out)).mono ?_⟩
      rintro e w' ⟨rfl, rfl⟩
      rw [HE.out]
      gi_wp2
      refine ⟨fun h => (by cases h), hR.mono ?_⟩
      rintro e W3 (⟨rfl, hJ3, hk3⟩ | ⟨rfl, hJx3⟩)
      · gi_wp2
        go_end0
        exact ⟨⟨_, rfl⟩, .inl ⟨_, hl, hJ3⟩⟩
      · gi_wp2
        go_end0
        exact ⟨⟨_, rfl⟩, .inr ⟨_, ⟨[], by rw [List.append_nil]; exact hl⟩, hJx3⟩⟩
    · have HE : Hid (Lib.index r.data.toList sep.data.toList = (i : Int)) := e
      have hi := (index_parts e).2
      have hi' : i + sep.size ≤ r.size := by simpa using hi
      clear e hi
      have hil : (0 : Int) ≤ (i : Int) := by omega
      have hir : (i : Int) ≤ (r.size : Int) := by omega
      have hi0 : ¬ (i : Int) < 0 := by omega
      have hw1 : IntKind.i64.wrap ((i : Int) + (sep.size : Int)) = ((i + sep.size : Nat) : Int) := by rw [IntKind.wrap_i64]; omega
      have hw2 : ((i + sep.size : Nat) : Int) ≤ (r.size : Int) := by omega
      have hwi : IntKind.i64.wrap (i : Int) = (i : Int) := by rw [IntKind.wrap_i64]; omega
      have HP1 : Hid ((pre ++ [r.data.toList.take i]) <+: prts sep.data.toList s.data.toList) := HC.out.part hsep HE.out
      obtain ⟨fn, tmps, assign, body, hy, hR⟩ := HY.out pre (r.data.toList.take i) wr HJr.out HP1.out
      rw [← strP_take r i] at hy
      gi_wp2
      refine ⟨trivial, fun h => (by cases h), (callsIn_wide.2 (Any.strings_Index Tryz.lays143 r sep m _ hrs HMr.out)).mono ?_⟩
      rintro e w' ⟨rfl, rfl⟩
      rw [HE.out]
      gi_wp2
      refine ⟨fun h => (by cases h), hR.mono ?_⟩
      rintro e W3 (⟨rfl, hJ3, hk3⟩ | ⟨rfl, hJx3⟩)
      · have HS3 : Hid (Boxed W3 bs 9 (.string r)) := (hk3.own bs (by simp)).trans HSr.out
        have HP3 : Hid (Boxed W3 bp 9 (.string sep)) := (hk3.own bp (by simp)).trans HPr.out
        have HV3 : Hid (Boxed W3 bv 3 (.int .i64 0)) := (hk3.own bv (by simp)).trans HVr.out
        have HM3 : Hid (W3.cell? ⟨4, 0, none⟩ = some (.int .i64 m)) := (hk3.below.cell (p := ⟨4, 0, none⟩) hg).trans HMr.out
        have HJ3 : Hid (J (pre ++ [r.data.toList.take i]) W3) := hJ3
        have d0 := HS3.out.cell
        have d1 := HP3.out.cell
        have d2 := HS3.out.frozen
        clear hJ3 hk3
        gi_wp2
        have HB : Hid (Boxed (W3.setCell ⟨bs, 0, none⟩ (.string (r.extract (i + sep.size) r.size))) bs 9 (.string (r.extract (i + sep.size) r.size))) := HS3.out.set _
        have gr := grownBy_setCell' W3 bs (.string (r.extract (i + sep.size) r.size))
        go_roundw
        case rel =>
          refine ⟨pre ++ [r.data.toList.take i], r.extract (i + sep.size) r.size, by simp; omega, HJ.out _ _ _ _ HJ3.out gr (fun r e => by cases e; rfl), HB, HP3.out.kept gr (by simpa using h1), HV3.out.kept gr (by simpa using h2), ?_, ?_⟩
          · exact (World.cell?_of_block (gr.block _ (by have := World.block_lt_of_cell? _ _ HM3.out; exact this) (by simp; omega))).trans HM3.out
          · show Cutg _ _ _ _
            rw [drop_of]
            have := HC.out.hit hsep HE.out
            simpa using this
        case measure =>
          rw [leftLen_eq HB.out, leftLen_eq HSr.out]
          simp
          omega
      · gi_wp2
        refine bodyPost_ret (results_none rfl _ _ _) rfl ?_
        exact ⟨⟨_, rfl⟩, .inr ⟨_, HP1.out, hJx3⟩⟩
end Go.Proofs.YtlddkhhaclfmiaaGreatDoor

/- The program's devWord. Helper text: no statement is claimed here. -/
namespace Go.Proofs.YtlddkhhaclfmiaaGreatDoor
open Go.ChangeShapes Go.WideShapes Go.ChangeAt Go.RowKit

def WordOk (t : List UInt8) (k n p : Int) (b : Bool) : Prop := (b = true ∧ Gs t k n p ∧ t ≠ []) ∨ (b = false ∧ ∀ j, j < 4 → t ≠ wordL j)

def Worded (t : List UInt8) (w : World) (e : Ending) (w' : World) : Prop := ∃ (k n p : Int) (b : Bool), e = .returned (.tuple #[.agg #[.int .i64 k, .int .i64 n, .int .i64 p], .bool b]) ∧ WordOk t k n p b ∧ Below w.heap.size w w'

set_option maxHeartbeats 1000000 in
theorem iword_any (s : ByteArray) (w : World) (hT : Tabs w) :
    Calls Tryz.prog 103 #[.string s] w (Worded s.data.toList w) := by
  go_enter Tryz.func103, Tryz.ntmps103
  go_wp2
  go_loop [4, 5] (fun _ i => ∃ m : Nat, m ≤ 4 ∧ i = .int .i64 m ∧ ∀ j, j < m → s.data.toList ≠ wordL j) (fun _ i => 4 - (intOf i).toNat)
  case atStart => exact ⟨0, by omega, rfl, by intro j hj; omega⟩
  case round =>
    obtain ⟨m, hm, rfl, hn⟩ := hrel
    have HN : Hid (∀ j, j < m → s.data.toList ≠ wordL j) := hn
    clear hn
    by_cases hlt : m < 4
    · have hw := hT.word m hlt
      have hl0 : 0 < w.heap.size := hT.word.lt
      by_cases hE : wordL m = s.toList
      · have HE : Hid (s.data.toList = wordL m) := by rw [← ByteArray.toList_eq]; exact hE.symm
        have hE' : (wordL m == s.toList) = true := by simp [hE]
        clear hE
        go_wp2
        exact bodyPost_ret (v := .tuple #[.agg #[.int .i64 13, .int .i64 m, .int .i64 0], .bool true]) (resArg2 Tryz.results103 rfl rfl (Own.new w _ _ _).1) rfl ⟨13, m, 0, true, rfl, .inl ⟨rfl, gs_word hlt HE.out, by
          rw [HE.out]
          have a : m = 0 ∨ m = 1 ∨ m = 2 ∨ m = 3 := by omega
          rcases a with rfl | rfl | rfl | rfl <;> simp [wordL]⟩, one _ _⟩
      · have hE' : (wordL m == s.toList) = false := by simp [hE]
        have HE : Hid (s.data.toList ≠ wordL m) := by rw [← ByteArray.toList_eq]; exact fun e => hE e.symm
        clear hE
        go_wp2
        go_round
        case rel =>
          refine ⟨m + 1, by omega, by go_num, ?_⟩
          intro j hj
          by_cases e : j = m
          · subst e; exact HE.out
          · exact HN.out j (by omega)
        case measure => simp [intOf]; omega
    · obtain rfl : m = 4 := by omega
      go_wp2
      exact bodyPost_ret (v := .tuple #[.agg #[.int .i64 0, .int .i64 0, .int .i64 0], .bool false]) (resArg2 Tryz.results103 rfl rfl (Own.new w _ _ _).1) rfl ⟨0, 0, 0, false, rfl, .inr ⟨rfl, HN.out⟩, one _ _⟩
end Go.Proofs.YtlddkhhaclfmiaaGreatDoor
