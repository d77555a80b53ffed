/- The document's DevRead. Helper text: no statement is claimed here. -/
import Derived.Test.YtkffgjagiihppaaDoorTe
namespace Go.Proofs.YtkffgjagiihppaaDoor
open Go.ChangeShapes Go.WideShapes Go.ChangeAt Go.RowKit

theorem resArg2 {fn : Func} {W : World} {b p u : Nat} {tmps : Array Value} {x y z v : Value} (h : fn.results = #[.cell p 24, .tmp u]) (hp : tmps.getD p undef = .pointer (some ⟨b, 0, none⟩)) (hu : tmps.getD u undef = v)
    (hc : W.cell? ⟨b, 0, none⟩ = some x ∧ W.cell? ⟨b, 1, none⟩ = some y ∧ W.cell? ⟨b, 2, none⟩ = some z) : (results fn tmps).run Tryd.prog W = .ok (.tuple #[.agg #[x, y, z], v]) W := by
  obtain ⟨h0, h1, h2⟩ := hc
  rw [results_cell_tmp h, hp, hu]
  simp [go_sem, h0, h1, h2]

/-- What a reading of the text t is. -/
def RdOk (t : List UInt8) (k n p : Int) (b : Bool) : Prop :=
  (b = true ∧ okB k n p = true ∧ txt k n p = t ∧ ∀ K N P, okB K N P = true → txt K N P = t → k = K ∧ n = N ∧ p = P) ∨
  (b = false ∧ k = 0 ∧ n = 0 ∧ p = 0 ∧ ∀ K N P, okB K N P = true → txt K N P ≠ t)
theorem RdOk.one {t : List UInt8} {k n p k' n' p' : Int} {b b' : Bool} (h : RdOk t k n p b) (h' : RdOk t k' n' p' b') : k = k' ∧ n = n' ∧ p = p' ∧ b = b' := by
  rcases h with ⟨rfl, h1, h2, h3⟩ | ⟨rfl, rfl, rfl, rfl, h4⟩ <;> rcases h' with ⟨rfl, g1, g2, g3⟩ | ⟨rfl, rfl, rfl, rfl, g4⟩
  · obtain ⟨a, b, c⟩ := h3 _ _ _ g1 g2
    exact ⟨a, b, c, rfl⟩
  · exact absurd h2 (g4 _ _ _ h1)
  · exact absurd g2 (h4 _ _ _ g1)
  · exact ⟨rfl, rfl, rfl, rfl⟩
def Read (t : List UInt8) (w : World) (e : Ending) (w' : World) : Prop := ∃ (k n p : Int) (b : Bool), e = .returned (.tuple #[.agg #[.int .i64 k, .int .i64 n, .int .i64 p], .bool b]) ∧ RdOk t k n p b ∧ Below w.heap.size w w'

theorem txt_ne {K N P : Int} (h : okB K N P = true) : txt K N P ≠ [] := by
  rcases shape_of h with ⟨-, -, i, hi, -, e⟩ | ⟨-, k, u, k1, k2, -, -, -, e⟩ | hS | hS
  · rw [e]
    have a : i = 0 ∨ i = 1 ∨ i = 2 ∨ i = 3 := by omega
    rcases a with rfl | rfl | rfl | rfl <;> simp [wordL]
  · obtain ⟨c, e2, -, -⟩ := rL_one k1 k2
    rw [e, e2]; simp
  · obtain ⟨c, r, e, -⟩ := num_head (.inl hS)
    rw [e]; simp
  · obtain ⟨c, r, e, -⟩ := num_head (.inr hS)
    rw [e]; simp
theorem txt_no {K N P : Int} (h : okB K N P = false) : txt K N P = [] := by simp [txt, h]
theorem read_yes {t : List UInt8} {k n p : Int} (hg : Gs t k n p) (ht : t ≠ []) (h : txt k n p = t) : RdOk t k n p true := by
  refine .inl ⟨rfl, ?_, h, fun K N P hk e => hg K N P (by rw [← e]; exact shape_of hk)⟩
  cases hk : okB k n p
  · rw [txt_no hk] at h; exact absurd h.symm ht
  · rfl
theorem read_no {t : List UInt8} {k n p : Int} (hg : Gs t k n p) (h : txt k n p ≠ t) : RdOk t 0 0 0 false := by
  refine .inr ⟨rfl, rfl, rfl, rfl, fun K N P hk e => ?_⟩
  obtain ⟨rfl, rfl, rfl⟩ := hg K N P (by rw [← e]; exact shape_of hk)
  exact h e
theorem read_empty : RdOk [] 0 0 0 false := .inr ⟨rfl, rfl, rfl, rfl, fun _ _ _ hk e => txt_ne hk e⟩

set_option maxHeartbeats 1000000 in
theorem sread_any (s : ByteArray) (w : World) (hs : s.size ≤ 2000000) :
    Calls Tryd.prog 11 #[.string s] w (Read s.data.toList w) := by
  go_enter Tryd.func11, Tryd.ntmps11
  go_wp2_with fail
  refine (sguess_any s _ hs).mono ?_
  rintro e w1 ⟨k, n, p, rfl, hg, hb⟩
  have HG : Hid (Gs s.data.toList k n p) := hg
  clear hg
  have ob := ((Own.new w (.int .i64 0) (.int .i64 0) (.int .i64 0)).below hb)
  have sw := of_one hb
  have hlt := ob.lt
  by_cases hE : s.toList = []
  · have hE' : (s.toList == []) = true := by simp [hE]
    have HE : Hid (s.data.toList = []) := by rw [← ByteArray.toList_eq]; exact hE
    clear hE
    have ob' := ob
    obtain ⟨⟨r0, r1, r2⟩, y0, y1, y2⟩ := ob'
    go_wp2
    refine bodyPost_ret (v := .tuple #[.agg #[.int .i64 0, .int .i64 0, .int .i64 0], .bool false]) (resArg2 Tryd.results11 rfl rfl ((ob.put _ _ _).alloc _).1) rfl ⟨0, 0, 0, false, rfl, by rw [HE.out]; exact read_empty, ?_⟩
    exact ((((sw.setCell (Nat.le_refl _) _).setCell (Nat.le_refl _) _).setCell (Nat.le_refl _) _)).alloc (by simpa [World.setCell] using sw.size) _
  · have hE' : (s.toList == []) = false := by simp [hE]
    have HE : Hid (s.data.toList ≠ []) := by rw [← ByteArray.toList_eq]; exact hE
    clear hE
    have on := Own.new w1 (.int .i64 k) (.int .i64 n) (.int .i64 p)
    go_wp2_with fail
    refine (stext_any _ _ _ _).mono ?_
    rintro e w2 ⟨rfl, hb2⟩
    have on2 := on.below hb2
    have ob2 := (ob.alloc _).below hb2
    have sw2 : Below w.heap.size w w2 := (sw.alloc sw.size _).trans (hb2.mono (by have := sw.size; simp; omega))
    obtain ⟨⟨r0, r1, r2⟩, y0, y1, y2⟩ := ob2
    obtain ⟨⟨o0, o1, o2⟩, z0, z1, z2⟩ := on2
    by_cases hT : txt k n p = s.toList
    · have hT' : (txt k n p == s.toList) = true := by simp [hT]
      have HT : Hid (txt k n p = s.data.toList) := by rw [← ByteArray.toList_eq]; exact hT
      clear hT
      go_wp2
      exact bodyPost_ret (v := .tuple #[.agg #[.int .i64 k, .int .i64 n, .int .i64 p], .bool true]) (resArg2 Tryd.results11 rfl rfl (put3 ⟨r0, r1, r2⟩)) rfl ⟨k, n, p, true, rfl, read_yes HG.out HE.out HT.out, ((sw2.setCell (Nat.le_refl _) _).setCell (Nat.le_refl _) _).setCell (Nat.le_refl _) _⟩
    · have hT' : (txt k n p == s.toList) = false := by simp [hT]
      have HT : Hid (txt k n p ≠ s.data.toList) := by rw [← ByteArray.toList_eq]; exact hT
      clear hT
      go_wp2
      exact bodyPost_ret (v := .tuple #[.agg #[.int .i64 0, .int .i64 0, .int .i64 0], .bool false]) (resArg2 Tryd.results11 rfl rfl (put3 ⟨r0, r1, r2⟩)) rfl ⟨0, 0, 0, false, rfl, read_no HG.out HT.out, ((sw2.setCell (Nat.le_refl _) _).setCell (Nat.le_refl _) _).setCell (Nat.le_refl _) _⟩
end Go.Proofs.YtkffgjagiihppaaDoor
