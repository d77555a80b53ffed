/- What the spoiling of nets and arms needs. Helper text: no statement is claimed here. -/
import Derived.Test.YtjkpingdokkkcaaGreatDoorP21
namespace Go.Proofs.YtjkpingdokkkcaaGreatDoor.Tr
open Go.ChangeShapes Go.WideShapes Go.ChangeAt Go.RowKit

theorem args_cells {w : World} {b : Nat} : ∀ (ys : List Ar) (off : Nat), (∀ i t, ys[i]? = some t → ArE w b (off + i * 3) t) → ∀ j u, (arCells ys)[j]? = some u → w.cell? ⟨b, off + j, none⟩ = some u
  | [], _, _, j, u, hj => by simp [arCells] at hj
  | a :: ys, off, h, j, u, hj => by
    have h0 : ArE w b off a := by simpa using h 0 a (by simp)
    have e : arCells (a :: ys) = [.int .i64 a.1, .int .i64 a.2.1, .int .i64 a.2.2] ++ arCells ys := rfl
    rw [e] at hj
    match j, hj with
    | 0, hj => obtain rfl := Option.some.inj hj; exact h0.1
    | 1, hj => obtain rfl := Option.some.inj hj; exact h0.2.1
    | 2, hj => obtain rfl := Option.some.inj hj; exact h0.2.2
    | j + 3, hj =>
      have := args_cells ys (off + 3) (fun i t ht => by
        have := h (i + 1) t (by simpa using ht)
        rwa [show off + (i + 1) * 3 = off + 3 + i * 3 by omega] at this) j u (by simpa using hj)
      rwa [show off + 3 + j = off + (j + 3) by omega] at this
theorem args_g {S : Nat → Prop} {w : World} {p : Option Addr} {cap : Nat} {ys : List Ar} (h : SlOf S (ArE w) 3 p cap ys) (hS : ∀ b, S b → b < w.heap.size) : ElsG w p ys := by
  rcases h.2 with rfl | ⟨b, off, rfl, hb, hel⟩
  · cases p with
    | none => exact .inl ⟨rfl, rfl⟩
    | some ad => exact .inr ⟨ad, rfl, fun W _ j u hj => by simp [arCells] at hj⟩
  · refine .inr ⟨⟨b, off, none⟩, rfl, fun W hW j u hj => ?_⟩
    rw [addr_add]
    exact (hW.cell (p := ⟨b, off + j, none⟩) (hS b hb)).trans (args_cells ys off hel j u hj)
theorem okEl_mono {L L' : Nat} (h : L ≤ L') {e : El} (he : okEl L e) : okEl L' e := ⟨Nat.le_trans he.1 h, he.2⟩
theorem okN_mono {L L' : Nat} (h : L ≤ L') : ∀ (n : Nat) {t : NT n} (_ : okN L n t), okN L' n t
  | 0, _, _ => trivial
  | n + 1, _, ht => ⟨okEl_mono h ht.1, fun u hu => okN_mono h n (ht.2 u hu)⟩
theorem okAm_mono {L L' k : Nat} (h : L ≤ L') : ∀ (n : Nat) {t : AT k n} (_ : okAm L k n t), okAm L' k n t
  | 0, _, _ => trivial
  | n + 1, _, ht => ⟨okN_mono h _ ht.1, fun e he => okEl_mono h (ht.2.1 e he), fun u hu => okAm_mono h n (ht.2.2 u hu)⟩
section
variable {α β : Type} {T : TypeId} {O : Nat → Prop} {sz base : Nat} {V : (Nat → Prop) → World → Value → α → Prop} {V' : (Nat → Prop) → World → Value → β → Prop} {E' : (Nat → Prop) → World → Nat → Nat → β → Prop}
/-- An element of a row, its cells. -/
theorem GRow.at {W : World} {g cap : Nat} {xs : List Value} {ts : List α} (h : GRow O T sz V base W (.slice (some ⟨g, 0, none⟩) ts.length cap) xs ts) {i : Nat} {t : α} (ht : ts[i]? = some t) :
    ∃ cs : List Value, cs.length = sz ∧ (∀ j u, cs[j]? = some u → W.cell? ⟨g, i * sz + j, none⟩ = some u) ∧ V (Inn O base W (.slice (some ⟨g, 0, none⟩) ts.length cap)) W (.agg cs.toArray) t := by
  obtain ⟨⟨hx, hown⟩, hel⟩ := h
  rcases hown with ⟨h', -⟩ | ⟨g', cap', cur, hv, hb, hg, hn, hc, hs, htk⟩
  · simp at h'
  · simp only [Value.slice.injEq, Option.some.injEq, Addr.mk.injEq] at hv
    obtain ⟨⟨rfl, -⟩, -, rfl⟩ := hv
    have hi := (List.getElem?_eq_some_iff.1 ht).1
    have hle : (i + 1) * sz ≤ ts.length * sz := Nat.mul_le_mul_right _ hi
    rw [Nat.add_mul, Nat.one_mul] at hle
    refine ⟨(xs.drop (i * sz)).take sz, by rw [List.length_take, List.length_drop, hx]; omega, fun j u hu => ?_, hel i t ht⟩
    have hj : j < sz := by
      have := (List.getElem?_eq_some_iff.1 hu).1
      rw [List.length_take] at this; omega
    rw [List.getElem?_take_of_lt hj, List.getElem?_drop, ← htk] at hu
    have hu2 := (List.getElem?_eq_some_iff.1 hu)
    rw [List.getElem?_take_of_lt (by obtain ⟨hq, -⟩ := hu2; rw [List.length_take] at hq; omega)] at hu
    have : cur[i * sz + j]? = some u := by simpa using hu
    unfold World.cell?
    simp [hg, this]
/-- One element of a row is put anew; the others are taken as they are. -/
theorem row_set (hV : KeptV V') (hE : MadeE V' E') (f : α → β) (hf : ∀ S W v t, V S W v t → V' S W v (f t)) {w6 W7 : World} {g cap k : Nat} {xs : List Value} {ts : List α} (h : GRow O T sz V base w6 (.slice (some ⟨g, 0, none⟩) ts.length cap) xs ts) (hg : base ≤ g) (hO0 : ∀ b, O b → ¬ base ≤ b)
    (hW : ∀ b, b ≠ g → W7.heap[b]? = w6.heap[b]?) (hs : W7.heap.size = w6.heap.size) (hc : ∀ o, o < k * sz ∨ k * sz + sz ≤ o → W7.cell? ⟨g, o, none⟩ = w6.cell? ⟨g, o, none⟩) (cs' : List Value) (hcs : ∀ j u, cs'[j]? = some u → W7.cell? ⟨g, k * sz + j, none⟩ = some u) (t' : β) (ht' : V' (Frs O base W7) W7 (.agg cs'.toArray) t') :
    SlOf (Frs O base W7) (E' (Frs O base W7) W7) sz (some ⟨g, 0, none⟩) cap ((ts.map f).set k t') := by
  have h0 := h
  obtain ⟨⟨hx, hown⟩, hel⟩ := h
  rcases hown with ⟨h', -⟩ | ⟨g', cap', cur, hv, hb, hgh, hn, hcm, hsz, htk⟩
  · simp at h'
  · simp only [Value.slice.injEq, Option.some.injEq, Addr.mk.injEq] at hv
    obtain ⟨⟨rfl, -⟩, -, rfl⟩ := hv
    have hgl := (Array.getElem?_eq_some_iff.1 hgh).1
    refine ⟨⟨by simpa using hn, by simp; unfold maxLen at hcm; omega⟩, .inr ⟨g, 0, rfl, .inr ⟨hg, by omega⟩, fun i u hu => ?_⟩⟩
    rw [Nat.zero_add]
    by_cases hik : i = k
    · subst hik
      have hi := (List.getElem?_eq_some_iff.1 hu).1
      rw [List.getElem?_set_self (by simpa using hi)] at hu
      obtain rfl := Option.some.inj hu
      exact hE _ _ _ _ _ _ ht' hcs
    · rw [List.getElem?_set_ne (Ne.symm hik), List.getElem?_map] at hu
      obtain ⟨t, ht, rfl⟩ := Option.map_eq_some_iff.1 hu
      obtain ⟨cs, c1, c2, c3⟩ := h0.at ht
      refine hE _ _ _ _ _ _ (hV _ _ _ _ _ _ (fun b hb' => hW b ?_) (fun b hb' => ?_) (hf _ _ _ _ c3)) fun j u hj => ?_
      · rcases hb' with hb' | hb'
        · exact fun e => by subst e; exact hO0 b hb' hg
        · exact fun e => hb'.2.2 (by rw [e]; rfl)
      · rcases hb' with hb' | hb'
        · exact .inl hb'
        · exact .inr ⟨hb'.1, by have := hb'.2.1; omega⟩
      · have hj' : j < sz := by rw [← c1]; exact (List.getElem?_eq_some_iff.1 hj).1
        rw [hc (i * sz + j) (by
          rcases Nat.lt_or_gt_of_ne hik with hlt | hgt
          · left
            have : (i + 1) * sz ≤ k * sz := Nat.mul_le_mul_right _ hlt
            rw [Nat.add_mul, Nat.one_mul] at this
            omega
          · right
            have : (k + 1) * sz ≤ i * sz := Nat.mul_le_mul_right _ hgt
            rw [Nat.add_mul, Nat.one_mul] at this
            omega)]
        exact c2 j u hj
end
/-- A net is spoilt: old blocks and new ones. -/
def SNr (O : Nat → Prop) (L n z rb m : Nat) (w : World) (e : Ending) (w' : World) : Prop := ∃ (v : Value) (t : NT (n + 1)), e = .returned v ∧ NtV (Frs O w.heap.size w') w' (n + 1) v t ∧ okN L (n + 1) t ∧ zN (n + 1) t ≤ z ∧ Rd w' rb m ∧ Step rb w w'
theorem snet_done {O : Nat → Prop} {L n z rb M : Nat} {w W : World} {kd op : Int} {pa : Option Addr} {la ca : Nat} {pk : Option Addr} {lk ck : Nat} {t : NT (n + 1)} (hO : ∀ b, O b → b < w.heap.size ∧ b ≠ rb) (hV : NtV (Frs O (w.heap.size + 2) W) W (n + 1) (.agg #[.int .i64 kd, .int .i64 op, .slice pa la ca, .slice pk lk ck]) t) (hok : okN L (n + 1) t) (hz : zN (n + 1) t ≤ z) (hr : Rd W rb M) (st : Step rb w W) (hrb : rb < w.heap.size) :
    SNr O L n z rb M w (.returned (.agg #[.int .i64 kd, .int .i64 op, .slice pa la ca, .slice pk lk ck])) ((((W.setCell ⟨w.heap.size + 1, 0, none⟩ (.int .i64 kd)).setCell ⟨w.heap.size + 1, 1, none⟩ (.int .i64 op)).setCell ⟨w.heap.size + 1, 2, none⟩ (.slice pa la ca)).setCell ⟨w.heap.size + 1, 3, none⟩ (.slice pk lk ck)) := by
  have o := out4 (O := O) (base := w.heap.size + 2) (w := W) (y0 := .int .i64 kd) (y1 := .int .i64 op) (y2 := .slice pa la ca) (y3 := .slice pk lk ck) (c := w.heap.size + 1) (by omega) (fun h => by have := (hO _ h).1; omega)
  exact ⟨_, t, rfl, hV.to o.keep (Frs.mono (by omega) o.size), hok, hz, rd4 hr (by omega), step4 st (by omega)⟩
end Go.Proofs.YtjkpingdokkkcaaGreatDoor.Tr
