/- One text, one memory: both ways. Helper text: no statement is claimed here. -/
import Derived.Test.YtlflihegadjpdaaDoorP45
import Derived.Test.YtlflihegadjpdaaDoorP40
import Derived.Test.YtlflihegadjpdaaDoorIm
import Derived.Test.YtlflihegadjpdaaDoorJz
import Derived.Lib.QuietBelow
import Derived.BigQuiet
import Derived.Test.YtlflihegadjpdaaDoorIr
namespace Go.Proofs.YtlflihegadjpdaaDoor
open Go.ChangeShapes Go.WideShapes Go.ChangeAt Go.RowKit Fl

theorem list_inj {a b : List UInt8} (h : [a] = [b]) : a = b := by simpa using h
theorem tm_inj {m n : Mm} {i : Nat} (h : tmW m i = tmW n i) : m.td i = n.td i ∧ m.tc i = n.tc i := by
  have h33 : ∀ z, (33 : UInt8) ∉ Lib.itoa z := itoa_not (by decide) (by decide)
  unfold tmW at h
  by_cases h1 : m.td i = true ∨ 0 < m.tc i <;> by_cases h2 : n.td i = true ∨ 0 < n.tc i
  · rw [if_pos h1, if_pos h2] at h
    have e := List.append_cancel_left (list_inj h)
    rw [List.append_assoc, List.append_assoc] at e
    obtain ⟨e1, e2⟩ := mark_inj (h33 _) (h33 _) (List.append_cancel_left e)
    exact ⟨e2, by have := itoa_inj e1; omega⟩
  · rw [if_pos h1, if_neg h2] at h; simp at h
  · rw [if_neg h1, if_pos h2] at h; simp at h
  · simp only [not_or, Bool.not_eq_true] at h1 h2
    exact ⟨h1.1.trans h2.1.symm, by omega⟩
theorem cn_inj {m n : Mm} {i : Nat} (h : cnW m i = cnW n i) : m.cd i = n.cd i ∧ m.cl i = n.cl i ∧ m.cc i = n.cc i := by
  have h33 : ∀ z, (33 : UInt8) ∉ Lib.itoa z := itoa_not (by decide) (by decide)
  have h43 : ∀ z b, (43 : UInt8) ∉ Lib.itoa z ++ mkT b [33] := fun z b h => by
    rcases List.mem_append.1 h with h | h
    · exact itoa_not (by decide) (by decide) z h
    · exact mkT_not (by decide) b h
  unfold cnW at h
  by_cases h1 : m.cd i = true ∨ m.cl i = true ∨ 0 < m.cc i <;> by_cases h2 : n.cd i = true ∨ n.cl i = true ∨ 0 < n.cc i
  · rw [if_pos h1, if_pos h2] at h
    have e := List.append_cancel_left (list_inj h)
    rw [List.append_assoc, List.append_assoc, List.append_assoc, List.append_assoc] at e
    have e' := List.append_cancel_left e
    rw [← List.append_assoc, ← List.append_assoc] at e'
    obtain ⟨e1, e2⟩ := mark_inj (h43 _ _) (h43 _ _) e'
    obtain ⟨e3, e4⟩ := mark_inj (h33 _) (h33 _) e1
    exact ⟨e4, e2, by have := itoa_inj e3; omega⟩
  · rw [if_pos h1, if_neg h2] at h; simp at h
  · rw [if_neg h1, if_pos h2] at h; simp at h
  · simp only [not_or, Bool.not_eq_true] at h1 h2
    exact ⟨h1.1.trans h2.1.symm, h1.2.1.trans h2.2.1.symm, by omega⟩
theorem wh_inj {m n : Mm} {i : Nat} (h : whW m i = whW n i) : m.d i = n.d i := by
  unfold whW at h
  by_cases h1 : m.d i = 0 <;> by_cases h2 : n.d i = 0
  · rw [h1, h2]
  · rw [if_pos h1, if_neg h2] at h; simp at h
  · rw [if_neg h1, if_pos h2] at h; simp at h
  · rw [if_neg h1, if_neg h2] at h
    exact itoa_inj (List.append_cancel_left (List.append_cancel_left (list_inj h)))
theorem re_inj {m n : Mm} {i : Nat} (h : reW m i = reW n i) : rlT (m.r i) = rlT (n.r i) := by
  unfold reW at h
  by_cases h1 : rlT (m.r i) = [48] <;> by_cases h2 : rlT (n.r i) = [48]
  · rw [h1, h2]
  · rw [if_pos h1, if_neg h2] at h; simp at h
  · rw [if_neg h1, if_pos h2] at h; simp at h
  · rw [if_neg h1, if_neg h2] at h
    exact List.append_cancel_left (List.append_cancel_left (list_inj h))
theorem bit_inj {m n : Mm} {k : Int} {i : Nat} (h : bitW m k i = bitW n k i) : m.bit k (i : Int) = n.bit k (i : Int) := by
  unfold bitW at h
  cases h1 : m.bit k (i : Int) <;> cases h2 : n.bit k (i : Int) <;> rw [h1, h2] at h <;> simp at h ⊢
theorem sv_rlT {x y : Nat} (hx : x < 2 ^ 64) (hy : y < 2 ^ 64) : sv x y = true ↔ rlT x = rlT y := sv_iff.trans (text_iff (rlT_R hx) (rlT_R hy)).symm
/-- A bit of a packed word. -/
theorem bit_at {m : Mm} {j i : Nat} (hj : j < 5) (hi : i < bits5 j) : m.bit ((j : Int) + 1) (i : Int) = bitN (m.packed ((j : Int) + 1)) i := by
  have hp : plc ((j : Int) + 1) (i : Int) = (i : Int) := by
    have h6 : ¬ (j : Int) + 1 = 6 := by omega
    unfold bits5 at hi
    unfold plc sz4
    rw [if_neg h6, if_neg (by omega), Int.emod_eq_of_lt (by omega) (by omega)]
  rw [bit_packed m _ _ ⟨by omega, by omega, by omega⟩, hp, Int.toNat_natCast]
theorem word_eq {a b k : Nat} (ha : a < 2 ^ k) (hb : b < 2 ^ k) (h : ∀ i, i < k → bitN a i = bitN b i) : a = b := by
  apply Nat.eq_of_testBit_eq
  intro i
  by_cases hi : i < k
  · have := h i hi
    rwa [bitN_test, bitN_test] at this
  · have hp : 2 ^ k ≤ 2 ^ i := Nat.pow_le_pow_right (by decide) (by omega)
    rw [Nat.testBit_lt_two_pow (Nat.lt_of_lt_of_le ha hp), Nat.testBit_lt_two_pow (Nat.lt_of_lt_of_le hb hp)]
theorem kind_inj {m n : Mm} {j : Nat} (hj : j < 5) (h : kindW m j = kindW n j) {k : Nat} (hk : bits5 j = k) (ha : m.packed ((j : Int) + 1) < 2 ^ k) (hb : n.packed ((j : Int) + 1) < 2 ^ k) : m.packed ((j : Int) + 1) = n.packed ((j : Int) + 1) := by
  have key : ∀ (q : Mm) i, i < bits5 j → ∀ t ∈ bitW q ((j : Int) + 1) i, kd t = dvT ((j : Int) + 1) i := fun q i _ t ht => by
    rw [in_bit ht]
    exact kd_all (dvT_not (by omega) (by omega) (by decide) (by decide) (by decide) i)
  have hw := upto_inj kd (dvT ((j : Int) + 1)) (fun a b _ _ e => dvT_inj e) (key m) (key n) h
  refine word_eq ha hb fun i hi => ?_
  have := bit_inj (hw i (by omega))
  rwa [bit_at hj (by omega), bit_at hj (by omega)] at this
theorem kd_dv {k : Int} (h1 : 1 ≤ k) (h2 : k ≤ 10) (i : Nat) (r : List UInt8) : kd (dvT k i ++ ([61] ++ r)) = dvT k i := kd_eq (dvT_not h1 h2 (by decide) (by decide) (by decide) i) r

theorem same_of_text {m n : Mm} (hm : m.Ok) (hn : n.Ok) (h : memT m = memT n) : sameM m n = true := by
  have hp := parts_of_text hm hn h
  simp only [partsM, List.cons.injEq, Prod.mk.injEq, true_and, and_true] at hp
  obtain ⟨b0, b1, b2, b3, b4, ht, hc, hd, hr, htime, hran, hfault⟩ := hp
  have e0 : m.x = n.x := kind_inj (j := 0) (by omega) b0 rfl hm.hx hn.hx
  have e1 : m.y = n.y := kind_inj (j := 1) (by omega) b1 rfl hm.hy hn.hy
  have e2 : m.m = n.m := kind_inj (j := 2) (by omega) b2 rfl hm.hm hn.hm
  have e3 : m.s = n.s := kind_inj (j := 3) (by omega) b3 rfl hm.hs hn.hs
  have e4 : m.e = n.e := kind_inj (j := 4) (by omega) b4 rfl hm.he hn.he
  have hT := upto_inj kd (dvT 7) (fun a b _ _ e => dvT_inj e) (fun i _ t ht => by rw [in_tm ht, tmT, List.append_assoc]; exact kd_dv (by omega) (by omega) i _) (fun i _ t ht => by rw [in_tm ht, tmT, List.append_assoc]; exact kd_dv (by omega) (by omega) i _) ht
  have hC := upto_inj kd (dvT 8) (fun a b _ _ e => dvT_inj e) (fun i _ t ht => by rw [in_cn ht, cnT, List.append_assoc, List.append_assoc]; exact kd_dv (by omega) (by omega) i _) (fun i _ t ht => by rw [in_cn ht, cnT, List.append_assoc, List.append_assoc]; exact kd_dv (by omega) (by omega) i _) hc
  have hD := upto_inj kd (dvT 9) (fun a b _ _ e => dvT_inj e) (fun i _ t ht => by rw [in_wh ht]; exact kd_dv (by omega) (by omega) i _) (fun i _ t ht => by rw [in_wh ht]; exact kd_dv (by omega) (by omega) i _) hd
  have hR := upto_inj kd (dvT 10) (fun a b _ _ e => dvT_inj e) (fun i _ t ht => by rw [in_re ht]; exact kd_dv (by omega) (by omega) i _) (fun i _ t ht => by rw [in_re ht]; exact kd_dv (by omega) (by omega) i _) hr
  have etime : m.time = n.time := by
    by_cases h1 : 0 < m.time <;> by_cases h2 : 0 < n.time
    · rw [if_pos h1, if_pos h2] at htime
      have := itoa_inj (List.append_cancel_left (list_inj htime))
      omega
    · rw [if_pos h1, if_neg h2] at htime; simp at htime
    · rw [if_neg h1, if_pos h2] at htime; simp at htime
    · omega
  have eran : m.ran = n.ran := by
    cases h1 : m.ran <;> cases h2 : n.ran <;> rw [h1, h2] at hran <;> simp at hran ⊢
  have efault : m.fault = n.fault := by
    cases h1 : m.fault <;> cases h2 : n.fault <;> rw [h1, h2] at hfault <;> simp at hfault ⊢
  have sT : sameT m n = true := by
    rw [sameT, List.all_eq_true]
    intro i hi
    obtain ⟨a, b⟩ := tm_inj (hT i (List.mem_range.1 hi))
    rw [a, b]; simp
  have sC : sameC m n = true := by
    rw [sameC, List.all_eq_true]
    intro i hi
    obtain ⟨a, b, c⟩ := cn_inj (hC i (List.mem_range.1 hi))
    rw [a, b, c]; simp
  have sD : sameD m n = true := by
    rw [sameD, List.all_eq_true]
    intro i hi
    rw [wh_inj (hD i (List.mem_range.1 hi))]; simp
  have sR : sameR m n = true := sameR_yes fun i hi => (sv_rlT (hm.hr i) (hn.hr i)).2 (re_inj (hR i hi))
  simp only [sameM, e0, e1, e2, e3, e4, sT, sC, sD, sR, etime, eran, efault, beq_self_eq_true, Bool.and_self]

theorem upto_congr {f g : Nat → List (List UInt8)} : ∀ {j : Nat}, (∀ i, i < j → f i = g i) → upto f j = upto g j
  | 0, _ => rfl
  | j + 1, h => by rw [upto_succ, upto_succ, upto_congr fun i hi => h i (by omega), h j (by omega)]
theorem text_of_same {m n : Mm} (hm : m.Ok) (hn : n.Ok) (h : sameM m n = true) : memT m = memT n := by
  simp only [sameM, Bool.and_eq_true, beq_iff_eq] at h
  obtain ⟨hx, hy, hmm, hs, he, hT, hC, hD, hR, htime, hran, hfault⟩ := h
  have hx' : m.x = n.x := by omega
  have hy' : m.y = n.y := by omega
  have hm' : m.m = n.m := by omega
  have hs' : m.s = n.s := by omega
  have he' : m.e = n.e := by omega
  have ht' : m.time = n.time := by omega
  have hk : ∀ j, j < 5 → kindW m j = kindW n j := fun j hj => upto_congr fun i hi => by
    unfold bitW
    rw [bit_at hj hi, bit_at hj hi]
    have : m.packed ((j : Int) + 1) = n.packed ((j : Int) + 1) := by
      unfold Mm.packed
      rw [hx', hy', hm', hs', he']
    rw [this]
  have hb : bitsW m = bitsW n := upto_congr hk
  have h1 : upto (tmW m) 16 = upto (tmW n) 16 := upto_congr fun i hi => by
    rw [sameT, List.all_eq_true] at hT
    have := hT i (List.mem_range.2 hi)
    simp only [Bool.and_eq_true, beq_iff_eq] at this
    have e2 : m.tc i = n.tc i := by omega
    unfold tmW tmT
    rw [this.1, e2]
  have h2 : upto (cnW m) 16 = upto (cnW n) 16 := upto_congr fun i hi => by
    rw [sameC, List.all_eq_true] at hC
    have := hC i (List.mem_range.2 hi)
    simp only [Bool.and_eq_true, beq_iff_eq] at this
    have e2 : m.cc i = n.cc i := by omega
    unfold cnW cnT
    rw [this.1, this.2.1, e2]
  have h3 : upto (whW m) 32 = upto (whW n) 32 := upto_congr fun i hi => by
    rw [sameD, List.all_eq_true] at hD
    have := hD i (List.mem_range.2 hi)
    simp only [beq_iff_eq] at this
    unfold whW whT
    rw [this]
  have h4 : upto (reW m) 16 = upto (reW n) 16 := upto_congr fun i hi => by
    rw [sameR, List.all_eq_true] at hR
    have := (sv_rlT (hm.hr i) (hn.hr i)).1 (hR i (List.mem_range.2 hi))
    unfold reW reT
    rw [this]
  unfold memT wordsM numW endW timeT
  rw [hb, h1, h2, h3, h4, ht', hran, hfault]
theorem text_same {m n : Mm} (hm : m.Ok) (hn : n.Ok) : (memT m == memT n) = sameM m n := by
  cases h : sameM m n
  · rw [beq_eq_false_iff_ne]
    intro e
    rw [same_of_text hm hn e] at h
    cases h
  · rw [text_of_same hm hn h]; simp
end Go.Proofs.YtlflihegadjpdaaDoor

/- The document's MemSame of two memories. Helper text: no statement is claimed here. -/
namespace Go.Proofs.YtlflihegadjpdaaDoor
open Go.ChangeShapes Go.WideShapes Go.ChangeAt Go.RowKit Fl

/-- What is the same at one place of the three arrays. -/
def eqTC (m n : Mm) (i : Nat) : Prop := sv (m.r i) (n.r i) = true ∧ ((m.td i == n.td i) && ((m.tc i : Int) == (n.tc i : Int))) = true ∧ ((m.cd i == n.cd i) && ((m.cl i == n.cl i) && ((m.cc i : Int) == (n.cc i : Int)))) = true
theorem all_no {k : Nat} {f : Nat → Bool} {j : Nat} (hj : j < k) (h : f j = false) : (List.range k).all f = false := by
  rw [Bool.eq_false_iff]
  intro ha
  rw [List.all_eq_true] at ha
  rw [ha j (List.mem_range.2 hj)] at h
  cases h
theorem all_yes {k : Nat} {f : Nat → Bool} (h : ∀ j, j < k → f j = true) : (List.range k).all f = true := by
  rw [List.all_eq_true]
  exact fun j hj => h j (List.mem_range.1 hj)
theorem sameM_noR {m n : Mm} (h : sameR m n = false) : sameM m n = false := by simp only [sameM, h, Bool.false_and, Bool.and_false]
theorem sameM_noT {m n : Mm} (h : sameT m n = false) : sameM m n = false := by simp only [sameM, h, Bool.false_and, Bool.and_false]
theorem sameM_noC {m n : Mm} (h : sameC m n = false) : sameM m n = false := by simp only [sameM, h, Bool.false_and, Bool.and_false]
theorem sameM_noD {m n : Mm} (h : sameD m n = false) : sameM m n = false := by simp only [sameM, h, Bool.false_and, Bool.and_false]
/-- The eight tests behind the arrays. -/
def sameS (m n : Mm) : Bool := ((m.x : Int) == (n.x : Int)) && (((m.y : Int) == (n.y : Int)) && (((m.m : Int) == (n.m : Int)) && (((m.s : Int) == (n.s : Int)) && (((m.e : Int) == (n.e : Int)) && (((m.time : Int) == (n.time : Int)) && ((m.ran == n.ran) && ((m.fault == n.fault))))))))
theorem sameM_of {m n : Mm} (hr : sameR m n = true) (ht : sameT m n = true) (hc : sameC m n = true) (hd : sameD m n = true) : sameM m n = sameS m n := by
  simp only [sameM, sameS, hr, ht, hc, hd, Bool.true_and]

set_option maxHeartbeats 4000000 in
set_option maxRecDepth 100000 in
theorem sMemSame_any (m n : Mm) (hm : m.Ok) (hn : n.Ok) (w : World) :
    Calls Tryd.prog 8 #[m.val, n.val] w fun e w' => e = .returned (.bool (sameM m n)) ∧ Below w.heap.size w w' := by
  have HL : Hid (∀ j W, Calls Tryd.prog 22 #[.float .f64 (m.r j), .float .f64 (n.r j)] W fun e w' => e = .returned (.bool (sv (m.r j) (n.r j))) ∧ Below W.heap.size W w') := fun j W => l4Same_any _ _ W (hm.hr j) (hn.hr j)
  clear hm hn
  have hu : m.val = .agg m.cells := rfl
  have hv : n.val = .agg n.cells := rfl
  rw [hu, hv]
  clear hu hv
  go_enter Tryd.func8, Tryd.ntmps8
  go_wp2
  have HB0 : Hid (Below w.heap.size w ((w.alloc (.cells m.cells 37)).alloc (.cells n.cells 37))) := ((Below.refl _ _).alloc (Nat.le_refl _) _).alloc (by simp) _
  have HI0 : Hid (RowAt ((w.alloc (.cells m.cells 37)).alloc (.cells n.cells 37)) w.heap.size 37 136 m.cell) := (RowAt.new w _ 136 m.cell).alloc _
  have HJ0 : Hid (RowAt ((w.alloc (.cells m.cells 37)).alloc (.cells n.cells 37)) (w.heap.size + 1) 37 136 n.cell) := by
    have := RowAt.new (w.alloc (.cells m.cells 37)) 37 136 n.cell
    rw [show (w.alloc (.cells m.cells 37)).heap.size = w.heap.size + 1 by simp] at this
    exact this
  generalize ((w.alloc (.cells m.cells 37)).alloc (.cells n.cells 37)) = V at *
  go_loopw [5] (fun c w' => ∃ j : Nat, j ≤ 16 ∧ c = .int .i64 (j : Int) ∧ Hid (∀ i, i < j → eqTC m n i) ∧ Hid (Below w.heap.size w w') ∧ Hid (RowAt w' w.heap.size 37 136 m.cell) ∧ Hid (RowAt w' (w.heap.size + 1) 37 136 n.cell)) (fun c _ => 16 - (intOf c).toNat)
  case atStart => exact ⟨0, by omega, rfl, (fun i hi => absurd hi (by omega) : ∀ i, i < 0 → eqTC m n i), HB0, HI0, HJ0⟩
  case round =>
    obtain ⟨j, hj, rfl, HA, HBr, HIr, HJr⟩ := hrel
    clear HB0 HI0 HJ0
    by_cases hlt : j < 16
    · have hlt' : (j : Int) < 16 := by omega
      obtain ⟨b1, hb1⟩ : ∃ b, sv (m.r j) (n.r j) = b := ⟨_, rfl⟩
      obtain ⟨b2, hb2⟩ : ∃ b, ((m.td j == n.td j) && ((m.tc j : Int) == (n.tc j : Int))) = b := ⟨_, rfl⟩
      obtain ⟨b3, hb3⟩ : ∃ b, ((m.cd j == n.cd j) && ((m.cl j == n.cl j) && ((m.cc j : Int) == (n.cc j : Int)))) = b := ⟨_, rfl⟩
      have HN : Hid ((b1 && (b2 && b3)) = false → sameM m n = false) := fun h => by
        rcases Bool.and_eq_false_iff.1 h with h | h
        · exact sameM_noR (sameR_no hlt (hb1.trans h))
        · rcases Bool.and_eq_false_iff.1 h with h | h
          · exact sameM_noT (all_no hlt (hb2.trans h))
          · exact sameM_noC (all_no hlt (hb3.trans h))
      have HZ : Hid ((b1 && (b2 && b3)) = true → ∀ i, i < j + 1 → eqTC m n i) := fun h i hi => by
        simp only [Bool.and_eq_true] at h
        by_cases e : i = j
        · rw [e]; exact ⟨hb1.trans h.1, hb2.trans h.2.1, hb3.trans h.2.2⟩
        · exact HA.out i (by omega)
      have HC : Hid (∀ W, Calls Tryd.prog 22 #[.float .f64 (m.r j), .float .f64 (n.r j)] W fun e w' => e = .returned (.bool b1) ∧ Below W.heap.size W w') := fun W => hb1 ▸ HL.out j W
      have H2 : Hid (((m.td j == n.td j) && ((m.tc j : Int) == (n.tc j : Int))) = b2) := hb2
      have H3 : Hid (((m.cd j == n.cd j) && ((m.cl j == n.cl j) && ((m.cc j : Int) == (n.cc j : Int)))) = b3) := hb3
      clear hb1 hb2 hb3
      go_upto_region 4 with fail
      refine diff_region (m := m) (n := n) (j := j) (b1 := b1) (b2 := b2) (b3 := b3) Tryd.call22 HIr.out HJr.out hlt H2.out H3.out (fun W => HC.out W) ?_
      intro u11 u12 u13 u14 u15 u16 u17 u18 u19 u20 u21 u22 u23 u24 u25 u26 u27 u28 u29 u30 u31 u32 u33 u34 u35 u36 u37 u38 u39 u40 u41 wq hbq
      have HBq : Hid (Below w.heap.size w wq) := HBr.out.trans (hbq.mono HBr.out.size)
      have HIq : Hid (RowAt wq w.heap.size 37 136 m.cell) := HIr.out.to hbq
      have HJq : Hid (RowAt wq (w.heap.size + 1) 37 136 n.cell) := HJr.out.to hbq
      clear hbq H2 H3 HC HBr HIr HJr
      cases hc : (b1 && (b2 && b3))
      · have HN' : Hid (sameM m n = false) := HN.out hc
        clear HN HZ hc
        go_wp2
        go_ret
        exact ⟨by rw [HN'.out]; rfl, HBq.out⟩
      · have HZ' : Hid (∀ i, i < j + 1 → eqTC m n i) := HZ.out hc
        clear HN HZ hc
        go_wp2
        exact ⟨⟨j + 1, by omega, by go_num, HZ', HBq, HIq, HJq⟩, by simp [intOf]; omega⟩
    · obtain rfl : j = 16 := by omega
      have HSR : Hid (sameR m n = true ∧ sameT m n = true ∧ sameC m n = true) := ⟨sameR_yes fun j hj => (HA.out j hj).1, all_yes fun j hj => (HA.out j hj).2.1, all_yes fun j hj => (HA.out j hj).2.2⟩
      clear HA HL
      go_wp2
      go_loopw [6] (fun c w' => ∃ j : Nat, j ≤ 32 ∧ c = .int .i64 (j : Int) ∧ Hid (∀ i, i < j → (m.d i == n.d i) = true) ∧ Hid (Below w.heap.size w w') ∧ Hid (RowAt w' w.heap.size 37 136 m.cell) ∧ Hid (RowAt w' (w.heap.size + 1) 37 136 n.cell)) (fun c _ => 32 - (intOf c).toNat)
      case atStart => exact ⟨0, by omega, rfl, (fun i hi => absurd hi (by omega) : ∀ i, i < 0 → (m.d i == n.d i) = true), HBr, HIr, HJr⟩
      case round =>
        obtain ⟨j, hj, rfl, HA, HBs, HIs, HJs⟩ := hrel
        clear HBr HIr HJr
        by_cases hlt : j < 32
        · have hlt' : (j : Int) < 32 := by omega
          have HN : Hid ((m.d j == n.d j) = false → sameM m n = false) := fun h => sameM_noD (all_no hlt h)
          have HZ : Hid ((m.d j == n.d j) = true → ∀ i, i < j + 1 → (m.d i == n.d i) = true) := fun h i hi => by
            by_cases e : i = j
            · rw [e]; exact h
            · exact HA.out i (by omega)
          go_upto_region 9 with fail
          refine diffD_region (m := m) (n := n) (j := j) HIs.out HJs.out hlt ?_
          intro u47 u48 u49 u50 u51 u52 u53 u54 wq hbq
          have HBq : Hid (Below w.heap.size w wq) := HBs.out.trans (hbq.mono HBs.out.size)
          have HIq : Hid (RowAt wq w.heap.size 37 136 m.cell) := HIs.out.to hbq
          have HJq : Hid (RowAt wq (w.heap.size + 1) 37 136 n.cell) := HJs.out.to hbq
          clear hbq HBs HIs HJs
          cases hc : (m.d j == n.d j)
          · have hc' : (m.d j != n.d j) = true := by simp only [bne, hc]; rfl
            have HN' : Hid (sameM m n = false) := HN.out hc
            clear HN HZ hc
            rw [hc']
            clear hc'
            go_wp2
            go_ret
            exact ⟨by rw [HN'.out]; rfl, HBq.out⟩
          · have hc' : (m.d j != n.d j) = false := by simp only [bne, hc]; rfl
            have HZ' : Hid (∀ i, i < j + 1 → (m.d i == n.d i) = true) := HZ.out hc
            clear HN HZ hc
            rw [hc']
            clear hc'
            go_wp2
            exact ⟨⟨j + 1, by omega, by go_num, HZ', HBq, HIq, HJq⟩, by simp [intOf]; omega⟩
        · obtain rfl : j = 32 := by omega
          have HS : Hid (sameM m n = sameS m n) := sameM_of HSR.out.1 HSR.out.2.1 HSR.out.2.2 (all_yes HA.out)
          clear HSR HA
          have i0 : _ = some (.int .u32 (m.x : Int) : Value) := HIs.out.cell (i := 0) (by omega)
          have j0 : _ = some (.int .u32 (n.x : Int) : Value) := HJs.out.cell (i := 0) (by omega)
          have i1 : _ = some (.int .u32 (m.y : Int) : Value) := HIs.out.cell (i := 1) (by omega)
          have j1 : _ = some (.int .u32 (n.y : Int) : Value) := HJs.out.cell (i := 1) (by omega)
          have i2 : _ = some (.int .u64 (m.m : Int) : Value) := HIs.out.cell (i := 2) (by omega)
          have j2 : _ = some (.int .u64 (n.m : Int) : Value) := HJs.out.cell (i := 2) (by omega)
          have i3 : _ = some (.int .u16 (m.s : Int) : Value) := HIs.out.cell (i := 3) (by omega)
          have j3 : _ = some (.int .u16 (n.s : Int) : Value) := HJs.out.cell (i := 3) (by omega)
          have i4 : _ = some (.int .u32 (m.e : Int) : Value) := HIs.out.cell (i := 4) (by omega)
          have j4 : _ = some (.int .u32 (n.e : Int) : Value) := HJs.out.cell (i := 4) (by omega)
          have i5 : _ = some (.int .u32 (m.time : Int) : Value) := HIs.out.cell (i := 133) (by omega)
          have j5 : _ = some (.int .u32 (n.time : Int) : Value) := HJs.out.cell (i := 133) (by omega)
          have i6 : _ = some (.bool m.ran : Value) := HIs.out.cell (i := 134) (by omega)
          have j6 : _ = some (.bool n.ran : Value) := HJs.out.cell (i := 134) (by omega)
          have i7 : _ = some (.bool m.fault : Value) := HIs.out.cell (i := 135) (by omega)
          have j7 : _ = some (.bool n.fault : Value) := HJs.out.cell (i := 135) (by omega)
          unfold sameS at HS
          generalize (m.x : Int) = a0 at *
          generalize (n.x : Int) = b0 at *
          generalize (m.y : Int) = a1 at *
          generalize (n.y : Int) = b1 at *
          generalize (m.m : Int) = a2 at *
          generalize (n.m : Int) = b2 at *
          generalize (m.s : Int) = a3 at *
          generalize (n.s : Int) = b3 at *
          generalize (m.e : Int) = a4 at *
          generalize (n.e : Int) = b4 at *
          generalize (m.time : Int) = a5 at *
          generalize (n.time : Int) = b5 at *
          generalize m.ran = a6 at *
          generalize n.ran = b6 at *
          generalize m.fault = a7 at *
          generalize n.fault = b7 at *
          clear HIs HJs
          cases q0 : (a0 == b0)
          · have HF : Hid (sameM m n = false) := HS.out.trans (by simp only [q0, Bool.false_and])
            clear HS
            go_wp2
            go_ret
            exact ⟨by rw [HF.out]; rfl, HBs.out⟩
          cases q1 : (a1 == b1)
          · have HF : Hid (sameM m n = false) := HS.out.trans (by simp only [q0, q1, Bool.true_and, Bool.false_and])
            clear HS
            go_wp2
            go_ret
            exact ⟨by rw [HF.out]; rfl, HBs.out⟩
          cases q2 : (a2 == b2)
          · have HF : Hid (sameM m n = false) := HS.out.trans (by simp only [q0, q1, q2, Bool.true_and, Bool.false_and])
            clear HS
            go_wp2
            go_ret
            exact ⟨by rw [HF.out]; rfl, HBs.out⟩
          cases q3 : (a3 == b3)
          · have HF : Hid (sameM m n = false) := HS.out.trans (by simp only [q0, q1, q2, q3, Bool.true_and, Bool.false_and])
            clear HS
            go_wp2
            go_ret
            exact ⟨by rw [HF.out]; rfl, HBs.out⟩
          cases q4 : (a4 == b4)
          · have HF : Hid (sameM m n = false) := HS.out.trans (by simp only [q0, q1, q2, q3, q4, Bool.true_and, Bool.false_and])
            clear HS
            go_wp2
            go_ret
            exact ⟨by rw [HF.out]; rfl, HBs.out⟩
          cases q5 : (a5 == b5)
          · have HF : Hid (sameM m n = false) := HS.out.trans (by simp only [q0, q1, q2, q3, q4, q5, Bool.true_and, Bool.false_and])
            clear HS
            go_wp2
            go_ret
            exact ⟨by rw [HF.out]; rfl, HBs.out⟩
          cases q6 : (a6 == b6)
          · have HF : Hid (sameM m n = false) := HS.out.trans (by simp only [q0, q1, q2, q3, q4, q5, q6, Bool.true_and, Bool.false_and])
            clear HS
            go_wp2
            go_ret
            exact ⟨by rw [HF.out]; rfl, HBs.out⟩
          cases q7 : (a7 == b7)
          · have HF : Hid (sameM m n = false) := HS.out.trans (by simp only [q0, q1, q2, q3, q4, q5, q6, q7, Bool.true_and])
            clear HS
            go_wp2
            go_ret
            exact ⟨by rw [HF.out]; rfl, HBs.out⟩
          have HF : Hid (sameM m n = true) := HS.out.trans (by simp only [q0, q1, q2, q3, q4, q5, q6, q7, Bool.true_and])
          clear HS
          go_wp2
          go_ret
          exact ⟨by rw [HF.out]; rfl, HBs.out⟩
end Go.Proofs.YtlflihegadjpdaaDoor

/- Quiet steps at whole memories. Helper text: no statement is claimed here. -/
namespace Go.Proofs.YtlflihegadjpdaaDoor
open Go.ChangeShapes Go.WideShapes Go.ChangeAt Go.RowKit

theorem loadMemY {W : World} {b : Nat} {m : Mm} (h : MemAt W b m) : (loadVar 37 ⟨b, 0, none⟩).run Tryd.prog W = .ok m.val W := by
  have := run_loadVar_mid (P := Tryd.prog) W b 0 37 m.cells.toList _ h.range Tryd.underlying37 rfl (by rw [Array.length_toList, cells_size]; kernel_rfl)
  rwa [Array.toArray_toList] at this
/-- A whole memory is read, in every world of the class. -/
theorem wpQuiet_memLoad {ops : Array Oper} {C : World → Prop} {Q : Act → Prop} {rest : List Oper} {o : Oper} {a : Act} {b : Nat} {m : Mm} (hw : Region.wanted o (yielded ops a.tmps) = true) (x : Operand) (ho : o.op = .load 37 x) (hx : a.eval x = .pointer (some ⟨b, 0, none⟩))
    (hC : ∀ w', C w' → MemAt w' b m) (h : wpQuiet Tryd.prog ops C Q rest (a.put o.dst m.val)) : wpQuiet Tryd.prog ops C Q (o :: rest) a := by
  unfold wpQuiet
  rw [if_pos hw]
  refine ⟨m.val, fun w hw' => ?_, h⟩
  unfold Oper.quietAt execOp
  rw [ho]
  simp only [hx, Instr.loadAt, Instr.sureAddr, Sem.run_bind, Sem.run_pure, Result.andThen_ok, loadMemY (hC w hw')]
  exact ⟨rfl, rfl⟩
/-- A memory that lay there lies there in every world of the class. -/
theorem memY {w : World} {b : Nat} {m : Mm} (h : MemAt w b m) : ∀ w', (∃ p : Regrown, w' = Sort.grow (redrawn w p.d) p.os) → MemAt w' b m := by
  rintro w' ⟨p, rfl⟩
  exact h.to (below_regrown w p.d p.os)
/-- A contract that ends in Below, in every world of the class. -/
theorem callY {w : World} {f : FuncId} {args : Array Value} {v : Value} (h : ∀ W, Below w.heap.size w W → Calls Tryd.prog f args W fun e w' => e = .returned v ∧ Below W.heap.size W w') (d : Nat) (os : Array Obj) :
    Calls Tryd.prog f args (Sort.grow (redrawn w d) os) fun e w'' => e = .returned v ∧ ∃ p : Regrown, w'' = Sort.grow (redrawn w p.d) p.os :=
  Calls.regrown_of (h _ (below_regrown w d os))
end Go.Proofs.YtlflihegadjpdaaDoor

/- The walk of the law FnMemSame. Helper text: no statement is claimed here. -/
namespace Go.Proofs.YtlflihegadjpdaaDoor
open Go.ChangeShapes Go.WideShapes Go.ChangeAt Go.RowKit Fl

theorem sameM_comm {m n : Mm} (hm : m.Ok) (hn : n.Ok) : sameM n m = sameM m n := by
  rw [← text_same hn hm, ← text_same hm hn]
  exact Bool.beq_comm
theorem sameM_self {m : Mm} (hm : m.Ok) : sameM m m = true := by
  rw [← text_same hm hm]
  simp
/-- A whole memory is read, in every world of the class. -/
theorem wpQuiet_memLoadV {ops : Array Oper} {C : World → Prop} {Q : Act → Prop} {rest : List Oper} {o : Oper} {a : Act} {b : Nat} {v : Value} (hw : Region.wanted o (yielded ops a.tmps) = true) (x : Operand) (ho : o.op = .load 37 x) (hx : a.eval x = .pointer (some ⟨b, 0, none⟩))
    (hC : ∀ w', C w' → (loadVar 37 ⟨b, 0, none⟩).run Tryd.prog w' = .ok v w') (h : wpQuiet Tryd.prog ops C Q rest (a.put o.dst v)) : wpQuiet Tryd.prog ops C Q (o :: rest) a := by
  unfold wpQuiet
  rw [if_pos hw]
  refine ⟨v, fun w hw' => ?_, h⟩
  unfold Oper.quietAt execOp
  rw [ho]
  simp only [hx, Instr.loadAt, Instr.sureAddr, Sem.run_bind, Sem.run_pure, Result.andThen_ok, hC w hw']
  exact ⟨rfl, rfl⟩
theorem HN2 (w1 w2 : World) (hk : ∀ j, j ≠ w1.heap.size → w2.heap[j]? = ((w1.alloc (.cells zeroM.cells 37)).alloc (.cells zeroM.cells 37)).heap[j]?) : RowAt w2 (w1.heap.size + 1) 37 136 zeroM.cell := by
  have := RowAt.new (w1.alloc (.cells zeroM.cells 37)) 37 136 zeroM.cell
  rw [show (w1.alloc (.cells zeroM.cells 37)).heap.size = w1.heap.size + 1 by simp] at this
  exact RowAt.by this (hk _ (by omega))
set_option maxHeartbeats 4000000 in
set_option maxRecDepth 100000 in
theorem sameLaw_walk (a : Option Addr) (len cap : Nat) (w : World) (h : IsRow w a len) (hlc : len ≤ cap) (hT : DevTab w) (hP : PowTab w) :
    Calls Tryd.prog 3 #[.slice a len cap] w fun e w' => e = .returned (.bool true) ∧ Below w.heap.size w w' := by
  have HT : Hid (DevTab w) := hT
  have HP : Hid (PowTab w) := hP
  have HH : Hid (IsRow w a len) := h
  have hz : ∀ w, (zeroValue 37).run Tryd.prog w = .ok (.agg zeroM.cells) w := fun _ => by kernel_rfl
  clear hT hP h
  by_cases hl : (1048576 : Int) < (len : Int)
  · go_enter Tryd.func3, Tryd.ntmps3
    go_wp2
    go_ret
    exact ⟨rfl, Below.refl _ _⟩
  go_enter Tryd.func3, Tryd.ntmps3
  go_wp2_with fail
  refine (drawSame_any a len cap _ HH.out hlc).mono ?_
  rintro e w1 ⟨m, n, rfl, hm, hn, hb1⟩
  have HB1 : Hid (Below w.heap.size w w1) := hb1
  have hle : w.heap.size ≤ w1.heap.size := hb1.size
  clear hb1 HH
  have HS1 : Hid (∀ W, Calls Tryd.prog 6 #[m.val, n.val] W fun e w' => e = .returned (.bool (sameM m n)) ∧ Below W.heap.size W w') := fun W => memSame_any m n hm hn W
  have HS2 : Hid (∀ W, Calls Tryd.prog 6 #[n.val, m.val] W fun e w' => e = .returned (.bool (sameM m n)) ∧ Below W.heap.size W w') := fun W => by
    rw [← sameM_comm hm hn]; exact memSame_any n m hn hm W
  have HS3 : Hid (∀ W, Calls Tryd.prog 6 #[m.val, m.val] W fun e w' => e = .returned (.bool true) ∧ Below W.heap.size W w') := fun W => by
    rw [← sameM_self hm]; exact memSame_any m m hm hm W
  have HS4 : Hid (∀ W, Calls Tryd.prog 8 #[m.val, n.val] W fun e w' => e = .returned (.bool (sameM m n)) ∧ Below W.heap.size W w') := fun W => sMemSame_any m n hm hn W
  have HX1 : Hid (∀ W, DevTab W → PowTab W → Calls Tryd.prog 7 #[m.val] W fun e w' => e = .returned (.string ⟨(memT m).toArray⟩) ∧ Below W.heap.size W w') := fun W h1 h2 => itextM_any m hm W h1 h2
  have HX2 : Hid (∀ W, DevTab W → PowTab W → Calls Tryd.prog 7 #[n.val] W fun e w' => e = .returned (.string ⟨(memT n).toArray⟩) ∧ Below W.heap.size W w') := fun W h1 h2 => itextM_any n hn W h1 h2
  have hts : (memT m == memT n) = sameM m n := text_same hm hn
  clear hm hn
  generalize sameM m n = s at *
  generalize memT m = tm at *
  generalize memT n = tn at *
  go_upto_region 4 with (first
    | (refine wpList_rowStore rfl 37 (.tmp 3) (.tmp 12) rfl w1.heap.size 0 136 m.cell m.cell rfl rfl ((RowAt.new w1 37 136 zeroM.cell).alloc _) (by omega) (fun i _ => cell_one m i) (fun i hi => by rw [if_pos ⟨by omega, by omega⟩, Nat.sub_zero]) (by kernel_rfl) ?_; intro w2 HZ2 hz2 hk2 hb2)
    | (refine wpList_rowStore rfl 37 (.tmp 4) (.tmp 13) rfl (w1.heap.size + 1) 0 136 n.cell n.cell rfl rfl (HN2 w1 w2 hk2) (by omega) (fun i _ => cell_one n i) (fun i hi => by rw [if_pos ⟨by omega, by omega⟩, Nat.sub_zero]) (by kernel_rfl) ?_; intro w3 HZ3 hz3 hk3 hb3))
  have HM : Hid (MemAt w3 w1.heap.size m) := RowAt.by HZ2 (hk3 _ (by omega))
  have HN : Hid (MemAt w3 (w1.heap.size + 1) n) := HZ3
  have HB3 : Hid (Below w.heap.size w w3) := hb3 _ _ (hb2 _ _ ((HB1.out.alloc hle _).alloc (by simp; omega) _) hle) (by omega)
  clear HZ2 hz2 hk2 hb2 HZ3 hz3 hk3 hb3 HB1 hz
  obtain ⟨B, hB⟩ : ∃ B, B = w1.heap.size := ⟨_, rfl⟩
  rw [← hB] at HM HN hle ⊢
  clear hB
  simp only [Act.put]
  go_wp2_with (first
    | (refine wpList_rowLoad rfl 37 (.tmp 3) rfl _ 0 136 m.cell rfl HM.out (by omega) (fun i _ => by rw [Nat.zero_add]) Tryd.underlying37 rfl (by kernel_rfl) ?_)
    | (refine wpList_rowLoad rfl 37 (.tmp 4) rfl _ 0 136 n.cell rfl HN.out (by omega) (fun i _ => by rw [Nat.zero_add]) Tryd.underlying37 rfl (by kernel_rfl) ?_)
    | fail)
  refine (HS1.out _).mono ?_
  rintro e w4 ⟨rfl, hb4⟩
  have HM4 : Hid (MemAt w4 B m) := HM.out.to hb4
  have HN4 : Hid (MemAt w4 (B + 1) n) := HN.out.to hb4
  have HB4 : Hid (Below w.heap.size w w4) := HB3.out.trans (hb4.mono HB3.out.size)
  clear hb4 HM HN HB3 HS1
  have HCM : Hid (∀ w', (∃ p : Regrown, w' = Sort.grow (redrawn w4 p.d) p.os) → (loadVar 37 ⟨B, 0, none⟩).run Tryd.prog w' = .ok m.val w') := fun w' h => loadMemY (memY HM4.out w' h)
  have HCN : Hid (∀ w', (∃ p : Regrown, w' = Sort.grow (redrawn w4 p.d) p.os) → (loadVar 37 ⟨B + 1, 0, none⟩).run Tryd.prog w' = .ok n.val w') := fun w' h => loadMemY (memY HN4.out w' h)
  have HTT : Hid (∀ W, Below w4.heap.size w4 W → DevTab W ∧ PowTab W) := fun W hW => ⟨HT.out.to (HB4.out.trans (hW.mono HB4.out.size)), HP.out.to (HB4.out.trans (hW.mono HB4.out.size))⟩
  have C1 : Hid (∀ (d : Nat) (os : Array Obj), Calls Tryd.prog 6 #[n.val, m.val] (Sort.grow (redrawn w4 d) os) fun e w'' => e = .returned (.bool s) ∧ ∃ p' : Regrown, w'' = Sort.grow (redrawn w4 p'.d) p'.os) := fun d os => callY (fun W _ => HS2.out W) d os
  have C2 : Hid (∀ (d : Nat) (os : Array Obj), Calls Tryd.prog 7 #[m.val] (Sort.grow (redrawn w4 d) os) fun e w'' => e = .returned (.string ⟨tm.toArray⟩) ∧ ∃ p' : Regrown, w'' = Sort.grow (redrawn w4 p'.d) p'.os) := fun d os => callY (fun W hW => HX1.out W (HTT.out W hW).1 (HTT.out W hW).2) d os
  have C3 : Hid (∀ (d : Nat) (os : Array Obj), Calls Tryd.prog 7 #[n.val] (Sort.grow (redrawn w4 d) os) fun e w'' => e = .returned (.string ⟨tn.toArray⟩) ∧ ∃ p' : Regrown, w'' = Sort.grow (redrawn w4 p'.d) p'.os) := fun d os => callY (fun W hW => HX2.out W (HTT.out W hW).1 (HTT.out W hW).2) d os
  have C4 : Hid (∀ (d : Nat) (os : Array Obj), Calls Tryd.prog 8 #[m.val, n.val] (Sort.grow (redrawn w4 d) os) fun e w'' => e = .returned (.bool s) ∧ ∃ p' : Regrown, w'' = Sort.grow (redrawn w4 p'.d) p'.os) := fun d os => callY (fun W _ => HS4.out W) d os
  have C5 : Hid (∀ (d : Nat) (os : Array Obj), Calls Tryd.prog 6 #[m.val, m.val] (Sort.grow (redrawn w4 d) os) fun e w'' => e = .returned (.bool true) ∧ ∃ p' : Regrown, w'' = Sort.grow (redrawn w4 p'.d) p'.os) := fun d os => callY (fun W _ => HS3.out W) d os
  have hss : (s == s) = true := by simp
  clear HS2 HS3 HS4 HX1 HX2 HTT HT HP
  go_upto_region 5 with fail
  clear HM4 HN4
  generalize m.val = vm at *
  generalize n.val = vn at *
  refine wp_region_quiet_below (by kernel_rfl) (by kernel_rfl) ?_
  repeat (first | (refine wpQuiet_memLoadV (by rfl) (.tmp 3) (by rfl) (by rfl) HCM.out ?_; simp only [Act.put, List.setIfInBounds_toArray, List.set_cons_zero, List.set_cons_succ]) | (refine wpQuiet_memLoadV (by rfl) (.tmp 4) (by rfl) (by rfl) HCN.out ?_; simp only [Act.put, List.setIfInBounds_toArray, List.set_cons_zero, List.set_cons_succ]) | go_big_quiet_step ((first | with_reducible exact C1.out _ _ | with_reducible exact C2.out _ _ | with_reducible exact C3.out _ _ | with_reducible exact C4.out _ _ | with_reducible exact C5.out _ _)) | quiet_step ((first | with_reducible exact C1.out _ _ | with_reducible exact C2.out _ _ | with_reducible exact C3.out _ _ | with_reducible exact C4.out _ _ | with_reducible exact C5.out _ _)))
  refine wpQuiet_nil ?_
  intro _ hw'
  obtain ⟨⟨dq, osq⟩, hw''⟩ := hw'
  subst hw''
  have HB5 : Hid (Below w.heap.size w _) := HB4.out.trans ((below_regrown _ dq osq).mono HB4.out.size)
  go_wp2
  go_ret
  exact ⟨rfl, HB5.out⟩
end Go.Proofs.YtlflihegadjpdaaDoor
