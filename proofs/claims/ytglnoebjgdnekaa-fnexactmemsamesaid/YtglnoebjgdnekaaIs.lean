/- The document's MemSame of two memories. Helper text: no statement is claimed here. -/
import Derived.Test.YtglnoebjgdnekaaIm
namespace Go.Proofs.Ytglnoebjgdnekaa
open Go.ChangeShapes Go.WideShapes Go.ChangeAt Go.RowKit Fl

/-- What is the same at one place of the three arrays. -/
def eqTC (m n : Mm) (i : Nat) : Prop := sv (m.r i) (n.r i) = true ∧ ((m.td i == n.td i) && ((m.tc i : Int) == (n.tc i : Int))) = true ∧ ((m.cd i == n.cd i) && ((m.cl i == n.cl i) && ((m.cc i : Int) == (n.cc i : Int)))) = true
theorem all_no {k : Nat} {f : Nat → Bool} {j : Nat} (hj : j < k) (h : f j = false) : (List.range k).all f = false := by
  rw [Bool.eq_false_iff]
  intro ha
  rw [List.all_eq_true] at ha
  rw [ha j (List.mem_range.2 hj)] at h
  cases h
theorem all_yes {k : Nat} {f : Nat → Bool} (h : ∀ j, j < k → f j = true) : (List.range k).all f = true := by
  rw [List.all_eq_true]
  exact fun j hj => h j (List.mem_range.1 hj)
theorem sameM_noR {m n : Mm} (h : sameR m n = false) : sameM m n = false := by simp only [sameM, h, Bool.false_and, Bool.and_false]
theorem sameM_noT {m n : Mm} (h : sameT m n = false) : sameM m n = false := by simp only [sameM, h, Bool.false_and, Bool.and_false]
theorem sameM_noC {m n : Mm} (h : sameC m n = false) : sameM m n = false := by simp only [sameM, h, Bool.false_and, Bool.and_false]
theorem sameM_noD {m n : Mm} (h : sameD m n = false) : sameM m n = false := by simp only [sameM, h, Bool.false_and, Bool.and_false]
/-- The eight tests behind the arrays. -/
def sameS (m n : Mm) : Bool := ((m.x : Int) == (n.x : Int)) && (((m.y : Int) == (n.y : Int)) && (((m.m : Int) == (n.m : Int)) && (((m.s : Int) == (n.s : Int)) && (((m.e : Int) == (n.e : Int)) && (((m.time : Int) == (n.time : Int)) && ((m.ran == n.ran) && ((m.fault == n.fault))))))))
theorem sameM_of {m n : Mm} (hr : sameR m n = true) (ht : sameT m n = true) (hc : sameC m n = true) (hd : sameD m n = true) : sameM m n = sameS m n := by
  simp only [sameM, sameS, hr, ht, hc, hd, Bool.true_and]

set_option maxHeartbeats 4000000 in
set_option maxRecDepth 100000 in
theorem sMemSame_any (m n : Mm) (hm : m.Ok) (hn : n.Ok) (w : World) :
    Calls Try.prog 4 #[m.val, n.val] w fun e w' => e = .returned (.bool (sameM m n)) ∧ Below w.heap.size w w' := by
  have HL : Hid (∀ j W, Calls Try.prog 7 #[.float .f64 (m.r j), .float .f64 (n.r j)] W fun e w' => e = .returned (.bool (sv (m.r j) (n.r j))) ∧ Below W.heap.size W w') := fun j W => l4Same_any _ _ W (hm.hr j) (hn.hr j)
  clear hm hn
  have hu : m.val = .agg m.cells := rfl
  have hv : n.val = .agg n.cells := rfl
  rw [hu, hv]
  clear hu hv
  go_enter Try.func4, Try.ntmps4
  go_wp2
  have HB0 : Hid (Below w.heap.size w ((w.alloc (.cells m.cells 43)).alloc (.cells n.cells 43))) := ((Below.refl _ _).alloc (Nat.le_refl _) _).alloc (by simp) _
  have HI0 : Hid (RowAt ((w.alloc (.cells m.cells 43)).alloc (.cells n.cells 43)) w.heap.size 43 136 m.cell) := (RowAt.new w _ 136 m.cell).alloc _
  have HJ0 : Hid (RowAt ((w.alloc (.cells m.cells 43)).alloc (.cells n.cells 43)) (w.heap.size + 1) 43 136 n.cell) := by
    have := RowAt.new (w.alloc (.cells m.cells 43)) 43 136 n.cell
    rw [show (w.alloc (.cells m.cells 43)).heap.size = w.heap.size + 1 by simp] at this
    exact this
  generalize ((w.alloc (.cells m.cells 43)).alloc (.cells n.cells 43)) = V at *
  go_loopw [5] (fun c w' => ∃ j : Nat, j ≤ 16 ∧ c = .int .i64 (j : Int) ∧ Hid (∀ i, i < j → eqTC m n i) ∧ Hid (Below w.heap.size w w') ∧ Hid (RowAt w' w.heap.size 43 136 m.cell) ∧ Hid (RowAt w' (w.heap.size + 1) 43 136 n.cell)) (fun c _ => 16 - (intOf c).toNat)
  case atStart => exact ⟨0, by omega, rfl, (fun i hi => absurd hi (by omega) : ∀ i, i < 0 → eqTC m n i), HB0, HI0, HJ0⟩
  case round =>
    obtain ⟨j, hj, rfl, HA, HBr, HIr, HJr⟩ := hrel
    clear HB0 HI0 HJ0
    by_cases hlt : j < 16
    · have hlt' : (j : Int) < 16 := by omega
      obtain ⟨b1, hb1⟩ : ∃ b, sv (m.r j) (n.r j) = b := ⟨_, rfl⟩
      obtain ⟨b2, hb2⟩ : ∃ b, ((m.td j == n.td j) && ((m.tc j : Int) == (n.tc j : Int))) = b := ⟨_, rfl⟩
      obtain ⟨b3, hb3⟩ : ∃ b, ((m.cd j == n.cd j) && ((m.cl j == n.cl j) && ((m.cc j : Int) == (n.cc j : Int)))) = b := ⟨_, rfl⟩
      have HN : Hid ((b1 && (b2 && b3)) = false → sameM m n = false) := fun h => by
        rcases Bool.and_eq_false_iff.1 h with h | h
        · exact sameM_noR (sameR_no hlt (hb1.trans h))
        · rcases Bool.and_eq_false_iff.1 h with h | h
          · exact sameM_noT (all_no hlt (hb2.trans h))
          · exact sameM_noC (all_no hlt (hb3.trans h))
      have HZ : Hid ((b1 && (b2 && b3)) = true → ∀ i, i < j + 1 → eqTC m n i) := fun h i hi => by
        simp only [Bool.and_eq_true] at h
        by_cases e : i = j
        · rw [e]; exact ⟨hb1.trans h.1, hb2.trans h.2.1, hb3.trans h.2.2⟩
        · exact HA.out i (by omega)
      have HC : Hid (∀ W, Calls Try.prog 7 #[.float .f64 (m.r j), .float .f64 (n.r j)] W fun e w' => e = .returned (.bool b1) ∧ Below W.heap.size W w') := fun W => hb1 ▸ HL.out j W
      have H2 : Hid (((m.td j == n.td j) && ((m.tc j : Int) == (n.tc j : Int))) = b2) := hb2
      have H3 : Hid (((m.cd j == n.cd j) && ((m.cl j == n.cl j) && ((m.cc j : Int) == (n.cc j : Int)))) = b3) := hb3
      clear hb1 hb2 hb3
      go_upto_region 4 with fail
      refine diff_region (m := m) (n := n) (j := j) (b1 := b1) (b2 := b2) (b3 := b3) Try.call7 HIr.out HJr.out hlt H2.out H3.out (fun W => HC.out W) ?_
      intro u11 u12 u13 u14 u15 u16 u17 u18 u19 u20 u21 u22 u23 u24 u25 u26 u27 u28 u29 u30 u31 u32 u33 u34 u35 u36 u37 u38 u39 u40 u41 wq hbq
      have HBq : Hid (Below w.heap.size w wq) := HBr.out.trans (hbq.mono HBr.out.size)
      have HIq : Hid (RowAt wq w.heap.size 43 136 m.cell) := HIr.out.to hbq
      have HJq : Hid (RowAt wq (w.heap.size + 1) 43 136 n.cell) := HJr.out.to hbq
      clear hbq H2 H3 HC HBr HIr HJr
      cases hc : (b1 && (b2 && b3))
      · have HN' : Hid (sameM m n = false) := HN.out hc
        clear HN HZ hc
        go_wp2
        go_ret
        exact ⟨by rw [HN'.out]; rfl, HBq.out⟩
      · have HZ' : Hid (∀ i, i < j + 1 → eqTC m n i) := HZ.out hc
        clear HN HZ hc
        go_wp2
        exact ⟨⟨j + 1, by omega, by go_num, HZ', HBq, HIq, HJq⟩, by simp [intOf]; omega⟩
    · obtain rfl : j = 16 := by omega
      have HSR : Hid (sameR m n = true ∧ sameT m n = true ∧ sameC m n = true) := ⟨sameR_yes fun j hj => (HA.out j hj).1, all_yes fun j hj => (HA.out j hj).2.1, all_yes fun j hj => (HA.out j hj).2.2⟩
      clear HA HL
      go_wp2
      go_loopw [6] (fun c w' => ∃ j : Nat, j ≤ 32 ∧ c = .int .i64 (j : Int) ∧ Hid (∀ i, i < j → (m.d i == n.d i) = true) ∧ Hid (Below w.heap.size w w') ∧ Hid (RowAt w' w.heap.size 43 136 m.cell) ∧ Hid (RowAt w' (w.heap.size + 1) 43 136 n.cell)) (fun c _ => 32 - (intOf c).toNat)
      case atStart => exact ⟨0, by omega, rfl, (fun i hi => absurd hi (by omega) : ∀ i, i < 0 → (m.d i == n.d i) = true), HBr, HIr, HJr⟩
      case round =>
        obtain ⟨j, hj, rfl, HA, HBs, HIs, HJs⟩ := hrel
        clear HBr HIr HJr
        by_cases hlt : j < 32
        · have hlt' : (j : Int) < 32 := by omega
          have HN : Hid ((m.d j == n.d j) = false → sameM m n = false) := fun h => sameM_noD (all_no hlt h)
          have HZ : Hid ((m.d j == n.d j) = true → ∀ i, i < j + 1 → (m.d i == n.d i) = true) := fun h i hi => by
            by_cases e : i = j
            · rw [e]; exact h
            · exact HA.out i (by omega)
          go_upto_region 9 with fail
          refine diffD_region (m := m) (n := n) (j := j) HIs.out HJs.out hlt ?_
          intro u47 u48 u49 u50 u51 u52 u53 u54 wq hbq
          have HBq : Hid (Below w.heap.size w wq) := HBs.out.trans (hbq.mono HBs.out.size)
          have HIq : Hid (RowAt wq w.heap.size 43 136 m.cell) := HIs.out.to hbq
          have HJq : Hid (RowAt wq (w.heap.size + 1) 43 136 n.cell) := HJs.out.to hbq
          clear hbq HBs HIs HJs
          cases hc : (m.d j == n.d j)
          · have hc' : (m.d j != n.d j) = true := by simp only [bne, hc]; rfl
            have HN' : Hid (sameM m n = false) := HN.out hc
            clear HN HZ hc
            rw [hc']
            clear hc'
            go_wp2
            go_ret
            exact ⟨by rw [HN'.out]; rfl, HBq.out⟩
          · have hc' : (m.d j != n.d j) = false := by simp only [bne, hc]; rfl
            have HZ' : Hid (∀ i, i < j + 1 → (m.d i == n.d i) = true) := HZ.out hc
            clear HN HZ hc
            rw [hc']
            clear hc'
            go_wp2
            exact ⟨⟨j + 1, by omega, by go_num, HZ', HBq, HIq, HJq⟩, by simp [intOf]; omega⟩
        · obtain rfl : j = 32 := by omega
          have HS : Hid (sameM m n = sameS m n) := sameM_of HSR.out.1 HSR.out.2.1 HSR.out.2.2 (all_yes HA.out)
          clear HSR HA
          have i0 : _ = some (.int .u32 (m.x : Int) : Value) := HIs.out.cell (i := 0) (by omega)
          have j0 : _ = some (.int .u32 (n.x : Int) : Value) := HJs.out.cell (i := 0) (by omega)
          have i1 : _ = some (.int .u32 (m.y : Int) : Value) := HIs.out.cell (i := 1) (by omega)
          have j1 : _ = some (.int .u32 (n.y : Int) : Value) := HJs.out.cell (i := 1) (by omega)
          have i2 : _ = some (.int .u64 (m.m : Int) : Value) := HIs.out.cell (i := 2) (by omega)
          have j2 : _ = some (.int .u64 (n.m : Int) : Value) := HJs.out.cell (i := 2) (by omega)
          have i3 : _ = some (.int .u16 (m.s : Int) : Value) := HIs.out.cell (i := 3) (by omega)
          have j3 : _ = some (.int .u16 (n.s : Int) : Value) := HJs.out.cell (i := 3) (by omega)
          have i4 : _ = some (.int .u32 (m.e : Int) : Value) := HIs.out.cell (i := 4) (by omega)
          have j4 : _ = some (.int .u32 (n.e : Int) : Value) := HJs.out.cell (i := 4) (by omega)
          have i5 : _ = some (.int .u32 (m.time : Int) : Value) := HIs.out.cell (i := 133) (by omega)
          have j5 : _ = some (.int .u32 (n.time : Int) : Value) := HJs.out.cell (i := 133) (by omega)
          have i6 : _ = some (.bool m.ran : Value) := HIs.out.cell (i := 134) (by omega)
          have j6 : _ = some (.bool n.ran : Value) := HJs.out.cell (i := 134) (by omega)
          have i7 : _ = some (.bool m.fault : Value) := HIs.out.cell (i := 135) (by omega)
          have j7 : _ = some (.bool n.fault : Value) := HJs.out.cell (i := 135) (by omega)
          unfold sameS at HS
          generalize (m.x : Int) = a0 at *
          generalize (n.x : Int) = b0 at *
          generalize (m.y : Int) = a1 at *
          generalize (n.y : Int) = b1 at *
          generalize (m.m : Int) = a2 at *
          generalize (n.m : Int) = b2 at *
          generalize (m.s : Int) = a3 at *
          generalize (n.s : Int) = b3 at *
          generalize (m.e : Int) = a4 at *
          generalize (n.e : Int) = b4 at *
          generalize (m.time : Int) = a5 at *
          generalize (n.time : Int) = b5 at *
          generalize m.ran = a6 at *
          generalize n.ran = b6 at *
          generalize m.fault = a7 at *
          generalize n.fault = b7 at *
          clear HIs HJs
          cases q0 : (a0 == b0)
          · have HF : Hid (sameM m n = false) := HS.out.trans (by simp only [q0, Bool.false_and])
            clear HS
            go_wp2
            go_ret
            exact ⟨by rw [HF.out]; rfl, HBs.out⟩
          cases q1 : (a1 == b1)
          · have HF : Hid (sameM m n = false) := HS.out.trans (by simp only [q0, q1, Bool.true_and, Bool.false_and])
            clear HS
            go_wp2
            go_ret
            exact ⟨by rw [HF.out]; rfl, HBs.out⟩
          cases q2 : (a2 == b2)
          · have HF : Hid (sameM m n = false) := HS.out.trans (by simp only [q0, q1, q2, Bool.true_and, Bool.false_and])
            clear HS
            go_wp2
            go_ret
            exact ⟨by rw [HF.out]; rfl, HBs.out⟩
          cases q3 : (a3 == b3)
          · have HF : Hid (sameM m n = false) := HS.out.trans (by simp only [q0, q1, q2, q3, Bool.true_and, Bool.false_and])
            clear HS
            go_wp2
            go_ret
            exact ⟨by rw [HF.out]; rfl, HBs.out⟩
          cases q4 : (a4 == b4)
          · have HF : Hid (sameM m n = false) := HS.out.trans (by simp only [q0, q1, q2, q3, q4, Bool.true_and, Bool.false_and])
            clear HS
            go_wp2
            go_ret
            exact ⟨by rw [HF.out]; rfl, HBs.out⟩
          cases q5 : (a5 == b5)
          · have HF : Hid (sameM m n = false) := HS.out.trans (by simp only [q0, q1, q2, q3, q4, q5, Bool.true_and, Bool.false_and])
            clear HS
            go_wp2
            go_ret
            exact ⟨by rw [HF.out]; rfl, HBs.out⟩
          cases q6 : (a6 == b6)
          · have HF : Hid (sameM m n = false) := HS.out.trans (by simp only [q0, q1, q2, q3, q4, q5, q6, Bool.true_and, Bool.false_and])
            clear HS
            go_wp2
            go_ret
            exact ⟨by rw [HF.out]; rfl, HBs.out⟩
          cases q7 : (a7 == b7)
          · have HF : Hid (sameM m n = false) := HS.out.trans (by simp only [q0, q1, q2, q3, q4, q5, q6, q7, Bool.true_and])
            clear HS
            go_wp2
            go_ret
            exact ⟨by rw [HF.out]; rfl, HBs.out⟩
          have HF : Hid (sameM m n = true) := HS.out.trans (by simp only [q0, q1, q2, q3, q4, q5, q6, q7, Bool.true_and])
          clear HS
          go_wp2
          go_ret
          exact ⟨by rw [HF.out]; rfl, HBs.out⟩
end Go.Proofs.Ytglnoebjgdnekaa
