/- The document's MemSame of two memories. Helper text: no statement is claimed here. -/
import Derived.Test.YtjacgamgjjpllaaGreatDoorIm
import Derived.Test.YtjacgamgjjpllaaGreatDoorP30
import Derived.Test.YtjacgamgjjpllaaGreatDoorP34
import Derived.Test.YtjacgamgjjpllaaGreatDoorP05
namespace Go.Proofs.YtjacgamgjjpllaaGreatDoor
open Go.ChangeShapes Go.WideShapes Go.ChangeAt Go.RowKit Fl

/-- What is the same at one place of the three arrays. -/
def eqTC (m n : Mm) (i : Nat) : Prop := sv (m.r i) (n.r i) = true ∧ ((m.td i == n.td i) && ((m.tc i : Int) == (n.tc i : Int))) = true ∧ ((m.cd i == n.cd i) && ((m.cl i == n.cl i) && ((m.cc i : Int) == (n.cc i : Int)))) = true
theorem all_no {k : Nat} {f : Nat → Bool} {j : Nat} (hj : j < k) (h : f j = false) : (List.range k).all f = false := by
  rw [Bool.eq_false_iff]
  intro ha
  rw [List.all_eq_true] at ha
  rw [ha j (List.mem_range.2 hj)] at h
  cases h
theorem all_yes {k : Nat} {f : Nat → Bool} (h : ∀ j, j < k → f j = true) : (List.range k).all f = true := by
  rw [List.all_eq_true]
  exact fun j hj => h j (List.mem_range.1 hj)
theorem sameM_noR {m n : Mm} (h : sameR m n = false) : sameM m n = false := by simp only [sameM, h, Bool.false_and, Bool.and_false]
theorem sameM_noT {m n : Mm} (h : sameT m n = false) : sameM m n = false := by simp only [sameM, h, Bool.false_and, Bool.and_false]
theorem sameM_noC {m n : Mm} (h : sameC m n = false) : sameM m n = false := by simp only [sameM, h, Bool.false_and, Bool.and_false]
theorem sameM_noD {m n : Mm} (h : sameD m n = false) : sameM m n = false := by simp only [sameM, h, Bool.false_and, Bool.and_false]
/-- The eight tests behind the arrays. -/
def sameS (m n : Mm) : Bool := ((m.x : Int) == (n.x : Int)) && (((m.y : Int) == (n.y : Int)) && (((m.m : Int) == (n.m : Int)) && (((m.s : Int) == (n.s : Int)) && (((m.e : Int) == (n.e : Int)) && (((m.time : Int) == (n.time : Int)) && ((m.ran == n.ran) && ((m.fault == n.fault))))))))
theorem sameM_of {m n : Mm} (hr : sameR m n = true) (ht : sameT m n = true) (hc : sameC m n = true) (hd : sameD m n = true) : sameM m n = sameS m n := by
  simp only [sameM, sameS, hr, ht, hc, hd, Bool.true_and]

set_option maxHeartbeats 4000000 in
set_option maxRecDepth 100000 in
theorem sMemSame_any (m n : Mm) (hm : m.Ok) (hn : n.Ok) (w : World) :
    Calls Tryz.prog 8 #[m.val, n.val] w fun e w' => e = .returned (.bool (sameM m n)) ∧ Below w.heap.size w w' := by
  have HL : Hid (∀ j W, Calls Tryz.prog 20 #[.float .f64 (m.r j), .float .f64 (n.r j)] W fun e w' => e = .returned (.bool (sv (m.r j) (n.r j))) ∧ Below W.heap.size W w') := fun j W => l4Same_any _ _ W (hm.hr j) (hn.hr j)
  clear hm hn
  have hu : m.val = .agg m.cells := rfl
  have hv : n.val = .agg n.cells := rfl
  rw [hu, hv]
  clear hu hv
  go_enter Tryz.func8, Tryz.ntmps8
  go_wp2
  have HB0 : Hid (Below w.heap.size w ((w.alloc (.cells m.cells 37)).alloc (.cells n.cells 37))) := ((Below.refl _ _).alloc (Nat.le_refl _) _).alloc (by simp) _
  have HI0 : Hid (RowAt ((w.alloc (.cells m.cells 37)).alloc (.cells n.cells 37)) w.heap.size 37 136 m.cell) := (RowAt.new w _ 136 m.cell).alloc _
  have HJ0 : Hid (RowAt ((w.alloc (.cells m.cells 37)).alloc (.cells n.cells 37)) (w.heap.size + 1) 37 136 n.cell) := by
    have := RowAt.new (w.alloc (.cells m.cells 37)) 37 136 n.cell
    rw [show (w.alloc (.cells m.cells 37)).heap.size = w.heap.size + 1 by simp] at this
    exact this
  generalize ((w.alloc (.cells m.cells 37)).alloc (.cells n.cells 37)) = V at *
  go_loopw [5] (fun c w' => ∃ j : Nat, j ≤ 16 ∧ c = .int .i64 (j : Int) ∧ Hid (∀ i, i < j → eqTC m n i) ∧ Hid (Below w.heap.size w w') ∧ Hid (RowAt w' w.heap.size 37 136 m.cell) ∧ Hid (RowAt w' (w.heap.size + 1) 37 136 n.cell)) (fun c _ => 16 - (intOf c).toNat)
  case atStart => exact ⟨0, by omega, rfl, (fun i hi => absurd hi (by omega) : ∀ i, i < 0 → eqTC m n i), HB0, HI0, HJ0⟩
  case round =>
    obtain ⟨j, hj, rfl, HA, HBr, HIr, HJr⟩ := hrel
    clear HB0 HI0 HJ0
    by_cases hlt : j < 16
    · have hlt' : (j : Int) < 16 := by omega
      obtain ⟨b1, hb1⟩ : ∃ b, sv (m.r j) (n.r j) = b := ⟨_, rfl⟩
      obtain ⟨b2, hb2⟩ : ∃ b, ((m.td j == n.td j) && ((m.tc j : Int) == (n.tc j : Int))) = b := ⟨_, rfl⟩
      obtain ⟨b3, hb3⟩ : ∃ b, ((m.cd j == n.cd j) && ((m.cl j == n.cl j) && ((m.cc j : Int) == (n.cc j : Int)))) = b := ⟨_, rfl⟩
      have HN : Hid ((b1 && (b2 && b3)) = false → sameM m n = false) := fun h => by
        rcases Bool.and_eq_false_iff.1 h with h | h
        · exact sameM_noR (sameR_no hlt (hb1.trans h))
        · rcases Bool.and_eq_false_iff.1 h with h | h
          · exact sameM_noT (all_no hlt (hb2.trans h))
          · exact sameM_noC (all_no hlt (hb3.trans h))
      have HZ : Hid ((b1 && (b2 && b3)) = true → ∀ i, i < j + 1 → eqTC m n i) := fun h i hi => by
        simp only [Bool.and_eq_true] at h
        by_cases e : i = j
        · rw [e]; exact ⟨hb1.trans h.1, hb2.trans h.2.1, hb3.trans h.2.2⟩
        · exact HA.out i (by omega)
      have HC : Hid (∀ W, Calls Tryz.prog 20 #[.float .f64 (m.r j), .float .f64 (n.r j)] W fun e w' => e = .returned (.bool b1) ∧ Below W.heap.size W w') := fun W => hb1 ▸ HL.out j W
      have H2 : Hid (((m.td j == n.td j) && ((m.tc j : Int) == (n.tc j : Int))) = b2) := hb2
      have H3 : Hid (((m.cd j == n.cd j) && ((m.cl j == n.cl j) && ((m.cc j : Int) == (n.cc j : Int)))) = b3) := hb3
      clear hb1 hb2 hb3
      go_upto_region 4 with fail
      refine diff_region (m := m) (n := n) (j := j) (b1 := b1) (b2 := b2) (b3 := b3) Tryz.call20 HIr.out HJr.out hlt H2.out H3.out (fun W => HC.out W) ?_
      intro u11 u12 u13 u14 u15 u16 u17 u18 u19 u20 u21 u22 u23 u24 u25 u26 u27 u28 u29 u30 u31 u32 u33 u34 u35 u36 u37 u38 u39 u40 u41 wq hbq
      have HBq : Hid (Below w.heap.size w wq) := HBr.out.trans (hbq.mono HBr.out.size)
      have HIq : Hid (RowAt wq w.heap.size 37 136 m.cell) := HIr.out.to hbq
      have HJq : Hid (RowAt wq (w.heap.size + 1) 37 136 n.cell) := HJr.out.to hbq
      clear hbq H2 H3 HC HBr HIr HJr
      cases hc : (b1 && (b2 && b3))
      · have HN' : Hid (sameM m n = false) := HN.out hc
        clear HN HZ hc
        go_wp2
        go_ret
        exact ⟨by rw [HN'.out]; rfl, HBq.out⟩
      · have HZ' : Hid (∀ i, i < j + 1 → eqTC m n i) := HZ.out hc
        clear HN HZ hc
        go_wp2
        exact ⟨⟨j + 1, by omega, by go_num, HZ', HBq, HIq, HJq⟩, by simp [intOf]; omega⟩
    · obtain rfl : j = 16 := by omega
      have HSR : Hid (sameR m n = true ∧ sameT m n = true ∧ sameC m n = true) := ⟨sameR_yes fun j hj => (HA.out j hj).1, all_yes fun j hj => (HA.out j hj).2.1, all_yes fun j hj => (HA.out j hj).2.2⟩
      clear HA HL
      go_wp2
      go_loopw [6] (fun c w' => ∃ j : Nat, j ≤ 32 ∧ c = .int .i64 (j : Int) ∧ Hid (∀ i, i < j → (m.d i == n.d i) = true) ∧ Hid (Below w.heap.size w w') ∧ Hid (RowAt w' w.heap.size 37 136 m.cell) ∧ Hid (RowAt w' (w.heap.size + 1) 37 136 n.cell)) (fun c _ => 32 - (intOf c).toNat)
      case atStart => exact ⟨0, by omega, rfl, (fun i hi => absurd hi (by omega) : ∀ i, i < 0 → (m.d i == n.d i) = true), HBr, HIr, HJr⟩
      case round =>
        obtain ⟨j, hj, rfl, HA, HBs, HIs, HJs⟩ := hrel
        clear HBr HIr HJr
        by_cases hlt : j < 32
        · have hlt' : (j : Int) < 32 := by omega
          have HN : Hid ((m.d j == n.d j) = false → sameM m n = false) := fun h => sameM_noD (all_no hlt h)
          have HZ : Hid ((m.d j == n.d j) = true → ∀ i, i < j + 1 → (m.d i == n.d i) = true) := fun h i hi => by
            by_cases e : i = j
            · rw [e]; exact h
            · exact HA.out i (by omega)
          go_upto_region 9 with fail
          refine diffD_region (m := m) (n := n) (j := j) HIs.out HJs.out hlt ?_
          intro u47 u48 u49 u50 u51 u52 u53 u54 wq hbq
          have HBq : Hid (Below w.heap.size w wq) := HBs.out.trans (hbq.mono HBs.out.size)
          have HIq : Hid (RowAt wq w.heap.size 37 136 m.cell) := HIs.out.to hbq
          have HJq : Hid (RowAt wq (w.heap.size + 1) 37 136 n.cell) := HJs.out.to hbq
          clear hbq HBs HIs HJs
          cases hc : (m.d j == n.d j)
          · have hc' : (m.d j != n.d j) = true := by simp only [bne, hc]; rfl
            have HN' : Hid (sameM m n = false) := HN.out hc
            clear HN HZ hc
            rw [hc']
            clear hc'
            go_wp2
            go_ret
            exact ⟨by rw [HN'.out]; rfl, HBq.out⟩
          · have hc' : (m.d j != n.d j) = false := by simp only [bne, hc]; rfl
            have HZ' : Hid (∀ i, i < j + 1 → (m.d i == n.d i) = true) := HZ.out hc
            clear HN HZ hc
            rw [hc']
            clear hc'
            go_wp2
            exact ⟨⟨j + 1, by omega, by go_num, HZ', HBq, HIq, HJq⟩, by simp [intOf]; omega⟩
        · obtain rfl : j = 32 := by omega
          have HS : Hid (sameM m n = sameS m n) := sameM_of HSR.out.1 HSR.out.2.1 HSR.out.2.2 (all_yes HA.out)
          clear HSR HA
          have i0 : _ = some (.int .u32 (m.x : Int) : Value) := HIs.out.cell (i := 0) (by omega)
          have j0 : _ = some (.int .u32 (n.x : Int) : Value) := HJs.out.cell (i := 0) (by omega)
          have i1 : _ = some (.int .u32 (m.y : Int) : Value) := HIs.out.cell (i := 1) (by omega)
          have j1 : _ = some (.int .u32 (n.y : Int) : Value) := HJs.out.cell (i := 1) (by omega)
          have i2 : _ = some (.int .u64 (m.m : Int) : Value) := HIs.out.cell (i := 2) (by omega)
          have j2 : _ = some (.int .u64 (n.m : Int) : Value) := HJs.out.cell (i := 2) (by omega)
          have i3 : _ = some (.int .u16 (m.s : Int) : Value) := HIs.out.cell (i := 3) (by omega)
          have j3 : _ = some (.int .u16 (n.s : Int) : Value) := HJs.out.cell (i := 3) (by omega)
          have i4 : _ = some (.int .u32 (m.e : Int) : Value) := HIs.out.cell (i := 4) (by omega)
          have j4 : _ = some (.int .u32 (n.e : Int) : Value) := HJs.out.cell (i := 4) (by omega)
          have i5 : _ = some (.int .u32 (m.time : Int) : Value) := HIs.out.cell (i := 133) (by omega)
          have j5 : _ = some (.int .u32 (n.time : Int) : Value) := HJs.out.cell (i := 133) (by omega)
          have i6 : _ = some (.bool m.ran : Value) := HIs.out.cell (i := 134) (by omega)
          have j6 : _ = some (.bool n.ran : Value) := HJs.out.cell (i := 134) (by omega)
          have i7 : _ = some (.bool m.fault : Value) := HIs.out.cell (i := 135) (by omega)
          have j7 : _ = some (.bool n.fault : Value) := HJs.out.cell (i := 135) (by omega)
          unfold sameS at HS
          generalize (m.x : Int) = a0 at *
          generalize (n.x : Int) = b0 at *
          generalize (m.y : Int) = a1 at *
          generalize (n.y : Int) = b1 at *
          generalize (m.m : Int) = a2 at *
          generalize (n.m : Int) = b2 at *
          generalize (m.s : Int) = a3 at *
          generalize (n.s : Int) = b3 at *
          generalize (m.e : Int) = a4 at *
          generalize (n.e : Int) = b4 at *
          generalize (m.time : Int) = a5 at *
          generalize (n.time : Int) = b5 at *
          generalize m.ran = a6 at *
          generalize n.ran = b6 at *
          generalize m.fault = a7 at *
          generalize n.fault = b7 at *
          clear HIs HJs
          cases q0 : (a0 == b0)
          · have HF : Hid (sameM m n = false) := HS.out.trans (by simp only [q0, Bool.false_and])
            clear HS
            go_wp2
            go_ret
            exact ⟨by rw [HF.out]; rfl, HBs.out⟩
          cases q1 : (a1 == b1)
          · have HF : Hid (sameM m n = false) := HS.out.trans (by simp only [q0, q1, Bool.true_and, Bool.false_and])
            clear HS
            go_wp2
            go_ret
            exact ⟨by rw [HF.out]; rfl, HBs.out⟩
          cases q2 : (a2 == b2)
          · have HF : Hid (sameM m n = false) := HS.out.trans (by simp only [q0, q1, q2, Bool.true_and, Bool.false_and])
            clear HS
            go_wp2
            go_ret
            exact ⟨by rw [HF.out]; rfl, HBs.out⟩
          cases q3 : (a3 == b3)
          · have HF : Hid (sameM m n = false) := HS.out.trans (by simp only [q0, q1, q2, q3, Bool.true_and, Bool.false_and])
            clear HS
            go_wp2
            go_ret
            exact ⟨by rw [HF.out]; rfl, HBs.out⟩
          cases q4 : (a4 == b4)
          · have HF : Hid (sameM m n = false) := HS.out.trans (by simp only [q0, q1, q2, q3, q4, Bool.true_and, Bool.false_and])
            clear HS
            go_wp2
            go_ret
            exact ⟨by rw [HF.out]; rfl, HBs.out⟩
          cases q5 : (a5 == b5)
          · have HF : Hid (sameM m n = false) := HS.out.trans (by simp only [q0, q1, q2, q3, q4, q5, Bool.true_and, Bool.false_and])
            clear HS
            go_wp2
            go_ret
            exact ⟨by rw [HF.out]; rfl, HBs.out⟩
          cases q6 : (a6 == b6)
          · have HF : Hid (sameM m n = false) := HS.out.trans (by simp only [q0, q1, q2, q3, q4, q5, q6, Bool.true_and, Bool.false_and])
            clear HS
            go_wp2
            go_ret
            exact ⟨by rw [HF.out]; rfl, HBs.out⟩
          cases q7 : (a7 == b7)
          · have HF : Hid (sameM m n = false) := HS.out.trans (by simp only [q0, q1, q2, q3, q4, q5, q6, q7, Bool.true_and])
            clear HS
            go_wp2
            go_ret
            exact ⟨by rw [HF.out]; rfl, HBs.out⟩
          have HF : Hid (sameM m n = true) := HS.out.trans (by simp only [q0, q1, q2, q3, q4, q5, q6, q7, Bool.true_and])
          clear HS
          go_wp2
          go_ret
          exact ⟨by rw [HF.out]; rfl, HBs.out⟩
end Go.Proofs.YtjacgamgjjpllaaGreatDoor

/- The walk of the law FnMemBack. Helper text: no statement is claimed here. -/
namespace Go.Proofs.YtjacgamgjjpllaaGreatDoor
open Go.ChangeShapes Go.WideShapes Go.ChangeAt Go.RowKit Fl

theorem wpList_rowLoadM {ops : Array Oper} {rest : List Oper} {op : Oper} {a : Act} {w : World} {Q : Exit → Act → World → Prop} {n : Nat} {t : TypeId} {f : Nat → Value} {d : TypeDesc} (hw : Region.wanted op (yielded ops a.tmps) = true) (ty : TypeId) (x : Operand) (ho : op.op = .load ty x)
    (b o k : Nat) (g : Nat → Value) (hx : a.eval x = .pointer (some ⟨b, o, none⟩)) (hR : RowAt w b t n f) (hok : o + k ≤ n) (e : ∀ i, i < k → f (o + i) = g i)
    (hu : Tryz.prog.underlying ty = some d) (hd : d.isRow = true) (hi : (Tryz.prog.info? ty).map (·.size) = some k) (h : wpList Tryz.prog ops Q rest (a.put op.dst (.agg (cellsOf k g))) w) : wpList Tryz.prog ops Q (op :: rest) a w :=
  wpList_step fun K hK => by
    rw [if_pos hw]
    exact wp_load_mid ty x ho b o hx (cellsOf k g).toList d (fun j v hv => by
      have hj : j < k := by
        have := (List.getElem?_eq_some_iff.1 hv).1
        simpa [cellsOf_size] using this
      rw [hR.cell (by omega), e j hj]
      rw [Array.getElem?_toList, cellsOf_at _ hj] at hv
      exact hv) hu hd (by rw [hi]; simp [cellsOf_size]) (hK _ _ (by simpa using h))
theorem IsRow.belowM {w w' : World} {a : Option Addr} {len : Nat} (h : IsRow w a len) (hb : Below w.heap.size w w') : IsRow w' a len := by
  rcases h with h | ⟨b, off, f, rfl, hc⟩
  · exact .inl h
  · refine .inr ⟨b, off, f, rfl, fun i hi => ?_⟩
    have := hc i hi
    rw [hb.cell (p := ⟨b, off + i, none⟩) (World.block_lt_of_cell? w ⟨b, off + i, none⟩ this.1)]
    exact this
/-- A memory's own text is read back. -/
theorem read_back {m m' : Mm} {b : Bool} (hm : m.Ok) (hB : (b = true ∧ (memT m).length ≤ 6000 ∧ memT m' = memT m ∧ FoldW zeroM (Lib.split (memT m) [32]) m') ∨ (b = false ∧ m' = zeroM ∧ (6000 < (memT m).length ∨ ∃ m1 : Mm, m1.Ok ∧ FoldW zeroM (Lib.split (memT m) [32]) m1 ∧ memT m1 ≠ memT m))) : b = true ∧ memT m' = memT m := by
  rcases hB with ⟨rfl, -, e, -⟩ | ⟨-, -, h⟩
  · exact ⟨rfl, e⟩
  · exfalso
    rcases h with h | ⟨m1, -, hf, hne⟩
    · have := memT_short hm
      omega
    · rw [split_words hm] at hf
      by_cases hw : wordsM m = []
      · rw [if_pos hw] at hf
        refine hne ?_
        rw [fold_empty hf]
        unfold memT
        rw [words_zero, hw]
      · rw [if_neg hw] at hf
        exact hne (fold_text hm hf)
set_option maxHeartbeats 4000000 in
set_option maxRecDepth 20000 in
theorem mback_walk (c d : Option Addr) (len cap len' cap' : Nat) (w : World) (h : IsRow w c len) (hlc : len ≤ cap) (h' : IsRow w d len') (hlc' : len' ≤ cap') (hL : LTab w) (hT : Tabs w) :
    Calls Tryz.prog 3 #[.slice c len cap, .slice d len' cap'] w fun e w' => e = .returned (.bool true) ∧ Below w.heap.size w w' := by
  by_cases hl : 1048576 < len
  · have hl1 : (1048576 : Int) < len := by omega
    clear h h'
    go_enter Tryz.func3, Tryz.ntmps3
    go_wp2
    go_ret
    exact ⟨rfl, Below.refl _ _⟩
  have hl1 : ¬ (1048576 : Int) < len := by omega
  by_cases hl' : 1048576 < len'
  · have hl1' : (1048576 : Int) < len' := by omega
    clear h h'
    go_enter Tryz.func3, Tryz.ntmps3
    go_wp2
    go_ret
    exact ⟨rfl, Below.refl _ _⟩
  have hl1' : ¬ (1048576 : Int) < len' := by omega
  have hz : ∀ w, (zeroValue 37).run Tryz.prog w = .ok (.agg zeroM.cells) w := fun _ => by kernel_rfl
  have hH : Hid (IsRow w c len) := h
  have hH' : Hid (IsRow w d len') := h'
  have HL : Hid (LTab w) := hL
  have HT : Hid (Tabs w) := hT
  clear h h' hL hT
  go_enter Tryz.func3, Tryz.ntmps3
  go_wp2_with fail
  refine (drawMT_any c len cap _ hH.out hlc).mono ?_
  rintro e w1 ⟨m, rfl, hm, hb1⟩
  have HX1 : Hid (∀ W, Tabs W → Calls Tryz.prog 6 #[.agg m.cells] W fun e w' => e = .returned (.string ⟨(memT m).toArray⟩) ∧ Below W.heap.size W w') := fun W hW => itextM_any m hm W hW.dev hW.pow
  have hml := memT_short hm
  go_wp2_with (first
    | (refine wpList_rowStore rfl 37 (.tmp 5) (.tmp 23) rfl w1.heap.size 0 136 m.cell m.cell rfl rfl (RowAt.new w1 37 136 zeroM.cell) (by omega) (fun i _ => cell_one m i) (fun i hi => by rw [if_pos ⟨by omega, by omega⟩, Nat.sub_zero]) (by kernel_rfl) ?_
       intro v1 HZ1 hz1 hk1 hbv1
       have HB1 : Hid (Below w.heap.size w v1) := hbv1 _ _ (hb1.alloc hb1.size _) hb1.size
       have HM1 : Hid (MemAt v1 w1.heap.size m) := HZ1
       clear HZ1 hz1 hk1 hbv1)
    | refine wpList_rowLoad rfl 37 (.tmp 5) rfl _ 0 136 m.cell rfl HM1.out (by omega) (fun i _ => by rw [Nat.zero_add]) Tryz.underlying37 rfl (by kernel_rfl) ?_)
  refine (HX1.out _ (HT.out.to HB1.out)).mono ?_
  rintro e w2 ⟨rfl, hb2⟩
  have HM2 : Hid (MemAt w2 w1.heap.size m) := HM1.out.to hb2
  have HB2 : Hid (Below w.heap.size w w2) := HB1.out.trans (hb2.mono HB1.out.size)
  have HRd : Hid (∀ W, LTab W → Tabs W → Calls Tryz.prog 7 #[.string ⟨(memT m).toArray⟩] W (ReadM (memT m) (Lib.split (memT m) [32]) W)) := fun W h1 h2 => imread_any (memT m) W (by omega) h1 h2
  have hsz : ¬ (6000 : Int) < ((⟨(memT m).toArray⟩ : ByteArray).size : Int) := by rw [ba_size]; omega
  clear HM1 HB1 hb2 HX1 hb1
  generalize hsm : (⟨(memT m).toArray⟩ : ByteArray) = sm at *
  go_wp2_with fail
  refine (HRd.out _ (HL.out.to HB2.out) (HT.out.to HB2.out)).mono ?_
  rintro e w3 ⟨m', b, rfl, hm', hR, hb3⟩
  obtain ⟨rfl, htt⟩ := read_back hm hR
  have HS : Hid (∀ W, Calls Tryz.prog 8 #[.agg m'.cells, .agg m.cells] W fun e w' => e = .returned (.bool true) ∧ Below W.heap.size W w') := fun W => by
    have h := sMemSame_any m' m hm' hm W
    rw [← text_same hm' hm, htt] at h
    simpa [Mm.val] using h
  have hM3 : MemAt w3 w1.heap.size m := HM2.out.to hb3
  have hB3 : Below w.heap.size w w3 := HB2.out.trans (hb3.mono HB2.out.size)
  have hlt3 := hM3.lt
  clear hR htt HRd HM2 HB2 hb3 hsm
  go_wp2_with (first
    | (refine wpList_rowStore rfl 37 (.tmp 7) (.tmp 29) rfl w3.heap.size 0 136 m'.cell m'.cell rfl rfl (RowAt.new w3 37 136 zeroM.cell) (by omega) (fun i _ => cell_one m' i) (fun i hi => by rw [if_pos ⟨by omega, by omega⟩, Nat.sub_zero]) (by kernel_rfl) ?_
       intro v2 HZ2 hz2 hk2 hbv2
       have HB4 : Hid (Below w.heap.size w v2) := hbv2 _ _ (hB3.alloc hB3.size _) hB3.size
       have HM4 : Hid (MemAt v2 w1.heap.size m) := (hM3.alloc _).by (hk2 _ (by omega))
       have HN4 : Hid (MemAt v2 w3.heap.size m') := HZ2
       clear HZ2 hz2 hk2 hbv2 hM3 hB3)
    | refine wpList_rowLoadM (by rfl) 37 (.tmp 7) rfl _ 0 136 m'.cell rfl HN4.out (by omega) (fun i _ => by rw [Nat.zero_add]) Tryz.underlying37 rfl (by kernel_rfl) ?_
    | refine wpList_rowLoadM (by rfl) 37 (.tmp 5) rfl _ 0 136 m.cell rfl HM4.out (by omega) (fun i _ => by rw [Nat.zero_add]) Tryz.underlying37 rfl (by kernel_rfl) ?_)
  refine (HS.out _).mono ?_
  rintro e w4 ⟨rfl, hb4⟩
  have HB5 : Hid (Below w.heap.size w w4) := HB4.out.trans (hb4.mono HB4.out.size)
  have hHd : Hid (IsRow w4 d len') := hH'.out.belowM HB5.out
  clear HS HB4 HM4 HN4 hb4 hH hH'
  go_wp2_with fail
  refine (drawMR_any d len' cap' _ hHd.out hlc').mono ?_
  rintro e w5 ⟨t, rfl, htl, hb5⟩
  have HB6 : Hid (Below w.heap.size w w5) := HB5.out.trans (hb5.mono HB5.out.size)
  have H1 : Hid (∀ W, LTab W → Tabs W → Calls Tryz.prog 7 #[.string ⟨t.toArray⟩] W (ReadM t (Lib.split t [32]) W)) := fun W h1 h2 => imread_any t W (by omega) h1 h2
  have H2 : Hid (∀ W, Calls Tryz.prog 10 #[.string ⟨t.toArray⟩] W (ReadM t (keepW (cutL 32 t)) W)) := fun W => smread_any t W (by omega)
  clear HB5 hHd hb5
  generalize hst : (⟨t.toArray⟩ : ByteArray) = st at *
  go_wp2_with fail
  refine (H1.out _ (HL.out.to HB6.out) (HT.out.to HB6.out)).mono ?_
  rintro e w6 ⟨x, fine, rfl, hx, hA, hb6⟩
  have HA : Hid ((fine = true ∧ t.length ≤ 6000 ∧ memT x = t ∧ FoldW zeroM (Lib.split t [32]) x) ∨ (fine = false ∧ x = zeroM ∧ (6000 < t.length ∨ ∃ m1 : Mm, m1.Ok ∧ FoldW zeroM (Lib.split t [32]) m1 ∧ memT m1 ≠ t))) := hA
  have hB7 : Below w.heap.size w w6 := HB6.out.trans (hb6.mono HB6.out.size)
  clear H1 hA hb6 HB6
  go_wp2_with (refine wpList_rowStore rfl 37 (.tmp 10) (.tmp 49) rfl w6.heap.size 0 136 x.cell x.cell rfl rfl (RowAt.new w6 37 136 zeroM.cell) (by omega) (fun i _ => cell_one x i) (fun i hi => by rw [if_pos ⟨by omega, by omega⟩, Nat.sub_zero]) (by kernel_rfl) ?_; intro v3 HZ3 hz3 hk3 hbv3)
  have HB8 : Hid (Below w.heap.size w v3) := hbv3 _ _ (hB7.alloc hB7.size _) hB7.size
  have HN8 : Hid (MemAt v3 w6.heap.size x) := HZ3
  clear HZ3 hz3 hk3 hbv3 hB7
  refine (H2.out _).mono ?_
  rintro e w7 ⟨y, told, rfl, hy, hB, hb7⟩
  obtain ⟨hft, -⟩ := reads_same hy hx hB HA.out
  subst hft
  have hN9 : MemAt w7 w6.heap.size x := HN8.out.to hb7
  have hB9 : Below w.heap.size w w7 := HB8.out.trans (hb7.mono HB8.out.size)
  have hlt7 := hN9.lt
  clear H2 HB8 HN8 hb7 hB
  cases fine with
  | false =>
    clear HA
    go_wp2_with (refine wpList_rowStore rfl 37 (.tmp 12) (.tmp 54) rfl w7.heap.size 0 136 y.cell y.cell rfl rfl (RowAt.new w7 37 136 zeroM.cell) (by omega) (fun i _ => cell_one y i) (fun i hi => by rw [if_pos ⟨by omega, by omega⟩, Nat.sub_zero]) (by kernel_rfl) ?_; intro v4 HZ4 hz4 hk4 hbv4)
    go_ret
    exact ⟨rfl, hbv4 _ _ (hB9.alloc hB9.size _) hB9.size⟩
  | true =>
    have he : memT x = t := by
      rcases HA.out with ⟨-, -, h, -⟩ | ⟨h, -⟩
      · exact h
      · cases h
    have HX2 : Hid (∀ W, Tabs W → Calls Tryz.prog 6 #[.agg x.cells] W fun e w' => e = .returned (.string st) ∧ Below W.heap.size W w') := fun W hW => by
      have h := itextM_any x hx W hW.dev hW.pow
      rw [he, hst] at h
      exact h
    clear HA he
    go_wp2_with (first
      | (refine wpList_rowStore rfl 37 (.tmp 12) (.tmp 54) rfl w7.heap.size 0 136 y.cell y.cell rfl rfl (RowAt.new w7 37 136 zeroM.cell) (by omega) (fun i _ => cell_one y i) (fun i hi => by rw [if_pos ⟨by omega, by omega⟩, Nat.sub_zero]) (by kernel_rfl) ?_
         intro v4 HZ4 hz4 hk4 hbv4
         have HB10 : Hid (Below w.heap.size w v4) := hbv4 _ _ (hB9.alloc hB9.size _) hB9.size
         have HN10 : Hid (MemAt v4 w6.heap.size x) := (hN9.alloc _).by (hk4 _ (by omega))
         clear HZ4 hz4 hk4 hbv4 hN9 hB9)
      | refine wpList_rowLoadM (by rfl) 37 (.tmp 10) rfl _ 0 136 x.cell rfl HN10.out (by omega) (fun i _ => by rw [Nat.zero_add]) Tryz.underlying37 rfl (by kernel_rfl) ?_)
    refine (HX2.out _ (HT.out.to HB10.out)).mono ?_
    rintro e w8 ⟨rfl, hb8⟩
    have HB11 : Below w.heap.size w w8 := HB10.out.trans (hb8.mono HB10.out.size)
    clear HX2 HB10 HN10 hb8
    go_wp2
    go_ret
    exact ⟨rfl, HB11⟩
end Go.Proofs.YtjacgamgjjpllaaGreatDoor

/- The table of devices out of a row's condition. Helper text: no statement is claimed here. -/
namespace Go.Proofs.YtjacgamgjjpllaaGreatDoor
open Go.ChangeShapes Go.WideShapes Go.ChangeAt Go.RowKit

theorem gRows : Tryz.prog.globalNamed (Rows.fnMemBackRow.named.getD 0 "") = some 1 := by kernel_rfl
theorem laid_rowsD : (Rows.laid_loop_example_stilscan_impl_devRows : DataW Unit) = .agg rowsD := rfl
theorem devTab_of {W : World} {sp : Nat → Bool} {held : Bool} {cs : Array Value} {fuel : Nat} {p : List MemPlace}
    (hv : W.var? Tryz.prog (Rows.fnMemBackRow.named.getD 0 "") = some cs)
    (hd : DataW.trod (fun _ => ()) Tryz.prog W 0 sp held fuel 137 cs.toList = some (Rows.laid_loop_example_stilscan_impl_devRows, p)) : DevTab W := by
  rw [laid_rowsD] at hd
  obtain ⟨xs, m, rfl, hx, hl, hn, hel⟩ := DataW.trod_array Tryz.underlying137 hd
  simp only [Prod.mk.injEq, DataW.agg.injEq] at hx
  intro i hi
  have h1 := hel i hi
  have h2 := rowsD_at i hi
  rw [hx.1, List.getElem?_map] at h2
  obtain ⟨x, hx1, hx2⟩ := Option.map_eq_some_iff.1 h2
  rw [hx1, cRow] at h1
  have h3 := rowCells (p := x.2) (h1.trans (by rw [show x = (x.1, x.2) from rfl, hx2]; rfl))
  have at_ : ∀ j, j < 5 → cs[i * 5 + j]? = ((cs.toList.drop (i * 5)).take 5)[j]? := by
    intro j hj
    simp [hj]
  have hc := World.var?_cell gRows hv
  have a0 := at_ 0 (by omega)
  have a1 := at_ 1 (by omega)
  have a2 := at_ 2 (by omega)
  have a3 := at_ 3 (by omega)
  have a4 := at_ 4 (by omega)
  rw [h3] at a0 a1 a2 a3 a4
  refine ⟨?_, ?_, ?_, ?_, ?_⟩
  · rw [hc]; simpa using a0
  · rw [hc]; simpa using a1
  · rw [hc]; simpa using a2
  · rw [hc]; simpa using a3
  · rw [hc]; simpa using a4

end Go.Proofs.YtjacgamgjjpllaaGreatDoor
