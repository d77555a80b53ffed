/- Whether operands are ys a row of the table says: places, takes. Helper text: no statement is claimed here. -/
import Derived.Test.YtleopmhllbaalagDoorLb
namespace Go.Proofs.YtleopmhllbaalagDoor
open Go.ChangeShapes Go.WideShapes Go.ChangeAt Go.RowKit

theorem neq_func (f : Nat) (w : World) : Sem.run Tryd.prog (binOp .neq 41 (.func (.func f) #[] #[]) .nilFunc) w = .ok (.bool true) w := by kernel_rfl
theorem neq_nil (w : World) : Sem.run Tryd.prog (binOp .neq 41 .nilFunc .nilFunc) w = .ok (.bool false) w := by kernel_rfl
attribute [local go_sem] fv_store neq_func neq_nil

/-- An operand: kind, number, places. -/
abbrev Ar := Int × Int × Int
def at3 (ys : List Ar) (i : Nat) : Ar := ys.getD i (0, 0, 0)
def fitA (fs : List Nat) (ys : List Ar) (i : Nat) : Bool := fitB (fs.getD i 0) (at3 ys i).1 (at3 ys i).2.1 (at3 ys i).2.2
/-- The operands are ys one row of sorts says. -/
def takeB (fs : List Nat) (ys : List Ar) : Bool := decide (ys.length ≠ 0) && decide (ys.length = fs.length) && (List.range ys.length).all (fitA fs ys)

/-- Operands that lie in memory. -/
def ArgsAt (w : World) (b : Nat) (ys : List Ar) : Prop := ∀ i, i < ys.length → w.cell? ⟨b, i * 3, none⟩ = some (.int .i64 (at3 ys i).1) ∧ w.cell? ⟨b, i * 3 + 1, none⟩ = some (.int .i64 (at3 ys i).2.1) ∧ w.cell? ⟨b, i * 3 + 2, none⟩ = some (.int .i64 (at3 ys i).2.2)
def ArgsIs (w : World) (p : Option Addr) (ys : List Ar) : Prop := ys = [] ∨ ∃ b, p = some ⟨b, 0, none⟩ ∧ b < w.heap.size ∧ ArgsAt w b ys
theorem ArgsAt.to {w w' : World} {b : Nat} {ys : List Ar} (h : ArgsAt w b ys) (hlt : b < w.heap.size) (hb : Below w.heap.size w w') : ArgsAt w' b ys := fun i hi => by
  rw [hb.cell (p := ⟨b, i * 3, none⟩) hlt, hb.cell (p := ⟨b, i * 3 + 1, none⟩) hlt, hb.cell (p := ⟨b, i * 3 + 2, none⟩) hlt]
  exact h i hi
theorem ArgsIs.to {w w' : World} {p : Option Addr} {ys : List Ar} (h : ArgsIs w p ys) (hb : Below w.heap.size w w') : ArgsIs w' p ys := by
  rcases h with h | ⟨b, rfl, hlt, h⟩
  · exact .inl h
  · exact .inr ⟨b, rfl, Nat.lt_of_lt_of_le hlt hb.size, h.to hlt hb⟩

/-- The sorts of a form, in range. -/
def FsOk (fs : List Nat) : Prop := fs.length ≤ 3 ∧ ∀ i, i < fs.length → 1 ≤ fs.getD i 0 ∧ fs.getD i 0 ≤ 13
theorem fm0_ok (i : Nat) : FsOk (fm0 i) := by
  unfold fm0; split <;> exact ⟨by decide, by decide⟩
theorem fm1_ok (i : Nat) : FsOk (fm1 i) := by
  unfold fm1; split <;> exact ⟨by decide, by decide⟩
theorem fv_func {c : Nat} (h : 1 ≤ c) : fv c = .func (.func (fid c)) #[] #[] := by
  cases c with
  | zero => omega
  | succ n => rfl

/-- The box of a form. -/
def FormAt (w : World) (b : Nat) (fs : List Nat) : Prop := ∀ i, i < 3 → w.cell? ⟨b, i, none⟩ = some (fv (fs.getD i 0))
theorem FormAt.new (w : World) (fs : List Nat) : FormAt (w.alloc (.cells #[fv (fs.getD 0 0), fv (fs.getD 1 0), fv (fs.getD 2 0)] 43)) w.heap.size fs := fun i hi => by
  rw [World.cell?_alloc_mark]
  match i, hi with
  | 0, _ => rfl
  | 1, _ => rfl
  | 2, _ => rfl
theorem FormAt.to {w w' : World} {b : Nat} {fs : List Nat} (h : FormAt w b fs) (hlt : b < w.heap.size) (hb : Below w.heap.size w w') : FormAt w' b fs := fun i hi => by
  rw [hb.cell (p := ⟨b, i, none⟩) hlt]; exact h i hi

set_option maxHeartbeats 400000 in
theorem places_any (fs : List Nat) (w : World) (hf : FsOk fs) :
    Calls Tryd.prog 61 #[.agg #[fv (fs.getD 0 0), fv (fs.getD 1 0), fv (fs.getD 2 0)]] w fun e w' => e = .returned (.int .i64 fs.length) ∧ Below w.heap.size w w' := by
  have HF : Hid (FsOk fs) := hf
  have hl3 := hf.1
  have HN : Hid (FormAt _ w.heap.size fs) := FormAt.new w fs
  have HB : Hid (Below w.heap.size w _) := one w (.cells #[fv (fs.getD 0 0), fv (fs.getD 1 0), fv (fs.getD 2 0)] 43)
  clear hf
  generalize hg0 : fv (fs.getD 0 0) = g0 at *
  generalize hg1 : fv (fs.getD 1 0) = g1 at *
  generalize hg2 : fv (fs.getD 2 0) = g2 at *
  clear hg0 hg1 hg2
  go_enter Tryd.func61, Tryd.ntmps61
  go_wp2
  generalize hV : w.alloc (.cells #[g0, g1, g2] 43) = V at *
  clear hV
  go_loopw [3] (fun c w' => ∃ j : Nat, j ≤ fs.length ∧ c = .int .i64 (j : Int) ∧ w' = V) (fun c _ => 3 - (intOf c).toNat)
  case atStart => exact ⟨0, by omega, rfl, rfl⟩
  case round =>
    obtain ⟨j, hj, rfl, rfl⟩ := hrel
    by_cases hlt : j < fs.length
    · have hlt' : (j : Int) < 3 := by omega
      have hcell := HN.out j (by omega)
      rw [fv_func (HF.out.2 j hlt).1] at hcell
      generalize fid (fs.getD j 0) = f at hcell
      go_wp2
      exact ⟨⟨j + 1, by omega, by go_num, by trivial⟩, by simp [intOf]; omega⟩
    · obtain rfl : j = fs.length := by omega
      by_cases h3 : fs.length = 3
      · have h3' : ¬ (fs.length : Int) < 3 := by omega
        go_wp2
        go_ret
        exact ⟨rfl, HB.out⟩
      · have h3' : (fs.length : Int) < 3 := by omega
        have hcell := HN.out fs.length (by omega)
        rw [show fs.getD fs.length 0 = 0 by simp [List.getD]] at hcell
        replace hcell : _ = some Value.nilFunc := hcell
        go_wp2
        go_ret
        exact ⟨rfl, HB.out⟩

theorem all_upto {fs : List Nat} {ys : List Ar} {j : Nat} (h : ∀ i, i < j → fitA fs ys i = true) (hj : fitA fs ys j = true) : ∀ i, i < j + 1 → fitA fs ys i = true := fun i hi => by
  rcases Nat.lt_or_ge i j with h' | h'
  · exact h i h'
  · obtain rfl : i = j := by omega
    exact hj
theorem take_yes {fs : List Nat} {ys : List Ar} (h0 : ys.length ≠ 0) (hl : ys.length = fs.length) (h : ∀ i, i < ys.length → fitA fs ys i = true) : takeB fs ys = true := by
  simp only [takeB, Bool.and_eq_true, decide_eq_true_eq, List.all_eq_true, List.mem_range]
  exact ⟨⟨h0, hl⟩, h⟩
theorem take_no {fs : List Nat} {ys : List Ar} {j : Nat} (hj : j < ys.length) (h : fitA fs ys j = false) : takeB fs ys = false := by
  rw [Bool.eq_false_iff]
  intro ht
  simp only [takeB, Bool.and_eq_true, decide_eq_true_eq, List.all_eq_true, List.mem_range] at ht
  rw [ht.2 j hj] at h
  cases h
theorem grownFit {c : Nat} {k n p : Int} {w : World} (hT : DevTab w) (h1 : 1 ≤ c) (h2 : c ≤ 13) (d : Nat) (os : Array Obj) :
    Calls Tryd.prog (fid c) #[.agg #[.int .i64 k, .int .i64 n, .int .i64 p]] (Sort.grow (redrawn w d) os) fun e w'' => e = .returned (.bool (fitB c k n p)) ∧ ∃ p' : Regrown, w'' = Sort.grow (redrawn w p'.d) p'.os :=
  Calls.regrown_of (fit_any c k n p _ (hT.to (below_regrown _ d os)) h1 h2)

set_option maxHeartbeats 1000000 in
theorem takes_any (fs : List Nat) (ys : List Ar) (p : Option Addr) (cap : Nat) (w : World) (hf : FsOk fs) (hT : DevTab w) (hA : ArgsIs w p ys) (_hlc : ys.length ≤ cap) (hbd : ys.length ≤ 2000000) :
    Calls Tryd.prog 48 #[.agg #[fv (fs.getD 0 0), fv (fs.getD 1 0), fv (fs.getD 2 0)], .slice p ys.length cap] w fun e w' => e = .returned (.bool (takeB fs ys)) ∧ Below w.heap.size w w' := by
  have HF : Hid (FsOk fs) := hf
  have hl3 := hf.1
  have HN : Hid (FormAt _ w.heap.size fs) := FormAt.new w fs
  have HB : Hid (Below w.heap.size w _) := one w (.cells #[fv (fs.getD 0 0), fv (fs.getD 1 0), fv (fs.getD 2 0)] 43)
  have HA : Hid (ArgsIs w p ys) := hA
  clear hA
  by_cases h0 : ys.length = 0
  · rw [show takeB fs ys = false by simp [takeB, h0]]
    clear HA
    rw [h0]
    clear h0 hf
    generalize fv (fs.getD 0 0) = g0 at *
    generalize fv (fs.getD 1 0) = g1 at *
    generalize fv (fs.getD 2 0) = g2 at *
    go_enter Tryd.func48, Tryd.ntmps48
    go_wp2
    go_ret
    exact ⟨rfl, HB.out⟩
  have h0' : ((ys.length : Int) == 0) = false := by simpa using h0
  have H0 : Hid (ys.length ≠ 0) := h0
  clear h0
  have hP : ∀ W, Calls Tryd.prog 61 #[.agg #[fv (fs.getD 0 0), fv (fs.getD 1 0), fv (fs.getD 2 0)]] W fun e w' => e = .returned (.int .i64 fs.length) ∧ Below W.heap.size W w' := fun W => places_any fs W hf
  have HP : Hid (∀ W, Calls Tryd.prog 61 #[.agg #[fv (fs.getD 0 0), fv (fs.getD 1 0), fv (fs.getD 2 0)]] W fun e w' => e = .returned (.int .i64 fs.length) ∧ Below W.heap.size W w') := hP
  clear hP hf
  generalize fv (fs.getD 0 0) = g0 at *
  generalize fv (fs.getD 1 0) = g1 at *
  generalize fv (fs.getD 2 0) = g2 at *
  go_enter Tryd.func48, Tryd.ntmps48
  go_wp2_with fail
  refine (HP.out _).mono ?_
  rintro e w1 ⟨rfl, hb1⟩
  have HB1 : Hid (Below w.heap.size w w1) := of_one hb1
  have HN1 : Hid (FormAt w1 w.heap.size fs) := HN.out.to (by simp) hb1
  have HT1 : Hid (DevTab w1) := hT.to HB1.out
  clear hb1
  by_cases hl : ys.length = fs.length
  · have hl' : ((ys.length : Int) == (fs.length : Int)) = true := by rw [hl]; simp
    have HL : Hid (ys.length = fs.length) := hl
    clear hl
    have HA1 : Hid (ArgsIs w1 p ys) := HA.out.to HB1.out
    have hw1 : w.heap.size < w1.heap.size := World.block_lt_of_cell? w1 ⟨w.heap.size, 0, none⟩ (HN1.out 0 (by omega))
    clear HA HN HB hT HP
    go_wp2
    go_loopw [19] (fun c w' => ∃ j : Nat, j ≤ ys.length ∧ c = .int .i64 (j : Int) ∧ Hid (Below w1.heap.size w1 w') ∧ Hid (∀ i, i < j → fitA fs ys i = true)) (fun c _ => ys.length - (intOf c).toNat)
    case atStart => exact ⟨0, by omega, rfl, Below.refl _ _, fun i hi => by omega⟩
    case round =>
      obtain ⟨j, hj, rfl, HBr, HD⟩ := hrel
      rename_i wr
      by_cases hlt : j < ys.length
      · have hlt' : (j : Int) < (ys.length : Int) := by omega
        rcases HA1.out with hnil | ⟨b, rfl, hbl, hAt⟩
        · rw [hnil] at hlt; simp at hlt
        have hlf : j < fs.length := by rw [← HL.out]; exact hlt
        have hj3 : (j : Int) < 3 := by omega
        obtain ⟨a0, a1, a2⟩ := (hAt.to hbl HBr.out) j hlt
        have hcell := (HN1.out.to hw1 HBr.out) j (by omega)
        obtain ⟨q1, q2⟩ := HF.out.2 j hlf
        rw [fv_func q1] at hcell
        have hTr : DevTab wr := HT1.out.to HBr.out
        have HFit : Hid (fitA fs ys j = fitB (fs.getD j 0) (at3 ys j).1 (at3 ys j).2.1 (at3 ys j).2.2) := rfl
        generalize fs.getD j 0 = c at *
        generalize (at3 ys j).1 = k at *
        generalize (at3 ys j).2.1 = n at *
        generalize (at3 ys j).2.2 = p at *
        clear hAt
        have hen := fid_enters c q1 q2
        have hwl : w.heap.size < wr.heap.size := Nat.lt_of_lt_of_le hw1 HBr.out.size
        have hcell2 : (wr.alloc (argO k n p)).cell? ⟨w.heap.size, j, none⟩ = some (.func (.func (fid c)) #[] #[]) := by rw [World.cell?_alloc_lt _ _ _ hwl]; exact hcell
        obtain ⟨b0, b1, b2⟩ := arg_at k n p wr
        have k0 := cell_regrown b0
        have k1 := cell_regrown b1
        have k2 := cell_regrown b2
        have k3 := cell_regrown hcell2
        have hTa := hTr.alloc (argO k n p)
        have hBa : Hid (Below w1.heap.size w1 (wr.alloc (argO k n p))) := HBr.out.alloc HBr.out.size _
        clear b0 b1 b2 hcell2 hTr
        go_wp2
        refine wp_region_quiet_below (by kernel_rfl) (by kernel_rfl) ?_
        repeat (first | go_big_quiet_step (exact grownFit hTa q1 q2 _ _) | quiet_step (exact grownFit hTa q1 q2 _ _))
        refine wpQuiet_nil ?_
        intro _ hw'
        obtain ⟨⟨dq, osq⟩, hw''⟩ := hw'
        subst hw''
        have HBq : Hid (Below w1.heap.size w1 (Sort.grow (redrawn (wr.alloc (argO k n p)) dq) osq)) := hBa.out.trans ((below_regrown _ dq osq).mono hBa.out.size)
        clear k0 k1 k2 k3 hTa hBa hcell
        generalize Sort.grow (redrawn (wr.alloc (argO k n p)) dq) osq = wq at *
        cases hfit : fitB c k n p
        · have HR : Hid (takeB fs ys = false) := take_no hlt (HFit.out.trans hfit)
          go_wp2
          go_ret
          exact ⟨by rw [HR.out]; rfl, HB1.out.trans (HBq.out.mono HB1.out.size)⟩
        · have HD2 : Hid (∀ i, i < j + 1 → fitA fs ys i = true) := all_upto HD.out (HFit.out.trans hfit)
          go_wp2
          exact ⟨⟨j + 1, by omega, by go_num, HBq, HD2⟩, by simp [intOf]; omega⟩
      · obtain rfl : j = ys.length := by omega
        go_wp2
        go_ret
        exact ⟨by rw [take_yes H0.out HL.out HD.out]; rfl, HB1.out.trans (HBr.out.mono HB1.out.size)⟩
  · have HR : Hid (takeB fs ys = false) := by show takeB fs ys = false; simp [takeB, hl]
    have hl' : ((ys.length : Int) == (fs.length : Int)) = false := by
      rw [beq_eq_false_iff_ne]
      intro h
      exact hl (by exact_mod_cast h)
    clear hl HA
    go_wp2
    go_ret
    exact ⟨by rw [HR.out]; rfl, HB1.out⟩
end Go.Proofs.YtleopmhllbaalagDoor
