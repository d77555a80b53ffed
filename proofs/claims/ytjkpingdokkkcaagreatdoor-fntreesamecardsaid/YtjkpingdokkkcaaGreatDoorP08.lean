/- Whether operands are ys a row of the table says: places, takes. Helper text: no statement is claimed here. -/
import Derived.Test.YtjkpingdokkkcaaGreatDoorP07
import Derived.Test.YtjkpingdokkkcaaGreatDoorP05
namespace Go.Proofs.YtjkpingdokkkcaaGreatDoor.Tb
open Go.ChangeShapes Go.WideShapes Go.ChangeAt Go.RowKit
variable {T : Tab}

theorem neq_func (f : Nat) (w : World) : Sem.run Tryz.prog (binOp .neq 154 (.func (.func f) #[] #[]) .nilFunc) w = .ok (.bool true) w := by kernel_rfl
theorem neq_nil (w : World) : Sem.run Tryz.prog (binOp .neq 154 .nilFunc .nilFunc) w = .ok (.bool false) w := by kernel_rfl
attribute [local go_sem] fv_store neq_func neq_nil
theorem fv_func {c : Nat} (h : 1 ≤ c) : fv c = .func (.func (fid c)) #[] #[] := by
  cases c with
  | zero => omega
  | succ n => rfl
/-- The box of a form. -/
def FormAt (w : World) (b : Nat) (fs : List Nat) : Prop := ∀ i, i < 3 → w.cell? ⟨b, i, none⟩ = some (fv (fs.getD i 0))
theorem FormAt.new (w : World) (fs : List Nat) : FormAt (w.alloc (.cells #[fv (fs.getD 0 0), fv (fs.getD 1 0), fv (fs.getD 2 0)] 156)) w.heap.size fs := fun i hi => by
  rw [World.cell?_alloc_mark]
  match i, hi with
  | 0, _ => rfl
  | 1, _ => rfl
  | 2, _ => rfl
theorem FormAt.to {w w' : World} {b : Nat} {fs : List Nat} (h : FormAt w b fs) (hlt : b < w.heap.size) (hb : Below w.heap.size w w') : FormAt w' b fs := fun i hi => by
  rw [hb.cell (p := ⟨b, i, none⟩) hlt]; exact h i hi
set_option maxHeartbeats 400000 in
theorem places_any (fs : List Nat) (w : World) (hf : FsOk fs) :
    Calls Tryz.prog 123 #[.agg #[fv (fs.getD 0 0), fv (fs.getD 1 0), fv (fs.getD 2 0)]] w fun e w' => e = .returned (.int .i64 fs.length) ∧ Below w.heap.size w w' := by
  have HF : Hid (FsOk fs) := hf
  have hl3 := hf.1
  have HN : Hid (FormAt _ w.heap.size fs) := FormAt.new w fs
  have HB : Hid (Below w.heap.size w _) := one w (.cells #[fv (fs.getD 0 0), fv (fs.getD 1 0), fv (fs.getD 2 0)] 156)
  clear hf
  generalize hg0 : fv (fs.getD 0 0) = g0 at *
  generalize hg1 : fv (fs.getD 1 0) = g1 at *
  generalize hg2 : fv (fs.getD 2 0) = g2 at *
  clear hg0 hg1 hg2
  go_enter Tryz.func123, Tryz.ntmps123
  go_wp2
  generalize hV : w.alloc (.cells #[g0, g1, g2] 156) = V at *
  clear hV
  go_loopw [3] (fun c w' => ∃ j : Nat, j ≤ fs.length ∧ c = .int .i64 (j : Int) ∧ w' = V) (fun c _ => 3 - (intOf c).toNat)
  case atStart => exact ⟨0, by omega, rfl, rfl⟩
  case round =>
    obtain ⟨j, hj, rfl, rfl⟩ := hrel
    by_cases hlt : j < fs.length
    · have hlt' : (j : Int) < 3 := by omega
      have hcell := HN.out j (by omega)
      rw [fv_func (HF.out.2 j hlt).1] at hcell
      generalize fid (fs.getD j 0) = f at hcell
      go_wp2
      exact ⟨⟨j + 1, by omega, by go_num, by trivial⟩, by simp [intOf]; omega⟩
    · obtain rfl : j = fs.length := by omega
      by_cases h3 : fs.length = 3
      · have h3' : ¬ (fs.length : Int) < 3 := by omega
        go_wp2
        go_ret
        exact ⟨rfl, HB.out⟩
      · have h3' : (fs.length : Int) < 3 := by omega
        have hcell := HN.out fs.length (by omega)
        rw [show fs.getD fs.length 0 = 0 by simp [List.getD]] at hcell
        replace hcell : _ = some Value.nilFunc := hcell
        go_wp2
        go_ret
        exact ⟨rfl, HB.out⟩
theorem grownFit {c : Nat} {k n p : Int} {w : World} (hT : DevTab T w) (h1 : 1 ≤ c) (h2 : c ≤ 13) (d : Nat) (os : Array Obj) :
    Calls Tryz.prog (fid c) #[.agg #[.int .i64 k, .int .i64 n, .int .i64 p]] (Sort.grow (redrawn w d) os) fun e w'' => e = .returned (.bool (fitB T c k n p)) ∧ ∃ p' : Regrown, w'' = Sort.grow (redrawn w p'.d) p'.os :=
  Calls.regrown_of (fit_any c k n p _ (hT.to (below_regrown _ d os)) h1 h2)
set_option maxHeartbeats 1000000 in
theorem takes_any (fs : List Nat) (ys : List Ar) (p : Option Addr) (cap : Nat) (w : World) (hf : FsOk fs) (hT : DevTab T w) (hA : ArgsIs w p ys) (_hlc : ys.length ≤ cap) (hbd : ys.length ≤ 2000000) :
    Calls Tryz.prog 119 #[.agg #[fv (fs.getD 0 0), fv (fs.getD 1 0), fv (fs.getD 2 0)], .slice p ys.length cap] w fun e w' => e = .returned (.bool (takeB T fs ys)) ∧ Below w.heap.size w w' := by
  have HF : Hid (FsOk fs) := hf
  have hl3 := hf.1
  have HN : Hid (FormAt _ w.heap.size fs) := FormAt.new w fs
  have HB : Hid (Below w.heap.size w _) := one w (.cells #[fv (fs.getD 0 0), fv (fs.getD 1 0), fv (fs.getD 2 0)] 156)
  have HA : Hid (ArgsIs w p ys) := hA
  clear hA
  by_cases h0 : ys.length = 0
  · rw [show takeB T fs ys = false by simp [takeB, h0]]
    clear HA
    rw [h0]
    clear h0 hf
    generalize fv (fs.getD 0 0) = g0 at *
    generalize fv (fs.getD 1 0) = g1 at *
    generalize fv (fs.getD 2 0) = g2 at *
    go_enter Tryz.func119, Tryz.ntmps119
    go_wp2
    go_ret
    exact ⟨rfl, HB.out⟩
  have h0' : ((ys.length : Int) == 0) = false := by simpa using h0
  have H0 : Hid (ys.length ≠ 0) := h0
  clear h0
  have hP : ∀ W, Calls Tryz.prog 123 #[.agg #[fv (fs.getD 0 0), fv (fs.getD 1 0), fv (fs.getD 2 0)]] W fun e w' => e = .returned (.int .i64 fs.length) ∧ Below W.heap.size W w' := fun W => places_any fs W hf
  have HP : Hid (∀ W, Calls Tryz.prog 123 #[.agg #[fv (fs.getD 0 0), fv (fs.getD 1 0), fv (fs.getD 2 0)]] W fun e w' => e = .returned (.int .i64 fs.length) ∧ Below W.heap.size W w') := hP
  clear hP hf
  generalize fv (fs.getD 0 0) = g0 at *
  generalize fv (fs.getD 1 0) = g1 at *
  generalize fv (fs.getD 2 0) = g2 at *
  go_enter Tryz.func119, Tryz.ntmps119
  go_wp2_with fail
  refine (HP.out _).mono ?_
  rintro e w1 ⟨rfl, hb1⟩
  have HB1 : Hid (Below w.heap.size w w1) := of_one hb1
  have HN1 : Hid (FormAt w1 w.heap.size fs) := HN.out.to (by simp) hb1
  have HT1 : Hid (DevTab T w1) := hT.to HB1.out
  clear hb1
  by_cases hl : ys.length = fs.length
  · have hl' : ((ys.length : Int) == (fs.length : Int)) = true := by rw [hl]; simp
    have HL : Hid (ys.length = fs.length) := hl
    clear hl
    have HA1 : Hid (ArgsIs w1 p ys) := HA.out.to HB1.out
    have hw1 : w.heap.size < w1.heap.size := World.block_lt_of_cell? w1 ⟨w.heap.size, 0, none⟩ (HN1.out 0 (by omega))
    clear HA HN HB hT HP
    go_wp2
    go_loopw [19] (fun c w' => ∃ j : Nat, j ≤ ys.length ∧ c = .int .i64 (j : Int) ∧ Hid (Below w1.heap.size w1 w') ∧ Hid (∀ i, i < j → fitA T fs ys i = true)) (fun c _ => ys.length - (intOf c).toNat)
    case atStart => exact ⟨0, by omega, rfl, Below.refl _ _, fun i hi => by omega⟩
    case round =>
      obtain ⟨j, hj, rfl, HBr, HD⟩ := hrel
      rename_i wr
      by_cases hlt : j < ys.length
      · have hlt' : (j : Int) < (ys.length : Int) := by omega
        rcases HA1.out with hnil | ⟨b, off, rfl, hbl, hAt⟩
        · rw [hnil] at hlt; simp at hlt
        have hlf : j < fs.length := by rw [← HL.out]; exact hlt
        have hj3 : (j : Int) < 3 := by omega
        obtain ⟨a0, a1, a2⟩ := (hAt.to hbl HBr.out) j hlt
        have hcell := (HN1.out.to hw1 HBr.out) j (by omega)
        obtain ⟨q1, q2⟩ := HF.out.2 j hlf
        rw [fv_func q1] at hcell
        have hTr : DevTab T wr := HT1.out.to HBr.out
        have HFit : Hid (fitA T fs ys j = fitB T (fs.getD j 0) (at3 ys j).1 (at3 ys j).2.1 (at3 ys j).2.2) := rfl
        generalize fs.getD j 0 = c at *
        generalize (at3 ys j).1 = k at *
        generalize (at3 ys j).2.1 = n at *
        generalize (at3 ys j).2.2 = p at *
        clear hAt
        have hen := fid_enters c q1 q2
        have hwl : w.heap.size < wr.heap.size := Nat.lt_of_lt_of_le hw1 HBr.out.size
        have hcell2 : (wr.alloc (argO k n p)).cell? ⟨w.heap.size, j, none⟩ = some (.func (.func (fid c)) #[] #[]) := by rw [World.cell?_alloc_lt _ _ _ hwl]; exact hcell
        obtain ⟨b0, b1, b2⟩ := arg_at k n p wr
        have k0 := cell_regrown b0
        have k1 := cell_regrown b1
        have k2 := cell_regrown b2
        have k3 := cell_regrown hcell2
        have hTa := hTr.alloc (argO k n p)
        have hBa : Hid (Below w1.heap.size w1 (wr.alloc (argO k n p))) := HBr.out.alloc HBr.out.size _
        clear b0 b1 b2 hcell2 hTr
        go_wp2
        refine wp_region_quiet_below (by kernel_rfl) (by kernel_rfl) ?_
        repeat (first | go_big_quiet_step (exact grownFit hTa q1 q2 _ _) | quiet_step (exact grownFit hTa q1 q2 _ _))
        refine wpQuiet_nil ?_
        intro _ hw'
        obtain ⟨⟨dq, osq⟩, hw''⟩ := hw'
        subst hw''
        have HBq : Hid (Below w1.heap.size w1 (Sort.grow (redrawn (wr.alloc (argO k n p)) dq) osq)) := hBa.out.trans ((below_regrown _ dq osq).mono hBa.out.size)
        clear k0 k1 k2 k3 hTa hBa hcell
        generalize Sort.grow (redrawn (wr.alloc (argO k n p)) dq) osq = wq at *
        cases hfit : fitB T c k n p
        · have HR : Hid (takeB T fs ys = false) := take_no hlt (HFit.out.trans hfit)
          go_wp2
          go_ret
          exact ⟨by rw [HR.out]; rfl, HB1.out.trans (HBq.out.mono HB1.out.size)⟩
        · have HD2 : Hid (∀ i, i < j + 1 → fitA T fs ys i = true) := all_upto HD.out (HFit.out.trans hfit)
          go_wp2
          exact ⟨⟨j + 1, by omega, by go_num, HBq, HD2⟩, by simp [intOf]; omega⟩
      · obtain rfl : j = ys.length := by omega
        go_wp2
        go_ret
        exact ⟨by rw [take_yes H0.out HL.out HD.out]; rfl, HB1.out.trans (HBr.out.mono HB1.out.size)⟩
  · have HR : Hid (takeB T fs ys = false) := by show takeB T fs ys = false; simp [takeB, hl]
    have hl' : ((ys.length : Int) == (fs.length : Int)) = false := by
      rw [beq_eq_false_iff_ne]
      intro h
      exact hl (by exact_mod_cast h)
    clear hl HA
    go_wp2
    go_ret
    exact ⟨by rw [HR.out]; rfl, HB1.out⟩
end Go.Proofs.YtjkpingdokkkcaaGreatDoor.Tb

/- What a row of the table takes as operands: the program's. Helper text: no statement is claimed here. -/
namespace Go.Proofs.YtjkpingdokkkcaaGreatDoor.Tb
open Go.ChangeShapes Go.WideShapes Go.ChangeAt Go.RowKit
variable {T : Tab}

/-- A row of the table as a value. -/
abbrev erowV (i : Nat) : Value := .agg #[.string ⟨(nm i).toArray⟩, .int .i32 (mk i), .int .i64 (ts i), fv ((fm0 i).getD 0 0), fv ((fm0 i).getD 1 0), fv ((fm0 i).getD 2 0), fv ((fm1 i).getD 0 0), fv ((fm1 i).getD 1 0), fv ((fm1 i).getD 2 0)]
theorem erowV_any (op : Int) (w : World) : Calls Tryz.prog 104 #[.int .i64 op] w fun e w' => e = .returned (erowV (ez op)) ∧ Below w.heap.size w w' := erow_any op w
set_option maxHeartbeats 400000 in
theorem rowTakes_any (i : Nat) (ys : List Ar) (p : Option Addr) (cap : Nat) (w : World) (hT : DevTab T w) (hA : ArgsIs w p ys) (hlc : ys.length ≤ cap) (hbd : ys.length ≤ 2000000) :
    Calls Tryz.prog 105 #[erowV i, .slice p ys.length cap] w fun e w' => e = .returned (.bool (okA T i ys)) ∧ Below w.heap.size w w' := by
  have H0 : Hid (∀ W, DevTab T W → ArgsIs W p ys → Calls Tryz.prog 119 #[.agg #[fv ((fm0 i).getD 0 0), fv ((fm0 i).getD 1 0), fv ((fm0 i).getD 2 0)], .slice p ys.length cap] W fun e w' => e = .returned (.bool (takeB T (fm0 i) ys)) ∧ Below W.heap.size W w') :=
    fun W h1 h2 => takes_any (fm0 i) ys p cap W (fm0_ok i) h1 h2 hlc hbd
  have H1 : Hid (∀ W, DevTab T W → ArgsIs W p ys → Calls Tryz.prog 119 #[.agg #[fv ((fm1 i).getD 0 0), fv ((fm1 i).getD 1 0), fv ((fm1 i).getD 2 0)], .slice p ys.length cap] W fun e w' => e = .returned (.bool (takeB T (fm1 i) ys)) ∧ Below W.heap.size W w') :=
    fun W h1 h2 => takes_any (fm1 i) ys p cap W (fm1_ok i) h1 h2 hlc hbd
  have HA : Hid (ArgsIs w p ys) := hA
  have HO : Hid (okA T i ys = (takeB T (fm0 i) ys || takeB T (fm1 i) ys)) := rfl
  clear hA
  unfold erowV
  generalize fv ((fm0 i).getD 0 0) = g0 at *
  generalize fv ((fm0 i).getD 1 0) = g1 at *
  generalize fv ((fm0 i).getD 2 0) = g2 at *
  generalize fv ((fm1 i).getD 0 0) = g3 at *
  generalize fv ((fm1 i).getD 1 0) = g4 at *
  generalize fv ((fm1 i).getD 2 0) = g5 at *
  generalize takeB T (fm0 i) ys = t0 at *
  generalize takeB T (fm1 i) ys = t1 at *
  go_enter Tryz.func105, Tryz.ntmps105
  go_wp2_with fail
  refine (H0.out _ (hT.alloc _) (HA.out.to (one _ _))).mono ?_
  rintro e w1 ⟨rfl, hb1⟩
  have HB1 : Hid (Below w.heap.size w w1) := of_one hb1
  obtain ⟨hc, hf⟩ := bcell hb1
  cases t0 with
  | true =>
    go_wp2
    go_ret
    exact ⟨by rw [HO.out]; rfl, HB1.out⟩
  | false =>
    go_wp2_with fail
    refine (H1.out _ (hT.to HB1.out) (HA.out.to HB1.out)).mono ?_
    rintro e w2 ⟨rfl, hb2⟩
    go_wp2
    go_ret
    exact ⟨by rw [HO.out]; rfl, HB1.out.trans (hb2.mono HB1.out.size)⟩
end Go.Proofs.YtjkpingdokkkcaaGreatDoor.Tb

/- ElemIsContact: the program's. Helper text: no statement is claimed here. -/
namespace Go.Proofs.YtjkpingdokkkcaaGreatDoor.Tb
open Go.ChangeShapes Go.WideShapes Go.ChangeAt Go.RowKit
variable {T : Tab}
attribute [local go_sem] fv_store

set_option maxHeartbeats 1000000 in
theorem isContact_any (op : Int) (ys : List Ar) (p : Option Addr) (cap : Nat) (w : World) (hT : DevTab T w) (hA : ArgsIs w p ys) (hlc : ys.length ≤ cap) (hbd : ys.length ≤ 2000000) :
    Calls Tryz.prog 102 #[elemV op p ys.length cap] w fun e w' => e = .returned (.bool (conB T op ys)) ∧ Below w.heap.size w w' := by
  have HA : Hid (ArgsIs w p ys) := hA
  have HT : Hid (DevTab T w) := hT
  have HR : Hid (∀ W, DevTab T W → ArgsIs W p ys → Calls Tryz.prog 105 #[erowV (ez op), .slice p ys.length cap] W fun e w' => e = .returned (.bool (okA T (ez op) ys)) ∧ Below W.heap.size W w') :=
    fun W h1 h2 => rowTakes_any (ez op) ys p cap W h1 h2 hlc hbd
  have HE : Hid (∀ W, Calls Tryz.prog 104 #[.int .i64 op] W fun e w' => e = .returned (erowV (ez op)) ∧ Below W.heap.size W w') := fun W => erowV_any op W
  have HC : Hid (conB T op ys = (decide (nm (ez op) = []) && okA T (ez op) ys)) := rfl
  clear hA hT
  generalize conB T op ys = res at *
  generalize ez op = i at *
  unfold erowV at HR HE
  generalize (fm0 i).getD 0 0 = g0 at *
  generalize (fm0 i).getD 1 0 = g1 at *
  generalize (fm0 i).getD 2 0 = g2 at *
  generalize (fm1 i).getD 0 0 = g3 at *
  generalize (fm1 i).getD 1 0 = g4 at *
  generalize (fm1 i).getD 2 0 = g5 at *
  generalize okA T i ys = t0 at *
  by_cases hn : nm i = []
  · have HN : Hid (nm i = []) := hn
    rw [hn] at HR HE
    clear hn
    go_enter Tryz.func102, Tryz.ntmps102
    go_wp2_with fail
    refine (HE.out _).mono ?_
    rintro e w1 ⟨rfl, hb1⟩
    have HB1 : Hid (Below w.heap.size w w1) := of_one hb1
    have hce := elem_at hb1
    clear hb1
    go_wp2_with fail
    refine (HR.out _ ((HT.out.to HB1.out).alloc _) ((HA.out.to HB1.out).to (one _ _))).mono ?_
    rintro e w2 ⟨rfl, hb2⟩
    go_wp2
    go_ret
    exact ⟨by rw [HC.out, HN.out]; simp, HB1.out.trans ((of_one hb2).mono HB1.out.size)⟩
  · have HN : Hid (nm i ≠ []) := hn
    obtain ⟨c, l, hl⟩ := List.exists_cons_of_ne_nil hn
    rw [hl] at HR HE
    clear hn hl
    go_enter Tryz.func102, Tryz.ntmps102
    go_wp2_with fail
    refine (HE.out _).mono ?_
    rintro e w1 ⟨rfl, hb1⟩
    have HB1 : Hid (Below w.heap.size w w1) := of_one hb1
    have hce := elem_at hb1
    clear hb1
    go_wp2
    go_ret
    exact ⟨by rw [HC.out]; simp [HN.out], HB1.out.alloc HB1.out.size _⟩


end Go.Proofs.YtjkpingdokkkcaaGreatDoor.Tb

/- ElemIsCoil: the program's. Helper text: no statement is claimed here. -/
namespace Go.Proofs.YtjkpingdokkkcaaGreatDoor.Tb
open Go.ChangeShapes Go.WideShapes Go.ChangeAt Go.RowKit
variable {T : Tab}
attribute [local go_sem] fv_store

set_option maxHeartbeats 1000000 in
theorem isCoil_any (op : Int) (ys : List Ar) (p : Option Addr) (cap : Nat) (w : World) (hT : DevTab T w) (hA : ArgsIs w p ys) (hlc : ys.length ≤ cap) (hbd : ys.length ≤ 2000000) :
    Calls Tryz.prog 101 #[elemV op p ys.length cap] w fun e w' => e = .returned (.bool (coilB T op ys)) ∧ Below w.heap.size w w' := by
  have HA : Hid (ArgsIs w p ys) := hA
  have HT : Hid (DevTab T w) := hT
  have HR : Hid (∀ W, DevTab T W → ArgsIs W p ys → Calls Tryz.prog 105 #[erowV (ez op), .slice p ys.length cap] W fun e w' => e = .returned (.bool (okA T (ez op) ys)) ∧ Below W.heap.size W w') :=
    fun W h1 h2 => rowTakes_any (ez op) ys p cap W h1 h2 hlc hbd
  have HE : Hid (∀ W, Calls Tryz.prog 104 #[.int .i64 op] W fun e w' => e = .returned (erowV (ez op)) ∧ Below W.heap.size W w') := fun W => erowV_any op W
  have HC : Hid (coilB T op ys = (decide (nm (ez op) ≠ []) && okA T (ez op) ys)) := rfl
  clear hA hT
  generalize coilB T op ys = res at *
  generalize ez op = i at *
  unfold erowV at HR HE
  generalize (fm0 i).getD 0 0 = g0 at *
  generalize (fm0 i).getD 1 0 = g1 at *
  generalize (fm0 i).getD 2 0 = g2 at *
  generalize (fm1 i).getD 0 0 = g3 at *
  generalize (fm1 i).getD 1 0 = g4 at *
  generalize (fm1 i).getD 2 0 = g5 at *
  generalize okA T i ys = t0 at *
  by_cases hn : nm i = []
  · have HN : Hid (nm i = []) := hn
    rw [hn] at HR HE
    clear hn
    go_enter Tryz.func101, Tryz.ntmps101
    go_wp2_with fail
    refine (HE.out _).mono ?_
    rintro e w1 ⟨rfl, hb1⟩
    have HB1 : Hid (Below w.heap.size w w1) := of_one hb1
    have hce := elem_at hb1
    clear hb1
    go_wp2
    go_ret
    exact ⟨by rw [HC.out]; simp [HN.out], HB1.out.alloc HB1.out.size _⟩
  · have HN : Hid (nm i ≠ []) := hn
    obtain ⟨c, l, hl⟩ := List.exists_cons_of_ne_nil hn
    rw [hl] at HR HE
    clear hn hl
    go_enter Tryz.func101, Tryz.ntmps101
    go_wp2_with fail
    refine (HE.out _).mono ?_
    rintro e w1 ⟨rfl, hb1⟩
    have HB1 : Hid (Below w.heap.size w w1) := of_one hb1
    have hce := elem_at hb1
    clear hb1
    go_wp2_with fail
    refine (HR.out _ ((HT.out.to HB1.out).alloc _) ((HA.out.to HB1.out).to (one _ _))).mono ?_
    rintro e w2 ⟨rfl, hb2⟩
    go_wp2
    go_ret
    exact ⟨by rw [HC.out]; simp [HN.out], HB1.out.trans ((of_one hb2).mono HB1.out.size)⟩

end Go.Proofs.YtjkpingdokkkcaaGreatDoor.Tb

/- What treeCheck finds wrong with a net, whatever the table of devices holds. Helper text: no statement is claimed here. -/
namespace Go.Proofs.YtjkpingdokkkcaaGreatDoor.Tr
open Go.ChangeShapes Go.WideShapes Go.ChangeAt Go.RowKit
open Tb (Tab DevTab conB coilB)

theorem args_tb {S : Nat → Prop} {w : World} (hSw : ∀ b, S b → b < w.heap.size) {p : Option Addr} {cap : Nat} {ys : List Ar} (h : SlOf S (ArE w) 3 p cap ys) : Tb.ArgsIs w p ys := by
  rcases h.2 with h2 | ⟨b, off, rfl, hb, h2⟩
  · exact .inl h2
  · refine .inr ⟨b, off, rfl, hSw b hb, fun i hi => ?_⟩
    have := h2 i _ (List.getElem?_eq_getElem hi)
    have e : Tb.at3 ys i = ys[i] := by unfold Tb.at3; rw [List.getD_eq_getElem?_getD, List.getElem?_eq_getElem hi]; rfl
    rw [e]
    exact this
/-- A net of nets, as many as its kind takes. -/
def jointB (e : El) (kd : Int) (lk : Nat) : Bool := eqE e (0, []) && ((decide (kd = 2) || decide (kd = 3)) && decide (0 < lk) || decide (kd = 4) && decide (lk = 1))

theorem elem_at4 (w : World) (kd op : Int) (pa : Option Addr) (la ca : Nat) (pk : Option Addr) (lk ck : Nat) {w1 : World} (hb1 : Below (w.alloc (.cells #[.int .i64 kd, .int .i64 op, .slice pa la ca, .slice pk lk ck] 49)).heap.size (w.alloc (.cells #[.int .i64 kd, .int .i64 op, .slice pa la ca, .slice pk lk ck] 49)) w1) :
    w1.cell? ⟨w.heap.size, 0, none⟩ = some (.int .i64 kd) ∧ w1.cell? ⟨w.heap.size, 1, none⟩ = some (.int .i64 op) ∧ w1.cell? ⟨w.heap.size, 2, none⟩ = some (.slice pa la ca) ∧ w1.cell? ⟨w.heap.size, 3, none⟩ = some (.slice pk lk ck) := by
  have h : w1.heap[w.heap.size]? = some (.cells #[.int .i64 kd, .int .i64 op, .slice pa la ca, .slice pk lk ck] 49 (0, 0)) := (hb1.block _ (by simp)).trans (last _ _)
  exact ⟨cell_of_row _ _ 0 _ _ _ h, cell_of_row _ _ 1 _ _ _ h, cell_of_row _ _ 2 _ _ _ h, cell_of_row _ _ 3 _ _ _ h⟩

set_option maxHeartbeats 2000000 in
theorem joint_any (S : Nat → Prop) (w : World) (hSw : ∀ b, S b → b < w.heap.size) (kd : Int) (e : El) (pa : Option Addr) (ca : Nat) (pk : Option Addr) (lk ck : Nat) (hA : SlOf S (ArE w) 3 pa ca e.2) :
    Calls Tryz.prog 103 #[.agg #[.int .i64 kd, .int .i64 e.1, .slice pa e.2.length ca, .slice pk lk ck]] w fun r w' => r = .returned (.bool (jointB e kd lk)) ∧ Below w.heap.size w w' := by
  have HC : Hid (∀ W, Below w.heap.size w W → Calls Tryz.prog 19 #[.agg #[.int .i64 e.1, .slice pa e.2.length ca], .agg #[.int .i64 0, .slice none 0 0]] W fun r w' => r = .returned (.bool (eqE e (0, []))) ∧ Below W.heap.size W w') :=
    fun W hW => iElem_any (S := S) (S2 := S) (fun b hb => Nat.lt_of_lt_of_le (hSw b hb) hW.size) (fun b hb => Nat.lt_of_lt_of_le (hSw b hb) hW.size) _ _ e (0, []) ⟨pa, ca, rfl, args_to (Keep.of hW hSw) (fun _ h => h) hA⟩ ⟨none, 0, rfl, ⟨⟨Nat.le_refl _, Nat.zero_le _⟩, .inl rfl⟩⟩
  unfold jointB
  clear hA hSw
  generalize eqE e (0, []) = R at *
  generalize e.2.length = la at *
  generalize e.1 = op at *
  have HE : ∀ (W w1 : World), Hid (Below w.heap.size w W) → Below W.heap.size W w1 → Hid (Below w.heap.size w w1) := fun W w1 h1 h2 => h1.out.trans (h2.mono h1.out.size)
  cases R with
  | false =>
    rw [Bool.false_and]
    go_enter Tryz.func103, Tryz.ntmps103
    go_wp2_with fail
    refine (HC.out _ (one _ _)).mono ?_
    rintro r w1 ⟨rfl, hb1⟩
    have HB1 : Hid (Below w.heap.size w w1) := of_one hb1
    clear hb1
    go_wp2
    go_ret
    exact ⟨rfl, HB1.out⟩
  | true =>
    rw [Bool.true_and]
    by_cases h2 : kd = 2 ∨ kd = 3
    · have e : ((decide (kd = 2) || decide (kd = 3)) && decide (0 < lk) || decide (kd = 4) && decide (lk = 1)) = decide (0 < lk) := by
        rcases h2 with rfl | rfl <;> simp
      rw [e]
      rcases h2 with rfl | rfl
      all_goals
        go_enter Tryz.func103, Tryz.ntmps103
        go_wp2_with fail
        refine (HC.out _ (one _ _)).mono ?_
        rintro r w1 ⟨rfl, hb1⟩
        have HB1 : Hid (Below w.heap.size w w1) := of_one hb1
        obtain ⟨c0, c1, c2, c3⟩ := elem_at4 w _ _ _ _ _ _ _ _ hb1
        clear hb1
        go_wp2
        go_ret
        exact ⟨rfl, HB1.out⟩
    · have n2 : (kd == 2) = false := by simp; omega
      have n3 : (kd == 3) = false := by simp; omega
      by_cases h4 : kd = 4
      · have e : ((decide (kd = 2) || decide (kd = 3)) && decide (0 < lk) || decide (kd = 4) && decide (lk = 1)) = ((lk : Int) == 1) := by
          subst h4
          rw [Bool.eq_iff_iff]
          simp
          omega
        rw [e]
        subst h4
        go_enter Tryz.func103, Tryz.ntmps103
        go_wp2_with fail
        refine (HC.out _ (one _ _)).mono ?_
        rintro r w1 ⟨rfl, hb1⟩
        have HB1 : Hid (Below w.heap.size w w1) := of_one hb1
        obtain ⟨c0, c1, c2, c3⟩ := elem_at4 w _ _ _ _ _ _ _ _ hb1
        clear hb1
        go_wp2
        go_ret
        exact ⟨rfl, HB1.out⟩
      · have n4 : (kd == 4) = false := by simp; omega
        have e : ((decide (kd = 2) || decide (kd = 3)) && decide (0 < lk) || decide (kd = 4) && decide (lk = 1)) = false := by
          rw [decide_eq_false (fun h => h2 (.inl h)), decide_eq_false (fun h => h2 (.inr h)), decide_eq_false h4]; rfl
        rw [e]
        clear h2 h4 e
        go_enter Tryz.func103, Tryz.ntmps103
        go_wp2_with fail
        refine (HC.out _ (one _ _)).mono ?_
        rintro r w1 ⟨rfl, hb1⟩
        have HB1 : Hid (Below w.heap.size w w1) := of_one hb1
        obtain ⟨c0, c1, c2, c3⟩ := elem_at4 w _ _ _ _ _ _ _ _ hb1
        clear hb1
        go_wp2
        go_ret
        exact ⟨rfl, HB1.out⟩
end Go.Proofs.YtjkpingdokkkcaaGreatDoor.Tr

/- What treeCheck finds wrong with a net: treeCheck.net. Helper text: no statement is claimed here. -/
namespace Go.Proofs.YtjkpingdokkkcaaGreatDoor.Tr
open Go.ChangeShapes Go.WideShapes Go.ChangeAt Go.RowKit
open Tb (Tab DevTab conB coilB)

/-- What is wrong with a net, its kids left aside. -/
def chkE (T : Tab) (e : El) (kd : Int) (lk : Nat) : Option Int := if kd = 1 ∧ lk = 0 then (if conB T e.1 e.2 then none else some 3) else if jointB e kd lk then none else some 2

set_option maxHeartbeats 2000000 in
theorem knet_any (T : Tab) (S : Nat → Prop) (w : World) (hT : DevTab T w) (hSw : ∀ b, S b → b < w.heap.size) (kd : Int) (e : El) (pa : Option Addr) (ca : Nat) (pk : Option Addr) (lk ck : Nat) (hA : SlOf S (ArE w) 3 pa ca e.2) (hz : e.2.length ≤ 2000000) :
    Calls Tryz.prog 100 #[.agg #[], .agg #[.int .i64 kd, .int .i64 e.1, .slice pa e.2.length ca, .slice pk lk ck]] w fun r w' => r = .returned (errV (chkE T e kd lk)) ∧ Below w.heap.size w w' := by
  have HJ : Hid (∀ W, Below w.heap.size w W → Calls Tryz.prog 103 #[.agg #[.int .i64 kd, .int .i64 e.1, .slice pa e.2.length ca, .slice pk lk ck]] W fun r w' => r = .returned (.bool (jointB e kd lk)) ∧ Below W.heap.size W w') :=
    fun W hW => joint_any S W (fun b hb => Nat.lt_of_lt_of_le (hSw b hb) hW.size) kd e pa ca pk lk ck (args_to (Keep.of hW hSw) (fun _ h => h) hA)
  have HC : Hid (∀ W, Below w.heap.size w W → Calls Tryz.prog 102 #[.agg #[.int .i64 e.1, .slice pa e.2.length ca]] W fun r w' => r = .returned (.bool (conB T e.1 e.2)) ∧ Below W.heap.size W w') :=
    fun W hW => Tb.isContact_any e.1 e.2 pa ca W (hT.to hW) ((args_tb hSw hA).to hW) hA.1.1 hz
  unfold chkE
  clear hA hSw hT hz
  generalize jointB e kd lk = J at *
  generalize conB T e.1 e.2 = R at *
  generalize e.2.length = la at *
  generalize e.1 = op at *
  by_cases h : kd = 1 ∧ lk = 0
  · rw [if_pos h]
    obtain ⟨rfl, rfl⟩ := h
    cases R
    all_goals
      go_enter Tryz.func100, Tryz.ntmps100
      go_wp2_with fail
      refine (HC.out _ (two' _ _ _)).mono ?_
      rintro r w1 ⟨rfl, hb1⟩
      have HB1 : Hid (Below w.heap.size w w1) := of_two' hb1
      clear hb1
      go_wp2
      go_ret
      exact ⟨rfl, HB1.out⟩
  · rw [if_neg h]
    by_cases h1 : kd = 1
    · subst h1
      have hk : ((lk : Int) == 0) = false := by simp; omega
      cases J
      all_goals
        go_enter Tryz.func100, Tryz.ntmps100
        go_wp2_with fail
        refine (HJ.out _ (two' _ _ _)).mono ?_
        rintro r w1 ⟨rfl, hb1⟩
        have HB1 : Hid (Below w.heap.size w w1) := of_two' hb1
        clear hb1
        go_wp2
        go_ret
        exact ⟨rfl, HB1.out⟩
    · have hk : (kd == 1) = false := by simp; omega
      cases J
      all_goals
        go_enter Tryz.func100, Tryz.ntmps100
        go_wp2_with fail
        refine (HJ.out _ (two' _ _ _)).mono ?_
        rintro r w1 ⟨rfl, hb1⟩
        have HB1 : Hid (Below w.heap.size w w1) := of_two' hb1
        clear hb1
        go_wp2
        go_ret
        exact ⟨rfl, HB1.out⟩
end Go.Proofs.YtjkpingdokkkcaaGreatDoor.Tr

/- What treeCheck finds wrong with an arm; treeCheck as a look that may stop. Helper text: no statement is claimed here. -/
namespace Go.Proofs.YtjkpingdokkkcaaGreatDoor.Tr
open Go.ChangeShapes Go.WideShapes Go.ChangeAt Go.RowKit
open Tb (Tab DevTab conB coilB)

/-- What is wrong with an arm, its kids left aside. -/
def chkC (T : Tab) (es : List El) (lq : Nat) : Option Int := if es.all (fun e => coilB T e.1 e.2) then (if es.length = 0 ∧ lq = 0 then some 5 else none) else some 3
theorem all_drop {T : Tab} {es : List El} {j : Nat} {e : El} (h : es[j]? = some e) : (es.drop j).all (fun e => coilB T e.1 e.2) = (coilB T e.1 e.2 && (es.drop (j + 1)).all (fun e => coilB T e.1 e.2)) := by
  obtain ⟨hj, rfl⟩ := List.getElem?_eq_some_iff.1 h
  rw [List.drop_eq_getElem_cons hj, List.all_cons]
theorem zEl_in {es : List El} {j : Nat} {e : El} (h : es[j]? = some e) : e.2.length ≤ zEls es := by
  have := tot_get zEl h
  unfold zEls
  have e : zEl e = e.2.length := rfl
  omega
theorem arm_at6 (w : World) (o1 : Obj) (a b c d e f : Value) {w1 : World} (hb1 : Below ((w.alloc o1).alloc (.cells #[a, b, c, d, e, f] 52)).heap.size ((w.alloc o1).alloc (.cells #[a, b, c, d, e, f] 52)) w1) :
    w1.cell? ⟨w.heap.size + 1, 4, none⟩ = some e ∧ w1.cell? ⟨w.heap.size + 1, 5, none⟩ = some f := by
  have h : w1.heap[w.heap.size + 1]? = some (.cells #[a, b, c, d, e, f] 52 (0, 0)) := by
    refine (hb1.block _ (by simp)).trans ?_
    have := last (w.alloc o1) (.cells #[a, b, c, d, e, f] 52)
    rwa [show (w.alloc o1).heap.size = w.heap.size + 1 by simp] at this
  exact ⟨cell_of_row _ _ 4 _ _ _ h, cell_of_row _ _ 5 _ _ _ h⟩

set_option maxHeartbeats 4000000 in
set_option maxRecDepth 100000 in
theorem karm_any (T : Tab) (S : Nat → Prop) (w : World) (hT : DevTab T w) (hSw : ∀ b, S b → b < w.heap.size) (kd op : Int) (pa : Option Addr) (la ca : Nat) (pk : Option Addr) (lk ck : Nat) (pc : Option Addr) (es : List El) (cc : Nat) (pq : Option Addr) (lq cq : Nat) (hA : SlOf S (ElE S w) 2 pc cc es) (hz : zEls es ≤ 2000000) :
    Calls Tryz.prog 99 #[.agg #[], .agg #[.int .i64 kd, .int .i64 op, .slice pa la ca, .slice pk lk ck, .slice pc es.length cc, .slice pq lq cq]] w fun r w' => r = .returned (errV (chkC T es lq)) ∧ Below w.heap.size w w' := by
  have HT : Hid (DevTab T w) := hT
  have HS : Hid (∀ b, S b → b < w.heap.size) := hSw
  have HA : Hid (SlOf S (ElE S w) 2 pc cc es) := hA
  have HZ : Hid (zEls es ≤ 2000000) := hz
  obtain ⟨⟨hl1, hl2⟩, -⟩ := hA
  clear hT hSw hz
  go_enter Tryz.func99, Tryz.ntmps99
  go_wp2
  have HV : Hid (Below w.heap.size w ((w.alloc (.cells #[] 114)).alloc (.cells #[.int .i64 kd, .int .i64 op, .slice pa la ca, .slice pk lk ck, .slice pc es.length cc, .slice pq lq cq] 52))) := two' _ _ _
  have HQ : Hid (∀ W, Below ((w.alloc (.cells #[] 114)).alloc (.cells #[.int .i64 kd, .int .i64 op, .slice pa la ca, .slice pk lk ck, .slice pc es.length cc, .slice pq lq cq] 52)).heap.size ((w.alloc (.cells #[] 114)).alloc (.cells #[.int .i64 kd, .int .i64 op, .slice pa la ca, .slice pk lk ck, .slice pc es.length cc, .slice pq lq cq] 52)) W → W.cell? ⟨w.heap.size + 1, 4, none⟩ = some (.slice pc es.length cc) ∧ W.cell? ⟨w.heap.size + 1, 5, none⟩ = some (.slice pq lq cq)) := fun W h => arm_at6 w _ _ _ _ _ _ _ h
  generalize (w.alloc (.cells #[] 114)).alloc (.cells #[.int .i64 kd, .int .i64 op, .slice pa la ca, .slice pk lk ck, .slice pc es.length cc, .slice pq lq cq] 52) = V at *
  go_loopw [10] (fun d w' => ∃ j : Nat, j ≤ es.length ∧ d = .int .i64 (j : Int) ∧ Hid (es.all (fun e => coilB T e.1 e.2) = (es.drop j).all (fun e => coilB T e.1 e.2)) ∧ Hid (Below V.heap.size V w')) (fun d _ => es.length - (intOf d).toNat)
  case atStart => exact ⟨0, by omega, rfl, rfl, Below.refl _ _⟩
  case round =>
    obtain ⟨j, hj, rfl, HJ, HB⟩ := hrel
    rename_i wr
    have HB0 : Hid (Below w.heap.size w wr) := HV.out.trans (HB.out.mono HV.out.size)
    by_cases hlt : j < es.length
    · have hlt' : (j : Int) < (es.length : Int) := by omega
      obtain ⟨e, he⟩ := get_lt hlt
      have HE : Hid (es[j]? = some e) := he
      obtain ⟨b, off, rfl, hb, hE⟩ := (els_to (Keep.of HB0.out HS.out) (fun _ h => h) HA.out).get he
      obtain ⟨pe, ce, c0, c1, hAr⟩ := hE
      have hbl : b < wr.heap.size := World.block_lt_of_cell? _ _ c0
      have HC : Hid (∀ W, Below wr.heap.size wr W → Calls Tryz.prog 101 #[.agg #[.int .i64 e.1, .slice pe e.2.length ce]] W fun r w' => r = .returned (.bool (coilB T e.1 e.2)) ∧ Below W.heap.size W w') :=
        fun W hW => Tb.isCoil_any e.1 e.2 pe ce W ((HT.out.to HB0.out).to hW) ((args_tb (fun b hb => Nat.lt_of_lt_of_le (HS.out b hb) HB0.out.size) hAr).to hW) hAr.1.1 (Nat.le_trans (zEl_in he) HZ.out)
      have HD : Hid (es.all (fun e => coilB T e.1 e.2) = (coilB T e.1 e.2 && (es.drop (j + 1)).all (fun e => coilB T e.1 e.2))) := HJ.out.trans (all_drop he)
      clear he hAr
      generalize coilB T e.1 e.2 = R at *
      generalize e.2.length = le at *
      generalize e.1 = oe at *
      cases R with
      | false =>
        have HR : Hid (chkC T es lq = some 3) := by
          show (if _ then _ else _) = _
          rw [HD.out]
          rfl
        go_wp2_with fail
        refine (HC.out _ (one _ _)).mono ?_
        rintro r w1 ⟨rfl, hb1⟩
        have HB1 : Hid (Below w.heap.size w w1) := HB0.out.trans ((of_one hb1).mono HB0.out.size)
        clear hb1
        go_wp2
        go_ret
        rw [HR.out]
        exact ⟨rfl, HB1.out⟩
      | true =>
        have HN : Hid (es.all (fun e => coilB T e.1 e.2) = (es.drop (j + 1)).all (fun e => coilB T e.1 e.2)) := by
          have := HD.out
          rw [Bool.true_and] at this
          exact this
        go_wp2_with fail
        refine (HC.out _ (one _ _)).mono ?_
        rintro r w1 ⟨rfl, hb1⟩
        have HB1 : Hid (Below V.heap.size V w1) := HB.out.trans ((of_one hb1).mono HB.out.size)
        clear hb1
        go_wp2
        exact ⟨⟨j + 1, by omega, by go_num, HN, HB1⟩, by simp [intOf]; omega⟩
    · obtain rfl : j = es.length := by omega
      obtain ⟨q4, q5⟩ := HQ.out _ HB.out
      have HR : Hid (chkC T es lq = if es.length = 0 ∧ lq = 0 then some 5 else none) := by
        show (if _ then _ else _) = _
        rw [HJ.out, List.drop_length]
        rfl
      by_cases h0 : es.length = 0
      · have h0' : ((es.length : Int) == 0) = true := by simp [h0]
        by_cases h1 : lq = 0
        · have HR' : Hid (chkC T es lq = some 5) := by
            show _ = _
            rw [HR.out, if_pos ⟨h0, h1⟩]
          have h1' : ((lq : Int) == 0) = true := by simp [h1]
          clear h0 h1
          go_wp2
          go_ret
          rw [HR'.out]
          exact ⟨rfl, HB0.out⟩
        · have HR' : Hid (chkC T es lq = none) := by
            show _ = _
            rw [HR.out, if_neg (fun h => h1 h.2)]
          have h1' : ((lq : Int) == 0) = false := by simp [h1]
          clear h0 h1
          go_wp2
          go_ret
          rw [HR'.out]
          exact ⟨rfl, HB0.out⟩
      · have HR' : Hid (chkC T es lq = none) := by
          show _ = _
          rw [HR.out, if_neg (fun h => h0 h.1)]
        have h0' : ((es.length : Int) == 0) = false := by simp [h0]
        clear h0
        go_wp2
        go_ret
        rw [HR'.out]
        exact ⟨rfl, HB0.out⟩
end Go.Proofs.YtjkpingdokkkcaaGreatDoor.Tr

/- treeCheck as a look that may stop; treeWrongRung. Helper text: no statement is claimed here. -/
namespace Go.Proofs.YtjkpingdokkkcaaGreatDoor.Tr
open Go.ChangeShapes Go.WideShapes Go.ChangeAt Go.RowKit
open Tb (Tab DevTab conB coilB)
attribute [local go_sem] store_func

def chkN (T : Tab) : (n : Nat) → NT n → Nat → Nat × Option Int
  | 0, _, s => (s, none)
  | _ + 1, t, s => (s, chkE T t.el t.kind t.kids.length)
def chkA (T : Tab) (k : Nat) : (n : Nat) → AT k n → Nat → Nat × Option Int
  | 0, _, s => (s, none)
  | _ + 1, a, s => (s, chkC T a.coils a.kids.length)
/-- The look that finds what is wrong. -/
def kSk (T : Tab) (C : Nat) : Sk := { C := C, T := 114, dv := .agg #[], fn := 100, fa := 99, cnt := fun w _ => DevTab T w ∧ C < w.heap.size, gN := chkN T, gA := chkA T }
theorem kSk_ok (T : Tab) (C : Nat) : (kSk T C).Ok where
  lt := fun _ _ h => h.2
  to := fun _ _ _ h hb => ⟨h.1.to hb, Nat.lt_of_lt_of_le h.2 hb.size⟩
  me := fun _ h w => (h none w).2
  call := Tryz.call100
  net := fun S W n v t s hS hV hz hs => by
    cases n with
    | zero => exact hV.elim
    | succ n =>
      obtain ⟨pa, ca, pk, ck, rfl, hA, -⟩ := hV
      have := zN_succ n t
      have e : zEl t.el = t.el.2.length := rfl
      refine (knet_any T S W hs.1 (fun b hb => (hS b hb).1) t.kind t.el pa ca pk t.kids.length ck hA (by omega)).mono ?_
      rintro r w' ⟨rfl, hb⟩
      exact ⟨rfl, fun _ => ⟨hs.1.to hb, Nat.lt_of_lt_of_le hs.2 hb.size⟩, But.of hb⟩
  meA := fun _ h w => (h none w).2
  callA := Tryz.call99
  arm := fun S W k n v t s hS hV hz hs => by
    cases n with
    | zero => exact hV.elim
    | succ n =>
      obtain ⟨kd, op, pa, la, ca, pk, lk, ck, pc, cc, pq, cq, rfl, -, hA, -⟩ := hV
      have := zA_succ k n t
      refine (karm_any T S W hs.1 (fun b hb => (hS b hb).1) kd op pa la ca pk lk ck pc t.coils cc pq t.kids.length cq hA (by omega)).mono ?_
      rintro r w' ⟨rfl, hb⟩
      exact ⟨rfl, fun _ => ⟨hs.1.to hb, Nat.lt_of_lt_of_le hs.2 hb.size⟩, But.of hb⟩
theorem runL_congr {α : Type} {f g : α → Nat → Nat × Option Int} (h : ∀ t s, f t s = g t s) (ts : List α) (s : Nat) : runL f ts s = runL g ts s := by
  rw [show f = g from funext fun t => funext fun s => h t s]
theorem kSk_rN (T : Tab) (C : Nat) : ∀ (n : Nat) (t : NT n) (s : Nat), (kSk T C).rN n t s = (kSk T 0).rN n t s
  | 0, _, _ => rfl
  | n + 1, t, s => by
    show (if _ then _ else _) = (if _ then _ else _)
    rw [runL_congr (kSk_rN T C n)]
    rfl
theorem kSk_rA (T : Tab) (C k : Nat) : ∀ (n : Nat) (t : AT k n) (s : Nat), (kSk T C).rA k n t s = (kSk T 0).rA k n t s
  | 0, _, _ => rfl
  | n + 1, t, s => by
    have e : (kSk T C).hA k (n + 1) t s = (kSk T 0).hA k (n + 1) t s := by
      show (if _ then _ else if _ then _ else _) = (if _ then _ else if _ then _ else _)
      rw [kSk_rN T C]
      rfl
    show (if _ then _ else _) = (if _ then _ else _)
    rw [e, runL_congr (kSk_rA T C k n)]
theorem zAs_one (k n : Nat) (t : AT k n) (h : zA k n t ≤ 1048575) : zAs k n [t] ≤ 1048576 := by
  unfold zAs
  rw [tot_single]
  simp; omega

/-- What is wrong with a rung. -/
def wrongR (T : Tab) (k n : Nat) (a : AT k (n + 1)) : Option Int := if isNone a.net then some 4 else ((kSk T 0).rA k (n + 1) a 0).2

set_option maxHeartbeats 2000000 in
set_option maxRecDepth 100000 in
theorem wrongRung_any (T : Tab) (k n : Nat) (S : Nat → Prop) (w : World) (hT : DevTab T w) (hSw : ∀ b, S b → b < w.heap.size) (v : Value) (t : AT k (n + 1)) (hV : AmV S w k (n + 1) v t) (hz : zA k (n + 1) t ≤ 1048575) :
    Calls Tryz.prog 42 #[v] w fun r w' => r = .returned (errV (wrongR T k n t)) ∧ Below w.heap.size w w' := by
  have HV : Hid (AmV S w k (n + 1) v t) := hV
  obtain ⟨kd, op, pa, la, ca, pk, lk, ck, pc, cc, pq, cq, rfl, hN, -, -⟩ := hV
  have HC1 : Hid (∀ W, Below w.heap.size w W → Calls Tryz.prog 38 #[.agg #[.int .i64 kd, .int .i64 op, .slice pa la ca, .slice pk lk ck]] W fun r w' => r = .returned (.bool (isNone t.net)) ∧ Below W.heap.size W w') :=
    fun W hW => iNone_any k S W (fun b hb => Nat.lt_of_lt_of_le (hSw b hb) hW.size) _ t.net (hN.to (Keep.of hW hSw) (fun _ h => h))
  have HC2 : Hid (∀ W B, Below w.heap.size w W → w.heap.size < B → W.heap[B]? = some (.cells #[.int .i64 kd, .int .i64 op, .slice pa la ca, .slice pk lk ck, .slice pc t.coils.length cc, .slice pq t.kids.length cq] 52 (0, 0)) → Calls Tryz.prog 22 #[.slice (some ⟨B, 0, none⟩) 1 1, .iface 114 (.agg #[])] W fun r w' => r = .returned (errV ((kSk T 0).rA k (n + 1) t 0).2) ∧ But w.heap.size W w') := fun W B hW hB hrow => by
    have hBl := (Array.getElem?_eq_some_iff.1 hrow).1
    have hk : Keep S w W := Keep.of hW hSw
    have hA : AmV S W k (n + 1) _ t := HV.out.to hk (fun _ h => h)
    have h := skArms_any (kSk T w.heap.size) (kSk_ok T w.heap.size) k (n + 1) (fun b => S b ∨ b = B) W (fun b hb => by
      rcases hb with hb | rfl
      · exact ⟨Nat.lt_of_lt_of_le (hSw b hb) hW.size, fun e => by have := hSw b hb; rw [e] at this; exact Nat.lt_irrefl _ this⟩
      · exact ⟨hBl, fun e => by rw [e] at hB; exact Nat.lt_irrefl _ hB⟩) (some ⟨B, 0, none⟩) 1 [t] ⟨⟨Nat.le_refl _, by simp⟩, .inr ⟨B, 0, rfl, .inr rfl, fun i u hu => by
        obtain ⟨rfl, rfl⟩ : i = 0 ∧ u = t := by
          cases i with
          | zero => exact ⟨rfl, by simpa using hu.symm⟩
          | succ i => simp at hu
        exact AmE.make (hA.to (fun _ _ => rfl) (fun b hb => .inl hb)) (cell_of_row _ _ 0 _ _ _ hrow) (cell_of_row _ _ 1 _ _ _ hrow) (cell_of_row _ _ 2 _ _ _ hrow) (cell_of_row _ _ 3 _ _ _ hrow) (cell_of_row _ _ 4 _ _ _ hrow) (cell_of_row _ _ 5 _ _ _ hrow)⟩⟩ (zAs_one k (n + 1) t hz) 0 ⟨hT.to hW, Nat.lt_trans hB hBl⟩
    rw [runL_one, kSk_rA] at h
    refine h.mono ?_
    rintro r w' ⟨h1, -, h3⟩
    exact ⟨h1, h3⟩
  unfold wrongR
  clear hSw hT hN HV hz
  generalize ((kSk T 0).rA k (n + 1) t 0).2 = R at *
  generalize t.coils.length = lc at *
  generalize t.kids.length = lq at *
  cases hb : isNone t.net with
  | true =>
    rw [hb] at HC1
    rw [if_pos rfl]
    clear hb HC2
    go_enter Tryz.func42, Tryz.ntmps42
    go_wp2_with fail
    refine (HC1.out _ (one _ _)).mono ?_
    rintro r w1 ⟨rfl, hb1⟩
    have HB1 : Hid (Below w.heap.size w w1) := of_one hb1
    clear hb1
    go_wp2
    go_ret
    exact ⟨rfl, HB1.out⟩
  | false =>
    rw [hb] at HC1
    rw [if_neg (by simp)]
    clear hb
    go_enter Tryz.func42, Tryz.ntmps42
    go_wp2_with fail
    refine (HC1.out _ (one _ _)).mono ?_
    rintro r w1 ⟨rfl, hb1⟩
    have HB1 : Hid (Below w.heap.size w w1) := of_one hb1
    have HO1 : Hid (OwnR w1 w.heap.size #[.int .i64 kd, .int .i64 op, .slice pa la ca, .slice pk lk ck, .slice pc lc cc, .slice pq lq cq]) := (OwnR.new _ _).to hb1
    have q0 : w1.cell? ⟨w.heap.size, 0, none⟩ = some (.int .i64 kd) := cell_of_row _ _ 0 _ _ _ HO1.out
    have q1 : w1.cell? ⟨w.heap.size, 1, none⟩ = some (.int .i64 op) := cell_of_row _ _ 1 _ _ _ HO1.out
    have q2 : w1.cell? ⟨w.heap.size, 2, none⟩ = some (.slice pa la ca) := cell_of_row _ _ 2 _ _ _ HO1.out
    have q3 : w1.cell? ⟨w.heap.size, 3, none⟩ = some (.slice pk lk ck) := cell_of_row _ _ 3 _ _ _ HO1.out
    have q4 : w1.cell? ⟨w.heap.size, 4, none⟩ = some (.slice pc lc cc) := cell_of_row _ _ 4 _ _ _ HO1.out
    have q5 : w1.cell? ⟨w.heap.size, 5, none⟩ = some (.slice pq lq cq) := cell_of_row _ _ 5 _ _ _ HO1.out
    have hlt1 : w.heap.size < w1.heap.size := (Array.getElem?_eq_some_iff.1 HO1.out).1
    clear hb1
    go_wp2_with fail
    refine (HC2.out _ _ (HB1.out.alloc HB1.out.size _) hlt1 (last _ _)).mono ?_
    rintro r w2 ⟨rfl, hb2⟩
    have HB2 : Hid (Below w.heap.size w w2) := (HB1.out.alloc HB1.out.size _).trans (hb2.below (HB1.out.alloc HB1.out.size _).size (Nat.le_refl _))
    clear hb2
    go_wp2
    go_ret
    exact ⟨rfl, HB2.out⟩
end Go.Proofs.YtjkpingdokkkcaaGreatDoor.Tr
