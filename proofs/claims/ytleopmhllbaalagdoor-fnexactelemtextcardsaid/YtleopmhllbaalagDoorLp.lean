/- ElemText: the program's. Helper text: no statement is claimed here. -/
import Derived.Test.YtleopmhllbaalagDoorLo
import Derived.Test.YtleopmhllbaalagDoorLf
import Derived.Test.YtleopmhllbaalagDoorSh
import Derived.Test.YtleopmhllbaalagDoorShelf
import Derived.Laws.MakeOwn
namespace Go.Proofs.YtleopmhllbaalagDoor
open Go.ChangeShapes Go.WideShapes Go.ChangeAt Go.RowKit

attribute [local go_sem] fv_store

/-- The text of an operand, as a triple. -/
def tx (a : Ar) : List UInt8 := txt a.1 a.2.1 a.2.2
/-- The text of a contact or coil. -/
def eT (op : Int) (ys : List Ar) : List UInt8 := if okA (ez op) ys then ah (ez op) ++ Lib.join (ys.map tx) (bt (ez op)) else []

/-- A row of texts of the call's own, the first j filled. -/
def SFilled (w : World) (B : Nat) (ys : List Ar) (j : Nat) : Prop := ∃ cs : Array Value, w.heap[B]? = some (.cells cs 9 (0, 0)) ∧ cs.size = ys.length ∧ ∀ i, i < j → cs[i]? = some (.string ⟨(tx (at3 ys i)).toArray⟩)
theorem SFilled.lt {w : World} {B : Nat} {ys : List Ar} {j : Nat} (h : SFilled w B ys j) : B < w.heap.size := by
  obtain ⟨cs, h1, _⟩ := h
  exact (Array.getElem?_eq_some_iff.1 h1).1
theorem SFilled.to {w w' : World} {B : Nat} {ys : List Ar} {j : Nat} (h : SFilled w B ys j) (hb : Below w.heap.size w w') : SFilled w' B ys j := by
  have hl := h.lt
  obtain ⟨cs, h1, h2⟩ := h
  exact ⟨cs, (hb.block B hl).trans h1, h2⟩
theorem SFilled.cell {w : World} {B : Nat} {ys : List Ar} {j : Nat} (h : SFilled w B ys j) {k : Nat} (hk : k < ys.length) : ∃ v, w.cell? ⟨B, k, none⟩ = some v ∧ w.frozen? ⟨B, k, none⟩ = false := by
  obtain ⟨cs, h1, h2, _⟩ := h
  exact ⟨cs[k]'(by omega), (cell_of_row _ _ _ _ _ _ h1).trans (by simp [show k < cs.size by omega]), frozen_of_row _ _ _ _ _ h1⟩
theorem SFilled.put {w : World} {B : Nat} {ys : List Ar} {j : Nat} (h : SFilled w B ys j) (hj : j < ys.length) : SFilled (w.setCell ⟨B, j, none⟩ (.string ⟨(tx (at3 ys j)).toArray⟩)) B ys (j + 1) := by
  obtain ⟨cs, h1, h2, h3⟩ := h
  refine ⟨_, heap_setCell_same _ _ _ _ _ _ h1, by simpa using h2, fun i hi => ?_⟩
  rw [Array.getElem?_setIfInBounds]
  by_cases he : j = i
  · subst he
    rw [if_pos rfl, if_pos (by omega)]
  · rw [if_neg he]
    exact h3 i (by omega)
theorem iStr : (Tryd.prog.info? 9).map (fun i => (i.zero, i.size, i.bytes)) = some (some (.string ⟨#[]⟩), 1, 16) := by kernel_rfl
theorem make_strs (n : Nat) (hn : n ≤ 2000000) (w : World) : ∃ M : Array Value, M.size = n ∧ (Instr.makeSlice 50 (.int .i64 (n : Int)) (.int .i64 (n : Int))).run Tryd.prog w = .ok (.slice (some ⟨w.heap.size, 0, none⟩) n n) (w.alloc (.cells M 9)) := by
  obtain ⟨i, hi, hz⟩ := Option.map_eq_some_iff.1 iStr
  simp only [Prod.mk.injEq] at hz
  refine ⟨madeCells (Value.cells (.string ⟨#[]⟩)) n, size_madeCells _ _, ?_⟩
  have := run_make (P := Tryd.prog) w 50 9 i _ Tryd.underlying50 hi hz.1 .i64 .i64 n n (by omega) (Int.le_refl _) (by rw [hz.2.2]; omega) (by omega)
  rw [hz.2.1] at this
  simpa using this

theorem join_len (sep : List UInt8) (hs : sep.length ≤ 2) : ∀ ys : List Ar, (Lib.join (ys.map tx) sep).length ≤ ys.length * 102
  | [] => by simp [Lib.join]
  | [a] => by
    have := txt_len a.1 a.2.1 a.2.2
    simp [Lib.join, tx]; omega
  | a :: b :: l => by
    have h1 := join_len sep hs (b :: l)
    have h2 : (tx a).length ≤ 100 := txt_len a.1 a.2.1 a.2.2
    have e : Lib.join ((a :: b :: l).map tx) sep = tx a ++ sep ++ Lib.join ((b :: l).map tx) sep := by simp [Lib.join, List.intercalate]
    rw [e]
    simp only [List.length_append, List.length_cons] at h1 ⊢
    omega
theorem join_any (ys : List Ar) (i B : Nat) (w : World) (hF : SFilled w B ys ys.length) (hl : ys.length ≤ 3) :
    Calls Tryd.prog 20 #[.slice (some ⟨B, 0, none⟩) ys.length ys.length, .string ⟨(bt i).toArray⟩] w fun e w' => e = .returned (.string ⟨(Lib.join (ys.map tx) (bt i)).toArray⟩) ∧ Below w.heap.size w w' := by
  have hj := join_len (bt i) (bt_len i) ys
  have hx : ((ys.map fun a => (⟨(tx a).toArray⟩ : ByteArray)).map (·.data.toList)) = ys.map tx := by simp [Function.comp_def]
  have hb := hF.lt
  obtain ⟨cs, h1, h2, h3⟩ := hF
  have := Any.strings_Join Tryd.lays156 Tryd.Builder_Extra_156 B 0 ys.length (ys.map fun a => (⟨(tx a).toArray⟩ : ByteArray)) ⟨(bt i).toArray⟩ w (fun j x hjx => by
    rw [List.getElem?_map] at hjx
    obtain ⟨a, ha, rfl⟩ := Option.map_eq_some_iff.1 hjx
    have hjl : j < ys.length := (List.getElem?_eq_some_iff.1 ha).1
    rw [Nat.zero_add, cell_of_row _ _ _ _ _ _ h1, h3 j hjl, show at3 ys j = a by simp [at3, List.getD, ha]]) hb (by simp; omega) (by simp) (by rw [hx]; simp only []; omega)
  rw [hx] at this
  rw [List.length_map] at this
  exact this
theorem grownJoin {ys : List Ar} {i B : Nat} {w : World} (hF : SFilled w B ys ys.length) (hl : ys.length ≤ 3) (d : Nat) (os : Array Obj) :
    Calls Tryd.prog 20 #[.slice (some ⟨B, 0, none⟩) ys.length ys.length, .string ⟨(bt i).toArray⟩] (Sort.grow (redrawn w d) os) fun e w'' => e = .returned (.string ⟨(Lib.join (ys.map tx) (bt i)).toArray⟩) ∧ ∃ p' : Regrown, w'' = Sort.grow (redrawn w p'.d) p'.os :=
  Calls.regrown_of (join_any ys i B _ (hF.to (below_regrown _ d os)) hl)
theorem grownAhead {i : Nat} {w : World} (d : Nat) (os : Array Obj) :
    Calls Tryd.prog 19 #[erowV i] (Sort.grow (redrawn w d) os) fun e w'' => e = .returned (.string ⟨(ah i).toArray⟩) ∧ ∃ p' : Regrown, w'' = Sort.grow (redrawn w p'.d) p'.os :=
  Calls.regrown_of (ahead_any i _)
theorem grownBetween {i : Nat} {w : World} (hC : CmpTab w) (d : Nat) (os : Array Obj) :
    Calls Tryd.prog 21 #[erowV i] (Sort.grow (redrawn w d) os) fun e w'' => e = .returned (.string ⟨(bt i).toArray⟩) ∧ ∃ p' : Regrown, w'' = Sort.grow (redrawn w p'.d) p'.os :=
  Calls.regrown_of (between_any i _ (hC.to (below_regrown _ d os)))

theorem keepc {V w1 : World} (hb : Below V.heap.size V w1) {b i : Nat} {v : Value} (h : V.cell? ⟨b, i, none⟩ = some v) : w1.cell? ⟨b, i, none⟩ = some v := (hb.cell (p := ⟨b, i, none⟩) (World.block_lt_of_cell? V ⟨b, i, none⟩ h)).trans h

/-- The cells of a row of the table in a variable. -/
def RowBox (w : World) (b i : Nat) : Prop := w.cell? ⟨b, 0, none⟩ = some (.string ⟨(nm i).toArray⟩) ∧ w.cell? ⟨b, 1, none⟩ = some (.int .i32 (mk i)) ∧ w.cell? ⟨b, 2, none⟩ = some (.int .i64 (ts i)) ∧
  w.cell? ⟨b, 3, none⟩ = some (fv ((fm0 i).getD 0 0)) ∧ w.cell? ⟨b, 4, none⟩ = some (fv ((fm0 i).getD 1 0)) ∧ w.cell? ⟨b, 5, none⟩ = some (fv ((fm0 i).getD 2 0)) ∧
  w.cell? ⟨b, 6, none⟩ = some (fv ((fm1 i).getD 0 0)) ∧ w.cell? ⟨b, 7, none⟩ = some (fv ((fm1 i).getD 1 0)) ∧ w.cell? ⟨b, 8, none⟩ = some (fv ((fm1 i).getD 2 0))
theorem RowBox.to {w w' : World} {b i : Nat} (h : RowBox w b i) (hb : Below w.heap.size w w') : RowBox w' b i := by
  obtain ⟨h0, h1, h2, h3, h4, h5, h6, h7, h8⟩ := h
  exact ⟨keepc hb h0, keepc hb h1, keepc hb h2, keepc hb h3, keepc hb h4, keepc hb h5, keepc hb h6, keepc hb h7, keepc hb h8⟩
theorem RowBox.new (w : World) (i : Nat) : RowBox (w.alloc (.cells #[.string ⟨(nm i).toArray⟩, .int .i32 (mk i), .int .i64 (ts i), fv ((fm0 i).getD 0 0), fv ((fm0 i).getD 1 0), fv ((fm0 i).getD 2 0), fv ((fm1 i).getD 0 0), fv ((fm1 i).getD 1 0), fv ((fm1 i).getD 2 0)] 47)) w.heap.size i := by
  refine ⟨?_, ?_, ?_, ?_, ?_, ?_, ?_, ?_, ?_⟩ <;> rw [World.cell?_alloc_mark] <;> rfl

set_option maxHeartbeats 2000000 in
theorem ielem_any (op : Int) (ys : List Ar) (p : Option Addr) (cap : Nat) (w : World) (hT : Tabs w) (hC : CmpTab w) (hA : ArgsIs w p ys) (hlc : ys.length ≤ cap) (hbd : ys.length ≤ 2000000) :
    Calls Tryd.prog 7 #[elemV op p ys.length cap] w fun e w' => e = .returned (.string ⟨(eT op ys).toArray⟩) ∧ Below w.heap.size w w' := by
  have HA : Hid (ArgsIs w p ys) := hA
  have HT : Hid (Tabs w) := hT
  have HC : Hid (CmpTab w) := hC
  have HR : Hid (∀ W, DevTab W → ArgsIs W p ys → Calls Tryd.prog 17 #[erowV (ez op), .slice p ys.length cap] W fun e w' => e = .returned (.bool (okA (ez op) ys)) ∧ Below W.heap.size W w') :=
    fun W h1 h2 => rowTakes_any (ez op) ys p cap W h1 h2 hlc hbd
  have HE : Hid (∀ W, Calls Tryd.prog 16 #[.int .i64 op] W fun e w' => e = .returned (erowV (ez op)) ∧ Below W.heap.size W w') := fun W => erowV_any op W
  have HX : Hid (eT op ys = if okA (ez op) ys then ah (ez op) ++ Lib.join (ys.map tx) (bt (ez op)) else []) := rfl
  have HL : Hid (okA (ez op) ys = true → ys.length ≤ 3) := fun h => by have := okA_len h; have := (fm0_ok (ez op)).1; omega
  clear hA hT hC
  generalize eT op ys = res at *
  generalize ez op = i at *
  go_enter Tryd.func7, Tryd.ntmps7
  go_wp2_with fail
  refine (HE.out _).mono ?_
  rintro e w1 ⟨rfl, hb1⟩
  have HB1 : Hid (Below w.heap.size w w1) := of_one hb1
  have hce := elem_at hb1
  clear hb1
  unfold erowV
  have HN : Hid (RowBox _ w1.heap.size i) := RowBox.new w1 i
  go_wp2_with fail
  have HB2 : Hid (∀ o, Below w.heap.size w (w1.alloc o)) := fun o => HB1.out.alloc HB1.out.size o
  refine (HR.out _ (HT.out.dev.to (HB2.out _)) (HA.out.to (HB2.out _))).mono ?_
  rintro e w3 ⟨rfl, hb3⟩
  have HBa : Hid (Below w.heap.size w w3) := (HB2.out _).trans (hb3.mono (HB2.out _).size)
  have hx1 : w3.cell? ⟨w.heap.size, 1, none⟩ = some (.slice p ys.length cap) := keepc hb3 (hce _)
  have HN3 : Hid (RowBox w3 w1.heap.size i) := HN.out.to hb3
  clear hce hb3 HN HR HE HB2
  cases hok : okA i ys
  · have HR : Hid (res = []) := by show res = []; rw [HX.out, hok]; rfl
    go_wp2
    go_ret
    exact ⟨by rw [HR.out]; rfl, HBa.out⟩
  · have hl3 := HL.out hok
    have HR : Hid (res = ah i ++ Lib.join (ys.map tx) (bt i)) := by show res = _; rw [HX.out, hok]; rfl
    clear HX HL hok
    obtain ⟨M, hM, hmk⟩ := make_strs ys.length (by omega) w3
    have HF : Hid (SFilled (w3.alloc (.cells M 9)) w3.heap.size ys 0) := ⟨M, heap_alloc_last w3 _, hM, fun i hi => by omega⟩
    have HB4 : Hid (Below w3.heap.size w3 (w3.alloc (.cells M 9))) := one w3 _
    have hx1' := keepc HB4.out hx1
    clear hM
    go_wp2
    generalize w3.alloc (.cells M 9) = V at *
    clear hmk
    go_loopw [22] (fun c w' => ∃ j : Nat, j ≤ ys.length ∧ c = .int .i64 (j : Int) ∧ Hid (Below w3.heap.size w3 w') ∧ Hid (SFilled w' w3.heap.size ys j)) (fun c _ => ys.length - (intOf c).toNat)
    case atStart => exact ⟨0, by omega, rfl, HB4, HF⟩
    case round =>
      obtain ⟨j, hj, rfl, HBr, HFr⟩ := hrel
      rename_i wr
      clear HB4 HF hx1'
      have HBw : Hid (Below w.heap.size w wr) := HBa.out.trans (HBr.out.mono HBa.out.size)
      by_cases hlt : j < ys.length
      · have hlt' : (j : Int) < (ys.length : Int) := by omega
        rcases HA.out.to HBw.out with hnil | ⟨b, rfl, hbl, hAt⟩
        · rw [hnil] at hlt; simp at hlt
        obtain ⟨a0, a1, a2⟩ := hAt j hlt
        clear hAt
        have HP : Hid (∀ W, SFilled W w3.heap.size ys j → SFilled (W.setCell ⟨w3.heap.size, j, none⟩ (.string ⟨(tx (at3 ys j)).toArray⟩)) w3.heap.size ys (j + 1)) := fun W h => h.put hlt
        have HT2 : Hid (tx (at3 ys j) = txt (at3 ys j).1 (at3 ys j).2.1 (at3 ys j).2.2) := rfl
        generalize tx (at3 ys j) = tj at *
        generalize (at3 ys j).1 = k at *
        generalize (at3 ys j).2.1 = n at *
        generalize (at3 ys j).2.2 = q at *
        go_wp2_with fail
        refine (itext_any k n q _ ((HT.out.to HBw.out).alloc _)).mono ?_
        rintro e w5 ⟨rfl, hb5⟩
        rw [← HT2.out]
        have HF5 : Hid (SFilled w5 w3.heap.size ys j) := (HFr.out.to (one _ _)).to hb5
        have HB5 : Hid (Below w3.heap.size w3 w5) := HBr.out.trans ((of_one hb5).mono HBr.out.size)
        obtain ⟨v0, c0, f0⟩ := HF5.out.cell hlt
        clear hb5
        go_wp2
        exact ⟨⟨j + 1, by omega, by go_num, HB5.out.setCell (p := ⟨w3.heap.size, j, none⟩) (Nat.le_refl _) _, HP.out w5 HF5.out⟩, by simp [intOf]; omega⟩
      · obtain rfl : j = ys.length := by omega
        obtain ⟨r0, r1, r2, r3, r4, r5, r6, r7, r8⟩ := HN3.out.to HBr.out
        have k0 := cell_regrown r0
        have k1 := cell_regrown r1
        have k2 := cell_regrown r2
        have k3 := cell_regrown r3
        have k4 := cell_regrown r4
        have k5 := cell_regrown r5
        have k6 := cell_regrown r6
        have k7 := cell_regrown r7
        have k8 := cell_regrown r8
        clear r0 r1 r2 r3 r4 r5 r6 r7 r8
        have hFr := HFr.out
        have hCr := HC.out.to HBw.out
        have hla := ah_len i
        have hlj := join_len (bt i) (bt_len i) ys
        have hlj' : (Lib.join (ys.map tx) (bt i)).length ≤ 400 := by omega
        go_wp2
        refine wp_region_quiet_below (by kernel_rfl) (by kernel_rfl) ?_
        repeat (first | go_big_quiet_step ((first | exact grownAhead _ _ | exact grownBetween hCr _ _ | exact grownJoin hFr hl3 _ _)) | quiet_step ((first | exact grownAhead _ _ | exact grownBetween hCr _ _ | exact grownJoin hFr hl3 _ _)))
        refine wpQuiet_nil ?_
        intro _ hw'
        obtain ⟨⟨dq, osq⟩, hw''⟩ := hw'
        subst hw''
        go_wp2
        go_ret
        exact ⟨by rw [HR.out]; exact congrArg (fun s => Ending.returned (.string s)) (cat' _ _), HBw.out.trans ((below_regrown _ dq osq).mono HBw.out.size)⟩
end Go.Proofs.YtleopmhllbaalagDoor
