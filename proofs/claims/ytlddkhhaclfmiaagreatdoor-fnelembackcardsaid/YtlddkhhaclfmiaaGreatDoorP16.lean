/- ElemText: the program's. Helper text: no statement is claimed here. -/
import Derived.Test.YtlddkhhaclfmiaaGreatDoorP07
import Derived.Test.YtlddkhhaclfmiaaGreatDoorShelf
import Derived.Laws.MakeOwn
import Derived.Test.YtlddkhhaclfmiaaGreatDoorP14
import Derived.Test.YtlddkhhaclfmiaaGreatDoorP15
import Derived.Test.YtlddkhhaclfmiaaGreatDoorP05
namespace Go.Proofs.YtlddkhhaclfmiaaGreatDoor
open Go.ChangeShapes Go.WideShapes Go.ChangeAt Go.RowKit

attribute [local go_sem] fv_store

/-- A row of texts of the call's own, the first j filled. -/
def SFilled (w : World) (B : Nat) (ys : List Ar) (j : Nat) : Prop := ∃ cs : Array Value, w.heap[B]? = some (.cells cs 9 (0, 0)) ∧ cs.size = ys.length ∧ ∀ i, i < j → cs[i]? = some (.string ⟨(tx (at3 ys i)).toArray⟩)
theorem SFilled.lt {w : World} {B : Nat} {ys : List Ar} {j : Nat} (h : SFilled w B ys j) : B < w.heap.size := by
  obtain ⟨cs, h1, _⟩ := h
  exact (Array.getElem?_eq_some_iff.1 h1).1
theorem SFilled.to {w w' : World} {B : Nat} {ys : List Ar} {j : Nat} (h : SFilled w B ys j) (hb : Below w.heap.size w w') : SFilled w' B ys j := by
  have hl := h.lt
  obtain ⟨cs, h1, h2⟩ := h
  exact ⟨cs, (hb.block B hl).trans h1, h2⟩
theorem SFilled.cell {w : World} {B : Nat} {ys : List Ar} {j : Nat} (h : SFilled w B ys j) {k : Nat} (hk : k < ys.length) : ∃ v, w.cell? ⟨B, k, none⟩ = some v ∧ w.frozen? ⟨B, k, none⟩ = false := by
  obtain ⟨cs, h1, h2, _⟩ := h
  exact ⟨cs[k]'(by omega), (cell_of_row _ _ _ _ _ _ h1).trans (by simp [show k < cs.size by omega]), frozen_of_row _ _ _ _ _ h1⟩
theorem SFilled.put {w : World} {B : Nat} {ys : List Ar} {j : Nat} (h : SFilled w B ys j) (hj : j < ys.length) : SFilled (w.setCell ⟨B, j, none⟩ (.string ⟨(tx (at3 ys j)).toArray⟩)) B ys (j + 1) := by
  obtain ⟨cs, h1, h2, h3⟩ := h
  refine ⟨_, heap_setCell_same _ _ _ _ _ _ h1, by simpa using h2, fun i hi => ?_⟩
  rw [Array.getElem?_setIfInBounds]
  by_cases he : j = i
  · subst he
    rw [if_pos rfl, if_pos (by omega)]
  · rw [if_neg he]
    exact h3 i (by omega)
theorem iStr : (Tryz.prog.info? 9).map (fun i => (i.zero, i.size, i.bytes)) = some (some (.string ⟨#[]⟩), 1, 16) := by kernel_rfl
theorem make_strs (n : Nat) (hn : n ≤ 2000000) (w : World) : ∃ M : Array Value, M.size = n ∧ (Instr.makeSlice 49 (.int .i64 (n : Int)) (.int .i64 (n : Int))).run Tryz.prog w = .ok (.slice (some ⟨w.heap.size, 0, none⟩) n n) (w.alloc (.cells M 9)) := by
  obtain ⟨i, hi, hz⟩ := Option.map_eq_some_iff.1 iStr
  simp only [Prod.mk.injEq] at hz
  refine ⟨madeCells (Value.cells (.string ⟨#[]⟩)) n, size_madeCells _ _, ?_⟩
  have := run_make (P := Tryz.prog) w 49 9 i _ Tryz.underlying49 hi hz.1 .i64 .i64 n n (by omega) (Int.le_refl _) (by rw [hz.2.2]; omega) (by omega)
  rw [hz.2.1] at this
  simpa using this

theorem join_any (ys : List Ar) (i B : Nat) (w : World) (hF : SFilled w B ys ys.length) (hl : ys.length ≤ 3) :
    Calls Tryz.prog 23 #[.slice (some ⟨B, 0, none⟩) ys.length ys.length, .string ⟨(bt i).toArray⟩] w fun e w' => e = .returned (.string ⟨(Lib.join (ys.map tx) (bt i)).toArray⟩) ∧ Below w.heap.size w w' := by
  have hj := join_len (bt i) (bt_len i) ys
  have hx : ((ys.map fun a => (⟨(tx a).toArray⟩ : ByteArray)).map (·.data.toList)) = ys.map tx := by simp [Function.comp_def]
  have hb := hF.lt
  obtain ⟨cs, h1, h2, h3⟩ := hF
  have := Any.strings_Join Tryz.lays156 Tryz.Builder_Extra_156 B 0 ys.length (ys.map fun a => (⟨(tx a).toArray⟩ : ByteArray)) ⟨(bt i).toArray⟩ w (fun j x hjx => by
    rw [List.getElem?_map] at hjx
    obtain ⟨a, ha, rfl⟩ := Option.map_eq_some_iff.1 hjx
    have hjl : j < ys.length := (List.getElem?_eq_some_iff.1 ha).1
    rw [Nat.zero_add, cell_of_row _ _ _ _ _ _ h1, h3 j hjl, show at3 ys j = a by simp [at3, List.getD, ha]]) hb (by simp; omega) (by simp) (by rw [hx]; simp only []; omega)
  rw [hx] at this
  rw [List.length_map] at this
  exact this
theorem grownJoin {ys : List Ar} {i B : Nat} {w : World} (hF : SFilled w B ys ys.length) (hl : ys.length ≤ 3) (d : Nat) (os : Array Obj) :
    Calls Tryz.prog 23 #[.slice (some ⟨B, 0, none⟩) ys.length ys.length, .string ⟨(bt i).toArray⟩] (Sort.grow (redrawn w d) os) fun e w'' => e = .returned (.string ⟨(Lib.join (ys.map tx) (bt i)).toArray⟩) ∧ ∃ p' : Regrown, w'' = Sort.grow (redrawn w p'.d) p'.os :=
  Calls.regrown_of (join_any ys i B _ (hF.to (below_regrown _ d os)) hl)
theorem grownAhead {i : Nat} {w : World} (d : Nat) (os : Array Obj) :
    Calls Tryz.prog 22 #[erowV i] (Sort.grow (redrawn w d) os) fun e w'' => e = .returned (.string ⟨(ah i).toArray⟩) ∧ ∃ p' : Regrown, w'' = Sort.grow (redrawn w p'.d) p'.os :=
  Calls.regrown_of (ahead_any i _)
theorem grownBetween {i : Nat} {w : World} (hC : CmpTab w) (d : Nat) (os : Array Obj) :
    Calls Tryz.prog 24 #[erowV i] (Sort.grow (redrawn w d) os) fun e w'' => e = .returned (.string ⟨(bt i).toArray⟩) ∧ ∃ p' : Regrown, w'' = Sort.grow (redrawn w p'.d) p'.os :=
  Calls.regrown_of (between_any i _ (hC.to (below_regrown _ d os)))

/-- The cells of a row of the table in a variable. -/
def RowBox (w : World) (b i : Nat) : Prop := w.cell? ⟨b, 0, none⟩ = some (.string ⟨(nm i).toArray⟩) ∧ w.cell? ⟨b, 1, none⟩ = some (.int .i32 (mk i)) ∧ w.cell? ⟨b, 2, none⟩ = some (.int .i64 (ts i)) ∧
  w.cell? ⟨b, 3, none⟩ = some (fv ((fm0 i).getD 0 0)) ∧ w.cell? ⟨b, 4, none⟩ = some (fv ((fm0 i).getD 1 0)) ∧ w.cell? ⟨b, 5, none⟩ = some (fv ((fm0 i).getD 2 0)) ∧
  w.cell? ⟨b, 6, none⟩ = some (fv ((fm1 i).getD 0 0)) ∧ w.cell? ⟨b, 7, none⟩ = some (fv ((fm1 i).getD 1 0)) ∧ w.cell? ⟨b, 8, none⟩ = some (fv ((fm1 i).getD 2 0))
theorem RowBox.to {w w' : World} {b i : Nat} (h : RowBox w b i) (hb : Below w.heap.size w w') : RowBox w' b i := by
  obtain ⟨h0, h1, h2, h3, h4, h5, h6, h7, h8⟩ := h
  exact ⟨keepc hb h0, keepc hb h1, keepc hb h2, keepc hb h3, keepc hb h4, keepc hb h5, keepc hb h6, keepc hb h7, keepc hb h8⟩
theorem RowBox.new (w : World) (i : Nat) : RowBox (w.alloc (.cells #[.string ⟨(nm i).toArray⟩, .int .i32 (mk i), .int .i64 (ts i), fv ((fm0 i).getD 0 0), fv ((fm0 i).getD 1 0), fv ((fm0 i).getD 2 0), fv ((fm1 i).getD 0 0), fv ((fm1 i).getD 1 0), fv ((fm1 i).getD 2 0)] 46)) w.heap.size i := by
  refine ⟨?_, ?_, ?_, ?_, ?_, ?_, ?_, ?_, ?_⟩ <;> rw [World.cell?_alloc_mark] <;> rfl

set_option maxHeartbeats 2000000 in
theorem ielem_any (op : Int) (ys : List Ar) (p : Option Addr) (cap : Nat) (w : World) (hT : Tabs w) (hC : CmpTab w) (hA : ArgsIs w p ys) (hlc : ys.length ≤ cap) (hbd : ys.length ≤ 2000000) :
    Calls Tryz.prog 6 #[elemV op p ys.length cap] w fun e w' => e = .returned (.string ⟨(eT op ys).toArray⟩) ∧ Below w.heap.size w w' := by
  have HA : Hid (ArgsIs w p ys) := hA
  have HT : Hid (Tabs w) := hT
  have HC : Hid (CmpTab w) := hC
  have HR : Hid (∀ W, DevTab W → ArgsIs W p ys → Calls Tryz.prog 20 #[erowV (ez op), .slice p ys.length cap] W fun e w' => e = .returned (.bool (okA (ez op) ys)) ∧ Below W.heap.size W w') :=
    fun W h1 h2 => rowTakes_any (ez op) ys p cap W h1 h2 hlc hbd
  have HE : Hid (∀ W, Calls Tryz.prog 19 #[.int .i64 op] W fun e w' => e = .returned (erowV (ez op)) ∧ Below W.heap.size W w') := fun W => erowV_any op W
  have HX : Hid (eT op ys = if okA (ez op) ys then ah (ez op) ++ Lib.join (ys.map tx) (bt (ez op)) else []) := rfl
  have HL : Hid (okA (ez op) ys = true → ys.length ≤ 3) := fun h => by have := okA_len h; have := (fm0_ok (ez op)).1; omega
  clear hA hT hC
  generalize eT op ys = res at *
  generalize ez op = i at *
  go_enter Tryz.func6, Tryz.ntmps6
  go_wp2_with fail
  refine (HE.out _).mono ?_
  rintro e w1 ⟨rfl, hb1⟩
  have HB1 : Hid (Below w.heap.size w w1) := of_one hb1
  have hce := elem_at hb1
  clear hb1
  unfold erowV
  have HN : Hid (RowBox _ w1.heap.size i) := RowBox.new w1 i
  go_wp2_with fail
  have HB2 : Hid (∀ o, Below w.heap.size w (w1.alloc o)) := fun o => HB1.out.alloc HB1.out.size o
  refine (HR.out _ (HT.out.dev.to (HB2.out _)) (HA.out.to (HB2.out _))).mono ?_
  rintro e w3 ⟨rfl, hb3⟩
  have HBa : Hid (Below w.heap.size w w3) := (HB2.out _).trans (hb3.mono (HB2.out _).size)
  have hx1 : w3.cell? ⟨w.heap.size, 1, none⟩ = some (.slice p ys.length cap) := keepc hb3 (hce _)
  have HN3 : Hid (RowBox w3 w1.heap.size i) := HN.out.to hb3
  clear hce hb3 HN HR HE HB2
  cases hok : okA i ys
  · have HR : Hid (res = []) := by show res = []; rw [HX.out, hok]; rfl
    go_wp2
    go_ret
    exact ⟨by rw [HR.out]; rfl, HBa.out⟩
  · have hl3 := HL.out hok
    have HR : Hid (res = ah i ++ Lib.join (ys.map tx) (bt i)) := by show res = _; rw [HX.out, hok]; rfl
    clear HX HL hok
    obtain ⟨M, hM, hmk⟩ := make_strs ys.length (by omega) w3
    have HF : Hid (SFilled (w3.alloc (.cells M 9)) w3.heap.size ys 0) := ⟨M, heap_alloc_last w3 _, hM, fun i hi => by omega⟩
    have HB4 : Hid (Below w3.heap.size w3 (w3.alloc (.cells M 9))) := one w3 _
    have hx1' := keepc HB4.out hx1
    clear hM
    go_wp2
    generalize w3.alloc (.cells M 9) = V at *
    clear hmk
    go_loopw [22] (fun c w' => ∃ j : Nat, j ≤ ys.length ∧ c = .int .i64 (j : Int) ∧ Hid (Below w3.heap.size w3 w') ∧ Hid (SFilled w' w3.heap.size ys j)) (fun c _ => ys.length - (intOf c).toNat)
    case atStart => exact ⟨0, by omega, rfl, HB4, HF⟩
    case round =>
      obtain ⟨j, hj, rfl, HBr, HFr⟩ := hrel
      rename_i wr
      clear HB4 HF hx1'
      have HBw : Hid (Below w.heap.size w wr) := HBa.out.trans (HBr.out.mono HBa.out.size)
      by_cases hlt : j < ys.length
      · have hlt' : (j : Int) < (ys.length : Int) := by omega
        rcases HA.out.to HBw.out with hnil | ⟨b, rfl, hbl, hAt⟩
        · rw [hnil] at hlt; simp at hlt
        obtain ⟨a0, a1, a2⟩ := hAt j hlt
        clear hAt
        have HP : Hid (∀ W, SFilled W w3.heap.size ys j → SFilled (W.setCell ⟨w3.heap.size, j, none⟩ (.string ⟨(tx (at3 ys j)).toArray⟩)) w3.heap.size ys (j + 1)) := fun W h => h.put hlt
        have HT2 : Hid (tx (at3 ys j) = txt (at3 ys j).1 (at3 ys j).2.1 (at3 ys j).2.2) := rfl
        generalize tx (at3 ys j) = tj at *
        generalize (at3 ys j).1 = k at *
        generalize (at3 ys j).2.1 = n at *
        generalize (at3 ys j).2.2 = q at *
        go_wp2_with fail
        refine (itext_any k n q _ ((HT.out.to HBw.out).alloc _)).mono ?_
        rintro e w5 ⟨rfl, hb5⟩
        rw [← HT2.out]
        have HF5 : Hid (SFilled w5 w3.heap.size ys j) := (HFr.out.to (one _ _)).to hb5
        have HB5 : Hid (Below w3.heap.size w3 w5) := HBr.out.trans ((of_one hb5).mono HBr.out.size)
        obtain ⟨v0, c0, f0⟩ := HF5.out.cell hlt
        clear hb5
        go_wp2
        exact ⟨⟨j + 1, by omega, by go_num, HB5.out.setCell (p := ⟨w3.heap.size, j, none⟩) (Nat.le_refl _) _, HP.out w5 HF5.out⟩, by simp [intOf]; omega⟩
      · obtain rfl : j = ys.length := by omega
        obtain ⟨r0, r1, r2, r3, r4, r5, r6, r7, r8⟩ := HN3.out.to HBr.out
        have k0 := cell_regrown r0
        have k1 := cell_regrown r1
        have k2 := cell_regrown r2
        have k3 := cell_regrown r3
        have k4 := cell_regrown r4
        have k5 := cell_regrown r5
        have k6 := cell_regrown r6
        have k7 := cell_regrown r7
        have k8 := cell_regrown r8
        clear r0 r1 r2 r3 r4 r5 r6 r7 r8
        have hFr := HFr.out
        have hCr := HC.out.to HBw.out
        have hla := ah_len i
        have hlj := join_len (bt i) (bt_len i) ys
        have hlj' : (Lib.join (ys.map tx) (bt i)).length ≤ 400 := by omega
        go_wp2
        refine wp_region_quiet_below (by kernel_rfl) (by kernel_rfl) ?_
        repeat (first | go_big_quiet_step ((first | exact grownAhead _ _ | exact grownBetween hCr _ _ | exact grownJoin hFr hl3 _ _)) | quiet_step ((first | exact grownAhead _ _ | exact grownBetween hCr _ _ | exact grownJoin hFr hl3 _ _)))
        refine wpQuiet_nil ?_
        intro _ hw'
        obtain ⟨⟨dq, osq⟩, hw''⟩ := hw'
        subst hw''
        go_wp2
        go_ret
        exact ⟨by rw [HR.out]; exact congrArg (fun s => Ending.returned (.string s)) (cat' _ _), HBw.out.trans ((below_regrown _ dq osq).mono HBw.out.size)⟩
end Go.Proofs.YtlddkhhaclfmiaaGreatDoor

/- elemArgs: the program's reading of a text as one of a row. Helper text: no statement is claimed here. -/
namespace Go.Proofs.YtlddkhhaclfmiaaGreatDoor
open Go.ChangeShapes Go.WideShapes Go.ChangeAt Go.RowKit Go.Shelf

attribute [local go_sem] fv_store Oper.semAt_some

theorem res2E {fn : Func} {W : World} {p0 p1 b0 b1 : Nat} {tmps : Array Value} {v0 v1 : Value} (h : fn.results = #[.cell p0 23, .cell p1 57]) (h0 : tmps.getD p0 undef = .pointer (some ⟨b0, 0, none⟩)) (h1 : tmps.getD p1 undef = .pointer (some ⟨b1, 0, none⟩))
    (c0 : W.cell? ⟨b0, 0, none⟩ = some v0) (c1 : W.cell? ⟨b1, 0, none⟩ = some v1) : (results fn tmps).run Tryz.prog W = .ok (.tuple #[v0, v1]) W := by
  simp only [Array.getD_eq_getD_getElem?] at h0 h1
  simp only [results, h]
  simp [Sem.run_bind, Result.andThen, h0, h1, asAddr, loadVar, isAgg, underlying, Tryz.underlying23, Tryz.underlying57, c0, c1]

/-- What elemArgs ends in. -/
def ArgsEnd (i : Nat) (t : List UInt8) (w : World) (e : Ending) (w' : World) : Prop := Below w.heap.size w w' ∧
  ((∃ (ys : List Ar) (g cap : Nat), e = .returned (.tuple #[.slice (some ⟨g, 0, none⟩) ys.length cap, .nilIface]) ∧ okA i ys = true ∧ t = ah i ++ Lib.join (ys.map tx) (bt i) ∧ ARow w' g cap ys ∧ w.heap.size ≤ g) ∨
   (∃ s, e = .returned (.tuple #[.slice none 0 0, .iface 61 (.agg #[.string s])]) ∧ ∀ ys, okA i ys = true → t ≠ ah i ++ Lib.join (ys.map tx) (bt i)))

/-- What lay ahead of the loop lies on, but for the operands' variable and the iterator's own. -/
structure Oth (w W0 : World) (Ba bs : Nat) (W : World) : Prop where
  below : Below w.heap.size w W
  rest : ∀ c, c < W0.heap.size → c ≠ Ba → c ≠ bs → W.heap[c]? = W0.heap[c]?
  size : W0.heap.size ≤ W.heap.size
theorem Oth.grown {w W0 W W' : World} {Ba bs : Nat} {row : Option Nat} (h : Oth w W0 Ba bs W) (hg : W.grownBy W' row) (hw : w.heap.size ≤ W0.heap.size) (ha : w.heap.size ≤ Ba) (hs : w.heap.size ≤ bs) (hr : ∀ r, row = some r → r = bs ∨ r = Ba ∨ W0.heap.size ≤ r) : Oth w W0 Ba bs W' :=
  ⟨h.below.grown hg (Nat.le_trans hw h.size) (fun k e => by rcases hr k e with h | h | h <;> omega), fun c h1 h2 h3 => (hg.block c (Nat.lt_of_lt_of_le h1 h.size) (fun e => by rcases hr c e.symm with h | h | h <;> omega)).trans (h.rest c h1 h2 h3), Nat.le_trans h.size hg.size⟩
/-- Between two rounds. -/
def ArgI (w W0 : World) (Ba bs : Nat) (pre : List (List UInt8)) (W : World) : Prop := ∃ (ys : List Ar) (v : Value), Boxed W Ba 23 v ∧ W.ownsRow W0.heap.size 51 3 v ys.length (arCells ys) ∧ ReadsAs pre ys ∧ pre = ys.map tx ∧ AllOk ys ∧ Oth w W0 Ba bs W
theorem owns_kept {W W' : World} {base k : Nat} {v : Value} {xs : List Value} {row : Option Nat} (h : W.ownsRow base 51 3 v k xs) (hg : W.grownBy W' row) (hr : ∀ r, row = some r → r < base ∨ ∃ o : Obj, W.heap[r]? = some o ∧ o.isCells = false) : W'.ownsRow base 51 3 v k xs := by
  refine h.kept hg ?_
  rcases h.2 with ⟨rfl, _⟩ | ⟨g, cap, cur, rfl, hb, hgb, _⟩
  · exact .inl rfl
  · refine .inr fun e' => ?_
    rcases hr g (by simpa [Value.ownBlock] using e'.symm) with h1 | ⟨o, ho, hc⟩
    · omega
    · rw [hgb] at ho; cases ho; cases hc
theorem argI_bears {w W0 : World} {Ba bs : Nat} (hw : w.heap.size ≤ Ba) (hs : w.heap.size ≤ bs) (hn : Ba ≠ bs) (ha : Ba < W0.heap.size) (hb : bs < W0.heap.size) : Bears W0.heap.size bs (ArgI w W0 Ba bs) := by
  rintro pre W W' row ⟨ys, v, h1, h2, h3, h4, h5, h6⟩ hg hr
  refine ⟨ys, v, h1.kept hg (fun e => ?_), owns_kept h2 hg (fun r e => ?_), h3, h4, h5, h6.grown hg (by omega) hw hs (fun r e => ?_)⟩
  · rcases hr Ba e.symm with h | ⟨h, -⟩ <;> omega
  · rcases hr r e with rfl | ⟨-, h⟩
    · exact .inl hb
    · exact .inr h
  · rcases hr r e with h | ⟨h, -⟩
    · exact .inl h
    · exact .inr (.inr h)
/-- A round has said that no more are wanted. -/
def ArgX (w W0 : World) (R0 R1 : Nat) (pre : List (List UInt8)) (W : World) : Prop := ∃ (p : List UInt8) (k n q : Int), p ∈ pre ∧ RdOk p k n q false ∧ Boxed W R0 23 (.slice none 0 0) ∧ Boxed W R1 57 (.iface 61 (.agg #[.string ⟨p.toArray⟩])) ∧ Below w.heap.size w W ∧ W0.heap.size ≤ W.heap.size
theorem argX_bears {w W0 : World} {R0 R1 bs : Nat} (hw : w.heap.size ≤ W0.heap.size) (hs : w.heap.size ≤ bs) (n0 : R0 ≠ bs) (n1 : R1 ≠ bs) (h0 : R0 < W0.heap.size) (h1 : R1 < W0.heap.size) : Bears W0.heap.size bs (ArgX w W0 R0 R1) := by
  rintro pre W W' row ⟨p, k, n, q, hp, hr0, b0, b1, hb, hz⟩ hg hr
  refine ⟨p, k, n, q, hp, hr0, b0.kept hg (fun e => ?_), b1.kept hg (fun e => ?_), hb.grown hg (by omega) (fun k e => ?_), Nat.le_trans hz hg.size⟩
  · rcases hr R0 e.symm with h | ⟨h, -⟩ <;> omega
  · rcases hr R1 e.symm with h | ⟨h, -⟩ <;> omega
  · rcases hr k e with h | ⟨h, -⟩ <;> omega
theorem pfx_no {s p : List UInt8} (h : Lib.hasPrefix s p = false) : ∀ r, s ≠ p ++ r := fun r e => by
  rw [e, show Lib.hasPrefix (p ++ r) p = true from List.isPrefixOf_iff_prefix.2 (List.prefix_append p r)] at h
  cases h
theorem pfx_yes {s p : List UInt8} (h : Lib.hasPrefix s p = true) : s = p ++ Lib.trimPrefix s p := by
  obtain ⟨r, e⟩ := List.isPrefixOf_iff_prefix.1 (show p.isPrefixOf s = true from h)
  have : Lib.trimPrefix s p = r := by
    unfold Lib.trimPrefix
    rw [if_pos h, ← e]; simp
  rw [this]; exact e.symm

/-- The two variables that are handed back, set. -/
theorem putRes {W : World} {R0 R1 : Nat} {u0 u1 : Value} (h0 : Boxed W R0 23 u0) (h1 : Boxed W R1 57 u1) (hn : R0 ≠ R1) (v0 v1 : Value) :
    Boxed ((W.setCell ⟨R0, 0, none⟩ v0).setCell ⟨R1, 0, none⟩ v1) R0 23 v0 ∧ Boxed ((W.setCell ⟨R0, 0, none⟩ v0).setCell ⟨R1, 0, none⟩ v1) R1 57 v1 :=
  ⟨(h0.set v0).kept (grownBy_setCell' _ _ _) (by simpa using hn), (h1.kept (grownBy_setCell' _ _ _) (by simpa using hn.symm)).set v1⟩
/-- The call's own variables, ahead of the loop. -/
structure Pre0 (w : World) (i : Nat) (W : World) : Prop where
  row : RowBox W w.heap.size i
  r0 : Boxed W (w.heap.size + 1) 23 (.slice none 0 0)
  r1 : Boxed W (w.heap.size + 1 + 1) 57 .nilIface
  below : Below w.heap.size w W
theorem Pre0.to {w W W' : World} {i : Nat} (h : Pre0 w i W) (hb : Below W.heap.size W W') : Pre0 w i W' :=
  ⟨h.row.to hb, (hb.block _ h.r0.lt).trans h.r0, (hb.block _ h.r1.lt).trans h.r1, h.below.trans (hb.mono h.below.size)⟩
theorem pre0_new (w : World) (i : Nat) : Pre0 w i (((w.alloc (.cells #[.string ⟨(nm i).toArray⟩, .int .i32 (mk i), .int .i64 (ts i), fv ((fm0 i).getD 0 0), fv ((fm0 i).getD 1 0), fv ((fm0 i).getD 2 0), fv ((fm1 i).getD 0 0), fv ((fm1 i).getD 1 0), fv ((fm1 i).getD 2 0)] 46)).alloc (.cells #[.slice none 0 0] 23)).alloc (.cells #[.nilIface] 57)) := by
  refine ⟨((RowBox.new w i).to (one _ _)).to (one _ _), ?_, ?_, ((one _ _).alloc (by simp) _).alloc (by simp; omega) _⟩
  · have := Boxed.new (w.alloc (.cells #[.string ⟨(nm i).toArray⟩, .int .i32 (mk i), .int .i64 (ts i), fv ((fm0 i).getD 0 0), fv ((fm0 i).getD 1 0), fv ((fm0 i).getD 2 0), fv ((fm1 i).getD 0 0), fv ((fm1 i).getD 1 0), fv ((fm1 i).getD 2 0)] 46)) 23 (.slice none 0 0)
    rw [World.size_alloc] at this
    exact this.alloc _
  · have := Boxed.new ((w.alloc (.cells #[.string ⟨(nm i).toArray⟩, .int .i32 (mk i), .int .i64 (ts i), fv ((fm0 i).getD 0 0), fv ((fm0 i).getD 1 0), fv ((fm0 i).getD 2 0), fv ((fm1 i).getD 0 0), fv ((fm1 i).getD 1 0), fv ((fm1 i).getD 2 0)] 46)).alloc (.cells #[.slice none 0 0] 23)) 57 .nilIface
    rw [World.size_alloc, World.size_alloc] at this
    exact this

theorem owns_far {W : World} {base k c : Nat} {v : Value} {xs : List Value} (h : W.ownsRow base 51 3 v k xs) (hc : c < base) : some c ≠ v.ownBlock := by
  rcases h.2 with ⟨rfl, _⟩ | ⟨g, cap, cur, rfl, hb, _, _⟩
  · simp [Value.ownBlock]
  · intro e
    obtain rfl : c = g := by simpa [Value.ownBlock] using e
    omega
theorem keeps_below {W W' : World} (h : Below W.heap.size W W') : KeepsOthers W W' := ⟨h.size, fun k _ hk _ => (h.block k (Array.getElem?_eq_some_iff.1 hk).1).trans hk⟩
/-- One operand more: what the append and the store back leave. -/
theorem app_step {W W1 w5 : World} {base Ba k j : Nat} {v v' : Value} {xs zs : List Value} {A A' : Obj} (hb : Below W.heap.size W W1) (hA : Boxed W1 Ba 23 v) (hrow : W1.ownsRow base 51 3 v k xs) (hBb : Ba < base)
    (hown' : w5.ownsRow base 51 3 v' j zs) (hgrow : ((W1.alloc A).alloc A').grownBy w5 v.ownBlock) :
    Boxed w5 Ba 23 v ∧ Boxed (w5.setCell ⟨Ba, 0, none⟩ v') Ba 23 v' ∧ (w5.setCell ⟨Ba, 0, none⟩ v').ownsRow base 51 3 v' j zs ∧ KeepsOthers W (w5.setCell ⟨Ba, 0, none⟩ v') ∧
      (∀ c, c < W.heap.size → c < base → c ≠ Ba → (w5.setCell ⟨Ba, 0, none⟩ v').heap[c]? = W.heap[c]?) := by
  have h5 : Boxed w5 Ba 23 v := ((hA.alloc A).alloc A').kept hgrow (owns_far hrow hBb)
  refine ⟨h5, h5.set v', owns_kept hown' (grownBy_setCell' _ _ _) (fun r e => by cases e; exact .inl hBb), ?_, fun c h1 h2 h3 => ?_⟩
  · refine ((((keeps_below hb).trans (KeepsOthers.alloc W1 A)).trans (KeepsOthers.alloc _ A')).trans (KeepsOthers.of_grownBy hgrow fun j _ ej hj => ?_)).trans (KeepsOthers.setCell _ _ _)
    rcases ((hrow.alloc A).alloc A').2 with ⟨rfl, _⟩ | ⟨g, cap, cur, rfl, _, hgb, _⟩
    · simp [Value.ownBlock] at ej
    · obtain rfl : g = j := by simpa [Value.ownBlock] using ej
      rw [hgb] at hj; cases hj; rfl
  · have hs := hb.size
    rw [Below.heap_setCell _ _ _ c (fun e => h3 e), hgrow.block c (by simp; omega) (owns_far hrow h2), Below.heap_alloc _ _ _ (by simp; omega), Below.heap_alloc _ _ _ (by omega), hb.block c h1]
theorem Oth.app {w W0 W1 w5 : World} {Ba bs k : Nat} {v v' : Value} {xs : List Value} {A A' : Obj} (h : Oth w W0 Ba bs W1) (hrow : W1.ownsRow W0.heap.size 51 3 v k xs) (hw : w.heap.size ≤ W0.heap.size) (ha : w.heap.size ≤ Ba) (hs : w.heap.size ≤ bs) (hgrow : ((W1.alloc A).alloc A').grownBy w5 v.ownBlock) : Oth w W0 Ba bs (w5.setCell ⟨Ba, 0, none⟩ v') := by
  have h1 := h.grown (World.grownBy_alloc W1 A none) hw ha hs (fun r e => by cases e)
  have h2 := h1.grown (World.grownBy_alloc _ A' none) hw ha hs (fun r e => by cases e)
  have h3 := h2.grown hgrow hw ha hs (fun r e => by
    rcases hrow.2 with ⟨rfl, _⟩ | ⟨g, cap, cur, rfl, hb, _, _⟩
    · simp [Value.ownBlock] at e
    · obtain rfl : g = r := by simpa [Value.ownBlock] using e
      exact .inr (.inr hb))
  exact h3.grown (grownBy_setCell' _ _ _) hw ha hs (fun r e => by cases e; exact .inr (.inl rfl))
theorem below_two {n : Nat} {w W V : World} (h : Below n w W) (k : Below n w V) (hs : W.heap.size ≤ V.heap.size) : Below n W V :=
  ⟨k.os.trans h.os.symm, k.tape.trans h.tape.symm, k.output.trans h.output.symm, hs, fun i hi => (k.block i hi).trans (h.block i hi).symm⟩
theorem ReadsAs.more {ps : List (List UInt8)} {ys : List Ar} (h : ReadsAs ps ys) (hl : ys.length ≤ ps.length) (x : List UInt8) : ReadsAs (ps ++ [x]) ys := fun i hi => by
  have := h i hi
  rwa [show (ps ++ [x]).getD i [] = ps.getD i [] by simp [List.getD, List.getElem?_append, show i < ps.length by omega]]
theorem reads_snoc {ps : List (List UInt8)} {ys : List Ar} (h : ReadsAs ps ys) (hl : ps.length = ys.length) {x : List UInt8} {k n q : Int} {b : Bool} (hr : RdOk x k n q b) : ReadsAs (ps ++ [x]) (ys ++ [(k, n, q)]) := by
  refine (h.more (by omega) x).snoc (b := b) ?_
  rwa [show (ps ++ [x]).getD ys.length [] = x by rw [← hl]; simp [List.getD]]
theorem RowBox.block {W W0 : World} {b i : Nat} (h : RowBox W0 b i) (e : W.heap[b]? = W0.heap[b]?) : RowBox W b i := by
  obtain ⟨h0, h1, h2, h3, h4, h5, h6, h7, h8⟩ := h
  have c : ∀ j, W.cell? ⟨b, j, none⟩ = W0.cell? ⟨b, j, none⟩ := fun j => World.cell?_of_block (a := ⟨b, j, none⟩) e
  exact ⟨(c 0).trans h0, (c 1).trans h1, (c 2).trans h2, (c 3).trans h3, (c 4).trans h4, (c 5).trans h5, (c 6).trans h6, (c 7).trans h7, (c 8).trans h8⟩
theorem ARow.obj {W : World} {g cp D : Nat} {ys : List Ar} {ds : Option (List Deferred)} (h : ARow W g cp ys) (hd : W.heap[D]? = some (.deferred ds)) (o : Obj) : ARow (W.putObj D o) g cp ys := by
  obtain ⟨cur, h1, h2⟩ := h
  refine ⟨cur, (World.putObj_heap_other (fun e => ?_)).trans h1, h2⟩
  rw [e, hd] at h1
  cases h1
theorem pcs_many (sep : List UInt8) : ∀ (k : Nat) (s : List UInt8), (pcs sep k s).length ≤ k + 1
  | 0, s => by simp [pcs]
  | k + 1, s => by
    rcases index_is s sep with e | ⟨i, e⟩
    · rw [pcs_miss e]; simp
    · rw [pcs_hit e]
      have := pcs_many sep k (s.drop (i + sep.length))
      simp; omega
theorem grown_of_below {W W' : World} (h : Below W.heap.size W W') : W.grownBy W' none := ⟨h.os, h.tape, h.output, h.size, fun k hk _ => h.block k hk⟩
theorem split_boxes (s sep : ByteArray) (w : World) : Boxed (splitW s sep w) w.heap.size 9 (.string s) ∧ Boxed (splitW s sep w) (w.heap.size + 1) 9 (.string sep) ∧ Boxed (splitW s sep w) (w.heap.size + 1 + 1) 3 (.int .i64 0) ∧ (splitW s sep w).heap.size = w.heap.size + 1 + 1 + 1 ∧ Below w.heap.size w (splitW s sep w) := by
  unfold splitW
  refine ⟨((Boxed.new w _ _).alloc _).alloc _, ?_, ?_, by simp, ((one _ _).alloc (by simp) _).alloc (by simp; omega) _⟩
  · have := Boxed.new (w.alloc (.cells #[.string s] 9)) 9 (.string sep)
    rw [World.size_alloc] at this
    exact this.alloc _
  · have := Boxed.new ((w.alloc (.cells #[.string s] 9)).alloc (.cells #[.string sep] 9)) 3 (.int .i64 0)
    rw [World.size_alloc, World.size_alloc] at this
    exact this

set_option maxRecDepth 100000 in
set_option maxHeartbeats 4000000 in
theorem eargs_any (i : Nat) (s : ByteArray) (w : World) (hs : s.size ≤ 1500000) (hT : Tabs w) (hC : CmpTab w) (m : Int) (hm : w.cell? ⟨4, 0, none⟩ = some (.int .i64 m)) :
    Calls Tryz.prog 30 #[erowV i, .string s] w (ArgsEnd i s.data.toList w) := by
  have HT : Hid (Tabs w) := hT
  have HC : Hid (CmpTab w) := hC
  have HM : Hid (w.cell? ⟨4, 0, none⟩ = some (.int .i64 m)) := hm
  have hgm : 4 < w.heap.size := World.block_lt_of_cell? w ⟨4, 0, none⟩ hm
  have HQ : Hid (∀ e w', ArgsEnd i s.data.toList w e w' → ArgsEnd i s.data.toList w e w') := fun _ _ h => h
  clear hT hC hm
  refine (callsIn_wide (n := 5)).1 ?_
  refine callsIn_of_wp_marks Tryz.func30 rfl trivial ?_ rfl
  simp only [Tryz.ntmps30, List.size_toArray, List.length_cons, List.length_nil, Nat.reduceAdd, Nat.reduceSub, Array.replicate_succ, Array.replicate_zero, List.push_toArray, List.append_toArray, List.nil_append, List.cons_append]
  refine wpIn_wide.2 ?_
  unfold erowV
  have HP : Hid (Pre0 w i _) := pre0_new w i
  go_wp2_with fail
  refine (ahead_any i _).mono ?_
  rintro e wa ⟨rfl, hb1⟩
  have HP1 : Hid (Pre0 w i wa) := HP.out.to hb1
  clear hb1 HP
  go_wp2_with fail
  refine (Any.strings_CutPrefix Tryz.lays103 s ⟨(ah i).toArray⟩ _).mono ?_
  rintro e w1 ⟨rfl, rfl⟩
  have hc0 := HP1.out.r0.cell
  have hf0 := HP1.out.r0.frozen
  have hc1 := HP1.out.r1.cell
  have hf1 := HP1.out.r1.frozen
  cases hpre : Lib.hasPrefix s.data.toList (ah i)
  · have HPf : Hid (Lib.hasPrefix s.data.toList (ah i) = false) := hpre
    clear hpre
    simp only
    go_wp2
    obtain ⟨p0, p1⟩ := putRes HP1.out.r0 HP1.out.r1 (by omega) (.slice none 0 0) (.iface 61 (.agg #[.string s]))
    exact ⟨_, res2E Tryz.results30 rfl rfl p0.cell p1.cell, (HP1.out.below.setCell (p := ⟨w.heap.size + 1, 0, none⟩) (Nat.le_succ _) _).setCell (p := ⟨w.heap.size + 1 + 1, 0, none⟩) (by simp; omega) _, .inr ⟨s, rfl, fun ys _ e => pfx_no HPf.out _ e⟩⟩
  · have HPf : Hid (Lib.hasPrefix s.data.toList (ah i) = true) := hpre
    clear hpre
    simp only
    have HRe : Hid (s.data.toList = ah i ++ Lib.trimPrefix s.data.toList (ah i)) := pfx_yes HPf.out
    have hrl : (Lib.trimPrefix s.data.toList (ah i)).length ≤ 1500000 := by
      have := congrArg List.length HRe.out
      simp at this
      omega
    generalize Lib.trimPrefix s.data.toList (ah i) = rest at *
    have HPa : Hid (∀ o, Pre0 w i (w1.alloc o)) := fun o => HP1.out.to (one _ _)
    obtain ⟨q0, q1, q2, q3, q4, q5, q6, q7, q8⟩ := (HPa.out (.cells #[.slice none 0 0] 23)).row
    have hz1 : w.heap.size + 1 + 1 < w1.heap.size := HP1.out.r1.lt
    have HBa : Hid (Boxed (w1.alloc (.cells #[.slice none 0 0] 23)) w1.heap.size 23 (.slice none 0 0)) := Boxed.new w1 _ _
    go_wp2_with fail
    refine (between_any i _ (HC.out.to (HPa.out _).below)).mono ?_
    rintro e w3 ⟨rfl, hb3⟩
    have HP3 : Hid (Pre0 w i w3) := (HPa.out _).to hb3
    have HB3 : Hid (Boxed w3 w1.heap.size 23 (.slice none 0 0)) := (hb3.block _ HBa.out.lt).trans HBa.out
    have hz3 : w1.heap.size < w3.heap.size := HB3.out.lt
    clear q0 q1 q2 q3 q4 q5 q6 q7 q8 hc0 hc1 hf0 hf1 HPa HBa hb3 HP1
    go_wp2_with fail
    refine (splitSeq_any _ _ _).mono ?_
    rintro e w4 ⟨rfl, rfl⟩
    go_wp2_with fail
    generalize (Value.agg #[.string ⟨(nm i).toArray⟩, .int .i32 (mk i), .int .i64 (ts i), fv ((fm0 i)[0]?.getD 0), fv ((fm0 i)[1]?.getD 0), fv ((fm0 i)[2]?.getD 0), fv ((fm1 i)[0]?.getD 0), fv ((fm1 i)[1]?.getD 0), fv ((fm1 i)[2]?.getD 0)]) = ev
    obtain ⟨bS, bP, bV, hN, hbw⟩ := split_boxes ⟨rest.toArray⟩ ⟨(bt i).toArray⟩ w3
    have HP0 : Hid (Pre0 w i _) := HP3.out.to hbw
    have HBA : Hid (Boxed _ w1.heap.size 23 (.slice none 0 0)) := (hbw.block _ HB3.out.lt).trans HB3.out
    generalize splitW ⟨rest.toArray⟩ ⟨(bt i).toArray⟩ w3 = W0 at *
    have HS : Hid (Boxed W0 w3.heap.size 9 (.string ⟨rest.toArray⟩) ∧ Boxed W0 (w3.heap.size + 1) 9 (.string ⟨(bt i).toArray⟩) ∧ Boxed W0 (w3.heap.size + 1 + 1) 3 (.int .i64 0)) := ⟨bS, bP, bV⟩
    have hm0 : W0.cell? ⟨4, 0, none⟩ = some (.int .i64 m) := (HP0.out.below.cell (p := ⟨4, 0, none⟩) hgm).trans HM.out
    clear bS bP bV hbw HP3 HB3
    refine (wpIn_wide (n := 5)).1 ?_
    refine wpIn_cuts rfl (by omega) (gf := 119) (lb := #[.pointer (some ⟨w3.heap.size + 1, 0, none⟩), .pointer (some ⟨w3.heap.size, 0, none⟩), .pointer (some ⟨w3.heap.size + 1 + 1, 0, none⟩)]) rfl trivial (enters_of Tryz.func119 (by kernel_rfl) rfl)
      (cuts_any ⟨rest.toArray⟩ ⟨(bt i).toArray⟩ (by simpa using bt_ne i) (by simp [ByteArray.size]; omega) w3.heap.size (w3.heap.size + 1) (w3.heap.size + 1 + 1) w.heap.size W0 (by omega) (by omega) HS.out.1 HS.out.2.1 HS.out.2.2 (by omega) hgm m hm0 _)
      (by omega) (fun c hc => by simp at hc; omega) (by omega) rfl (ArgI w W0 w1.heap.size w3.heap.size) (ArgX w W0 (w.heap.size + 1) (w.heap.size + 1 + 1))
      (argI_bears (by omega) (by omega) (by omega) (by omega) (by omega)) (argX_bears (by omega) (by omega) (by omega) (by omega) (by omega) (by omega))
      ⟨[], _, HBA.out, World.ownsRow_nil _ _ _ _, fun i hi => by simp at hi, rfl, fun a ha => by simp at ha, HP0.out.below, fun _ _ _ _ => rfl, Nat.le_refl _⟩
      (fun x => { tmps := #[ev, .string s, .pointer (some ⟨w.heap.size, 0, none⟩), undef, .pointer (some ⟨w.heap.size + 1, 0, none⟩), .pointer (some ⟨w.heap.size + 1 + 1, 0, none⟩), .string ⟨rest.toArray⟩, .bool true, .pointer (some ⟨w1.heap.size, 0, none⟩), strP x, undef, undef, .tuple #[.string ⟨rest.toArray⟩, .bool true], .string s, ev, .string ⟨(ah i).toArray⟩, .tuple #[.string ⟨rest.toArray⟩, .bool true], .string ⟨rest.toArray⟩, .bool true, .bool true, .bool false, undef, undef, undef, .string ⟨rest.toArray⟩, ev, .string ⟨(bt i).toArray⟩,
          .func (.func 119) #[] #[.pointer (some ⟨w3.heap.size + 1, 0, none⟩), .pointer (some ⟨w3.heap.size, 0, none⟩), .pointer (some ⟨w3.heap.size + 1 + 1, 0, none⟩)], strP x, undef, undef, undef, undef, undef, undef, undef, undef, undef, undef, undef, undef, undef, undef, undef, undef, undef, undef, undef, undef, undef, undef], defers := [] }) ?assign ?body ?done ?stop
    case assign =>
      intro l x W K hK
      gi_wp2
      exact hK
    case body =>
      rintro l pre x W ⟨ys, v, bA, hown, hR, hpre, hall, hO⟩ hsp
      have hx : x ∈ prts (bt i) rest := hsp.subset (by simp)
      have hxs : (⟨x.toArray⟩ : ByteArray).size ≤ 2000000 := by
        have := prts_short hx
        simp [ByteArray.size]; omega
      have hyl : ys.length ≤ 2000000 := by
        have h1 := hsp.length_le
        have h2 := pcs_many (bt i) rest.length rest
        have h3 : pre.length = ys.length := by rw [hpre]; simp
        unfold prts at h1
        simp at h1; omega
      have HA : Hid (Boxed W w1.heap.size 23 v) := bA
      have HW : Hid (W.ownsRow W0.heap.size 51 3 v ys.length (arCells ys)) := hown
      have HO : Hid (Oth w W0 w1.heap.size w3.heap.size W) := hO
      have HTw : Hid (Tabs W) := HT.out.to hO.below
      have hzW := hO.size
      have HPr : Hid (pre = ys.map tx) := hpre
      have HN : Hid (W0.heap.size = w3.heap.size + 1 + 1 + 1) := hN
      have z0 : w3.heap.size + 1 + 1 < W0.heap.size := by omega
      clear bA hown hO hpre hN
      unfold strP
      gi_wp2
      refine ⟨trivial, (CallsIn.inRound l (callsIn_wide.2 (iread_any ⟨x.toArray⟩ W hxs HTw.out))).mono ?_⟩
      rintro e W1 ⟨k, n, q, b, rfl, hrd0, hb1⟩
      have hrd : RdOk x k n q b := by simpa using hrd0
      have HA1 : Hid (Boxed W1 w1.heap.size 23 v) := (hb1.block _ HA.out.lt).trans HA.out
      have HW1 : Hid (W1.ownsRow W0.heap.size 51 3 v ys.length (arCells ys)) := owns_kept HW.out (grown_of_below hb1) (fun r e => by cases e)
      have HO1 : Hid (Oth w W0 w1.heap.size w3.heap.size W1) := HO.out.grown (grown_of_below hb1) (by omega) (by omega) (by omega) (fun r e => by cases e)
      have HB1 : Hid (Below W.heap.size W W1) := hb1
      have hz1' := hb1.size
      have k0 : w.heap.size + 1 < W1.heap.size := by omega
      have k1 : w.heap.size + 1 + 1 < W1.heap.size := by omega
      have k2 : w1.heap.size < W1.heap.size := by omega
      have m0 : w.heap.size + 1 ≠ W1.heap.size := by omega
      have m1 : w.heap.size + 1 + 1 ≠ W1.heap.size := by omega
      have m2 : w1.heap.size ≠ W1.heap.size := by omega
      clear hrd0 hb1
      cases b
      · have HRd : Hid (RdOk x k n q false) := hrd
        have B0 : Boxed W1 (w.heap.size + 1) 23 (.slice none 0 0) := (HO1.out.rest _ (by omega) (by omega) (by omega)).trans HP0.out.r0
        have B1 : Boxed W1 (w.heap.size + 1 + 1) 57 .nilIface := (HO1.out.rest _ (by omega) (by omega) (by omega)).trans HP0.out.r1
        have c0 := B0.cell
        have f0 := B0.frozen
        have c1 := B1.cell
        have f1 := B1.frozen
        have HBx : Hid (Boxed W1 (w.heap.size + 1) 23 (.slice none 0 0) ∧ Boxed W1 (w.heap.size + 1 + 1) 57 .nilIface) := ⟨B0, B1⟩
        clear hrd B0 B1
        gi_wp2
        obtain ⟨p0, p1⟩ := putRes HBx.out.1 HBx.out.2 (by omega) (.slice none 0 0) (.iface 61 (.agg #[.string ⟨x.toArray⟩]))
        refine ⟨((((keeps_below HB1.out).trans (KeepsOthers.setCell _ _ _)).trans (KeepsOthers.setCell _ _ _)).trans (KeepsOthers.alloc _ _)).from _, x, k, n, q, by simp, HRd.out, p0.alloc _, p1.alloc _, ?_, ?_⟩
        · exact ((HO1.out.below.setCell (p := ⟨w.heap.size + 1, 0, none⟩) (Nat.le_succ _) _).setCell (p := ⟨w.heap.size + 1 + 1, 0, none⟩) (by simp; omega) _).alloc (by simp [World.setCell]; omega) _
        · simp [World.setCell]; omega
      · have HRd : Hid (RdOk x k n q true) := hrd
        have c0 := HA1.out.cell
        have HWx : Hid (∀ A A', ((W1.alloc A).alloc A').ownsRow W0.heap.size 51 3 v ys.length (arCells ys)) := fun A A' => (HW1.out.alloc A).alloc A'
        have HNw : Hid (∀ A A', ((W1.alloc A).alloc A').heap[W1.heap.size + 1]? = some A') := fun A A' => by
          have := heap_alloc_last (W1.alloc A) A'
          rwa [World.size_alloc] at this
        obtain ⟨i0, hi, hzz0, hzz1, hzz2⟩ := info_parts iDev
        clear hrd
        gi_wp2_with (gi_at_builtin; refine wpListIn_append_own _ rfl _ _ 23 rfl W0.heap.size 51 i0 _ 3 24 Tryz.underlying23 hi hzz0 hzz1 hzz2 rfl (by decide) v ys.length (arCells ys) rfl (HWx.out _ _) ⟨W1.heap.size + 1, 0, none⟩ 1 1 [.int .i64 k, .int .i64 n, .int .i64 q] rfl rfl (World.news_of_block (cs := #[.int .i64 k, .int .i64 n, .int .i64 q]) (t := 51) (fr := (0, 0)) (HNw.out _ _)) (by simp [Value.oneCell']) (by unfold maxLen; omega) (by omega) (by simp; omega) ?_; intro v' w5 hown' hgrow _; obtain ⟨g', cap', rfl⟩ := ownsRow_succ hown'; obtain ⟨d1, d2, d3, d4, d5⟩ := app_step HB1.out HA1.out HW1.out (by omega) hown' hgrow; have hc1 := d1.cell; have hf1 := d1.frozen; have HD : Hid (_ ∧ _ ∧ _ ∧ _) := ⟨d2, d3, d4, d5⟩; have HOx : Hid (Oth w W0 w1.heap.size w3.heap.size _) := HO1.out.app (v' := .slice (some ⟨g', 0, none⟩) (ys.length + 1) cap') HW1.out (by omega) (by omega) (by omega) hgrow; clear d1 d2 d3 d4 d5 hown' hgrow)
        have hl : pre.length = ys.length := by rw [HPr.out]; simp
        have hq := HRd.out
        rcases HRd.out with ⟨-, hok, htx, -⟩ | ⟨hf, -⟩
        · refine ⟨HD.out.2.2.1.from _, ⟨below_two HO.out.below HOx.out.below HD.out.2.2.1.size, fun c hc => HD.out.2.2.2 c ?_ ?_ ?_⟩, ys ++ [(k, n, q)], _, HD.out.1, ?_, reads_snoc hR hl hq, ?_, ?_, HOx.out⟩
          · simp at hc; omega
          · simp at hc; omega
          · simp at hc; omega
          · rw [← arCells_snoc]
            simpa using HD.out.2.1
          · rw [HPr.out, List.map_append, ← htx]; rfl
          · intro a ha
            rcases List.mem_append.1 ha with ha | ha
            · exact hall a ha
            · rw [List.mem_singleton.1 ha]; exact hok
        · cases hf
    case done =>
      rintro D xs W hD rfl ⟨ys, v, bA, hown, hR, hpre, hall, hO⟩ hK
      have hne : ys ≠ [] := by
        rintro rfl
        exact pcs_ne (bt i) rest rest.length hpre
      obtain ⟨g, cap, rfl, hg, hrow⟩ := arow_of hown rfl (by
        rintro rfl
        rcases hown.2 with ⟨-, h0⟩ | ⟨g, cap, cur, e, _⟩
        · exact hne (List.length_eq_zero_iff.1 h0)
        · cases e)
      have hyl : ys.length ≤ 2000000 := by
        have h2 := pcs_many (bt i) rest.length rest
        have h3 : (prts (bt i) rest).length = ys.length := by rw [hpre]; simp
        unfold prts at h3
        omega
      have HRo : Hid (RowBox W w.heap.size i) := HP0.out.row.block (hO.rest _ (by omega) (by omega) (by omega))
      obtain ⟨q0, q1, q2, q3, q4, q5, q6, q7, q8⟩ := HRo.out
      have HA : Hid (Boxed W w1.heap.size 23 (.slice (some ⟨g, 0, none⟩) ys.length cap)) := bA
      have HW : Hid (ARow W g cap ys) := hrow
      have HO : Hid (Oth w W0 w1.heap.size w3.heap.size W) := hO
      have HK : Hid (W.heap[D]? = some (.deferred (some []))) := hK
      have HPr : Hid (prts (bt i) rest = ys.map tx) := hpre
      have HRs : Hid (ReadsAs (prts (bt i) rest) ys) := hR
      have HN : Hid (W0.heap.size = w3.heap.size + 1 + 1 + 1) := hN
      have z0 : w3.heap.size + 1 + 1 < W0.heap.size := by omega
      have cA := bA.cell
      clear bA hrow hown hO hK hpre hR hN hall hne
      go_wp2_with fail
      refine (rowTakes_any i ys (some ⟨g, 0, none⟩) cap W (HT.out.dev.to HO.out.below) (.inr ⟨g, rfl, HW.out.lt, HW.out.args⟩) HW.out.room hyl).mono ?_
      rintro e W5 ⟨rfl, hb5⟩
      have hz5 := hb5.size
      have hzW := HO.out.size
      have B0 : Boxed W5 (w.heap.size + 1) 23 (.slice none 0 0) := (hb5.block _ (by omega)).trans ((HO.out.rest _ (by omega) (by omega) (by omega)).trans HP0.out.r0)
      have B1 : Boxed W5 (w.heap.size + 1 + 1) 57 .nilIface := (hb5.block _ (by omega)).trans ((HO.out.rest _ (by omega) (by omega) (by omega)).trans HP0.out.r1)
      have c0 := B0.cell
      have f0 := B0.frozen
      have c1 := B1.cell
      have f1 := B1.frozen
      have HBx : Hid (Boxed W5 (w.heap.size + 1) 23 (.slice none 0 0) ∧ Boxed W5 (w.heap.size + 1 + 1) 57 .nilIface) := ⟨B0, B1⟩
      have A5 : Boxed W5 w1.heap.size 23 (.slice (some ⟨g, 0, none⟩) ys.length cap) := (hb5.block _ HA.out.lt).trans HA.out
      have cA5 := A5.cell
      have HW5 : Hid (ARow W5 g cap ys) := HW.out.to hb5
      have HK5 : Hid (W5.heap[D]? = some (.deferred (some []))) := (hb5.block _ (Array.getElem?_eq_some_iff.1 HK.out).1).trans HK.out
      have HB5 : Hid (Below w.heap.size w W5) := HO.out.below.trans (hb5.mono HO.out.below.size)
      have HKe : Hid (∀ v0 v1, ((W5.setCell ⟨w.heap.size + 1, 0, none⟩ v0).setCell ⟨w.heap.size + 1 + 1, 0, none⟩ v1).heap[D]? = some (.deferred (some []))) := fun v0 v1 => by
        rw [Below.heap_setCell _ _ _ D (by simp; omega), Below.heap_setCell _ _ _ D (by simp; omega)]
        exact HK5.out
      have HBe : Hid (∀ v0 v1, Below w.heap.size w ((W5.setCell ⟨w.heap.size + 1, 0, none⟩ v0).setCell ⟨w.heap.size + 1 + 1, 0, none⟩ v1)) := fun v0 v1 => (HB5.out.setCell (p := ⟨w.heap.size + 1, 0, none⟩) (Nat.le_succ _) _).setCell (p := ⟨w.heap.size + 1 + 1, 0, none⟩) (by simp; omega) _
      have hd : w.heap.size ≤ D := by omega
      have n0 : some (w.heap.size + 1) ≠ some D := by simp; omega
      have n1 : some (w.heap.size + 1 + 1) ≠ some D := by simp; omega
      have hsz : w.heap.size ≤ W5.heap.size := by omega
      clear B0 B1 A5 hb5 q0 q1 q2 q3 q4 q5 q6 q7 q8 cA
      cases hok : okA i ys
      · have HOk : Hid (okA i ys = false) := hok
        clear hok
        go_wp2
        refine ⟨by simp, .inl ⟨_, _, rfl, run_takeDeferred (HKe.out _ _), ?_⟩⟩
        obtain ⟨p0, p1⟩ := putRes HBx.out.1 HBx.out.2 (by omega) (.slice none 0 0) (.iface 61 (.agg #[.string ⟨rest.toArray⟩]))
        have gr := grownBy_putObj' ((W5.setCell ⟨w.heap.size + 1, 0, none⟩ (.slice none 0 0)).setCell ⟨w.heap.size + 1 + 1, 0, none⟩ (.iface 61 (.agg #[.string ⟨rest.toArray⟩]))) D (.deferred none)
        exact ⟨_, res2E Tryz.results30 rfl rfl (p0.kept gr n0).cell (p1.kept gr n1).cell, (HBe.out _ _).grown gr (by simpa [World.setCell] using hsz) (fun k e => by cases e; exact hd), .inr ⟨_, rfl, fun zs hk e => by
          rw [HRe.out] at e
          exact args_other HRs.out (by rw [HPr.out]; simp) HOk.out zs hk (List.append_cancel_left e)⟩⟩
      · have HOk : Hid (okA i ys = true) := hok
        clear hok
        go_wp2
        refine ⟨by simp, .inl ⟨_, _, rfl, run_takeDeferred (HKe.out _ _), ?_⟩⟩
        obtain ⟨p0, p1⟩ := putRes HBx.out.1 HBx.out.2 (by omega) (.slice (some ⟨g, 0, none⟩) ys.length cap) .nilIface
        have gr := grownBy_putObj' ((W5.setCell ⟨w.heap.size + 1, 0, none⟩ (.slice (some ⟨g, 0, none⟩) ys.length cap)).setCell ⟨w.heap.size + 1 + 1, 0, none⟩ .nilIface) D (.deferred none)
        exact ⟨_, res2E Tryz.results30 rfl rfl (p0.kept gr n0).cell (p1.kept gr n1).cell, (HBe.out _ _).grown gr (by simpa [World.setCell] using hsz) (fun k e => by cases e; exact hd), .inl ⟨ys, g, cap, rfl, HOk.out, by rw [HRe.out, ← args_whole HPr.out],
          (((HW5.out.set (by omega)).set (by omega)).obj (HKe.out _ _) _), by omega⟩⟩
    case stop =>
      rintro D pre W hD hsp ⟨p, k, n, q, hp, hrd, b0, b1, hb, hz⟩ hK
      gi_wp2
      refine ⟨by simp, .inl ⟨_, _, rfl, run_takeDeferred hK, ?_⟩⟩
      have gr := grownBy_putObj' W D (.deferred none)
      have hd : w.heap.size ≤ D := by omega
      have n0 : some (w.heap.size + 1) ≠ some D := by simp; omega
      have n1 : some (w.heap.size + 1 + 1) ≠ some D := by simp; omega
      exact ⟨_, res2E Tryz.results30 rfl rfl (b0.kept gr n0).cell (b1.kept gr n1).cell, hb.grown gr (by omega) (fun k e => by cases e; exact hd), .inr ⟨_, rfl, fun ys hk e => by
        rw [HRe.out] at e
        exact args_part (hsp.subset hp) hrd ys hk (List.append_cancel_left e)⟩⟩
end Go.Proofs.YtlddkhhaclfmiaaGreatDoor
