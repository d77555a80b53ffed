/- The program's text of a memory: MemText. Helper text: no statement is claimed here. -/
import Derived.Test.YtjacgamgjjpllaaGreatDoorP28
import Derived.Test.YtjacgamgjjpllaaGreatDoorShelf
import Derived.Test.YtjacgamgjjpllaaGreatDoorP24
import Derived.Test.YtjacgamgjjpllaaGreatDoorP27
import Derived.Lib.SplitLaws
import Derived.Shelf.Strings.Split
namespace Go.Proofs.YtjacgamgjjpllaaGreatDoor
open Go.ChangeShapes Go.WideShapes Go.ChangeAt Go.RowKit Fl

/-- A call of a function of the program that answers with something that is so there. -/
theorem wp_callU {o : Oper} {a : Act} {w : World} {K : Act → World → Prop} {Q : Exit → Act → World → Prop} {f : FuncId} {xs : Array Operand} {ts : Array TypeId} {G : Value → World → Prop} (hf : ∀ (xs : Array Value) (w : World), (callFunc f xs).run Tryz.prog w = .ok (.enter f xs) w) (ho : o.op = .call { callee := .value (.func f), args := xs, argTypes := ts })
    {args : Array Value} (ha : xs.map a.eval = args) (hC : Calls Tryz.prog f args w fun e w' => ∃ u, e = .returned u ∧ G u w') (hk : ∀ u w', G u w' → K (a.put o.dst u) w') : o.wp Tryz.prog a w K Q := by
  subst ha
  have he : (execOp a.eval o).run Tryz.prog w = .ok (.enter f (xs.map a.eval)) w := by
    unfold execOp
    rw [ho]
    simp [go_sem, resolve, hf]
  unfold Oper.wp
  rw [he, Oper.upon_enter]
  refine hC.mono ?_
  rintro e w' ⟨u, rfl, h1⟩
  exact hk u w' h1
theorem wp_assignU {o : Oper} {a : Act} {w : World} {K : Act → World → Prop} {Q : Exit → Act → World → Prop} (x : Operand) {u : Value} (ho : o.op = .assign x) (hx : a.eval x = u) (hk : K (a.put o.dst u) w) : o.wp Tryz.prog a w K Q := by
  unfold Oper.wp execOp
  rw [ho]
  simp [hx, Oper.upon_value]
  exact hk
/-- append of a row of texts to a row of texts that is the call's own. -/
theorem wp_sappR {o : Oper} {a : Act} {w : World} {K : Act → World → Prop} {Q : Exit → Act → World → Prop} (s x : Operand)
    (ho : o.op = .call { callee := .builtin .append, args := #[s, x], argTypes := #[49, 49] }) {base base2 : Nat} {v v2 : Value} {ws news : List (List UInt8)} (hs : a.eval s = v) (hx : a.eval x = v2)
    (hown : SRow w base v ws) (hown2 : SRow w base2 v2 news) (hb : ws.length + news.length ≤ 1000) (hbase : base ≤ w.heap.size)
    (h : ∀ v' w', SRow w' base v' (ws ++ news) → Below base w w' → K (a.put o.dst v') w') : o.wp Tryz.prog a w K Q := by
  obtain ⟨i0, hi, hz0, hz1, hz2⟩ := info_parts iStrR
  rcases hown2.form with ⟨rfl, rfl⟩ | ⟨g, cap, rfl, -, -, -, -, hc⟩
  · have hrun := run_append_owned_none (P := Tryz.prog) (w := w) base 49 o.type 9 i0 1 Tryz.underlying49 hi v _ _ hown
    unfold Oper.wp
    simp [execOp, ho, resolve, invoke, builtin, hs, hx, hrun, Result.andThen]
    exact h _ _ (by rw [List.append_nil]; exact hown) (Below.refl _ _)
  · refine wp_append_own w s x _ ho base _ i0 _ 1 16 Tryz.underlying49 hi hz0 hz1 hz2 rfl (by decide) v _ _ hs hown ⟨g, 0, none⟩ news.length cap (stCells news) hx (by rw [stCells_len, Nat.mul_one]) (fun j u hu => ?_) (stCells_one news) (by unfold maxLen; omega) (by omega) hbase (fun v' w' h1 h2 _ => h v' w' ?_ ((Below.refl _ _).grown h2 hbase fun k hk => (hown.lt k hk).1))
    · have hadd : (⟨g, 0, none⟩ : Addr).add j = ⟨g, j, none⟩ := by unfold Addr.add; split <;> simp_all
      rw [hadd]
      simp only [stCells, List.getElem?_map] at hu
      obtain ⟨l, hl, rfl⟩ := Option.map_eq_some_iff.1 hu
      exact hc j l hl
    · show World.ownsRow _ _ _ _ _ _ _
      rw [List.length_append, ← stCells_app]
      exact h1

set_option maxHeartbeats 1000000 in
set_option maxRecDepth 100000 in
theorem words_region {id : Nat} {pos : String} {Q : Exit → Act → World → Prop} {V : World} {t0 t2 t3 t4 t5 t6 t7 t8 t9 t10 t11 t12 t13 t14 t15 t16 t17 t18 t19 t20 t21 t22 t23 t24 t25 t26 t27 t28 t29 t30 t31 : Value} {b : Nat} {m : Mm} (hM : MemAt V b m)
    (h1 : ∀ W, Below V.heap.size V W → Calls Tryz.prog 14 #[m.val] W fun e w' => ∃ u, e = .returned u ∧ SRow w' W.heap.size u (bitsW m) ∧ Below W.heap.size W w')
    (h2 : ∀ W, Below V.heap.size V W → Calls Tryz.prog 15 #[m.val] W fun e w' => ∃ u, e = .returned u ∧ SRow w' W.heap.size u (numW m) ∧ Below W.heap.size W w')
    (hlen : (bitsW m).length + (numW m).length ≤ 1000)
    (hQ : ∀ v u5 u7 w', SRow w' V.heap.size v (bitsW m ++ numW m) → Below V.heap.size V w' → Q .normal { tmps := #[t0, .pointer (some ⟨b, 0, none⟩), t2, v, m.val, u5, m.val, u7, v, t9, t10, t11, t12, t13, t14, t15, t16, t17, t18, t19, t20, t21, t22, t23, t24, t25, t26, t27, t28, t29, t30, t31], defers := [] } w') :
    (Code.region id #[{ dst := some 4, op := .load 37 (.tmp 1), type := 37, pos := pos, after := #[], guard := none },
      { dst := some 5, op := .call { callee := .value (.func 14), args := #[.tmp 4], argTypes := #[37] }, type := 49, pos := pos, after := #[{ on := 0, ground := .data }], guard := none },
      { dst := some 6, op := .load 37 (.tmp 1), type := 37, pos := pos, after := #[], guard := none },
      { dst := some 7, op := .call { callee := .value (.func 15), args := #[.tmp 6], argTypes := #[37] }, type := 49, pos := pos, after := #[{ on := 2, ground := .data }, { on := 1, ground := .chain }], guard := none },
      { dst := some 8, op := .call { callee := .builtin .append, args := #[.tmp 5, .tmp 7], argTypes := #[49, 49] }, type := 49, pos := pos, after := #[{ on := 1, ground := .data }, { on := 3, ground := .data }, { on := 3, ground := .chain }], guard := none },
      { dst := some 3, op := .assign (.tmp 8), type := 49, pos := pos, after := #[{ on := 4, ground := .data }, { on := 4, ground := .chain }, { on := 0, ground := .phase }, { on := 1, ground := .phase }, { on := 2, ground := .phase }, { on := 3, ground := .phase }, { on := 4, ground := .phase }], guard := none }] true).wp Tryz.prog Q { tmps := #[t0, .pointer (some ⟨b, 0, none⟩), t2, t3, t4, t5, t6, t7, t8, t9, t10, t11, t12, t13, t14, t15, t16, t17, t18, t19, t20, t21, t22, t23, t24, t25, t26, t27, t28, t29, t30, t31], defers := [] } V := by
  refine wp_region_noPanic ?_
  refine wp_region_held_drew (S := fun W => Below V.heap.size V W) (by kernel_rfl) (Below.refl _ _).drew (fun hHeld => ?_)
  refine wpAnyH_take (i := 0) (oi := { dst := some 4, op := .load 37 (.tmp 1), type := 37, pos := pos, after := #[], guard := none }) (v := m.val) rfl (by kernel_rfl) (by kernel_rfl) (by kernel_rfl) (fun _ _ _ h => h) (yields_row (by rfl) (.tmp 1) rfl rfl (fun W hb => RowAt.to hM hb) Tryz.underlying37 rfl (by kernel_rfl)) hHeld ?_
  simp only [Act.put, List.setIfInBounds_toArray, List.set_cons_zero, List.set_cons_succ]
  refine wpAnyH_take (i := 2) (oi := { dst := some 6, op := .load 37 (.tmp 1), type := 37, pos := pos, after := #[], guard := none }) (v := m.val) rfl (by kernel_rfl) (by kernel_rfl) (by kernel_rfl) (fun _ _ _ h => h) (yields_row (by rfl) (.tmp 1) rfl rfl (fun W hb => RowAt.to hM hb) Tryz.underlying37 rfl (by kernel_rfl)) hHeld ?_
  simp only [Act.put, List.setIfInBounds_toArray, List.set_cons_zero, List.set_cons_succ]
  refine wpAnyH_ready (rs := [1]) (by kernel_rfl) (by simp) ?_
  refine AllReadyH.cons (o := { dst := some 5, op := .call { callee := .value (.func 14), args := #[.tmp 4], argTypes := #[37] }, type := 49, pos := pos, after := #[{ on := 0, ground := .data }], guard := none }) rfl (fun K hK => ?_) AllReadyH.nil
  rw [if_pos (by rfl)]
  refine wp_callU (args := #[m.val]) Tryz.call14 rfl (by simp [Act.eval]) (h1 _ hHeld) ?_
  rintro u5 w1 ⟨hr1, hb1⟩
  have hl1 : Below V.heap.size V w1 := Below.trans hHeld (Below.mono hb1 (Below.size hHeld))
  have hr1' : SRow w1 V.heap.size u5 (bitsW m) := hr1.low (Below.size hHeld)
  refine hK.out _ _ hl1 (fun _ => ?_)
  simp only [Act.put, List.setIfInBounds_toArray, List.set_cons_zero, List.set_cons_succ]
  refine wpAnyH_ready (rs := [3]) (by kernel_rfl) (by simp) ?_
  refine AllReadyH.cons (o := { dst := some 7, op := .call { callee := .value (.func 15), args := #[.tmp 6], argTypes := #[37] }, type := 49, pos := pos, after := #[{ on := 2, ground := .data }, { on := 1, ground := .chain }], guard := none }) rfl (fun K hK => ?_) AllReadyH.nil
  rw [if_pos (by rfl)]
  refine wp_callU (args := #[m.val]) Tryz.call15 rfl (by simp [Act.eval]) (h2 _ hl1) ?_
  rintro u7 w2 ⟨hr2, hb2⟩
  have hl2 : Below V.heap.size V w2 := Below.trans hl1 (Below.mono hb2 (Below.size hl1))
  refine hK.out _ _ hl2 (fun _ => ?_)
  simp only [Act.put, List.setIfInBounds_toArray, List.set_cons_zero, List.set_cons_succ]
  refine wpAnyH_ready (rs := [4]) (by kernel_rfl) (by simp) ?_
  refine AllReadyH.cons (o := { dst := some 8, op := .call { callee := .builtin .append, args := #[.tmp 5, .tmp 7], argTypes := #[49, 49] }, type := 49, pos := pos, after := #[{ on := 1, ground := .data }, { on := 3, ground := .data }, { on := 3, ground := .chain }], guard := none }) rfl (fun K hK => ?_) AllReadyH.nil
  rw [if_pos (by rfl)]
  refine wp_sappR (v := u5) (v2 := u7) (.tmp 5) (.tmp 7) rfl (by simp [Act.eval]) (by simp [Act.eval]) (hr1'.to hb2) hr2 hlen hl2.size ?_
  intro v w3 hr3 hb3
  have hl3 : Below V.heap.size V w3 := Below.trans hl2 hb3
  refine hK.out _ _ hl3 (fun _ => ?_)
  simp only [Act.put, List.setIfInBounds_toArray, List.set_cons_zero, List.set_cons_succ]
  refine wpAnyH_ready (rs := [5]) (by kernel_rfl) (by simp) ?_
  refine AllReadyH.cons (o := { dst := some 3, op := .assign (.tmp 8), type := 49, pos := pos, after := #[{ on := 4, ground := .data }, { on := 4, ground := .chain }, { on := 0, ground := .phase }, { on := 1, ground := .phase }, { on := 2, ground := .phase }, { on := 3, ground := .phase }, { on := 4, ground := .phase }], guard := none }) rfl (fun K hK => ?_) AllReadyH.nil
  rw [if_pos (by rfl)]
  refine wp_assignU (.tmp 8) (u := v) rfl (by simp [Act.eval]) ?_
  refine hK.out _ _ hl3 (fun _ => ?_)
  simp only [Act.put, List.setIfInBounds_toArray, List.set_cons_zero, List.set_cons_succ]
  have hd := hQ v u5 u7 w3 hr3 hl3
  refine wpAnyH_done ?_ ?_ _
  · kernel_rfl
  · exact NoPanic.normal hd

theorem joinS_any (ws : List (List UInt8)) (v : Value) (base : Nat) (w : World) (h : SRow w base v ws) (hl : ws.length ≤ 1000) (hj : (Lib.join ws [32]).length ≤ 1000000) :
    Calls Tryz.prog 17 #[v, .string ⟨#[32]⟩] w fun e w' => e = .returned (.string ⟨(Lib.join ws [32]).toArray⟩) ∧ Below w.heap.size w w' := by
  rcases h.form with ⟨rfl, rfl⟩ | ⟨g, cap, rfl, -, hg, hc, -, hcell⟩
  · exact (Any.strings_Join_none Tryz.lays156 Tryz.Builder_Extra_156 none 0 ⟨#[32]⟩ w).mono fun e w' ⟨he, hw⟩ => ⟨he, hw ▸ Below.refl _ _⟩
  · have hx : ((ws.map fun l => (⟨l.toArray⟩ : ByteArray)).map (·.data.toList)) = ws := by simp [Function.comp_def]
    have := Any.strings_Join Tryz.lays156 Tryz.Builder_Extra_156 g 0 cap (ws.map fun l => (⟨l.toArray⟩ : ByteArray)) ⟨#[32]⟩ w (fun j x hjx => by
      rw [List.getElem?_map] at hjx
      obtain ⟨l, hl', rfl⟩ := Option.map_eq_some_iff.1 hjx
      rw [Nat.zero_add]
      exact hcell j l hl') hg (by simp; omega) (by simpa using hc) (by rw [hx]; simp only []; omega)
    rw [hx] at this
    rw [List.length_map] at this
    exact this

set_option maxHeartbeats 2000000 in
set_option maxRecDepth 100000 in
theorem itextM_any (m : Mm) (hok : m.Ok) (w : World) (hT : DevTab w) (hP : PowTab w) :
    Calls Tryz.prog 6 #[m.val] w fun e w' => e = .returned (.string ⟨(memT m).toArray⟩) ∧ Below w.heap.size w w' := by
  have HT : Hid (DevTab w) := hT
  have HP : Hid (PowTab w) := hP
  have H1 : Hid (∀ W, DevTab W → PowTab W → Calls Tryz.prog 14 #[m.val] W fun e w' => ∃ u, e = .returned u ∧ SRow w' W.heap.size u (bitsW m) ∧ Below W.heap.size W w') := fun W h1 h2 => bitWords_any m hok W h1 h2
  have H2 : Hid (∀ W, DevTab W → PowTab W → Calls Tryz.prog 15 #[m.val] W fun e w' => ∃ u, e = .returned u ∧ SRow w' W.heap.size u (numW m) ∧ Below W.heap.size W w') := fun W h1 h2 => numberWords_any m hok W h1 h2
  have HW : Hid (bitsW m ++ numW m ++ ((if 0 < m.time then [timeT m] else []) ++ (if m.ran = true then [ranT] else []) ++ (if m.fault = true then [faultT] else [])) = wordsM m) := rfl
  have HF : Hid (Fits 400 (bitsW m ++ numW m)) := (fits_bits m).app (fits_num hok)
  have HFw : Hid (Fits 403 (wordsM m)) := fits_words hok
  have HJ : Hid (∀ W v base, SRow W base v (wordsM m) → Calls Tryz.prog 17 #[v, .string ⟨#[32]⟩] W fun e w' => e = .returned (.string ⟨(memT m).toArray⟩) ∧ Below W.heap.size W w') := fun W v base h => by
    have h1 := (fits_words hok).1
    have h2 := (fits_words hok).join
    exact joinS_any _ v base W h (by omega) (by omega)
  have hlb := (fits_bits m).1
  have hln := (fits_num hok).1
  have htm := hok.htime
  clear hok hT hP
  have hli := itoa_len (m.time : Int) (by omega) (by omega)
  unfold Mm.val at H1 H2 ⊢
  go_enter Tryz.func6, Tryz.ntmps6
  go_upto_region 1 with fail
  have HBV : Hid (Below w.heap.size w (w.alloc (.cells m.cells 37))) := (Below.refl _ _).alloc (Nat.le_refl _) _
  have HM0 : Hid (MemAt (w.alloc (.cells m.cells 37)) w.heap.size m) := RowAt.new w _ 136 m.cell
  generalize (w.alloc (.cells m.cells 37)) = V at *
  have HT0 : Hid (DevTab V) := HT.out.to HBV.out
  have HP0 : Hid (PowTab V) := HP.out.to HBV.out
  clear HT HP
  refine words_region (m := m) HM0.out (fun W hb => H1.out W (HT0.out.to hb) (HP0.out.to hb)) (fun W hb => H2.out W (HT0.out.to hb) (HP0.out.to hb)) (by omega) ?_
  intro v u5 u7 w1 hr1 hb1
  have HRa : Hid (SRow w1 V.heap.size v (bitsW m ++ numW m)) := hr1
  have HBa : Hid (Below V.heap.size V w1) := hb1
  clear hr1 hb1 H1 H2 hlb hln
  have HMa : Hid (MemAt w1 w.heap.size m) := HM0.out.to HBa.out
  have hwl := HF.out.1
  generalize hwa : bitsW m ++ numW m = la at *
  have HWA : Hid (bitsW m ++ numW m = la) := hwa
  clear hwa
  have c0 := HMa.out.cell (i := 133) (by omega)
  rw [show m.cell 133 = .int .u32 m.time from rfl] at c0
  clear HMa HF HFw HW
  have HRw : Hid (SRow w1 V.heap.size v la) := HRa
  have HB1 : Hid (Below V.heap.size V w1) := HBa
  have HR1 : Hid (SRow w1 V.heap.size v la) := HRa
  clear HRa HBa HRw
  by_cases htz : m.time = 0
  · rw [htz] at c0
    go_upto_region 4 with fail
    have c1 := (HM0.out.to HB1.out).cell (i := 134) (by omega)
    rw [show m.cell 134 = .bool m.ran from rfl] at c1
    cases hrn : m.ran
    · rw [hrn] at c1
      go_upto_region 6 with fail
      have c2 := (HM0.out.to HB1.out).cell (i := 135) (by omega)
      rw [show m.cell 135 = .bool m.fault from rfl] at c2
      cases hft : m.fault
      · rw [hft] at c2
        have HL : Hid (SRow w1 V.heap.size v (wordsM m)) := by
          show SRow w1 V.heap.size v (wordsM m)
          refine cast (congrArg (SRow w1 V.heap.size v) ?_) HR1.out
          rw [← HWA.out]
          simp [wordsM, endW, htz, hrn, hft]
        clear HR1 HWA
        go_wp2_with fail
        refine (HJ.out _ _ _ HL.out).mono ?_
        rintro e wz ⟨rfl, hbz⟩
        go_wp2
        go_ret
        exact ⟨rfl, HBV.out.trans ((HB1.out.trans (hbz.mono HB1.out.size)).mono HBV.out.size)⟩
      · rw [hft] at c2
        have HC := sone_cell w1 [102, 97, 117, 108, 116]
        have hbs : V.heap.size ≤ w1.heap.size := HB1.out.size
        go_wp2_with (refine wpList_sapp _ rfl _ _ rfl V.heap.size _ _ [[102, 97, 117, 108, 116]] rfl (HR1.out.to ((Below.refl _ _).alloc (Nat.le_refl _) _)) w1.heap.size 1 rfl HC (by simp; omega) (by simp; omega) ?_)
        intro vf w1f HR1f hb1f
        have HB1f : Hid (Below V.heap.size V w1f) := (HB1.out.alloc HB1.out.size _).trans hb1f.out
        clear HC hbs hb1f HR1 HB1
        have HL : Hid (SRow w1f V.heap.size vf (wordsM m)) := by
          show SRow w1f V.heap.size vf (wordsM m)
          refine cast (congrArg (SRow w1f V.heap.size vf) ?_) HR1f.out
          rw [← HWA.out]
          simp [wordsM, endW, htz, hrn, hft, faultT]
        clear HR1f HWA
        go_wp2_with fail
        refine (HJ.out _ _ _ HL.out).mono ?_
        rintro e wz ⟨rfl, hbz⟩
        go_wp2
        go_ret
        exact ⟨rfl, HBV.out.trans ((HB1f.out.trans (hbz.mono HB1f.out.size)).mono HBV.out.size)⟩
    · rw [hrn] at c1
      have HC := sone_cell w1 [114, 97, 110]
      have hbs : V.heap.size ≤ w1.heap.size := HB1.out.size
      go_wp2_with (refine wpList_sapp _ rfl _ _ rfl V.heap.size _ _ [[114, 97, 110]] rfl (HR1.out.to ((Below.refl _ _).alloc (Nat.le_refl _) _)) w1.heap.size 1 rfl HC (by simp; omega) (by simp; omega) ?_)
      intro vr w1r HR1r hb1r
      have HB1r : Hid (Below V.heap.size V w1r) := (HB1.out.alloc HB1.out.size _).trans hb1r.out
      clear HC hbs hb1r HR1 HB1
      go_upto_region 6 with fail
      have c2 := (HM0.out.to HB1r.out).cell (i := 135) (by omega)
      rw [show m.cell 135 = .bool m.fault from rfl] at c2
      cases hft : m.fault
      · rw [hft] at c2
        have HL : Hid (SRow w1r V.heap.size vr (wordsM m)) := by
          show SRow w1r V.heap.size vr (wordsM m)
          refine cast (congrArg (SRow w1r V.heap.size vr) ?_) HR1r.out
          rw [← HWA.out]
          simp [wordsM, endW, htz, hrn, ranT, hft]
        clear HR1r HWA
        go_wp2_with fail
        refine (HJ.out _ _ _ HL.out).mono ?_
        rintro e wz ⟨rfl, hbz⟩
        go_wp2
        go_ret
        exact ⟨rfl, HBV.out.trans ((HB1r.out.trans (hbz.mono HB1r.out.size)).mono HBV.out.size)⟩
      · rw [hft] at c2
        have HC := sone_cell w1r [102, 97, 117, 108, 116]
        have hbs : V.heap.size ≤ w1r.heap.size := HB1r.out.size
        go_wp2_with (refine wpList_sapp _ rfl _ _ rfl V.heap.size _ _ [[102, 97, 117, 108, 116]] rfl (HR1r.out.to ((Below.refl _ _).alloc (Nat.le_refl _) _)) w1r.heap.size 1 rfl HC (by simp; omega) (by simp; omega) ?_)
        intro vf w1rf HR1rf hb1rf
        have HB1rf : Hid (Below V.heap.size V w1rf) := (HB1r.out.alloc HB1r.out.size _).trans hb1rf.out
        clear HC hbs hb1rf HR1r HB1r
        have HL : Hid (SRow w1rf V.heap.size vf (wordsM m)) := by
          show SRow w1rf V.heap.size vf (wordsM m)
          refine cast (congrArg (SRow w1rf V.heap.size vf) ?_) HR1rf.out
          rw [← HWA.out]
          simp [wordsM, endW, htz, hrn, ranT, hft, faultT]
        clear HR1rf HWA
        go_wp2_with fail
        refine (HJ.out _ _ _ HL.out).mono ?_
        rintro e wz ⟨rfl, hbz⟩
        go_wp2
        go_ret
        exact ⟨rfl, HBV.out.trans ((HB1rf.out.trans (hbz.mono HB1rf.out.size)).mono HBV.out.size)⟩
  · have hz : ((m.time : Int) != 0) = true := by simp; omega
    have hz1 : ¬ (m.time : Int) = 0 := by omega
    have htp : 0 < m.time := by omega
    go_wp2_with fail
    refine (fmtU_any m.time (by omega) _ (HP0.out.to HB1.out)).mono ?_
    rintro e wb ⟨rfl, hbb⟩
    have HBb : Hid (Below V.heap.size V wb) := HB1.out.trans (hbb.mono HB1.out.size)
    have HRb : Hid (SRow wb V.heap.size v la) := HR1.out.to hbb
    clear hbb HB1 HR1
    have HC := sone_cell wb (timeT m)
    rw [show (⟨(timeT m).toArray⟩ : ByteArray) = ⟨#[116, 105, 109, 101, 61]⟩ ++ ⟨(Lib.itoa (m.time : Int)).toArray⟩ from (cat [116, 105, 109, 101, 61] _).symm] at HC
    have hbs : V.heap.size ≤ wb.heap.size := HBb.out.size
    go_wp2_with (refine wpList_sapp _ rfl _ _ rfl V.heap.size _ _ [timeT m] rfl (HRb.out.to ((Below.refl _ _).alloc (Nat.le_refl _) _)) wb.heap.size 1 rfl HC (by simp; omega) (by simp; omega) ?_)
    intro vt wt HRt hbt
    have HBt : Hid (Below V.heap.size V wt) := (HBb.out.alloc HBb.out.size _).trans hbt.out
    clear HC hbs hbt HRb HBb
    go_upto_region 4 with fail
    have c1 := (HM0.out.to HBt.out).cell (i := 134) (by omega)
    rw [show m.cell 134 = .bool m.ran from rfl] at c1
    cases hrn : m.ran
    · rw [hrn] at c1
      go_upto_region 6 with fail
      have c2 := (HM0.out.to HBt.out).cell (i := 135) (by omega)
      rw [show m.cell 135 = .bool m.fault from rfl] at c2
      cases hft : m.fault
      · rw [hft] at c2
        have HL : Hid (SRow wt V.heap.size vt (wordsM m)) := by
          show SRow wt V.heap.size vt (wordsM m)
          refine cast (congrArg (SRow wt V.heap.size vt) ?_) HRt.out
          rw [← HWA.out]
          simp [wordsM, endW, htp, hrn, hft]
        clear HRt HWA
        go_wp2_with fail
        refine (HJ.out _ _ _ HL.out).mono ?_
        rintro e wz ⟨rfl, hbz⟩
        go_wp2
        go_ret
        exact ⟨rfl, HBV.out.trans ((HBt.out.trans (hbz.mono HBt.out.size)).mono HBV.out.size)⟩
      · rw [hft] at c2
        have HC := sone_cell wt [102, 97, 117, 108, 116]
        have hbs : V.heap.size ≤ wt.heap.size := HBt.out.size
        go_wp2_with (refine wpList_sapp _ rfl _ _ rfl V.heap.size _ _ [[102, 97, 117, 108, 116]] rfl (HRt.out.to ((Below.refl _ _).alloc (Nat.le_refl _) _)) wt.heap.size 1 rfl HC (by simp; omega) (by simp; omega) ?_)
        intro vf wtf HRtf hbtf
        have HBtf : Hid (Below V.heap.size V wtf) := (HBt.out.alloc HBt.out.size _).trans hbtf.out
        clear HC hbs hbtf HRt HBt
        have HL : Hid (SRow wtf V.heap.size vf (wordsM m)) := by
          show SRow wtf V.heap.size vf (wordsM m)
          refine cast (congrArg (SRow wtf V.heap.size vf) ?_) HRtf.out
          rw [← HWA.out]
          simp [wordsM, endW, htp, hrn, hft, faultT]
        clear HRtf HWA
        go_wp2_with fail
        refine (HJ.out _ _ _ HL.out).mono ?_
        rintro e wz ⟨rfl, hbz⟩
        go_wp2
        go_ret
        exact ⟨rfl, HBV.out.trans ((HBtf.out.trans (hbz.mono HBtf.out.size)).mono HBV.out.size)⟩
    · rw [hrn] at c1
      have HC := sone_cell wt [114, 97, 110]
      have hbs : V.heap.size ≤ wt.heap.size := HBt.out.size
      go_wp2_with (refine wpList_sapp _ rfl _ _ rfl V.heap.size _ _ [[114, 97, 110]] rfl (HRt.out.to ((Below.refl _ _).alloc (Nat.le_refl _) _)) wt.heap.size 1 rfl HC (by simp; omega) (by simp; omega) ?_)
      intro vr wtr HRtr hbtr
      have HBtr : Hid (Below V.heap.size V wtr) := (HBt.out.alloc HBt.out.size _).trans hbtr.out
      clear HC hbs hbtr HRt HBt
      go_upto_region 6 with fail
      have c2 := (HM0.out.to HBtr.out).cell (i := 135) (by omega)
      rw [show m.cell 135 = .bool m.fault from rfl] at c2
      cases hft : m.fault
      · rw [hft] at c2
        have HL : Hid (SRow wtr V.heap.size vr (wordsM m)) := by
          show SRow wtr V.heap.size vr (wordsM m)
          refine cast (congrArg (SRow wtr V.heap.size vr) ?_) HRtr.out
          rw [← HWA.out]
          simp [wordsM, endW, htp, hrn, ranT, hft]
        clear HRtr HWA
        go_wp2_with fail
        refine (HJ.out _ _ _ HL.out).mono ?_
        rintro e wz ⟨rfl, hbz⟩
        go_wp2
        go_ret
        exact ⟨rfl, HBV.out.trans ((HBtr.out.trans (hbz.mono HBtr.out.size)).mono HBV.out.size)⟩
      · rw [hft] at c2
        have HC := sone_cell wtr [102, 97, 117, 108, 116]
        have hbs : V.heap.size ≤ wtr.heap.size := HBtr.out.size
        go_wp2_with (refine wpList_sapp _ rfl _ _ rfl V.heap.size _ _ [[102, 97, 117, 108, 116]] rfl (HRtr.out.to ((Below.refl _ _).alloc (Nat.le_refl _) _)) wtr.heap.size 1 rfl HC (by simp; omega) (by simp; omega) ?_)
        intro vf wtrf HRtrf hbtrf
        have HBtrf : Hid (Below V.heap.size V wtrf) := (HBtr.out.alloc HBtr.out.size _).trans hbtrf.out
        clear HC hbs hbtrf HRtr HBtr
        have HL : Hid (SRow wtrf V.heap.size vf (wordsM m)) := by
          show SRow wtrf V.heap.size vf (wordsM m)
          refine cast (congrArg (SRow wtrf V.heap.size vf) ?_) HRtrf.out
          rw [← HWA.out]
          simp [wordsM, endW, htp, hrn, ranT, hft, faultT]
        clear HRtrf HWA
        go_wp2_with fail
        refine (HJ.out _ _ _ HL.out).mono ?_
        rintro e wz ⟨rfl, hbz⟩
        go_wp2
        go_ret
        exact ⟨rfl, HBV.out.trans ((HBtrf.out.trans (hbz.mono HBtrf.out.size)).mono HBV.out.size)⟩
end Go.Proofs.YtjacgamgjjpllaaGreatDoor

/- The program's MemRead. Helper text: no statement is claimed here. -/
namespace Go.Proofs.YtjacgamgjjpllaaGreatDoor
open Go.ChangeShapes Go.WideShapes Go.ChangeAt Go.RowKit Fl

attribute [local go_sem] build_zeroX
theorem isplit_any (t : List UInt8) (W : World) (ht : t.length ≤ 6000) (hL : LTab W) :
    Calls Tryz.prog 18 #[.string ⟨t.toArray⟩, .string ⟨#[32]⟩] W fun e w' => ∃ g cap, e = .returned (.slice (some ⟨g, 0, none⟩) (Lib.split t [32]).length cap) ∧ (∀ j l, (Lib.split t [32])[j]? = some l → w'.cell? ⟨g, j, none⟩ = some (.string ⟨l.toArray⟩)) ∧ W.heap.size ≤ g ∧ Below W.heap.size W w' := by
  obtain ⟨m, hm⟩ := hL.max
  have hsz : (⟨t.toArray⟩ : ByteArray).size = t.length := ba_size t
  have hd : (⟨t.toArray⟩ : ByteArray).data.toList = t := by simp
  have hk : Lib.countB ⟨t.toArray⟩ ⟨#[32]⟩ = Lib.count t [32] := rfl
  have hmap := Lib.splitB_data ⟨#[32]⟩ 0 (Lib.countB ⟨t.toArray⟩ ⟨#[32]⟩) ⟨t.toArray⟩
  rw [hd] at hmap
  have hmap' : (Lib.splitB ⟨#[32]⟩ 0 (Lib.countB ⟨t.toArray⟩ ⟨#[32]⟩) ⟨t.toArray⟩).map (·.data.toList) = Lib.split t [32] := hmap
  have hlen := Lib.splitB_all ⟨#[32]⟩ (by decide) 0 (Lib.countB ⟨t.toArray⟩ ⟨#[32]⟩) ⟨t.toArray⟩ rfl
  have hlen' : (Lib.split t [32]).length = Lib.countB ⟨t.toArray⟩ ⟨#[32]⟩ + 1 := by rw [← hmap', List.length_map, hlen]
  refine (Any.strings_Split Tryz.lays146 (by kernel_rfl) ⟨t.toArray⟩ ⟨#[32]⟩ m W (by omega) hm (by decide)).mono ?_
  rintro e w' ⟨rfl, rfl⟩
  refine ⟨W.heap.size, _, by rw [hlen'], fun j l hj => ?_, Nat.le_refl _, (Below.refl _ _).alloc (Nat.le_refl _) _⟩
  rw [← hmap', List.getElem?_map] at hj
  obtain ⟨b, hb, rfl⟩ := Option.map_eq_some_iff.1 hj
  have : World.cell? (W.alloc (.cells ((Lib.splitB ⟨#[32]⟩ 0 (Lib.countB ⟨t.toArray⟩ ⟨#[32]⟩) ⟨t.toArray⟩).map Value.string).toArray 9)) ⟨W.heap.size, j, none⟩ = ((Lib.splitB ⟨#[32]⟩ 0 (Lib.countB ⟨t.toArray⟩ ⟨#[32]⟩) ⟨t.toArray⟩).map Value.string).toArray[j]? := cell_of_row _ _ _ _ _ _ (heap_alloc_last W _)
  refine this.trans ?_
  rw [List.getElem?_toArray, List.getElem?_map, hb]
  rfl
set_option maxHeartbeats 4000000 in
set_option maxRecDepth 20000 in
theorem iread_long (s : ByteArray) (w : World) (hs : (6000 : Int) < (s.size : Int)) :
    Calls Tryz.prog 7 #[.string s] w fun e w' => e = .returned (.tuple #[zeroM.val, .bool false]) ∧ Below w.heap.size w w' := by
  have hz : ∀ w, (zeroValue 37).run Tryz.prog w = .ok (.agg zeroM.cells) w := fun _ => by kernel_rfl
  have HR : Hid (MemAt (w.alloc (.cells zeroM.cells 37)) w.heap.size zeroM) := RowAt.new w 37 136 zeroM.cell
  have HB : Hid (Below w.heap.size w (w.alloc (.cells zeroM.cells 37))) := (Below.refl _ _).alloc (Nat.le_refl _) _
  go_enter Tryz.func7, Tryz.ntmps7
  go_wp2_with (refine wpList_rowStore rfl 37 (.tmp 2) (.tmp 10) rfl _ 0 136 zeroM.cell zeroM.cell rfl rfl HR.out (by omega) (fun i _ => cell_one zeroM i) (fun i hi => by rw [if_pos ⟨by omega, by omega⟩, Nat.sub_zero]) (by kernel_rfl) ?_; intro w2 HZ2 hz2 hk2 hb2)
  exact bodyPost_ret (v := .tuple #[zeroM.val, .bool false]) (resMemB Tryz.results7 rfl rfl HZ2) rfl ⟨rfl, hb2 _ _ HB.out (Nat.le_refl _)⟩
set_option maxHeartbeats 4000000 in
set_option maxRecDepth 20000 in
theorem iread_walk (s : ByteArray) (t : List UInt8) (ws : List (List UInt8)) (w : World) (hL : LTab w) (hT : Tabs w) (hst : s.toList = t) (hs : ¬ (6000 : Int) < (s.size : Int)) (hwl : ws.length ≤ 6001) (htl : t.length ≤ 6000)
    (h1 : ∀ W, LTab W → Calls Tryz.prog 18 #[.string s, .string ⟨#[32]⟩] W fun e w' => ∃ g cap, e = .returned (.slice (some ⟨g, 0, none⟩) ws.length cap) ∧ (∀ j l, ws[j]? = some l → w'.cell? ⟨g, j, none⟩ = some (.string ⟨l.toArray⟩)) ∧ W.heap.size ≤ g ∧ Below W.heap.size W w')
    (h2 : ∀ (m : Mm) (l : List UInt8), m.Ok → l ∈ ws → ∀ W, LTab W → Tabs W → Calls Tryz.prog 19 #[.agg m.cells, .string ⟨l.toArray⟩] W fun e w' => ∃ m' : Mm, e = .returned (.agg m'.cells) ∧ (m'.Ok ∧ Res m l m') ∧ Below W.heap.size W w')
    (h3 : ∀ m : Mm, m.Ok → ∀ W, Tabs W → Calls Tryz.prog 6 #[.agg m.cells] W fun e w' => e = .returned (.string ⟨(memT m).toArray⟩) ∧ Below W.heap.size W w') :
    Calls Tryz.prog 7 #[.string s] w (ReadM t ws w) := by
  have hz : ∀ w, (zeroValue 37).run Tryz.prog w = .ok (.agg zeroM.cells) w := fun _ => by kernel_rfl
  have H1 : Hid (∀ W, LTab W → Calls Tryz.prog 18 #[.string s, .string ⟨#[32]⟩] W fun e w' => ∃ g cap, e = .returned (.slice (some ⟨g, 0, none⟩) ws.length cap) ∧ (∀ j l, ws[j]? = some l → w'.cell? ⟨g, j, none⟩ = some (.string ⟨l.toArray⟩)) ∧ W.heap.size ≤ g ∧ Below W.heap.size W w') := h1
  have H2 : Hid (∀ (m : Mm) (l : List UInt8), m.Ok → l ∈ ws → ∀ W, LTab W → Tabs W → Calls Tryz.prog 19 #[.agg m.cells, .string ⟨l.toArray⟩] W fun e w' => ∃ m' : Mm, e = .returned (.agg m'.cells) ∧ (m'.Ok ∧ Res m l m') ∧ Below W.heap.size W w') := h2
  have H3 : Hid (∀ m : Mm, m.Ok → ∀ W, Tabs W → Calls Tryz.prog 6 #[.agg m.cells] W fun e w' => e = .returned (.string ⟨(memT m).toArray⟩) ∧ Below W.heap.size W w') := h3
  have HST : Hid (s.toList = t) := hst
  have HL : Hid (LTab w) := hL
  have HT : Hid (Tabs w) := hT
  clear h1 h2 h3 hst hL hT
  go_enter Tryz.func7, Tryz.ntmps7
  go_upto_region 4 with fail
  have hB0 : Below w.heap.size w ((w.alloc (.cells zeroM.cells 37)).alloc (.cells zeroM.cells 37)) := ((Below.refl _ _).alloc (Nat.le_refl _) _).alloc (by simp) _
  have hR0 : MemAt ((w.alloc (.cells zeroM.cells 37)).alloc (.cells zeroM.cells 37)) w.heap.size zeroM := (RowAt.new w 37 136 zeroM.cell).alloc _
  have hI0 : MemAt ((w.alloc (.cells zeroM.cells 37)).alloc (.cells zeroM.cells 37)) (w.heap.size + 1) zeroM := by
    have := RowAt.new (w.alloc (.cells zeroM.cells 37)) 37 136 zeroM.cell
    rw [show (w.alloc (.cells zeroM.cells 37)).heap.size = w.heap.size + 1 by simp] at this
    exact this
  generalize ((w.alloc (.cells zeroM.cells 37)).alloc (.cells zeroM.cells 37)) = V at *
  clear hz
  go_wp2_with fail
  refine (H1.out _ (HL.out.to hB0)).mono ?_
  rintro e w1 ⟨g, cap, rfl, hG, hgV, hb1⟩
  have hlt := hI0.lt
  have HD : Hid (Rdg w w.heap.size (w.heap.size + 1) g ws 0 zeroM w1) := ⟨zeroM_ok, rfl, hI0.to hb1, hR0.to hb1, hG, hB0.trans (hb1.mono hB0.size)⟩
  have hgn : w.heap.size + 1 < g := by omega
  clear hI0 hR0 hB0 hb1 hG hgV hlt H1
  go_wp2
  go_loopw [14] (fun d w' => ∃ (j : Nat) (m : Mm), j ≤ ws.length ∧ d = .int .i64 (j : Int) ∧ Hid (Rdg w w.heap.size (w.heap.size + 1) g ws j m w')) (fun d _ => ws.length - (intOf d).toNat)
  case atStart => exact ⟨0, zeroM, by omega, rfl, HD⟩
  case round =>
    obtain ⟨j, m, hj, rfl, HX⟩ := hrel
    rename_i wr
    by_cases hlt2 : j < ws.length
    · have hlt' : (j : Int) < (ws.length : Int) := by omega
      obtain ⟨l, hl⟩ : ∃ l, ws[j]? = some l := ⟨ws[j], List.getElem?_eq_getElem hlt2⟩
      have c0 : wr.cell? ⟨g, j, none⟩ = some (.string ⟨l.toArray⟩) := HX.out.2.2.2.2.1 j l hl
      have HI : Hid (MemAt wr (w.heap.size + 1) m) := HX.out.2.2.1
      have hok := HX.out.1
      go_wp2_with (refine wpList_rowLoad rfl 37 (.tmp 4) rfl _ 0 136 m.cell rfl HI.out (by omega) (fun i _ => by rw [Nat.zero_add]) Tryz.underlying37 rfl (by kernel_rfl) ?_)
      refine (H2.out m l hok (List.mem_of_getElem? hl) _ (HL.out.to HX.out.2.2.2.2.2) (HT.out.to HX.out.2.2.2.2.2)).mono ?_
      rintro e w3 ⟨m', rfl, hr3, hb3⟩
      have HI3 : Hid (MemAt w3 (w.heap.size + 1) m) := HI.out.to hb3
      have HS3 : Hid (∀ W', MemAt W' (w.heap.size + 1) m' → (∀ B x, Below B x w3 → B ≤ w.heap.size + 1 → Below B x W') → (∀ b, b ≠ w.heap.size + 1 → W'.heap[b]? = w3.heap[b]?) → Rdg w w.heap.size (w.heap.size + 1) g ws (j + 1) m' W') := fun W' hM hB hk =>
        HX.out.step hl hr3 hM (fun B x hx hB' => hB B x (hx.trans (hb3.mono (by have := HI.out.lt; omega))) hB') (fun b hb hne => (hk b hne).trans (hb3.block b hb)) (by omega) (by omega) (by omega)
      clear HX HI c0 hr3 hb3
      go_wp2_with (first
        | (refine wpList_rowStore rfl 37 (.tmp 4) (.tmp 20) rfl _ 0 136 m'.cell m'.cell rfl rfl HI3.out (by omega) (fun i _ => cell_one m' i) (fun i hi => by rw [if_pos ⟨by omega, by omega⟩, Nat.sub_zero]) (by kernel_rfl) ?_
           intro w4 HZ4 hz4 hk4 hb4
           have HX4 : Hid (Rdg w w.heap.size (w.heap.size + 1) g ws (j + 1) m' w4) := HS3.out w4 HZ4 hb4 hk4
           clear HS3 HZ4 hk4 hb4 hz4 HI3))
      exact ⟨⟨j + 1, m', by omega, by go_num, HX4⟩, by simp [intOf]; omega⟩
    · obtain rfl : j = ws.length := by omega
      have hok := HX.out.1
      have HI : Hid (MemAt wr (w.heap.size + 1) m) := HX.out.2.2.1
      have HR : Hid (MemAt wr w.heap.size zeroM) := HX.out.2.2.2.1
      have HB : Hid (Below w.heap.size w wr) := HX.out.2.2.2.2.2
      have HF : Hid (FoldW zeroM ws m) := by
        have h := HX.out.2.1
        rwa [List.take_length] at h
      clear HX
      go_wp2_with (refine wpList_rowLoad rfl 37 (.tmp 4) rfl _ 0 136 m.cell rfl HI.out (by omega) (fun i _ => by rw [Nat.zero_add]) Tryz.underlying37 rfl (by kernel_rfl) ?_)
      refine (H3.out m hok _ (HT.out.to HB.out)).mono ?_
      rintro e w4 ⟨rfl, hb4⟩
      have HI4 : Hid (MemAt w4 (w.heap.size + 1) m) := HI.out.to hb4
      have HR4 : Hid (MemAt w4 w.heap.size zeroM) := HR.out.to hb4
      have HB4 : Hid (Below w.heap.size w w4) := HB.out.trans (hb4.mono HB.out.size)
      clear HI HR HB hb4 H3
      have htm : (⟨(memT m).toArray⟩ : ByteArray).toList = memT m := ba_list _
      by_cases he : memT m = t
      · have e1 : ((⟨(memT m).toArray⟩ : ByteArray).toList == s.toList) = true := by rw [htm, HST.out, he]; simp
        have HE : Hid (memT m = t) := he
        clear htm he
        generalize (⟨(memT m).toArray⟩ : ByteArray) = tm at *
        go_wp2_with (first
          | refine wpList_rowLoad rfl 37 (.tmp 4) rfl _ 0 136 m.cell rfl HI4.out (by omega) (fun i _ => by rw [Nat.zero_add]) Tryz.underlying37 rfl (by kernel_rfl) ?_
          | (refine wpList_rowStore rfl 37 (.tmp 2) (.tmp 27) rfl _ 0 136 m.cell m.cell rfl rfl HR4.out (by omega) (fun i _ => cell_one m i) (fun i hi => by rw [if_pos ⟨by omega, by omega⟩, Nat.sub_zero]) (by kernel_rfl) ?_; intro w5 HZ5 hz5 hk5 hb5))
        exact bodyPost_ret (v := .tuple #[m.val, .bool true]) (resMemB Tryz.results7 rfl rfl HZ5) rfl ⟨m, true, rfl, hok, .inl ⟨rfl, htl, HE.out, HF.out⟩, hb5 _ _ HB4.out (Nat.le_refl _)⟩
      · have e1 : ((⟨(memT m).toArray⟩ : ByteArray).toList == s.toList) = false := by rw [htm, HST.out]; simpa using he
        have HE : Hid (memT m ≠ t) := he
        clear htm he
        generalize (⟨(memT m).toArray⟩ : ByteArray) = tm at *
        go_wp2_with (refine wpList_rowStore rfl 37 (.tmp 2) (.tmp 26) rfl _ 0 136 zeroM.cell zeroM.cell rfl rfl HR4.out (by omega) (fun i _ => cell_one zeroM i) (fun i hi => by rw [if_pos ⟨by omega, by omega⟩, Nat.sub_zero]) (by kernel_rfl) ?_; intro w5 HZ5 hz5 hk5 hb5)
        exact bodyPost_ret (v := .tuple #[zeroM.val, .bool false]) (resMemB Tryz.results7 rfl rfl HZ5) rfl ⟨zeroM, false, rfl, zeroM_ok, .inr ⟨rfl, rfl, .inr ⟨m, hok, HF.out, HE.out⟩⟩, hb5 _ _ HB4.out (Nat.le_refl _)⟩
theorem imread_any (t : List UInt8) (w : World) (ht : t.length ≤ 1500000) (hL : LTab w) (hT : Tabs w) : Calls Tryz.prog 7 #[.string ⟨t.toArray⟩] w (ReadM t (Lib.split t [32]) w) := by
  have hsz := ba_size t
  by_cases hl : t.length ≤ 6000
  · have hcl := cutL_len 32 t
    have hsc := split_cutL 32 _ t (Nat.le_refl _)
    refine iread_walk _ t _ w hL hT (ba_list t) (by omega) (by rw [hsc]; omega) hl (fun W hW => isplit_any t W hl hW) (fun m l hm hl' W hW hW' => ?_) (fun m hm W hW => itextM_any m hm W hW.dev hW.pow)
    have h1 := split_short t.length t 32 (Nat.le_refl _) l hl'
    exact (iwith_any m hm l W (by omega) hW hW').mono fun _ _ ⟨m', a, b, c, d⟩ => ⟨m', a, ⟨b, c⟩, d⟩
  · exact (iread_long _ w (by omega)).mono fun _ _ ⟨a, b⟩ => ⟨zeroM, false, a, zeroM_ok, .inr ⟨rfl, rfl, .inl (by omega)⟩, b⟩
end Go.Proofs.YtjacgamgjjpllaaGreatDoor

/- Two real numbers held against each other by the law's own sameFloat. Helper text: no statement is claimed here. -/
namespace Go.Proofs.YtjacgamgjjpllaaGreatDoor
open Go.ChangeShapes Go.WideShapes Go.ChangeAt Go.RowKit Fl

set_option maxHeartbeats 400000 in
theorem sameFloat_nan (x y : Nat) (w : World) (hx : nan x) (hy : nan y) :
    Calls Tryz.prog 66 #[.float .f64 x, .float .f64 y] w fun e w' => e = .returned (.bool true) ∧ w' = w := by
  have h1 := (asks_nan hx).n
  have h2 := (asks_nan hy).n
  clear hx hy
  go_enter Tryz.func66, Tryz.ntmps66
  go_wp2
  go_ret
  exact ⟨rfl, rfl⟩
set_option maxHeartbeats 400000 in
theorem sameFloat_zero (s : Bool) (w : World) :
    Calls Tryz.prog 66 #[.float .f64 (wd s 0 0), .float .f64 (wd s 0 0)] w fun e w' => e = .returned (.bool true) ∧ w' = w := by
  obtain ⟨h1, -, -, h2, -⟩ := asks_wd sc00 (by omega) s
  have h3 := run_some (one_by_zero s)
  have h2 : (ord (wd s 0 0) 0 == some .eq) = true := h2
  generalize wd s 0 0 = x at *
  go_enter Tryz.func66, Tryz.ntmps66
  go_wp2
  go_ret
  exact ⟨rfl, rfl⟩
set_option maxHeartbeats 400000 in
theorem sameFloat_other (x : Nat) (w : World) (h1 : (ord x x != some .eq) = false) (h2 : (ord x 0 == some .eq) = false) (h3 : (ord x x == some .eq) = true) :
    Calls Tryz.prog 66 #[.float .f64 x, .float .f64 x] w fun e w' => e = .returned (.bool true) ∧ w' = w := by
  go_enter Tryz.func66, Tryz.ntmps66
  go_wp2
  go_ret
  exact ⟨rfl, rfl⟩
theorem eq_self {x : Nat} (h : x < 2 ^ 64) (hn : ¬ nan x) : (ord x x == some .eq) = true := by
  simp only [ord, Go.FloatKind.format, order_self h hn]; rfl
theorem wd_zero {s : Bool} {m k : Nat} (h : Sc m k) (h0 : m = 0) : wd s m k = wd s 0 0 := by
  subst h0
  rcases h.hk with rfl | h
  · rfl
  · omega
theorem sameFloat_any (x y : Nat) (w : World) (h : SameV x y) (hx : x < 2 ^ 64) :
    Calls Tryz.prog 66 #[.float .f64 x, .float .f64 y] w fun e w' => e = .returned (.bool true) ∧ w' = w := by
  rcases h with rfl | ⟨h1, h2⟩
  · rcases cases_wd hx with ⟨s, m, k, hs, hk, rfl⟩ | ⟨s, rfl⟩ | hn
    · by_cases h0 : m = 0
      · rw [wd_zero hs h0]; exact sameFloat_zero s w
      · have a := asks_wd hs hk s
        exact sameFloat_other _ w a.n (by rw [a.z]; simp [h0]) (eq_self hx (not_nan_wd hs hk s))
    · have a := asks_wi s
      exact sameFloat_other _ w a.n a.z (eq_self hx (not_nan_wi s))
    · exact sameFloat_nan x x w hn hn
  · exact sameFloat_nan x y w h1 h2
end Go.Proofs.YtjacgamgjjpllaaGreatDoor
