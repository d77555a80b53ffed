/- The law FnTreeSame at the landed commit: whatever the bytes that draw two ladders and an operand: the ladders are the same both ways or neither, as the document says; if they are, they have one size, one fault, and use the operand as often; a ladder is itself; whatever the memory in which the type of errors reads as the program's own text lays it; it returns true and leaves its arguments as they were; the handle is tied to the program's text. Conditions: those that the given card bears, and no others. -/
import Derived.Test.YtjkpingdokkkcaaGreatDoorP27
import Derived.LaidMore
import Derived.LaidHandle
import Derived.LaidLaws
import Derived.Lay
import Derived.HandedShaped
import Derived.Shelf.Vars
import Derived.Stop.Joined
import Derived.OpenShut
import Derived.Test.YtjkpingdokkkcaaGreatDoorCards
import Derived.Test.YtjkpingdokkkcaaGreatDoorTie
import Derived.OpenVars
import Derived.SevenTiedAt
namespace Go.Proofs.YtjkpingdokkkcaaGreatDoor.fnTreeSame
open Go.ChangeShapes Go.WideShapes Go.ChangeAt Go.WideMaps Go.WideElems Go.RowKit

theorem own : ownKnob Tryz.prog.godebug = none := by kernel_rfl
theorem laidOut : laidOutB Tryz.prog = true := by kernel_rfl
theorem gErr : Tryz.prog.globalNamed (Rows.fnTreeSameRow.named.getD 0 "") = some 0 := by kernel_rfl
theorem oneRow : ((List.range Tryz.prog.types.size).filter fun t => Tryz.prog.rowNamed t [101, 114, 114, 111, 114]) = [61] := by kernel_rfl
theorem handleIs : typeHandle Tryz.prog 61 = .pointer (some ⟨2, 61, none⟩) := by kernel_rfl

/-- The listed variables that hold data. -/
def data : List (String × DataW Unit) := Rows.fnTreeSameRow.laid.filter fun x => x.2.handleName?.isNone
theorem parts_of {W : World} (h : laidMetH Tryz.prog Rows.fnTreeSameRow.laid W) : laidMet Tryz.prog data W ∧ handlesMet Tryz.prog [((Rows.fnTreeSameRow.named.getD 0 ""), Rows.laid_errors_errorType)] W := h

theorem errT_of {W : World} (h : laidMetH Tryz.prog Rows.fnTreeSameRow.laid W) : Tr.ErrT W := by
  have hx := (parts_of h).2 _ (List.mem_singleton.2 rfl)
  obtain ⟨name, u, ty, e1, e2, e3, e4, e5⟩ := hx
  have en : name = [101, 114, 114, 111, 114] := (Option.some.inj e1).symm
  subst en
  have hu : some u = some 116 := e2.symm.trans (by kernel_rfl)
  obtain rfl := Option.some.inj hu
  have hm : ty ∈ (List.range Tryz.prog.types.size).filter fun t => Tryz.prog.rowNamed t [101, 114, 114, 111, 114] := List.mem_filter.2 ⟨List.mem_range.2 e3, e4⟩
  rw [oneRow] at hm
  obtain rfl := List.mem_singleton.1 hm
  rw [handleIs] at e5
  unfold Tr.ErrT
  simpa using World.var?_cell gErr e5 0

/-- What the table of devices holds is of its type: so it is a table. -/
def rowTs : List TypeId := (List.replicate 14 [9, 3, 4, 4, 4]).flatten
def rowZs : Array Value := (List.replicate 14 [Value.string ⟨#[]⟩, .int .i64 0, .bool false, .bool false, .bool false]).flatten.toArray
theorem rowTypes : Tryz.prog.cellTypes Tryz.prog.depth 169 = some rowTs := by kernel_rfl
theorem rowZero : ((begin Tryz.prog (fun _ _ => 0) default).world.heap[1]?).bind Obj.row? = some (rowZs, 169) := by kernel_rfl
theorem rowTs_at : ∀ i, i < 14 → rowTs[i * 5]? = some 9 ∧ rowTs[i * 5 + 1]? = some 3 ∧ rowTs[i * 5 + 2]? = some 4 ∧ rowTs[i * 5 + 3]? = some 4 ∧ rowTs[i * 5 + 4]? = some 4 := by decide
def asS : Option Value → List UInt8
  | some (.string s) => s.data.toList
  | _ => []
def asI : Option Value → Int
  | some (.int _ z) => z
  | _ => 0
def asB : Option Value → Bool
  | some (.bool b) => b
  | _ => false
theorem cell_str {P : Program} {W : World} {t : TypeId} {v : Value} (hu : P.underlying t = some .string) (h : Cell.ok P W .any 0 t v) : some v = some (.string ⟨(asS (some v)).toArray⟩) := by
  unfold Cell.ok at h
  rw [hu] at h
  cases v <;> simp at h
  simp [asS]
theorem cell_num {P : Program} {W : World} {t : TypeId} {v : Value} (hu : P.underlying t = some (.int .i64)) (h : Cell.ok P W .any 0 t v) : some v = some (.int .i64 (asI (some v))) := by
  unfold Cell.ok at h
  rw [hu] at h
  cases v <;> simp at h
  simp [asI, h.1]
theorem cell_boo {P : Program} {W : World} {t : TypeId} {v : Value} (hu : P.underlying t = some .bool) (h : Cell.ok P W .any 0 t v) : some v = some (.bool (asB (some v))) := by
  unfold Cell.ok at h
  rw [hu] at h
  cases v <;> simp at h
  simp [asB]
theorem tab_rows {P : Program} {W : World} {g : Nat} {t1 t2 t3 : TypeId} {cs : Array Value} {ts : List TypeId} (u1 : P.underlying t1 = some .string) (u2 : P.underlying t2 = some (.int .i64)) (u3 : P.underlying t3 = some .bool) (hh : ∀ j, j < 70 → ∃ v, W.cell? ⟨g, j, none⟩ = some v ∧ cs[j]? = some v) (hall : ∀ i v, cs[i]? = some v → ∃ u, ts[i % ts.length]? = some u ∧ Cell.ok P W .any 0 u v) (hl : ts.length = 70) :
    (∀ j, j < 70 → ts[j]? = some t1 → W.cell? ⟨g, j, none⟩ = some (.string ⟨(asS cs[j]?).toArray⟩)) ∧ (∀ j, j < 70 → ts[j]? = some t2 → W.cell? ⟨g, j, none⟩ = some (.int .i64 (asI cs[j]?))) ∧ ∀ j, j < 70 → ts[j]? = some t3 → W.cell? ⟨g, j, none⟩ = some (.bool (asB cs[j]?)) := by
  have key : ∀ j, j < 70 → ∀ t, ts[j]? = some t → ∃ v, W.cell? ⟨g, j, none⟩ = some v ∧ cs[j]? = some v ∧ Cell.ok P W .any 0 t v := fun j hj t ht => by
    obtain ⟨v, h1, h2⟩ := hh j hj
    obtain ⟨u, h3, h4⟩ := hall j v h2
    rw [hl, Nat.mod_eq_of_lt hj, ht] at h3
    obtain rfl := Option.some.inj h3
    exact ⟨v, h1, h2, h4⟩
  refine ⟨fun j hj ht => ?_, fun j hj ht => ?_, fun j hj ht => ?_⟩ <;> obtain ⟨v, h1, h2, h3⟩ := key j hj _ ht <;> rw [h1, h2]
  · exact cell_str u1 h3
  · exact cell_num u2 h3
  · exact cell_boo u3 h3
theorem tab_of {W : World} (h : W.ShapedOpen Tryz.prog) : ∃ T, Tb.DevTab T W := by
  obtain ⟨cs, hh, hs, hr⟩ := h.1 1 rowZs 169 (of_decide_eq_true (by kernel_rfl)) rowZero
  obtain ⟨ts, hts, -, hall⟩ := hr (by kernel_rfl)
  have e : rowTs = ts := Option.some.inj (rowTypes.symm.trans hts)
  have hz : cs.size = 70 := hs.trans (by kernel_rfl)
  have hl : ts.length = 70 := by rw [← e]; kernel_rfl
  have hat : ∀ i, i < 14 → ts[i * 5]? = some 9 ∧ ts[i * 5 + 1]? = some 3 ∧ ts[i * 5 + 2]? = some 4 ∧ ts[i * 5 + 3]? = some 4 ∧ ts[i * 5 + 4]? = some 4 := by rw [← e]; exact rowTs_at
  clear e hs hts hr
  obtain ⟨q1, q2, q3⟩ := tab_rows (g := 1) (W := W) Tryz.underlying9 Tryz.underlying3 Tryz.underlying4 (fun j hj => ⟨cs[j]'(by omega), by simp [World.cell?, hh, show j < cs.size by omega], by simp [show j < cs.size by omega]⟩) hall hl
  exact ⟨⟨fun i => asS cs[i * 5]?, fun i => asI cs[i * 5 + 1]?, fun i => asB cs[i * 5 + 2]?, fun i => asB cs[i * 5 + 3]?, fun i => asB cs[i * 5 + 4]?⟩, fun i hi => by
    obtain ⟨t0, t1, t2, t3, t4⟩ := hat i hi
    exact ⟨q1 _ (by omega) t0, q2 _ (by omega) t1, q3 _ (by omega) t2, q3 _ (by omega) t3, q3 _ (by omega) t4⟩⟩

/-- The listed data, laid by a law into a world in which the type of errors lies already, meet the condition. -/
theorem met (os : Os) (args : Array Value) : laidMetH Tryz.prog Rows.fnTreeSameRow.laid ((((World.holding Tryz.prog os ⟨#[], #[], []⟩).setCell ⟨0, 0, none⟩ (.iface 116 (.agg #[.pointer (some ⟨2, 61, none⟩)]))).layVars Tryz.prog data).forCall (fun _ _ => 0) ⟨#[], args, []⟩).memory := by
  refine laidMetH_of_parts ?_ (by kernel_rfl)
  have e1 : (data.filter fun x => (data.map (·.1)).contains x.1) = data := List.filter_eq_self.2 fun x hx => List.contains_iff_mem.2 (List.mem_map.2 ⟨x, hx, rfl⟩)
  have e2 : (data.filter fun x => !(data.map (·.1)).contains x.1) = [] := List.filter_eq_nil_iff.2 fun x hx => by rw [List.contains_iff_mem.2 (List.mem_map.2 ⟨x, hx, rfl⟩)]; simp
  have h : laidMet Tryz.prog data (((World.holding Tryz.prog os ⟨#[], #[], []⟩).setCell ⟨0, 0, none⟩ (.iface 116 (.agg #[.pointer (some ⟨2, 61, none⟩)]))).layVars Tryz.prog data) := laidMet_layVars (w0 := (World.holding Tryz.prog os ⟨#[], #[], []⟩).setCell ⟨0, 0, none⟩ (.iface 116 (.agg #[.pointer (some ⟨2, 61, none⟩)]))) (data.map (·.1)) [] (by rw [e1]) (by rw [e1]; kernel_rfl) (by rw [e1]; kernel_rfl) (by rw [e2]; exact LaidIn.none)
  exact h.of_heap (by simp [World.memory, World.forCall, Input.heap])

/-- The plain wrap, with a condition on the world and the world's shape kept. -/
theorem and_shaped {H : Type} {enc : TypeId × Value → H} {a : Assume} {C : Checked} {os : Os} {f : FuncId} {fn : Func} {s : ChangeSpec} {conds : List PathCond} {apart fresh handsOn again : Bool} {X : World → Array Value → Prop}
    (hX : ∀ (w w' : World) (args : Array Value), w.heap = w'.heap → X w args → X w' args)
    (own : ownKnob C.prog.godebug = none) (started : os.Started) (noInit : C.prog.inits.idxOf? f = none) (hfn : C.prog.funcs[f]? = some fn)
    (witness : ∃ (w : World) (tape : Tape) (i : Input), w.os = os ∧ (w.forCall tape i).Shaped C.prog ∧ i.vars = [] ∧ Input.okWide C.prog (w.forCall tape i) .any w.heap.size f i ∧
      ((s.pre enc C.prog fn conds apart (w.forCall tape i).memory i.args ∧ X (w.forCall tape i).memory i.args) ∧ sizedMet enc C.prog fn (OpenSpec.ofChange s) apart (w.forCall tape i).memory i.args) ∧ a.holds C.prog (lone (Frame.enter C.prog f i.args .normal) [] (w.forCall tape i)))
    (contract : ∀ (W : World) (base : Nat) (args : Array Value) (ds gs : List (DataW H)) (before : List MemPlace),
      (∀ (j : Nat) t v, fn.params[j]? = some t → args[j]? = some v → Value.okWide C.prog W .any base t v) →
      DataW.Whole enc C.prog fn.params.toList s.vars apart W args.toList ds gs before →
      W.ShapedOpen C.prog → X W args →
      Calls C.prog f args W fun e W' => ∃ v, e = .returned v ∧ s.post enc C.prog fn apart fresh handsOn again W args v W') :
    ReturnsInHanded a C os f .any (fun w args => (s.pre enc C.prog fn conds apart w args ∧ X w args) ∧ sizedMet enc C.prog fn (OpenSpec.ofChange s) apart w args) (s.post enc C.prog fn apart fresh handsOn again) := by
  refine returnsInHanded_of_calls own started noInit witness ?_
  intro w tape i _ hsh _ hok hpre _
  obtain ⟨_, _, _, fn', hfn', _, _, _, _, hval⟩ := hok
  have e : fn' = fn := Option.some.inj (hfn'.symm.trans hfn)
  subst e
  obtain ⟨⟨⟨ds, gs, before, hw, _⟩, hx⟩, _⟩ := hpre
  have hw' := DataW.Whole.of_heap (w' := w.forCall tape i) (by rfl) hw
  refine (contract (w.forCall tape i) w.heap.size i.args ds gs before hval hw' hsh (hX _ _ _ (by rfl) hx)).mono fun e W' ⟨v, he, hp⟩ => ?_
  subst he
  exact ChangeSpec.post_blind hp

theorem row_of {H : Type} {enc : TypeId × Value → H} {W : World} {a0 : Option Addr} {len0 cap0 : Nat} {d0 : DataW H} {p0 : List MemPlace}
    (h0 : DataW.Trod enc Tryz.prog W 0 (fun _ => true) true 22 (.slice a0 len0 cap0) d0 p0) : IsRow W a0 len0 ∧ len0 ≤ cap0 := by
  obtain ⟨fuel, hf⟩ := h0
  rcases open_ints Tryz.underlying22 Tryz.underlying5 (by kernel_rfl) hf with ⟨hcs, _⟩ | ⟨x, l, c, zs, hcs, _, hl, hm, hz, _, hcell, hwz⟩
  · simp [Value.cells] at hcs
    obtain ⟨rfl, rfl, rfl⟩ := hcs
    exact ⟨.inl rfl, Nat.le_refl _⟩
  · simp [Value.cells] at hcs
    obtain ⟨rfl, rfl, rfl⟩ := hcs
    refine ⟨?_, hl⟩
    by_cases hl0 : len0 = 0
    · exact .inl hl0
    · have hz' : zs.length = cap0 := by first | exact hz | simpa using hz
      obtain ⟨b, off, rfl, hc⟩ := ints_at hcell (show 0 < zs.length by omega)
      refine .inr ⟨b, off, fun i => zs.getD i 0, rfl, fun i hi => ?_⟩
      have hb := bounds_u8 (hwz (zs.getD i 0) (by simp [show i < zs.length by omega]))
      exact ⟨(hc i (by omega)).trans (by simp), hb.1, hb.2⟩

set_option maxRecDepth 100000 in
theorem lifted (os : Os) (started : os.Started) (H : Type) (enc : TypeId × Value → H) :
    ReturnsInHanded {} Tryz.checked os 3 .any (fun w args => (Rows.fnTreeSameSpec.pre enc Tryz.prog Tryz.f3 [] false w args ∧ laidMetH Tryz.prog Rows.fnTreeSameRow.laid w) ∧ sizedMet enc Tryz.prog Tryz.f3 (OpenSpec.ofChange Rows.fnTreeSameSpec) false w args)
      (Rows.fnTreeSameSpec.post enc Tryz.prog Tryz.f3 false true false false) := by
  refine and_shaped (C := Tryz.checked) (X := fun w _ => laidMetH Tryz.prog Rows.fnTreeSameRow.laid w) (fun _ _ _ hh h => h.of_heap hh) own started (by kernel_rfl) Tryz.func3
    (ChangeSpec.witness_shaped (enc := enc) (C := Tryz.checked) (os := os) (X := fun w _ => laidMetH Tryz.prog Rows.fnTreeSameRow.laid w) false (((World.holding Tryz.prog os ⟨#[], #[], []⟩).setCell ⟨0, 0, none⟩ (.iface 116 (.agg #[.pointer (some ⟨2, 61, none⟩)]))).layVars Tryz.prog data) #[.slice none 0 0, .slice none 0 0] 8 (World.layVars_os _ _ _) (World.shaped_of_ZipB (by kernel_rfl) (by kernel_rfl)) (by kernel_rfl) (by kernel_rfl) (by kernel_rfl) (met os _)) ?_
  intro W base args ds gs before hval0 hW hsh hL
  have hval : ∀ (j : Nat) t v, Tryz.f3.params[j]? = some t → args[j]? = some v → Value.okWide Tryz.prog W .any base t v := hval0
  have hW' := hW
  obtain ⟨p, q, hA0, hV, rfl, hfz, hnd⟩ := hW
  have hA : DataW.TrodAll enc Tryz.prog W 0 (fun _ => true) true Tryz.f3.params.toList args.toList ds p := hA0
  rw [Tryz.params3] at hA hval
  obtain ⟨v0, vs0, d0, ds0, p0, q0, hargs, rfl, rfl, h0, r0⟩ := trodAll_cons hA
  obtain ⟨v1, vs1, d1, ds1, p1, q1, rfl, rfl, rfl, h1, r1⟩ := trodAll_cons r0
  obtain ⟨rfl, rfl, rfl⟩ := trodAll_nil r1
  obtain rfl : args = #[v0, v1] := by cases args; simp_all
  obtain ⟨a0, len0, cap0, rfl⟩ := okWide_slice Tryz.underlying22 (hval 0 22 v0 rfl rfl)
  obtain ⟨a1, len1, cap1, rfl⟩ := okWide_slice Tryz.underlying22 (hval 1 22 v1 rfl rfl)
  have lt0 : ∀ x ∈ p0, x.block < W.heap.size := by obtain ⟨m, hm⟩ := h0; exact DataW.trod_lt m _ _ _ hm
  have lt1 : ∀ x ∈ p1, x.block < W.heap.size := by obtain ⟨m, hm⟩ := h1; exact DataW.trod_lt m _ _ _ hm
  obtain ⟨w0, c0⟩ := row_of h0
  obtain ⟨w1, c1⟩ := row_of h1
  clear hA0 hval0
  obtain ⟨T, hT⟩ := tab_of hsh
  refine (Tr.tree_walk T W hT (errT_of hL) a0 a1 len0 len1 cap0 cap1 w0 c0 w1 c1).mono fun e W' ⟨he, bel⟩ => ?_
  subst he
  obtain rfl : gs = [] := by
    match gs, hV with
    | [], _ => rfl
  exact ⟨_, rfl, _, _, _, [], _, q, hW', trodAll_mk1 (shut_bool Tryz.underlying4 _), (trodAll_cons_mk (Below.trod laidOut (by kernel_rfl) (of_decide_eq_true (by kernel_rfl)) h0 bel lt0) (trodAll_cons_mk (Below.trod laidOut (by kernel_rfl) (of_decide_eq_true (by kernel_rfl)) h1 bel lt1) trodAll_mk0)), Below.trodVars laidOut bel (by kernel_rfl) hV, bel.frame _, fun h => by cases h⟩

theorem row_holds : Rows.FnTreeSameSaid :=
  OpenClaim.holds_of_wide 3 Tryz.f3 rfl rfl rfl rfl rfl rfl rfl ⟨rfl, rfl, rfl, rfl, rfl⟩ rfl rfl rfl rfl rfl (by kernel_rfl) Tryz.func3 (by kernel_rfl)
    (of_decide_eq_true (by kernel_rfl)) (by unfold Func.isWrapper; first | (rw [if_pos (by decide +kernel)]; kernel_rfl) | (rw [if_neg (by decide +kernel)]; exact ⟨rfl, rfl⟩))
    (fun os started H enc _ => lifted os started H enc)

end Go.Proofs.YtjkpingdokkkcaaGreatDoor.fnTreeSame
namespace Go.Proofs.YtjkpingdokkkcaaGreatDoor
open Go
theorem fnTreeSame_holds : Rows.FnTreeSameCardSaid :=
  Claim7.holds_tied_plain_at .later [] [.handle] true Rows.fnTreeSameCard.stood.harness Rows.fnTreeSameCard.stood.looks
    fnTreeSame.row_holds (fun _ h => by cases h) (by kernel_rfl) (fun _ h => by cases h) fnTreeSame_row_tie rfl ⟨rfl, rfl⟩ (by kernel_rfl) rfl
    (fun f fn hf hfn => by
      obtain rfl : f = 3 := Option.some.inj ((show Tryz.prog.funcNamed Rows.fnTreeSameRow.func = some 3 by kernel_rfl).symm.trans hf) |>.symm
      obtain rfl : fn = Tryz.f3 := (Option.some.inj (Tryz.func3.symm.trans hfn)).symm
      exact ⟨by kernel_rfl, fun j t ht => by
        rw [Tryz.params3] at ht
        have hm : t ∈ [22, 22] := by simpa using Array.mem_of_getElem? ht
        have hall : ([22, 22].all fun u => !Tryz.prog.wantsStandIn u) = true := by kernel_rfl
        exact (show Tryz.prog.wantsStandIn t = false by simpa using List.all_eq_true.1 hall t hm)⟩)
    (by kernel_rfl)
#print axioms fnTreeSame_holds
end Go.Proofs.YtjkpingdokkkcaaGreatDoor
