/- The copying of operands and contacts in the exact laws. Helper text: no statement is claimed here. -/
import Derived.Test.YtkkkjhlbkmcjiaaQh
namespace Go.Proofs.Ytkkkjhlbkmcjiaa.Tr
open Go.ChangeShapes Go.WideShapes Go.ChangeAt Go.RowKit

theorem stabA : Stab 3 (fun w B o (t : Ar) => ArE w B o t) := fun w1 w2 B o t _ hc _ hE =>
  ⟨(hc 0 (by omega)).trans hE.1, (hc 1 (by omega)).trans hE.2.1, (hc 2 (by omega)).trans hE.2.2⟩
theorem stabE : Stab 2 (fun w B o (t : El) => ElE (fun b => B < b ∧ b < w.heap.size) w B o t) := fun w1 w2 B o t hs hc hb hE => by
  obtain ⟨pa, ca, h0, h1, h2⟩ := hE
  exact ⟨pa, ca, (hc 0 (by omega)).trans h0, (hc 1 (by omega)).trans h1, args_to (fun b hB => hb b hB.1 hB.2) (fun b hB => ⟨hB.1, by omega⟩) h2⟩

set_option maxHeartbeats 400000 in
theorem toDevArg_any (k n p : Int) (w : World) :
    Calls Try.prog 14 #[.agg #[.int .i64 k, .int .i64 n, .int .i64 p]] w fun e w' => ∃ v', e = .returned v' ∧ Below w.heap.size w w' ∧ v' = .agg #[.int .i64 k, .int .i64 n, .int .i64 p] := by
  go_enter Try.func14, Try.ntmps14
  go_wp2
  exact bodyPost_ret (v := .agg #[.int .i64 k, .int .i64 n, .int .i64 p]) (resArg3 (b := w.heap.size + 1) Try.results14 rfl (OwnL.of_row (T := 33) (by have h := heap_alloc2_old (w.alloc (.cells #[.int .i64 k, .int .i64 n, .int .i64 p] 31)) (.cells #[.int .i64 k, .int .i64 n, .int .i64 p] 33) (.cells #[.int .i64 k, .int .i64 n, .int .i64 p] 33); rw [World.size_alloc] at h; exact h))) rfl ⟨_, rfl, ((one _ _).alloc (by simp) _).alloc (by simp; omega) _, rfl⟩
set_option maxHeartbeats 1000000 in
theorem toArgs_any {S : Nat → Prop} {w : World} (hSw : ∀ b, S b → b < w.heap.size) (p : Option Addr) (cap : Nat) (es : List (Ar)) (hV : SlOf S (ArE w) 3 p cap es) (hbd : List.length es ≤ 1048576) :
    Calls Try.prog 57 #[.slice p es.length cap] w fun r w' => ∃ p', r = .returned (.slice p' es.length es.length) ∧ Below w.heap.size w w' ∧ SlOf (New w w') (ArE w') 3 p' es.length es := by
  have HV : Hid (SlOf S (ArE w) 3 p cap es) := hV
  have HSw : Hid (∀ b, S b → b < w.heap.size) := hSw
  obtain ⟨⟨hl1, hl2⟩, -⟩ := hV
  have hln : es.length ≤ 1048576 := hbd
  obtain ⟨M, hM, hmk⟩ := make_any (T := 47) (E := 33) Try.underlying47 iArg (by omega) (by omega) es.length (by omega) w
  have HF : Hid (Fill (w.alloc (.cells M 33)) w.heap.size 33 3 (fun w B o (t : Ar) => ArE w B o t) es 0) := Fill.new w M _ _ _ _ hM
  have HB : Hid (Below w.heap.size w (w.alloc (.cells M 33))) := one w _
  have HZ : Hid (List.length es ≤ 1048576) := hbd
  clear hSw hM hbd
  go_enter Try.func57, Try.ntmps57
  go_wp2
  generalize w.alloc (.cells M 33) = V at *
  clear hmk
  go_loopw [4] (fun c w' => ∃ j : Nat, j ≤ es.length ∧ c = .int .i64 (j : Int) ∧ Hid (Below w.heap.size w w') ∧ Hid (Fill w' w.heap.size 33 3 (fun w B o (t : Ar) => ArE w B o t) es j)) (fun c _ => es.length - (intOf c).toNat)
  case atStart => exact ⟨0, by omega, rfl, HB, HF⟩
  case round =>
    obtain ⟨j, hj, rfl, HBr, HFr⟩ := hrel
    rename_i wr
    clear HB HF
    by_cases hlt : j < es.length
    · have hlt' : (j : Int) < (es.length : Int) := by omega
      obtain ⟨t, ht⟩ := get_lt hlt
      obtain ⟨b, off, rfl, hb, c0, c1, c2⟩ := (args_to (Keep.of HBr.out HSw.out) (fun _ h => h) HV.out).get ht
      have hbl : b < wr.heap.size := World.block_lt_of_cell? _ _ c0
      obtain ⟨kk, nn, pp⟩ := t
      have HC : Hid (Calls Try.prog 14 #[.agg #[.int .i64 kk, .int .i64 nn, .int .i64 pp]] wr fun r w' => ∃ v', r = .returned v' ∧ Below wr.heap.size wr w' ∧ v' = .agg #[.int .i64 kk, .int .i64 nn, .int .i64 pp]) := toDevArg_any kk nn pp wr
      go_wp2_with fail
      refine HC.out.mono ?_
      rintro e w1 ⟨v', rfl, hb1, hV'⟩
      subst hV'
      have HF1 : Hid (Fill w1 w.heap.size 33 3 (fun w B o (t : Ar) => ArE w B o t) es j) := Fill.to stabA HFr.out hb1
      have HB1 : Hid (Below w.heap.size w w1) := HBr.out.trans (hb1.mono HBr.out.size)
      have HP : Hid (Fill (setAll w1 w.heap.size (j * 3) [.int .i64 kk, .int .i64 nn, .int .i64 pp]) w.heap.size 33 3 (fun w B o (t : Ar) => ArE w B o t) es (j + 1)) := Fill.put stabA HF1.out ht _ rfl fun w2 h2s h2b h2c => by
        exact ⟨h2c 0 _ rfl, h2c 1 _ rfl, h2c 2 _ rfl⟩
      have HQ : Hid (Below w.heap.size w (setAll w1 w.heap.size (j * 3) [.int .i64 kk, .int .i64 nn, .int .i64 pp])) := setAll_below _ _ HB1.out (Nat.le_refl _)
      obtain ⟨v0, k0, f0⟩ := HF1.out.cell (k := j * 3) (by omega)
      obtain ⟨v1, k1, f1⟩ := HF1.out.cell (k := j * 3 + 1) (by omega)
      obtain ⟨v2, k2, f2⟩ := HF1.out.cell (k := j * 3 + 2) (by omega)
      clear hb1
      go_wp2
      exact ⟨⟨j + 1, by omega, by go_num, HQ, HP⟩, by simp [intOf]; omega⟩
    · obtain rfl : j = es.length := by omega
      go_wp2
      go_ret
      exact ⟨some ⟨w.heap.size, 0, none⟩, rfl, HBr.out, Fill.all HFr.out hl2 ⟨Nat.le_refl _, HFr.out.lt⟩ (fun o t _ h => h)⟩

set_option maxHeartbeats 1000000 in
theorem toElem_any {S : Nat → Prop} {w : World} (hSw : ∀ b, S b → b < w.heap.size) (v : Value) (e : El) (hV : ElV S w v e) (hbd : zEl e ≤ 1048576) :
    Calls Try.prog 49 #[v] w fun r w' => ∃ v', r = .returned v' ∧ Below w.heap.size w w' ∧ ElV (New w w') w' v' e := by
  obtain ⟨pa, ca, rfl, hA⟩ := hV
  have HC : Hid (∀ W, Below w.heap.size w W → Calls Try.prog 57 #[.slice pa e.2.length ca] W fun r w' => ∃ p', r = .returned (.slice p' e.2.length e.2.length) ∧ Below W.heap.size W w' ∧ SlOf (New W w') (ArE w') 3 p' e.2.length e.2) :=
    fun W hW => toArgs_any (S := S) (fun b hb => Nat.lt_of_lt_of_le (hSw b hb) hW.size) pa ca e.2 (args_to (Keep.of hW hSw) (fun _ h => h) hA) hbd
  have HD : Hid (∀ W W' p', w.heap.size ≤ W.heap.size → SlOf (New W W') (ArE W') 3 p' e.2.length e.2 → ∀ W2, W'.heap.size ≤ W2.heap.size → Keep (New W W') W' W2 → ElV (New w W2) W2 (.agg #[.int .i64 e.1, .slice p' e.2.length e.2.length]) e) :=
    fun W W' p' h1 h2 W2 h3 h4 => ⟨p', _, rfl, args_to h4 (New.wider h1 h3) h2⟩
  clear hSw hA hbd
  generalize e.2.length = la at *
  generalize e.1 = op at *
  go_enter Try.func49, Try.ntmps49
  go_wp2_with fail
  have HBa : Hid (Below w.heap.size w (((w.alloc (.cells #[.int .i64 op, .slice pa la ca] 39)).alloc (.cells #[.int .i64 0, .slice none 0 0] 49)).alloc (.cells #[.int .i64 op, .slice none 0 0] 49))) := ((one _ _).alloc (by simp) _).alloc (by simp; omega) _
  have HS : Hid ((((w.alloc (.cells #[.int .i64 op, .slice pa la ca] 39)).alloc (.cells #[.int .i64 0, .slice none 0 0] 49)).alloc (.cells #[.int .i64 op, .slice none 0 0] 49)).heap.size = w.heap.size + 3) := by
    show _ = _
    simp
  have r0 := heap_alloc2_old (w.alloc (.cells #[.int .i64 op, .slice pa la ca] 39)) (.cells #[.int .i64 0, .slice none 0 0] 49) (.cells #[.int .i64 op, .slice none 0 0] 49)
  have o0 := heap_alloc2_new (w.alloc (.cells #[.int .i64 op, .slice pa la ca] 39)) (.cells #[.int .i64 0, .slice none 0 0] 49) (.cells #[.int .i64 op, .slice none 0 0] 49)
  rw [World.size_alloc] at r0 o0
  generalize ((w.alloc (.cells #[.int .i64 op, .slice pa la ca] 39)).alloc (.cells #[.int .i64 0, .slice none 0 0] 49)).alloc (.cells #[.int .i64 op, .slice none 0 0] 49) = V at *
  have HR : Hid (OwnL V (w.heap.size + 1) [.int .i64 0, .slice none 0 0]) := OwnL.of_row r0
  have HO : Hid (OwnL V (w.heap.size + 1 + 1) [.int .i64 op, .slice none 0 0]) := OwnL.of_row o0
  clear r0 o0
  refine (HC.out V HBa.out).mono ?_
  rintro r w1 ⟨p', rfl, hb1, hF⟩
  have HF : Hid (SlOf (New V w1) (ArE w1) 3 p' la e.2) := hF
  have HB1 : Hid (Below w.heap.size w w1) := HBa.out.trans (hb1.mono HBa.out.size)
  have HR1 : Hid (OwnL w1 (w.heap.size + 1) [.int .i64 0, .slice none 0 0]) := HR.out.below hb1
  have HO1 : Hid (OwnL w1 (w.heap.size + 1 + 1) [.int .i64 op, .slice none 0 0]) := HO.out.below hb1
  obtain ⟨c0, f0⟩ := HR1.out 0 _ rfl
  obtain ⟨c1, f1⟩ := HR1.out 1 _ rfl
  obtain ⟨c2, -⟩ := HO1.out 0 _ rfl
  obtain ⟨c3, f3⟩ := HO1.out 1 _ rfl
  have HV1 : Hid (V.heap.size ≤ w1.heap.size) := hb1.size
  clear hb1 hF HC HR HO
  go_wp2
  refine bodyPost_ret (v := .agg #[.int .i64 op, .slice p' la la]) (resElem2 (b := w.heap.size + 1) Try.results49 rfl (((HR1.out.set (by omega)).put 0 _).put 1 _)) rfl ⟨_, rfl, ?_, ?_⟩
  · exact ((HB1.out.setCell (p := ⟨_, _, none⟩) (by show w.heap.size ≤ w.heap.size + 1 + 1; omega) _).setCell (p := ⟨_, _, none⟩) (by show w.heap.size ≤ w.heap.size + 1; omega) _).setCell (p := ⟨_, _, none⟩) (by show w.heap.size ≤ w.heap.size + 1; omega) _
  · refine HD.out V w1 p' HBa.out.size HF.out _ (by simp) fun b hb => ?_
    have h3 : w.heap.size + 3 ≤ b := HS.out ▸ hb.1
    rw [Below.heap_setCell _ _ _ _ (by show b ≠ w.heap.size + 1; omega), Below.heap_setCell _ _ _ _ (by show b ≠ w.heap.size + 1; omega), Below.heap_setCell _ _ _ _ (by show b ≠ w.heap.size + 1 + 1; omega)]
set_option maxHeartbeats 1000000 in
theorem toElems_any {S : Nat → Prop} {w : World} (hSw : ∀ b, S b → b < w.heap.size) (p : Option Addr) (cap : Nat) (es : List (El)) (hV : SlOf S (ElE S w) 2 p cap es) (hbd : zEls es ≤ 1048576) :
    Calls Try.prog 34 #[.slice p es.length cap] w fun r w' => ∃ p', r = .returned (.slice p' es.length es.length) ∧ Below w.heap.size w w' ∧ SlOf (New w w') (ElE (New w w') w') 2 p' es.length es := by
  have HV : Hid (SlOf S (ElE S w) 2 p cap es) := hV
  have HSw : Hid (∀ b, S b → b < w.heap.size) := hSw
  obtain ⟨⟨hl1, hl2⟩, -⟩ := hV
  have hln : es.length ≤ 1048576 := Nat.le_trans (by unfold zEls; omega) hbd
  obtain ⟨M, hM, hmk⟩ := make_any (T := 53) (E := 49) Try.underlying53 iElem (by omega) (by omega) es.length (by omega) w
  have HF : Hid (Fill (w.alloc (.cells M 49)) w.heap.size 49 2 (fun w B o (t : El) => ElE (fun b => B < b ∧ b < w.heap.size) w B o t) es 0) := Fill.new w M _ _ _ _ hM
  have HB : Hid (Below w.heap.size w (w.alloc (.cells M 49))) := one w _
  have HZ : Hid (zEls es ≤ 1048576) := hbd
  clear hSw hM hbd
  go_enter Try.func34, Try.ntmps34
  go_wp2
  generalize w.alloc (.cells M 49) = V at *
  clear hmk
  go_loopw [4] (fun c w' => ∃ j : Nat, j ≤ es.length ∧ c = .int .i64 (j : Int) ∧ Hid (Below w.heap.size w w') ∧ Hid (Fill w' w.heap.size 49 2 (fun w B o (t : El) => ElE (fun b => B < b ∧ b < w.heap.size) w B o t) es j)) (fun c _ => es.length - (intOf c).toNat)
  case atStart => exact ⟨0, by omega, rfl, HB, HF⟩
  case round =>
    obtain ⟨j, hj, rfl, HBr, HFr⟩ := hrel
    rename_i wr
    clear HB HF
    by_cases hlt : j < es.length
    · have hlt' : (j : Int) < (es.length : Int) := by omega
      obtain ⟨t, ht⟩ := get_lt hlt
      obtain ⟨b, off, rfl, hb, pa, ca, c0, c1, hA⟩ := (els_to (Keep.of HBr.out HSw.out) (fun _ h => h) HV.out).get ht
      have hbl : b < wr.heap.size := World.block_lt_of_cell? _ _ c0
      have HE : Hid (ElV S wr (.agg #[.int .i64 t.1, .slice pa t.2.length ca]) t) := ⟨pa, ca, rfl, hA⟩
      clear hA
      have HC : Hid (Calls Try.prog 49 #[.agg #[.int .i64 t.1, .slice pa t.2.length ca]] wr fun r w' => ∃ v', r = .returned v' ∧ Below wr.heap.size wr w' ∧ ElV (New wr w') w' v' t) := toElem_any (S := S) (fun b hb => Nat.lt_of_lt_of_le (HSw.out b hb) HBr.out.size) _ t HE.out (by have := tot_get zEl ht; have := HZ.out; unfold zEls at this; omega)
      go_wp2_with fail
      refine HC.out.mono ?_
      rintro e w1 ⟨v', rfl, hb1, hV'⟩
      obtain ⟨pa', ca', rfl, hA'⟩ := hV'
      have HF1 : Hid (Fill w1 w.heap.size 49 2 (fun w B o (t : El) => ElE (fun b => B < b ∧ b < w.heap.size) w B o t) es j) := Fill.to stabE HFr.out hb1
      have HB1 : Hid (Below w.heap.size w w1) := HBr.out.trans (hb1.mono HBr.out.size)
      have HP : Hid (Fill (setAll w1 w.heap.size (j * 2) [.int .i64 t.1, .slice pa' t.2.length ca']) w.heap.size 49 2 (fun w B o (t : El) => ElE (fun b => B < b ∧ b < w.heap.size) w B o t) es (j + 1)) := Fill.put stabE HF1.out ht _ rfl fun w2 h2s h2b h2c => by
        have hB : w.heap.size < wr.heap.size := HFr.out.lt
        exact ⟨pa', ca', h2c 0 _ rfl, h2c 1 _ rfl, args_to (fun b hb => h2b b (by have := hb.1; omega)) (fun b hb => ⟨by have := hb.1; omega, by have := hb.2; omega⟩) hA'⟩
      have HQ : Hid (Below w.heap.size w (setAll w1 w.heap.size (j * 2) [.int .i64 t.1, .slice pa' t.2.length ca'])) := setAll_below _ _ HB1.out (Nat.le_refl _)
      obtain ⟨v0, k0, f0⟩ := HF1.out.cell (k := j * 2) (by omega)
      obtain ⟨v1, k1, f1⟩ := HF1.out.cell (k := j * 2 + 1) (by omega)
      clear hb1 hA'
      go_wp2
      exact ⟨⟨j + 1, by omega, by go_num, HQ, HP⟩, by simp [intOf]; omega⟩
    · obtain rfl : j = es.length := by omega
      go_wp2
      go_ret
      exact ⟨some ⟨w.heap.size, 0, none⟩, rfl, HBr.out, Fill.all HFr.out hl2 ⟨Nat.le_refl _, HFr.out.lt⟩ (fun o t _ h => ElE.wide (fun b hb => ⟨Nat.le_of_lt hb.1, hb.2⟩) h)⟩
end Go.Proofs.Ytkkkjhlbkmcjiaa.Tr
