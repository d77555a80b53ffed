/- The copying of nets in the exact laws. Helper text: no statement is claimed here. -/
import Derived.Test.YtkkkjhlbkmcjiaaQi
namespace Go.Proofs.Ytkkkjhlbkmcjiaa.Tr
open Go.ChangeShapes Go.WideShapes Go.ChangeAt Go.RowKit

theorem stabN (n : Nat) : Stab 4 (fun w B o (t : NT n) => NtE (fun b => B < b ∧ b < w.heap.size) w n B o t) := fun w1 w2 B o t hs hc hb hE => by
  cases n with
  | zero => exact hE.elim
  | succ n =>
    obtain ⟨pa, ca, pk, ck, h0, h1, h2, h3, h4, h5⟩ := hE
    have hK : Keep (fun b => B < b ∧ b < w1.heap.size) w1 w2 := fun b hB => hb b hB.1 hB.2
    have hW : ∀ b, (B < b ∧ b < w1.heap.size) → (B < b ∧ b < w2.heap.size) := fun b hB => ⟨hB.1, by omega⟩
    exact ⟨pa, ca, pk, ck, (hc 0 (by omega)).trans h0, (hc 1 (by omega)).trans h1, (hc 2 (by omega)).trans h2, (hc 3 (by omega)).trans h3, args_to hK hW h4, nets_to hK hW h5⟩
/-- The copying of nets of a depth below n. -/
def ToN (n : Nat) : Prop := ∀ (S : Nat → Prop) (w : World) (_ : ∀ b, S b → b < w.heap.size) (v : Value) (t : NT n) (_ : NtV S w n v t) (_ : zN n t ≤ 1048576),
    Calls Try.prog 33 #[v] w fun r w' => ∃ v', r = .returned v' ∧ Below w.heap.size w w' ∧ NtV (New w w') w' n v' t
set_option maxHeartbeats 1000000 in
theorem toNets_any {S : Nat → Prop} {w : World} (hSw : ∀ b, S b → b < w.heap.size) (n : Nat) (IH : Hid (ToN n)) (p : Option Addr) (cap : Nat) (es : List (NT n)) (hV : SlOf S (NtE S w n) 4 p cap es) (hbd : zNs n es ≤ 1048576) :
    Calls Try.prog 50 #[.slice p es.length cap] w fun r w' => ∃ p', r = .returned (.slice p' es.length es.length) ∧ Below w.heap.size w w' ∧ SlOf (New w w') (NtE (New w w') w' n) 4 p' es.length es := by
  have HV : Hid (SlOf S (NtE S w n) 4 p cap es) := hV
  have HSw : Hid (∀ b, S b → b < w.heap.size) := hSw
  obtain ⟨⟨hl1, hl2⟩, -⟩ := hV
  have hln : es.length ≤ 1048576 := Nat.le_trans (by unfold zNs; omega) hbd
  obtain ⟨M, hM, hmk⟩ := make_any (T := 50) (E := 52) Try.underlying50 iNet (by omega) (by omega) es.length (by omega) w
  have HF : Hid (Fill (w.alloc (.cells M 52)) w.heap.size 52 4 (fun w B o (t : NT n) => NtE (fun b => B < b ∧ b < w.heap.size) w n B o t) es 0) := Fill.new w M _ _ _ _ hM
  have HB : Hid (Below w.heap.size w (w.alloc (.cells M 52))) := one w _
  have HZ : Hid (zNs n es ≤ 1048576) := hbd
  clear hSw hM hbd
  go_enter Try.func50, Try.ntmps50
  go_wp2
  generalize w.alloc (.cells M 52) = V at *
  clear hmk
  go_loopw [4] (fun c w' => ∃ j : Nat, j ≤ es.length ∧ c = .int .i64 (j : Int) ∧ Hid (Below w.heap.size w w') ∧ Hid (Fill w' w.heap.size 52 4 (fun w B o (t : NT n) => NtE (fun b => B < b ∧ b < w.heap.size) w n B o t) es j)) (fun c _ => es.length - (intOf c).toNat)
  case atStart => exact ⟨0, by omega, rfl, HB, HF⟩
  case round =>
    obtain ⟨j, hj, rfl, HBr, HFr⟩ := hrel
    rename_i wr
    clear HB HF
    by_cases hlt : j < es.length
    · have hlt' : (j : Int) < (es.length : Int) := by omega
      obtain ⟨t, ht⟩ := get_lt hlt
      obtain ⟨b, off, rfl, hb, hE⟩ := (nets_to (Keep.of HBr.out HSw.out) (fun _ h => h) HV.out).get ht
      obtain ⟨kd, op, pa, la, ca, pk, lk, ck, c0, c1, c2, c3, hN⟩ := hE.out
      have hbl : b < wr.heap.size := World.block_lt_of_cell? _ _ c0
      have HE : Hid (NtV S wr n (.agg #[.int .i64 kd, .int .i64 op, .slice pa la ca, .slice pk lk ck]) t) := hN
      clear hN hE
      have HC : Hid (Calls Try.prog 33 #[.agg #[.int .i64 kd, .int .i64 op, .slice pa la ca, .slice pk lk ck]] wr fun r w' => ∃ v', r = .returned v' ∧ Below wr.heap.size wr w' ∧ NtV (New wr w') w' n v' t) := IH.out S wr (fun b hb => Nat.lt_of_lt_of_le (HSw.out b hb) HBr.out.size) _ t HE.out (by have := tot_get (zN n) ht; have := HZ.out; unfold zNs at this; omega)
      go_wp2_with fail
      refine HC.out.mono ?_
      rintro e w1 ⟨v', rfl, hb1, hV'⟩
      obtain ⟨kd', op', pa', la', ca', pk', lk', ck', rfl⟩ := hV'.parts
      have HF1 : Hid (Fill w1 w.heap.size 52 4 (fun w B o (t : NT n) => NtE (fun b => B < b ∧ b < w.heap.size) w n B o t) es j) := Fill.to (stabN n) HFr.out hb1
      have HB1 : Hid (Below w.heap.size w w1) := HBr.out.trans (hb1.mono HBr.out.size)
      have HP : Hid (Fill (setAll w1 w.heap.size (j * 4) [.int .i64 kd', .int .i64 op', .slice pa' la' ca', .slice pk' lk' ck']) w.heap.size 52 4 (fun w B o (t : NT n) => NtE (fun b => B < b ∧ b < w.heap.size) w n B o t) es (j + 1)) := Fill.put (stabN n) HF1.out ht _ rfl fun w2 h2s h2b h2c => by
        have hB : w.heap.size < wr.heap.size := HFr.out.lt
        have hW : NtV (fun b => w.heap.size < b ∧ b < w2.heap.size) w2 n _ t := hV'.to (fun b hb => h2b b (by have := hb.1; omega)) (fun b hb => ⟨by have := hb.1; omega, by have := hb.2; omega⟩)
        exact NtE.make hW (h2c 0 _ rfl) (h2c 1 _ rfl) (h2c 2 _ rfl) (h2c 3 _ rfl)
      have HQ : Hid (Below w.heap.size w (setAll w1 w.heap.size (j * 4) [.int .i64 kd', .int .i64 op', .slice pa' la' ca', .slice pk' lk' ck'])) := setAll_below _ _ HB1.out (Nat.le_refl _)
      obtain ⟨v0, k0, f0⟩ := HF1.out.cell (k := j * 4) (by omega)
      obtain ⟨v1, k1, f1⟩ := HF1.out.cell (k := j * 4 + 1) (by omega)
      obtain ⟨v2, k2, f2⟩ := HF1.out.cell (k := j * 4 + 2) (by omega)
      obtain ⟨v3, k3, f3⟩ := HF1.out.cell (k := j * 4 + 3) (by omega)
      clear hb1 hV'
      go_wp2
      exact ⟨⟨j + 1, by omega, by go_num, HQ, HP⟩, by simp [intOf]; omega⟩
    · obtain rfl : j = es.length := by omega
      go_wp2
      go_ret
      exact ⟨some ⟨w.heap.size, 0, none⟩, rfl, HBr.out, Fill.all HFr.out hl2 ⟨Nat.le_refl _, HFr.out.lt⟩ (fun o t _ h => NtE.wide (fun b hb => ⟨Nat.le_of_lt hb.1, hb.2⟩) h)⟩

set_option maxHeartbeats 1000000 in
theorem toNet_next (n : Nat) (IH : ToN n) : ToN (n + 1) := by
  intro S w hSw v t hV hbd
  obtain ⟨pa, ca, pk, ck, rfl, hA, hK⟩ := hV
  rw [zN_succ] at hbd
  have HC1 : Hid (∀ W, Below w.heap.size w W → Calls Try.prog 49 #[.agg #[.int .i64 t.el.1, .slice pa t.el.2.length ca]] W fun r w' => ∃ v', r = .returned v' ∧ Below W.heap.size W w' ∧ ElV (New W w') w' v' t.el) :=
    fun W hW => toElem_any (S := S) (fun b hb => Nat.lt_of_lt_of_le (hSw b hb) hW.size) _ t.el ⟨pa, ca, rfl, args_to (Keep.of hW hSw) (fun _ h => h) hA⟩ (by omega)
  have HC2 : Hid (∀ W, Below w.heap.size w W → Calls Try.prog 50 #[.slice pk t.kids.length ck] W fun r w' => ∃ p', r = .returned (.slice p' t.kids.length t.kids.length) ∧ Below W.heap.size W w' ∧ SlOf (New W w') (NtE (New W w') w' n) 4 p' t.kids.length t.kids) :=
    fun W hW => toNets_any (S := S) (fun b hb => Nat.lt_of_lt_of_le (hSw b hb) hW.size) n IH pk ck t.kids (nets_to (Keep.of hW hSw) (fun _ h => h) hK) (by omega)
  have HD : Hid (∀ W p1 p2 c1 c2, SlOf (New w W) (ArE W) 3 p1 c1 t.el.2 → SlOf (New w W) (NtE (New w W) W n) 4 p2 c2 t.kids → NtV (New w W) W (n + 1) (.agg #[.int .i64 t.kind, .int .i64 t.el.1, .slice p1 t.el.2.length c1, .slice p2 t.kids.length c2]) t) :=
    fun W p1 p2 c1 c2 h1 h2 => ⟨p1, c1, p2, c2, rfl, h1, h2⟩
  have HE : Hid (∀ W W' v', ElV (New W W') W' v' t.el → ∃ p' c', v' = .agg #[.int .i64 t.el.1, .slice p' t.el.2.length c'] ∧ SlOf (New W W') (ArE W') 3 p' c' t.el.2) := fun W W' v' h => h
  clear hSw hA hK hbd IH
  generalize t.kind = kd at *
  generalize t.el.1 = op at *
  generalize t.el.2.length = la at *
  generalize t.kids.length = lk at *
  go_enter Try.func33, Try.ntmps33
  go_wp2_with fail
  have HBa : Hid (Below w.heap.size w (((w.alloc (.cells #[.int .i64 kd, .int .i64 op, .slice pa la ca, .slice pk lk ck] 42)).alloc (.cells #[.int .i64 0, .int .i64 0, .slice none 0 0, .slice none 0 0] 52)).alloc (.cells #[.int .i64 kd, .int .i64 0, .slice none 0 0, .slice none 0 0] 52))) := ((one _ _).alloc (by simp) _).alloc (by simp; omega) _
  have HS : Hid ((((w.alloc (.cells #[.int .i64 kd, .int .i64 op, .slice pa la ca, .slice pk lk ck] 42)).alloc (.cells #[.int .i64 0, .int .i64 0, .slice none 0 0, .slice none 0 0] 52)).alloc (.cells #[.int .i64 kd, .int .i64 0, .slice none 0 0, .slice none 0 0] 52)).heap.size = w.heap.size + 3) := by
    show _ = _
    simp
  have r0 := heap_alloc2_old (w.alloc (.cells #[.int .i64 kd, .int .i64 op, .slice pa la ca, .slice pk lk ck] 42)) (.cells #[.int .i64 0, .int .i64 0, .slice none 0 0, .slice none 0 0] 52) (.cells #[.int .i64 kd, .int .i64 0, .slice none 0 0, .slice none 0 0] 52)
  have o0 := heap_alloc2_new (w.alloc (.cells #[.int .i64 kd, .int .i64 op, .slice pa la ca, .slice pk lk ck] 42)) (.cells #[.int .i64 0, .int .i64 0, .slice none 0 0, .slice none 0 0] 52) (.cells #[.int .i64 kd, .int .i64 0, .slice none 0 0, .slice none 0 0] 52)
  have b3 : (((w.alloc (.cells #[.int .i64 kd, .int .i64 op, .slice pa la ca, .slice pk lk ck] 42)).alloc (.cells #[.int .i64 0, .int .i64 0, .slice none 0 0, .slice none 0 0] 52)).alloc (.cells #[.int .i64 kd, .int .i64 0, .slice none 0 0, .slice none 0 0] 52)).cell? ⟨w.heap.size, 3, none⟩ = some (.slice pk lk ck) := keep2 ((one _ _).alloc (by simp) _) (by rw [World.cell?_alloc_mark]; rfl)
  rw [World.size_alloc] at r0 o0
  generalize ((w.alloc (.cells #[.int .i64 kd, .int .i64 op, .slice pa la ca, .slice pk lk ck] 42)).alloc (.cells #[.int .i64 0, .int .i64 0, .slice none 0 0, .slice none 0 0] 52)).alloc (.cells #[.int .i64 kd, .int .i64 0, .slice none 0 0, .slice none 0 0] 52) = V at *
  have HR : Hid (OwnL V (w.heap.size + 1) [.int .i64 0, .int .i64 0, .slice none 0 0, .slice none 0 0]) := OwnL.of_row r0
  have HO : Hid (OwnL V (w.heap.size + 1 + 1) [.int .i64 kd, .int .i64 0, .slice none 0 0, .slice none 0 0]) := OwnL.of_row o0
  clear r0 o0
  refine (HC1.out V HBa.out).mono ?_
  rintro r w1 ⟨v', rfl, hb1, hF⟩
  obtain ⟨p1, c1, rfl, hF2⟩ := HE.out V w1 v' hF
  have HF : Hid (SlOf (New V w1) (ArE w1) 3 p1 c1 t.el.2) := hF2
  clear hF2
  have HB1 : Hid (Below w.heap.size w w1) := HBa.out.trans (hb1.mono HBa.out.size)
  have HR1 : Hid (OwnL w1 (w.heap.size + 1) [.int .i64 0, .int .i64 0, .slice none 0 0, .slice none 0 0]) := HR.out.below hb1
  have HO1 : Hid (OwnL w1 (w.heap.size + 1 + 1) [.int .i64 kd, .int .i64 0, .slice none 0 0, .slice none 0 0]) := HO.out.below hb1
  have HV1 : Hid (V.heap.size ≤ w1.heap.size) := hb1.size
  replace b3 := keep2 hb1 b3
  obtain ⟨m1, f1⟩ := HO1.out 1 _ rfl
  obtain ⟨m2, f2⟩ := HO1.out 2 _ rfl
  clear hb1 hF HC1 HR HO HE
  go_wp2_with fail
  have HBb : Hid (Below w.heap.size w ((w1.setCell ⟨w.heap.size + 1 + 1, 1, none⟩ (.int .i64 op)).setCell ⟨w.heap.size + 1 + 1, 2, none⟩ (.slice p1 la c1))) := (HB1.out.setCell (p := ⟨_, _, none⟩) (by show w.heap.size ≤ w.heap.size + 1 + 1; omega) _).setCell (p := ⟨_, _, none⟩) (by show w.heap.size ≤ w.heap.size + 1 + 1; omega) _
  have HR2 : Hid (OwnL ((w1.setCell ⟨w.heap.size + 1 + 1, 1, none⟩ (.int .i64 op)).setCell ⟨w.heap.size + 1 + 1, 2, none⟩ (.slice p1 la c1)) (w.heap.size + 1) [.int .i64 0, .int .i64 0, .slice none 0 0, .slice none 0 0]) := (HR1.out.set (by omega)).set (by omega)
  have HO2 : Hid (OwnL ((w1.setCell ⟨w.heap.size + 1 + 1, 1, none⟩ (.int .i64 op)).setCell ⟨w.heap.size + 1 + 1, 2, none⟩ (.slice p1 la c1)) (w.heap.size + 1 + 1) [.int .i64 kd, .int .i64 op, .slice p1 la c1, .slice none 0 0]) := (HO1.out.put 1 _).put 2 _
  have HF2 : Hid (SlOf (New V w1) (ArE ((w1.setCell ⟨w.heap.size + 1 + 1, 1, none⟩ (.int .i64 op)).setCell ⟨w.heap.size + 1 + 1, 2, none⟩ (.slice p1 la c1))) 3 p1 c1 t.el.2) := args_to (fun b hb => by
    have h3 : w.heap.size + 3 ≤ b := HS.out ▸ hb.1
    rw [Below.heap_setCell _ _ _ _ (by show b ≠ w.heap.size + 1 + 1; omega), Below.heap_setCell _ _ _ _ (by show b ≠ w.heap.size + 1 + 1; omega)]) (fun _ h => h) HF.out
  have HS2 : Hid (w1.heap.size ≤ ((w1.setCell ⟨w.heap.size + 1 + 1, 1, none⟩ (.int .i64 op)).setCell ⟨w.heap.size + 1 + 1, 2, none⟩ (.slice p1 la c1)).heap.size) := by
    show _ ≤ _
    simp
  generalize (w1.setCell ⟨w.heap.size + 1 + 1, 1, none⟩ (.int .i64 op)).setCell ⟨w.heap.size + 1 + 1, 2, none⟩ (.slice p1 la c1) = X at *
  clear HR1 HO1 HF HB1 b3 m1 m2 f1 f2
  refine (HC2.out X HBb.out).mono ?_
  rintro r w2 ⟨p2, rfl, hb2, hG⟩
  have HG : Hid (SlOf (New X w2) (NtE (New X w2) w2 n) 4 p2 lk t.kids) := hG
  have HB2 : Hid (Below w.heap.size w w2) := HBb.out.trans (hb2.mono HBb.out.size)
  have HR3 : Hid (OwnL w2 (w.heap.size + 1) [.int .i64 0, .int .i64 0, .slice none 0 0, .slice none 0 0]) := HR2.out.below hb2
  have HO3 : Hid (OwnL w2 (w.heap.size + 1 + 1) [.int .i64 kd, .int .i64 op, .slice p1 la c1, .slice none 0 0]) := HO2.out.below hb2
  have HF3 : Hid (SlOf (New V w1) (ArE w2) 3 p1 c1 t.el.2) := args_to (fun b hb => hb2.block b (Nat.lt_of_lt_of_le hb.2 HS2.out)) (fun _ h => h) HF2.out
  have HX : Hid (X.heap.size ≤ w2.heap.size) := hb2.size
  obtain ⟨a0, g0⟩ := HR3.out 0 _ rfl
  obtain ⟨a1, g1⟩ := HR3.out 1 _ rfl
  obtain ⟨a2, g2⟩ := HR3.out 2 _ rfl
  obtain ⟨a3, g3⟩ := HR3.out 3 _ rfl
  obtain ⟨o0, -⟩ := HO3.out 0 _ rfl
  obtain ⟨o1, -⟩ := HO3.out 1 _ rfl
  obtain ⟨o2, -⟩ := HO3.out 2 _ rfl
  obtain ⟨o3, q3⟩ := HO3.out 3 _ rfl
  clear hb2 hG HC2 HR2 HO2 HF2
  go_wp2
  have HKp : Hid (∀ b, w.heap.size + 3 ≤ b → (setAll (w2.setCell ⟨w.heap.size + 1 + 1, 3, none⟩ (.slice p2 lk lk)) (w.heap.size + 1) 0 [.int .i64 kd, .int .i64 op, .slice p1 la c1, .slice p2 lk lk]).heap[b]? = w2.heap[b]?) := fun b hb => by
    rw [setAll_other _ _ _ _ _ (by omega), Below.heap_setCell _ _ _ _ (by show b ≠ w.heap.size + 1 + 1; omega)]
  have HSz : Hid ((setAll (w2.setCell ⟨w.heap.size + 1 + 1, 3, none⟩ (.slice p2 lk lk)) (w.heap.size + 1) 0 [.int .i64 kd, .int .i64 op, .slice p1 la c1, .slice p2 lk lk]).heap.size = w2.heap.size) := by
    show _ = _
    rw [setAll_size]; simp
  refine bodyPost_ret (v := .agg #[.int .i64 kd, .int .i64 op, .slice p1 la c1, .slice p2 lk lk]) (resNet4 (b := w.heap.size + 1) Try.results33 rfl (((((HR3.out.set (by omega)).put 0 _).put 1 _).put 2 _).put 3 _)) rfl ⟨_, rfl, ?_, ?_⟩
  · exact setAll_below [.int .i64 kd, .int .i64 op, .slice p1 la c1, .slice p2 lk lk] 0 (HB2.out.setCell (p := ⟨_, _, none⟩) (by show w.heap.size ≤ w.heap.size + 1 + 1; omega) _) (by omega)
  · have h3 := HS.out
    have h4 := HV1.out
    have h5 := HS2.out
    have h6 := HX.out
    have h7 := HSz.out
    refine HD.out _ p1 p2 c1 lk (args_to (fun b hb => HKp.out b (h3 ▸ hb.1)) (fun b hb => ⟨by have := hb.1; omega, ?_⟩) HF3.out) (nets_to (fun b hb => HKp.out b (by have := hb.1; omega)) (fun b hb => ⟨by have := hb.1; omega, ?_⟩) HG.out)
    · exact Nat.lt_of_lt_of_le hb.2 (Nat.le_trans h5 (Nat.le_trans h6 (Nat.le_of_eq h7.symm)))
    · exact Nat.lt_of_lt_of_le hb.2 (Nat.le_of_eq h7.symm)
theorem toNet_any : ∀ n, ToN n
  | 0 => fun _ _ _ _ _ h => h.elim
  | n + 1 => toNet_next n (toNet_any n)
end Go.Proofs.Ytkkkjhlbkmcjiaa.Tr
