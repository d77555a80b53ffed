/- The copying of arms in the exact laws. Helper text: no statement is claimed here. -/
import Derived.Test.YtkkkjhlbkmcjiaaQj
namespace Go.Proofs.Ytkkkjhlbkmcjiaa.Tr
open Go.ChangeShapes Go.WideShapes Go.ChangeAt Go.RowKit

theorem stabM (k n : Nat) : Stab 6 (fun w B o (t : AT k n) => AmE (fun b => B < b ∧ b < w.heap.size) w k n B o t) := fun w1 w2 B o t hs hc hb hE => by
  cases n with
  | zero => exact hE.elim
  | succ n =>
    obtain ⟨hn, pc, cc, pk, ck, h4, h5, h6, h7⟩ := hE
    have hK : Keep (fun b => B < b ∧ b < w1.heap.size) w1 w2 := fun b hB => hb b hB.1 hB.2
    have hW : ∀ b, (B < b ∧ b < w1.heap.size) → (B < b ∧ b < w2.heap.size) := fun b hB => ⟨hB.1, by omega⟩
    exact ⟨stabN (k + 1) w1 w2 B o t.net hs (fun c hc' => hc c (by omega)) hb hn, pc, cc, pk, ck, (hc 4 (by omega)).trans h4, (hc 5 (by omega)).trans h5, els_to hK hW h6, arms_to hK hW h7⟩
/-- The copying of arms of a depth below n. -/
def ToA (k n : Nat) : Prop := ∀ (S : Nat → Prop) (w : World) (_ : ∀ b, S b → b < w.heap.size) (v : Value) (t : AT k n) (_ : AmV S w k n v t) (_ : zA k n t ≤ 1048576),
    Calls Try.prog 18 #[v] w fun r w' => ∃ v', r = .returned v' ∧ Below w.heap.size w w' ∧ AmV (New w w') w' k n v' t
theorem AmV.parts {S : Nat → Prop} {w : World} {k : Nat} : ∀ {n : Nat} {v : Value} {t : AT k n} (_ : AmV S w k n v t), ∃ kd op pa la ca pk lk ck pc lc cc pq lq cq, v = .agg #[.int .i64 kd, .int .i64 op, .slice pa la ca, .slice pk lk ck, .slice pc lc cc, .slice pq lq cq]
  | 0, _, _, h => h.elim
  | n + 1, v, t, h => by
    obtain ⟨kd, op, pa, la, ca, pk, lk, ck, pc, cc, pq, cq, he, _⟩ := h
    exact ⟨kd, op, pa, la, ca, pk, lk, ck, pc, _, cc, pq, _, cq, he⟩
set_option maxHeartbeats 1000000 in
theorem toArms_any {S : Nat → Prop} {w : World} (hSw : ∀ b, S b → b < w.heap.size) (k n : Nat) (IH : Hid (ToA k n)) (p : Option Addr) (cap : Nat) (es : List (AT k n)) (hV : SlOf S (AmE S w k n) 6 p cap es) (hbd : zAs k n es ≤ 1048576) :
    Calls Try.prog 8 #[.slice p es.length cap] w fun r w' => ∃ p', r = .returned (.slice p' es.length es.length) ∧ Below w.heap.size w w' ∧ SlOf (New w w') (AmE (New w w') w' k n) 6 p' es.length es := by
  have HV : Hid (SlOf S (AmE S w k n) 6 p cap es) := hV
  have HSw : Hid (∀ b, S b → b < w.heap.size) := hSw
  obtain ⟨⟨hl1, hl2⟩, -⟩ := hV
  have hln : es.length ≤ 1048576 := Nat.le_trans (by unfold zAs; omega) hbd
  obtain ⟨M, hM, hmk⟩ := make_any (T := 25) (E := 55) Try.underlying25 iArm (by omega) (by omega) es.length (by omega) w
  have HF : Hid (Fill (w.alloc (.cells M 55)) w.heap.size 55 6 (fun w B o (t : AT k n) => AmE (fun b => B < b ∧ b < w.heap.size) w k n B o t) es 0) := Fill.new w M _ _ _ _ hM
  have HB : Hid (Below w.heap.size w (w.alloc (.cells M 55))) := one w _
  have HZ : Hid (zAs k n es ≤ 1048576) := hbd
  clear hSw hM hbd
  go_enter Try.func8, Try.ntmps8
  go_wp2
  generalize w.alloc (.cells M 55) = V at *
  clear hmk
  go_loopw [4] (fun c w' => ∃ j : Nat, j ≤ es.length ∧ c = .int .i64 (j : Int) ∧ Hid (Below w.heap.size w w') ∧ Hid (Fill w' w.heap.size 55 6 (fun w B o (t : AT k n) => AmE (fun b => B < b ∧ b < w.heap.size) w k n B o t) es j)) (fun c _ => es.length - (intOf c).toNat)
  case atStart => exact ⟨0, by omega, rfl, HB, HF⟩
  case round =>
    obtain ⟨j, hj, rfl, HBr, HFr⟩ := hrel
    rename_i wr
    clear HB HF
    by_cases hlt : j < es.length
    · have hlt' : (j : Int) < (es.length : Int) := by omega
      obtain ⟨t, ht⟩ := get_lt hlt
      obtain ⟨b, off, rfl, hb, hE⟩ := (arms_to (Keep.of HBr.out HSw.out) (fun _ h => h) HV.out).get ht
      obtain ⟨kd, op, pa, la, ca, pk, lk, ck, pc, lc, cc, pq, lq, cq, c0, c1, c2, c3, c4, c5, hN⟩ := hE.out
      have hbl : b < wr.heap.size := World.block_lt_of_cell? _ _ c0
      have HE : Hid (AmV S wr k n (.agg #[.int .i64 kd, .int .i64 op, .slice pa la ca, .slice pk lk ck, .slice pc lc cc, .slice pq lq cq]) t) := hN
      clear hN hE
      have HC : Hid (Calls Try.prog 18 #[.agg #[.int .i64 kd, .int .i64 op, .slice pa la ca, .slice pk lk ck, .slice pc lc cc, .slice pq lq cq]] wr fun r w' => ∃ v', r = .returned v' ∧ Below wr.heap.size wr w' ∧ AmV (New wr w') w' k n v' t) := IH.out S wr (fun b hb => Nat.lt_of_lt_of_le (HSw.out b hb) HBr.out.size) _ t HE.out (by have := tot_get (zA k n) ht; have := HZ.out; unfold zAs at this; omega)
      go_wp2_with fail
      refine HC.out.mono ?_
      rintro e w1 ⟨v', rfl, hb1, hV'⟩
      obtain ⟨kd', op', pa', la', ca', pk', lk', ck', pc', lc', cc', pq', lq', cq', rfl⟩ := hV'.parts
      have HF1 : Hid (Fill w1 w.heap.size 55 6 (fun w B o (t : AT k n) => AmE (fun b => B < b ∧ b < w.heap.size) w k n B o t) es j) := Fill.to (stabM k n) HFr.out hb1
      have HB1 : Hid (Below w.heap.size w w1) := HBr.out.trans (hb1.mono HBr.out.size)
      have HP : Hid (Fill (setAll w1 w.heap.size (j * 6) [.int .i64 kd', .int .i64 op', .slice pa' la' ca', .slice pk' lk' ck', .slice pc' lc' cc', .slice pq' lq' cq']) w.heap.size 55 6 (fun w B o (t : AT k n) => AmE (fun b => B < b ∧ b < w.heap.size) w k n B o t) es (j + 1)) := Fill.put (stabM k n) HF1.out ht _ rfl fun w2 h2s h2b h2c => by
        have hB : w.heap.size < wr.heap.size := HFr.out.lt
        have hW : AmV (fun b => w.heap.size < b ∧ b < w2.heap.size) w2 k n _ t := hV'.to (fun b hb => h2b b (by have := hb.1; omega)) (fun b hb => ⟨by have := hb.1; omega, by have := hb.2; omega⟩)
        exact AmE.make hW (h2c 0 _ rfl) (h2c 1 _ rfl) (h2c 2 _ rfl) (h2c 3 _ rfl) (h2c 4 _ rfl) (h2c 5 _ rfl)
      have HQ : Hid (Below w.heap.size w (setAll w1 w.heap.size (j * 6) [.int .i64 kd', .int .i64 op', .slice pa' la' ca', .slice pk' lk' ck', .slice pc' lc' cc', .slice pq' lq' cq'])) := setAll_below _ _ HB1.out (Nat.le_refl _)
      obtain ⟨v0, k0, f0⟩ := HF1.out.cell (k := j * 6) (by omega)
      obtain ⟨v1, k1, f1⟩ := HF1.out.cell (k := j * 6 + 1) (by omega)
      obtain ⟨v2, k2, f2⟩ := HF1.out.cell (k := j * 6 + 2) (by omega)
      obtain ⟨v3, k3, f3⟩ := HF1.out.cell (k := j * 6 + 3) (by omega)
      obtain ⟨v4, k4, f4⟩ := HF1.out.cell (k := j * 6 + 4) (by omega)
      obtain ⟨v5, k5, f5⟩ := HF1.out.cell (k := j * 6 + 5) (by omega)
      clear hb1 hV'
      go_wp2
      exact ⟨⟨j + 1, by omega, by go_num, HQ, HP⟩, by simp [intOf]; omega⟩
    · obtain rfl : j = es.length := by omega
      go_wp2
      go_ret
      exact ⟨some ⟨w.heap.size, 0, none⟩, rfl, HBr.out, Fill.all HFr.out hl2 ⟨Nat.le_refl _, HFr.out.lt⟩ (fun o t _ h => AmE.wide (fun b hb => ⟨Nat.le_of_lt hb.1, hb.2⟩) h)⟩

set_option maxHeartbeats 2000000 in
theorem toArm_next (k n : Nat) (IH : ToA k n) : ToA k (n + 1) := by
  intro S w hSw v t hV hbd
  obtain ⟨kd, op, pa, la, ca, pk, lk, ck, pc, cc, pq, cq, rfl, hN, hC, hK⟩ := hV
  rw [zA_succ] at hbd
  have HC1 : Hid (∀ W, Below w.heap.size w W → Calls Try.prog 33 #[.agg #[.int .i64 kd, .int .i64 op, .slice pa la ca, .slice pk lk ck]] W fun r w' => ∃ v', r = .returned v' ∧ Below W.heap.size W w' ∧ NtV (New W w') w' (k + 1) v' t.net) :=
    fun W hW => toNet_any (k + 1) S W (fun b hb => Nat.lt_of_lt_of_le (hSw b hb) hW.size) _ t.net (hN.to (Keep.of hW hSw) (fun _ h => h)) (by omega)
  have HC2 : Hid (∀ W, Below w.heap.size w W → Calls Try.prog 34 #[.slice pc t.coils.length cc] W fun r w' => ∃ p', r = .returned (.slice p' t.coils.length t.coils.length) ∧ Below W.heap.size W w' ∧ SlOf (New W w') (ElE (New W w') w') 2 p' t.coils.length t.coils) :=
    fun W hW => toElems_any (S := S) (fun b hb => Nat.lt_of_lt_of_le (hSw b hb) hW.size) pc cc t.coils (els_to (Keep.of hW hSw) (fun _ h => h) hC) (by omega)
  have HC3 : Hid (∀ W, Below w.heap.size w W → Calls Try.prog 8 #[.slice pq t.kids.length cq] W fun r w' => ∃ p', r = .returned (.slice p' t.kids.length t.kids.length) ∧ Below W.heap.size W w' ∧ SlOf (New W w') (AmE (New W w') w' k n) 6 p' t.kids.length t.kids) :=
    fun W hW => toArms_any (S := S) (fun b hb => Nat.lt_of_lt_of_le (hSw b hb) hW.size) k n IH pq cq t.kids (arms_to (Keep.of hW hSw) (fun _ h => h) hK) (by omega)
  have HD : Hid (∀ W kd' op' pa' la' ca' pk' lk' ck' p2 c2 p3 c3, NtV (New w W) W (k + 1) (.agg #[.int .i64 kd', .int .i64 op', .slice pa' la' ca', .slice pk' lk' ck']) t.net → SlOf (New w W) (ElE (New w W) W) 2 p2 c2 t.coils → SlOf (New w W) (AmE (New w W) W k n) 6 p3 c3 t.kids →
      AmV (New w W) W k (n + 1) (.agg #[.int .i64 kd', .int .i64 op', .slice pa' la' ca', .slice pk' lk' ck', .slice p2 t.coils.length c2, .slice p3 t.kids.length c3]) t) :=
    fun W kd' op' pa' la' ca' pk' lk' ck' p2 c2 p3 c3 h1 h2 h3 => ⟨kd', op', pa', la', ca', pk', lk', ck', p2, c2, p3, c3, rfl, h1, h2, h3⟩
  clear hSw hN hC hK hbd IH
  generalize t.coils.length = lc at *
  generalize t.kids.length = lq at *
  go_enter Try.func18, Try.ntmps18
  go_wp2_with fail
  have HBa : Hid (Below w.heap.size w (((w.alloc (.cells #[.int .i64 kd, .int .i64 op, .slice pa la ca, .slice pk lk ck, .slice pc lc cc, .slice pq lq cq] 45)).alloc (.cells #[.int .i64 0, .int .i64 0, .slice none 0 0, .slice none 0 0, .slice none 0 0, .slice none 0 0] 55)).alloc (.cells #[.int .i64 0, .int .i64 0, .slice none 0 0, .slice none 0 0, .slice none 0 0, .slice none 0 0] 55))) := ((one _ _).alloc (by simp) _).alloc (by simp; omega) _
  have HS : Hid ((((w.alloc (.cells #[.int .i64 kd, .int .i64 op, .slice pa la ca, .slice pk lk ck, .slice pc lc cc, .slice pq lq cq] 45)).alloc (.cells #[.int .i64 0, .int .i64 0, .slice none 0 0, .slice none 0 0, .slice none 0 0, .slice none 0 0] 55)).alloc (.cells #[.int .i64 0, .int .i64 0, .slice none 0 0, .slice none 0 0, .slice none 0 0, .slice none 0 0] 55)).heap.size = w.heap.size + 3) := by
    show _ = _
    simp
  have r0 := heap_alloc2_old (w.alloc (.cells #[.int .i64 kd, .int .i64 op, .slice pa la ca, .slice pk lk ck, .slice pc lc cc, .slice pq lq cq] 45)) (.cells #[.int .i64 0, .int .i64 0, .slice none 0 0, .slice none 0 0, .slice none 0 0, .slice none 0 0] 55) (.cells #[.int .i64 0, .int .i64 0, .slice none 0 0, .slice none 0 0, .slice none 0 0, .slice none 0 0] 55)
  have o0 := heap_alloc2_new (w.alloc (.cells #[.int .i64 kd, .int .i64 op, .slice pa la ca, .slice pk lk ck, .slice pc lc cc, .slice pq lq cq] 45)) (.cells #[.int .i64 0, .int .i64 0, .slice none 0 0, .slice none 0 0, .slice none 0 0, .slice none 0 0] 55) (.cells #[.int .i64 0, .int .i64 0, .slice none 0 0, .slice none 0 0, .slice none 0 0, .slice none 0 0] 55)
  have b4 : (((w.alloc (.cells #[.int .i64 kd, .int .i64 op, .slice pa la ca, .slice pk lk ck, .slice pc lc cc, .slice pq lq cq] 45)).alloc (.cells #[.int .i64 0, .int .i64 0, .slice none 0 0, .slice none 0 0, .slice none 0 0, .slice none 0 0] 55)).alloc (.cells #[.int .i64 0, .int .i64 0, .slice none 0 0, .slice none 0 0, .slice none 0 0, .slice none 0 0] 55)).cell? ⟨w.heap.size, 4, none⟩ = some (.slice pc lc cc) := keep2 ((one _ _).alloc (by simp) _) (by rw [World.cell?_alloc_mark]; rfl)
  have b5 : (((w.alloc (.cells #[.int .i64 kd, .int .i64 op, .slice pa la ca, .slice pk lk ck, .slice pc lc cc, .slice pq lq cq] 45)).alloc (.cells #[.int .i64 0, .int .i64 0, .slice none 0 0, .slice none 0 0, .slice none 0 0, .slice none 0 0] 55)).alloc (.cells #[.int .i64 0, .int .i64 0, .slice none 0 0, .slice none 0 0, .slice none 0 0, .slice none 0 0] 55)).cell? ⟨w.heap.size, 5, none⟩ = some (.slice pq lq cq) := keep2 ((one _ _).alloc (by simp) _) (by rw [World.cell?_alloc_mark]; rfl)
  rw [World.size_alloc] at r0 o0
  generalize ((w.alloc (.cells #[.int .i64 kd, .int .i64 op, .slice pa la ca, .slice pk lk ck, .slice pc lc cc, .slice pq lq cq] 45)).alloc (.cells #[.int .i64 0, .int .i64 0, .slice none 0 0, .slice none 0 0, .slice none 0 0, .slice none 0 0] 55)).alloc (.cells #[.int .i64 0, .int .i64 0, .slice none 0 0, .slice none 0 0, .slice none 0 0, .slice none 0 0] 55) = V at *
  have HR : Hid (OwnL V (w.heap.size + 1) [.int .i64 0, .int .i64 0, .slice none 0 0, .slice none 0 0, .slice none 0 0, .slice none 0 0]) := OwnL.of_row r0
  have HO : Hid (OwnL V (w.heap.size + 1 + 1) [.int .i64 0, .int .i64 0, .slice none 0 0, .slice none 0 0, .slice none 0 0, .slice none 0 0]) := OwnL.of_row o0
  clear r0 o0
  refine (HC1.out V HBa.out).mono ?_
  rintro r w1 ⟨v', rfl, hb1, hF⟩
  obtain ⟨kd', op', pa', la', ca', pk', lk', ck', rfl⟩ := hF.parts
  have HF : Hid (NtV (New V w1) w1 (k + 1) (.agg #[.int .i64 kd', .int .i64 op', .slice pa' la' ca', .slice pk' lk' ck']) t.net) := hF
  have HB1 : Hid (Below w.heap.size w w1) := HBa.out.trans (hb1.mono HBa.out.size)
  have HR1 : Hid (OwnL w1 (w.heap.size + 1) [.int .i64 0, .int .i64 0, .slice none 0 0, .slice none 0 0, .slice none 0 0, .slice none 0 0]) := HR.out.below hb1
  have HO1 : Hid (OwnL w1 (w.heap.size + 1 + 1) [.int .i64 0, .int .i64 0, .slice none 0 0, .slice none 0 0, .slice none 0 0, .slice none 0 0]) := HO.out.below hb1
  have HV1 : Hid (V.heap.size ≤ w1.heap.size) := hb1.size
  replace b4 := keep2 hb1 b4
  replace b5 := keep2 hb1 b5
  obtain ⟨m0, f0⟩ := HO1.out 0 _ rfl
  obtain ⟨m1, f1⟩ := HO1.out 1 _ rfl
  obtain ⟨m2, f2⟩ := HO1.out 2 _ rfl
  obtain ⟨m3, f3⟩ := HO1.out 3 _ rfl
  clear hb1 hF HC1 HR HO
  go_wp2_with fail
  have HBb : Hid (Below w.heap.size w (setAll w1 (w.heap.size + 1 + 1) 0 [.int .i64 kd', .int .i64 op', .slice pa' la' ca', .slice pk' lk' ck'])) := setAll_below _ _ HB1.out (by omega)
  have HR2 : Hid (OwnL (setAll w1 (w.heap.size + 1 + 1) 0 [.int .i64 kd', .int .i64 op', .slice pa' la' ca', .slice pk' lk' ck']) (w.heap.size + 1) [.int .i64 0, .int .i64 0, .slice none 0 0, .slice none 0 0, .slice none 0 0, .slice none 0 0]) := (((HR1.out.set (by omega)).set (by omega)).set (by omega)).set (by omega)
  have HO2 : Hid (OwnL (setAll w1 (w.heap.size + 1 + 1) 0 [.int .i64 kd', .int .i64 op', .slice pa' la' ca', .slice pk' lk' ck']) (w.heap.size + 1 + 1) [.int .i64 kd', .int .i64 op', .slice pa' la' ca', .slice pk' lk' ck', .slice none 0 0, .slice none 0 0]) := (((HO1.out.put 0 _).put 1 _).put 2 _).put 3 _
  have HF2 : Hid (NtV (New V w1) (setAll w1 (w.heap.size + 1 + 1) 0 [.int .i64 kd', .int .i64 op', .slice pa' la' ca', .slice pk' lk' ck']) (k + 1) (.agg #[.int .i64 kd', .int .i64 op', .slice pa' la' ca', .slice pk' lk' ck']) t.net) := HF.out.to (fun b hb => setAll_other _ _ _ _ b (by have := hb.1; have := HS.out; omega)) (fun _ h => h)
  have HS2 : Hid (w1.heap.size = (setAll w1 (w.heap.size + 1 + 1) 0 [.int .i64 kd', .int .i64 op', .slice pa' la' ca', .slice pk' lk' ck']).heap.size) := (setAll_size _ _ _ _).symm
  have HX5 : Hid ((setAll w1 (w.heap.size + 1 + 1) 0 [.int .i64 kd', .int .i64 op', .slice pa' la' ca', .slice pk' lk' ck']).cell? ⟨w.heap.size, 5, none⟩ = some (.slice pq lq cq)) := (World.cell?_of_block (w := w1) (a := ⟨w.heap.size, 5, none⟩) (setAll_other _ _ _ _ w.heap.size (by omega))).trans b5
  show Calls _ _ _ (setAll w1 (w.heap.size + 1 + 1) 0 [.int .i64 kd', .int .i64 op', .slice pa' la' ca', .slice pk' lk' ck']) _
  generalize setAll w1 (w.heap.size + 1 + 1) 0 [.int .i64 kd', .int .i64 op', .slice pa' la' ca', .slice pk' lk' ck'] = X at *
  clear HR1 HO1 HF HB1 b4 b5 m0 m1 m2 m3 f0 f1 f2 f3
  refine (HC2.out X HBb.out).mono ?_
  rintro r w2 ⟨p2, rfl, hb2, hG⟩
  have HG : Hid (SlOf (New X w2) (ElE (New X w2) w2) 2 p2 lc t.coils) := hG
  have HB2 : Hid (Below w.heap.size w w2) := HBb.out.trans (hb2.mono HBb.out.size)
  have HR3 : Hid (OwnL w2 (w.heap.size + 1) [.int .i64 0, .int .i64 0, .slice none 0 0, .slice none 0 0, .slice none 0 0, .slice none 0 0]) := HR2.out.below hb2
  have HO3 : Hid (OwnL w2 (w.heap.size + 1 + 1) [.int .i64 kd', .int .i64 op', .slice pa' la' ca', .slice pk' lk' ck', .slice none 0 0, .slice none 0 0]) := HO2.out.below hb2
  have HF3 : Hid (NtV (New V w1) w2 (k + 1) (.agg #[.int .i64 kd', .int .i64 op', .slice pa' la' ca', .slice pk' lk' ck']) t.net) := HF2.out.to (fun b hb => hb2.block b (by have := hb.2; have := HS2.out; omega)) (fun _ h => h)
  have HX : Hid (X.heap.size ≤ w2.heap.size) := hb2.size
  have b5 := keep2 hb2 HX5.out
  obtain ⟨m4, f4⟩ := HO3.out 4 _ rfl
  clear hb2 hG HC2 HR2 HO2 HF2 HX5
  go_wp2_with fail
  have HBc : Hid (Below w.heap.size w (w2.setCell ⟨w.heap.size + 1 + 1, 4, none⟩ (.slice p2 lc lc))) := HB2.out.setCell (p := ⟨_, _, none⟩) (by show w.heap.size ≤ w.heap.size + 1 + 1; omega) _
  have HR4 : Hid (OwnL (w2.setCell ⟨w.heap.size + 1 + 1, 4, none⟩ (.slice p2 lc lc)) (w.heap.size + 1) [.int .i64 0, .int .i64 0, .slice none 0 0, .slice none 0 0, .slice none 0 0, .slice none 0 0]) := HR3.out.set (by omega)
  have HO4 : Hid (OwnL (w2.setCell ⟨w.heap.size + 1 + 1, 4, none⟩ (.slice p2 lc lc)) (w.heap.size + 1 + 1) [.int .i64 kd', .int .i64 op', .slice pa' la' ca', .slice pk' lk' ck', .slice p2 lc lc, .slice none 0 0]) := HO3.out.put 4 _
  have hoth : ∀ b, w.heap.size + 3 ≤ b → (w2.setCell ⟨w.heap.size + 1 + 1, 4, none⟩ (.slice p2 lc lc)).heap[b]? = w2.heap[b]? := fun b hb => Below.heap_setCell _ _ _ _ (by show b ≠ w.heap.size + 1 + 1; omega)
  have HF4 : Hid (NtV (New V w1) (w2.setCell ⟨w.heap.size + 1 + 1, 4, none⟩ (.slice p2 lc lc)) (k + 1) (.agg #[.int .i64 kd', .int .i64 op', .slice pa' la' ca', .slice pk' lk' ck']) t.net) := HF3.out.to (fun b hb => hoth b (HS.out ▸ hb.1)) (fun _ h => h)
  have HG4 : Hid (SlOf (New X w2) (ElE (New X w2) (w2.setCell ⟨w.heap.size + 1 + 1, 4, none⟩ (.slice p2 lc lc))) 2 p2 lc t.coils) := els_to (fun b hb => hoth b (by have := hb.1; have := HS.out; have := HV1.out; have := HS2.out; omega)) (fun _ h => h) HG.out
  have HS4 : Hid (w2.heap.size = (w2.setCell ⟨w.heap.size + 1 + 1, 4, none⟩ (.slice p2 lc lc)).heap.size) := by
    show _ = _
    simp
  clear hoth
  generalize w2.setCell ⟨w.heap.size + 1 + 1, 4, none⟩ (.slice p2 lc lc) = Y at *
  clear HR3 HO3 HF3 HG HB2 b5 m4 f4
  refine (HC3.out Y HBc.out).mono ?_
  rintro r w3 ⟨p3, rfl, hb3, hQ⟩
  have HQ : Hid (SlOf (New Y w3) (AmE (New Y w3) w3 k n) 6 p3 lq t.kids) := hQ
  have HB3 : Hid (Below w.heap.size w w3) := HBc.out.trans (hb3.mono HBc.out.size)
  have HR5 : Hid (OwnL w3 (w.heap.size + 1) [.int .i64 0, .int .i64 0, .slice none 0 0, .slice none 0 0, .slice none 0 0, .slice none 0 0]) := HR4.out.below hb3
  have HO5 : Hid (OwnL w3 (w.heap.size + 1 + 1) [.int .i64 kd', .int .i64 op', .slice pa' la' ca', .slice pk' lk' ck', .slice p2 lc lc, .slice none 0 0]) := HO4.out.below hb3
  have HF5 : Hid (NtV (New V w1) w3 (k + 1) (.agg #[.int .i64 kd', .int .i64 op', .slice pa' la' ca', .slice pk' lk' ck']) t.net) := HF4.out.to (fun b hb => hb3.block b (by have := hb.2; have := HS2.out; have := HX.out; have := HS4.out; omega)) (fun _ h => h)
  have HG5 : Hid (SlOf (New X w2) (ElE (New X w2) w3) 2 p2 lc t.coils) := els_to (fun b hb => hb3.block b (by have := hb.2; have := HS4.out; omega)) (fun _ h => h) HG4.out
  have HY : Hid (Y.heap.size ≤ w3.heap.size) := hb3.size
  obtain ⟨a0, g0⟩ := HR5.out 0 _ rfl
  obtain ⟨a1, g1⟩ := HR5.out 1 _ rfl
  obtain ⟨a2, g2⟩ := HR5.out 2 _ rfl
  obtain ⟨a3, g3⟩ := HR5.out 3 _ rfl
  obtain ⟨a4, g4⟩ := HR5.out 4 _ rfl
  obtain ⟨a5, g5⟩ := HR5.out 5 _ rfl
  obtain ⟨o0, -⟩ := HO5.out 0 _ rfl
  obtain ⟨o1, -⟩ := HO5.out 1 _ rfl
  obtain ⟨o2, -⟩ := HO5.out 2 _ rfl
  obtain ⟨o3, -⟩ := HO5.out 3 _ rfl
  obtain ⟨o4, -⟩ := HO5.out 4 _ rfl
  obtain ⟨o5, q5⟩ := HO5.out 5 _ rfl
  clear hb3 hQ HC3 HR4 HO4 HF4 HG4
  go_wp2
  have HKp : Hid (∀ b, w.heap.size + 3 ≤ b → (setAll (w3.setCell ⟨w.heap.size + 1 + 1, 5, none⟩ (.slice p3 lq lq)) (w.heap.size + 1) 0 [.int .i64 kd', .int .i64 op', .slice pa' la' ca', .slice pk' lk' ck', .slice p2 lc lc, .slice p3 lq lq]).heap[b]? = w3.heap[b]?) := fun b hb => by
    rw [setAll_other _ _ _ _ _ (by omega), Below.heap_setCell _ _ _ _ (by show b ≠ w.heap.size + 1 + 1; omega)]
  have HSz : Hid ((setAll (w3.setCell ⟨w.heap.size + 1 + 1, 5, none⟩ (.slice p3 lq lq)) (w.heap.size + 1) 0 [.int .i64 kd', .int .i64 op', .slice pa' la' ca', .slice pk' lk' ck', .slice p2 lc lc, .slice p3 lq lq]).heap.size = w3.heap.size) := by
    show _ = _
    rw [setAll_size]; simp
  refine bodyPost_ret (v := .agg #[.int .i64 kd', .int .i64 op', .slice pa' la' ca', .slice pk' lk' ck', .slice p2 lc lc, .slice p3 lq lq]) (resArm6 (b := w.heap.size + 1) Try.results18 rfl (((((((HR5.out.set (by omega)).put 0 _).put 1 _).put 2 _).put 3 _).put 4 _).put 5 _)) rfl ⟨_, rfl, ?_, ?_⟩
  · exact setAll_below [.int .i64 kd', .int .i64 op', .slice pa' la' ca', .slice pk' lk' ck', .slice p2 lc lc, .slice p3 lq lq] 0 (HB3.out.setCell (p := ⟨_, _, none⟩) (by show w.heap.size ≤ w.heap.size + 1 + 1; omega) _) (by omega)
  · have h3 := HS.out
    have h4 := HV1.out
    have h5 := HS2.out
    have h6 := HX.out
    have h7 := HS4.out
    have h8 := HY.out
    have h9 := HSz.out
    refine HD.out _ kd' op' pa' la' ca' pk' lk' ck' p2 lc p3 lq (HF5.out.to (fun b hb => HKp.out b (h3 ▸ hb.1)) (fun b hb => ⟨by have := hb.1; omega, ?_⟩)) (els_to (fun b hb => HKp.out b (by have := hb.1; omega)) (fun b hb => ⟨by have := hb.1; omega, ?_⟩) HG5.out) (arms_to (fun b hb => HKp.out b (by have := hb.1; omega)) (fun b hb => ⟨by have := hb.1; omega, ?_⟩) HQ.out)
    · exact Nat.lt_of_lt_of_le (show b < w3.heap.size by have := hb.2; omega) (Nat.le_of_eq h9.symm)
    · exact Nat.lt_of_lt_of_le (show b < w3.heap.size by have := hb.2; omega) (Nat.le_of_eq h9.symm)
    · exact Nat.lt_of_lt_of_le hb.2 (Nat.le_of_eq h9.symm)
theorem toArm_any (k : Nat) : ∀ n, ToA k n
  | 0 => fun _ _ _ _ _ h => h.elim
  | n + 1 => toArm_next k n (toArm_any k n)
end Go.Proofs.Ytkkkjhlbkmcjiaa.Tr
