/- How the exact laws count the values of arms. Helper text: no statement is claimed here. -/
import Derived.Test.YtkkkjhlbkmcjiaaQe
namespace Go.Proofs.Ytkkkjhlbkmcjiaa.Tr
open Go.ChangeShapes Go.WideShapes Go.ChangeAt Go.RowKit

set_option maxHeartbeats 1000000 in
theorem szArms_any {S : Nat → Prop} {w : World} (hSw : ∀ b, S b → b < w.heap.size) (k n : Nat) (IH : Hid (SzA k n)) (p : Option Addr) (cap : Nat) (es : List (AT k n)) (hV : SlOf S (AmE S w k n) 6 p cap es) (left : Int) (h0 : 0 ≤ left) (h1 : left ≤ 1048576) :
    Calls Try.prog 6 #[.slice p es.length cap, .int .i64 left] w fun r w' => r = .returned (.int .i64 (szR left (zAs k n es))) ∧ Below w.heap.size w w' := by
  have HV : Hid (SlOf S (AmE S w k n) 6 p cap es) := hV
  have HSw : Hid (∀ b, S b → b < w.heap.size) := hSw
  obtain ⟨⟨hl1, hl2⟩, -⟩ := hV
  clear hSw
  obtain ⟨R, hR⟩ : ∃ R, R = szR left (zAs k n es) := ⟨_, rfl⟩
  rw [← hR]
  have HR : Hid (R = szR left (zAs k n es)) := hR
  clear hR
  by_cases hlen : (es.length : Int) ≤ left
  · have h' : ¬ (left - (es.length : Int)) < 0 := by omega
    go_enter Try.func6, Try.ntmps6
    go_wp2
    go_loopw [1, 5] (fun c d w' => ∃ j : Nat, j ≤ es.length ∧ ((es.length + tot (zA k n) (es.take j) : Nat) : Int) ≤ left ∧ c = .int .i64 (left - ((es.length + tot (zA k n) (es.take j) : Nat) : Int)) ∧ d = .int .i64 (j : Int) ∧ Hid (Below w.heap.size w w')) (fun _ d _ => es.length - (intOf d).toNat)
    case atStart => exact ⟨0, by omega, by simpa [tot] using hlen, by simp [tot], rfl, Below.refl _ _⟩
    case round =>
      obtain ⟨j, hj, hle, rfl, rfl, HB⟩ := hrel
      rename_i wr
      by_cases hlt : j < es.length
      · have hlt' : (j : Int) < (es.length : Int) := by omega
        obtain ⟨t, ht⟩ := get_lt hlt
        have hbd := tot_next (zA k n) ht
        obtain ⟨b, off, rfl, hb, hE⟩ := (arms_to (Keep.of HB.out HSw.out) (fun _ h => h) HV.out).get ht
        obtain ⟨kd, op, pa, la, ca, pk, lk, ck, pc, lc, cc, pq, lq, cq, c0, c1, c2, c3, c4, c5, hN⟩ := hE.out
        have hbl : b < wr.heap.size := World.block_lt_of_cell? _ _ c0
        have HE : Hid (AmV S wr k n (.agg #[.int .i64 kd, .int .i64 op, .slice pa la ca, .slice pk lk ck, .slice pc lc cc, .slice pq lq cq]) t) := hN
        clear hN hE
        generalize hL : left - ((es.length + tot (zA k n) (es.take j) : Nat) : Int) = L at *
        have hL0 : 0 ≤ L := by omega
        have hL1 : L ≤ 1048576 := by omega
        have HC : Hid (Calls Try.prog 16 #[.agg #[.int .i64 kd, .int .i64 op, .slice pa la ca, .slice pk lk ck, .slice pc lc cc, .slice pq lq cq], .int .i64 L] wr fun r w' => r = .returned (.int .i64 (szR L (zA k n t))) ∧ Below wr.heap.size wr w') := IH.out S wr (fun b hb => Nat.lt_of_lt_of_le (HSw.out b hb) HB.out.size) _ t HE.out L hL0 hL1
        by_cases hz : ((zA k n t : Nat) : Int) ≤ L
        · have hz' : ¬ (L - ((zA k n t : Nat) : Int)) < 0 := by omega
          rw [szR_pos hz] at HC
          clear HR
          generalize hZ : zA k n t = z at *
          go_wp2_with fail
          refine HC.out.mono ?_
          rintro e w1 ⟨rfl, hb1⟩
          have HB1 : Hid (Below w.heap.size w w1) := HB.out.trans (hb1.mono HB.out.size)
          clear hb1
          go_wp2
          exact ⟨⟨j + 1, by omega, by omega, by congr 1; omega, by go_num, HB1⟩, by simp [intOf]; omega⟩
        · rw [szR_neg hz] at HC
          have htot := tot_le (zA k n) es (j + 1)
          have HR1 : Hid (R = -1) := HR.out.trans (szR_neg (by unfold zAs; omega))
          generalize hZ : zA k n t = z at *
          go_wp2_with fail
          refine HC.out.mono ?_
          rintro e w1 ⟨rfl, hb1⟩
          have HB1 : Hid (Below w.heap.size w w1) := HB.out.trans (hb1.mono HB.out.size)
          clear hb1
          go_wp2
          go_ret
          exact ⟨by rw [HR1.out]; rfl, HB1.out⟩
      · obtain rfl : j = es.length := by omega
        have HR1 : Hid (R = left - ((es.length + tot (zA k n) (es.take es.length) : Nat) : Int)) := by
          rw [List.take_length] at hle ⊢
          exact HR.out.trans (szR_pos hle)
        generalize left - ((es.length + tot (zA k n) (es.take es.length) : Nat) : Int) = L at *
        go_wp2
        go_ret
        exact ⟨by rw [HR1.out]; rfl, HB.out⟩
  · have h' : (left - (es.length : Int)) < 0 := by omega
    have HR1 : Hid (R = -1) := HR.out.trans (szR_neg (by unfold zAs; omega))
    go_enter Try.func6, Try.ntmps6
    go_wp2
    go_ret
    exact ⟨by rw [HR1.out]; rfl, Below.refl _ _⟩

theorem bl {V w1 : World} {o : Obj} {i : Nat} {v : Value} (hb : Below (V.alloc o).heap.size (V.alloc o) w1) (h : (V.alloc o).cell? ⟨V.heap.size, i, none⟩ = some v) : w1.cell? ⟨V.heap.size, i, none⟩ = some v := keep2 hb h
theorem le1 {S : Nat → Prop} {w : World} {N : Nat} (h : ∀ b, S b → b < w.heap.size) (hN : w.heap.size ≤ N) : ∀ b, S b → b < N := fun b hb => Nat.lt_of_lt_of_le (h b hb) hN

set_option maxHeartbeats 1000000 in
theorem szNet_next (n : Nat) (IH : SzN n) : SzN (n + 1) := by
  intro S w hSw v t hV left h0 h1
  obtain ⟨pa, ca, pk, ck, rfl, hA, hK⟩ := hV
  rw [zN_succ]
  have HSw : Hid (∀ b, S b → b < w.heap.size) := hSw
  have HA : Hid (SlOf S (ArE w) 3 pa ca t.el.2) := hA
  have HK : Hid (SlOf S (NtE S w n) 4 pk ck t.kids) := hK
  have HI : Hid (SzN n) := IH
  have HC1 : Hid (∀ W, Below w.heap.size w W → Calls Try.prog 47 #[.agg #[.int .i64 t.el.1, .slice pa t.el.2.length ca], .int .i64 left] W fun r w' => r = .returned (.int .i64 (szR left (zEl t.el))) ∧ Below W.heap.size W w') :=
    fun W hW => szElem_any (S := S) ⟨pa, ca, rfl, args_to (Keep.of hW HSw.out) (fun _ h => h) HA.out⟩ left h0 h1
  have HC2 : Hid (∀ L, 0 ≤ L → L ≤ 1048576 → ∀ W, Below w.heap.size w W → Calls Try.prog 48 #[.slice pk t.kids.length ck, .int .i64 L] W fun r w' => r = .returned (.int .i64 (szR L (zNs n t.kids))) ∧ Below W.heap.size W w') :=
    fun L hL0 hL1 W hW => szNets_any (S := S) (le1 HSw.out hW.size) n HI pk ck t.kids (nets_to (Keep.of hW HSw.out) (fun _ h => h) HK.out) L hL0 hL1
  clear hSw hA hK IH HA HK HI HSw
  generalize t.kind = kd at *
  generalize t.el.1 = op at *
  generalize t.el.2.length = la at *
  generalize t.kids.length = lk at *
  generalize zEl t.el = z1 at *
  generalize zNs n t.kids = z2 at *
  by_cases hz : (z1 : Int) ≤ left
  · rw [szR_pos hz] at HC1
    have hz' : ¬ (left - (z1 : Int)) < 0 := by omega
    obtain ⟨L, hL⟩ : ∃ L, L = left - (z1 : Int) := ⟨_, rfl⟩
    rw [← hL] at HC1 hz'
    have HC3 : Hid _ := HC2.out L (by omega) (by omega)
    clear HC2
    obtain ⟨R, hR⟩ : ∃ R, R = szR L z2 := ⟨_, rfl⟩
    have HR : Hid (szR left (z1 + z2) = R) := by
      show _ = _
      rw [hR]; unfold szR; split <;> split <;> omega
    rw [HR.out]
    by_cases hz2 : (z2 : Int) ≤ L
    · have hR' : ¬ R < 0 := by rw [hR, szR_pos hz2]; omega
      rw [← hR] at HC3
      clear hR hL HR
      go_enter Try.func29, Try.ntmps29
      go_wp2_with fail
      refine (HC1.out _ (one _ _)).mono ?_
      rintro e w1 ⟨rfl, hb1⟩
      have HB1 : Hid (Below w.heap.size w w1) := of_one hb1
      have c3 : w1.cell? ⟨w.heap.size, 3, none⟩ = some (.slice pk lk ck) := bl hb1 (by rw [World.cell?_alloc_mark]; rfl)
      clear hb1
      go_wp2_with fail
      refine (HC3.out _ HB1.out).mono ?_
      rintro e w2 ⟨rfl, hb2⟩
      go_wp2
      go_ret
      exact ⟨rfl, HB1.out.trans (hb2.mono HB1.out.size)⟩
    · have hR' : R = -1 := by rw [hR, szR_neg hz2]
      subst hR'
      rw [← hR] at HC3
      clear hR hL HR
      go_enter Try.func29, Try.ntmps29
      go_wp2_with fail
      refine (HC1.out _ (one _ _)).mono ?_
      rintro e w1 ⟨rfl, hb1⟩
      have HB1 : Hid (Below w.heap.size w w1) := of_one hb1
      have c3 : w1.cell? ⟨w.heap.size, 3, none⟩ = some (.slice pk lk ck) := bl hb1 (by rw [World.cell?_alloc_mark]; rfl)
      clear hb1
      go_wp2_with fail
      refine (HC3.out _ HB1.out).mono ?_
      rintro e w2 ⟨rfl, hb2⟩
      go_wp2
      go_ret
      exact ⟨rfl, HB1.out.trans (hb2.mono HB1.out.size)⟩
  · rw [szR_neg hz] at HC1
    have hR : szR left (z1 + z2) = -1 := szR_neg (by omega)
    rw [hR]
    go_enter Try.func29, Try.ntmps29
    go_wp2_with fail
    refine (HC1.out _ (one _ _)).mono ?_
    rintro e w1 ⟨rfl, hb1⟩
    go_wp2
    go_ret
    exact ⟨rfl, of_one hb1⟩
theorem szNet_any : ∀ n, SzN n
  | 0 => fun _ _ _ _ _ h => h.elim
  | n + 1 => szNet_next n (szNet_any n)
end Go.Proofs.Ytkkkjhlbkmcjiaa.Tr
