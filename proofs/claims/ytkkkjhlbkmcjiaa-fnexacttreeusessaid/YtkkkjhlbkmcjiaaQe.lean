/- How the exact laws count the values of nets and arms. Helper text: no statement is claimed here. -/
import Derived.Test.YtkkkjhlbkmcjiaaQd
namespace Go.Proofs.Ytkkkjhlbkmcjiaa.Tr
open Go.ChangeShapes Go.WideShapes Go.ChangeAt Go.RowKit

/-- What is left behind z values. -/
def szR (left : Int) (z : Nat) : Int := if (z : Int) ≤ left then left - z else -1
theorem szR_pos {left : Int} {z : Nat} (h : (z : Int) ≤ left) : szR left z = left - z := if_pos h
theorem szR_neg {left : Int} {z : Nat} (h : ¬ (z : Int) ≤ left) : szR left z = -1 := if_neg h

theorem szArgs_any (p : Option Addr) (n cap : Nat) (left : Int) (hn : n ≤ 9223372036854775807) (h0 : 0 ≤ left) (h1 : left ≤ 1048576) (w : World) :
    Calls Try.prog 56 #[.slice p n cap, .int .i64 left] w fun e w' => e = .returned (.int .i64 (szR left n)) ∧ Below w.heap.size w w' := by
  by_cases h : (n : Int) ≤ left
  · rw [szR_pos h]
    have h' : ¬ (left - (n : Int)) < 0 := by omega
    go_enter Try.func56, Try.ntmps56
    go_wp2
    go_ret
    exact ⟨rfl, Below.refl _ _⟩
  · rw [szR_neg h]
    have h' : (left - (n : Int)) < 0 := by omega
    go_enter Try.func56, Try.ntmps56
    go_wp2
    go_ret
    exact ⟨rfl, Below.refl _ _⟩

theorem szElem_any {S : Nat → Prop} {w : World} {v : Value} {e : El} (hV : ElV S w v e) (left : Int) (h0 : 0 ≤ left) (h1 : left ≤ 1048576) :
    Calls Try.prog 47 #[v, .int .i64 left] w fun r w' => r = .returned (.int .i64 (szR left (zEl e))) ∧ Below w.heap.size w w' := by
  obtain ⟨pa, ca, rfl, ⟨hl1, hl2⟩, -⟩ := hV
  obtain ⟨op, ys⟩ := e
  have hS : ∀ W, Calls Try.prog 56 #[.slice pa ys.length ca, .int .i64 left] W fun e w' => e = .returned (.int .i64 (szR left ys.length)) ∧ Below W.heap.size W w' := fun W => szArgs_any pa ys.length ca left hl2 h0 h1 W
  have HS : Hid _ := hS
  clear hS
  show Calls _ _ #[.agg #[.int .i64 op, .slice pa ys.length ca], _] _ fun r w' => r = .returned (.int .i64 (szR left ys.length)) ∧ _
  by_cases h : (ys.length : Int) ≤ left
  · rw [szR_pos h] at HS ⊢
    have h' : ¬ (left - (ys.length : Int)) < 0 := by omega
    go_enter Try.func47, Try.ntmps47
    go_wp2_with fail
    refine (HS.out _).mono ?_
    rintro e w1 ⟨rfl, hb⟩
    go_wp2
    go_ret
    exact ⟨rfl, of_one hb⟩
  · rw [szR_neg h] at HS ⊢
    go_enter Try.func47, Try.ntmps47
    go_wp2_with fail
    refine (HS.out _).mono ?_
    rintro e w1 ⟨rfl, hb⟩
    go_wp2
    go_ret
    exact ⟨rfl, of_one hb⟩

set_option maxHeartbeats 1000000 in
theorem szElems_any {S : Nat → Prop} {w : World} (hSw : ∀ b, S b → b < w.heap.size) (p : Option Addr) (cap : Nat) (es : List (El)) (hV : SlOf S (ElE S w) 2 p cap es) (left : Int) (h0 : 0 ≤ left) (h1 : left ≤ 1048576) :
    Calls Try.prog 30 #[.slice p es.length cap, .int .i64 left] w fun r w' => r = .returned (.int .i64 (szR left (zEls es))) ∧ Below w.heap.size w w' := by
  have HV : Hid (SlOf S (ElE S w) 2 p cap es) := hV
  have HSw : Hid (∀ b, S b → b < w.heap.size) := hSw
  obtain ⟨⟨hl1, hl2⟩, -⟩ := hV
  clear hSw
  obtain ⟨R, hR⟩ : ∃ R, R = szR left (zEls es) := ⟨_, rfl⟩
  rw [← hR]
  have HR : Hid (R = szR left (zEls es)) := hR
  clear hR
  by_cases hlen : (es.length : Int) ≤ left
  · have h' : ¬ (left - (es.length : Int)) < 0 := by omega
    go_enter Try.func30, Try.ntmps30
    go_wp2
    go_loopw [1, 5] (fun c d w' => ∃ j : Nat, j ≤ es.length ∧ ((es.length + tot (zEl) (es.take j) : Nat) : Int) ≤ left ∧ c = .int .i64 (left - ((es.length + tot (zEl) (es.take j) : Nat) : Int)) ∧ d = .int .i64 (j : Int) ∧ Hid (Below w.heap.size w w')) (fun _ d _ => es.length - (intOf d).toNat)
    case atStart => exact ⟨0, by omega, by simpa [tot] using hlen, by simp [tot], rfl, Below.refl _ _⟩
    case round =>
      obtain ⟨j, hj, hle, rfl, rfl, HB⟩ := hrel
      rename_i wr
      by_cases hlt : j < es.length
      · have hlt' : (j : Int) < (es.length : Int) := by omega
        obtain ⟨t, ht⟩ := get_lt hlt
        have hbd := tot_next (zEl) ht
        obtain ⟨b, off, rfl, hb, pa, ca, c0, c1, hA⟩ := (els_to (Keep.of HB.out HSw.out) (fun _ h => h) HV.out).get ht
        have hbl : b < wr.heap.size := World.block_lt_of_cell? _ _ c0
        have HE : Hid (ElV S wr (.agg #[.int .i64 t.1, .slice pa t.2.length ca]) t) := ⟨pa, ca, rfl, hA⟩
        clear hA
        generalize hL : left - ((es.length + tot (zEl) (es.take j) : Nat) : Int) = L at *
        have hL0 : 0 ≤ L := by omega
        have hL1 : L ≤ 1048576 := by omega
        have HC : Hid (Calls Try.prog 47 #[.agg #[.int .i64 t.1, .slice pa t.2.length ca], .int .i64 L] wr fun r w' => r = .returned (.int .i64 (szR L (zEl t))) ∧ Below wr.heap.size wr w') := szElem_any HE.out L hL0 hL1
        by_cases hz : ((zEl t : Nat) : Int) ≤ L
        · have hz' : ¬ (L - ((zEl t : Nat) : Int)) < 0 := by omega
          rw [szR_pos hz] at HC
          clear HR
          generalize hZ : zEl t = z at *
          go_wp2_with fail
          refine HC.out.mono ?_
          rintro e w1 ⟨rfl, hb1⟩
          have HB1 : Hid (Below w.heap.size w w1) := HB.out.trans (hb1.mono HB.out.size)
          clear hb1
          go_wp2
          exact ⟨⟨j + 1, by omega, by omega, by congr 1; omega, by go_num, HB1⟩, by simp [intOf]; omega⟩
        · rw [szR_neg hz] at HC
          have htot := tot_le (zEl) es (j + 1)
          have HR1 : Hid (R = -1) := HR.out.trans (szR_neg (by unfold zEls; omega))
          generalize hZ : zEl t = z at *
          go_wp2_with fail
          refine HC.out.mono ?_
          rintro e w1 ⟨rfl, hb1⟩
          have HB1 : Hid (Below w.heap.size w w1) := HB.out.trans (hb1.mono HB.out.size)
          clear hb1
          go_wp2
          go_ret
          exact ⟨by rw [HR1.out]; rfl, HB1.out⟩
      · obtain rfl : j = es.length := by omega
        have HR1 : Hid (R = left - ((es.length + tot (zEl) (es.take es.length) : Nat) : Int)) := by
          rw [List.take_length] at hle ⊢
          exact HR.out.trans (szR_pos hle)
        generalize left - ((es.length + tot (zEl) (es.take es.length) : Nat) : Int) = L at *
        go_wp2
        go_ret
        exact ⟨by rw [HR1.out]; rfl, HB.out⟩
  · have h' : (left - (es.length : Int)) < 0 := by omega
    have HR1 : Hid (R = -1) := HR.out.trans (szR_neg (by unfold zEls; omega))
    go_enter Try.func30, Try.ntmps30
    go_wp2
    go_ret
    exact ⟨by rw [HR1.out]; rfl, Below.refl _ _⟩

/-- The counting of nets of a depth below n. -/
def SzN (n : Nat) : Prop := ∀ (S : Nat → Prop) (w : World) (_ : ∀ b, S b → b < w.heap.size) (v : Value) (t : NT n) (_ : NtV S w n v t) (left : Int) (_ : 0 ≤ left) (_ : left ≤ 1048576),
    Calls Try.prog 29 #[v, .int .i64 left] w fun r w' => r = .returned (.int .i64 (szR left (zN n t))) ∧ Below w.heap.size w w'
def SzA (k n : Nat) : Prop := ∀ (S : Nat → Prop) (w : World) (_ : ∀ b, S b → b < w.heap.size) (v : Value) (t : AT k n) (_ : AmV S w k n v t) (left : Int) (_ : 0 ≤ left) (_ : left ≤ 1048576),
    Calls Try.prog 16 #[v, .int .i64 left] w fun r w' => r = .returned (.int .i64 (szR left (zA k n t))) ∧ Below w.heap.size w w'
set_option maxHeartbeats 1000000 in
theorem szNets_any {S : Nat → Prop} {w : World} (hSw : ∀ b, S b → b < w.heap.size) (n : Nat) (IH : Hid (SzN n)) (p : Option Addr) (cap : Nat) (es : List (NT n)) (hV : SlOf S (NtE S w n) 4 p cap es) (left : Int) (h0 : 0 ≤ left) (h1 : left ≤ 1048576) :
    Calls Try.prog 48 #[.slice p es.length cap, .int .i64 left] w fun r w' => r = .returned (.int .i64 (szR left (zNs n es))) ∧ Below w.heap.size w w' := by
  have HV : Hid (SlOf S (NtE S w n) 4 p cap es) := hV
  have HSw : Hid (∀ b, S b → b < w.heap.size) := hSw
  obtain ⟨⟨hl1, hl2⟩, -⟩ := hV
  clear hSw
  obtain ⟨R, hR⟩ : ∃ R, R = szR left (zNs n es) := ⟨_, rfl⟩
  rw [← hR]
  have HR : Hid (R = szR left (zNs n es)) := hR
  clear hR
  by_cases hlen : (es.length : Int) ≤ left
  · have h' : ¬ (left - (es.length : Int)) < 0 := by omega
    go_enter Try.func48, Try.ntmps48
    go_wp2
    go_loopw [1, 5] (fun c d w' => ∃ j : Nat, j ≤ es.length ∧ ((es.length + tot (zN n) (es.take j) : Nat) : Int) ≤ left ∧ c = .int .i64 (left - ((es.length + tot (zN n) (es.take j) : Nat) : Int)) ∧ d = .int .i64 (j : Int) ∧ Hid (Below w.heap.size w w')) (fun _ d _ => es.length - (intOf d).toNat)
    case atStart => exact ⟨0, by omega, by simpa [tot] using hlen, by simp [tot], rfl, Below.refl _ _⟩
    case round =>
      obtain ⟨j, hj, hle, rfl, rfl, HB⟩ := hrel
      rename_i wr
      by_cases hlt : j < es.length
      · have hlt' : (j : Int) < (es.length : Int) := by omega
        obtain ⟨t, ht⟩ := get_lt hlt
        have hbd := tot_next (zN n) ht
        obtain ⟨b, off, rfl, hb, hE⟩ := (nets_to (Keep.of HB.out HSw.out) (fun _ h => h) HV.out).get ht
        obtain ⟨kd, op, pa, la, ca, pk, lk, ck, c0, c1, c2, c3, hN⟩ := hE.out
        have hbl : b < wr.heap.size := World.block_lt_of_cell? _ _ c0
        have HE : Hid (NtV S wr n (.agg #[.int .i64 kd, .int .i64 op, .slice pa la ca, .slice pk lk ck]) t) := hN
        clear hN hE
        generalize hL : left - ((es.length + tot (zN n) (es.take j) : Nat) : Int) = L at *
        have hL0 : 0 ≤ L := by omega
        have hL1 : L ≤ 1048576 := by omega
        have HC : Hid (Calls Try.prog 29 #[.agg #[.int .i64 kd, .int .i64 op, .slice pa la ca, .slice pk lk ck], .int .i64 L] wr fun r w' => r = .returned (.int .i64 (szR L (zN n t))) ∧ Below wr.heap.size wr w') := IH.out S wr (fun b hb => Nat.lt_of_lt_of_le (HSw.out b hb) HB.out.size) _ t HE.out L hL0 hL1
        by_cases hz : ((zN n t : Nat) : Int) ≤ L
        · have hz' : ¬ (L - ((zN n t : Nat) : Int)) < 0 := by omega
          rw [szR_pos hz] at HC
          clear HR
          generalize hZ : zN n t = z at *
          go_wp2_with fail
          refine HC.out.mono ?_
          rintro e w1 ⟨rfl, hb1⟩
          have HB1 : Hid (Below w.heap.size w w1) := HB.out.trans (hb1.mono HB.out.size)
          clear hb1
          go_wp2
          exact ⟨⟨j + 1, by omega, by omega, by congr 1; omega, by go_num, HB1⟩, by simp [intOf]; omega⟩
        · rw [szR_neg hz] at HC
          have htot := tot_le (zN n) es (j + 1)
          have HR1 : Hid (R = -1) := HR.out.trans (szR_neg (by unfold zNs; omega))
          generalize hZ : zN n t = z at *
          go_wp2_with fail
          refine HC.out.mono ?_
          rintro e w1 ⟨rfl, hb1⟩
          have HB1 : Hid (Below w.heap.size w w1) := HB.out.trans (hb1.mono HB.out.size)
          clear hb1
          go_wp2
          go_ret
          exact ⟨by rw [HR1.out]; rfl, HB1.out⟩
      · obtain rfl : j = es.length := by omega
        have HR1 : Hid (R = left - ((es.length + tot (zN n) (es.take es.length) : Nat) : Int)) := by
          rw [List.take_length] at hle ⊢
          exact HR.out.trans (szR_pos hle)
        generalize left - ((es.length + tot (zN n) (es.take es.length) : Nat) : Int) = L at *
        go_wp2
        go_ret
        exact ⟨by rw [HR1.out]; rfl, HB.out⟩
  · have h' : (left - (es.length : Int)) < 0 := by omega
    have HR1 : Hid (R = -1) := HR.out.trans (szR_neg (by unfold zNs; omega))
    go_enter Try.func48, Try.ntmps48
    go_wp2
    go_ret
    exact ⟨by rw [HR1.out]; rfl, Below.refl _ _⟩
end Go.Proofs.Ytkkkjhlbkmcjiaa.Tr
