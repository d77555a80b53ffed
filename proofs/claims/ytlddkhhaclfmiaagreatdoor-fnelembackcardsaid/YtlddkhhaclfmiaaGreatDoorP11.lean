/- The document's ElemText of contacts, and whole. Helper text: no statement is claimed here. -/
import Derived.Test.YtlddkhhaclfmiaaGreatDoorLq
import Derived.Test.YtlddkhhaclfmiaaGreatDoorP07
namespace Go.Proofs.YtlddkhhaclfmiaaGreatDoor
open Go.ChangeShapes Go.WideShapes Go.ChangeAt Go.RowKit

theorem eT_con {i : Nat} {ys : List Ar} (h : i ≤ 10) (hc : conB (i : Int) ys = true) : eT (i : Int) ys = ah i ++ Lib.join (ys.map tx) (bt i) := by
  have hk : okA (ez (i : Int)) ys = true := by
    simp only [conB, Bool.and_eq_true] at hc; exact hc.2
  unfold eT
  rw [if_pos hk, ez_nat i (show i < 38 by omega)]
theorem eT_one {i : Nat} {a : Ar} (h : i ≤ 10) (hc : conB (i : Int) [a] = true) : eT (i : Int) [a] = ah i ++ txt a.1 a.2.1 a.2.2 := by
  rw [eT_con h hc]; simp [Lib.join, tx]
theorem eT_two {i : Nat} {a b : Ar} (h : i ≤ 10) (hc : conB (i : Int) [a, b] = true) : eT (i : Int) [a, b] = ah i ++ (txt a.1 a.2.1 a.2.2 ++ (bt i ++ txt b.1 b.2.1 b.2.2)) := by
  rw [eT_con h hc]; simp [Lib.join, List.intercalate, tx]
theorem coil_no {op : Int} {ys : List Ar} (h : op < 21 ∨ 37 < op) : coilB op ys = false := by simp [coilB, nm_no op h]
theorem grownS_5 {w : World} (d : Nat) (os : Array Obj) :
    Calls Tryz.prog 29 #[.int .i64 5] (Sort.grow (redrawn w d) os) fun e w'' => e = .returned (.string ⟨(bt 5).toArray⟩) ∧ ∃ p' : Regrown, w'' = Sort.grow (redrawn w p'.d) p'.os := grownSign (i := 5) (by omega) (by omega) d os
theorem grownS_6 {w : World} (d : Nat) (os : Array Obj) :
    Calls Tryz.prog 29 #[.int .i64 6] (Sort.grow (redrawn w d) os) fun e w'' => e = .returned (.string ⟨(bt 6).toArray⟩) ∧ ∃ p' : Regrown, w'' = Sort.grow (redrawn w p'.d) p'.os := grownSign (i := 6) (by omega) (by omega) d os
theorem grownS_7 {w : World} (d : Nat) (os : Array Obj) :
    Calls Tryz.prog 29 #[.int .i64 7] (Sort.grow (redrawn w d) os) fun e w'' => e = .returned (.string ⟨(bt 7).toArray⟩) ∧ ∃ p' : Regrown, w'' = Sort.grow (redrawn w p'.d) p'.os := grownSign (i := 7) (by omega) (by omega) d os
theorem grownS_8 {w : World} (d : Nat) (os : Array Obj) :
    Calls Tryz.prog 29 #[.int .i64 8] (Sort.grow (redrawn w d) os) fun e w'' => e = .returned (.string ⟨(bt 8).toArray⟩) ∧ ∃ p' : Regrown, w'' = Sort.grow (redrawn w p'.d) p'.os := grownSign (i := 8) (by omega) (by omega) d os
theorem grownS_9 {w : World} (d : Nat) (os : Array Obj) :
    Calls Tryz.prog 29 #[.int .i64 9] (Sort.grow (redrawn w d) os) fun e w'' => e = .returned (.string ⟨(bt 9).toArray⟩) ∧ ∃ p' : Regrown, w'' = Sort.grow (redrawn w p'.d) p'.os := grownSign (i := 9) (by omega) (by omega) d os
theorem grownS_10 {w : World} (d : Nat) (os : Array Obj) :
    Calls Tryz.prog 29 #[.int .i64 10] (Sort.grow (redrawn w d) os) fun e w'' => e = .returned (.string ⟨(bt 10).toArray⟩) ∧ ∃ p' : Regrown, w'' = Sort.grow (redrawn w p'.d) p'.os := grownSign (i := 10) (by omega) (by omega) d os
set_option maxHeartbeats 1000000 in
theorem selem_1 (a : Ar) (bk cap : Nat) (w : World) (hA : ArgsAt w bk [a]) (hbl : bk < w.heap.size) (hlc : 1 ≤ cap) (hc : conB 1 [a] = true) :
    Calls Tryz.prog 7 #[elemV 1 (some ⟨bk, 0, none⟩) 1 cap] w fun e w' => e = .returned (.string ⟨(eT 1 [a]).toArray⟩) ∧ Below w.heap.size w w' := by
  have HA : Hid (ArgsAt w bk [a]) := hA
  have HK : Hid (∀ W, ArgsIs W (some ⟨bk, 0, none⟩) [a] → Calls Tryz.prog 25 #[elemV 1 (some ⟨bk, 0, none⟩) 1 cap] W fun e w' => e = .returned (.bool false) ∧ Below W.heap.size W w') := fun W h => by
    have := sCoil_any 1 [a] (some ⟨bk, 0, none⟩) cap W h hlc
    rwa [coil_no (by omega)] at this
  have HC : Hid (∀ W, ArgsIs W (some ⟨bk, 0, none⟩) [a] → Calls Tryz.prog 28 #[elemV 1 (some ⟨bk, 0, none⟩) 1 cap] W fun e w' => e = .returned (.bool true) ∧ Below W.heap.size W w') := fun W h => by
    have := sCon_any 1 [a] (some ⟨bk, 0, none⟩) cap W h hlc
    rwa [hc] at this
  have HX : Hid (eT 1 [a] = _) := eT_one (i := 1) (by omega) hc
  clear hA hc
  go_enter Tryz.func7, Tryz.ntmps7
  go_wp2_with fail
  refine (HK.out _ (.inr ⟨bk, rfl, by simp; omega, HA.out.to hbl (one _ _)⟩)).mono ?_
  rintro e w1 ⟨rfl, hb1⟩
  have HB1 : Hid (Below w.heap.size w w1) := of_one hb1
  have e0 : w1.cell? ⟨w.heap.size, 0, none⟩ = some (.int .i64 1) := (hb1.cell (p := ⟨w.heap.size, 0, none⟩) (by simp)).trans (by rw [World.cell?_alloc_mark]; rfl)
  have e1 : w1.cell? ⟨w.heap.size, 1, none⟩ = some (.slice (some ⟨bk, 0, none⟩) 1 cap) := (hb1.cell (p := ⟨w.heap.size, 1, none⟩) (by simp)).trans (by rw [World.cell?_alloc_mark]; rfl)
  clear hb1 HK
  go_wp2_with fail
  refine (HC.out _ (.inr ⟨bk, rfl, Nat.lt_of_lt_of_le hbl HB1.out.size, HA.out.to hbl HB1.out⟩)).mono ?_
  rintro e w2 ⟨rfl, hb2⟩
  have HB2 : Hid (Below w.heap.size w w2) := HB1.out.trans (hb2.mono HB1.out.size)
  replace e0 := keepc hb2 e0
  replace e1 := keepc hb2 e1
  clear hb2 HC
  obtain ⟨a0, a1, a2⟩ := args_cells (HA.out.to hbl HB2.out) 0 a rfl
  simp only [Nat.zero_mul, Nat.zero_add] at a0 a1 a2
  have hlt := txt_len a.1 a.2.1 a.2.2
  obtain ⟨k, n, q⟩ := a
  go_wp2_with fail
  refine (stext_any k n q _).mono ?_
  rintro e w3 ⟨rfl, hb3⟩
  have HB3 : Hid (Below w.heap.size w w3) := HB2.out.trans (hb3.mono HB2.out.size)
  go_wp2
  go_ret
  exact ⟨by rw [HX.out]; exact ret_str (by simp [ah, nm]), HB3.out⟩

set_option maxHeartbeats 1000000 in
theorem selem_2 (a : Ar) (bk cap : Nat) (w : World) (hA : ArgsAt w bk [a]) (hbl : bk < w.heap.size) (hlc : 1 ≤ cap) (hc : conB 2 [a] = true) :
    Calls Tryz.prog 7 #[elemV 2 (some ⟨bk, 0, none⟩) 1 cap] w fun e w' => e = .returned (.string ⟨(eT 2 [a]).toArray⟩) ∧ Below w.heap.size w w' := by
  have HA : Hid (ArgsAt w bk [a]) := hA
  have HK : Hid (∀ W, ArgsIs W (some ⟨bk, 0, none⟩) [a] → Calls Tryz.prog 25 #[elemV 2 (some ⟨bk, 0, none⟩) 1 cap] W fun e w' => e = .returned (.bool false) ∧ Below W.heap.size W w') := fun W h => by
    have := sCoil_any 2 [a] (some ⟨bk, 0, none⟩) cap W h hlc
    rwa [coil_no (by omega)] at this
  have HC : Hid (∀ W, ArgsIs W (some ⟨bk, 0, none⟩) [a] → Calls Tryz.prog 28 #[elemV 2 (some ⟨bk, 0, none⟩) 1 cap] W fun e w' => e = .returned (.bool true) ∧ Below W.heap.size W w') := fun W h => by
    have := sCon_any 2 [a] (some ⟨bk, 0, none⟩) cap W h hlc
    rwa [hc] at this
  have HX : Hid (eT 2 [a] = _) := eT_one (i := 2) (by omega) hc
  clear hA hc
  go_enter Tryz.func7, Tryz.ntmps7
  go_wp2_with fail
  refine (HK.out _ (.inr ⟨bk, rfl, by simp; omega, HA.out.to hbl (one _ _)⟩)).mono ?_
  rintro e w1 ⟨rfl, hb1⟩
  have HB1 : Hid (Below w.heap.size w w1) := of_one hb1
  have e0 : w1.cell? ⟨w.heap.size, 0, none⟩ = some (.int .i64 2) := (hb1.cell (p := ⟨w.heap.size, 0, none⟩) (by simp)).trans (by rw [World.cell?_alloc_mark]; rfl)
  have e1 : w1.cell? ⟨w.heap.size, 1, none⟩ = some (.slice (some ⟨bk, 0, none⟩) 1 cap) := (hb1.cell (p := ⟨w.heap.size, 1, none⟩) (by simp)).trans (by rw [World.cell?_alloc_mark]; rfl)
  clear hb1 HK
  go_wp2_with fail
  refine (HC.out _ (.inr ⟨bk, rfl, Nat.lt_of_lt_of_le hbl HB1.out.size, HA.out.to hbl HB1.out⟩)).mono ?_
  rintro e w2 ⟨rfl, hb2⟩
  have HB2 : Hid (Below w.heap.size w w2) := HB1.out.trans (hb2.mono HB1.out.size)
  replace e0 := keepc hb2 e0
  replace e1 := keepc hb2 e1
  clear hb2 HC
  obtain ⟨a0, a1, a2⟩ := args_cells (HA.out.to hbl HB2.out) 0 a rfl
  simp only [Nat.zero_mul, Nat.zero_add] at a0 a1 a2
  have hlt := txt_len a.1 a.2.1 a.2.2
  obtain ⟨k, n, q⟩ := a
  go_wp2_with fail
  refine (stext_any k n q _).mono ?_
  rintro e w3 ⟨rfl, hb3⟩
  have HB3 : Hid (Below w.heap.size w w3) := HB2.out.trans (hb3.mono HB2.out.size)
  go_wp2
  go_ret
  exact ⟨by rw [HX.out]; exact ret_str (cat' [47] _), HB3.out⟩

set_option maxHeartbeats 2000000 in
theorem selem_3 (a b : Ar) (bk cap : Nat) (w : World) (hA : ArgsAt w bk [a, b]) (hbl : bk < w.heap.size) (hlc : 2 ≤ cap) (hc : conB 3 [a, b] = true) :
    Calls Tryz.prog 7 #[elemV 3 (some ⟨bk, 0, none⟩) 2 cap] w fun e w' => e = .returned (.string ⟨(eT 3 [a, b]).toArray⟩) ∧ Below w.heap.size w w' := by
  have HA : Hid (ArgsAt w bk [a, b]) := hA
  have HK : Hid (∀ W, ArgsIs W (some ⟨bk, 0, none⟩) [a, b] → Calls Tryz.prog 25 #[elemV 3 (some ⟨bk, 0, none⟩) 2 cap] W fun e w' => e = .returned (.bool false) ∧ Below W.heap.size W w') := fun W h => by
    have := sCoil_any 3 [a, b] (some ⟨bk, 0, none⟩) cap W h hlc
    rwa [coil_no (by omega)] at this
  have HC : Hid (∀ W, ArgsIs W (some ⟨bk, 0, none⟩) [a, b] → Calls Tryz.prog 28 #[elemV 3 (some ⟨bk, 0, none⟩) 2 cap] W fun e w' => e = .returned (.bool true) ∧ Below W.heap.size W w') := fun W h => by
    have := sCon_any 3 [a, b] (some ⟨bk, 0, none⟩) cap W h hlc
    rwa [hc] at this
  have HX : Hid (eT 3 [a, b] = _) := eT_two (i := 3) (by omega) hc
  clear hA hc
  go_enter Tryz.func7, Tryz.ntmps7
  go_wp2_with fail
  refine (HK.out _ (.inr ⟨bk, rfl, by simp; omega, HA.out.to hbl (one _ _)⟩)).mono ?_
  rintro e w1 ⟨rfl, hb1⟩
  have HB1 : Hid (Below w.heap.size w w1) := of_one hb1
  have e0 : w1.cell? ⟨w.heap.size, 0, none⟩ = some (.int .i64 3) := (hb1.cell (p := ⟨w.heap.size, 0, none⟩) (by simp)).trans (by rw [World.cell?_alloc_mark]; rfl)
  have e1 : w1.cell? ⟨w.heap.size, 1, none⟩ = some (.slice (some ⟨bk, 0, none⟩) 2 cap) := (hb1.cell (p := ⟨w.heap.size, 1, none⟩) (by simp)).trans (by rw [World.cell?_alloc_mark]; rfl)
  clear hb1 HK
  go_wp2_with fail
  refine (HC.out _ (.inr ⟨bk, rfl, Nat.lt_of_lt_of_le hbl HB1.out.size, HA.out.to hbl HB1.out⟩)).mono ?_
  rintro e w2 ⟨rfl, hb2⟩
  have HB2 : Hid (Below w.heap.size w w2) := HB1.out.trans (hb2.mono HB1.out.size)
  replace e0 := keepc hb2 e0
  replace e1 := keepc hb2 e1
  clear hb2 HC
  obtain ⟨a0, a1, a2⟩ := args_cells (HA.out.to hbl HB2.out) 0 a rfl
  simp only [Nat.zero_mul, Nat.zero_add] at a0 a1 a2
  obtain ⟨b0, b1, b2⟩ := args_cells (HA.out.to hbl HB2.out) 1 b rfl
  simp only [Nat.one_mul, Nat.reduceAdd] at b0 b1 b2
  have hlt := txt_len a.1 a.2.1 a.2.2
  have hlt2 := txt_len b.1 b.2.1 b.2.2
  obtain ⟨k, n, q⟩ := a
  obtain ⟨k2, n2, q2⟩ := b
  have g0 := cell_regrown e0
  have g1 := cell_regrown e1
  have g2 := cell_regrown a0
  have g3 := cell_regrown a1
  have g4 := cell_regrown a2
  have g5 := cell_regrown b0
  have g6 := cell_regrown b1
  have g7 := cell_regrown b2
  go_wp2
  refine wp_region_quiet_below (by kernel_rfl) (by kernel_rfl) ?_
  repeat (first | go_big_quiet_step ((first | exact grownText _ _)) | quiet_step ((first | exact grownText _ _)))
  refine wpQuiet_nil ?_
  intro _ hw'
  obtain ⟨⟨dq, osq⟩, hw''⟩ := hw'
  subst hw''
  go_wp2
  go_ret
  exact ⟨by rw [HX.out]; exact ret_str (by first | rfl | (simp [ah, bt, nm, ts, cat'])), HB2.out.trans ((below_regrown _ dq osq).mono HB2.out.size)⟩

set_option maxHeartbeats 2000000 in
theorem selem_4 (a b : Ar) (bk cap : Nat) (w : World) (hA : ArgsAt w bk [a, b]) (hbl : bk < w.heap.size) (hlc : 2 ≤ cap) (hc : conB 4 [a, b] = true) :
    Calls Tryz.prog 7 #[elemV 4 (some ⟨bk, 0, none⟩) 2 cap] w fun e w' => e = .returned (.string ⟨(eT 4 [a, b]).toArray⟩) ∧ Below w.heap.size w w' := by
  have HA : Hid (ArgsAt w bk [a, b]) := hA
  have HK : Hid (∀ W, ArgsIs W (some ⟨bk, 0, none⟩) [a, b] → Calls Tryz.prog 25 #[elemV 4 (some ⟨bk, 0, none⟩) 2 cap] W fun e w' => e = .returned (.bool false) ∧ Below W.heap.size W w') := fun W h => by
    have := sCoil_any 4 [a, b] (some ⟨bk, 0, none⟩) cap W h hlc
    rwa [coil_no (by omega)] at this
  have HC : Hid (∀ W, ArgsIs W (some ⟨bk, 0, none⟩) [a, b] → Calls Tryz.prog 28 #[elemV 4 (some ⟨bk, 0, none⟩) 2 cap] W fun e w' => e = .returned (.bool true) ∧ Below W.heap.size W w') := fun W h => by
    have := sCon_any 4 [a, b] (some ⟨bk, 0, none⟩) cap W h hlc
    rwa [hc] at this
  have HX : Hid (eT 4 [a, b] = _) := eT_two (i := 4) (by omega) hc
  clear hA hc
  go_enter Tryz.func7, Tryz.ntmps7
  go_wp2_with fail
  refine (HK.out _ (.inr ⟨bk, rfl, by simp; omega, HA.out.to hbl (one _ _)⟩)).mono ?_
  rintro e w1 ⟨rfl, hb1⟩
  have HB1 : Hid (Below w.heap.size w w1) := of_one hb1
  have e0 : w1.cell? ⟨w.heap.size, 0, none⟩ = some (.int .i64 4) := (hb1.cell (p := ⟨w.heap.size, 0, none⟩) (by simp)).trans (by rw [World.cell?_alloc_mark]; rfl)
  have e1 : w1.cell? ⟨w.heap.size, 1, none⟩ = some (.slice (some ⟨bk, 0, none⟩) 2 cap) := (hb1.cell (p := ⟨w.heap.size, 1, none⟩) (by simp)).trans (by rw [World.cell?_alloc_mark]; rfl)
  clear hb1 HK
  go_wp2_with fail
  refine (HC.out _ (.inr ⟨bk, rfl, Nat.lt_of_lt_of_le hbl HB1.out.size, HA.out.to hbl HB1.out⟩)).mono ?_
  rintro e w2 ⟨rfl, hb2⟩
  have HB2 : Hid (Below w.heap.size w w2) := HB1.out.trans (hb2.mono HB1.out.size)
  replace e0 := keepc hb2 e0
  replace e1 := keepc hb2 e1
  clear hb2 HC
  obtain ⟨a0, a1, a2⟩ := args_cells (HA.out.to hbl HB2.out) 0 a rfl
  simp only [Nat.zero_mul, Nat.zero_add] at a0 a1 a2
  obtain ⟨b0, b1, b2⟩ := args_cells (HA.out.to hbl HB2.out) 1 b rfl
  simp only [Nat.one_mul, Nat.reduceAdd] at b0 b1 b2
  have hlt := txt_len a.1 a.2.1 a.2.2
  have hlt2 := txt_len b.1 b.2.1 b.2.2
  obtain ⟨k, n, q⟩ := a
  obtain ⟨k2, n2, q2⟩ := b
  have g0 := cell_regrown e0
  have g1 := cell_regrown e1
  have g2 := cell_regrown a0
  have g3 := cell_regrown a1
  have g4 := cell_regrown a2
  have g5 := cell_regrown b0
  have g6 := cell_regrown b1
  have g7 := cell_regrown b2
  go_wp2
  refine wp_region_quiet_below (by kernel_rfl) (by kernel_rfl) ?_
  repeat (first | go_big_quiet_step ((first | exact grownText _ _)) | quiet_step ((first | exact grownText _ _)))
  refine wpQuiet_nil ?_
  intro _ hw'
  obtain ⟨⟨dq, osq⟩, hw''⟩ := hw'
  subst hw''
  go_wp2
  go_ret
  exact ⟨by rw [HX.out]; exact ret_str (by first | rfl | (simp [ah, bt, nm, ts, cat'])), HB2.out.trans ((below_regrown _ dq osq).mono HB2.out.size)⟩

set_option maxHeartbeats 2000000 in
theorem selem_5 (a b : Ar) (bk cap : Nat) (w : World) (hA : ArgsAt w bk [a, b]) (hbl : bk < w.heap.size) (hlc : 2 ≤ cap) (hc : conB 5 [a, b] = true) :
    Calls Tryz.prog 7 #[elemV 5 (some ⟨bk, 0, none⟩) 2 cap] w fun e w' => e = .returned (.string ⟨(eT 5 [a, b]).toArray⟩) ∧ Below w.heap.size w w' := by
  have HA : Hid (ArgsAt w bk [a, b]) := hA
  have HK : Hid (∀ W, ArgsIs W (some ⟨bk, 0, none⟩) [a, b] → Calls Tryz.prog 25 #[elemV 5 (some ⟨bk, 0, none⟩) 2 cap] W fun e w' => e = .returned (.bool false) ∧ Below W.heap.size W w') := fun W h => by
    have := sCoil_any 5 [a, b] (some ⟨bk, 0, none⟩) cap W h hlc
    rwa [coil_no (by omega)] at this
  have HC : Hid (∀ W, ArgsIs W (some ⟨bk, 0, none⟩) [a, b] → Calls Tryz.prog 28 #[elemV 5 (some ⟨bk, 0, none⟩) 2 cap] W fun e w' => e = .returned (.bool true) ∧ Below W.heap.size W w') := fun W h => by
    have := sCon_any 5 [a, b] (some ⟨bk, 0, none⟩) cap W h hlc
    rwa [hc] at this
  have HX : Hid (eT 5 [a, b] = _) := eT_two (i := 5) (by omega) hc
  clear hA hc
  go_enter Tryz.func7, Tryz.ntmps7
  go_wp2_with fail
  refine (HK.out _ (.inr ⟨bk, rfl, by simp; omega, HA.out.to hbl (one _ _)⟩)).mono ?_
  rintro e w1 ⟨rfl, hb1⟩
  have HB1 : Hid (Below w.heap.size w w1) := of_one hb1
  have e0 : w1.cell? ⟨w.heap.size, 0, none⟩ = some (.int .i64 5) := (hb1.cell (p := ⟨w.heap.size, 0, none⟩) (by simp)).trans (by rw [World.cell?_alloc_mark]; rfl)
  have e1 : w1.cell? ⟨w.heap.size, 1, none⟩ = some (.slice (some ⟨bk, 0, none⟩) 2 cap) := (hb1.cell (p := ⟨w.heap.size, 1, none⟩) (by simp)).trans (by rw [World.cell?_alloc_mark]; rfl)
  clear hb1 HK
  go_wp2_with fail
  refine (HC.out _ (.inr ⟨bk, rfl, Nat.lt_of_lt_of_le hbl HB1.out.size, HA.out.to hbl HB1.out⟩)).mono ?_
  rintro e w2 ⟨rfl, hb2⟩
  have HB2 : Hid (Below w.heap.size w w2) := HB1.out.trans (hb2.mono HB1.out.size)
  replace e0 := keepc hb2 e0
  replace e1 := keepc hb2 e1
  clear hb2 HC
  obtain ⟨a0, a1, a2⟩ := args_cells (HA.out.to hbl HB2.out) 0 a rfl
  simp only [Nat.zero_mul, Nat.zero_add] at a0 a1 a2
  obtain ⟨b0, b1, b2⟩ := args_cells (HA.out.to hbl HB2.out) 1 b rfl
  simp only [Nat.one_mul, Nat.reduceAdd] at b0 b1 b2
  have hlt := txt_len a.1 a.2.1 a.2.2
  have hlt2 := txt_len b.1 b.2.1 b.2.2
  have hbt := bt_len 5
  obtain ⟨k, n, q⟩ := a
  obtain ⟨k2, n2, q2⟩ := b
  have g0 := cell_regrown e0
  have g1 := cell_regrown e1
  have g2 := cell_regrown a0
  have g3 := cell_regrown a1
  have g4 := cell_regrown a2
  have g5 := cell_regrown b0
  have g6 := cell_regrown b1
  have g7 := cell_regrown b2
  go_wp2
  refine wp_region_quiet_below (by kernel_rfl) (by kernel_rfl) ?_
  repeat (first | go_big_quiet_step ((first | exact grownText _ _ | exact grownS_5 _ _)) | quiet_step ((first | exact grownText _ _ | exact grownS_5 _ _)))
  refine wpQuiet_nil ?_
  intro _ hw'
  obtain ⟨⟨dq, osq⟩, hw''⟩ := hw'
  subst hw''
  go_wp2
  go_ret
  exact ⟨by rw [HX.out]; exact ret_str (by first | rfl | (simp [ah, bt, nm, ts, qL, cat'])), HB2.out.trans ((below_regrown _ dq osq).mono HB2.out.size)⟩

set_option maxHeartbeats 2000000 in
theorem selem_6 (a b : Ar) (bk cap : Nat) (w : World) (hA : ArgsAt w bk [a, b]) (hbl : bk < w.heap.size) (hlc : 2 ≤ cap) (hc : conB 6 [a, b] = true) :
    Calls Tryz.prog 7 #[elemV 6 (some ⟨bk, 0, none⟩) 2 cap] w fun e w' => e = .returned (.string ⟨(eT 6 [a, b]).toArray⟩) ∧ Below w.heap.size w w' := by
  have HA : Hid (ArgsAt w bk [a, b]) := hA
  have HK : Hid (∀ W, ArgsIs W (some ⟨bk, 0, none⟩) [a, b] → Calls Tryz.prog 25 #[elemV 6 (some ⟨bk, 0, none⟩) 2 cap] W fun e w' => e = .returned (.bool false) ∧ Below W.heap.size W w') := fun W h => by
    have := sCoil_any 6 [a, b] (some ⟨bk, 0, none⟩) cap W h hlc
    rwa [coil_no (by omega)] at this
  have HC : Hid (∀ W, ArgsIs W (some ⟨bk, 0, none⟩) [a, b] → Calls Tryz.prog 28 #[elemV 6 (some ⟨bk, 0, none⟩) 2 cap] W fun e w' => e = .returned (.bool true) ∧ Below W.heap.size W w') := fun W h => by
    have := sCon_any 6 [a, b] (some ⟨bk, 0, none⟩) cap W h hlc
    rwa [hc] at this
  have HX : Hid (eT 6 [a, b] = _) := eT_two (i := 6) (by omega) hc
  clear hA hc
  go_enter Tryz.func7, Tryz.ntmps7
  go_wp2_with fail
  refine (HK.out _ (.inr ⟨bk, rfl, by simp; omega, HA.out.to hbl (one _ _)⟩)).mono ?_
  rintro e w1 ⟨rfl, hb1⟩
  have HB1 : Hid (Below w.heap.size w w1) := of_one hb1
  have e0 : w1.cell? ⟨w.heap.size, 0, none⟩ = some (.int .i64 6) := (hb1.cell (p := ⟨w.heap.size, 0, none⟩) (by simp)).trans (by rw [World.cell?_alloc_mark]; rfl)
  have e1 : w1.cell? ⟨w.heap.size, 1, none⟩ = some (.slice (some ⟨bk, 0, none⟩) 2 cap) := (hb1.cell (p := ⟨w.heap.size, 1, none⟩) (by simp)).trans (by rw [World.cell?_alloc_mark]; rfl)
  clear hb1 HK
  go_wp2_with fail
  refine (HC.out _ (.inr ⟨bk, rfl, Nat.lt_of_lt_of_le hbl HB1.out.size, HA.out.to hbl HB1.out⟩)).mono ?_
  rintro e w2 ⟨rfl, hb2⟩
  have HB2 : Hid (Below w.heap.size w w2) := HB1.out.trans (hb2.mono HB1.out.size)
  replace e0 := keepc hb2 e0
  replace e1 := keepc hb2 e1
  clear hb2 HC
  obtain ⟨a0, a1, a2⟩ := args_cells (HA.out.to hbl HB2.out) 0 a rfl
  simp only [Nat.zero_mul, Nat.zero_add] at a0 a1 a2
  obtain ⟨b0, b1, b2⟩ := args_cells (HA.out.to hbl HB2.out) 1 b rfl
  simp only [Nat.one_mul, Nat.reduceAdd] at b0 b1 b2
  have hlt := txt_len a.1 a.2.1 a.2.2
  have hlt2 := txt_len b.1 b.2.1 b.2.2
  have hbt := bt_len 6
  obtain ⟨k, n, q⟩ := a
  obtain ⟨k2, n2, q2⟩ := b
  have g0 := cell_regrown e0
  have g1 := cell_regrown e1
  have g2 := cell_regrown a0
  have g3 := cell_regrown a1
  have g4 := cell_regrown a2
  have g5 := cell_regrown b0
  have g6 := cell_regrown b1
  have g7 := cell_regrown b2
  go_wp2
  refine wp_region_quiet_below (by kernel_rfl) (by kernel_rfl) ?_
  repeat (first | go_big_quiet_step ((first | exact grownText _ _ | exact grownS_6 _ _)) | quiet_step ((first | exact grownText _ _ | exact grownS_6 _ _)))
  refine wpQuiet_nil ?_
  intro _ hw'
  obtain ⟨⟨dq, osq⟩, hw''⟩ := hw'
  subst hw''
  go_wp2
  go_ret
  exact ⟨by rw [HX.out]; exact ret_str (by first | rfl | (simp [ah, bt, nm, ts, qL, cat'])), HB2.out.trans ((below_regrown _ dq osq).mono HB2.out.size)⟩

set_option maxHeartbeats 2000000 in
theorem selem_7 (a b : Ar) (bk cap : Nat) (w : World) (hA : ArgsAt w bk [a, b]) (hbl : bk < w.heap.size) (hlc : 2 ≤ cap) (hc : conB 7 [a, b] = true) :
    Calls Tryz.prog 7 #[elemV 7 (some ⟨bk, 0, none⟩) 2 cap] w fun e w' => e = .returned (.string ⟨(eT 7 [a, b]).toArray⟩) ∧ Below w.heap.size w w' := by
  have HA : Hid (ArgsAt w bk [a, b]) := hA
  have HK : Hid (∀ W, ArgsIs W (some ⟨bk, 0, none⟩) [a, b] → Calls Tryz.prog 25 #[elemV 7 (some ⟨bk, 0, none⟩) 2 cap] W fun e w' => e = .returned (.bool false) ∧ Below W.heap.size W w') := fun W h => by
    have := sCoil_any 7 [a, b] (some ⟨bk, 0, none⟩) cap W h hlc
    rwa [coil_no (by omega)] at this
  have HC : Hid (∀ W, ArgsIs W (some ⟨bk, 0, none⟩) [a, b] → Calls Tryz.prog 28 #[elemV 7 (some ⟨bk, 0, none⟩) 2 cap] W fun e w' => e = .returned (.bool true) ∧ Below W.heap.size W w') := fun W h => by
    have := sCon_any 7 [a, b] (some ⟨bk, 0, none⟩) cap W h hlc
    rwa [hc] at this
  have HX : Hid (eT 7 [a, b] = _) := eT_two (i := 7) (by omega) hc
  clear hA hc
  go_enter Tryz.func7, Tryz.ntmps7
  go_wp2_with fail
  refine (HK.out _ (.inr ⟨bk, rfl, by simp; omega, HA.out.to hbl (one _ _)⟩)).mono ?_
  rintro e w1 ⟨rfl, hb1⟩
  have HB1 : Hid (Below w.heap.size w w1) := of_one hb1
  have e0 : w1.cell? ⟨w.heap.size, 0, none⟩ = some (.int .i64 7) := (hb1.cell (p := ⟨w.heap.size, 0, none⟩) (by simp)).trans (by rw [World.cell?_alloc_mark]; rfl)
  have e1 : w1.cell? ⟨w.heap.size, 1, none⟩ = some (.slice (some ⟨bk, 0, none⟩) 2 cap) := (hb1.cell (p := ⟨w.heap.size, 1, none⟩) (by simp)).trans (by rw [World.cell?_alloc_mark]; rfl)
  clear hb1 HK
  go_wp2_with fail
  refine (HC.out _ (.inr ⟨bk, rfl, Nat.lt_of_lt_of_le hbl HB1.out.size, HA.out.to hbl HB1.out⟩)).mono ?_
  rintro e w2 ⟨rfl, hb2⟩
  have HB2 : Hid (Below w.heap.size w w2) := HB1.out.trans (hb2.mono HB1.out.size)
  replace e0 := keepc hb2 e0
  replace e1 := keepc hb2 e1
  clear hb2 HC
  obtain ⟨a0, a1, a2⟩ := args_cells (HA.out.to hbl HB2.out) 0 a rfl
  simp only [Nat.zero_mul, Nat.zero_add] at a0 a1 a2
  obtain ⟨b0, b1, b2⟩ := args_cells (HA.out.to hbl HB2.out) 1 b rfl
  simp only [Nat.one_mul, Nat.reduceAdd] at b0 b1 b2
  have hlt := txt_len a.1 a.2.1 a.2.2
  have hlt2 := txt_len b.1 b.2.1 b.2.2
  have hbt := bt_len 7
  obtain ⟨k, n, q⟩ := a
  obtain ⟨k2, n2, q2⟩ := b
  have g0 := cell_regrown e0
  have g1 := cell_regrown e1
  have g2 := cell_regrown a0
  have g3 := cell_regrown a1
  have g4 := cell_regrown a2
  have g5 := cell_regrown b0
  have g6 := cell_regrown b1
  have g7 := cell_regrown b2
  go_wp2
  refine wp_region_quiet_below (by kernel_rfl) (by kernel_rfl) ?_
  repeat (first | go_big_quiet_step ((first | exact grownText _ _ | exact grownS_7 _ _)) | quiet_step ((first | exact grownText _ _ | exact grownS_7 _ _)))
  refine wpQuiet_nil ?_
  intro _ hw'
  obtain ⟨⟨dq, osq⟩, hw''⟩ := hw'
  subst hw''
  go_wp2
  go_ret
  exact ⟨by rw [HX.out]; exact ret_str (by first | rfl | (simp [ah, bt, nm, ts, qL, cat'])), HB2.out.trans ((below_regrown _ dq osq).mono HB2.out.size)⟩

set_option maxHeartbeats 2000000 in
theorem selem_8 (a b : Ar) (bk cap : Nat) (w : World) (hA : ArgsAt w bk [a, b]) (hbl : bk < w.heap.size) (hlc : 2 ≤ cap) (hc : conB 8 [a, b] = true) :
    Calls Tryz.prog 7 #[elemV 8 (some ⟨bk, 0, none⟩) 2 cap] w fun e w' => e = .returned (.string ⟨(eT 8 [a, b]).toArray⟩) ∧ Below w.heap.size w w' := by
  have HA : Hid (ArgsAt w bk [a, b]) := hA
  have HK : Hid (∀ W, ArgsIs W (some ⟨bk, 0, none⟩) [a, b] → Calls Tryz.prog 25 #[elemV 8 (some ⟨bk, 0, none⟩) 2 cap] W fun e w' => e = .returned (.bool false) ∧ Below W.heap.size W w') := fun W h => by
    have := sCoil_any 8 [a, b] (some ⟨bk, 0, none⟩) cap W h hlc
    rwa [coil_no (by omega)] at this
  have HC : Hid (∀ W, ArgsIs W (some ⟨bk, 0, none⟩) [a, b] → Calls Tryz.prog 28 #[elemV 8 (some ⟨bk, 0, none⟩) 2 cap] W fun e w' => e = .returned (.bool true) ∧ Below W.heap.size W w') := fun W h => by
    have := sCon_any 8 [a, b] (some ⟨bk, 0, none⟩) cap W h hlc
    rwa [hc] at this
  have HX : Hid (eT 8 [a, b] = _) := eT_two (i := 8) (by omega) hc
  clear hA hc
  go_enter Tryz.func7, Tryz.ntmps7
  go_wp2_with fail
  refine (HK.out _ (.inr ⟨bk, rfl, by simp; omega, HA.out.to hbl (one _ _)⟩)).mono ?_
  rintro e w1 ⟨rfl, hb1⟩
  have HB1 : Hid (Below w.heap.size w w1) := of_one hb1
  have e0 : w1.cell? ⟨w.heap.size, 0, none⟩ = some (.int .i64 8) := (hb1.cell (p := ⟨w.heap.size, 0, none⟩) (by simp)).trans (by rw [World.cell?_alloc_mark]; rfl)
  have e1 : w1.cell? ⟨w.heap.size, 1, none⟩ = some (.slice (some ⟨bk, 0, none⟩) 2 cap) := (hb1.cell (p := ⟨w.heap.size, 1, none⟩) (by simp)).trans (by rw [World.cell?_alloc_mark]; rfl)
  clear hb1 HK
  go_wp2_with fail
  refine (HC.out _ (.inr ⟨bk, rfl, Nat.lt_of_lt_of_le hbl HB1.out.size, HA.out.to hbl HB1.out⟩)).mono ?_
  rintro e w2 ⟨rfl, hb2⟩
  have HB2 : Hid (Below w.heap.size w w2) := HB1.out.trans (hb2.mono HB1.out.size)
  replace e0 := keepc hb2 e0
  replace e1 := keepc hb2 e1
  clear hb2 HC
  obtain ⟨a0, a1, a2⟩ := args_cells (HA.out.to hbl HB2.out) 0 a rfl
  simp only [Nat.zero_mul, Nat.zero_add] at a0 a1 a2
  obtain ⟨b0, b1, b2⟩ := args_cells (HA.out.to hbl HB2.out) 1 b rfl
  simp only [Nat.one_mul, Nat.reduceAdd] at b0 b1 b2
  have hlt := txt_len a.1 a.2.1 a.2.2
  have hlt2 := txt_len b.1 b.2.1 b.2.2
  have hbt := bt_len 8
  obtain ⟨k, n, q⟩ := a
  obtain ⟨k2, n2, q2⟩ := b
  have g0 := cell_regrown e0
  have g1 := cell_regrown e1
  have g2 := cell_regrown a0
  have g3 := cell_regrown a1
  have g4 := cell_regrown a2
  have g5 := cell_regrown b0
  have g6 := cell_regrown b1
  have g7 := cell_regrown b2
  go_wp2
  refine wp_region_quiet_below (by kernel_rfl) (by kernel_rfl) ?_
  repeat (first | go_big_quiet_step ((first | exact grownText _ _ | exact grownS_8 _ _)) | quiet_step ((first | exact grownText _ _ | exact grownS_8 _ _)))
  refine wpQuiet_nil ?_
  intro _ hw'
  obtain ⟨⟨dq, osq⟩, hw''⟩ := hw'
  subst hw''
  go_wp2
  go_ret
  exact ⟨by rw [HX.out]; exact ret_str (by first | rfl | (simp [ah, bt, nm, ts, qL, cat'])), HB2.out.trans ((below_regrown _ dq osq).mono HB2.out.size)⟩

set_option maxHeartbeats 2000000 in
theorem selem_9 (a b : Ar) (bk cap : Nat) (w : World) (hA : ArgsAt w bk [a, b]) (hbl : bk < w.heap.size) (hlc : 2 ≤ cap) (hc : conB 9 [a, b] = true) :
    Calls Tryz.prog 7 #[elemV 9 (some ⟨bk, 0, none⟩) 2 cap] w fun e w' => e = .returned (.string ⟨(eT 9 [a, b]).toArray⟩) ∧ Below w.heap.size w w' := by
  have HA : Hid (ArgsAt w bk [a, b]) := hA
  have HK : Hid (∀ W, ArgsIs W (some ⟨bk, 0, none⟩) [a, b] → Calls Tryz.prog 25 #[elemV 9 (some ⟨bk, 0, none⟩) 2 cap] W fun e w' => e = .returned (.bool false) ∧ Below W.heap.size W w') := fun W h => by
    have := sCoil_any 9 [a, b] (some ⟨bk, 0, none⟩) cap W h hlc
    rwa [coil_no (by omega)] at this
  have HC : Hid (∀ W, ArgsIs W (some ⟨bk, 0, none⟩) [a, b] → Calls Tryz.prog 28 #[elemV 9 (some ⟨bk, 0, none⟩) 2 cap] W fun e w' => e = .returned (.bool true) ∧ Below W.heap.size W w') := fun W h => by
    have := sCon_any 9 [a, b] (some ⟨bk, 0, none⟩) cap W h hlc
    rwa [hc] at this
  have HX : Hid (eT 9 [a, b] = _) := eT_two (i := 9) (by omega) hc
  clear hA hc
  go_enter Tryz.func7, Tryz.ntmps7
  go_wp2_with fail
  refine (HK.out _ (.inr ⟨bk, rfl, by simp; omega, HA.out.to hbl (one _ _)⟩)).mono ?_
  rintro e w1 ⟨rfl, hb1⟩
  have HB1 : Hid (Below w.heap.size w w1) := of_one hb1
  have e0 : w1.cell? ⟨w.heap.size, 0, none⟩ = some (.int .i64 9) := (hb1.cell (p := ⟨w.heap.size, 0, none⟩) (by simp)).trans (by rw [World.cell?_alloc_mark]; rfl)
  have e1 : w1.cell? ⟨w.heap.size, 1, none⟩ = some (.slice (some ⟨bk, 0, none⟩) 2 cap) := (hb1.cell (p := ⟨w.heap.size, 1, none⟩) (by simp)).trans (by rw [World.cell?_alloc_mark]; rfl)
  clear hb1 HK
  go_wp2_with fail
  refine (HC.out _ (.inr ⟨bk, rfl, Nat.lt_of_lt_of_le hbl HB1.out.size, HA.out.to hbl HB1.out⟩)).mono ?_
  rintro e w2 ⟨rfl, hb2⟩
  have HB2 : Hid (Below w.heap.size w w2) := HB1.out.trans (hb2.mono HB1.out.size)
  replace e0 := keepc hb2 e0
  replace e1 := keepc hb2 e1
  clear hb2 HC
  obtain ⟨a0, a1, a2⟩ := args_cells (HA.out.to hbl HB2.out) 0 a rfl
  simp only [Nat.zero_mul, Nat.zero_add] at a0 a1 a2
  obtain ⟨b0, b1, b2⟩ := args_cells (HA.out.to hbl HB2.out) 1 b rfl
  simp only [Nat.one_mul, Nat.reduceAdd] at b0 b1 b2
  have hlt := txt_len a.1 a.2.1 a.2.2
  have hlt2 := txt_len b.1 b.2.1 b.2.2
  have hbt := bt_len 9
  obtain ⟨k, n, q⟩ := a
  obtain ⟨k2, n2, q2⟩ := b
  have g0 := cell_regrown e0
  have g1 := cell_regrown e1
  have g2 := cell_regrown a0
  have g3 := cell_regrown a1
  have g4 := cell_regrown a2
  have g5 := cell_regrown b0
  have g6 := cell_regrown b1
  have g7 := cell_regrown b2
  go_wp2
  refine wp_region_quiet_below (by kernel_rfl) (by kernel_rfl) ?_
  repeat (first | go_big_quiet_step ((first | exact grownText _ _ | exact grownS_9 _ _)) | quiet_step ((first | exact grownText _ _ | exact grownS_9 _ _)))
  refine wpQuiet_nil ?_
  intro _ hw'
  obtain ⟨⟨dq, osq⟩, hw''⟩ := hw'
  subst hw''
  go_wp2
  go_ret
  exact ⟨by rw [HX.out]; exact ret_str (by first | rfl | (simp [ah, bt, nm, ts, qL, cat'])), HB2.out.trans ((below_regrown _ dq osq).mono HB2.out.size)⟩

set_option maxHeartbeats 2000000 in
theorem selem_10 (a b : Ar) (bk cap : Nat) (w : World) (hA : ArgsAt w bk [a, b]) (hbl : bk < w.heap.size) (hlc : 2 ≤ cap) (hc : conB 10 [a, b] = true) :
    Calls Tryz.prog 7 #[elemV 10 (some ⟨bk, 0, none⟩) 2 cap] w fun e w' => e = .returned (.string ⟨(eT 10 [a, b]).toArray⟩) ∧ Below w.heap.size w w' := by
  have HA : Hid (ArgsAt w bk [a, b]) := hA
  have HK : Hid (∀ W, ArgsIs W (some ⟨bk, 0, none⟩) [a, b] → Calls Tryz.prog 25 #[elemV 10 (some ⟨bk, 0, none⟩) 2 cap] W fun e w' => e = .returned (.bool false) ∧ Below W.heap.size W w') := fun W h => by
    have := sCoil_any 10 [a, b] (some ⟨bk, 0, none⟩) cap W h hlc
    rwa [coil_no (by omega)] at this
  have HC : Hid (∀ W, ArgsIs W (some ⟨bk, 0, none⟩) [a, b] → Calls Tryz.prog 28 #[elemV 10 (some ⟨bk, 0, none⟩) 2 cap] W fun e w' => e = .returned (.bool true) ∧ Below W.heap.size W w') := fun W h => by
    have := sCon_any 10 [a, b] (some ⟨bk, 0, none⟩) cap W h hlc
    rwa [hc] at this
  have HX : Hid (eT 10 [a, b] = _) := eT_two (i := 10) (by omega) hc
  clear hA hc
  go_enter Tryz.func7, Tryz.ntmps7
  go_wp2_with fail
  refine (HK.out _ (.inr ⟨bk, rfl, by simp; omega, HA.out.to hbl (one _ _)⟩)).mono ?_
  rintro e w1 ⟨rfl, hb1⟩
  have HB1 : Hid (Below w.heap.size w w1) := of_one hb1
  have e0 : w1.cell? ⟨w.heap.size, 0, none⟩ = some (.int .i64 10) := (hb1.cell (p := ⟨w.heap.size, 0, none⟩) (by simp)).trans (by rw [World.cell?_alloc_mark]; rfl)
  have e1 : w1.cell? ⟨w.heap.size, 1, none⟩ = some (.slice (some ⟨bk, 0, none⟩) 2 cap) := (hb1.cell (p := ⟨w.heap.size, 1, none⟩) (by simp)).trans (by rw [World.cell?_alloc_mark]; rfl)
  clear hb1 HK
  go_wp2_with fail
  refine (HC.out _ (.inr ⟨bk, rfl, Nat.lt_of_lt_of_le hbl HB1.out.size, HA.out.to hbl HB1.out⟩)).mono ?_
  rintro e w2 ⟨rfl, hb2⟩
  have HB2 : Hid (Below w.heap.size w w2) := HB1.out.trans (hb2.mono HB1.out.size)
  replace e0 := keepc hb2 e0
  replace e1 := keepc hb2 e1
  clear hb2 HC
  obtain ⟨a0, a1, a2⟩ := args_cells (HA.out.to hbl HB2.out) 0 a rfl
  simp only [Nat.zero_mul, Nat.zero_add] at a0 a1 a2
  obtain ⟨b0, b1, b2⟩ := args_cells (HA.out.to hbl HB2.out) 1 b rfl
  simp only [Nat.one_mul, Nat.reduceAdd] at b0 b1 b2
  have hlt := txt_len a.1 a.2.1 a.2.2
  have hlt2 := txt_len b.1 b.2.1 b.2.2
  have hbt := bt_len 10
  obtain ⟨k, n, q⟩ := a
  obtain ⟨k2, n2, q2⟩ := b
  have g0 := cell_regrown e0
  have g1 := cell_regrown e1
  have g2 := cell_regrown a0
  have g3 := cell_regrown a1
  have g4 := cell_regrown a2
  have g5 := cell_regrown b0
  have g6 := cell_regrown b1
  have g7 := cell_regrown b2
  go_wp2
  refine wp_region_quiet_below (by kernel_rfl) (by kernel_rfl) ?_
  repeat (first | go_big_quiet_step ((first | exact grownText _ _ | exact grownS_10 _ _)) | quiet_step ((first | exact grownText _ _ | exact grownS_10 _ _)))
  refine wpQuiet_nil ?_
  intro _ hw'
  obtain ⟨⟨dq, osq⟩, hw''⟩ := hw'
  subst hw''
  go_wp2
  go_ret
  exact ⟨by rw [HX.out]; exact ret_str (by first | rfl | (simp [ah, bt, nm, ts, qL, cat'])), HB2.out.trans ((below_regrown _ dq osq).mono HB2.out.size)⟩

theorem list1 {α : Type} {l : List α} (h : l.length = 1) : ∃ a, l = [a] := by
  match l, h with
  | [a], _ => exact ⟨a, rfl⟩
theorem list2 {α : Type} {l : List α} (h : l.length = 2) : ∃ a b, l = [a, b] := by
  match l, h with
  | [a, b], _ => exact ⟨a, b, rfl⟩
set_option maxHeartbeats 1000000 in
theorem selem_none (op : Int) (ys : List Ar) (p : Option Addr) (cap : Nat) (w : World) (hA : ArgsIs w p ys) (hlc : ys.length ≤ cap) (h1 : coilB op ys = false) (h2 : conB op ys = false) :
    Calls Tryz.prog 7 #[elemV op p ys.length cap] w fun e w' => e = .returned (.string ⟨(eT op ys).toArray⟩) ∧ Below w.heap.size w w' := by
  rw [eT_no h1 h2]
  have HA : Hid (ArgsIs w p ys) := hA
  have HK : Hid (∀ W, ArgsIs W p ys → Calls Tryz.prog 25 #[elemV op p ys.length cap] W fun e w' => e = .returned (.bool false) ∧ Below W.heap.size W w') := fun W h => by
    have := sCoil_any op ys p cap W h hlc
    rwa [h1] at this
  have HC : Hid (∀ W, ArgsIs W p ys → Calls Tryz.prog 28 #[elemV op p ys.length cap] W fun e w' => e = .returned (.bool false) ∧ Below W.heap.size W w') := fun W h => by
    have := sCon_any op ys p cap W h hlc
    rwa [h2] at this
  clear hA h1 h2
  go_enter Tryz.func7, Tryz.ntmps7
  go_wp2_with fail
  refine (HK.out _ (HA.out.to (one _ _))).mono ?_
  rintro e w1 ⟨rfl, hb1⟩
  have HB1 : Hid (Below w.heap.size w w1) := of_one hb1
  have e0 : w1.cell? ⟨w.heap.size, 0, none⟩ = some (.int .i64 op) := (hb1.cell (p := ⟨w.heap.size, 0, none⟩) (by simp)).trans (by rw [World.cell?_alloc_mark]; rfl)
  have e1 : w1.cell? ⟨w.heap.size, 1, none⟩ = some (.slice p ys.length cap) := (hb1.cell (p := ⟨w.heap.size, 1, none⟩) (by simp)).trans (by rw [World.cell?_alloc_mark]; rfl)
  clear hb1 HK
  go_wp2_with fail
  refine (HC.out _ (HA.out.to HB1.out)).mono ?_
  rintro e w2 ⟨rfl, hb2⟩
  have HB2 : Hid (Below w.heap.size w w2) := HB1.out.trans (hb2.mono HB1.out.size)
  go_wp2
  go_ret
  exact ⟨rfl, HB2.out⟩

theorem selem_con (i : Nat) (ys : List Ar) (bk cap : Nat) (w : World) (hA : ArgsAt w bk ys) (hbl : bk < w.heap.size) (hlc : ys.length ≤ cap) (h1 : 1 ≤ i) (h2 : i ≤ 10) (hc : conB (i : Int) ys = true) :
    Calls Tryz.prog 7 #[elemV i (some ⟨bk, 0, none⟩) ys.length cap] w fun e w' => e = .returned (.string ⟨(eT i ys).toArray⟩) ∧ Below w.heap.size w w' := by
  have hk : okA i ys = true := by
    simp only [conB, Bool.and_eq_true, ez_nat i (show i < 38 by omega)] at hc; exact hc.2
  have hlen := okA_len hk
  clear hk
  have : i = 1 ∨ i = 2 ∨ i = 3 ∨ i = 4 ∨ i = 5 ∨ i = 6 ∨ i = 7 ∨ i = 8 ∨ i = 9 ∨ i = 10 := by omega
  rcases this with rfl | rfl | rfl | rfl | rfl | rfl | rfl | rfl | rfl | rfl
  · obtain ⟨a, rfl⟩ := list1 hlen
    exact selem_1 a bk cap w hA hbl hlc hc
  · obtain ⟨a, rfl⟩ := list1 hlen
    exact selem_2 a bk cap w hA hbl hlc hc
  · obtain ⟨a, b, rfl⟩ := list2 hlen
    exact selem_3 a b bk cap w hA hbl hlc hc
  · obtain ⟨a, b, rfl⟩ := list2 hlen
    exact selem_4 a b bk cap w hA hbl hlc hc
  · obtain ⟨a, b, rfl⟩ := list2 hlen
    exact selem_5 a b bk cap w hA hbl hlc hc
  · obtain ⟨a, b, rfl⟩ := list2 hlen
    exact selem_6 a b bk cap w hA hbl hlc hc
  · obtain ⟨a, b, rfl⟩ := list2 hlen
    exact selem_7 a b bk cap w hA hbl hlc hc
  · obtain ⟨a, b, rfl⟩ := list2 hlen
    exact selem_8 a b bk cap w hA hbl hlc hc
  · obtain ⟨a, b, rfl⟩ := list2 hlen
    exact selem_9 a b bk cap w hA hbl hlc hc
  · obtain ⟨a, b, rfl⟩ := list2 hlen
    exact selem_10 a b bk cap w hA hbl hlc hc

theorem selem_any (op : Int) (ys : List Ar) (p : Option Addr) (cap : Nat) (w : World) (hA : ArgsIs w p ys) (hlc : ys.length ≤ cap) :
    Calls Tryz.prog 7 #[elemV op p ys.length cap] w fun e w' => e = .returned (.string ⟨(eT op ys).toArray⟩) ∧ Below w.heap.size w w' := by
  cases h1 : coilB op ys
  · cases h2 : conB op ys
    · exact selem_none op ys p cap w hA hlc h1 h2
    · have hr : 1 ≤ op ∧ op ≤ 10 := by
        by_cases h : op < 1 ∨ 10 < op
        · rw [conB_no h] at h2; cases h2
        · omega
      obtain ⟨i, rfl⟩ := Int.eq_ofNat_of_zero_le (show 0 ≤ op by omega)
      rcases hA with rfl | ⟨b, rfl, hlt, hat⟩
      · simp [conB, okA, takeB] at h2
      · exact selem_con i ys b cap w hat hlt hlc (by omega) (by omega) h2
  · have hr : 21 ≤ op ∧ op ≤ 37 := by
      by_cases h : op < 21 ∨ 37 < op
      · rw [coil_no h] at h1; cases h1
      · omega
    obtain ⟨i, rfl⟩ := Int.eq_ofNat_of_zero_le (show 0 ≤ op by omega)
    rcases hA with rfl | ⟨b, rfl, hlt, hat⟩
    · simp [coilB, okA, takeB] at h1
    · exact selem_coil i ys b cap w hat hlt hlc (by omega) (by omega) h1
end Go.Proofs.YtlddkhhaclfmiaaGreatDoor

/- Plain mathematics of the texts of contacts and coils: what a text tells of its Op. Helper text: no statement is claimed here. -/
namespace Go.Proofs.YtlddkhhaclfmiaaGreatDoor
open Go.RowKit

theorem okA_all {i : Nat} {ys : List Ar} (h : okA i ys = true) : AllOk ys := fun a ha => by
  obtain ⟨j, hj, rfl⟩ := List.mem_iff_getElem.1 ha
  have := okA_ok h hj
  rwa [show at3 ys j = ys[j] by simp [at3, List.getD, hj]] at this
theorem okA_ne {i : Nat} {ys : List Ar} (h : okA i ys = true) : ys ≠ [] := by
  rintro rfl
  simp [okA, takeB] at h
theorem okA_in {i : Nat} {ys : List Ar} (h : okA i ys = true) (hi : i < 38) : (1 ≤ i ∧ i ≤ 10) ∨ (21 ≤ i ∧ i ≤ 37) := by
  have h1 := okA_len h
  have h2 : ys.length ≠ 0 := fun e => okA_ne h (List.length_eq_zero_iff.1 e)
  rw [h1] at h2
  have : (1 ≤ i ∧ i ≤ 10) ∨ (21 ≤ i ∧ i ≤ 37) ∨ i = 0 ∨ i = 11 ∨ i = 12 ∨ i = 13 ∨ i = 14 ∨ i = 15 ∨ i = 16 ∨ i = 17 ∨ i = 18 ∨ i = 19 ∨ i = 20 := by omega
  rcases this with h | h | rfl | rfl | rfl | rfl | rfl | rfl | rfl | rfl | rfl | rfl | rfl
  · exact .inl h
  · exact .inr h
  all_goals simp [fm0] at h2
theorem okA_op {op : Int} {ys : List Ar} (h : okA (ez op) ys = true) : ∃ i : Nat, op = (i : Int) ∧ ez op = i ∧ i < 38 ∧ ((1 ≤ i ∧ i ≤ 10) ∨ (21 ≤ i ∧ i ≤ 37)) := by
  by_cases h0 : 0 ≤ op ∧ op < 38
  · obtain ⟨i, rfl⟩ := Int.eq_ofNat_of_zero_le h0.1
    have e := ez_nat i (by omega)
    rw [e] at h
    exact ⟨i, rfl, e, by omega, okA_in h (by omega)⟩
  · rw [ez_no op (by omega)] at h
    rcases okA_in h (by omega) with h | h <;> omega

/-- The bytes of the signs. -/
def sgn3 (x : UInt8) : Bool := x == 60 || x == 61 || x == 62
theorem sgn3_tame {x : UInt8} (h : tame x = true) : sgn3 x = false := by
  rw [Bool.eq_false_iff]
  intro hs
  simp only [sgn3, Bool.or_eq_true, beq_iff_eq] at hs
  rcases hs with (rfl | rfl) | rfl <;> exact absurd h (by decide)
theorem split_first {p : UInt8 → Bool} : ∀ {A A' : List UInt8} {s s' : UInt8} {R R' : List UInt8}, (∀ x ∈ A, p x = false) → (∀ x ∈ A', p x = false) → p s = true → p s' = true → A ++ s :: R = A' ++ s' :: R' → A = A' ∧ s = s' ∧ R = R'
  | [], [], s, s', R, R', _, _, _, _, h => by simp at h; exact ⟨rfl, h.1, h.2⟩
  | [], y :: A', s, s', R, R', _, h2, h3, _, h => by
    simp at h
    have := h2 y (by simp)
    rw [← h.1, h3] at this; cases this
  | x :: A, [], s, s', R, R', h1, _, _, h4, h => by
    simp at h
    have := h1 x (by simp)
    rw [h.1, h4] at this; cases this
  | x :: A, y :: A', s, s', R, R', h1, h2, h3, h4, h => by
    simp at h
    obtain ⟨a, b, c⟩ := split_first (fun z hz => h1 z (by simp [hz])) (fun z hz => h2 z (by simp [hz])) h3 h4 h.2
    exact ⟨by rw [h.1, a], b, c⟩

/-- How many bytes a sign has that begins here. -/
def nS : List UInt8 → Nat
  | _ :: x :: _ => if x = 61 ∨ x = 62 then 2 else 1
  | _ => 1
theorem bt_cases {i : Nat} (h1 : 5 ≤ i) (h2 : i ≤ 10) : (i = 5 ∧ bt i = [60]) ∨ (i = 6 ∧ bt i = [60, 61]) ∨ (i = 7 ∧ bt i = [61]) ∨ (i = 8 ∧ bt i = [60, 62]) ∨ (i = 9 ∧ bt i = [62, 61]) ∨ (i = 10 ∧ bt i = [62]) := by
  have : i = 5 ∨ i = 6 ∨ i = 7 ∨ i = 8 ∨ i = 9 ∨ i = 10 := by omega
  rcases this with rfl | rfl | rfl | rfl | rfl | rfl <;> simp [bt, nm, ts, qL]
theorem bt_inj {i j : Nat} (h1 : 5 ≤ i) (h2 : i ≤ 10) (h3 : 5 ≤ j) (h4 : j ≤ 10) (h : bt i = bt j) : i = j := by
  rcases bt_cases h1 h2 with ⟨rfl, e⟩ | ⟨rfl, e⟩ | ⟨rfl, e⟩ | ⟨rfl, e⟩ | ⟨rfl, e⟩ | ⟨rfl, e⟩ <;> rcases bt_cases h3 h4 with ⟨rfl, e'⟩ | ⟨rfl, e'⟩ | ⟨rfl, e'⟩ | ⟨rfl, e'⟩ | ⟨rfl, e'⟩ | ⟨rfl, e'⟩ <;> first | rfl | (rw [e, e'] at h; simp at h)
theorem nS_bt {i : Nat} (h1 : 5 ≤ i) (h2 : i ≤ 10) {b : List UInt8} (hb : b ≠ []) (ht : ∀ x ∈ b, tame x = true) : nS (bt i ++ b) = (bt i).length := by
  obtain ⟨x, l, rfl⟩ := List.exists_cons_of_ne_nil hb
  have hx : ¬ (x = 61 ∨ x = 62) := by
    have := ht x (by simp)
    rintro (rfl | rfl) <;> exact absurd this (by decide)
  rcases bt_cases h1 h2 with ⟨-, e⟩ | ⟨-, e⟩ | ⟨-, e⟩ | ⟨-, e⟩ | ⟨-, e⟩ | ⟨-, e⟩ <;> rw [e] <;> simp [nS, hx]
theorem bt_head {i : Nat} (h1 : 5 ≤ i) (h2 : i ≤ 10) : ∃ s r, bt i = s :: r ∧ sgn3 s = true := by
  rcases bt_cases h1 h2 with ⟨-, e⟩ | ⟨-, e⟩ | ⟨-, e⟩ | ⟨-, e⟩ | ⟨-, e⟩ | ⟨-, e⟩ <;> rw [e] <;> exact ⟨_, _, rfl, by decide⟩

theorem tx_ne {a : Ar} (h : okB a.1 a.2.1 a.2.2 = true) : tx a ≠ [] := txt_ne h
/-- The text of one of the six tests. -/
theorem eT_test {i : Nat} {ys : List Ar} (h1 : 5 ≤ i) (h2 : i ≤ 10) (h : okA i ys = true) : ∃ a b, ys = [a, b] ∧ eT (i : Int) ys = tx a ++ (bt i ++ tx b) := by
  have hn : nm i = [] := by
    have : i = 5 ∨ i = 6 ∨ i = 7 ∨ i = 8 ∨ i = 9 ∨ i = 10 := by omega
    rcases this with rfl | rfl | rfl | rfl | rfl | rfl <;> rfl
  have hc : conB (i : Int) ys = true := by rw [conB_eq i (by omega) hn]; exact h
  have hl : ys.length = 2 := by
    rw [okA_len h]
    have : i = 5 ∨ i = 6 ∨ i = 7 ∨ i = 8 ∨ i = 9 ∨ i = 10 := by omega
    rcases this with rfl | rfl | rfl | rfl | rfl | rfl <;> rfl
  obtain ⟨a, b, rfl⟩ := list2 hl
  refine ⟨a, b, rfl, ?_⟩
  rw [eT_two h2 hc, show ah i = [] by
    have : i = 5 ∨ i = 6 ∨ i = 7 ∨ i = 8 ∨ i = 9 ∨ i = 10 := by omega
    rcases this with rfl | rfl | rfl | rfl | rfl | rfl <;> rfl]
  rfl
end Go.Proofs.YtlddkhhaclfmiaaGreatDoor
