/- DevIsBit, DevIsWhole, DevIsReal, and the document's own. Helper text: no statement is claimed here. -/
import Derived.Test.YtlddkhhaclfmiaaGreatDoorP01
import Derived.Test.YtlddkhhaclfmiaaGreatDoorP04
import Derived.Test.YtlddkhhaclfmiaaGreatDoorP05
import Derived.Test.YtlddkhhaclfmiaaGreatDoorRows
import Derived.WalkKit
import Derived.ProofKit
import Derived.LaidMore
import Derived.OpenShut
import Derived.Below
import Derived.Deep.QuietTactic
import Derived.BigQuiet
import Derived.Deep.RegionHeld3
import Derived.Test.YtlddkhhaclfmiaaGreatDoorP02
namespace Go.Proofs.YtlddkhhaclfmiaaGreatDoor
open Go.ChangeShapes Go.WideShapes Go.ChangeAt Go.RowKit

attribute [local go_sem] field_0 field_1 field_2 field_3 field_4
set_option maxHeartbeats 400000 in
theorem isBit_any (k n p : Int) (w : World) (hT : DevTab w) :
    Calls Tryz.prog 47 #[.agg #[.int .i64 k, .int .i64 n, .int .i64 p]] w fun e w' => e = .returned (.bool (isB k n p)) ∧ Below w.heap.size w w' := by
  cases hok : okB k n p
  · rw [show isB k n p = false by simp [isB, hok]]
    have hk : Hid (okB k n p = false) := hok
    clear hok
    go_enter Tryz.func47, Tryz.ntmps47
    go_wp2_with fail
    refine (devOk_any _ _ _ _ (hT.alloc _)).mono ?_
    rintro e w' ⟨rfl, hb⟩
    rw [hk.out]
    go_wp2
    go_ret
    exact ⟨rfl, of_one hb⟩
  · rw [show isB k n p = rB (kz k) by simp [isB, hok]]
    have hk : Hid (okB k n p = true) := hok
    clear hok
    go_enter Tryz.func47, Tryz.ntmps47
    go_wp2_with fail
    refine (devOk_any _ _ _ _ (hT.alloc _)).mono ?_
    rintro e w' ⟨rfl, hb⟩
    rw [hk.out]
    obtain ⟨hc, hf⟩ := bcell hb
    go_wp2_with fail
    refine (rowOf_any _ _ ((hT.alloc _).to hb)).mono ?_
    rintro e w2 ⟨rfl, hb2⟩
    go_wp2
    go_ret
    exact ⟨rfl, of_two hb hb2⟩
set_option maxHeartbeats 400000 in
theorem isWhole_any (k n p : Int) (w : World) (hT : DevTab w) :
    Calls Tryz.prog 41 #[.agg #[.int .i64 k, .int .i64 n, .int .i64 p]] w fun e w' => e = .returned (.bool (isW k n p)) ∧ Below w.heap.size w w' := by
  cases hok : okB k n p
  · rw [show isW k n p = false by simp [isW, hok]]
    have hk : Hid (okB k n p = false) := hok
    clear hok
    go_enter Tryz.func41, Tryz.ntmps41
    go_wp2_with fail
    refine (devOk_any _ _ _ _ (hT.alloc _)).mono ?_
    rintro e w' ⟨rfl, hb⟩
    rw [hk.out]
    go_wp2
    go_ret
    exact ⟨rfl, of_one hb⟩
  · rw [show isW k n p = rW (kz k) by simp [isW, hok]]
    have hk : Hid (okB k n p = true) := hok
    clear hok
    go_enter Tryz.func41, Tryz.ntmps41
    go_wp2_with fail
    refine (devOk_any _ _ _ _ (hT.alloc _)).mono ?_
    rintro e w' ⟨rfl, hb⟩
    rw [hk.out]
    obtain ⟨hc, hf⟩ := bcell hb
    go_wp2_with fail
    refine (rowOf_any _ _ ((hT.alloc _).to hb)).mono ?_
    rintro e w2 ⟨rfl, hb2⟩
    go_wp2
    go_ret
    exact ⟨rfl, of_two hb hb2⟩
set_option maxHeartbeats 400000 in
theorem isReal_any (k n p : Int) (w : World) (hT : DevTab w) :
    Calls Tryz.prog 42 #[.agg #[.int .i64 k, .int .i64 n, .int .i64 p]] w fun e w' => e = .returned (.bool (isR k n p)) ∧ Below w.heap.size w w' := by
  cases hok : okB k n p
  · rw [show isR k n p = false by simp [isR, hok]]
    have hk : Hid (okB k n p = false) := hok
    clear hok
    go_enter Tryz.func42, Tryz.ntmps42
    go_wp2_with fail
    refine (devOk_any _ _ _ _ (hT.alloc _)).mono ?_
    rintro e w' ⟨rfl, hb⟩
    rw [hk.out]
    go_wp2
    go_ret
    exact ⟨rfl, of_one hb⟩
  · rw [show isR k n p = rR (kz k) by simp [isR, hok]]
    have hk : Hid (okB k n p = true) := hok
    clear hok
    go_enter Tryz.func42, Tryz.ntmps42
    go_wp2_with fail
    refine (devOk_any _ _ _ _ (hT.alloc _)).mono ?_
    rintro e w' ⟨rfl, hb⟩
    rw [hk.out]
    obtain ⟨hc, hf⟩ := bcell hb
    go_wp2_with fail
    refine (rowOf_any _ _ ((hT.alloc _).to hb)).mono ?_
    rintro e w2 ⟨rfl, hb2⟩
    go_wp2
    go_ret
    exact ⟨rfl, of_two hb hb2⟩
end Go.Proofs.YtlddkhhaclfmiaaGreatDoor

/- Which operands may stand at a place: the program's functions. Helper text: no statement is claimed here. -/
namespace Go.Proofs.YtlddkhhaclfmiaaGreatDoor
open Go.ChangeShapes Go.WideShapes Go.ChangeAt Go.RowKit

theorem mem_upto {ks : List Int} {k : Int} {j : Nat} (h : j < ks.length) (hno : ∀ i, i < j → ks.getD i 0 ≠ k) (hj : ks.getD j 0 ≠ k) : ∀ i, i < j + 1 → ks.getD i 0 ≠ k := fun i hi => by
  rcases Nat.lt_or_ge i j with h' | h'
  · exact hno i h'
  · obtain rfl : i = j := by omega
    exact hj
theorem contains_no {ks : List Int} {k : Int} (hno : ∀ i, i < ks.length → ks.getD i 0 ≠ k) : hasK ks k = false := by
  unfold hasK
  rw [Bool.eq_false_iff]
  intro h
  obtain ⟨i, hi, e⟩ := List.mem_iff_getElem.1 (List.contains_iff_mem.1 h)
  exact hno i hi (by simp [List.getD, hi, e])
theorem contains_yes {ks : List Int} {k : Int} {j : Nat} (h : j < ks.length) (hj : ks.getD j 0 = k) : hasK ks k = true := by
  unfold hasK
  rw [List.contains_iff_mem, List.mem_iff_getElem]
  exact ⟨j, h, by simpa [List.getD, h] using hj⟩
/-- Whole numbers that lie in a row of cells. -/
def IntsAt (w : World) (b : Nat) (ks : List Int) : Prop := ∀ i, i < ks.length → w.cell? ⟨b, i, none⟩ = some (.int .i64 (ks.getD i 0))
set_option maxHeartbeats 400000 in
theorem index_any (ks : List Int) (b : Nat) (k : Int) (w : World) (hl : ks.length ≤ 5) (hc : IntsAt w b ks) :
    Calls Tryz.prog 123 #[.slice (some ⟨b, 0, none⟩) ks.length ks.length, .int .i64 k] w fun e w' => (∃ v : Int, e = .returned (.int .i64 v) ∧ Hid (decide (0 ≤ v) = hasK ks k)) ∧ w' = w := by
  have HC : Hid (IntsAt w b ks) := hc
  clear hc
  go_enter Tryz.func123, Tryz.ntmps123
  go_wp2
  go_loopw [8] (fun c w' => ∃ j : Nat, j ≤ ks.length ∧ c = .int .i64 (j : Int) ∧ w' = w ∧ ∀ i, i < j → ks.getD i 0 ≠ k) (fun c _ => ks.length - (intOf c).toNat)
  case atStart => exact ⟨0, by omega, rfl, rfl, fun i hi => by omega⟩
  case round =>
    obtain ⟨j, hj, rfl, rfl, hno⟩ := hrel
    have HN : Hid (∀ i, i < j → ks.getD i 0 ≠ k) := hno
    clear hno
    by_cases hlt : j < ks.length
    · have hlt' : (j : Int) < ks.length := by omega
      have hcell := HC.out j hlt
      generalize hg : ks.getD j 0 = g at hcell
      have HG : Hid (ks.getD j 0 = g) := hg
      clear hg
      by_cases he : k = g
      · have he' : (k == g) = true := by simpa using he
        have HE : Hid (k = g) := he
        clear he
        go_wp2
        go_ret
        refine ⟨⟨_, rfl, ?_⟩, by trivial⟩
        show decide _ = _
        rw [contains_yes hlt (HG.out.trans HE.out.symm)]
        simp
      · have he' : (k == g) = false := by simpa using he
        have HE : Hid (k ≠ g) := he
        clear he
        go_wp2
        exact ⟨⟨j + 1, by omega, by go_num, by trivial, mem_upto hlt HN.out (by rw [HG.out]; exact fun h => HE.out h.symm)⟩, by simp [intOf]; omega⟩
    · have hlt' : ¬ (j : Int) < ks.length := by omega
      go_wp2
      go_ret
      refine ⟨⟨-1, rfl, ?_⟩, by trivial⟩
      show decide _ = _
      rw [contains_no (fun i hi => HN.out i (by omega))]
      rfl
set_option maxHeartbeats 400000 in
theorem contains_any (ks : List Int) (b : Nat) (k : Int) (w : World) (hl : ks.length ≤ 5) (hc : IntsAt w b ks) :
    Calls Tryz.prog 110 #[.slice (some ⟨b, 0, none⟩) ks.length ks.length, .int .i64 k] w fun e w' => e = .returned (.bool (hasK ks k)) ∧ w' = w := by
  go_enter Tryz.func110, Tryz.ntmps110
  go_wp2_with fail
  refine (index_any ks b k _ hl hc).mono ?_
  rintro e w' ⟨⟨v, rfl, HV⟩, rfl⟩
  go_wp2
  go_ret
  exact ⟨by rw [← HV.out]; rfl, rfl⟩
set_option maxHeartbeats 400000 in
theorem isOf_any (ks : List Int) (b : Nat) (k n p : Int) (w : World) (hT : DevTab w) (hl : ks.length ≤ 5) (hc : IntsAt w b ks) (hb0 : b < w.heap.size) :
    Calls Tryz.prog 91 #[.agg #[.int .i64 k, .int .i64 n, .int .i64 p], .slice (some ⟨b, 0, none⟩) ks.length ks.length] w fun e w' => e = .returned (.bool (kinB ks k n p)) ∧ Below w.heap.size w w' := by
  have HC : Hid (IntsAt w b ks) := hc
  clear hc
  cases hok : okB k n p
  · rw [show kinB ks k n p = false by simp [kinB, hok]]
    have hk : Hid (okB k n p = false) := hok
    clear hok
    go_enter Tryz.func91, Tryz.ntmps91
    go_wp2_with fail
    refine (devOk_any _ _ _ _ (hT.alloc _)).mono ?_
    rintro e w' ⟨rfl, hb⟩
    rw [hk.out]
    go_wp2
    go_ret
    exact ⟨rfl, of_one hb⟩
  · rw [show kinB ks k n p = hasK ks k by simp [kinB, hok]]
    have hk : Hid (okB k n p = true) := hok
    clear hok
    go_enter Tryz.func91, Tryz.ntmps91
    go_wp2_with fail
    refine (devOk_any _ _ _ _ (hT.alloc _)).mono ?_
    rintro e w' ⟨rfl, hb⟩
    rw [hk.out]
    have HB : Hid (Below w.heap.size w w') := of_one hb
    obtain ⟨hc, hf⟩ := bcell hb
    go_wp2_with fail
    refine (contains_any ks b k _ hl (fun i hi => by rw [HB.out.cell (p := ⟨b, i, none⟩) hb0]; exact HC.out i hi)).mono ?_
    rintro e w2 ⟨rfl, rfl⟩
    go_wp2
    go_ret
    exact ⟨rfl, HB.out⟩
theorem of_both {w w' : World} {o1 o2 : Obj} (h : Below ((w.alloc o1).alloc o2).heap.size ((w.alloc o1).alloc o2) w') : Below w.heap.size w w' := of_one (of_one h)
theorem ints_4 (w : World) : IntsAt (w.alloc (.cells #[.int .i64 5] 3)) w.heap.size [5] := fun i hi => by
  have : i < 1 := hi
  rw [World.cell?_alloc_mark]
  match i, this with
  | 0, _ => rfl
set_option maxHeartbeats 400000 in
theorem fit_4 (k n p : Int) (w : World) (hT : DevTab w) :
    Calls Tryz.prog 48 #[.agg #[.int .i64 k, .int .i64 n, .int .i64 p]] w fun e w' => e = .returned (.bool (kinB [5] k n p)) ∧ Below w.heap.size w w' := by
  go_enter Tryz.func48, Tryz.ntmps48
  go_wp2_with fail
  refine (isOf_any [5] (w.heap.size + 1) k n p _ ((hT.alloc _).alloc _) (by simp) (by have := ints_4 (w.alloc (argO k n p)); simpa using this) (by simp)).mono ?_
  rintro e w' ⟨rfl, hb⟩
  go_wp2
  go_ret
  exact ⟨rfl, of_both hb⟩
theorem ints_5 (w : World) : IntsAt (w.alloc (.cells #[.int .i64 4] 3)) w.heap.size [4] := fun i hi => by
  have : i < 1 := hi
  rw [World.cell?_alloc_mark]
  match i, this with
  | 0, _ => rfl
set_option maxHeartbeats 400000 in
theorem fit_5 (k n p : Int) (w : World) (hT : DevTab w) :
    Calls Tryz.prog 52 #[.agg #[.int .i64 k, .int .i64 n, .int .i64 p]] w fun e w' => e = .returned (.bool (kinB [4] k n p)) ∧ Below w.heap.size w w' := by
  go_enter Tryz.func52, Tryz.ntmps52
  go_wp2_with fail
  refine (isOf_any [4] (w.heap.size + 1) k n p _ ((hT.alloc _).alloc _) (by simp) (by have := ints_5 (w.alloc (argO k n p)); simpa using this) (by simp)).mono ?_
  rintro e w' ⟨rfl, hb⟩
  go_wp2
  go_ret
  exact ⟨rfl, of_both hb⟩
theorem ints_6 (w : World) : IntsAt (w.alloc (.cells #[.int .i64 7] 3)) w.heap.size [7] := fun i hi => by
  have : i < 1 := hi
  rw [World.cell?_alloc_mark]
  match i, this with
  | 0, _ => rfl
set_option maxHeartbeats 400000 in
theorem fit_6 (k n p : Int) (w : World) (hT : DevTab w) :
    Calls Tryz.prog 43 #[.agg #[.int .i64 k, .int .i64 n, .int .i64 p]] w fun e w' => e = .returned (.bool (kinB [7] k n p)) ∧ Below w.heap.size w w' := by
  go_enter Tryz.func43, Tryz.ntmps43
  go_wp2_with fail
  refine (isOf_any [7] (w.heap.size + 1) k n p _ ((hT.alloc _).alloc _) (by simp) (by have := ints_6 (w.alloc (argO k n p)); simpa using this) (by simp)).mono ?_
  rintro e w' ⟨rfl, hb⟩
  go_wp2
  go_ret
  exact ⟨rfl, of_both hb⟩
theorem ints_7 (w : World) : IntsAt (w.alloc (.cells #[.int .i64 8] 3)) w.heap.size [8] := fun i hi => by
  have : i < 1 := hi
  rw [World.cell?_alloc_mark]
  match i, this with
  | 0, _ => rfl
set_option maxHeartbeats 400000 in
theorem fit_7 (k n p : Int) (w : World) (hT : DevTab w) :
    Calls Tryz.prog 53 #[.agg #[.int .i64 k, .int .i64 n, .int .i64 p]] w fun e w' => e = .returned (.bool (kinB [8] k n p)) ∧ Below w.heap.size w w' := by
  go_enter Tryz.func53, Tryz.ntmps53
  go_wp2_with fail
  refine (isOf_any [8] (w.heap.size + 1) k n p _ ((hT.alloc _).alloc _) (by simp) (by have := ints_7 (w.alloc (argO k n p)); simpa using this) (by simp)).mono ?_
  rintro e w' ⟨rfl, hb⟩
  go_wp2
  go_ret
  exact ⟨rfl, of_both hb⟩
theorem ints_8 (w : World) : IntsAt (w.alloc (.cells #[.int .i64 9] 3)) w.heap.size [9] := fun i hi => by
  have : i < 1 := hi
  rw [World.cell?_alloc_mark]
  match i, this with
  | 0, _ => rfl
set_option maxHeartbeats 400000 in
theorem fit_8 (k n p : Int) (w : World) (hT : DevTab w) :
    Calls Tryz.prog 45 #[.agg #[.int .i64 k, .int .i64 n, .int .i64 p]] w fun e w' => e = .returned (.bool (kinB [9] k n p)) ∧ Below w.heap.size w w' := by
  go_enter Tryz.func45, Tryz.ntmps45
  go_wp2_with fail
  refine (isOf_any [9] (w.heap.size + 1) k n p _ ((hT.alloc _).alloc _) (by simp) (by have := ints_8 (w.alloc (argO k n p)); simpa using this) (by simp)).mono ?_
  rintro e w' ⟨rfl, hb⟩
  go_wp2
  go_ret
  exact ⟨rfl, of_both hb⟩
theorem ints_9 (w : World) : IntsAt (w.alloc (.cells #[.int .i64 10] 3)) w.heap.size [10] := fun i hi => by
  have : i < 1 := hi
  rw [World.cell?_alloc_mark]
  match i, this with
  | 0, _ => rfl
set_option maxHeartbeats 400000 in
theorem fit_9 (k n p : Int) (w : World) (hT : DevTab w) :
    Calls Tryz.prog 46 #[.agg #[.int .i64 k, .int .i64 n, .int .i64 p]] w fun e w' => e = .returned (.bool (kinB [10] k n p)) ∧ Below w.heap.size w w' := by
  go_enter Tryz.func46, Tryz.ntmps46
  go_wp2_with fail
  refine (isOf_any [10] (w.heap.size + 1) k n p _ ((hT.alloc _).alloc _) (by simp) (by have := ints_9 (w.alloc (argO k n p)); simpa using this) (by simp)).mono ?_
  rintro e w' ⟨rfl, hb⟩
  go_wp2
  go_ret
  exact ⟨rfl, of_both hb⟩
theorem ints_10 (w : World) : IntsAt (w.alloc (.cells #[.int .i64 2, .int .i64 3] 3)) w.heap.size [2, 3] := fun i hi => by
  have : i < 2 := hi
  rw [World.cell?_alloc_mark]
  match i, this with
  | 0, _ => rfl
  | 1, _ => rfl
set_option maxHeartbeats 400000 in
theorem fit_10 (k n p : Int) (w : World) (hT : DevTab w) :
    Calls Tryz.prog 49 #[.agg #[.int .i64 k, .int .i64 n, .int .i64 p]] w fun e w' => e = .returned (.bool (kinB [2, 3] k n p)) ∧ Below w.heap.size w w' := by
  go_enter Tryz.func49, Tryz.ntmps49
  go_wp2_with fail
  refine (isOf_any [2, 3] (w.heap.size + 1) k n p _ ((hT.alloc _).alloc _) (by simp) (by have := ints_10 (w.alloc (argO k n p)); simpa using this) (by simp)).mono ?_
  rintro e w' ⟨rfl, hb⟩
  go_wp2
  go_ret
  exact ⟨rfl, of_both hb⟩
theorem ints_11 (w : World) : IntsAt (w.alloc (.cells #[.int .i64 2, .int .i64 3, .int .i64 4] 3)) w.heap.size [2, 3, 4] := fun i hi => by
  have : i < 3 := hi
  rw [World.cell?_alloc_mark]
  match i, this with
  | 0, _ => rfl
  | 1, _ => rfl
  | 2, _ => rfl
set_option maxHeartbeats 400000 in
theorem fit_11 (k n p : Int) (w : World) (hT : DevTab w) :
    Calls Tryz.prog 50 #[.agg #[.int .i64 k, .int .i64 n, .int .i64 p]] w fun e w' => e = .returned (.bool (kinB [2, 3, 4] k n p)) ∧ Below w.heap.size w w' := by
  go_enter Tryz.func50, Tryz.ntmps50
  go_wp2_with fail
  refine (isOf_any [2, 3, 4] (w.heap.size + 1) k n p _ ((hT.alloc _).alloc _) (by simp) (by have := ints_11 (w.alloc (argO k n p)); simpa using this) (by simp)).mono ?_
  rintro e w' ⟨rfl, hb⟩
  go_wp2
  go_ret
  exact ⟨rfl, of_both hb⟩
theorem ints_12 (w : World) : IntsAt (w.alloc (.cells #[.int .i64 2, .int .i64 3, .int .i64 4, .int .i64 7, .int .i64 8] 3)) w.heap.size [2, 3, 4, 7, 8] := fun i hi => by
  have : i < 5 := hi
  rw [World.cell?_alloc_mark]
  match i, this with
  | 0, _ => rfl
  | 1, _ => rfl
  | 2, _ => rfl
  | 3, _ => rfl
  | 4, _ => rfl
set_option maxHeartbeats 400000 in
theorem fit_12 (k n p : Int) (w : World) (hT : DevTab w) :
    Calls Tryz.prog 51 #[.agg #[.int .i64 k, .int .i64 n, .int .i64 p]] w fun e w' => e = .returned (.bool (kinB [2, 3, 4, 7, 8] k n p)) ∧ Below w.heap.size w w' := by
  go_enter Tryz.func51, Tryz.ntmps51
  go_wp2_with fail
  refine (isOf_any [2, 3, 4, 7, 8] (w.heap.size + 1) k n p _ ((hT.alloc _).alloc _) (by simp) (by have := ints_12 (w.alloc (argO k n p)); simpa using this) (by simp)).mono ?_
  rintro e w' ⟨rfl, hb⟩
  go_wp2
  go_ret
  exact ⟨rfl, of_both hb⟩
theorem ints_13 (w : World) : IntsAt (w.alloc (.cells #[.int .i64 11] 3)) w.heap.size [11] := fun i hi => by
  have : i < 1 := hi
  rw [World.cell?_alloc_mark]
  match i, this with
  | 0, _ => rfl
set_option maxHeartbeats 400000 in
theorem fit_13 (k n p : Int) (w : World) (hT : DevTab w) :
    Calls Tryz.prog 44 #[.agg #[.int .i64 k, .int .i64 n, .int .i64 p]] w fun e w' => e = .returned (.bool (kinB [11] k n p && decide (0 ≤ n))) ∧ Below w.heap.size w w' := by
  cases hk0 : kinB [11] k n p
  all_goals
    have HK : Hid _ := hk0
    clear hk0
    go_enter Tryz.func44, Tryz.ntmps44
    go_wp2_with fail
    refine (isOf_any [11] (w.heap.size + 1) k n p _ ((hT.alloc _).alloc _) (by simp) (by have := ints_13 (w.alloc (argO k n p)); simpa using this) (by simp)).mono ?_
    rintro e w' ⟨rfl, hb⟩
    rw [HK.out]
    have HB : Hid (Below w.heap.size w w') := of_both hb
    obtain ⟨hc, hf⟩ := bcell hb
    go_wp2
    go_ret
    exact ⟨rfl, HB.out⟩
theorem fit_any (c : Nat) (k n p : Int) (w : World) (hT : DevTab w) (h1 : 1 ≤ c) (h2 : c ≤ 13) :
    Calls Tryz.prog (fid c) #[.agg #[.int .i64 k, .int .i64 n, .int .i64 p]] w fun e w' => e = .returned (.bool (fitB c k n p)) ∧ Below w.heap.size w w' :=
  match c, h1, h2 with
  | 1, _, _ => isBit_any k n p w hT
  | 2, _, _ => isWhole_any k n p w hT
  | 3, _, _ => isReal_any k n p w hT
  | 4, _, _ => fit_4 k n p w hT
  | 5, _, _ => fit_5 k n p w hT
  | 6, _, _ => fit_6 k n p w hT
  | 7, _, _ => fit_7 k n p w hT
  | 8, _, _ => fit_8 k n p w hT
  | 9, _, _ => fit_9 k n p w hT
  | 10, _, _ => fit_10 k n p w hT
  | 11, _, _ => fit_11 k n p w hT
  | 12, _, _ => fit_12 k n p w hT
  | 13, _, _ => fit_13 k n p w hT
theorem fid_enters (c : Nat) (h1 : 1 ≤ c) (h2 : c ≤ 13) (args : Array Value) (w : World) : (callFunc (fid c) args).run Tryz.prog w = .ok (.enter (fid c) args) w :=
  match c, h1, h2 with
  | 1, _, _ => by kernel_rfl
  | 2, _, _ => by kernel_rfl
  | 3, _, _ => by kernel_rfl
  | 4, _, _ => by kernel_rfl
  | 5, _, _ => by kernel_rfl
  | 6, _, _ => by kernel_rfl
  | 7, _, _ => by kernel_rfl
  | 8, _, _ => by kernel_rfl
  | 9, _, _ => by kernel_rfl
  | 10, _, _ => by kernel_rfl
  | 11, _, _ => by kernel_rfl
  | 12, _, _ => by kernel_rfl
  | 13, _, _ => by kernel_rfl
end Go.Proofs.YtlddkhhaclfmiaaGreatDoor

/- Whether operands are ys a row of the table says: places, takes. Helper text: no statement is claimed here. -/
namespace Go.Proofs.YtlddkhhaclfmiaaGreatDoor
open Go.ChangeShapes Go.WideShapes Go.ChangeAt Go.RowKit

theorem neq_func (f : Nat) (w : World) : Sem.run Tryz.prog (binOp .neq 40 (.func (.func f) #[] #[]) .nilFunc) w = .ok (.bool true) w := by kernel_rfl
theorem neq_nil (w : World) : Sem.run Tryz.prog (binOp .neq 40 .nilFunc .nilFunc) w = .ok (.bool false) w := by kernel_rfl
attribute [local go_sem] fv_store neq_func neq_nil
theorem fv_func {c : Nat} (h : 1 ≤ c) : fv c = .func (.func (fid c)) #[] #[] := by
  cases c with
  | zero => omega
  | succ n => rfl
/-- The box of a form. -/
def FormAt (w : World) (b : Nat) (fs : List Nat) : Prop := ∀ i, i < 3 → w.cell? ⟨b, i, none⟩ = some (fv (fs.getD i 0))
theorem FormAt.new (w : World) (fs : List Nat) : FormAt (w.alloc (.cells #[fv (fs.getD 0 0), fv (fs.getD 1 0), fv (fs.getD 2 0)] 42)) w.heap.size fs := fun i hi => by
  rw [World.cell?_alloc_mark]
  match i, hi with
  | 0, _ => rfl
  | 1, _ => rfl
  | 2, _ => rfl
theorem FormAt.to {w w' : World} {b : Nat} {fs : List Nat} (h : FormAt w b fs) (hlt : b < w.heap.size) (hb : Below w.heap.size w w') : FormAt w' b fs := fun i hi => by
  rw [hb.cell (p := ⟨b, i, none⟩) hlt]; exact h i hi
set_option maxHeartbeats 400000 in
theorem places_any (fs : List Nat) (w : World) (hf : FsOk fs) :
    Calls Tryz.prog 92 #[.agg #[fv (fs.getD 0 0), fv (fs.getD 1 0), fv (fs.getD 2 0)]] w fun e w' => e = .returned (.int .i64 fs.length) ∧ Below w.heap.size w w' := by
  have HF : Hid (FsOk fs) := hf
  have hl3 := hf.1
  have HN : Hid (FormAt _ w.heap.size fs) := FormAt.new w fs
  have HB : Hid (Below w.heap.size w _) := one w (.cells #[fv (fs.getD 0 0), fv (fs.getD 1 0), fv (fs.getD 2 0)] 42)
  clear hf
  generalize hg0 : fv (fs.getD 0 0) = g0 at *
  generalize hg1 : fv (fs.getD 1 0) = g1 at *
  generalize hg2 : fv (fs.getD 2 0) = g2 at *
  clear hg0 hg1 hg2
  go_enter Tryz.func92, Tryz.ntmps92
  go_wp2
  generalize hV : w.alloc (.cells #[g0, g1, g2] 42) = V at *
  clear hV
  go_loopw [3] (fun c w' => ∃ j : Nat, j ≤ fs.length ∧ c = .int .i64 (j : Int) ∧ w' = V) (fun c _ => 3 - (intOf c).toNat)
  case atStart => exact ⟨0, by omega, rfl, rfl⟩
  case round =>
    obtain ⟨j, hj, rfl, rfl⟩ := hrel
    by_cases hlt : j < fs.length
    · have hlt' : (j : Int) < 3 := by omega
      have hcell := HN.out j (by omega)
      rw [fv_func (HF.out.2 j hlt).1] at hcell
      generalize fid (fs.getD j 0) = f at hcell
      go_wp2
      exact ⟨⟨j + 1, by omega, by go_num, by trivial⟩, by simp [intOf]; omega⟩
    · obtain rfl : j = fs.length := by omega
      by_cases h3 : fs.length = 3
      · have h3' : ¬ (fs.length : Int) < 3 := by omega
        go_wp2
        go_ret
        exact ⟨rfl, HB.out⟩
      · have h3' : (fs.length : Int) < 3 := by omega
        have hcell := HN.out fs.length (by omega)
        rw [show fs.getD fs.length 0 = 0 by simp [List.getD]] at hcell
        replace hcell : _ = some Value.nilFunc := hcell
        go_wp2
        go_ret
        exact ⟨rfl, HB.out⟩
theorem grownFit {c : Nat} {k n p : Int} {w : World} (hT : DevTab w) (h1 : 1 ≤ c) (h2 : c ≤ 13) (d : Nat) (os : Array Obj) :
    Calls Tryz.prog (fid c) #[.agg #[.int .i64 k, .int .i64 n, .int .i64 p]] (Sort.grow (redrawn w d) os) fun e w'' => e = .returned (.bool (fitB c k n p)) ∧ ∃ p' : Regrown, w'' = Sort.grow (redrawn w p'.d) p'.os :=
  Calls.regrown_of (fit_any c k n p _ (hT.to (below_regrown _ d os)) h1 h2)
set_option maxHeartbeats 1000000 in
theorem takes_any (fs : List Nat) (ys : List Ar) (p : Option Addr) (cap : Nat) (w : World) (hf : FsOk fs) (hT : DevTab w) (hA : ArgsIs w p ys) (_hlc : ys.length ≤ cap) (hbd : ys.length ≤ 2000000) :
    Calls Tryz.prog 54 #[.agg #[fv (fs.getD 0 0), fv (fs.getD 1 0), fv (fs.getD 2 0)], .slice p ys.length cap] w fun e w' => e = .returned (.bool (takeB fs ys)) ∧ Below w.heap.size w w' := by
  have HF : Hid (FsOk fs) := hf
  have hl3 := hf.1
  have HN : Hid (FormAt _ w.heap.size fs) := FormAt.new w fs
  have HB : Hid (Below w.heap.size w _) := one w (.cells #[fv (fs.getD 0 0), fv (fs.getD 1 0), fv (fs.getD 2 0)] 42)
  have HA : Hid (ArgsIs w p ys) := hA
  clear hA
  by_cases h0 : ys.length = 0
  · rw [show takeB fs ys = false by simp [takeB, h0]]
    clear HA
    rw [h0]
    clear h0 hf
    generalize fv (fs.getD 0 0) = g0 at *
    generalize fv (fs.getD 1 0) = g1 at *
    generalize fv (fs.getD 2 0) = g2 at *
    go_enter Tryz.func54, Tryz.ntmps54
    go_wp2
    go_ret
    exact ⟨rfl, HB.out⟩
  have h0' : ((ys.length : Int) == 0) = false := by simpa using h0
  have H0 : Hid (ys.length ≠ 0) := h0
  clear h0
  have hP : ∀ W, Calls Tryz.prog 92 #[.agg #[fv (fs.getD 0 0), fv (fs.getD 1 0), fv (fs.getD 2 0)]] W fun e w' => e = .returned (.int .i64 fs.length) ∧ Below W.heap.size W w' := fun W => places_any fs W hf
  have HP : Hid (∀ W, Calls Tryz.prog 92 #[.agg #[fv (fs.getD 0 0), fv (fs.getD 1 0), fv (fs.getD 2 0)]] W fun e w' => e = .returned (.int .i64 fs.length) ∧ Below W.heap.size W w') := hP
  clear hP hf
  generalize fv (fs.getD 0 0) = g0 at *
  generalize fv (fs.getD 1 0) = g1 at *
  generalize fv (fs.getD 2 0) = g2 at *
  go_enter Tryz.func54, Tryz.ntmps54
  go_wp2_with fail
  refine (HP.out _).mono ?_
  rintro e w1 ⟨rfl, hb1⟩
  have HB1 : Hid (Below w.heap.size w w1) := of_one hb1
  have HN1 : Hid (FormAt w1 w.heap.size fs) := HN.out.to (by simp) hb1
  have HT1 : Hid (DevTab w1) := hT.to HB1.out
  clear hb1
  by_cases hl : ys.length = fs.length
  · have hl' : ((ys.length : Int) == (fs.length : Int)) = true := by rw [hl]; simp
    have HL : Hid (ys.length = fs.length) := hl
    clear hl
    have HA1 : Hid (ArgsIs w1 p ys) := HA.out.to HB1.out
    have hw1 : w.heap.size < w1.heap.size := World.block_lt_of_cell? w1 ⟨w.heap.size, 0, none⟩ (HN1.out 0 (by omega))
    clear HA HN HB hT HP
    go_wp2
    go_loopw [19] (fun c w' => ∃ j : Nat, j ≤ ys.length ∧ c = .int .i64 (j : Int) ∧ Hid (Below w1.heap.size w1 w') ∧ Hid (∀ i, i < j → fitA fs ys i = true)) (fun c _ => ys.length - (intOf c).toNat)
    case atStart => exact ⟨0, by omega, rfl, Below.refl _ _, fun i hi => by omega⟩
    case round =>
      obtain ⟨j, hj, rfl, HBr, HD⟩ := hrel
      rename_i wr
      by_cases hlt : j < ys.length
      · have hlt' : (j : Int) < (ys.length : Int) := by omega
        rcases HA1.out with hnil | ⟨b, rfl, hbl, hAt⟩
        · rw [hnil] at hlt; simp at hlt
        have hlf : j < fs.length := by rw [← HL.out]; exact hlt
        have hj3 : (j : Int) < 3 := by omega
        obtain ⟨a0, a1, a2⟩ := (hAt.to hbl HBr.out) j hlt
        have hcell := (HN1.out.to hw1 HBr.out) j (by omega)
        obtain ⟨q1, q2⟩ := HF.out.2 j hlf
        rw [fv_func q1] at hcell
        have hTr : DevTab wr := HT1.out.to HBr.out
        have HFit : Hid (fitA fs ys j = fitB (fs.getD j 0) (at3 ys j).1 (at3 ys j).2.1 (at3 ys j).2.2) := rfl
        generalize fs.getD j 0 = c at *
        generalize (at3 ys j).1 = k at *
        generalize (at3 ys j).2.1 = n at *
        generalize (at3 ys j).2.2 = p at *
        clear hAt
        have hen := fid_enters c q1 q2
        have hwl : w.heap.size < wr.heap.size := Nat.lt_of_lt_of_le hw1 HBr.out.size
        have hcell2 : (wr.alloc (argO k n p)).cell? ⟨w.heap.size, j, none⟩ = some (.func (.func (fid c)) #[] #[]) := by rw [World.cell?_alloc_lt _ _ _ hwl]; exact hcell
        obtain ⟨b0, b1, b2⟩ := arg_at k n p wr
        have k0 := cell_regrown b0
        have k1 := cell_regrown b1
        have k2 := cell_regrown b2
        have k3 := cell_regrown hcell2
        have hTa := hTr.alloc (argO k n p)
        have hBa : Hid (Below w1.heap.size w1 (wr.alloc (argO k n p))) := HBr.out.alloc HBr.out.size _
        clear b0 b1 b2 hcell2 hTr
        go_wp2
        refine wp_region_quiet_below (by kernel_rfl) (by kernel_rfl) ?_
        repeat (first | go_big_quiet_step (exact grownFit hTa q1 q2 _ _) | quiet_step (exact grownFit hTa q1 q2 _ _))
        refine wpQuiet_nil ?_
        intro _ hw'
        obtain ⟨⟨dq, osq⟩, hw''⟩ := hw'
        subst hw''
        have HBq : Hid (Below w1.heap.size w1 (Sort.grow (redrawn (wr.alloc (argO k n p)) dq) osq)) := hBa.out.trans ((below_regrown _ dq osq).mono hBa.out.size)
        clear k0 k1 k2 k3 hTa hBa hcell
        generalize Sort.grow (redrawn (wr.alloc (argO k n p)) dq) osq = wq at *
        cases hfit : fitB c k n p
        · have HR : Hid (takeB fs ys = false) := take_no hlt (HFit.out.trans hfit)
          go_wp2
          go_ret
          exact ⟨by rw [HR.out]; rfl, HB1.out.trans (HBq.out.mono HB1.out.size)⟩
        · have HD2 : Hid (∀ i, i < j + 1 → fitA fs ys i = true) := all_upto HD.out (HFit.out.trans hfit)
          go_wp2
          exact ⟨⟨j + 1, by omega, by go_num, HBq, HD2⟩, by simp [intOf]; omega⟩
      · obtain rfl : j = ys.length := by omega
        go_wp2
        go_ret
        exact ⟨by rw [take_yes H0.out HL.out HD.out]; rfl, HB1.out.trans (HBr.out.mono HB1.out.size)⟩
  · have HR : Hid (takeB fs ys = false) := by show takeB fs ys = false; simp [takeB, hl]
    have hl' : ((ys.length : Int) == (fs.length : Int)) = false := by
      rw [beq_eq_false_iff_ne]
      intro h
      exact hl (by exact_mod_cast h)
    clear hl HA
    go_wp2
    go_ret
    exact ⟨by rw [HR.out]; rfl, HB1.out⟩
end Go.Proofs.YtlddkhhaclfmiaaGreatDoor

/- What a row of the table takes as operands: the program's. Helper text: no statement is claimed here. -/
namespace Go.Proofs.YtlddkhhaclfmiaaGreatDoor
open Go.ChangeShapes Go.WideShapes Go.ChangeAt Go.RowKit

/-- A row of the table as a value. -/
abbrev erowV (i : Nat) : Value := .agg #[.string ⟨(nm i).toArray⟩, .int .i32 (mk i), .int .i64 (ts i), fv ((fm0 i).getD 0 0), fv ((fm0 i).getD 1 0), fv ((fm0 i).getD 2 0), fv ((fm1 i).getD 0 0), fv ((fm1 i).getD 1 0), fv ((fm1 i).getD 2 0)]
theorem erowV_any (op : Int) (w : World) : Calls Tryz.prog 19 #[.int .i64 op] w fun e w' => e = .returned (erowV (ez op)) ∧ Below w.heap.size w w' := erow_any op w
set_option maxHeartbeats 400000 in
theorem rowTakes_any (i : Nat) (ys : List Ar) (p : Option Addr) (cap : Nat) (w : World) (hT : DevTab w) (hA : ArgsIs w p ys) (hlc : ys.length ≤ cap) (hbd : ys.length ≤ 2000000) :
    Calls Tryz.prog 20 #[erowV i, .slice p ys.length cap] w fun e w' => e = .returned (.bool (okA i ys)) ∧ Below w.heap.size w w' := by
  have H0 : Hid (∀ W, DevTab W → ArgsIs W p ys → Calls Tryz.prog 54 #[.agg #[fv ((fm0 i).getD 0 0), fv ((fm0 i).getD 1 0), fv ((fm0 i).getD 2 0)], .slice p ys.length cap] W fun e w' => e = .returned (.bool (takeB (fm0 i) ys)) ∧ Below W.heap.size W w') :=
    fun W h1 h2 => takes_any (fm0 i) ys p cap W (fm0_ok i) h1 h2 hlc hbd
  have H1 : Hid (∀ W, DevTab W → ArgsIs W p ys → Calls Tryz.prog 54 #[.agg #[fv ((fm1 i).getD 0 0), fv ((fm1 i).getD 1 0), fv ((fm1 i).getD 2 0)], .slice p ys.length cap] W fun e w' => e = .returned (.bool (takeB (fm1 i) ys)) ∧ Below W.heap.size W w') :=
    fun W h1 h2 => takes_any (fm1 i) ys p cap W (fm1_ok i) h1 h2 hlc hbd
  have HA : Hid (ArgsIs w p ys) := hA
  have HO : Hid (okA i ys = (takeB (fm0 i) ys || takeB (fm1 i) ys)) := rfl
  clear hA
  unfold erowV
  generalize fv ((fm0 i).getD 0 0) = g0 at *
  generalize fv ((fm0 i).getD 1 0) = g1 at *
  generalize fv ((fm0 i).getD 2 0) = g2 at *
  generalize fv ((fm1 i).getD 0 0) = g3 at *
  generalize fv ((fm1 i).getD 1 0) = g4 at *
  generalize fv ((fm1 i).getD 2 0) = g5 at *
  generalize takeB (fm0 i) ys = t0 at *
  generalize takeB (fm1 i) ys = t1 at *
  go_enter Tryz.func20, Tryz.ntmps20
  go_wp2_with fail
  refine (H0.out _ (hT.alloc _) (HA.out.to (one _ _))).mono ?_
  rintro e w1 ⟨rfl, hb1⟩
  have HB1 : Hid (Below w.heap.size w w1) := of_one hb1
  obtain ⟨hc, hf⟩ := bcell hb1
  cases t0 with
  | true =>
    go_wp2
    go_ret
    exact ⟨by rw [HO.out]; rfl, HB1.out⟩
  | false =>
    go_wp2_with fail
    refine (H1.out _ (hT.to HB1.out) (HA.out.to HB1.out)).mono ?_
    rintro e w2 ⟨rfl, hb2⟩
    go_wp2
    go_ret
    exact ⟨by rw [HO.out]; rfl, HB1.out.trans (hb2.mono HB1.out.size)⟩
end Go.Proofs.YtlddkhhaclfmiaaGreatDoor

/- Which numbers are tests: cmpIs. Helper text: no statement is claimed here. -/
namespace Go.Proofs.YtlddkhhaclfmiaaGreatDoor
open Go.ChangeShapes Go.WideShapes Go.ChangeAt Go.RowKit

theorem cmpIs_any (i : Nat) (w : World) (h1 : 1 ≤ i) (h2 : i ≤ 6) :
    Calls Tryz.prog 117 #[.int .i64 (i : Int)] w fun e w' => e = .returned (.bool true) ∧ w' = w := by
  have a : ¬ (i : Int) < 1 := by omega
  have b : ¬ (6 : Int) < i := by omega
  go_enter Tryz.func117, Tryz.ntmps117
  go_wp2
  go_ret
  exact ⟨by simp, rfl⟩
end Go.Proofs.YtlddkhhaclfmiaaGreatDoor

/- The table of tests, as the program's own text lays it, cell for cell. Helper text: no statement is claimed here. -/
namespace Go.Proofs.YtlddkhhaclfmiaaGreatDoor
open Go.ChangeShapes Go.WideShapes Go.ChangeAt Go.RowKit

def qL : Nat → List UInt8
  | 1 => [60] | 2 => [60, 61] | 3 => [61] | 4 => [60, 62] | 5 => [62, 61] | 6 => [62] | _ => []
def qF : Nat → Int
  | 1 => 5 | 2 => 6 | 3 => 4 | 4 => 3 | 5 => 1 | 6 => 2 | _ => 0
def qS : Nat → Int
  | 1 => 6 | 2 => 5 | 3 => 3 | 4 => 4 | 5 => 2 | 6 => 1 | _ => 0
/-- The cells of the table of tests. -/
def CmpTab (w : World) : Prop := ∀ i, i < 7 →
  w.cell? ⟨3, i * 3, none⟩ = some (.string ⟨(qL i).toArray⟩) ∧ w.cell? ⟨3, i * 3 + 1, none⟩ = some (.int .i64 (qF i)) ∧
  w.cell? ⟨3, i * 3 + 2, none⟩ = some (.int .i64 (qS i))
namespace Cq
theorem gRows : Tryz.prog.globalNamed (Rows.fnElemBackRow.named.getD 5 "") = some 3 := by kernel_rfl
theorem tRows : (Tryz.prog.globals[3]?).map (·.type) = some 148 := by kernel_rfl
theorem cRow : Tryz.prog.cellsOf 119 = 3 := by kernel_rfl
theorem cInt : Tryz.prog.cellsOf 3 = 1 := by kernel_rfl
theorem cStr : Tryz.prog.cellsOf 9 = 1 := by kernel_rfl
set_option maxRecDepth 20000 in
theorem threes {α : Type} {l : List α} (h : l.length = 3) : ∃ a b c, l = [a, b, c] := by
  match l, h with
  | [a, b, c], _ => exact ⟨a, b, c, rfl⟩
theorem rowCells {w : World} {sp : Nat → Bool} {held : Bool} {fuel : Nat} {cs : List Value} {l : List UInt8} {n k : Int} {p : List MemPlace}
    (h : DataW.trod (fun _ => ()) Tryz.prog w 0 sp held fuel 119 cs = some (.agg [.lit (.string l), .lit (.int .i64 n), .lit (.int .i64 k)], p)) :
    cs = [.string ⟨l.toArray⟩, .int .i64 n, .int .i64 k] := by
  obtain ⟨xs, m, rfl, hx, hl, hn, hf⟩ := DataW.trod_struct Tryz.underlying119 h
  simp only [Prod.mk.injEq, DataW.agg.injEq] at hx
  rw [cRow] at hl
  obtain ⟨x0, x1, x2, rfl⟩ := threes (show xs.length = 3 from hn)
  obtain ⟨c0, c1, c2, rfl⟩ := threes hl
  · skip
    have f0 := hf 0 _ rfl
    have f1 := hf 1 _ rfl
    have f2 := hf 2 _ rfl
    simp only [List.map_cons, List.map_nil, List.cons.injEq, and_true] at hx
    obtain ⟨⟨e0, e1, e2⟩, _⟩ := hx
    simp [cInt, cStr] at f0 f1 f2
    obtain ⟨s0, g0, h0, _⟩ := DataW.trod_string Tryz.underlying9 f0
    obtain ⟨n1, g1, h1, _⟩ := DataW.trod_int Tryz.underlying3 f1
    obtain ⟨n2, g2, h2, _⟩ := DataW.trod_int Tryz.underlying3 f2
    rw [h0] at e0; rw [h1] at e1; rw [h2] at e2
    simp only [DataW.lit.injEq, Lit.string.injEq, Lit.int.injEq, true_and] at e0 e1 e2
    simp only [List.cons.injEq, and_true] at g0 g1 g2
    subst e0 e1 e2 g0 g1 g2
    simp
def rowD (i : Nat) : DataW Unit := .agg [.lit (.string (qL i)), .lit (.int .i64 (qF i)), .lit (.int .i64 (qS i))]
def rowsD : List (DataW Unit) := [rowD 0, rowD 1, rowD 2, rowD 3, rowD 4, rowD 5, rowD 6]
theorem rowsD_at (i : Nat) (h : i < 7) : rowsD[i]? = some (rowD i) := by
  have : i = 0 ∨ i = 1 ∨ i = 2 ∨ i = 3 ∨ i = 4 ∨ i = 5 ∨ i = 6 := by omega
  rcases this with rfl | rfl | rfl | rfl | rfl | rfl | rfl <;> rfl
theorem laid_rowsD : (Rows.laid_loop_example_stilscan_impl_cmpRows : DataW Unit) = .agg rowsD := rfl
end Cq
theorem cmpTab_of {W : World} {sp : Nat → Bool} {held : Bool} {cs : Array Value} {fuel : Nat} {p : List MemPlace}
    (hv : W.var? Tryz.prog (Rows.fnElemBackRow.named.getD 5 "") = some cs)
    (hd : DataW.trod (fun _ => ()) Tryz.prog W 0 sp held fuel 148 cs.toList = some (Rows.laid_loop_example_stilscan_impl_cmpRows, p)) : CmpTab W := by
  rw [Cq.laid_rowsD] at hd
  obtain ⟨xs, m, rfl, hx, hl, hn, hel⟩ := DataW.trod_array Tryz.underlying148 hd
  simp only [Prod.mk.injEq, DataW.agg.injEq] at hx
  intro i hi
  have h1 := hel i hi
  have h2 := Cq.rowsD_at i hi
  rw [hx.1, List.getElem?_map] at h2
  obtain ⟨x, hx1, hx2⟩ := Option.map_eq_some_iff.1 h2
  rw [hx1, Cq.cRow] at h1
  have h3 := Cq.rowCells (p := x.2) (h1.trans (by rw [show x = (x.1, x.2) from rfl, hx2]; rfl))
  have at_ : ∀ j, j < 3 → cs[i * 3 + j]? = ((cs.toList.drop (i * 3)).take 3)[j]? := by
    intro j hj
    simp [hj]
  have hc := World.var?_cell Cq.gRows hv
  have a0 := at_ 0 (by omega)
  have a1 := at_ 1 (by omega)
  have a2 := at_ 2 (by omega)
  rw [h3] at a0 a1 a2
  refine ⟨?_, ?_, ?_⟩
  · rw [hc]; simpa using a0
  · rw [hc]; simpa using a1
  · rw [hc]; simpa using a2
theorem CmpTab.below {w w' : World} (h : CmpTab w) (hb : Below w.heap.size w w') (hs : 3 < w.heap.size) : CmpTab w' := fun i hi => by
  have := h i hi
  simp only [hb.cell (p := ⟨3, _, none⟩) hs]
  exact this
theorem CmpTab.lt {w : World} (h : CmpTab w) : 3 < w.heap.size := World.block_lt_of_cell? w ⟨3, _, none⟩ (h 0 (by omega)).1
theorem CmpTab.to {w w' : World} (h : CmpTab w) (hb : Below w.heap.size w w') : CmpTab w' := h.below hb h.lt
namespace Cq
theorem field_0 (a b c : Value) (w : World) : Sem.run Tryz.prog (Instr.field 119 (.agg #[a, b, c]) 0) w = .ok a w := by kernel_rfl
theorem field_1 (a b c : Value) (w : World) : Sem.run Tryz.prog (Instr.field 119 (.agg #[a, b, c]) 1) w = .ok b w := by kernel_rfl
theorem field_2 (a b c : Value) (w : World) : Sem.run Tryz.prog (Instr.field 119 (.agg #[a, b, c]) 2) w = .ok c w := by kernel_rfl
end Cq
set_option maxHeartbeats 400000 in
theorem cmpRow_yes (i : Nat) (w : World) (h1 : 1 ≤ i) (h2 : i ≤ 6) (hT : CmpTab w) :
    Calls Tryz.prog 99 #[.int .i64 (i : Int)] w fun e w' => e = .returned (.agg #[.string ⟨(qL i).toArray⟩, .int .i64 (qF i), .int .i64 (qS i)]) ∧ Below w.heap.size w w' := by
  obtain ⟨t0, t1, t2⟩ := hT i (by omega)
  have a : ¬ (i : Int) < 1 := by omega
  have b : ¬ (6 : Int) < i := by omega
  have hs : 3 < w.heap.size := hT.lt
  clear hT
  go_enter Tryz.func99, Tryz.ntmps99
  go_wp2_with fail
  refine (cmpIs_any i _ h1 h2).mono ?_
  rintro e w' ⟨rfl, rfl⟩
  go_wp2
  exact bodyPost_ret (v := .agg #[.string ⟨(qL i).toArray⟩, .int .i64 (qF i), .int .i64 (qS i)]) (by simp [results, Tryz.results99, go_sem]) rfl ⟨rfl, (Below.refl _ _).alloc (Nat.le_refl _) _⟩
end Go.Proofs.YtlddkhhaclfmiaaGreatDoor

/- What stands ahead of operands and between them: the program's. Helper text: no statement is claimed here. -/
namespace Go.Proofs.YtlddkhhaclfmiaaGreatDoor
open Go.ChangeShapes Go.WideShapes Go.ChangeAt Go.RowKit

/-- What stands ahead of the first operand. -/
def ah (i : Nat) : List UInt8 := if nm i ≠ [] then nm i ++ [58] else if i = 2 then [47] else if i = 3 then [43] else if i = 4 then [45] else []
/-- What stands between two operands. -/
def bt (i : Nat) : List UInt8 := if nm i ≠ [] then [44] else if ts i ≠ 0 then qL (ts i).toNat else [58]
theorem nm_len (i : Nat) : (nm i).length ≤ 5 := by unfold nm; split <;> simp
theorem ah_len (i : Nat) : (ah i).length ≤ 6 := by
  unfold ah
  have := nm_len i
  split
  · simp; omega
  · repeat' split
    all_goals simp
theorem mk_no (i : Nat) (h2 : i ≠ 2) (h3 : i ≠ 3) (h4 : i ≠ 4) : mk i = 0 := by
  unfold mk; split <;> first | rfl | omega
theorem ts_bd (i : Nat) : 0 ≤ ts i ∧ ts i ≤ 6 := by unfold ts; split <;> omega
theorem qL_len (i : Nat) : (qL i).length ≤ 2 := by unfold qL; split <;> simp
theorem bt_len (i : Nat) : (bt i).length ≤ 2 := by
  unfold bt
  split
  · simp
  · split
    · exact qL_len _
    · simp

theorem ret_strL {l m : List UInt8} (h : l = m) : Ending.returned (.string ⟨l.toArray⟩) = .returned (.string ⟨m.toArray⟩) := by rw [h]
theorem conv_47 (w : World) : Sem.run Tryz.prog (convert 21 9 (.int .i32 47)) w = .ok (.string ⟨#[47]⟩) w := by kernel_rfl
theorem conv_43 (w : World) : Sem.run Tryz.prog (convert 21 9 (.int .i32 43)) w = .ok (.string ⟨#[43]⟩) w := by kernel_rfl
theorem conv_45 (w : World) : Sem.run Tryz.prog (convert 21 9 (.int .i32 45)) w = .ok (.string ⟨#[45]⟩) w := by kernel_rfl
attribute [local go_sem] conv_47 conv_43 conv_45
theorem cat' (a b : List UInt8) : (⟨a.toArray⟩ : ByteArray) ++ ⟨b.toArray⟩ = ⟨(a ++ b).toArray⟩ := by
  apply ByteArray.ext
  simp

set_option maxHeartbeats 400000 in
theorem ahead_any (i : Nat) (w : World) :
    Calls Tryz.prog 22 #[erowV i] w fun e w' => e = .returned (.string ⟨(ah i).toArray⟩) ∧ Below w.heap.size w w' := by
  have hlen := nm_len i
  by_cases hn : nm i = []
  · by_cases h2 : i = 2
    · subst h2
      go_enter Tryz.func22, Tryz.ntmps22
      go_wp2
      go_ret
      exact ⟨rfl, one _ _⟩
    by_cases h3 : i = 3
    · subst h3
      go_enter Tryz.func22, Tryz.ntmps22
      go_wp2
      go_ret
      exact ⟨rfl, one _ _⟩
    by_cases h4 : i = 4
    · subst h4
      go_enter Tryz.func22, Tryz.ntmps22
      go_wp2
      go_ret
      exact ⟨rfl, one _ _⟩
    rw [show ah i = [] by simp [ah, hn, h2, h3, h4]]
    unfold erowV
    rw [hn, mk_no i h2 h3 h4]
    clear hn h2 h3 h4 hlen
    go_enter Tryz.func22, Tryz.ntmps22
    go_wp2
    go_ret
    exact ⟨rfl, one _ _⟩
  · rw [show ah i = nm i ++ [58] by simp [ah, hn]]
    unfold erowV
    obtain ⟨c, l, hl⟩ := List.exists_cons_of_ne_nil hn
    rw [hl] at hlen ⊢
    simp only [List.length_cons] at hlen
    have hlen2 : l.length ≤ 4 := by omega
    clear hn hl
    go_enter Tryz.func22, Tryz.ntmps22
    go_wp2
    go_ret
    exact ⟨by first | rfl | exact congrArg (fun s => Ending.returned (.string s)) (cat' _ _), one _ _⟩

set_option maxHeartbeats 400000 in
theorem cmpText_any (i : Nat) (w : World) (h1 : 1 ≤ i) (h2 : i ≤ 6) (hT : CmpTab w) :
    Calls Tryz.prog 62 #[.int .i64 (i : Int)] w fun e w' => e = .returned (.string ⟨(qL i).toArray⟩) ∧ Below w.heap.size w w' := by
  have f0 := Cq.field_0
  go_enter Tryz.func62, Tryz.ntmps62
  go_wp2_with fail
  refine (cmpRow_yes _ _ h1 h2 hT).mono ?_
  rintro e w' ⟨rfl, hb⟩
  go_wp2
  go_ret
  exact ⟨rfl, hb⟩

set_option maxHeartbeats 400000 in
theorem between_any (i : Nat) (w : World) (hT : CmpTab w) :
    Calls Tryz.prog 24 #[erowV i] w fun e w' => e = .returned (.string ⟨(bt i).toArray⟩) ∧ Below w.heap.size w w' := by
  unfold erowV
  by_cases hn : nm i = []
  · by_cases h0 : ts i = 0
    · rw [show bt i = [58] by simp [bt, hn, h0], hn, h0]
      clear hn h0
      go_enter Tryz.func24, Tryz.ntmps24
      go_wp2
      go_ret
      exact ⟨rfl, one _ _⟩
    · rw [show bt i = qL (ts i).toNat by simp [bt, hn, h0], hn]
      have hb := ts_bd i
      obtain ⟨m, hm⟩ := Int.eq_ofNat_of_zero_le hb.1
      rw [hm] at hb h0 ⊢
      simp only [Int.toNat_natCast]
      have h0' : ((m : Int) == 0) = false := by simpa using h0
      have m1 : 1 ≤ m := by omega
      have m6 : m ≤ 6 := by omega
      clear hn h0 hm hb
      go_enter Tryz.func24, Tryz.ntmps24
      go_wp2_with fail
      refine (cmpText_any m _ m1 m6 (hT.to (one _ _))).mono ?_
      rintro e w' ⟨rfl, hb⟩
      go_wp2
      go_ret
      exact ⟨rfl, of_one hb⟩
  · rw [show bt i = [44] by simp [bt, hn]]
    obtain ⟨c, l, hl⟩ := List.exists_cons_of_ne_nil hn
    rw [hl]
    clear hn hl
    go_enter Tryz.func24, Tryz.ntmps24
    go_wp2
    go_ret
    exact ⟨rfl, one _ _⟩
end Go.Proofs.YtlddkhhaclfmiaaGreatDoor

/- How long the text of an operand can be. Helper text: no statement is claimed here. -/
namespace Go.Proofs.YtlddkhhaclfmiaaGreatDoor
open Go.ChangeShapes Go.WideShapes Go.ChangeAt Go.RowKit

theorem txt_len (k n p : Int) : (txt k n p).length ≤ 100 := by
  unfold txt
  split
  · rename_i h
    split
    · rename_i h1; subst h1
      have := okB_int h
      have := Lib.itoa_length_le n (by omega) (by omega)
      omega
    split
    · rename_i h2; subst h2
      have := okB_dec h
      have := decT_len n p.toNat (by omega) (by omega) (by omega)
      omega
    split
    · unfold wordL; split <;> simp
    · rename_i h1 h2 h3
      have := okB_device h1 h2 h3 h
      have a := Lib.itoa_length_le n (by omega) (by omega)
      have b := rL_len (kz k)
      simp; omega
  · simp
end Go.Proofs.YtlddkhhaclfmiaaGreatDoor
