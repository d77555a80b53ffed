/- Which operands may stand at a place: the program's functions. Helper text: no statement is claimed here. -/
import Derived.Test.YtleopmhllbaalagDoorLa
import Derived.Test.YtleopmhllbaalagDoorDd
namespace Go.Proofs.YtleopmhllbaalagDoor
open Go.ChangeShapes Go.WideShapes Go.ChangeAt Go.RowKit

theorem mem_upto {ks : List Int} {k : Int} {j : Nat} (h : j < ks.length) (hno : ∀ i, i < j → ks.getD i 0 ≠ k) (hj : ks.getD j 0 ≠ k) : ∀ i, i < j + 1 → ks.getD i 0 ≠ k := fun i hi => by
  rcases Nat.lt_or_ge i j with h' | h'
  · exact hno i h'
  · obtain rfl : i = j := by omega
    exact hj
/-- A number is among others. -/
def hasK (ks : List Int) (k : Int) : Bool := ks.contains k
theorem contains_no {ks : List Int} {k : Int} (hno : ∀ i, i < ks.length → ks.getD i 0 ≠ k) : hasK ks k = false := by
  unfold hasK
  rw [Bool.eq_false_iff]
  intro h
  obtain ⟨i, hi, e⟩ := List.mem_iff_getElem.1 (List.contains_iff_mem.1 h)
  exact hno i hi (by simp [List.getD, hi, e])
theorem contains_yes {ks : List Int} {k : Int} {j : Nat} (h : j < ks.length) (hj : ks.getD j 0 = k) : hasK ks k = true := by
  unfold hasK
  rw [List.contains_iff_mem, List.mem_iff_getElem]
  exact ⟨j, h, by simpa [List.getD, h] using hj⟩

/-- Whole numbers that lie in a row of cells. -/
def IntsAt (w : World) (b : Nat) (ks : List Int) : Prop := ∀ i, i < ks.length → w.cell? ⟨b, i, none⟩ = some (.int .i64 (ks.getD i 0))

set_option maxHeartbeats 400000 in
theorem index_any (ks : List Int) (b : Nat) (k : Int) (w : World) (hl : ks.length ≤ 5) (hc : IntsAt w b ks) :
    Calls Tryd.prog 77 #[.slice (some ⟨b, 0, none⟩) ks.length ks.length, .int .i64 k] w fun e w' => (∃ v : Int, e = .returned (.int .i64 v) ∧ Hid (decide (0 ≤ v) = hasK ks k)) ∧ w' = w := by
  have HC : Hid (IntsAt w b ks) := hc
  clear hc
  go_enter Tryd.func77, Tryd.ntmps77
  go_wp2
  go_loopw [8] (fun c w' => ∃ j : Nat, j ≤ ks.length ∧ c = .int .i64 (j : Int) ∧ w' = w ∧ ∀ i, i < j → ks.getD i 0 ≠ k) (fun c _ => ks.length - (intOf c).toNat)
  case atStart => exact ⟨0, by omega, rfl, rfl, fun i hi => by omega⟩
  case round =>
    obtain ⟨j, hj, rfl, rfl, hno⟩ := hrel
    have HN : Hid (∀ i, i < j → ks.getD i 0 ≠ k) := hno
    clear hno
    by_cases hlt : j < ks.length
    · have hlt' : (j : Int) < ks.length := by omega
      have hcell := HC.out j hlt
      generalize hg : ks.getD j 0 = g at hcell
      have HG : Hid (ks.getD j 0 = g) := hg
      clear hg
      by_cases he : k = g
      · have he' : (k == g) = true := by simpa using he
        have HE : Hid (k = g) := he
        clear he
        go_wp2
        go_ret
        refine ⟨⟨_, rfl, ?_⟩, by trivial⟩
        show decide _ = _
        rw [contains_yes hlt (HG.out.trans HE.out.symm)]
        simp
      · have he' : (k == g) = false := by simpa using he
        have HE : Hid (k ≠ g) := he
        clear he
        go_wp2
        exact ⟨⟨j + 1, by omega, by go_num, by trivial, mem_upto hlt HN.out (by rw [HG.out]; exact fun h => HE.out h.symm)⟩, by simp [intOf]; omega⟩
    · have hlt' : ¬ (j : Int) < ks.length := by omega
      go_wp2
      go_ret
      refine ⟨⟨-1, rfl, ?_⟩, by trivial⟩
      show decide _ = _
      rw [contains_no (fun i hi => HN.out i (by omega))]
      rfl

set_option maxHeartbeats 400000 in
theorem contains_any (ks : List Int) (b : Nat) (k : Int) (w : World) (hl : ks.length ≤ 5) (hc : IntsAt w b ks) :
    Calls Tryd.prog 69 #[.slice (some ⟨b, 0, none⟩) ks.length ks.length, .int .i64 k] w fun e w' => e = .returned (.bool (hasK ks k)) ∧ w' = w := by
  go_enter Tryd.func69, Tryd.ntmps69
  go_wp2_with fail
  refine (index_any ks b k _ hl hc).mono ?_
  rintro e w' ⟨⟨v, rfl, HV⟩, rfl⟩
  go_wp2
  go_ret
  exact ⟨by rw [← HV.out]; rfl, rfl⟩

def kinB (ks : List Int) (k n p : Int) : Bool := okB k n p && hasK ks k

set_option maxHeartbeats 400000 in
theorem isOf_any (ks : List Int) (b : Nat) (k n p : Int) (w : World) (hT : DevTab w) (hl : ks.length ≤ 5) (hc : IntsAt w b ks) (hb0 : b < w.heap.size) :
    Calls Tryd.prog 60 #[.agg #[.int .i64 k, .int .i64 n, .int .i64 p], .slice (some ⟨b, 0, none⟩) ks.length ks.length] w fun e w' => e = .returned (.bool (kinB ks k n p)) ∧ Below w.heap.size w w' := by
  have HC : Hid (IntsAt w b ks) := hc
  clear hc
  cases hok : okB k n p
  · rw [show kinB ks k n p = false by simp [kinB, hok]]
    have hk : Hid (okB k n p = false) := hok
    clear hok
    go_enter Tryd.func60, Tryd.ntmps60
    go_wp2_with fail
    refine (devOk_any _ _ _ _ (hT.alloc _)).mono ?_
    rintro e w' ⟨rfl, hb⟩
    rw [hk.out]
    go_wp2
    go_ret
    exact ⟨rfl, of_one hb⟩
  · rw [show kinB ks k n p = hasK ks k by simp [kinB, hok]]
    have hk : Hid (okB k n p = true) := hok
    clear hok
    go_enter Tryd.func60, Tryd.ntmps60
    go_wp2_with fail
    refine (devOk_any _ _ _ _ (hT.alloc _)).mono ?_
    rintro e w' ⟨rfl, hb⟩
    rw [hk.out]
    have HB : Hid (Below w.heap.size w w') := of_one hb
    obtain ⟨hc, hf⟩ := bcell hb
    go_wp2_with fail
    refine (contains_any ks b k _ hl (fun i hi => by rw [HB.out.cell (p := ⟨b, i, none⟩) hb0]; exact HC.out i hi)).mono ?_
    rintro e w2 ⟨rfl, rfl⟩
    go_wp2
    go_ret
    exact ⟨rfl, HB.out⟩

/-- The kinds of a sort of operands. -/
def sk : Nat → List Int
  | 4 => [5] | 5 => [4] | 6 => [7] | 7 => [8] | 8 => [9] | 9 => [10] | 10 => [2, 3] | 11 => [2, 3, 4] | 12 => [2, 3, 4, 7, 8] | 13 => [11] | _ => []
/-- Whether an operand is of a sort. -/
def fitB : Nat → Int → Int → Int → Bool
  | 1, k, n, p => isB k n p
  | 2, k, n, p => isW k n p
  | 3, k, n, p => isR k n p
  | 13, k, n, p => kinB [11] k n p && decide (0 ≤ n)
  | c, k, n, p => kinB (sk c) k n p

theorem of_both {w w' : World} {o1 o2 : Obj} (h : Below ((w.alloc o1).alloc o2).heap.size ((w.alloc o1).alloc o2) w') : Below w.heap.size w w' := of_one (of_one h)

theorem ints_4 (w : World) : IntsAt (w.alloc (.cells #[.int .i64 5] 3)) w.heap.size [5] := fun i hi => by
  have : i < 1 := hi
  rw [World.cell?_alloc_mark]
  match i, this with
  | 0, _ => rfl
set_option maxHeartbeats 400000 in
theorem fit_4 (k n p : Int) (w : World) (hT : DevTab w) :
    Calls Tryd.prog 42 #[.agg #[.int .i64 k, .int .i64 n, .int .i64 p]] w fun e w' => e = .returned (.bool (kinB [5] k n p)) ∧ Below w.heap.size w w' := by
  go_enter Tryd.func42, Tryd.ntmps42
  go_wp2_with fail
  refine (isOf_any [5] (w.heap.size + 1) k n p _ ((hT.alloc _).alloc _) (by simp) (by have := ints_4 (w.alloc (argO k n p)); simpa using this) (by simp)).mono ?_
  rintro e w' ⟨rfl, hb⟩
  go_wp2
  go_ret
  exact ⟨rfl, of_both hb⟩

theorem ints_5 (w : World) : IntsAt (w.alloc (.cells #[.int .i64 4] 3)) w.heap.size [4] := fun i hi => by
  have : i < 1 := hi
  rw [World.cell?_alloc_mark]
  match i, this with
  | 0, _ => rfl
set_option maxHeartbeats 400000 in
theorem fit_5 (k n p : Int) (w : World) (hT : DevTab w) :
    Calls Tryd.prog 46 #[.agg #[.int .i64 k, .int .i64 n, .int .i64 p]] w fun e w' => e = .returned (.bool (kinB [4] k n p)) ∧ Below w.heap.size w w' := by
  go_enter Tryd.func46, Tryd.ntmps46
  go_wp2_with fail
  refine (isOf_any [4] (w.heap.size + 1) k n p _ ((hT.alloc _).alloc _) (by simp) (by have := ints_5 (w.alloc (argO k n p)); simpa using this) (by simp)).mono ?_
  rintro e w' ⟨rfl, hb⟩
  go_wp2
  go_ret
  exact ⟨rfl, of_both hb⟩

theorem ints_6 (w : World) : IntsAt (w.alloc (.cells #[.int .i64 7] 3)) w.heap.size [7] := fun i hi => by
  have : i < 1 := hi
  rw [World.cell?_alloc_mark]
  match i, this with
  | 0, _ => rfl
set_option maxHeartbeats 400000 in
theorem fit_6 (k n p : Int) (w : World) (hT : DevTab w) :
    Calls Tryd.prog 37 #[.agg #[.int .i64 k, .int .i64 n, .int .i64 p]] w fun e w' => e = .returned (.bool (kinB [7] k n p)) ∧ Below w.heap.size w w' := by
  go_enter Tryd.func37, Tryd.ntmps37
  go_wp2_with fail
  refine (isOf_any [7] (w.heap.size + 1) k n p _ ((hT.alloc _).alloc _) (by simp) (by have := ints_6 (w.alloc (argO k n p)); simpa using this) (by simp)).mono ?_
  rintro e w' ⟨rfl, hb⟩
  go_wp2
  go_ret
  exact ⟨rfl, of_both hb⟩

theorem ints_7 (w : World) : IntsAt (w.alloc (.cells #[.int .i64 8] 3)) w.heap.size [8] := fun i hi => by
  have : i < 1 := hi
  rw [World.cell?_alloc_mark]
  match i, this with
  | 0, _ => rfl
set_option maxHeartbeats 400000 in
theorem fit_7 (k n p : Int) (w : World) (hT : DevTab w) :
    Calls Tryd.prog 47 #[.agg #[.int .i64 k, .int .i64 n, .int .i64 p]] w fun e w' => e = .returned (.bool (kinB [8] k n p)) ∧ Below w.heap.size w w' := by
  go_enter Tryd.func47, Tryd.ntmps47
  go_wp2_with fail
  refine (isOf_any [8] (w.heap.size + 1) k n p _ ((hT.alloc _).alloc _) (by simp) (by have := ints_7 (w.alloc (argO k n p)); simpa using this) (by simp)).mono ?_
  rintro e w' ⟨rfl, hb⟩
  go_wp2
  go_ret
  exact ⟨rfl, of_both hb⟩

theorem ints_8 (w : World) : IntsAt (w.alloc (.cells #[.int .i64 9] 3)) w.heap.size [9] := fun i hi => by
  have : i < 1 := hi
  rw [World.cell?_alloc_mark]
  match i, this with
  | 0, _ => rfl
set_option maxHeartbeats 400000 in
theorem fit_8 (k n p : Int) (w : World) (hT : DevTab w) :
    Calls Tryd.prog 39 #[.agg #[.int .i64 k, .int .i64 n, .int .i64 p]] w fun e w' => e = .returned (.bool (kinB [9] k n p)) ∧ Below w.heap.size w w' := by
  go_enter Tryd.func39, Tryd.ntmps39
  go_wp2_with fail
  refine (isOf_any [9] (w.heap.size + 1) k n p _ ((hT.alloc _).alloc _) (by simp) (by have := ints_8 (w.alloc (argO k n p)); simpa using this) (by simp)).mono ?_
  rintro e w' ⟨rfl, hb⟩
  go_wp2
  go_ret
  exact ⟨rfl, of_both hb⟩

theorem ints_9 (w : World) : IntsAt (w.alloc (.cells #[.int .i64 10] 3)) w.heap.size [10] := fun i hi => by
  have : i < 1 := hi
  rw [World.cell?_alloc_mark]
  match i, this with
  | 0, _ => rfl
set_option maxHeartbeats 400000 in
theorem fit_9 (k n p : Int) (w : World) (hT : DevTab w) :
    Calls Tryd.prog 40 #[.agg #[.int .i64 k, .int .i64 n, .int .i64 p]] w fun e w' => e = .returned (.bool (kinB [10] k n p)) ∧ Below w.heap.size w w' := by
  go_enter Tryd.func40, Tryd.ntmps40
  go_wp2_with fail
  refine (isOf_any [10] (w.heap.size + 1) k n p _ ((hT.alloc _).alloc _) (by simp) (by have := ints_9 (w.alloc (argO k n p)); simpa using this) (by simp)).mono ?_
  rintro e w' ⟨rfl, hb⟩
  go_wp2
  go_ret
  exact ⟨rfl, of_both hb⟩

theorem ints_10 (w : World) : IntsAt (w.alloc (.cells #[.int .i64 2, .int .i64 3] 3)) w.heap.size [2, 3] := fun i hi => by
  have : i < 2 := hi
  rw [World.cell?_alloc_mark]
  match i, this with
  | 0, _ => rfl
  | 1, _ => rfl
set_option maxHeartbeats 400000 in
theorem fit_10 (k n p : Int) (w : World) (hT : DevTab w) :
    Calls Tryd.prog 43 #[.agg #[.int .i64 k, .int .i64 n, .int .i64 p]] w fun e w' => e = .returned (.bool (kinB [2, 3] k n p)) ∧ Below w.heap.size w w' := by
  go_enter Tryd.func43, Tryd.ntmps43
  go_wp2_with fail
  refine (isOf_any [2, 3] (w.heap.size + 1) k n p _ ((hT.alloc _).alloc _) (by simp) (by have := ints_10 (w.alloc (argO k n p)); simpa using this) (by simp)).mono ?_
  rintro e w' ⟨rfl, hb⟩
  go_wp2
  go_ret
  exact ⟨rfl, of_both hb⟩

theorem ints_11 (w : World) : IntsAt (w.alloc (.cells #[.int .i64 2, .int .i64 3, .int .i64 4] 3)) w.heap.size [2, 3, 4] := fun i hi => by
  have : i < 3 := hi
  rw [World.cell?_alloc_mark]
  match i, this with
  | 0, _ => rfl
  | 1, _ => rfl
  | 2, _ => rfl
set_option maxHeartbeats 400000 in
theorem fit_11 (k n p : Int) (w : World) (hT : DevTab w) :
    Calls Tryd.prog 44 #[.agg #[.int .i64 k, .int .i64 n, .int .i64 p]] w fun e w' => e = .returned (.bool (kinB [2, 3, 4] k n p)) ∧ Below w.heap.size w w' := by
  go_enter Tryd.func44, Tryd.ntmps44
  go_wp2_with fail
  refine (isOf_any [2, 3, 4] (w.heap.size + 1) k n p _ ((hT.alloc _).alloc _) (by simp) (by have := ints_11 (w.alloc (argO k n p)); simpa using this) (by simp)).mono ?_
  rintro e w' ⟨rfl, hb⟩
  go_wp2
  go_ret
  exact ⟨rfl, of_both hb⟩

theorem ints_12 (w : World) : IntsAt (w.alloc (.cells #[.int .i64 2, .int .i64 3, .int .i64 4, .int .i64 7, .int .i64 8] 3)) w.heap.size [2, 3, 4, 7, 8] := fun i hi => by
  have : i < 5 := hi
  rw [World.cell?_alloc_mark]
  match i, this with
  | 0, _ => rfl
  | 1, _ => rfl
  | 2, _ => rfl
  | 3, _ => rfl
  | 4, _ => rfl
set_option maxHeartbeats 400000 in
theorem fit_12 (k n p : Int) (w : World) (hT : DevTab w) :
    Calls Tryd.prog 45 #[.agg #[.int .i64 k, .int .i64 n, .int .i64 p]] w fun e w' => e = .returned (.bool (kinB [2, 3, 4, 7, 8] k n p)) ∧ Below w.heap.size w w' := by
  go_enter Tryd.func45, Tryd.ntmps45
  go_wp2_with fail
  refine (isOf_any [2, 3, 4, 7, 8] (w.heap.size + 1) k n p _ ((hT.alloc _).alloc _) (by simp) (by have := ints_12 (w.alloc (argO k n p)); simpa using this) (by simp)).mono ?_
  rintro e w' ⟨rfl, hb⟩
  go_wp2
  go_ret
  exact ⟨rfl, of_both hb⟩

theorem ints_13 (w : World) : IntsAt (w.alloc (.cells #[.int .i64 11] 3)) w.heap.size [11] := fun i hi => by
  have : i < 1 := hi
  rw [World.cell?_alloc_mark]
  match i, this with
  | 0, _ => rfl
set_option maxHeartbeats 400000 in
theorem fit_13 (k n p : Int) (w : World) (hT : DevTab w) :
    Calls Tryd.prog 38 #[.agg #[.int .i64 k, .int .i64 n, .int .i64 p]] w fun e w' => e = .returned (.bool (kinB [11] k n p && decide (0 ≤ n))) ∧ Below w.heap.size w w' := by
  cases hk0 : kinB [11] k n p
  all_goals
    have HK : Hid _ := hk0
    clear hk0
    go_enter Tryd.func38, Tryd.ntmps38
    go_wp2_with fail
    refine (isOf_any [11] (w.heap.size + 1) k n p _ ((hT.alloc _).alloc _) (by simp) (by have := ints_13 (w.alloc (argO k n p)); simpa using this) (by simp)).mono ?_
    rintro e w' ⟨rfl, hb⟩
    rw [HK.out]
    have HB : Hid (Below w.heap.size w w') := of_both hb
    obtain ⟨hc, hf⟩ := bcell hb
    go_wp2
    go_ret
    exact ⟨rfl, HB.out⟩

theorem fit_any (c : Nat) (k n p : Int) (w : World) (hT : DevTab w) (h1 : 1 ≤ c) (h2 : c ≤ 13) :
    Calls Tryd.prog (fid c) #[.agg #[.int .i64 k, .int .i64 n, .int .i64 p]] w fun e w' => e = .returned (.bool (fitB c k n p)) ∧ Below w.heap.size w w' :=
  match c, h1, h2 with
  | 1, _, _ => isBit_any k n p w hT
  | 2, _, _ => isWhole_any k n p w hT
  | 3, _, _ => isReal_any k n p w hT
  | 4, _, _ => fit_4 k n p w hT
  | 5, _, _ => fit_5 k n p w hT
  | 6, _, _ => fit_6 k n p w hT
  | 7, _, _ => fit_7 k n p w hT
  | 8, _, _ => fit_8 k n p w hT
  | 9, _, _ => fit_9 k n p w hT
  | 10, _, _ => fit_10 k n p w hT
  | 11, _, _ => fit_11 k n p w hT
  | 12, _, _ => fit_12 k n p w hT
  | 13, _, _ => fit_13 k n p w hT
theorem fid_enters (c : Nat) (h1 : 1 ≤ c) (h2 : c ≤ 13) (args : Array Value) (w : World) : (callFunc (fid c) args).run Tryd.prog w = .ok (.enter (fid c) args) w :=
  match c, h1, h2 with
  | 1, _, _ => by kernel_rfl
  | 2, _, _ => by kernel_rfl
  | 3, _, _ => by kernel_rfl
  | 4, _, _ => by kernel_rfl
  | 5, _, _ => by kernel_rfl
  | 6, _, _ => by kernel_rfl
  | 7, _, _ => by kernel_rfl
  | 8, _, _ => by kernel_rfl
  | 9, _, _ => by kernel_rfl
  | 10, _, _ => by kernel_rfl
  | 11, _, _ => by kernel_rfl
  | 12, _, _ => by kernel_rfl
  | 13, _, _ => by kernel_rfl
end Go.Proofs.YtleopmhllbaalagDoor
