/- The document's ElemIsCoil. Helper text: no statement is claimed here. -/
import Derived.Test.YtleopmhllbaalagDoorLe
namespace Go.Proofs.YtleopmhllbaalagDoor
open Go.ChangeShapes Go.WideShapes Go.ChangeAt Go.RowKit

/-! Boolean sums. -/
theorem hasK_nil (k : Int) : hasK [] k = false := rfl
theorem hasK_cons (x : Int) (l : List Int) (k : Int) : hasK (x :: l) k = (k == x || hasK l k) := rfl
theorem takeB_nil (ys : List Ar) : takeB [] ys = false := by
  cases ys <;> simp [takeB]
theorem takeB_1 (c : Nat) (a : Ar) : takeB [c] [a] = fitB c a.1 a.2.1 a.2.2 := by simp [takeB, fitA, at3, List.range_succ]
theorem takeB_2 (c d : Nat) (a b : Ar) : takeB [c, d] [a, b] = (fitB c a.1 a.2.1 a.2.2 && fitB d b.1 b.2.1 b.2.2) := by simp [takeB, fitA, at3, List.range_succ]
theorem takeB_3 (c d e : Nat) (a b x : Ar) : takeB [c, d, e] [a, b, x] = (fitB c a.1 a.2.1 a.2.2 && (fitB d b.1 b.2.1 b.2.2 && fitB e x.1 x.2.1 x.2.2)) := by simp [takeB, fitA, at3, List.range_succ]
theorem takeB_len {fs : List Nat} {ys : List Ar} (h : takeB fs ys = true) : ys.length = fs.length ∧ ys.length ≠ 0 := by
  simp only [takeB, Bool.and_eq_true, decide_eq_true_eq] at h
  exact ⟨h.1.2, h.1.1⟩
theorem fm1_len (i : Nat) : (fm1 i).length = 0 ∨ (fm1 i).length = (fm0 i).length := by
  unfold fm1; split <;> simp [fm0]
theorem okA_len {i : Nat} {ys : List Ar} (h : okA i ys = true) : ys.length = (fm0 i).length := by
  simp only [okA, Bool.or_eq_true] at h
  rcases h with h | h
  · exact (takeB_len h).1
  · have := takeB_len h
    rcases fm1_len i with h' | h' <;> omega
theorem okA_no {i : Nat} {ys : List Ar} (h : ys.length ≠ (fm0 i).length) : okA i ys = false := by
  rw [Bool.eq_false_iff]; exact fun h' => h (okA_len h')
theorem nm_no (op : Int) (h : op < 21 ∨ 37 < op) : nm (ez op) = [] := by
  by_cases h2 : 0 ≤ op ∧ op < 38
  · obtain ⟨i, rfl⟩ := Int.eq_ofNat_of_zero_le h2.1
    rw [ez_nat i (by omega)]
    unfold nm
    split <;> first | rfl | omega
  · rw [ez_no op (by omega)]; rfl

/-! What a coil is, number by number. -/
theorem coilB_eq (i : Nat) (h : i < 38) (hn : nm i ≠ []) (ys : List Ar) : coilB (i : Int) ys = okA i ys := by simp [coilB, ez_nat i h, hn]
theorem coil_21 (a : Ar) : coilB 21 [a] = k2B 2 3 a.1 a.2.1 a.2.2 := by
  rw [show (21 : Int) = ((21 : Nat) : Int) from rfl, coilB_eq 21 (by decide) (by decide)]
  simp only [okA, fm0, fm1, takeB_nil, takeB_1, Bool.or_false, fitB, kinB, sk, hasK_cons, hasK_nil, Bool.or_false, k2B]
  all_goals (cases okB a.1 a.2.1 a.2.2 <;> simp [Bool.or_assoc, Bool.and_assoc])
theorem coil_22 (a : Ar) : coilB 22 [a] = (k2B 2 3 a.1 a.2.1 a.2.2 || k2B 4 4 a.1 a.2.1 a.2.2) := by
  rw [show (22 : Int) = ((22 : Nat) : Int) from rfl, coilB_eq 22 (by decide) (by decide)]
  simp only [okA, fm0, fm1, takeB_nil, takeB_1, Bool.or_false, fitB, kinB, sk, hasK_cons, hasK_nil, Bool.or_false, k2B]
  all_goals (cases okB a.1 a.2.1 a.2.2 <;> simp [Bool.or_assoc])
theorem coil_23 (a : Ar) : coilB 23 [a] = ((k2B 2 3 a.1 a.2.1 a.2.2 || k2B 4 7 a.1 a.2.1 a.2.2) || k2B 8 8 a.1 a.2.1 a.2.2) := by
  rw [show (23 : Int) = ((23 : Nat) : Int) from rfl, coilB_eq 23 (by decide) (by decide)]
  simp only [okA, fm0, fm1, takeB_nil, takeB_1, Bool.or_false, fitB, kinB, sk, hasK_cons, hasK_nil, Bool.or_false, k2B]
  all_goals (cases okB a.1 a.2.1 a.2.2 <;> simp [Bool.or_assoc])
theorem coil_24 (a b : Ar) : coilB 24 [a, b] = (k2B 2 3 a.1 a.2.1 a.2.2 && k2B 5 5 b.1 b.2.1 b.2.2) := by
  rw [show (24 : Int) = ((24 : Nat) : Int) from rfl, coilB_eq 24 (by decide) (by decide)]
  simp only [okA, fm0, fm1, takeB_nil, takeB_2, Bool.or_false, fitB, kinB, sk, hasK_cons, hasK_nil, Bool.or_false, k2B]
  all_goals (cases okB a.1 a.2.1 a.2.2 <;> cases okB b.1 b.2.1 b.2.2 <;> simp)
theorem coil_25 (a : Ar) : coilB 25 [a] = k2B 4 4 a.1 a.2.1 a.2.2 := by
  rw [show (25 : Int) = ((25 : Nat) : Int) from rfl, coilB_eq 25 (by decide) (by decide)]
  simp only [okA, fm0, fm1, takeB_nil, takeB_1, Bool.or_false, fitB, kinB, sk, hasK_cons, hasK_nil, Bool.or_false, k2B]
  all_goals (cases okB a.1 a.2.1 a.2.2 <;> simp)
theorem coil_26 (a b : Ar) : coilB 26 [a, b] = ((k2B 7 7 a.1 a.2.1 a.2.2 && k2B 11 11 b.1 b.2.1 b.2.2) && decide (0 ≤ b.2.1)) := by
  rw [show (26 : Int) = ((26 : Nat) : Int) from rfl, coilB_eq 26 (by decide) (by decide)]
  simp only [okA, fm0, fm1, takeB_nil, takeB_2, Bool.or_false, fitB, kinB, sk, hasK_cons, hasK_nil, Bool.or_false, k2B]
  all_goals (cases okB a.1 a.2.1 a.2.2 <;> cases okB b.1 b.2.1 b.2.2 <;> simp [Bool.and_assoc])
theorem coil_27 (a b : Ar) : coilB 27 [a, b] = ((k2B 7 7 a.1 a.2.1 a.2.2 && k2B 11 11 b.1 b.2.1 b.2.2) && decide (0 ≤ b.2.1)) := by
  rw [show (27 : Int) = ((27 : Nat) : Int) from rfl, coilB_eq 27 (by decide) (by decide)]
  simp only [okA, fm0, fm1, takeB_nil, takeB_2, Bool.or_false, fitB, kinB, sk, hasK_cons, hasK_nil, Bool.or_false, k2B]
  all_goals (cases okB a.1 a.2.1 a.2.2 <;> cases okB b.1 b.2.1 b.2.2 <;> simp [Bool.and_assoc])
theorem coil_28 (a b : Ar) : coilB 28 [a, b] = ((k2B 7 7 a.1 a.2.1 a.2.2 && k2B 11 11 b.1 b.2.1 b.2.2) && decide (0 ≤ b.2.1)) := by
  rw [show (28 : Int) = ((28 : Nat) : Int) from rfl, coilB_eq 28 (by decide) (by decide)]
  simp only [okA, fm0, fm1, takeB_nil, takeB_2, Bool.or_false, fitB, kinB, sk, hasK_cons, hasK_nil, Bool.or_false, k2B]
  all_goals (cases okB a.1 a.2.1 a.2.2 <;> cases okB b.1 b.2.1 b.2.2 <;> simp [Bool.and_assoc])
theorem coil_29 (a b : Ar) : coilB 29 [a, b] = ((k2B 8 8 a.1 a.2.1 a.2.2 && k2B 11 11 b.1 b.2.1 b.2.2) && decide (0 ≤ b.2.1)) := by
  rw [show (29 : Int) = ((29 : Nat) : Int) from rfl, coilB_eq 29 (by decide) (by decide)]
  simp only [okA, fm0, fm1, takeB_nil, takeB_2, Bool.or_false, fitB, kinB, sk, hasK_cons, hasK_nil, Bool.or_false, k2B]
  all_goals (cases okB a.1 a.2.1 a.2.2 <;> cases okB b.1 b.2.1 b.2.2 <;> simp [Bool.and_assoc])
theorem coil_30 (a b : Ar) : coilB 30 [a, b] = (k2B 9 10 a.1 a.2.1 a.2.2 && (if a.1 == 9 then isW b.1 b.2.1 b.2.2 else isR b.1 b.2.1 b.2.2)) := by
  rw [show (30 : Int) = ((30 : Nat) : Int) from rfl, coilB_eq 30 (by decide) (by decide)]
  simp only [okA, fm0, fm1, takeB_2, Bool.or_false, fitB, kinB, sk, hasK_cons, hasK_nil, Bool.or_false, k2B]
  all_goals (cases okB a.1 a.2.1 a.2.2 <;> simp)
  by_cases h9 : a.1 = 9
  · simp [h9]
  · have h9' : (a.1 == 9) = false := by simpa using h9
    simp [h9, h9']
theorem coil_31 (a b x : Ar) : coilB 31 [a, b, x] = (k2B 9 10 a.1 a.2.1 a.2.2 && (if a.1 == 9 then isW b.1 b.2.1 b.2.2 && isW x.1 x.2.1 x.2.2 else isR b.1 b.2.1 b.2.2 && isR x.1 x.2.1 x.2.2)) := by
  rw [show (31 : Int) = ((31 : Nat) : Int) from rfl, coilB_eq 31 (by decide) (by decide)]
  simp only [okA, fm0, fm1, takeB_3, Bool.or_false, fitB, kinB, sk, hasK_cons, hasK_nil, Bool.or_false, k2B]
  all_goals (cases okB a.1 a.2.1 a.2.2 <;> simp)
  by_cases h9 : a.1 = 9
  · simp [h9]
  · have h9' : (a.1 == 9) = false := by simpa using h9
    simp [h9, h9']
theorem coil_32 (a b x : Ar) : coilB 32 [a, b, x] = (k2B 9 10 a.1 a.2.1 a.2.2 && (if a.1 == 9 then isW b.1 b.2.1 b.2.2 && isW x.1 x.2.1 x.2.2 else isR b.1 b.2.1 b.2.2 && isR x.1 x.2.1 x.2.2)) := by
  rw [show (32 : Int) = ((32 : Nat) : Int) from rfl, coilB_eq 32 (by decide) (by decide)]
  simp only [okA, fm0, fm1, takeB_3, Bool.or_false, fitB, kinB, sk, hasK_cons, hasK_nil, Bool.or_false, k2B]
  all_goals (cases okB a.1 a.2.1 a.2.2 <;> simp)
  by_cases h9 : a.1 = 9
  · simp [h9]
  · have h9' : (a.1 == 9) = false := by simpa using h9
    simp [h9, h9']
theorem coil_33 (a b x : Ar) : coilB 33 [a, b, x] = (k2B 9 10 a.1 a.2.1 a.2.2 && (if a.1 == 9 then isW b.1 b.2.1 b.2.2 && isW x.1 x.2.1 x.2.2 else isR b.1 b.2.1 b.2.2 && isR x.1 x.2.1 x.2.2)) := by
  rw [show (33 : Int) = ((33 : Nat) : Int) from rfl, coilB_eq 33 (by decide) (by decide)]
  simp only [okA, fm0, fm1, takeB_3, Bool.or_false, fitB, kinB, sk, hasK_cons, hasK_nil, Bool.or_false, k2B]
  all_goals (cases okB a.1 a.2.1 a.2.2 <;> simp)
  by_cases h9 : a.1 = 9
  · simp [h9]
  · have h9' : (a.1 == 9) = false := by simpa using h9
    simp [h9, h9']
theorem coil_34 (a b x : Ar) : coilB 34 [a, b, x] = (k2B 9 10 a.1 a.2.1 a.2.2 && (if a.1 == 9 then isW b.1 b.2.1 b.2.2 && isW x.1 x.2.1 x.2.2 else isR b.1 b.2.1 b.2.2 && isR x.1 x.2.1 x.2.2)) := by
  rw [show (34 : Int) = ((34 : Nat) : Int) from rfl, coilB_eq 34 (by decide) (by decide)]
  simp only [okA, fm0, fm1, takeB_3, Bool.or_false, fitB, kinB, sk, hasK_cons, hasK_nil, Bool.or_false, k2B]
  all_goals (cases okB a.1 a.2.1 a.2.2 <;> simp)
  by_cases h9 : a.1 = 9
  · simp [h9]
  · have h9' : (a.1 == 9) = false := by simpa using h9
    simp [h9, h9']
theorem coil_35 (a b x : Ar) : coilB 35 [a, b, x] = (k2B 9 10 a.1 a.2.1 a.2.2 && (if a.1 == 9 then isW b.1 b.2.1 b.2.2 && isW x.1 x.2.1 x.2.2 else false)) := by
  rw [show (35 : Int) = ((35 : Nat) : Int) from rfl, coilB_eq 35 (by decide) (by decide)]
  simp only [okA, fm0, fm1, takeB_nil, takeB_3, Bool.or_false, fitB, kinB, sk, hasK_cons, hasK_nil, Bool.or_false, k2B]
  all_goals (cases okB a.1 a.2.1 a.2.2 <;> simp)
  by_cases h9 : a.1 = 9
  · simp [h9]
  · have h9' : (a.1 == 9) = false := by simpa using h9
    simp [h9, h9']
theorem coil_36 (a b : Ar) : coilB 36 [a, b] = (k2B 10 10 a.1 a.2.1 a.2.2 && isW b.1 b.2.1 b.2.2) := by
  rw [show (36 : Int) = ((36 : Nat) : Int) from rfl, coilB_eq 36 (by decide) (by decide)]
  simp only [okA, fm0, fm1, takeB_nil, takeB_2, Bool.or_false, fitB, kinB, sk, hasK_cons, hasK_nil, Bool.or_false, k2B]
  all_goals (cases okB a.1 a.2.1 a.2.2 <;> simp)
theorem coil_37 (a b : Ar) : coilB 37 [a, b] = (k2B 9 9 a.1 a.2.1 a.2.2 && isR b.1 b.2.1 b.2.2) := by
  rw [show (37 : Int) = ((37 : Nat) : Int) from rfl, coilB_eq 37 (by decide) (by decide)]
  simp only [okA, fm0, fm1, takeB_nil, takeB_2, Bool.or_false, fitB, kinB, sk, hasK_cons, hasK_nil, Bool.or_false, k2B]
  all_goals (cases okB a.1 a.2.1 a.2.2 <;> simp)

/-- What the document's l3Calc says. -/
def calcA (ys : List Ar) (i : Nat) : Bool := if (at3 ys 0).1 == 9 then isW (at3 ys i).1 (at3 ys i).2.1 (at3 ys i).2.2 else isR (at3 ys i).1 (at3 ys i).2.1 (at3 ys i).2.2
def calcB (op : Int) (ys : List Ar) : Bool := k2B 9 10 (at3 ys 0).1 (at3 ys 0).2.1 (at3 ys 0).2.2 && ((List.range (ys.length - 1)).all (fun i => calcA ys (i + 1)) && ((at3 ys 0).1 == 9 || op != 35))
theorem calc_30 (a b : Ar) : coilB 30 [a, b] = calcB 30 [a, b] := by
  rw [coil_30]; simp [calcB, calcA, at3, List.range_succ]
theorem calc_31 (a b x : Ar) : coilB 31 [a, b, x] = calcB 31 [a, b, x] := by
  rw [coil_31]; simp [calcB, calcA, at3, List.range_succ]
  split <;> simp
theorem calc_32 (a b x : Ar) : coilB 32 [a, b, x] = calcB 32 [a, b, x] := by
  rw [coil_32]; simp [calcB, calcA, at3, List.range_succ]
  split <;> simp
theorem calc_33 (a b x : Ar) : coilB 33 [a, b, x] = calcB 33 [a, b, x] := by
  rw [coil_33]; simp [calcB, calcA, at3, List.range_succ]
  split <;> simp
theorem calc_34 (a b x : Ar) : coilB 34 [a, b, x] = calcB 34 [a, b, x] := by
  rw [coil_34]; simp [calcB, calcA, at3, List.range_succ]
  split <;> simp
theorem calc_35 (a b x : Ar) : coilB 35 [a, b, x] = calcB 35 [a, b, x] := by
  rw [coil_35]
  by_cases h9 : a.1 = 9
  · simp [calcB, calcA, at3, List.range_succ, h9]
  · have h9' : (a.1 == 9) = false := by simpa using h9
    simp [calcB, calcA, at3, List.range_succ, h9]

theorem calc_no {op : Int} {ys : List Ar} {j : Nat} (h1 : 1 ≤ j) (hj : j < ys.length) (h : calcA ys j = false) : calcB op ys = false := by
  rw [Bool.eq_false_iff]
  intro ht
  simp only [calcB, Bool.and_eq_true, List.all_eq_true, List.mem_range] at ht
  have := ht.2.1 (j - 1) (by omega)
  rw [show j - 1 + 1 = j by omega, h] at this
  cases this
theorem calc_yes {op : Int} {ys : List Ar} (h0 : k2B 9 10 (at3 ys 0).1 (at3 ys 0).2.1 (at3 ys 0).2.2 = true) (h : ∀ i, 1 ≤ i → i < ys.length → calcA ys i = true) : calcB op ys = ((at3 ys 0).1 == 9 || op != 35) := by
  have : (List.range (ys.length - 1)).all (fun i => calcA ys (i + 1)) = true := by
    simp only [List.all_eq_true, List.mem_range]
    exact fun i hi => h (i + 1) (by omega) (by omega)
  simp [calcB, h0, this]

set_option maxHeartbeats 1000000 in
theorem calc_any (op : Int) (ys : List Ar) (b cap : Nat) (w : World) (hbl : b < w.heap.size) (hAt : ArgsAt w b ys) (_hlc : ys.length ≤ cap) (h1 : 1 ≤ ys.length) (hbd : ys.length ≤ 2000000) :
    Calls Tryd.prog 27 #[elemV op (some ⟨b, 0, none⟩) ys.length cap] w fun e w' => e = .returned (.bool (calcB op ys)) ∧ Below w.heap.size w w' := by
  have HA : Hid (ArgsAt w b ys) := hAt
  have c1 : (0 : Int) < (ys.length : Int) := by omega
  obtain ⟨a0, a1, a2⟩ := hAt 0 (by omega)
  simp only [Nat.zero_mul, Nat.zero_add] at a0 a1 a2
  have HX : Hid (∀ o, k2B 9 10 (at3 ys 0).1 (at3 ys 0).2.1 (at3 ys 0).2.2 = false → calcB o ys = false) := fun o h => by simp [calcB, h]
  have HY : Hid (∀ o, k2B 9 10 (at3 ys 0).1 (at3 ys 0).2.1 (at3 ys 0).2.2 = true → (∀ i, 1 ≤ i → i < ys.length → calcA ys i = true) → calcB o ys = ((at3 ys 0).1 == 9 || o != 35)) := fun o h0 h => calc_yes h0 h
  have HC : Hid (∀ i, calcA ys i = if (at3 ys 0).1 == 9 then isW (at3 ys i).1 (at3 ys i).2.1 (at3 ys i).2.2 else isR (at3 ys i).1 (at3 ys i).2.1 (at3 ys i).2.2) := fun i => rfl
  clear hAt
  generalize (at3 ys 0).1 = k0 at *
  generalize (at3 ys 0).2.1 = n0 at *
  generalize (at3 ys 0).2.2 = p0 at *
  have z0 : (w.alloc (.cells #[.int .i64 op, .slice (some ⟨b, 0, none⟩) ys.length cap] 29)).cell? ⟨b, 0, none⟩ = some (.int .i64 k0) := by rw [World.cell?_alloc_lt _ _ _ hbl]; exact a0
  have z1 : (w.alloc (.cells #[.int .i64 op, .slice (some ⟨b, 0, none⟩) ys.length cap] 29)).cell? ⟨b, 1, none⟩ = some (.int .i64 n0) := by rw [World.cell?_alloc_lt _ _ _ hbl]; exact a1
  have z2 : (w.alloc (.cells #[.int .i64 op, .slice (some ⟨b, 0, none⟩) ys.length cap] 29)).cell? ⟨b, 2, none⟩ = some (.int .i64 p0) := by rw [World.cell?_alloc_lt _ _ _ hbl]; exact a2
  go_enter Tryd.func27, Tryd.ntmps27
  go_wp2_with fail
  refine (kind2_any 9 10 k0 n0 p0 _).mono ?_
  rintro e w1 ⟨rfl, hb1⟩
  have HB1 : Hid (Below w.heap.size w w1) := of_one hb1
  have e0 : w1.cell? ⟨w.heap.size, 0, none⟩ = some (.int .i64 op) := (hb1.cell (p := ⟨w.heap.size, 0, none⟩) (by simp)).trans (by rw [World.cell?_alloc_mark]; rfl)
  have e1 : w1.cell? ⟨w.heap.size, 1, none⟩ = some (.slice (some ⟨b, 0, none⟩) ys.length cap) := (hb1.cell (p := ⟨w.heap.size, 1, none⟩) (by simp)).trans (by rw [World.cell?_alloc_mark]; rfl)
  have e2 : w1.cell? ⟨b, 0, none⟩ = some (.int .i64 k0) := (HB1.out.cell (p := ⟨b, 0, none⟩) hbl).trans a0
  have hw1 : w.heap.size < w1.heap.size := World.block_lt_of_cell? w1 ⟨w.heap.size, 0, none⟩ e0
  clear hb1 z0 z1 z2 a0 a1 a2
  cases hk : k2B 9 10 k0 n0 p0
  · have HR : Hid (calcB op ys = false) := HX.out op hk
    go_wp2
    go_ret
    exact ⟨by rw [HR.out]; rfl, HB1.out⟩
  · have HK : Hid (∀ o, (∀ i, 1 ≤ i → i < ys.length → calcA ys i = true) → calcB o ys = (k0 == 9 || o != 35)) := fun o h => HY.out o hk h
    clear hk HX HY
    have HE0 : Hid (w1.cell? ⟨w.heap.size, 0, none⟩ = some (.int .i64 op)) := e0
    have HE1 : Hid (w1.cell? ⟨w.heap.size, 1, none⟩ = some (.slice (some ⟨b, 0, none⟩) ys.length cap)) := e1
    go_wp2
    go_loopw [4] (fun c w' => ∃ j : Nat, 1 ≤ j ∧ j ≤ ys.length ∧ c = .int .i64 (j : Int) ∧ Hid (Below w1.heap.size w1 w') ∧ Hid (∀ i, 1 ≤ i → i < j → calcA ys i = true)) (fun c _ => ys.length - (intOf c).toNat)
    case atStart => exact ⟨1, by omega, by omega, rfl, Below.refl _ _, fun i _ _ => by omega⟩
    case round =>
      obtain ⟨j, hj1, hj, rfl, HBr, HD⟩ := hrel
      rename_i wr
      have e0r : wr.cell? ⟨w.heap.size, 0, none⟩ = some (.int .i64 op) := (HBr.out.cell (p := ⟨w.heap.size, 0, none⟩) hw1).trans HE0.out
      have e1r : wr.cell? ⟨w.heap.size, 1, none⟩ = some (.slice (some ⟨b, 0, none⟩) ys.length cap) := (HBr.out.cell (p := ⟨w.heap.size, 1, none⟩) hw1).trans HE1.out
      have HBw : Hid (Below w.heap.size w wr) := HB1.out.trans (HBr.out.mono HB1.out.size)
      clear e0 e1 e2
      by_cases hlt : j < ys.length
      · have hlt' : (j : Int) < (ys.length : Int) := by omega
        obtain ⟨c0, c1', c2⟩ := (HA.out.to hbl HBw.out) j hlt
        have HCj := HC.out j
        generalize (at3 ys j).1 = k at *
        generalize (at3 ys j).2.1 = n at *
        generalize (at3 ys j).2.2 = p at *
        have HCJ : Hid (calcA ys j = if k0 == 9 then isW k n p else isR k n p) := HCj
        clear HCj
        have up : calcA ys j = true → Hid (∀ i, 1 ≤ i → i < j + 1 → calcA ys i = true) := fun h i hi hi2 => by
          rcases Nat.lt_or_ge i j with h' | h'
          · exact HD.out i hi h'
          · obtain rfl : i = j := by omega
            exact h
        have UP : Hid (calcA ys j = true → Hid (∀ i, 1 ≤ i → i < j + 1 → calcA ys i = true)) := up
        clear up
        cases hk9 : k0 == 9
        · go_wp2_with fail
          refine (sIsReal_any k n p _).mono ?_
          rintro e w2 ⟨rfl, hb2⟩
          have HB2 : Hid (Below w1.heap.size w1 w2) := HBr.out.trans (hb2.mono HBr.out.size)
          clear hb2
          cases hv : isR k n p
          · have HR : Hid (calcB op ys = false) := calc_no hj1 hlt (HCJ.out.trans (by rw [hk9, hv]; rfl))
            go_wp2
            go_ret
            exact ⟨by rw [HR.out]; rfl, HB1.out.trans (HB2.out.mono HB1.out.size)⟩
          · have HU := UP.out (HCJ.out.trans (by rw [hk9, hv]; rfl))
            go_wp2
            exact ⟨⟨j + 1, by omega, by omega, by go_num, HB2, HU⟩, by simp [intOf]; omega⟩
        · go_wp2_with fail
          refine (sIsWhole_any k n p _).mono ?_
          rintro e w2 ⟨rfl, hb2⟩
          have HB2 : Hid (Below w1.heap.size w1 w2) := HBr.out.trans (hb2.mono HBr.out.size)
          clear hb2
          cases hv : isW k n p
          · have HR : Hid (calcB op ys = false) := calc_no hj1 hlt (HCJ.out.trans (by rw [hk9, hv]; rfl))
            go_wp2
            go_ret
            exact ⟨by rw [HR.out]; rfl, HB1.out.trans (HB2.out.mono HB1.out.size)⟩
          · have HU := UP.out (HCJ.out.trans (by rw [hk9, hv]; rfl))
            go_wp2
            exact ⟨⟨j + 1, by omega, by omega, by go_num, HB2, HU⟩, by simp [intOf]; omega⟩
      · obtain rfl : j = ys.length := by omega
        have HR : Hid (calcB op ys = (k0 == 9 || op != 35)) := HK.out op HD.out
        cases hk9 : k0 == 9
        all_goals
          go_wp2
          go_ret
          exact ⟨by rw [HR.out, hk9]; rfl, HBw.out⟩
end Go.Proofs.YtleopmhllbaalagDoor
