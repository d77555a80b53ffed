/- A contact or coil as a part, by its number. Helper text: no statement is claimed here. -/
import Derived.Test.YtmgjngihngddfaaGreatDoorP01
import Derived.Test.YtmgjngihngddfaaGreatDoorP10
import Derived.Test.YtmgjngihngddfaaGreatDoorP02
namespace Go.Proofs.YtmgjngihngddfaaGreatDoor
open Go.ChangeShapes Go.WideShapes Go.ChangeAt Go.RowKit Fl

/-- The numbers of operands, one behind the other. -/
def flat (ys : List Ar) (i : Nat) : Int := if i % 3 = 0 then (at3 ys (i / 3)).1 else if i % 3 = 1 then (at3 ys (i / 3)).2.1 else (at3 ys (i / 3)).2.2
/-- The first three operands, as nine numbers. -/
def nine (ys : List Ar) : Nat → Int := anum ys.length (flat ys)
theorem at3_none {ys : List Ar} {i : Nat} (h : ys.length ≤ i) : at3 ys i = (0, 0, 0) := by
  simp [at3, List.getD_eq_getElem?_getD, List.getElem?_eq_none h]
theorem nine_0 (ys : List Ar) (j : Nat) : nine ys (3 * j) = (at3 ys j).1 := by
  unfold nine anum flat
  by_cases h : j < ys.length
  · rw [if_pos (by omega), if_pos (by omega), show 3 * j / 3 = j by omega]
  · rw [if_neg (by omega), at3_none (by omega)]
theorem nine_1 (ys : List Ar) (j : Nat) : nine ys (3 * j + 1) = (at3 ys j).2.1 := by
  unfold nine anum flat
  by_cases h : j < ys.length
  · rw [if_pos (by omega), if_neg (by omega), if_pos (by omega), show (3 * j + 1) / 3 = j by omega]
  · rw [if_neg (by omega), at3_none (by omega)]
theorem nine_2 (ys : List Ar) (j : Nat) : nine ys (3 * j + 2) = (at3 ys j).2.2 := by
  unfold nine anum flat
  by_cases h : j < ys.length
  · rw [if_pos (by omega), if_neg (by omega), if_neg (by omega), show (3 * j + 2) / 3 = j by omega]
  · rw [if_neg (by omega), at3_none (by omega)]
theorem ArgsIs.list {w : World} {p : Option Addr} {ys : List Ar} (h : ArgsIs w p ys) : ListAt w p ys.length (flat ys) := by
  rcases h with rfl | ⟨b, rfl, hlt, h⟩
  · exact .inl rfl
  · refine .inr ⟨_, rfl, hlt, fun i hi => ?_⟩
    obtain ⟨a0, a1, a2⟩ := h (i / 3) (by omega)
    have e : (Addr.add ⟨b, 0, none⟩ i) = ⟨b, i, none⟩ := by simp [Addr.add]; omega
    rw [e]
    unfold flat
    by_cases h0 : i % 3 = 0
    · rw [if_pos h0, show i = i / 3 * 3 by omega, a0, show i / 3 * 3 / 3 = i / 3 by omega]
    by_cases h1 : i % 3 = 1
    · rw [if_neg h0, if_pos h1, show i = i / 3 * 3 + 1 by omega, a1, show (i / 3 * 3 + 1) / 3 = i / 3 by omega]
    · rw [if_neg h0, if_neg h1, show i = i / 3 * 3 + 2 by omega, a2, show (i / 3 * 3 + 2) / 3 = i / 3 by omega]

set_option maxHeartbeats 1000000 in
set_option maxRecDepth 100000 in
theorem partOf_1 (p : Option Addr) (cap : Nat) (ys : List Ar) (w : World) (h : ArgsIs w p ys) :
    Calls Tryz.prog 18 #[elemV 1 p ys.length cap] w fun e w' => e = .returned (.iface 87 (lit9 (nine ys))) ∧ Below w.heap.size w w' := by
  have HL : Hid (ListAt (w.alloc (.cells #[.int .i64 1, .slice p ys.length cap] 40)) p ys.length (flat ys)) := h.list.to ((Below.refl _ _).alloc (Nat.le_refl _) _)
  clear h
  obtain ⟨x, hx⟩ : ∃ x, x = nine ys := ⟨_, rfl⟩
  have HX : Hid (argsV ys.length (flat ys) = lit9 x) := by rw [hx]; exact lit9_eq _
  rw [← hx] at *
  clear hx
  go_enter Tryz.func18, Tryz.ntmps18
  go_wp2_with fail
  refine Calls.mono (argsOf_any p ys.length cap (flat ys) _ HL.out) ?_
  rintro e w1 ⟨rfl, hb1⟩
  rw [HX.out]
  clear HL
  have HB1 : Hid (Below w.heap.size w w1) := ((Below.refl _ _).alloc (Nat.le_refl _) _).trans (hb1.mono (by simp))
  have c0 : w1.cell? ⟨w.heap.size, 0, none⟩ = some (.int .i64 1) := by rw [hb1.cell (p := ⟨w.heap.size, 0, none⟩) (by simp)]; simp [go_sem]
  have hlt : w.heap.size < w1.heap.size := by have := hb1.size; simp at this; omega
  clear hb1
  go_wp2_with fail
  go_ret
  exact ⟨rfl, HB1.out.alloc (by omega) _⟩

set_option maxHeartbeats 1000000 in
set_option maxRecDepth 100000 in
theorem partOf_2 (p : Option Addr) (cap : Nat) (ys : List Ar) (w : World) (h : ArgsIs w p ys) :
    Calls Tryz.prog 18 #[elemV 2 p ys.length cap] w fun e w' => e = .returned (.iface 88 (lit9 (nine ys))) ∧ Below w.heap.size w w' := by
  have HL : Hid (ListAt (w.alloc (.cells #[.int .i64 2, .slice p ys.length cap] 40)) p ys.length (flat ys)) := h.list.to ((Below.refl _ _).alloc (Nat.le_refl _) _)
  clear h
  obtain ⟨x, hx⟩ : ∃ x, x = nine ys := ⟨_, rfl⟩
  have HX : Hid (argsV ys.length (flat ys) = lit9 x) := by rw [hx]; exact lit9_eq _
  rw [← hx] at *
  clear hx
  go_enter Tryz.func18, Tryz.ntmps18
  go_wp2_with fail
  refine Calls.mono (argsOf_any p ys.length cap (flat ys) _ HL.out) ?_
  rintro e w1 ⟨rfl, hb1⟩
  rw [HX.out]
  clear HL
  have HB1 : Hid (Below w.heap.size w w1) := ((Below.refl _ _).alloc (Nat.le_refl _) _).trans (hb1.mono (by simp))
  have c0 : w1.cell? ⟨w.heap.size, 0, none⟩ = some (.int .i64 2) := by rw [hb1.cell (p := ⟨w.heap.size, 0, none⟩) (by simp)]; simp [go_sem]
  have hlt : w.heap.size < w1.heap.size := by have := hb1.size; simp at this; omega
  clear hb1
  go_wp2_with fail
  go_ret
  exact ⟨rfl, HB1.out.alloc (by omega) _⟩

set_option maxHeartbeats 1000000 in
set_option maxRecDepth 100000 in
theorem partOf_3 (p : Option Addr) (cap : Nat) (ys : List Ar) (w : World) (h : ArgsIs w p ys) :
    Calls Tryz.prog 18 #[elemV 3 p ys.length cap] w fun e w' => e = .returned (.iface 89 (lit9 (nine ys))) ∧ Below w.heap.size w w' := by
  have HL : Hid (ListAt (w.alloc (.cells #[.int .i64 3, .slice p ys.length cap] 40)) p ys.length (flat ys)) := h.list.to ((Below.refl _ _).alloc (Nat.le_refl _) _)
  clear h
  obtain ⟨x, hx⟩ : ∃ x, x = nine ys := ⟨_, rfl⟩
  have HX : Hid (argsV ys.length (flat ys) = lit9 x) := by rw [hx]; exact lit9_eq _
  rw [← hx] at *
  clear hx
  go_enter Tryz.func18, Tryz.ntmps18
  go_wp2_with fail
  refine Calls.mono (argsOf_any p ys.length cap (flat ys) _ HL.out) ?_
  rintro e w1 ⟨rfl, hb1⟩
  rw [HX.out]
  clear HL
  have HB1 : Hid (Below w.heap.size w w1) := ((Below.refl _ _).alloc (Nat.le_refl _) _).trans (hb1.mono (by simp))
  have c0 : w1.cell? ⟨w.heap.size, 0, none⟩ = some (.int .i64 3) := by rw [hb1.cell (p := ⟨w.heap.size, 0, none⟩) (by simp)]; simp [go_sem]
  have hlt : w.heap.size < w1.heap.size := by have := hb1.size; simp at this; omega
  clear hb1
  go_wp2_with fail
  go_ret
  exact ⟨rfl, HB1.out.alloc (by omega) _⟩

set_option maxHeartbeats 1000000 in
set_option maxRecDepth 100000 in
theorem partOf_4 (p : Option Addr) (cap : Nat) (ys : List Ar) (w : World) (h : ArgsIs w p ys) :
    Calls Tryz.prog 18 #[elemV 4 p ys.length cap] w fun e w' => e = .returned (.iface 90 (lit9 (nine ys))) ∧ Below w.heap.size w w' := by
  have HL : Hid (ListAt (w.alloc (.cells #[.int .i64 4, .slice p ys.length cap] 40)) p ys.length (flat ys)) := h.list.to ((Below.refl _ _).alloc (Nat.le_refl _) _)
  clear h
  obtain ⟨x, hx⟩ : ∃ x, x = nine ys := ⟨_, rfl⟩
  have HX : Hid (argsV ys.length (flat ys) = lit9 x) := by rw [hx]; exact lit9_eq _
  rw [← hx] at *
  clear hx
  go_enter Tryz.func18, Tryz.ntmps18
  go_wp2_with fail
  refine Calls.mono (argsOf_any p ys.length cap (flat ys) _ HL.out) ?_
  rintro e w1 ⟨rfl, hb1⟩
  rw [HX.out]
  clear HL
  have HB1 : Hid (Below w.heap.size w w1) := ((Below.refl _ _).alloc (Nat.le_refl _) _).trans (hb1.mono (by simp))
  have c0 : w1.cell? ⟨w.heap.size, 0, none⟩ = some (.int .i64 4) := by rw [hb1.cell (p := ⟨w.heap.size, 0, none⟩) (by simp)]; simp [go_sem]
  have hlt : w.heap.size < w1.heap.size := by have := hb1.size; simp at this; omega
  clear hb1
  go_wp2_with fail
  go_ret
  exact ⟨rfl, HB1.out.alloc (by omega) _⟩

set_option maxHeartbeats 1000000 in
set_option maxRecDepth 100000 in
theorem partOf_21 (p : Option Addr) (cap : Nat) (ys : List Ar) (w : World) (h : ArgsIs w p ys) :
    Calls Tryz.prog 18 #[elemV 21 p ys.length cap] w fun e w' => e = .returned (.iface 93 (lit9 (nine ys))) ∧ Below w.heap.size w w' := by
  have HL : Hid (ListAt (w.alloc (.cells #[.int .i64 21, .slice p ys.length cap] 40)) p ys.length (flat ys)) := h.list.to ((Below.refl _ _).alloc (Nat.le_refl _) _)
  clear h
  obtain ⟨x, hx⟩ : ∃ x, x = nine ys := ⟨_, rfl⟩
  have HX : Hid (argsV ys.length (flat ys) = lit9 x) := by rw [hx]; exact lit9_eq _
  rw [← hx] at *
  clear hx
  go_enter Tryz.func18, Tryz.ntmps18
  go_wp2_with fail
  refine Calls.mono (argsOf_any p ys.length cap (flat ys) _ HL.out) ?_
  rintro e w1 ⟨rfl, hb1⟩
  rw [HX.out]
  clear HL
  have HB1 : Hid (Below w.heap.size w w1) := ((Below.refl _ _).alloc (Nat.le_refl _) _).trans (hb1.mono (by simp))
  have c0 : w1.cell? ⟨w.heap.size, 0, none⟩ = some (.int .i64 21) := by rw [hb1.cell (p := ⟨w.heap.size, 0, none⟩) (by simp)]; simp [go_sem]
  have hlt : w.heap.size < w1.heap.size := by have := hb1.size; simp at this; omega
  clear hb1
  go_wp2_with fail
  go_ret
  exact ⟨rfl, HB1.out.alloc (by omega) _⟩

set_option maxHeartbeats 1000000 in
set_option maxRecDepth 100000 in
theorem partOf_24 (p : Option Addr) (cap : Nat) (ys : List Ar) (w : World) (h : ArgsIs w p ys) :
    Calls Tryz.prog 18 #[elemV 24 p ys.length cap] w fun e w' => e = .returned (.iface 94 (lit9 (nine ys))) ∧ Below w.heap.size w w' := by
  have HL : Hid (ListAt (w.alloc (.cells #[.int .i64 24, .slice p ys.length cap] 40)) p ys.length (flat ys)) := h.list.to ((Below.refl _ _).alloc (Nat.le_refl _) _)
  clear h
  obtain ⟨x, hx⟩ : ∃ x, x = nine ys := ⟨_, rfl⟩
  have HX : Hid (argsV ys.length (flat ys) = lit9 x) := by rw [hx]; exact lit9_eq _
  rw [← hx] at *
  clear hx
  go_enter Tryz.func18, Tryz.ntmps18
  go_wp2_with fail
  refine Calls.mono (argsOf_any p ys.length cap (flat ys) _ HL.out) ?_
  rintro e w1 ⟨rfl, hb1⟩
  rw [HX.out]
  clear HL
  have HB1 : Hid (Below w.heap.size w w1) := ((Below.refl _ _).alloc (Nat.le_refl _) _).trans (hb1.mono (by simp))
  have c0 : w1.cell? ⟨w.heap.size, 0, none⟩ = some (.int .i64 24) := by rw [hb1.cell (p := ⟨w.heap.size, 0, none⟩) (by simp)]; simp [go_sem]
  have hlt : w.heap.size < w1.heap.size := by have := hb1.size; simp at this; omega
  clear hb1
  go_wp2_with fail
  go_ret
  exact ⟨rfl, HB1.out.alloc (by omega) _⟩

set_option maxHeartbeats 1000000 in
set_option maxRecDepth 100000 in
theorem partOf_26 (p : Option Addr) (cap : Nat) (ys : List Ar) (w : World) (h : ArgsIs w p ys) :
    Calls Tryz.prog 18 #[elemV 26 p ys.length cap] w fun e w' => e = .returned (.iface 95 (lit9 (nine ys))) ∧ Below w.heap.size w w' := by
  have HL : Hid (ListAt (w.alloc (.cells #[.int .i64 26, .slice p ys.length cap] 40)) p ys.length (flat ys)) := h.list.to ((Below.refl _ _).alloc (Nat.le_refl _) _)
  clear h
  obtain ⟨x, hx⟩ : ∃ x, x = nine ys := ⟨_, rfl⟩
  have HX : Hid (argsV ys.length (flat ys) = lit9 x) := by rw [hx]; exact lit9_eq _
  rw [← hx] at *
  clear hx
  go_enter Tryz.func18, Tryz.ntmps18
  go_wp2_with fail
  refine Calls.mono (argsOf_any p ys.length cap (flat ys) _ HL.out) ?_
  rintro e w1 ⟨rfl, hb1⟩
  rw [HX.out]
  clear HL
  have HB1 : Hid (Below w.heap.size w w1) := ((Below.refl _ _).alloc (Nat.le_refl _) _).trans (hb1.mono (by simp))
  have c0 : w1.cell? ⟨w.heap.size, 0, none⟩ = some (.int .i64 26) := by rw [hb1.cell (p := ⟨w.heap.size, 0, none⟩) (by simp)]; simp [go_sem]
  have hlt : w.heap.size < w1.heap.size := by have := hb1.size; simp at this; omega
  clear hb1
  go_wp2_with fail
  go_ret
  exact ⟨rfl, HB1.out.alloc (by omega) _⟩

set_option maxHeartbeats 1000000 in
set_option maxRecDepth 100000 in
theorem partOf_28 (p : Option Addr) (cap : Nat) (ys : List Ar) (w : World) (h : ArgsIs w p ys) :
    Calls Tryz.prog 18 #[elemV 28 p ys.length cap] w fun e w' => e = .returned (.iface 96 (lit9 (nine ys))) ∧ Below w.heap.size w w' := by
  have HL : Hid (ListAt (w.alloc (.cells #[.int .i64 28, .slice p ys.length cap] 40)) p ys.length (flat ys)) := h.list.to ((Below.refl _ _).alloc (Nat.le_refl _) _)
  clear h
  obtain ⟨x, hx⟩ : ∃ x, x = nine ys := ⟨_, rfl⟩
  have HX : Hid (argsV ys.length (flat ys) = lit9 x) := by rw [hx]; exact lit9_eq _
  rw [← hx] at *
  clear hx
  go_enter Tryz.func18, Tryz.ntmps18
  go_wp2_with fail
  refine Calls.mono (argsOf_any p ys.length cap (flat ys) _ HL.out) ?_
  rintro e w1 ⟨rfl, hb1⟩
  rw [HX.out]
  clear HL
  have HB1 : Hid (Below w.heap.size w w1) := ((Below.refl _ _).alloc (Nat.le_refl _) _).trans (hb1.mono (by simp))
  have c0 : w1.cell? ⟨w.heap.size, 0, none⟩ = some (.int .i64 28) := by rw [hb1.cell (p := ⟨w.heap.size, 0, none⟩) (by simp)]; simp [go_sem]
  have hlt : w.heap.size < w1.heap.size := by have := hb1.size; simp at this; omega
  clear hb1
  go_wp2_with fail
  go_ret
  exact ⟨rfl, HB1.out.alloc (by omega) _⟩

set_option maxHeartbeats 1000000 in
set_option maxRecDepth 100000 in
theorem partOf_29 (p : Option Addr) (cap : Nat) (ys : List Ar) (w : World) (h : ArgsIs w p ys) :
    Calls Tryz.prog 18 #[elemV 29 p ys.length cap] w fun e w' => e = .returned (.iface 97 (lit9 (nine ys))) ∧ Below w.heap.size w w' := by
  have HL : Hid (ListAt (w.alloc (.cells #[.int .i64 29, .slice p ys.length cap] 40)) p ys.length (flat ys)) := h.list.to ((Below.refl _ _).alloc (Nat.le_refl _) _)
  clear h
  obtain ⟨x, hx⟩ : ∃ x, x = nine ys := ⟨_, rfl⟩
  have HX : Hid (argsV ys.length (flat ys) = lit9 x) := by rw [hx]; exact lit9_eq _
  rw [← hx] at *
  clear hx
  go_enter Tryz.func18, Tryz.ntmps18
  go_wp2_with fail
  refine Calls.mono (argsOf_any p ys.length cap (flat ys) _ HL.out) ?_
  rintro e w1 ⟨rfl, hb1⟩
  rw [HX.out]
  clear HL
  have HB1 : Hid (Below w.heap.size w w1) := ((Below.refl _ _).alloc (Nat.le_refl _) _).trans (hb1.mono (by simp))
  have c0 : w1.cell? ⟨w.heap.size, 0, none⟩ = some (.int .i64 29) := by rw [hb1.cell (p := ⟨w.heap.size, 0, none⟩) (by simp)]; simp [go_sem]
  have hlt : w.heap.size < w1.heap.size := by have := hb1.size; simp at this; omega
  clear hb1
  go_wp2_with fail
  go_ret
  exact ⟨rfl, HB1.out.alloc (by omega) _⟩

set_option maxHeartbeats 1000000 in
set_option maxRecDepth 100000 in
theorem partOf_5 (p : Option Addr) (cap : Nat) (ys : List Ar) (w : World) (h : ArgsIs w p ys) :
    Calls Tryz.prog 18 #[elemV 5 p ys.length cap] w fun e w' => e = .returned (.iface 92 (.agg #[.int .i64 (nine ys 0), .int .i64 (nine ys 1), .int .i64 (nine ys 2), .int .i64 (nine ys 3), .int .i64 (nine ys 4), .int .i64 (nine ys 5), .int .i64 (nine ys 6), .int .i64 (nine ys 7), .int .i64 (nine ys 8), .int .i64 1])) ∧ Below w.heap.size w w' := by
  have HL : Hid (ListAt (w.alloc (.cells #[.int .i64 5, .slice p ys.length cap] 40)) p ys.length (flat ys)) := h.list.to ((Below.refl _ _).alloc (Nat.le_refl _) _)
  clear h
  obtain ⟨x, hx⟩ : ∃ x, x = nine ys := ⟨_, rfl⟩
  have HX : Hid (argsV ys.length (flat ys) = lit9 x) := by rw [hx]; exact lit9_eq _
  rw [← hx] at *
  clear hx
  go_enter Tryz.func18, Tryz.ntmps18
  go_wp2_with fail
  refine Calls.mono (argsOf_any p ys.length cap (flat ys) _ HL.out) ?_
  rintro e w1 ⟨rfl, hb1⟩
  rw [HX.out]
  clear HL
  have HB1 : Hid (Below w.heap.size w w1) := ((Below.refl _ _).alloc (Nat.le_refl _) _).trans (hb1.mono (by simp))
  have c0 : w1.cell? ⟨w.heap.size, 0, none⟩ = some (.int .i64 5) := by rw [hb1.cell (p := ⟨w.heap.size, 0, none⟩) (by simp)]; simp [go_sem]
  have hlt : w.heap.size < w1.heap.size := by have := hb1.size; simp at this; omega
  clear hb1
  go_wp2_with fail
  go_ret
  exact ⟨rfl, HB1.out.alloc (by omega) _⟩

set_option maxHeartbeats 1000000 in
set_option maxRecDepth 100000 in
theorem partOf_6 (p : Option Addr) (cap : Nat) (ys : List Ar) (w : World) (h : ArgsIs w p ys) :
    Calls Tryz.prog 18 #[elemV 6 p ys.length cap] w fun e w' => e = .returned (.iface 92 (.agg #[.int .i64 (nine ys 0), .int .i64 (nine ys 1), .int .i64 (nine ys 2), .int .i64 (nine ys 3), .int .i64 (nine ys 4), .int .i64 (nine ys 5), .int .i64 (nine ys 6), .int .i64 (nine ys 7), .int .i64 (nine ys 8), .int .i64 2])) ∧ Below w.heap.size w w' := by
  have HL : Hid (ListAt (w.alloc (.cells #[.int .i64 6, .slice p ys.length cap] 40)) p ys.length (flat ys)) := h.list.to ((Below.refl _ _).alloc (Nat.le_refl _) _)
  clear h
  obtain ⟨x, hx⟩ : ∃ x, x = nine ys := ⟨_, rfl⟩
  have HX : Hid (argsV ys.length (flat ys) = lit9 x) := by rw [hx]; exact lit9_eq _
  rw [← hx] at *
  clear hx
  go_enter Tryz.func18, Tryz.ntmps18
  go_wp2_with fail
  refine Calls.mono (argsOf_any p ys.length cap (flat ys) _ HL.out) ?_
  rintro e w1 ⟨rfl, hb1⟩
  rw [HX.out]
  clear HL
  have HB1 : Hid (Below w.heap.size w w1) := ((Below.refl _ _).alloc (Nat.le_refl _) _).trans (hb1.mono (by simp))
  have c0 : w1.cell? ⟨w.heap.size, 0, none⟩ = some (.int .i64 6) := by rw [hb1.cell (p := ⟨w.heap.size, 0, none⟩) (by simp)]; simp [go_sem]
  have hlt : w.heap.size < w1.heap.size := by have := hb1.size; simp at this; omega
  clear hb1
  go_wp2_with fail
  go_ret
  exact ⟨rfl, HB1.out.alloc (by omega) _⟩

set_option maxHeartbeats 1000000 in
set_option maxRecDepth 100000 in
theorem partOf_7 (p : Option Addr) (cap : Nat) (ys : List Ar) (w : World) (h : ArgsIs w p ys) :
    Calls Tryz.prog 18 #[elemV 7 p ys.length cap] w fun e w' => e = .returned (.iface 92 (.agg #[.int .i64 (nine ys 0), .int .i64 (nine ys 1), .int .i64 (nine ys 2), .int .i64 (nine ys 3), .int .i64 (nine ys 4), .int .i64 (nine ys 5), .int .i64 (nine ys 6), .int .i64 (nine ys 7), .int .i64 (nine ys 8), .int .i64 3])) ∧ Below w.heap.size w w' := by
  have HL : Hid (ListAt (w.alloc (.cells #[.int .i64 7, .slice p ys.length cap] 40)) p ys.length (flat ys)) := h.list.to ((Below.refl _ _).alloc (Nat.le_refl _) _)
  clear h
  obtain ⟨x, hx⟩ : ∃ x, x = nine ys := ⟨_, rfl⟩
  have HX : Hid (argsV ys.length (flat ys) = lit9 x) := by rw [hx]; exact lit9_eq _
  rw [← hx] at *
  clear hx
  go_enter Tryz.func18, Tryz.ntmps18
  go_wp2_with fail
  refine Calls.mono (argsOf_any p ys.length cap (flat ys) _ HL.out) ?_
  rintro e w1 ⟨rfl, hb1⟩
  rw [HX.out]
  clear HL
  have HB1 : Hid (Below w.heap.size w w1) := ((Below.refl _ _).alloc (Nat.le_refl _) _).trans (hb1.mono (by simp))
  have c0 : w1.cell? ⟨w.heap.size, 0, none⟩ = some (.int .i64 7) := by rw [hb1.cell (p := ⟨w.heap.size, 0, none⟩) (by simp)]; simp [go_sem]
  have hlt : w.heap.size < w1.heap.size := by have := hb1.size; simp at this; omega
  clear hb1
  go_wp2_with fail
  go_ret
  exact ⟨rfl, HB1.out.alloc (by omega) _⟩

set_option maxHeartbeats 1000000 in
set_option maxRecDepth 100000 in
theorem partOf_8 (p : Option Addr) (cap : Nat) (ys : List Ar) (w : World) (h : ArgsIs w p ys) :
    Calls Tryz.prog 18 #[elemV 8 p ys.length cap] w fun e w' => e = .returned (.iface 92 (.agg #[.int .i64 (nine ys 0), .int .i64 (nine ys 1), .int .i64 (nine ys 2), .int .i64 (nine ys 3), .int .i64 (nine ys 4), .int .i64 (nine ys 5), .int .i64 (nine ys 6), .int .i64 (nine ys 7), .int .i64 (nine ys 8), .int .i64 4])) ∧ Below w.heap.size w w' := by
  have HL : Hid (ListAt (w.alloc (.cells #[.int .i64 8, .slice p ys.length cap] 40)) p ys.length (flat ys)) := h.list.to ((Below.refl _ _).alloc (Nat.le_refl _) _)
  clear h
  obtain ⟨x, hx⟩ : ∃ x, x = nine ys := ⟨_, rfl⟩
  have HX : Hid (argsV ys.length (flat ys) = lit9 x) := by rw [hx]; exact lit9_eq _
  rw [← hx] at *
  clear hx
  go_enter Tryz.func18, Tryz.ntmps18
  go_wp2_with fail
  refine Calls.mono (argsOf_any p ys.length cap (flat ys) _ HL.out) ?_
  rintro e w1 ⟨rfl, hb1⟩
  rw [HX.out]
  clear HL
  have HB1 : Hid (Below w.heap.size w w1) := ((Below.refl _ _).alloc (Nat.le_refl _) _).trans (hb1.mono (by simp))
  have c0 : w1.cell? ⟨w.heap.size, 0, none⟩ = some (.int .i64 8) := by rw [hb1.cell (p := ⟨w.heap.size, 0, none⟩) (by simp)]; simp [go_sem]
  have hlt : w.heap.size < w1.heap.size := by have := hb1.size; simp at this; omega
  clear hb1
  go_wp2_with fail
  go_ret
  exact ⟨rfl, HB1.out.alloc (by omega) _⟩

set_option maxHeartbeats 1000000 in
set_option maxRecDepth 100000 in
theorem partOf_9 (p : Option Addr) (cap : Nat) (ys : List Ar) (w : World) (h : ArgsIs w p ys) :
    Calls Tryz.prog 18 #[elemV 9 p ys.length cap] w fun e w' => e = .returned (.iface 92 (.agg #[.int .i64 (nine ys 0), .int .i64 (nine ys 1), .int .i64 (nine ys 2), .int .i64 (nine ys 3), .int .i64 (nine ys 4), .int .i64 (nine ys 5), .int .i64 (nine ys 6), .int .i64 (nine ys 7), .int .i64 (nine ys 8), .int .i64 5])) ∧ Below w.heap.size w w' := by
  have HL : Hid (ListAt (w.alloc (.cells #[.int .i64 9, .slice p ys.length cap] 40)) p ys.length (flat ys)) := h.list.to ((Below.refl _ _).alloc (Nat.le_refl _) _)
  clear h
  obtain ⟨x, hx⟩ : ∃ x, x = nine ys := ⟨_, rfl⟩
  have HX : Hid (argsV ys.length (flat ys) = lit9 x) := by rw [hx]; exact lit9_eq _
  rw [← hx] at *
  clear hx
  go_enter Tryz.func18, Tryz.ntmps18
  go_wp2_with fail
  refine Calls.mono (argsOf_any p ys.length cap (flat ys) _ HL.out) ?_
  rintro e w1 ⟨rfl, hb1⟩
  rw [HX.out]
  clear HL
  have HB1 : Hid (Below w.heap.size w w1) := ((Below.refl _ _).alloc (Nat.le_refl _) _).trans (hb1.mono (by simp))
  have c0 : w1.cell? ⟨w.heap.size, 0, none⟩ = some (.int .i64 9) := by rw [hb1.cell (p := ⟨w.heap.size, 0, none⟩) (by simp)]; simp [go_sem]
  have hlt : w.heap.size < w1.heap.size := by have := hb1.size; simp at this; omega
  clear hb1
  go_wp2_with fail
  go_ret
  exact ⟨rfl, HB1.out.alloc (by omega) _⟩

set_option maxHeartbeats 1000000 in
set_option maxRecDepth 100000 in
theorem partOf_10 (p : Option Addr) (cap : Nat) (ys : List Ar) (w : World) (h : ArgsIs w p ys) :
    Calls Tryz.prog 18 #[elemV 10 p ys.length cap] w fun e w' => e = .returned (.iface 92 (.agg #[.int .i64 (nine ys 0), .int .i64 (nine ys 1), .int .i64 (nine ys 2), .int .i64 (nine ys 3), .int .i64 (nine ys 4), .int .i64 (nine ys 5), .int .i64 (nine ys 6), .int .i64 (nine ys 7), .int .i64 (nine ys 8), .int .i64 6])) ∧ Below w.heap.size w w' := by
  have HL : Hid (ListAt (w.alloc (.cells #[.int .i64 10, .slice p ys.length cap] 40)) p ys.length (flat ys)) := h.list.to ((Below.refl _ _).alloc (Nat.le_refl _) _)
  clear h
  obtain ⟨x, hx⟩ : ∃ x, x = nine ys := ⟨_, rfl⟩
  have HX : Hid (argsV ys.length (flat ys) = lit9 x) := by rw [hx]; exact lit9_eq _
  rw [← hx] at *
  clear hx
  go_enter Tryz.func18, Tryz.ntmps18
  go_wp2_with fail
  refine Calls.mono (argsOf_any p ys.length cap (flat ys) _ HL.out) ?_
  rintro e w1 ⟨rfl, hb1⟩
  rw [HX.out]
  clear HL
  have HB1 : Hid (Below w.heap.size w w1) := ((Below.refl _ _).alloc (Nat.le_refl _) _).trans (hb1.mono (by simp))
  have c0 : w1.cell? ⟨w.heap.size, 0, none⟩ = some (.int .i64 10) := by rw [hb1.cell (p := ⟨w.heap.size, 0, none⟩) (by simp)]; simp [go_sem]
  have hlt : w.heap.size < w1.heap.size := by have := hb1.size; simp at this; omega
  clear hb1
  go_wp2_with fail
  go_ret
  exact ⟨rfl, HB1.out.alloc (by omega) _⟩

set_option maxHeartbeats 1000000 in
set_option maxRecDepth 100000 in
theorem partOf_driven (op : Int) (hop : ∀ k ∈ [1, 2, 3, 4, 5, 6, 7, 8, 9, 10, 21, 24, 26, 28, 29], op ≠ (k : Int)) (TD : TypeId) (D : (Nat → Int) → Value) (HD : ∀ (x : Nat → Int) W, Calls Tryz.prog 50 #[.int .i64 op, lit9 x] W fun e w' => e = .returned (.iface TD (D x)) ∧ Below W.heap.size W w') (p : Option Addr) (cap : Nat) (ys : List Ar) (w : World) (h : ArgsIs w p ys) :
    Calls Tryz.prog 18 #[elemV op p ys.length cap] w fun e w' => e = .returned (.iface 100 (.agg #[.iface TD (D (nine ys))])) ∧ Below w.heap.size w w' := by
  have HL : Hid (ListAt (w.alloc (.cells #[.int .i64 op, .slice p ys.length cap] 40)) p ys.length (flat ys)) := h.list.to ((Below.refl _ _).alloc (Nat.le_refl _) _)
  clear h
  obtain ⟨x, hx⟩ : ∃ x, x = nine ys := ⟨_, rfl⟩
  have HX : Hid (argsV ys.length (flat ys) = lit9 x) := by rw [hx]; exact lit9_eq _
  rw [← hx] at *
  clear hx
  have n1 : (op == 1) = false := by simp only [beq_eq_false_iff_ne, ne_eq]; exact hop _ (by simp)
  have n2 : (op == 2) = false := by simp only [beq_eq_false_iff_ne, ne_eq]; exact hop _ (by simp)
  have n3 : (op == 3) = false := by simp only [beq_eq_false_iff_ne, ne_eq]; exact hop _ (by simp)
  have n4 : (op == 4) = false := by simp only [beq_eq_false_iff_ne, ne_eq]; exact hop _ (by simp)
  have n5 : (op == 5) = false := by simp only [beq_eq_false_iff_ne, ne_eq]; exact hop _ (by simp)
  have n6 : (op == 6) = false := by simp only [beq_eq_false_iff_ne, ne_eq]; exact hop _ (by simp)
  have n7 : (op == 7) = false := by simp only [beq_eq_false_iff_ne, ne_eq]; exact hop _ (by simp)
  have n8 : (op == 8) = false := by simp only [beq_eq_false_iff_ne, ne_eq]; exact hop _ (by simp)
  have n9 : (op == 9) = false := by simp only [beq_eq_false_iff_ne, ne_eq]; exact hop _ (by simp)
  have n10 : (op == 10) = false := by simp only [beq_eq_false_iff_ne, ne_eq]; exact hop _ (by simp)
  have n21 : (op == 21) = false := by simp only [beq_eq_false_iff_ne, ne_eq]; exact hop _ (by simp)
  have n24 : (op == 24) = false := by simp only [beq_eq_false_iff_ne, ne_eq]; exact hop _ (by simp)
  have n26 : (op == 26) = false := by simp only [beq_eq_false_iff_ne, ne_eq]; exact hop _ (by simp)
  have n28 : (op == 28) = false := by simp only [beq_eq_false_iff_ne, ne_eq]; exact hop _ (by simp)
  have n29 : (op == 29) = false := by simp only [beq_eq_false_iff_ne, ne_eq]; exact hop _ (by simp)
  clear hop
  go_enter Tryz.func18, Tryz.ntmps18
  go_wp2_with fail
  refine Calls.mono (argsOf_any p ys.length cap (flat ys) _ HL.out) ?_
  rintro e w1 ⟨rfl, hb1⟩
  rw [HX.out]
  clear HL
  have HB1 : Hid (Below w.heap.size w w1) := ((Below.refl _ _).alloc (Nat.le_refl _) _).trans (hb1.mono (by simp))
  have c0 : w1.cell? ⟨w.heap.size, 0, none⟩ = some (.int .i64 op) := by rw [hb1.cell (p := ⟨w.heap.size, 0, none⟩) (by simp)]; simp [go_sem]
  have hlt : w.heap.size < w1.heap.size := by have := hb1.size; simp at this; omega
  clear hb1
  go_wp2_with fail
  refine Calls.mono (HD x _) ?_
  rintro e w2 ⟨rfl, hb2⟩
  have HB2 : Hid (Below w.heap.size w w2) := (HB1.out.alloc (by omega) _).trans (hb2.mono (by simp; omega))
  clear hb2 HB1 c0
  go_wp2_with fail
  go_ret
  exact ⟨rfl, HB2.out⟩

set_option maxHeartbeats 1000000 in
set_option maxRecDepth 100000 in
theorem drivenOf_s22 (x : Nat → Int) (w : World) :
    Calls Tryz.prog 50 #[.int .i64 22, lit9 x] w fun e w' => e = .returned (.iface 93 (lit9 x)) ∧ Below w.heap.size w w' := by
  go_enter Tryz.func50, Tryz.ntmps50
  go_wp2_with fail
  go_ret
  exact ⟨rfl, (Below.refl _ _).alloc (Nat.le_refl _) _⟩

set_option maxHeartbeats 1000000 in
set_option maxRecDepth 100000 in
theorem drivenOf_s27 (x : Nat → Int) (w : World) :
    Calls Tryz.prog 50 #[.int .i64 27, lit9 x] w fun e w' => e = .returned (.iface 95 (lit9 x)) ∧ Below w.heap.size w w' := by
  go_enter Tryz.func50, Tryz.ntmps50
  go_wp2_with fail
  go_ret
  exact ⟨rfl, (Below.refl _ _).alloc (Nat.le_refl _) _⟩

set_option maxHeartbeats 1000000 in
set_option maxRecDepth 100000 in
theorem drivenOf_s23 (x : Nat → Int) (w : World) :
    Calls Tryz.prog 50 #[.int .i64 23, lit9 x] w fun e w' => e = .returned (.iface 111 (lit9 x)) ∧ Below w.heap.size w w' := by
  go_enter Tryz.func50, Tryz.ntmps50
  go_wp2_with fail
  go_ret
  exact ⟨rfl, (Below.refl _ _).alloc (Nat.le_refl _) _⟩

set_option maxHeartbeats 1000000 in
set_option maxRecDepth 100000 in
theorem drivenOf_s25 (x : Nat → Int) (w : World) :
    Calls Tryz.prog 50 #[.int .i64 25, lit9 x] w fun e w' => e = .returned (.iface 112 (lit9 x)) ∧ Below w.heap.size w w' := by
  go_enter Tryz.func50, Tryz.ntmps50
  go_wp2_with fail
  go_ret
  exact ⟨rfl, (Below.refl _ _).alloc (Nat.le_refl _) _⟩

set_option maxHeartbeats 1000000 in
set_option maxRecDepth 100000 in
theorem drivenOf_s30 (x : Nat → Int) (w : World) :
    Calls Tryz.prog 50 #[.int .i64 30, lit9 x] w fun e w' => e = .returned (.iface 113 (lit9 x)) ∧ Below w.heap.size w w' := by
  go_enter Tryz.func50, Tryz.ntmps50
  go_wp2_with fail
  go_ret
  exact ⟨rfl, (Below.refl _ _).alloc (Nat.le_refl _) _⟩

set_option maxHeartbeats 1000000 in
set_option maxRecDepth 100000 in
theorem drivenOf_s36 (x : Nat → Int) (w : World) :
    Calls Tryz.prog 50 #[.int .i64 36, lit9 x] w fun e w' => e = .returned (.iface 116 (lit9 x)) ∧ Below w.heap.size w w' := by
  go_enter Tryz.func50, Tryz.ntmps50
  go_wp2_with fail
  go_ret
  exact ⟨rfl, (Below.refl _ _).alloc (Nat.le_refl _) _⟩

set_option maxHeartbeats 1000000 in
set_option maxRecDepth 100000 in
theorem drivenOf_s37 (x : Nat → Int) (w : World) :
    Calls Tryz.prog 50 #[.int .i64 37, lit9 x] w fun e w' => e = .returned (.iface 117 (lit9 x)) ∧ Below w.heap.size w w' := by
  go_enter Tryz.func50, Tryz.ntmps50
  go_wp2_with fail
  go_ret
  exact ⟨rfl, (Below.refl _ _).alloc (Nat.le_refl _) _⟩

set_option maxHeartbeats 1000000 in
set_option maxRecDepth 100000 in
theorem drivenOf_s31 (x : Nat → Int) (w : World) :
    Calls Tryz.prog 50 #[.int .i64 31, lit9 x] w fun e w' => e = .returned (.iface 115 (.agg #[.int .i64 (x 0), .int .i64 (x 1), .int .i64 (x 2), .int .i64 (x 3), .int .i64 (x 4), .int .i64 (x 5), .int .i64 (x 6), .int .i64 (x 7), .int .i64 (x 8), .int .i64 1])) ∧ Below w.heap.size w w' := by
  go_enter Tryz.func50, Tryz.ntmps50
  go_wp2_with fail
  go_ret
  exact ⟨rfl, (Below.refl _ _).alloc (Nat.le_refl _) _⟩

set_option maxHeartbeats 1000000 in
set_option maxRecDepth 100000 in
theorem drivenOf_s32 (x : Nat → Int) (w : World) :
    Calls Tryz.prog 50 #[.int .i64 32, lit9 x] w fun e w' => e = .returned (.iface 115 (.agg #[.int .i64 (x 0), .int .i64 (x 1), .int .i64 (x 2), .int .i64 (x 3), .int .i64 (x 4), .int .i64 (x 5), .int .i64 (x 6), .int .i64 (x 7), .int .i64 (x 8), .int .i64 2])) ∧ Below w.heap.size w w' := by
  go_enter Tryz.func50, Tryz.ntmps50
  go_wp2_with fail
  go_ret
  exact ⟨rfl, (Below.refl _ _).alloc (Nat.le_refl _) _⟩

set_option maxHeartbeats 1000000 in
set_option maxRecDepth 100000 in
theorem drivenOf_s33 (x : Nat → Int) (w : World) :
    Calls Tryz.prog 50 #[.int .i64 33, lit9 x] w fun e w' => e = .returned (.iface 115 (.agg #[.int .i64 (x 0), .int .i64 (x 1), .int .i64 (x 2), .int .i64 (x 3), .int .i64 (x 4), .int .i64 (x 5), .int .i64 (x 6), .int .i64 (x 7), .int .i64 (x 8), .int .i64 3])) ∧ Below w.heap.size w w' := by
  go_enter Tryz.func50, Tryz.ntmps50
  go_wp2_with fail
  go_ret
  exact ⟨rfl, (Below.refl _ _).alloc (Nat.le_refl _) _⟩

set_option maxHeartbeats 1000000 in
set_option maxRecDepth 100000 in
theorem drivenOf_s34 (x : Nat → Int) (w : World) :
    Calls Tryz.prog 50 #[.int .i64 34, lit9 x] w fun e w' => e = .returned (.iface 115 (.agg #[.int .i64 (x 0), .int .i64 (x 1), .int .i64 (x 2), .int .i64 (x 3), .int .i64 (x 4), .int .i64 (x 5), .int .i64 (x 6), .int .i64 (x 7), .int .i64 (x 8), .int .i64 4])) ∧ Below w.heap.size w w' := by
  go_enter Tryz.func50, Tryz.ntmps50
  go_wp2_with fail
  go_ret
  exact ⟨rfl, (Below.refl _ _).alloc (Nat.le_refl _) _⟩

set_option maxHeartbeats 1000000 in
set_option maxRecDepth 100000 in
theorem drivenOf_s35 (x : Nat → Int) (w : World) :
    Calls Tryz.prog 50 #[.int .i64 35, lit9 x] w fun e w' => e = .returned (.iface 115 (.agg #[.int .i64 (x 0), .int .i64 (x 1), .int .i64 (x 2), .int .i64 (x 3), .int .i64 (x 4), .int .i64 (x 5), .int .i64 (x 6), .int .i64 (x 7), .int .i64 (x 8), .int .i64 5])) ∧ Below w.heap.size w w' := by
  go_enter Tryz.func50, Tryz.ntmps50
  go_wp2_with fail
  go_ret
  exact ⟨rfl, (Below.refl _ _).alloc (Nat.le_refl _) _⟩

set_option maxHeartbeats 1000000 in
set_option maxRecDepth 100000 in
theorem drivenOf_none (op : Int) (hop : ∀ k ∈ [22, 27, 23, 25, 30, 31, 32, 33, 34, 35, 36, 37], op ≠ (k : Int)) (x : Nat → Int) (w : World) :
    Calls Tryz.prog 50 #[.int .i64 op, lit9 x] w fun e w' => e = .returned (.iface 84 (lit9 x)) ∧ Below w.heap.size w w' := by
  have n22 : (op == 22) = false := by simp only [beq_eq_false_iff_ne, ne_eq]; exact hop _ (by simp)
  have n27 : (op == 27) = false := by simp only [beq_eq_false_iff_ne, ne_eq]; exact hop _ (by simp)
  have n23 : (op == 23) = false := by simp only [beq_eq_false_iff_ne, ne_eq]; exact hop _ (by simp)
  have n25 : (op == 25) = false := by simp only [beq_eq_false_iff_ne, ne_eq]; exact hop _ (by simp)
  have n30 : (op == 30) = false := by simp only [beq_eq_false_iff_ne, ne_eq]; exact hop _ (by simp)
  have n31 : (op == 31) = false := by simp only [beq_eq_false_iff_ne, ne_eq]; exact hop _ (by simp)
  have n32 : (op == 32) = false := by simp only [beq_eq_false_iff_ne, ne_eq]; exact hop _ (by simp)
  have n33 : (op == 33) = false := by simp only [beq_eq_false_iff_ne, ne_eq]; exact hop _ (by simp)
  have n34 : (op == 34) = false := by simp only [beq_eq_false_iff_ne, ne_eq]; exact hop _ (by simp)
  have n35 : (op == 35) = false := by simp only [beq_eq_false_iff_ne, ne_eq]; exact hop _ (by simp)
  have n36 : (op == 36) = false := by simp only [beq_eq_false_iff_ne, ne_eq]; exact hop _ (by simp)
  have n37 : (op == 37) = false := by simp only [beq_eq_false_iff_ne, ne_eq]; exact hop _ (by simp)
  clear hop
  go_enter Tryz.func50, Tryz.ntmps50
  go_wp2_with fail
  go_ret
  exact ⟨rfl, (Below.refl _ _).alloc (Nat.le_refl _) _⟩

end Go.Proofs.YtmgjngihngddfaaGreatDoor
