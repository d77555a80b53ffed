/- A bit of a memory put, as plain mathematics. Helper text: no statement is claimed here. -/
import Derived.Test.YtljhpagpohihcaaDoorYa
import Derived.Test.YtljhpagpohihcaaDoorJa
namespace Go.Proofs.YtljhpagpohihcaaDoor
open Go.ChangeShapes Go.WideShapes Go.ChangeAt Go.RowKit

/-- The memory with one bit of a word turned. -/
def Mm.turn (m : Mm) (k n : Int) (b : Bool) : Mm :=
  if k = 1 then { m with x := putN m.x (plc 1 n).toNat b } else
  if k = 2 then { m with y := putN m.y (plc 2 n).toNat b } else
  if k = 3 then { m with m := putN m.m (plc 3 n).toNat b } else
  if k = 4 then { m with s := putN m.s (plc 4 n).toNat b } else
  if k = 5 then { m with e := putN m.e (plc 5 n).toNat b } else
  m
/-- What MemPut answers: inputs stay. -/
def Mm.putB (m : Mm) (k n : Int) (b : Bool) : Mm := if k = 1 then m else m.turn k n b
theorem wrap_u32n (n : Nat) (h : n < 4294967296) : IntKind.u32.wrap (n : Int) = n := by rw [IntKind.wrap_u32]; omega
theorem wrap_u16n (n : Nat) (h : n < 65536) : IntKind.u16.wrap (n : Int) = n := by rw [IntKind.wrap_u16]; omega
theorem set_x (m : Mm) (q i : Nat) : (if i = 0 then Value.int .u32 (q : Int) else m.cell i) = ({ m with x := q } : Mm).cell i := by
  by_cases h : i < 5
  · have : i = 0 ∨ i = 1 ∨ i = 2 ∨ i = 3 ∨ i = 4 := by omega
    rcases this with rfl | rfl | rfl | rfl | rfl <;> rfl
  · rw [if_neg (by omega)]
    unfold Mm.cell
    rw [if_neg h, if_neg h]
    rfl
theorem set_y (m : Mm) (q i : Nat) : (if i = 1 then Value.int .u32 (q : Int) else m.cell i) = ({ m with y := q } : Mm).cell i := by
  by_cases h : i < 5
  · have : i = 0 ∨ i = 1 ∨ i = 2 ∨ i = 3 ∨ i = 4 := by omega
    rcases this with rfl | rfl | rfl | rfl | rfl <;> rfl
  · rw [if_neg (by omega)]
    unfold Mm.cell
    rw [if_neg h, if_neg h]
    rfl
theorem set_m (m : Mm) (q i : Nat) : (if i = 2 then Value.int .u64 (q : Int) else m.cell i) = ({ m with m := q } : Mm).cell i := by
  by_cases h : i < 5
  · have : i = 0 ∨ i = 1 ∨ i = 2 ∨ i = 3 ∨ i = 4 := by omega
    rcases this with rfl | rfl | rfl | rfl | rfl <;> rfl
  · rw [if_neg (by omega)]
    unfold Mm.cell
    rw [if_neg h, if_neg h]
    rfl
theorem set_s (m : Mm) (q i : Nat) : (if i = 3 then Value.int .u16 (q : Int) else m.cell i) = ({ m with s := q } : Mm).cell i := by
  by_cases h : i < 5
  · have : i = 0 ∨ i = 1 ∨ i = 2 ∨ i = 3 ∨ i = 4 := by omega
    rcases this with rfl | rfl | rfl | rfl | rfl <;> rfl
  · rw [if_neg (by omega)]
    unfold Mm.cell
    rw [if_neg h, if_neg h]
    rfl
theorem set_e (m : Mm) (q i : Nat) : (if i = 4 then Value.int .u32 (q : Int) else m.cell i) = ({ m with e := q } : Mm).cell i := by
  by_cases h : i < 5
  · have : i = 0 ∨ i = 1 ∨ i = 2 ∨ i = 3 ∨ i = 4 := by omega
    rcases this with rfl | rfl | rfl | rfl | rfl <;> rfl
  · rw [if_neg (by omega)]
    unfold Mm.cell
    rw [if_neg h, if_neg h]
    rfl
theorem turn_x (m : Mm) (n : Int) (b : Bool) : m.turn 1 n b = { m with x := putN m.x (plc 1 n).toNat b } := by
  unfold Mm.turn
  rfl
theorem turn_y (m : Mm) (n : Int) (b : Bool) : m.turn 2 n b = { m with y := putN m.y (plc 2 n).toNat b } := by
  unfold Mm.turn
  rfl
theorem turn_m (m : Mm) (n : Int) (b : Bool) : m.turn 3 n b = { m with m := putN m.m (plc 3 n).toNat b } := by
  unfold Mm.turn
  rfl
theorem turn_s (m : Mm) (n : Int) (b : Bool) : m.turn 4 n b = { m with s := putN m.s (plc 4 n).toNat b } := by
  unfold Mm.turn
  rfl
theorem turn_e (m : Mm) (n : Int) (b : Bool) : m.turn 5 n b = { m with e := putN m.e (plc 5 n).toNat b } := by
  unfold Mm.turn
  rfl
theorem turn_no (m : Mm) (k n : Int) (b : Bool) (h : k ≠ 1 ∧ k ≠ 2 ∧ k ≠ 3 ∧ k ≠ 4 ∧ k ≠ 5) : m.turn k n b = m := by
  unfold Mm.turn
  rw [if_neg h.1, if_neg h.2.1, if_neg h.2.2.1, if_neg h.2.2.2.1, if_neg h.2.2.2.2]
theorem turn_real (m : Mm) (k n : Int) (b : Bool) (i : Nat) : m.r i = (m.turn k n b).r i := by
  unfold Mm.turn
  repeat' split
  all_goals rfl
theorem putB_real (m : Mm) (k n : Int) (b : Bool) (i : Nat) : m.r i = (m.putB k n b).r i := by
  unfold Mm.putB
  split
  · rfl
  · exact turn_real m k n b i
theorem putB_none (m : Mm) (k n : Int) (b : Bool) (h : k < 2 ∨ 5 < k) : m.putB k n b = m := by
  unfold Mm.putB Mm.turn
  by_cases h1 : k = 1
  · rw [if_pos h1]
  · rw [if_neg h1, if_neg h1, if_neg (by omega), if_neg (by omega), if_neg (by omega), if_neg (by omega)]
theorem putB_ok {m : Mm} {k n : Int} {b : Bool} (h : m.Ok) : (m.putB k n b).Ok := by
  by_cases h2 : k < 2 ∨ 5 < k
  · rw [putB_none m k n b h2]; exact h
  have hb : ∀ i : Int, 0 ≤ plc i n ∧ (plc i n < sz4 i ∨ plc i n = 0) := fun i => plc_range i n
  have : k = 2 ∨ k = 3 ∨ k = 4 ∨ k = 5 := by omega
  rcases this with rfl | rfl | rfl | rfl
  · have q := hb 2
    rw [show sz4 2 = 32 from rfl] at q
    exact { h with hy := putN_lt (n := 32) b (by omega) h.hy }
  · have q := hb 3
    rw [show sz4 3 = 64 from rfl] at q
    exact { h with hm := putN_lt (n := 64) b (by omega) h.hm }
  · have q := hb 4
    rw [show sz4 4 = 16 from rfl] at q
    exact { h with hs := putN_lt (n := 16) b (by omega) h.hs }
  · have q := hb 5
    rw [show sz4 5 = 32 from rfl] at q
    exact { h with he := putN_lt (n := 32) b (by omega) h.he }
end Go.Proofs.YtljhpagpohihcaaDoor
