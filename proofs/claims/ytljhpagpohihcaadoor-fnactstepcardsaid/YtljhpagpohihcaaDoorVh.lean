/- Nine cells written out; operands that lie there behind a call. Helper text: no statement is claimed here. -/
import Derived.Test.YtljhpagpohihcaaDoorVa
namespace Go.Proofs.YtljhpagpohihcaaDoor
open Go.ChangeShapes Go.WideShapes Go.ChangeAt Go.RowKit

/-- Nine cells written out. -/
abbrev lit9 (x : Nat → Int) : Value := .agg #[.int .i64 (x 0), .int .i64 (x 1), .int .i64 (x 2), .int .i64 (x 3), .int .i64 (x 4), .int .i64 (x 5), .int .i64 (x 6), .int .i64 (x 7), .int .i64 (x 8)]
theorem lit9_eq (x : Nat → Int) : .agg (cellsOf 9 fun i => .int .i64 (x i)) = lit9 x := by kernel_rfl
/-- What the nine cells hold, as numbers. -/
def anum (n : Nat) (c : Nat → Int) (i : Nat) : Int := if i < n * 3 then c i else 0

theorem ListAt.to {w w' : World} {p : Option Addr} {n : Nat} {c : Nat → Int} (h : ListAt w p n c) (hb : Below w.heap.size w w') : ListAt w' p n c := by
  rcases h with h0 | ⟨ad, hp, hlt, hc⟩
  · exact .inl h0
  · exact .inr ⟨ad, hp, Nat.lt_of_lt_of_le hlt hb.size, fun i hi => by rw [hb.cell (p := ad.add i) (by rw [show (ad.add i).block = ad.block by unfold Addr.add; split <;> rfl]; exact hlt)]; exact hc i hi⟩
end Go.Proofs.YtljhpagpohihcaaDoor
