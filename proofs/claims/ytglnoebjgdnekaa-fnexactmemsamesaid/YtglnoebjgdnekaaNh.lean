/- The text of a real number, as a relation. Helper text: no statement is claimed here. -/
import Derived.Test.YtglnoebjgdnekaaNg
namespace Go.Proofs.Ytglnoebjgdnekaa
open Go.ChangeShapes Go.WideShapes Go.ChangeAt Go.RowKit Fl

/-- The text of a real number. -/
inductive TextR : Nat → List UInt8 → Prop
  | isnan {x : Nat} : nan x → TextR x [110, 97, 110]
  | inf : TextR (wi false) [105, 110, 102]
  | ninf : TextR (wi true) [45, 105, 110, 102]
  | zero : TextR (wd false 0 0) [48]
  | nzero : TextR (wd true 0 0) [45, 48]
  | pos {m k : Nat} : Sc m k → k ≤ 2045 → 0 < m → TextR (wd false m k) (oT m k)
  | neg {m k : Nat} : Sc m k → k ≤ 2045 → 0 < m → TextR (wd true m k) (45 :: oT m k)
def Texted (x : Nat) (w : World) (e : Ending) (w' : World) : Prop := ∃ t : List UInt8, e = .returned (.string ⟨t.toArray⟩) ∧ TextR x t ∧ Below w.heap.size w w'
theorem unary_negF (k : FloatKind) (b : Nat) : Op.unary .neg (.float k b) = pure (.float k (Op.negFloat k b)) := rfl
theorem wd_zeroN {s : Bool} {m k : Nat} (h : Sc m k) (h0 : m = 0) : wd s m k = wd s 0 0 := by
  subst h0
  rcases h.hk with rfl | h
  · rfl
  · omega
end Go.Proofs.Ytglnoebjgdnekaa
