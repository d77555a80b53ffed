/- The text of a real number, as a relation. Helper text: no statement is claimed here. -/
import Derived.Test.YtedobjegolpbjaaDoorNg
namespace Go.Proofs.YtedobjegolpbjaaDoor
open Go.ChangeShapes Go.WideShapes Go.ChangeAt Go.RowKit Fl

/-- The text of a real number. -/
def TextR (x : Nat) (t : List UInt8) : Prop :=
  (nan x ∧ t = [110, 97, 110]) ∨ (x = wi false ∧ t = [105, 110, 102]) ∨ (x = wi true ∧ t = [45, 105, 110, 102]) ∨ (x = wd false 0 0 ∧ t = [48]) ∨ (x = wd true 0 0 ∧ t = [45, 48]) ∨
  (∃ m k, Sc m k ∧ k ≤ 2045 ∧ 0 < m ∧ x = wd false m k ∧ t = oT m k) ∨ (∃ m k, Sc m k ∧ k ≤ 2045 ∧ 0 < m ∧ x = wd true m k ∧ t = 45 :: oT m k)
theorem TextR.isnan {x : Nat} (h : nan x) : TextR x [110, 97, 110] := .inl ⟨h, rfl⟩
theorem TextR.inf : TextR (wi false) [105, 110, 102] := .inr (.inl ⟨rfl, rfl⟩)
theorem TextR.ninf : TextR (wi true) [45, 105, 110, 102] := .inr (.inr (.inl ⟨rfl, rfl⟩))
theorem TextR.zero : TextR (wd false 0 0) [48] := .inr (.inr (.inr (.inl ⟨rfl, rfl⟩)))
theorem TextR.nzero : TextR (wd true 0 0) [45, 48] := .inr (.inr (.inr (.inr (.inl ⟨rfl, rfl⟩))))
theorem TextR.pos {m k : Nat} (a : Sc m k) (b : k ≤ 2045) (c : 0 < m) : TextR (wd false m k) (oT m k) := .inr (.inr (.inr (.inr (.inr (.inl ⟨_, _, a, b, c, rfl, rfl⟩)))))
theorem TextR.neg {m k : Nat} (a : Sc m k) (b : k ≤ 2045) (c : 0 < m) : TextR (wd true m k) (45 :: oT m k) := .inr (.inr (.inr (.inr (.inr (.inr ⟨_, _, a, b, c, rfl, rfl⟩)))))
def Texted (x : Nat) (w : World) (e : Ending) (w' : World) : Prop := ∃ t : List UInt8, e = .returned (.string ⟨t.toArray⟩) ∧ TextR x t ∧ Below w.heap.size w w'
theorem unary_negF (k : FloatKind) (b : Nat) : Op.unary .neg (.float k b) = pure (.float k (Op.negFloat k b)) := rfl
theorem wd_zeroN {s : Bool} {m k : Nat} (h : Sc m k) (h0 : m = 0) : wd s m k = wd s 0 0 := by
  subst h0
  rcases h.hk with rfl | h
  · rfl
  · omega
end Go.Proofs.YtedobjegolpbjaaDoor
