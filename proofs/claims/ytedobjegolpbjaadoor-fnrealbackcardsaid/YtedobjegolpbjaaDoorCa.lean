/- Reckoning with real numbers: RealCalc of the program and of the document, and the walk of FnExactRealCalc. Helper text: no statement is claimed here. -/
import Derived.Test.YtedobjegolpbjaaDoorRows
import Derived.Test.YtedobjegolpbjaaDoorFd
import Derived.WalkKit
import Derived.ProofKit
import Derived.OpenShut
import Derived.Below
import Derived.WalkSmall
import Derived.WalkLawsBesides
namespace Go.Proofs.YtedobjegolpbjaaDoor
open Go.ChangeShapes Go.WideShapes Go.ChangeAt Go.RowKit Fl

/-- One value: the same bits, or both nan. -/
def SameV (x y : Nat) : Prop := x = y ∨ (nan x ∧ nan y)
/-- The world with one more thing drawn. -/
abbrev drewW (w : World) : World := { w with drawn := w.drawn + 1 }

theorem nan_cut (a b t : Nat) : nan (Question.cut (.nanBits .f64 a b) t) ∧ Question.cut (.nanBits .f64 a b) t < 2 ^ 64 := by
  have e : Question.cut (.nanBits .f64 a b) t = Ieee.double.word (t % 2 == 1) (2047 * 2 ^ 52 + 1 + (t / 2) % (2 ^ 52 - 1)) := by
    show (t % 2) * 2 ^ 63 + 0x7ff0000000000000 + 1 + (t / 2) % (2 ^ 52 - 1) = _
    unfold Ieee.Format.word
    rw [signWeight_eq]
    split <;> rename_i h <;> simp at h <;> omega
  have hl : (t / 2) % (2 ^ 52 - 1) < 2 ^ 52 - 1 := Nat.mod_lt _ (by omega)
  rw [e]
  generalize (t / 2) % (2 ^ 52 - 1) = f at *
  generalize (t % 2 == 1) = s at *
  refine ⟨?_, Ieee.Format.word_lt _ s (by rw [signWeight_eq]; omega)⟩
  unfold nan Ieee.Format.read
  rw [word_sign s (by omega), word_rung s (by omega), binade_eq, infRung_eq]
  have a1 : ¬ 2047 * 2 ^ 52 + 1 + f < 2 ^ 52 := by omega
  have a2 : ¬ 2047 * 2 ^ 52 + 1 + f < 2047 * 2 ^ 52 := by omega
  have a3 : ¬ 2047 * 2 ^ 52 + 1 + f = 2047 * 2 ^ 52 := by omega
  simp only [a1, a2, a3, if_false, Ieee.Datum.isNaN]

def arith (op : BinOp) : Prop := op = .add ∨ op = .sub ∨ op = .mul ∨ op = .quo
/-- Where there is no number, there comes a nan. -/
theorem run_nan (op : BinOp) (ho : arith op) (t : TypeId) (x y : Nat) (w : World) (h : floatBits op .f64 x y = none) :
    ∃ r, (binOp op t (.float .f64 x) (.float .f64 y)).run Tryd.prog w = .ok (.float .f64 r) (drewW w) ∧ nan r ∧ r < 2 ^ 64 := by
  refine ⟨_, ?_, nan_cut x y (w.tape w.drawn (.nanBits .f64 x y))⟩
  unfold floatBits at h
  rcases ho with rfl | rfl | rfl | rfl <;> simp only at h <;> simp [binOp, Op.floatArith, h, Question.forced]

theorem drewW_below {B : Nat} {w w' : World} (h : Below B w w') : Below B w (drewW w') := h.drew
end Go.Proofs.YtedobjegolpbjaaDoor
