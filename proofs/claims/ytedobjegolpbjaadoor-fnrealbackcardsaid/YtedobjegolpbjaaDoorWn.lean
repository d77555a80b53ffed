/- Whole numbers of 16 bits, counted round. Helper text: no statement is claimed here. -/
import Derived.Test.YtedobjegolpbjaaDoorRows
import Derived.WalkKit
namespace Go.Proofs.YtedobjegolpbjaaDoor
open Go.RowKit

/-- Counted round to 16 bits. -/
def w16 (n : Int) : Int := (n + 32768) % 65536 - 32768
theorem w16_wrap (n : Int) : IntKind.i16.wrap n = w16 n := by
  unfold w16
  simp [IntKind.wrap, IntKind.bits, IntKind.signed]
  split <;> omega

end Go.Proofs.YtedobjegolpbjaaDoor
