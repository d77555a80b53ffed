/- Texts of two real numbers are the same just if the numbers are. Helper text: no statement is claimed here. -/
import Derived.Test.YtedobjegolpbjaaDoorNd
import Derived.Test.YtedobjegolpbjaaDoorVf
import Derived.Test.YtedobjegolpbjaaDoorCa
namespace Go.Proofs.YtedobjegolpbjaaDoor
open Go.ChangeShapes Go.WideShapes Go.ChangeAt Go.RowKit Fl

theorem text_iff {x y : Nat} {s t : List UInt8} (hs : TextR x s) (ht : TextR y t) : s = t ↔ SameV x y := by
  constructor
  · rintro rfl; exact hs.inj ht
  · rintro (rfl | ⟨h1, h2⟩)
    · exact hs.one ht
    · exact (hs.one (.isnan h1)).trans (ht.one (.isnan h2)).symm
end Go.Proofs.YtedobjegolpbjaaDoor
