/- A text put behind itself, by the library. Helper text: no statement is claimed here. -/
import Derived.Test.YtleopmhllbaalagDoorDs
import Derived.Test.YtleopmhllbaalagDoorSn
namespace Go.Proofs.YtleopmhllbaalagDoor
open Go.ChangeShapes Go.WideShapes Go.ChangeAt Go.RowKit

theorem repeat_any (s : ByteArray) (c : Nat) (w : World) (hc : s.size * c ≤ 1000000) (hc2 : c ≤ 1000000) :
    Calls Tryd.prog 65 #[.string s, .int .i64 c] w fun e w' => e = .returned (.string ⟨(Lib.repeatL s.data.toList c).toArray⟩) ∧ Below w.heap.size w w' :=
  Any.strings_Repeat Tryd.lays105 Tryd.Builder_Extra_105 s c w (by omega) (by omega)

end Go.Proofs.YtleopmhllbaalagDoor
