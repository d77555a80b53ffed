/- A float operation that has an answer, as the walk meets it. Helper text: no statement is claimed here. -/
import Derived.Test.YtlgiecdhiafldaaDoorCa
import Derived.Test.YtlgiecdhiafldaaDoorFf
namespace Go.Proofs.YtlgiecdhiafldaaDoor
open Go.ChangeShapes Go.WideShapes Go.ChangeAt Go.RowKit Fl
theorem run_some {op : BinOp} {x y r : Nat} (h : floatBits op .f64 x y = some r) (t : TypeId) (w : World) : (binOp op t (.float .f64 x) (.float .f64 y)).run Tryd.prog w = .ok (.float .f64 r) w := run_float_arith w op t .f64 x y r h
end Go.Proofs.YtlgiecdhiafldaaDoor
