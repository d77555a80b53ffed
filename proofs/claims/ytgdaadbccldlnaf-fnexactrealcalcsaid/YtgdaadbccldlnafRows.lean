/-
  No cell of these rows narrows 'for every input' (looked for: loops, veiled, ifaces, maps, wideKeys, modest, calm, conditions, laid).
  DERIVED. THE GIVEN ROWS OF THIS SEAT. 3 by the template 'for every input the law returns true; each argument reads behind the call as it read before'; 0 by the template 'total and deterministic' (their statements: YtgdaadbccldlnafTotals.lean).
  GIVEN WITH THE SEED: the statements are not yours to turn. If you find one false, say at which input.
  Laid BY PROGRAM, IN A SANDBOX (cutbox-rows.mjs): the forced cells as the released guide's own fill.sh prints them over the translation 1ead383c5fa7e102… (all of the seat's roots in one cut). By AI agents, Wed Nov 11 2026. No macro, syntax, notation, axiom, sorry.
-/
import Derived.Test.YtgdaadbccldlnafChecked
import GoSem.Claim
import GoSem.ClaimJoined
import GoSem.ClaimMapViews
import Derived.JoinedTies
import Derived.KernelRfl
namespace Go.Proofs.Ytgdaadbccldlnaf
/- THE CELL 'sum', in the pinned program and in every row, IS THE sha256 OF THE DUMP (.gsa) THAT YtgdaadbccldlnafProg.lean LOADS. Nothing in Lean hashes anything: it is a label: what it is worth is what the hold of that sum in a sandbox is worth. -/
noncomputable def Try.pinned : Pinned := { name := "ytgdaadbccldlnaf", sum := "1ead383c5fa7e1021cda65d42f534a0d67fa8cb034aa4fb09598b85a2b6ffa95", checked := Try.checked }
namespace Rows
def none {H : Type} : Left H := { results := [], args := [] }

/-- 'laws.FnExactWholeCalc': WHATEVER THE INPUT: true; the input reads as it did. -/
def fnExactWholeCalcSpec : ChangeSpec := { name := "fnExactWholeCalc", fn := fun _ => fun
  | [d1, d2, d3] => { results := [.lit (.bool true)], args := [d1, d2, d3] }
  | _ => none }
def fnExactWholeCalcRow : OpenClaim := { program := "ytgdaadbccldlnaf", sum := "1ead383c5fa7e1021cda65d42f534a0d67fa8cb034aa4fb09598b85a2b6ffa95", func := "loop.example/stilscan/laws.FnExactWholeCalc", spec := "fnExactWholeCalc", apart := false }
def FnExactWholeCalcSaid : Prop := fnExactWholeCalcRow.holds Try.pinned (OpenSpec.ofChange fnExactWholeCalcSpec)

/-- ITS FALSE NEIGHBOUR: 'it returns false'. Refute it at one input. -/
def fnExactWholeCalcWrong : ChangeSpec := { name := "fnExactWholeCalc", fn := fun _ => fun
  | [d1, d2, d3] => { results := [.lit (.bool false)], args := [d1, d2, d3] }
  | _ => none }
def FnExactWholeCalcWrongFalsely : Prop := fnExactWholeCalcRow.holds Try.pinned (OpenSpec.ofChange fnExactWholeCalcWrong)

/-- 'laws.FnExactRealCalc': WHATEVER THE INPUT: true; the input reads as it did. -/
def fnExactRealCalcSpec : ChangeSpec := { name := "fnExactRealCalc", fn := fun _ => fun
  | [d1, d2, d3] => { results := [.lit (.bool true)], args := [d1, d2, d3] }
  | _ => none }
def fnExactRealCalcRow : OpenClaim := { program := "ytgdaadbccldlnaf", sum := "1ead383c5fa7e1021cda65d42f534a0d67fa8cb034aa4fb09598b85a2b6ffa95", func := "loop.example/stilscan/laws.FnExactRealCalc", spec := "fnExactRealCalc", inPlace := ["math.Float64frombits"], apart := false }
def FnExactRealCalcSaid : Prop := fnExactRealCalcRow.holds Try.pinned (OpenSpec.ofChange fnExactRealCalcSpec)

/-- ITS FALSE NEIGHBOUR: 'it returns false'. Refute it at one input. -/
def fnExactRealCalcWrong : ChangeSpec := { name := "fnExactRealCalc", fn := fun _ => fun
  | [d1, d2, d3] => { results := [.lit (.bool false)], args := [d1, d2, d3] }
  | _ => none }
def FnExactRealCalcWrongFalsely : Prop := fnExactRealCalcRow.holds Try.pinned (OpenSpec.ofChange fnExactRealCalcWrong)

/-- 'laws.FnExactElemIsCoil': WHATEVER THE INPUT: true; the input reads as it did. -/
def fnExactElemIsCoilSpec : ChangeSpec := { name := "fnExactElemIsCoil", fn := fun _ => fun
  | [d] => { results := [.lit (.bool true)], args := [d] }
  | _ => none }
def fnExactElemIsCoilRow : OpenClaim := { program := "ytgdaadbccldlnaf", sum := "1ead383c5fa7e1021cda65d42f534a0d67fa8cb034aa4fb09598b85a2b6ffa95", func := "loop.example/stilscan/laws.FnExactElemIsCoil", spec := "fnExactElemIsCoil", apart := false }
def FnExactElemIsCoilSaid : Prop := fnExactElemIsCoilRow.holds Try.pinned (OpenSpec.ofChange fnExactElemIsCoilSpec)

/-- ITS FALSE NEIGHBOUR: 'it returns false'. Refute it at one input. -/
def fnExactElemIsCoilWrong : ChangeSpec := { name := "fnExactElemIsCoil", fn := fun _ => fun
  | [d] => { results := [.lit (.bool false)], args := [d] }
  | _ => none }
def FnExactElemIsCoilWrongFalsely : Prop := fnExactElemIsCoilRow.holds Try.pinned (OpenSpec.ofChange fnExactElemIsCoilWrong)

/- THE SECOND FORM. 'bulk': how many values and letters a reading holds, each counted each time it is reached (what is shared counts as often as it is met; a slice's spare places count too). A statement '..UptoSaid' is the law's where the arguments, and the package variables that the reading takes, are together of bulk at most 1048576: NARROWER than '..Said'. Prove '..Said' where nothing that the law and all that it calls make is longer than what came in: it says more and counts as full. Else prove '..UptoSaid'. A law counts once. -/
mutual
def uptoBulk {H : Type} : DataW H → Nat
  | .lit (.string bytes) => bytes.length + 1
  | .lit _ => 1
  | .nil => 1
  | .ptr d => uptoBulk d + 1
  | .slice elems spare => uptoBulkAll elems + uptoBulkAll spare + 1
  | .agg parts => uptoBulkAll parts + 1
  | .iface _ d => uptoBulk d + 1
  | .map entries => uptoBulkEntries entries + 1
  | .held _ => 1
def uptoBulkAll {H : Type} : List (DataW H) → Nat
  | [] => 0
  | d :: r => uptoBulk d + uptoBulkAll r
def uptoBulkEntries {H : Type} : List (Lit × DataW H) → Nat
  | [] => 0
  | x :: r => uptoBulkEntry x + uptoBulkEntries r
def uptoBulkEntry {H : Type} : Lit × DataW H → Nat
  | (.string bytes, d) => bytes.length + uptoBulk d + 1
  | (_, d) => uptoBulk d + 1
 end
def uptoSmall : (H : Type) → List (DataW H) → Bool := fun _ ds => decide (uptoBulkAll ds ≤ 1048576)
def OpenSpec.upto (s : _root_.Go.ChangeSpec) : _root_.Go.OpenSpec := { _root_.Go.OpenSpec.ofChange s with cond := some uptoSmall }

/-- 'laws.FnExactWholeCalc', WHERE WHAT IT READS IS OF BULK AT MOST 1048576: true; the input reads as it did. -/
def fnExactWholeCalcUptoRow : OpenClaim := { program := "ytgdaadbccldlnaf", sum := "1ead383c5fa7e1021cda65d42f534a0d67fa8cb034aa4fb09598b85a2b6ffa95", func := "loop.example/stilscan/laws.FnExactWholeCalc", spec := "fnExactWholeCalc", apart := false, narrowed := true }
def FnExactWholeCalcUptoSaid : Prop := fnExactWholeCalcUptoRow.holds Try.pinned (OpenSpec.upto fnExactWholeCalcSpec)

/-- 'laws.FnExactRealCalc', WHERE WHAT IT READS IS OF BULK AT MOST 1048576: true; the input reads as it did. -/
def fnExactRealCalcUptoRow : OpenClaim := { program := "ytgdaadbccldlnaf", sum := "1ead383c5fa7e1021cda65d42f534a0d67fa8cb034aa4fb09598b85a2b6ffa95", func := "loop.example/stilscan/laws.FnExactRealCalc", spec := "fnExactRealCalc", inPlace := ["math.Float64frombits"], apart := false, narrowed := true }
def FnExactRealCalcUptoSaid : Prop := fnExactRealCalcUptoRow.holds Try.pinned (OpenSpec.upto fnExactRealCalcSpec)

/-- 'laws.FnExactElemIsCoil', WHERE WHAT IT READS IS OF BULK AT MOST 1048576: true; the input reads as it did. -/
def fnExactElemIsCoilUptoRow : OpenClaim := { program := "ytgdaadbccldlnaf", sum := "1ead383c5fa7e1021cda65d42f534a0d67fa8cb034aa4fb09598b85a2b6ffa95", func := "loop.example/stilscan/laws.FnExactElemIsCoil", spec := "fnExactElemIsCoil", apart := false, narrowed := true }
def FnExactElemIsCoilUptoSaid : Prop := fnExactElemIsCoilUptoRow.holds Try.pinned (OpenSpec.upto fnExactElemIsCoilSpec)

end Rows
end Go.Proofs.Ytgdaadbccldlnaf
