/-
  NARROWER THAN 'FOR EVERY INPUT', by the rows' own cells (each row's printed sentence says how): FnMemPut: laid · FnMemPutNumber: laid · FnMemRound: laid · FnActStep: laid · FnExactMemPut: laid · FnExactMemPutWhole: laid.
  DERIVED. THE GIVEN ROWS OF THIS SEAT. 6 by the template 'for every input the law returns true; each argument reads behind the call as it read before'; 0 by the template 'total and deterministic' (their statements: YtljhpagpohihcaaDoorTotals.lean).
  GIVEN WITH THE SEED: the statements are not yours to turn. If you find one false, say at which input.
  Laid BY PROGRAM, IN A SANDBOX (cutbox-rows.mjs): the forced cells as the released guide's own fill.sh prints them over the translation 8943a320aacc2bfe… (all of the seat's roots in one cut). By AI agents, Wed Nov 11 2026. No macro, syntax, notation, axiom, sorry.
-/
import Derived.Test.YtljhpagpohihcaaDoorChecked
import GoSem.Claim
import GoSem.ClaimJoined
import GoSem.ClaimMapViews
import Derived.JoinedTies
import Derived.KernelRfl
namespace Go.Proofs.YtljhpagpohihcaaDoor
/- THE CELL 'sum', in the pinned program and in every row, IS THE sha256 OF THE DUMP (.gsa) THAT YtljhpagpohihcaaDoorProg.lean LOADS. Nothing in Lean hashes anything: it is a label: what it is worth is what the hold of that sum in a sandbox is worth. -/
noncomputable def Tryd.pinned : Pinned := { name := "ytljhpagpohihcaadoor", sum := "8943a320aacc2bfe4653ba15fb9f242424178a8c60a462dcef2bf5a68436687a", checked := Tryd.checked }
namespace Rows
def none {H : Type} : Left H := { results := [], args := [] }

/- WHAT THE LISTED PACKAGE-LEVEL VARIABLES READ AS WHEN THE CALL BEGINS. Each datum BY PROGRAM (the guide's laid-datum.mjs) off the statement by which the dump's own 'gosem.cut.vars' lays the variable. In a bare row this is a premise. The card (YtljhpagpohihcaaDoorCards.lean) ties it to the program's text. -/
def laid_loop_example_stilscan_impl_devRows {H : Type} : DataW H := .agg [.agg [.lit (.string []), .lit (.int .i64 0), .lit (.bool false), .lit (.bool false), .lit (.bool false)], .agg [.lit (.string [88]), .lit (.int .i64 32), .lit (.bool true), .lit (.bool false), .lit (.bool false)], .agg [.lit (.string [89]), .lit (.int .i64 32), .lit (.bool true), .lit (.bool false), .lit (.bool false)], .agg [.lit (.string [77]), .lit (.int .i64 64), .lit (.bool true), .lit (.bool false), .lit (.bool false)], .agg [.lit (.string [83]), .lit (.int .i64 16), .lit (.bool true), .lit (.bool false), .lit (.bool false)], .agg [.lit (.string [69]), .lit (.int .i64 32), .lit (.bool false), .lit (.bool false), .lit (.bool false)], .agg [.lit (.string [71]), .lit (.int .i64 5), .lit (.bool true), .lit (.bool false), .lit (.bool false)], .agg [.lit (.string [84]), .lit (.int .i64 16), .lit (.bool true), .lit (.bool true), .lit (.bool false)], .agg [.lit (.string [67]), .lit (.int .i64 16), .lit (.bool true), .lit (.bool true), .lit (.bool false)], .agg [.lit (.string [68]), .lit (.int .i64 32), .lit (.bool false), .lit (.bool true), .lit (.bool false)], .agg [.lit (.string [82]), .lit (.int .i64 16), .lit (.bool false), .lit (.bool false), .lit (.bool true)], .agg [.lit (.string []), .lit (.int .i64 0), .lit (.bool false), .lit (.bool true), .lit (.bool false)], .agg [.lit (.string []), .lit (.int .i64 0), .lit (.bool false), .lit (.bool false), .lit (.bool true)], .agg [.lit (.string []), .lit (.int .i64 0), .lit (.bool false), .lit (.bool false), .lit (.bool true)]]

/-- 'laws.FnMemPut': WHATEVER THE INPUT: true; the input reads as it did. -/
def fnMemPutSpec : ChangeSpec := { name := "fnMemPut", vars := ["loop.example/stilscan/impl.devRows"], fn := fun _ => fun
  | [d1, d2, g1] => { results := [.lit (.bool true)], args := [d1, d2], vars := [g1] }
  | _ => none }
def fnMemPutRow : OpenClaim := { program := "ytljhpagpohihcaadoor", sum := "8943a320aacc2bfe4653ba15fb9f242424178a8c60a462dcef2bf5a68436687a", func := "loop.example/stilscan/laws.FnMemPut", spec := "fnMemPut", unfollowed := true, recurses := true, named := ["loop.example/stilscan/impl.devRows"], apart := false, laid := [("loop.example/stilscan/impl.devRows", laid_loop_example_stilscan_impl_devRows)] }
def FnMemPutSaid : Prop := fnMemPutRow.holds Tryd.pinned (OpenSpec.ofChange fnMemPutSpec)

/-- ITS FALSE NEIGHBOUR: 'it returns false'. Refute it at one input. -/
def fnMemPutWrong : ChangeSpec := { name := "fnMemPut", vars := ["loop.example/stilscan/impl.devRows"], fn := fun _ => fun
  | [d1, d2, g1] => { results := [.lit (.bool false)], args := [d1, d2], vars := [g1] }
  | _ => none }
def FnMemPutWrongFalsely : Prop := fnMemPutRow.holds Tryd.pinned (OpenSpec.ofChange fnMemPutWrong)

/-- 'laws.FnMemPutNumber': WHATEVER THE INPUT: true; the input reads as it did. -/
def fnMemPutNumberSpec : ChangeSpec := { name := "fnMemPutNumber", vars := ["loop.example/stilscan/impl.devRows"], fn := fun _ => fun
  | [d1, d2, g1] => { results := [.lit (.bool true)], args := [d1, d2], vars := [g1] }
  | _ => none }
def fnMemPutNumberRow : OpenClaim := { program := "ytljhpagpohihcaadoor", sum := "8943a320aacc2bfe4653ba15fb9f242424178a8c60a462dcef2bf5a68436687a", func := "loop.example/stilscan/laws.FnMemPutNumber", spec := "fnMemPutNumber", inPlace := ["math.Float64frombits", "math.Float64bits"], named := ["loop.example/stilscan/impl.devRows"], apart := false, laid := [("loop.example/stilscan/impl.devRows", laid_loop_example_stilscan_impl_devRows)] }
def FnMemPutNumberSaid : Prop := fnMemPutNumberRow.holds Tryd.pinned (OpenSpec.ofChange fnMemPutNumberSpec)

/-- ITS FALSE NEIGHBOUR: 'it returns false'. Refute it at one input. -/
def fnMemPutNumberWrong : ChangeSpec := { name := "fnMemPutNumber", vars := ["loop.example/stilscan/impl.devRows"], fn := fun _ => fun
  | [d1, d2, g1] => { results := [.lit (.bool false)], args := [d1, d2], vars := [g1] }
  | _ => none }
def FnMemPutNumberWrongFalsely : Prop := fnMemPutNumberRow.holds Tryd.pinned (OpenSpec.ofChange fnMemPutNumberWrong)

/-- 'laws.FnMemRound': WHATEVER THE INPUT: true; the input reads as it did. -/
def fnMemRoundSpec : ChangeSpec := { name := "fnMemRound", vars := ["loop.example/stilscan/impl.devRows"], fn := fun _ => fun
  | [d, g1] => { results := [.lit (.bool true)], args := [d], vars := [g1] }
  | _ => none }
def fnMemRoundRow : OpenClaim := { program := "ytljhpagpohihcaadoor", sum := "8943a320aacc2bfe4653ba15fb9f242424178a8c60a462dcef2bf5a68436687a", func := "loop.example/stilscan/laws.FnMemRound", spec := "fnMemRound", inPlace := ["math.Float64frombits", "math.Float64bits"], named := ["loop.example/stilscan/impl.devRows"], apart := false, laid := [("loop.example/stilscan/impl.devRows", laid_loop_example_stilscan_impl_devRows)] }
def FnMemRoundSaid : Prop := fnMemRoundRow.holds Tryd.pinned (OpenSpec.ofChange fnMemRoundSpec)

/-- ITS FALSE NEIGHBOUR: 'it returns false'. Refute it at one input. -/
def fnMemRoundWrong : ChangeSpec := { name := "fnMemRound", vars := ["loop.example/stilscan/impl.devRows"], fn := fun _ => fun
  | [d, g1] => { results := [.lit (.bool false)], args := [d], vars := [g1] }
  | _ => none }
def FnMemRoundWrongFalsely : Prop := fnMemRoundRow.holds Tryd.pinned (OpenSpec.ofChange fnMemRoundWrong)

/-- 'laws.FnActStep': WHATEVER THE INPUT: true; the input reads as it did. -/
def fnActStepSpec : ChangeSpec := { name := "fnActStep", vars := ["loop.example/stilscan/impl.devRows"], fn := fun _ => fun
  | [d, g1] => { results := [.lit (.bool true)], args := [d], vars := [g1] }
  | _ => none }
def fnActStepRow : OpenClaim := { program := "ytljhpagpohihcaadoor", sum := "8943a320aacc2bfe4653ba15fb9f242424178a8c60a462dcef2bf5a68436687a", func := "loop.example/stilscan/laws.FnActStep", spec := "fnActStep", unfollowed := true, recurses := true, named := ["loop.example/stilscan/impl.devRows"], apart := false, laid := [("loop.example/stilscan/impl.devRows", laid_loop_example_stilscan_impl_devRows)] }
def FnActStepSaid : Prop := fnActStepRow.holds Tryd.pinned (OpenSpec.ofChange fnActStepSpec)

/-- ITS FALSE NEIGHBOUR: 'it returns false'. Refute it at one input. -/
def fnActStepWrong : ChangeSpec := { name := "fnActStep", vars := ["loop.example/stilscan/impl.devRows"], fn := fun _ => fun
  | [d, g1] => { results := [.lit (.bool false)], args := [d], vars := [g1] }
  | _ => none }
def FnActStepWrongFalsely : Prop := fnActStepRow.holds Tryd.pinned (OpenSpec.ofChange fnActStepWrong)

/-- 'laws.FnExactMemPut': WHATEVER THE INPUT: true; the input reads as it did. -/
def fnExactMemPutSpec : ChangeSpec := { name := "fnExactMemPut", vars := ["loop.example/stilscan/impl.devRows"], fn := fun _ => fun
  | [d1, d2, d3, g1] => { results := [.lit (.bool true)], args := [d1, d2, d3], vars := [g1] }
  | _ => none }
def fnExactMemPutRow : OpenClaim := { program := "ytljhpagpohihcaadoor", sum := "8943a320aacc2bfe4653ba15fb9f242424178a8c60a462dcef2bf5a68436687a", func := "loop.example/stilscan/laws.FnExactMemPut", spec := "fnExactMemPut", unfollowed := true, recurses := true, named := ["loop.example/stilscan/impl.devRows"], apart := false, laid := [("loop.example/stilscan/impl.devRows", laid_loop_example_stilscan_impl_devRows)] }
def FnExactMemPutSaid : Prop := fnExactMemPutRow.holds Tryd.pinned (OpenSpec.ofChange fnExactMemPutSpec)

/-- ITS FALSE NEIGHBOUR: 'it returns false'. Refute it at one input. -/
def fnExactMemPutWrong : ChangeSpec := { name := "fnExactMemPut", vars := ["loop.example/stilscan/impl.devRows"], fn := fun _ => fun
  | [d1, d2, d3, g1] => { results := [.lit (.bool false)], args := [d1, d2, d3], vars := [g1] }
  | _ => none }
def FnExactMemPutWrongFalsely : Prop := fnExactMemPutRow.holds Tryd.pinned (OpenSpec.ofChange fnExactMemPutWrong)

/-- 'laws.FnExactMemPutWhole': WHATEVER THE INPUT: true; the input reads as it did. -/
def fnExactMemPutWholeSpec : ChangeSpec := { name := "fnExactMemPutWhole", vars := ["loop.example/stilscan/impl.devRows"], fn := fun _ => fun
  | [d1, d2, d3, g1] => { results := [.lit (.bool true)], args := [d1, d2, d3], vars := [g1] }
  | _ => none }
def fnExactMemPutWholeRow : OpenClaim := { program := "ytljhpagpohihcaadoor", sum := "8943a320aacc2bfe4653ba15fb9f242424178a8c60a462dcef2bf5a68436687a", func := "loop.example/stilscan/laws.FnExactMemPutWhole", spec := "fnExactMemPutWhole", named := ["loop.example/stilscan/impl.devRows"], apart := false, laid := [("loop.example/stilscan/impl.devRows", laid_loop_example_stilscan_impl_devRows)] }
def FnExactMemPutWholeSaid : Prop := fnExactMemPutWholeRow.holds Tryd.pinned (OpenSpec.ofChange fnExactMemPutWholeSpec)

/-- ITS FALSE NEIGHBOUR: 'it returns false'. Refute it at one input. -/
def fnExactMemPutWholeWrong : ChangeSpec := { name := "fnExactMemPutWhole", vars := ["loop.example/stilscan/impl.devRows"], fn := fun _ => fun
  | [d1, d2, d3, g1] => { results := [.lit (.bool false)], args := [d1, d2, d3], vars := [g1] }
  | _ => none }
def FnExactMemPutWholeWrongFalsely : Prop := fnExactMemPutWholeRow.holds Tryd.pinned (OpenSpec.ofChange fnExactMemPutWholeWrong)

/- THE SECOND FORM. 'bulk': how many values and letters a reading holds, each counted each time it is reached (what is shared counts as often as it is met; a slice's spare places count too). A statement '..UptoSaid' is the law's where the arguments, and the package variables that the reading takes, are together of bulk at most 1048576: NARROWER than '..Said'. Prove '..Said' where nothing that the law and all that it calls make is longer than what came in: it says more and counts as full. Else prove '..UptoSaid'. A law counts once. -/
mutual
def uptoBulk {H : Type} : DataW H → Nat
  | .lit (.string bytes) => bytes.length + 1
  | .lit _ => 1
  | .nil => 1
  | .ptr d => uptoBulk d + 1
  | .slice elems spare => uptoBulkAll elems + uptoBulkAll spare + 1
  | .agg parts => uptoBulkAll parts + 1
  | .iface _ d => uptoBulk d + 1
  | .map entries => uptoBulkEntries entries + 1
  | .held _ => 1
def uptoBulkAll {H : Type} : List (DataW H) → Nat
  | [] => 0
  | d :: r => uptoBulk d + uptoBulkAll r
def uptoBulkEntries {H : Type} : List (Lit × DataW H) → Nat
  | [] => 0
  | x :: r => uptoBulkEntry x + uptoBulkEntries r
def uptoBulkEntry {H : Type} : Lit × DataW H → Nat
  | (.string bytes, d) => bytes.length + uptoBulk d + 1
  | (_, d) => uptoBulk d + 1
 end
def uptoSmall : (H : Type) → List (DataW H) → Bool := fun _ ds => decide (uptoBulkAll ds ≤ 1048576)
def OpenSpec.upto (s : _root_.Go.ChangeSpec) : _root_.Go.OpenSpec := { _root_.Go.OpenSpec.ofChange s with cond := some uptoSmall }

/-- 'laws.FnMemPut', WHERE WHAT IT READS IS OF BULK AT MOST 1048576: true; the input reads as it did. -/
def fnMemPutUptoRow : OpenClaim := { program := "ytljhpagpohihcaadoor", sum := "8943a320aacc2bfe4653ba15fb9f242424178a8c60a462dcef2bf5a68436687a", func := "loop.example/stilscan/laws.FnMemPut", spec := "fnMemPut", unfollowed := true, recurses := true, named := ["loop.example/stilscan/impl.devRows"], apart := false, laid := [("loop.example/stilscan/impl.devRows", laid_loop_example_stilscan_impl_devRows)], narrowed := true }
def FnMemPutUptoSaid : Prop := fnMemPutUptoRow.holds Tryd.pinned (OpenSpec.upto fnMemPutSpec)

/-- 'laws.FnMemPutNumber', WHERE WHAT IT READS IS OF BULK AT MOST 1048576: true; the input reads as it did. -/
def fnMemPutNumberUptoRow : OpenClaim := { program := "ytljhpagpohihcaadoor", sum := "8943a320aacc2bfe4653ba15fb9f242424178a8c60a462dcef2bf5a68436687a", func := "loop.example/stilscan/laws.FnMemPutNumber", spec := "fnMemPutNumber", inPlace := ["math.Float64frombits", "math.Float64bits"], named := ["loop.example/stilscan/impl.devRows"], apart := false, laid := [("loop.example/stilscan/impl.devRows", laid_loop_example_stilscan_impl_devRows)], narrowed := true }
def FnMemPutNumberUptoSaid : Prop := fnMemPutNumberUptoRow.holds Tryd.pinned (OpenSpec.upto fnMemPutNumberSpec)

/-- 'laws.FnMemRound', WHERE WHAT IT READS IS OF BULK AT MOST 1048576: true; the input reads as it did. -/
def fnMemRoundUptoRow : OpenClaim := { program := "ytljhpagpohihcaadoor", sum := "8943a320aacc2bfe4653ba15fb9f242424178a8c60a462dcef2bf5a68436687a", func := "loop.example/stilscan/laws.FnMemRound", spec := "fnMemRound", inPlace := ["math.Float64frombits", "math.Float64bits"], named := ["loop.example/stilscan/impl.devRows"], apart := false, laid := [("loop.example/stilscan/impl.devRows", laid_loop_example_stilscan_impl_devRows)], narrowed := true }
def FnMemRoundUptoSaid : Prop := fnMemRoundUptoRow.holds Tryd.pinned (OpenSpec.upto fnMemRoundSpec)

/-- 'laws.FnActStep', WHERE WHAT IT READS IS OF BULK AT MOST 1048576: true; the input reads as it did. -/
def fnActStepUptoRow : OpenClaim := { program := "ytljhpagpohihcaadoor", sum := "8943a320aacc2bfe4653ba15fb9f242424178a8c60a462dcef2bf5a68436687a", func := "loop.example/stilscan/laws.FnActStep", spec := "fnActStep", unfollowed := true, recurses := true, named := ["loop.example/stilscan/impl.devRows"], apart := false, laid := [("loop.example/stilscan/impl.devRows", laid_loop_example_stilscan_impl_devRows)], narrowed := true }
def FnActStepUptoSaid : Prop := fnActStepUptoRow.holds Tryd.pinned (OpenSpec.upto fnActStepSpec)

/-- 'laws.FnExactMemPut', WHERE WHAT IT READS IS OF BULK AT MOST 1048576: true; the input reads as it did. -/
def fnExactMemPutUptoRow : OpenClaim := { program := "ytljhpagpohihcaadoor", sum := "8943a320aacc2bfe4653ba15fb9f242424178a8c60a462dcef2bf5a68436687a", func := "loop.example/stilscan/laws.FnExactMemPut", spec := "fnExactMemPut", unfollowed := true, recurses := true, named := ["loop.example/stilscan/impl.devRows"], apart := false, laid := [("loop.example/stilscan/impl.devRows", laid_loop_example_stilscan_impl_devRows)], narrowed := true }
def FnExactMemPutUptoSaid : Prop := fnExactMemPutUptoRow.holds Tryd.pinned (OpenSpec.upto fnExactMemPutSpec)

/-- 'laws.FnExactMemPutWhole', WHERE WHAT IT READS IS OF BULK AT MOST 1048576: true; the input reads as it did. -/
def fnExactMemPutWholeUptoRow : OpenClaim := { program := "ytljhpagpohihcaadoor", sum := "8943a320aacc2bfe4653ba15fb9f242424178a8c60a462dcef2bf5a68436687a", func := "loop.example/stilscan/laws.FnExactMemPutWhole", spec := "fnExactMemPutWhole", named := ["loop.example/stilscan/impl.devRows"], apart := false, laid := [("loop.example/stilscan/impl.devRows", laid_loop_example_stilscan_impl_devRows)], narrowed := true }
def FnExactMemPutWholeUptoSaid : Prop := fnExactMemPutWholeUptoRow.holds Tryd.pinned (OpenSpec.upto fnExactMemPutWholeSpec)

end Rows
end Go.Proofs.YtljhpagpohihcaaDoor
