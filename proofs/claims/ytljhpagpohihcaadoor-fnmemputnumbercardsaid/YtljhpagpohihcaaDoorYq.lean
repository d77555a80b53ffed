/- Quiet steps at whole memories. Helper text: no statement is claimed here. -/
import Derived.Test.YtljhpagpohihcaaDoorJz
import Derived.Lib.QuietBelow
import Derived.BigQuiet
namespace Go.Proofs.YtljhpagpohihcaaDoor
open Go.ChangeShapes Go.WideShapes Go.ChangeAt Go.RowKit

theorem loadMemY {W : World} {b : Nat} {m : Mm} (h : MemAt W b m) : (loadVar 37 ⟨b, 0, none⟩).run Tryd.prog W = .ok m.val W := by
  have := run_loadVar_mid (P := Tryd.prog) W b 0 37 m.cells.toList _ h.range Tryd.underlying37 rfl (by rw [Array.length_toList, cells_size]; kernel_rfl)
  rwa [Array.toArray_toList] at this
/-- A whole memory is read, in every world of the class. -/
theorem wpQuiet_memLoad {ops : Array Oper} {C : World → Prop} {Q : Act → Prop} {rest : List Oper} {o : Oper} {a : Act} {b : Nat} {m : Mm} (hw : Region.wanted o (yielded ops a.tmps) = true) (x : Operand) (ho : o.op = .load 37 x) (hx : a.eval x = .pointer (some ⟨b, 0, none⟩))
    (hC : ∀ w', C w' → MemAt w' b m) (h : wpQuiet Tryd.prog ops C Q rest (a.put o.dst m.val)) : wpQuiet Tryd.prog ops C Q (o :: rest) a := by
  unfold wpQuiet
  rw [if_pos hw]
  refine ⟨m.val, fun w hw' => ?_, h⟩
  unfold Oper.quietAt execOp
  rw [ho]
  simp only [hx, Instr.loadAt, Instr.sureAddr, Sem.run_bind, Sem.run_pure, Result.andThen_ok, loadMemY (hC w hw')]
  exact ⟨rfl, rfl⟩
/-- A memory that lay there lies there in every world of the class. -/
theorem memY {w : World} {b : Nat} {m : Mm} (h : MemAt w b m) : ∀ w', (∃ p : Regrown, w' = Sort.grow (redrawn w p.d) p.os) → MemAt w' b m := by
  rintro w' ⟨p, rfl⟩
  exact h.to (below_regrown w p.d p.os)
/-- A contract that ends in Below, in every world of the class. -/
theorem callY {w : World} {f : FuncId} {args : Array Value} {v : Value} (h : ∀ W, Below w.heap.size w W → Calls Tryd.prog f args W fun e w' => e = .returned v ∧ Below W.heap.size W w') (d : Nat) (os : Array Obj) :
    Calls Tryd.prog f args (Sort.grow (redrawn w d) os) fun e w'' => e = .returned v ∧ ∃ p : Regrown, w'' = Sort.grow (redrawn w p.d) p.os :=
  Calls.regrown_of (h _ (below_regrown w d os))
end Go.Proofs.YtljhpagpohihcaaDoor
