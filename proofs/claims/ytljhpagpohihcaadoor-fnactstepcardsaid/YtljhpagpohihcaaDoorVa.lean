/- The operands of a contact or coil, three at most: actArgsOf. Helper text: no statement is claimed here. -/
import Derived.Test.YtljhpagpohihcaaDoorJz
namespace Go.Proofs.YtljhpagpohihcaaDoor
open Go.ChangeShapes Go.WideShapes Go.ChangeAt Go.RowKit

/-- Some operands are copied into a row of the call's own. -/
theorem wpList_copy3 {ops : Array Oper} {rest : List Oper} {o : Oper} {a : Act} {w : World} {Q : Exit → Act → World → Prop} (hgd : o.guard = none) (d s : Operand) (dT sT : TypeId)
    (ho : o.op = .call { callee := .builtin .copy, args := #[d, s], argTypes := #[dT, sT] }) (elem : TypeId) (hu : Tryd.prog.underlying dT = some (.slice elem)) (hsz : (Tryd.prog.info? elem).map (·.size) = some 3)
    (g dLen dCap sLen sCap : Nat) (p : Option Addr) (hd : a.eval d = .slice (some ⟨g, 0, none⟩) dLen dCap) (hs : a.eval s = .slice p sLen sCap) {t : TypeId} {n : Nat} {f : Nat → Value} (hR : RowAt w g t n f)
    (c f' : Nat → Value) (k : Nat) (hk : Nat.min sLen dLen * 3 = k) (hfit : k ≤ n) (hsrc : k = 0 ∨ ∃ ad, p = some ad ∧ ∀ i, i < k → w.cell? (ad.add i) = some (c i)) (h1 : ∀ i, i < k → (c i).oneCell' = true) (e : ∀ i, i < n → f' i = if i < k then c i else f i)
    (h : ∀ w2, RowAt w2 g t n f' → w2.heap.size = w.heap.size → (∀ j, j ≠ g → w2.heap[j]? = w.heap[j]?) → (∀ B a, Below B a w → B ≤ g → Below B a w2) → wpList Tryd.prog ops Q rest (a.put o.dst (goInt (Nat.min sLen dLen))) w2) : wpList Tryd.prog ops Q (o :: rest) a w := by
  obtain ⟨w2, hst, hR2, hz2, hk2, hb2⟩ := hR.store 0 k c f' (by omega) h1 (fun i hi => by rw [e i hi]; simp)
  have hrun : (Builtin.copy_ #[dT, sT] o.type #[.slice (some ⟨g, 0, none⟩) dLen dCap, .slice p sLen sCap]).run Tryd.prog w = .ok (goInt (Nat.min sLen dLen)) w2 := by
    have hl : ∀ m, m = 3 → (Builtin.firstCells m (Nat.min sLen dLen) (.slice p sLen sCap)).run Tryd.prog w = .ok (cellsOf k c) w := by
      rintro m rfl
      rcases hsrc with h0 | ⟨ad, rfl, hc⟩
      · have e0 : cellsOf k c = #[] := by rw [h0]; rfl
        rw [e0]
        cases p with
        | none => rfl
        | some ad => simp only [Builtin.firstCells]; rw [hk, h0]; rfl
      · have := run_loadCells_list (P := Tryd.prog) w ad (cellsOf k c).toList (fun j v hv => by
          have hj : j < k := by
            have := (List.getElem?_eq_some_iff.1 hv).1
            simpa [cellsOf_size] using this
          rw [hc j hj]
          rw [Array.getElem?_toList, cellsOf_at _ hj] at hv
          exact hv)
        simp only [Builtin.firstCells]
        rw [hk]
        simpa [cellsOf_size] using this
    cases hq : Tryd.prog.info? elem with
    | none => simp [hq] at hsz
    | some i =>
      have hi : i.size = 3 := by simpa [hq] using hsz
      simp [Builtin.copy_, run_underlying hu, Builtin.lenOf, sizeOf, typeInfo, hq, hl i.size hi, hst]
  refine wpList_plain hgd fun K hK => ?_
  unfold Oper.wp
  simp [execOp, ho, resolve, invoke, builtin, hd, hs, hrun, Result.andThen]
  exact hK _ _ (h w2 hR2 hz2 hk2 hb2)

/-- What the nine cells of the operands hold. -/
def acell (n : Nat) (c : Nat → Int) (i : Nat) : Value := .int .i64 (if i < n * 3 then c i else 0)
/-- The operands as a value. -/
def argsV (n : Nat) (c : Nat → Int) : Value := .agg (cellsOf 9 (acell n c))
/-- Operands that lie in memory. -/
def ListAt (w : World) (p : Option Addr) (n : Nat) (c : Nat → Int) : Prop := n = 0 ∨ ∃ ad, p = some ad ∧ ad.block < w.heap.size ∧ ∀ i, i < n * 3 → w.cell? (ad.add i) = some (.int .i64 (c i))

set_option maxHeartbeats 1000000 in
set_option maxRecDepth 100000 in
theorem argsOf_any (p : Option Addr) (n cap : Nat) (c : Nat → Int) (w : World) (h : ListAt w p n c) :
    Calls Tryd.prog 73 #[.slice p n cap] w fun e w' => e = .returned (argsV n c) ∧ Below w.heap.size w w' := by
  have HL : Hid (ListAt w p n c) := h
  clear h
  go_enter Tryd.func73, Tryd.ntmps73
  have HZ : Hid (RowAt ((w.alloc (.cells (cellsOf 9 fun _ => .int .i64 0) 116)).alloc (.cells (cellsOf 9 fun _ => .int .i64 0) 144)) (w.heap.size + 1) 144 9 fun _ => .int .i64 0) := by
    have := RowAt.new (w.alloc (.cells (cellsOf 9 fun _ => .int .i64 0) 116)) 144 9 (fun _ => .int .i64 0)
    rw [show (w.alloc (.cells (cellsOf 9 fun _ => .int .i64 0) 116)).heap.size = w.heap.size + 1 by simp] at this
    exact this
  have HY : Hid (RowAt ((w.alloc (.cells (cellsOf 9 fun _ => .int .i64 0) 116)).alloc (.cells (cellsOf 9 fun _ => .int .i64 0) 144)) w.heap.size 116 9 fun _ => .int .i64 0) := (RowAt.new w 116 9 _).alloc _
  have hmin : ∀ i, i < 9 → (acell n c i) = if i < Nat.min n 3 * 3 then .int .i64 (c i) else .int .i64 0 := fun i hi => by
    unfold acell
    by_cases hn : i < n * 3
    · rw [if_pos hn, if_pos (by simp [Nat.min_def]; split <;> omega)]
    · rw [if_neg hn, if_neg (by simp [Nat.min_def]; split <;> omega)]
  have HMin : Hid (∀ i, i < 9 → (acell n c i) = if i < Nat.min n 3 * 3 then .int .i64 (c i) else .int .i64 0) := hmin
  have HSrc : Hid (Nat.min n 3 * 3 = 0 ∨ ∃ ad, p = some ad ∧ ∀ i, i < Nat.min n 3 * 3 → ((w.alloc (.cells (cellsOf 9 fun _ => .int .i64 0) 116)).alloc (.cells (cellsOf 9 fun _ => .int .i64 0) 144)).cell? (ad.add i) = some (.int .i64 (c i))) := by
    rcases HL.out with h0 | ⟨ad, hp, hlt, hc⟩
    · exact .inl (by rw [h0]; rfl)
    · refine .inr ⟨ad, hp, fun i hi => ?_⟩
      have hi' : i < n * 3 := by simp [Nat.min_def] at hi; split at hi <;> omega
      have hb : Below w.heap.size w ((w.alloc (.cells (cellsOf 9 fun _ => .int .i64 0) 116)).alloc (.cells (cellsOf 9 fun _ => .int .i64 0) 144)) := ((Below.refl _ _).alloc (Nat.le_refl _) _).alloc (by simp) _
      rw [hb.cell (p := ad.add i) (by rw [show (ad.add i).block = ad.block by unfold Addr.add; split <;> rfl]; exact hlt)]
      exact hc i hi'
  have HB0 : Hid (Below w.heap.size w ((w.alloc (.cells (cellsOf 9 fun _ => .int .i64 0) 116)).alloc (.cells (cellsOf 9 fun _ => .int .i64 0) 144))) := ((Below.refl _ _).alloc (Nat.le_refl _) _).alloc (by simp) _
  clear HL hmin
  have hz1 : ∀ w, (zeroValue 116).run Tryd.prog w = .ok (.agg (cellsOf 9 fun _ => .int .i64 0)) w := fun _ => by kernel_rfl
  have hz2 : ∀ w, (zeroValue 144).run Tryd.prog w = .ok (.agg (cellsOf 9 fun _ => .int .i64 0)) w := fun _ => by kernel_rfl
  go_wp2_with (first | (refine wpList_rowStore rfl 116 (.tmp 2) (.tmp 13) rfl w.heap.size 0 9 (acell n c) (acell n c) rfl (by kernel_rfl) HY2.out (by omega) (fun i _ => rfl) (fun i hi => by rw [if_pos ⟨by omega, by omega⟩, Nat.sub_zero]) (by kernel_rfl) ?_; intro w3 hR3 hs3 hk3 hb3) | (refine wpList_copy3 rfl (.tmp 4) (.tmp 5) _ _ rfl 39 Tryd.underlying62 (by kernel_rfl) (w.heap.size + 1) 3 3 n cap p rfl rfl HZ.out (fun i => .int .i64 (c i)) (acell n c) _ rfl (by simp [Nat.min_def]; split <;> omega) HSrc.out (fun _ _ => rfl) HMin.out ?_; intro w2 hR2 hs2 hk2 hb2; have HY2 : Hid (RowAt w2 w.heap.size 116 9 fun _ => .int .i64 0) := RowAt.by HY.out (hk2 w.heap.size (by omega)); have HB2 : Hid (Below w.heap.size w w2) := hb2 _ _ HB0.out (by omega); have c0 := hR2.cell (show 0 < 9 by omega); have c1 := hR2.cell (show 1 < 9 by omega); have c2 := hR2.cell (show 2 < 9 by omega); have c3 := hR2.cell (show 3 < 9 by omega); have c4 := hR2.cell (show 4 < 9 by omega); have c5 := hR2.cell (show 5 < 9 by omega); have c6 := hR2.cell (show 6 < 9 by omega); have c7 := hR2.cell (show 7 < 9 by omega); have c8 := hR2.cell (show 8 < 9 by omega); clear hR2 hs2 hk2 hb2))
  exact bodyPost_ret (v := argsV n c) (resRow Tryd.results73 rfl hR3 Tryd.underlying116 rfl (by kernel_rfl)) rfl ⟨rfl, hb3 _ _ HB2.out (Nat.le_refl _)⟩
end Go.Proofs.YtljhpagpohihcaaDoor
