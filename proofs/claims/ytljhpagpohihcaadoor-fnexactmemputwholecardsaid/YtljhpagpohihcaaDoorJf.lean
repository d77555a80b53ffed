/- The exact laws' own regions, which draw their order: a memory and an operand are copied, a call answers with a memory, which is kept in a new variable. Helper text: no statement is claimed here. -/
import Derived.Test.YtljhpagpohihcaaDoorJz
namespace Go.Proofs.YtljhpagpohihcaaDoor
open Go.ChangeShapes Go.WideShapes Go.ChangeAt Go.RowKit


set_option maxHeartbeats 1000000 in
set_option maxRecDepth 100000 in
theorem put_region1 {id : Nat} {pos : String} {TM TA TV : TypeId} {f1 f2 f3 : FuncId} {Q : Exit → Act → World → Prop} {w : World} {t0 t1 t5 t6 t7 t8 t9 t10 t11 t12 t13 t14 t15 t16 t17 t18 t19 t20 t21 t22 t23 t24 v : Value} {b1 b2 : Nat} {k n p : Int} {m m' : Mm}
    (hf1 : ∀ (xs : Array Value) (w : World), (callFunc f1 xs).run Tryd.prog w = .ok (.enter f1 xs) w) (hf2 : ∀ (xs : Array Value) (w : World), (callFunc f2 xs).run Tryd.prog w = .ok (.enter f2 xs) w) (hf3 : ∀ (xs : Array Value) (w : World), (callFunc f3 xs).run Tryd.prog w = .ok (.enter f3 xs) w)
    (hz : ∀ w, (zeroValue 37).run Tryd.prog w = .ok (.agg zeroM.cells) w)
    (hI : RowAt w b1 70 136 m.cell) (hA : w.rangeAt b2 0 [.int .i64 k, .int .i64 n, .int .i64 p]) (hb2 : b2 < w.heap.size)
    (h1 : ∀ W, Calls Tryd.prog f1 #[m.val] W fun e w' => e = .returned m.val ∧ Below W.heap.size W w')
    (h2 : ∀ W, Calls Tryd.prog f2 #[.agg #[.int .i64 k, .int .i64 n, .int .i64 p]] W fun e w' => e = .returned (.agg #[.int .i64 k, .int .i64 n, .int .i64 p]) ∧ Below W.heap.size W w')
    (h3 : ∀ W, Below w.heap.size w W → Calls Tryd.prog f3 #[m.val, .agg #[.int .i64 k, .int .i64 n, .int .i64 p], v] W fun e w' => e = .returned m'.val ∧ Below W.heap.size W w')
    (hQ : ∀ b w', Below w.heap.size w w' → w.heap.size ≤ b → MemAt w' b m' → Q .normal { tmps := #[t0, t1, v, .pointer (some ⟨b1, 0, none⟩), .pointer (some ⟨b2, 0, none⟩), t5, t6, .pointer (some ⟨b, 0, none⟩), t8, m.val, m.val, .agg #[.int .i64 k, .int .i64 n, .int .i64 p], .agg #[.int .i64 k, .int .i64 n, .int .i64 p], v, m'.val, t15, t16, t17, t18, t19, t20, t21, t22, t23, t24], defers := [] } w') :
    (Code.region id #[{ dst := some 9, op := .load 70 (.tmp 3), type := 70, pos := pos, after := #[], guard := none },
      { dst := some 10, op := .call { callee := .value (.func f1), args := #[.tmp 9], argTypes := #[70] }, type := TM, pos := pos, after := #[{ on := 0, ground := .data }], guard := none },
      { dst := some 11, op := .load 71 (.tmp 4), type := 71, pos := pos, after := #[], guard := none },
      { dst := some 12, op := .call { callee := .value (.func f2), args := #[.tmp 11], argTypes := #[71] }, type := TA, pos := pos, after := #[{ on := 2, ground := .data }, { on := 1, ground := .chain }], guard := none },
      { dst := some 13, op := .move (.tmp 2), type := TV, pos := pos, after := #[], guard := none },
      { dst := some 14, op := .call { callee := .value (.func f3), args := #[.tmp 10, .tmp 12, .tmp 13], argTypes := #[TM, TA, TV] }, type := TM, pos := pos, after := #[{ on := 1, ground := .data }, { on := 3, ground := .data }, { on := 4, ground := .data }, { on := 3, ground := .chain }], guard := none },
      { dst := some 7, op := .alloc 37, type := 0, pos := pos, after := #[], guard := none },
      { dst := none, op := .store 37 (.tmp 7) (.tmp 14), type := 0, pos := pos, after := #[{ on := 6, ground := .data }, { on := 5, ground := .data }, { on := 5, ground := .chain }, { on := 0, ground := .phase }, { on := 1, ground := .phase }, { on := 2, ground := .phase }, { on := 3, ground := .phase }, { on := 4, ground := .phase }, { on := 5, ground := .phase }, { on := 6, ground := .phase }], guard := none }] true).wp Tryd.prog Q { tmps := #[t0, t1, v, .pointer (some ⟨b1, 0, none⟩), .pointer (some ⟨b2, 0, none⟩), t5, t6, t7, t8, t9, t10, t11, t12, t13, t14, t15, t16, t17, t18, t19, t20, t21, t22, t23, t24], defers := [] } w := by
  have hAW : ∀ W, Below w.heap.size w W → W.rangeAt b2 0 [.int .i64 k, .int .i64 n, .int .i64 p] := fun W hb j u hu => by
    rw [hb.cell (p := ⟨b2, 0 + j, none⟩) hb2]; exact hA j u hu
  refine wp_region_noPanic ?_
  refine wp_region_held_drew (S := fun W => Below w.heap.size w W) (by kernel_rfl) (Below.refl _ _).drew (fun hHeld => ?_)
  refine wpAnyH_take (i := 0) (oi := { dst := some 9, op := .load 70 (.tmp 3), type := 70, pos := pos, after := #[], guard := none }) (v := m.val) rfl (by kernel_rfl) (by kernel_rfl) (by kernel_rfl) (fun _ _ _ h => h) (yields_row (by rfl) (.tmp 3) rfl rfl (fun W hb => RowAt.to hI hb) Tryd.underlying70 rfl (by kernel_rfl)) hHeld ?_
  simp only [Act.put, List.setIfInBounds_toArray, List.set_cons_zero, List.set_cons_succ]
  refine wpAnyH_take (i := 2) (oi := { dst := some 11, op := .load 71 (.tmp 4), type := 71, pos := pos, after := #[], guard := none }) (v := .agg #[.int .i64 k, .int .i64 n, .int .i64 p]) rfl (by kernel_rfl) (by kernel_rfl) (by kernel_rfl) (fun _ _ _ h => h) (yieldsIf_load_mid (by rfl) _ _ rfl b2 0 rfl [.int .i64 k, .int .i64 n, .int .i64 p] _ hAW Tryd.underlying71 rfl (by kernel_rfl)) hHeld ?_
  simp only [Act.put, List.setIfInBounds_toArray, List.set_cons_zero, List.set_cons_succ]
  refine wpAnyH_take (i := 4) (oi := { dst := some 13, op := .move (.tmp 2), type := TV, pos := pos, after := #[], guard := none }) (v := v) rfl (by kernel_rfl) (by kernel_rfl) (by kernel_rfl) (fun _ _ _ h => h) (.inl ⟨by rfl, fun _ _ => rfl⟩) hHeld ?_
  simp only [Act.put, List.setIfInBounds_toArray, List.set_cons_zero, List.set_cons_succ]
  refine wpAnyH_ready (rs := [1, 6]) (by kernel_rfl) (by simp) ?_
  refine AllReadyH.cons (o := { dst := some 10, op := .call { callee := .value (.func f1), args := #[.tmp 9], argTypes := #[70] }, type := TM, pos := pos, after := #[{ on := 0, ground := .data }], guard := none }) rfl (fun K hK => ?_) (AllReadyH.cons (o := { dst := some 7, op := .alloc 37, type := 0, pos := pos, after := #[], guard := none }) rfl (fun K hK => ?_) AllReadyH.nil)
  · rw [if_pos (by rfl)]
    refine wp_callGo (args := #[m.val]) hf1 rfl (by simp [Act.eval]) (h1 _) ?_
    intro w1 hb1
    have hl1 : Below w.heap.size w w1 := Below.trans hHeld (Below.mono hb1 (Below.size hHeld))
    refine hK.out _ _ hl1 (fun _ => ?_)
    simp only [Act.put, List.setIfInBounds_toArray, List.set_cons_zero, List.set_cons_succ]
    refine wpAnyH_ready (rs := [3, 6]) (by kernel_rfl) (by simp) ?_
    refine AllReadyH.cons (o := { dst := some 12, op := .call { callee := .value (.func f2), args := #[.tmp 11], argTypes := #[71] }, type := TA, pos := pos, after := #[{ on := 2, ground := .data }, { on := 1, ground := .chain }], guard := none }) rfl (fun K hK => ?_) (AllReadyH.cons (o := { dst := some 7, op := .alloc 37, type := 0, pos := pos, after := #[], guard := none }) rfl (fun K hK => ?_) AllReadyH.nil)
    · rw [if_pos (by rfl)]
      refine wp_callGo (args := #[.agg #[.int .i64 k, .int .i64 n, .int .i64 p]]) hf2 rfl (by simp [Act.eval]) (h2 _) ?_
      intro w2 hb2
      have hl2 : Below w.heap.size w w2 := Below.trans hl1 (Below.mono hb2 (Below.size hl1))
      refine hK.out _ _ hl2 (fun _ => ?_)
      simp only [Act.put, List.setIfInBounds_toArray, List.set_cons_zero, List.set_cons_succ]
      refine wpAnyH_ready (rs := [5, 6]) (by kernel_rfl) (by simp) ?_
      refine AllReadyH.cons (o := { dst := some 14, op := .call { callee := .value (.func f3), args := #[.tmp 10, .tmp 12, .tmp 13], argTypes := #[TM, TA, TV] }, type := TM, pos := pos, after := #[{ on := 1, ground := .data }, { on := 3, ground := .data }, { on := 4, ground := .data }, { on := 3, ground := .chain }], guard := none }) rfl (fun K hK => ?_) (AllReadyH.cons (o := { dst := some 7, op := .alloc 37, type := 0, pos := pos, after := #[], guard := none }) rfl (fun K hK => ?_) AllReadyH.nil)
      · rw [if_pos (by rfl)]
        refine wp_callGo (args := #[m.val, .agg #[.int .i64 k, .int .i64 n, .int .i64 p], v]) hf3 rfl (by simp [Act.eval]) (h3 _ hl2) ?_
        intro w3 hb3
        have hl3 : Below w.heap.size w w3 := Below.trans hl2 (Below.mono hb3 (Below.size hl2))
        refine hK.out _ _ hl3 (fun _ => ?_)
        simp only [Act.put, List.setIfInBounds_toArray, List.set_cons_zero, List.set_cons_succ]
        refine wpAnyH_ready (rs := [6]) (by kernel_rfl) (by simp) ?_
        refine AllReadyH.cons (o := { dst := some 7, op := .alloc 37, type := 0, pos := pos, after := #[], guard := none }) rfl (fun K hK => ?_) AllReadyH.nil
        rw [if_pos (by rfl)]
        refine wp_allocMem rfl hz ?_
        have hm4 : MemAt (World.alloc w3 (.cells zeroM.cells 37)) (World.heap w3).size zeroM := RowAt.new _ _ 136 zeroM.cell
        have hge : w.heap.size ≤ (World.heap w3).size := Below.size hl3
        have hl4 : Below w.heap.size w (World.alloc w3 (.cells zeroM.cells 37)) := Below.alloc hl3 (Below.size hl3) _
        refine hK.out _ _ hl4 (fun _ => ?_)
        simp only [Act.put, List.setIfInBounds_toArray, List.set_cons_zero, List.set_cons_succ]
        refine wpAnyH_ready (rs := [7]) (by kernel_rfl) (by simp) (AllReadyH.cons (o := { dst := none, op := .store 37 (.tmp 7) (.tmp 14), type := 0, pos := pos, after := #[{ on := 6, ground := .data }, { on := 5, ground := .data }, { on := 5, ground := .chain }, { on := 0, ground := .phase }, { on := 1, ground := .phase }, { on := 2, ground := .phase }, { on := 3, ground := .phase }, { on := 4, ground := .phase }, { on := 5, ground := .phase }, { on := 6, ground := .phase }], guard := none }) rfl (fun K hK => ?_) AllReadyH.nil)
        rw [if_pos (by rfl)]
        with_reducible refine wp_storeMem (m := m') (b := (World.heap w3).size) (.tmp 7) (.tmp 14) ?_ ?_ ?_ hm4 ?_
        · rfl
        · simp [Act.eval]
        · simp [Act.eval]
        intro wz HMz hbz
        refine hK.out _ _ (hbz _ _ hl4 hge) (fun hHeld => ?_)
        have hd := hQ _ _ hHeld hge HMz
        refine wpAnyH_done ?_ ?_ _
        · kernel_rfl
        · exact NoPanic.normal hd
      · rw [if_pos (by rfl)]
        refine wp_allocMem rfl hz ?_
        have hm5 : MemAt (World.alloc w2 (.cells zeroM.cells 37)) (World.heap w2).size zeroM := RowAt.new _ _ 136 zeroM.cell
        have hge : w.heap.size ≤ (World.heap w2).size := Below.size hl2
        have hl5 : Below w.heap.size w (World.alloc w2 (.cells zeroM.cells 37)) := Below.alloc hl2 (Below.size hl2) _
        refine hK.out _ _ hl5 (fun _ => ?_)
        simp only [Act.put, List.setIfInBounds_toArray, List.set_cons_zero, List.set_cons_succ]
        refine wpAnyH_ready (rs := [5]) (by kernel_rfl) (by simp) ?_
        refine AllReadyH.cons (o := { dst := some 14, op := .call { callee := .value (.func f3), args := #[.tmp 10, .tmp 12, .tmp 13], argTypes := #[TM, TA, TV] }, type := TM, pos := pos, after := #[{ on := 1, ground := .data }, { on := 3, ground := .data }, { on := 4, ground := .data }, { on := 3, ground := .chain }], guard := none }) rfl (fun K hK => ?_) AllReadyH.nil
        rw [if_pos (by rfl)]
        refine wp_callGo (args := #[m.val, .agg #[.int .i64 k, .int .i64 n, .int .i64 p], v]) hf3 rfl (by simp [Act.eval]) (h3 _ hl5) ?_
        intro w6 hb6
        have hl6 : Below w.heap.size w w6 := Below.trans hl5 (Below.mono hb6 (Below.size hl5))
        have hm6 : MemAt w6 _ zeroM := RowAt.to hm5 hb6
        refine hK.out _ _ hl6 (fun _ => ?_)
        simp only [Act.put, List.setIfInBounds_toArray, List.set_cons_zero, List.set_cons_succ]
        refine wpAnyH_ready (rs := [7]) (by kernel_rfl) (by simp) (AllReadyH.cons (o := { dst := none, op := .store 37 (.tmp 7) (.tmp 14), type := 0, pos := pos, after := #[{ on := 6, ground := .data }, { on := 5, ground := .data }, { on := 5, ground := .chain }, { on := 0, ground := .phase }, { on := 1, ground := .phase }, { on := 2, ground := .phase }, { on := 3, ground := .phase }, { on := 4, ground := .phase }, { on := 5, ground := .phase }, { on := 6, ground := .phase }], guard := none }) rfl (fun K hK => ?_) AllReadyH.nil)
        rw [if_pos (by rfl)]
        with_reducible refine wp_storeMem (m := m') (b := (World.heap w2).size) (.tmp 7) (.tmp 14) ?_ ?_ ?_ hm6 ?_
        · rfl
        · simp [Act.eval]
        · simp [Act.eval]
        intro wz HMz hbz
        refine hK.out _ _ (hbz _ _ hl6 hge) (fun hHeld => ?_)
        have hd := hQ _ _ hHeld hge HMz
        refine wpAnyH_done ?_ ?_ _
        · kernel_rfl
        · exact NoPanic.normal hd
    · rw [if_pos (by rfl)]
      refine wp_allocMem rfl hz ?_
      have hm7 : MemAt (World.alloc w1 (.cells zeroM.cells 37)) (World.heap w1).size zeroM := RowAt.new _ _ 136 zeroM.cell
      have hge : w.heap.size ≤ (World.heap w1).size := Below.size hl1
      have hl7 : Below w.heap.size w (World.alloc w1 (.cells zeroM.cells 37)) := Below.alloc hl1 (Below.size hl1) _
      refine hK.out _ _ hl7 (fun _ => ?_)
      simp only [Act.put, List.setIfInBounds_toArray, List.set_cons_zero, List.set_cons_succ]
      refine wpAnyH_ready (rs := [3]) (by kernel_rfl) (by simp) ?_
      refine AllReadyH.cons (o := { dst := some 12, op := .call { callee := .value (.func f2), args := #[.tmp 11], argTypes := #[71] }, type := TA, pos := pos, after := #[{ on := 2, ground := .data }, { on := 1, ground := .chain }], guard := none }) rfl (fun K hK => ?_) AllReadyH.nil
      rw [if_pos (by rfl)]
      refine wp_callGo (args := #[.agg #[.int .i64 k, .int .i64 n, .int .i64 p]]) hf2 rfl (by simp [Act.eval]) (h2 _) ?_
      intro w8 hb8
      have hl8 : Below w.heap.size w w8 := Below.trans hl7 (Below.mono hb8 (Below.size hl7))
      have hm8 : MemAt w8 _ zeroM := RowAt.to hm7 hb8
      refine hK.out _ _ hl8 (fun _ => ?_)
      simp only [Act.put, List.setIfInBounds_toArray, List.set_cons_zero, List.set_cons_succ]
      refine wpAnyH_ready (rs := [5]) (by kernel_rfl) (by simp) ?_
      refine AllReadyH.cons (o := { dst := some 14, op := .call { callee := .value (.func f3), args := #[.tmp 10, .tmp 12, .tmp 13], argTypes := #[TM, TA, TV] }, type := TM, pos := pos, after := #[{ on := 1, ground := .data }, { on := 3, ground := .data }, { on := 4, ground := .data }, { on := 3, ground := .chain }], guard := none }) rfl (fun K hK => ?_) AllReadyH.nil
      rw [if_pos (by rfl)]
      refine wp_callGo (args := #[m.val, .agg #[.int .i64 k, .int .i64 n, .int .i64 p], v]) hf3 rfl (by simp [Act.eval]) (h3 _ hl8) ?_
      intro w9 hb9
      have hl9 : Below w.heap.size w w9 := Below.trans hl8 (Below.mono hb9 (Below.size hl8))
      have hm9 : MemAt w9 _ zeroM := RowAt.to hm8 hb9
      refine hK.out _ _ hl9 (fun _ => ?_)
      simp only [Act.put, List.setIfInBounds_toArray, List.set_cons_zero, List.set_cons_succ]
      refine wpAnyH_ready (rs := [7]) (by kernel_rfl) (by simp) (AllReadyH.cons (o := { dst := none, op := .store 37 (.tmp 7) (.tmp 14), type := 0, pos := pos, after := #[{ on := 6, ground := .data }, { on := 5, ground := .data }, { on := 5, ground := .chain }, { on := 0, ground := .phase }, { on := 1, ground := .phase }, { on := 2, ground := .phase }, { on := 3, ground := .phase }, { on := 4, ground := .phase }, { on := 5, ground := .phase }, { on := 6, ground := .phase }], guard := none }) rfl (fun K hK => ?_) AllReadyH.nil)
      rw [if_pos (by rfl)]
      with_reducible refine wp_storeMem (m := m') (b := (World.heap w1).size) (.tmp 7) (.tmp 14) ?_ ?_ ?_ hm9 ?_
      · rfl
      · simp [Act.eval]
      · simp [Act.eval]
      intro wz HMz hbz
      refine hK.out _ _ (hbz _ _ hl9 hge) (fun hHeld => ?_)
      have hd := hQ _ _ hHeld hge HMz
      refine wpAnyH_done ?_ ?_ _
      · kernel_rfl
      · exact NoPanic.normal hd
  · rw [if_pos (by rfl)]
    refine wp_allocMem rfl hz ?_
    have hm10 : MemAt (World.alloc w.drew (.cells zeroM.cells 37)) (World.heap w.drew).size zeroM := RowAt.new _ _ 136 zeroM.cell
    have hge : w.heap.size ≤ (World.heap w.drew).size := Below.size hHeld
    have hl10 : Below w.heap.size w (World.alloc w.drew (.cells zeroM.cells 37)) := Below.alloc hHeld (Below.size hHeld) _
    refine hK.out _ _ hl10 (fun _ => ?_)
    simp only [Act.put, List.setIfInBounds_toArray, List.set_cons_zero, List.set_cons_succ]
    refine wpAnyH_ready (rs := [1]) (by kernel_rfl) (by simp) ?_
    refine AllReadyH.cons (o := { dst := some 10, op := .call { callee := .value (.func f1), args := #[.tmp 9], argTypes := #[70] }, type := TM, pos := pos, after := #[{ on := 0, ground := .data }], guard := none }) rfl (fun K hK => ?_) AllReadyH.nil
    rw [if_pos (by rfl)]
    refine wp_callGo (args := #[m.val]) hf1 rfl (by simp [Act.eval]) (h1 _) ?_
    intro w11 hb11
    have hl11 : Below w.heap.size w w11 := Below.trans hl10 (Below.mono hb11 (Below.size hl10))
    have hm11 : MemAt w11 _ zeroM := RowAt.to hm10 hb11
    refine hK.out _ _ hl11 (fun _ => ?_)
    simp only [Act.put, List.setIfInBounds_toArray, List.set_cons_zero, List.set_cons_succ]
    refine wpAnyH_ready (rs := [3]) (by kernel_rfl) (by simp) ?_
    refine AllReadyH.cons (o := { dst := some 12, op := .call { callee := .value (.func f2), args := #[.tmp 11], argTypes := #[71] }, type := TA, pos := pos, after := #[{ on := 2, ground := .data }, { on := 1, ground := .chain }], guard := none }) rfl (fun K hK => ?_) AllReadyH.nil
    rw [if_pos (by rfl)]
    refine wp_callGo (args := #[.agg #[.int .i64 k, .int .i64 n, .int .i64 p]]) hf2 rfl (by simp [Act.eval]) (h2 _) ?_
    intro w12 hb12
    have hl12 : Below w.heap.size w w12 := Below.trans hl11 (Below.mono hb12 (Below.size hl11))
    have hm12 : MemAt w12 _ zeroM := RowAt.to hm11 hb12
    refine hK.out _ _ hl12 (fun _ => ?_)
    simp only [Act.put, List.setIfInBounds_toArray, List.set_cons_zero, List.set_cons_succ]
    refine wpAnyH_ready (rs := [5]) (by kernel_rfl) (by simp) ?_
    refine AllReadyH.cons (o := { dst := some 14, op := .call { callee := .value (.func f3), args := #[.tmp 10, .tmp 12, .tmp 13], argTypes := #[TM, TA, TV] }, type := TM, pos := pos, after := #[{ on := 1, ground := .data }, { on := 3, ground := .data }, { on := 4, ground := .data }, { on := 3, ground := .chain }], guard := none }) rfl (fun K hK => ?_) AllReadyH.nil
    rw [if_pos (by rfl)]
    refine wp_callGo (args := #[m.val, .agg #[.int .i64 k, .int .i64 n, .int .i64 p], v]) hf3 rfl (by simp [Act.eval]) (h3 _ hl12) ?_
    intro w13 hb13
    have hl13 : Below w.heap.size w w13 := Below.trans hl12 (Below.mono hb13 (Below.size hl12))
    have hm13 : MemAt w13 _ zeroM := RowAt.to hm12 hb13
    refine hK.out _ _ hl13 (fun _ => ?_)
    simp only [Act.put, List.setIfInBounds_toArray, List.set_cons_zero, List.set_cons_succ]
    refine wpAnyH_ready (rs := [7]) (by kernel_rfl) (by simp) (AllReadyH.cons (o := { dst := none, op := .store 37 (.tmp 7) (.tmp 14), type := 0, pos := pos, after := #[{ on := 6, ground := .data }, { on := 5, ground := .data }, { on := 5, ground := .chain }, { on := 0, ground := .phase }, { on := 1, ground := .phase }, { on := 2, ground := .phase }, { on := 3, ground := .phase }, { on := 4, ground := .phase }, { on := 5, ground := .phase }, { on := 6, ground := .phase }], guard := none }) rfl (fun K hK => ?_) AllReadyH.nil)
    rw [if_pos (by rfl)]
    with_reducible refine wp_storeMem (m := m') (b := (World.heap w.drew).size) (.tmp 7) (.tmp 14) ?_ ?_ ?_ hm13 ?_
    · rfl
    · simp [Act.eval]
    · simp [Act.eval]
    intro wz HMz hbz
    refine hK.out _ _ (hbz _ _ hl13 hge) (fun hHeld => ?_)
    have hd := hQ _ _ hHeld hge HMz
    refine wpAnyH_done ?_ ?_ _
    · kernel_rfl
    · exact NoPanic.normal hd

set_option maxHeartbeats 1000000 in
set_option maxRecDepth 100000 in
theorem put_region2 {id : Nat} {pos : String} {TM TA TV : TypeId} {f1 f2 f3 : FuncId} {Q : Exit → Act → World → Prop} {w : World} {t0 t1 t5 t6 t7 t8 t9 t10 t11 t12 t13 t14 t15 t16 t17 t18 t19 t20 t21 t22 t23 t24 v : Value} {b1 b2 : Nat} {k n p : Int} {m m' : Mm}
    (hf1 : ∀ (xs : Array Value) (w : World), (callFunc f1 xs).run Tryd.prog w = .ok (.enter f1 xs) w) (hf2 : ∀ (xs : Array Value) (w : World), (callFunc f2 xs).run Tryd.prog w = .ok (.enter f2 xs) w) (hf3 : ∀ (xs : Array Value) (w : World), (callFunc f3 xs).run Tryd.prog w = .ok (.enter f3 xs) w)
    (hz : ∀ w, (zeroValue 37).run Tryd.prog w = .ok (.agg zeroM.cells) w)
    (hI : RowAt w b1 70 136 m.cell) (hA : w.rangeAt b2 0 [.int .i64 k, .int .i64 n, .int .i64 p]) (hb2 : b2 < w.heap.size)
    (h1 : ∀ W, Calls Tryd.prog f1 #[m.val] W fun e w' => e = .returned m.val ∧ Below W.heap.size W w')
    (h2 : ∀ W, Calls Tryd.prog f2 #[.agg #[.int .i64 k, .int .i64 n, .int .i64 p]] W fun e w' => e = .returned (.agg #[.int .i64 k, .int .i64 n, .int .i64 p]) ∧ Below W.heap.size W w')
    (h3 : ∀ W, Below w.heap.size w W → Calls Tryd.prog f3 #[m.val, .agg #[.int .i64 k, .int .i64 n, .int .i64 p], v] W fun e w' => e = .returned m'.val ∧ Below W.heap.size W w')
    (hQ : ∀ b w', Below w.heap.size w w' → w.heap.size ≤ b → MemAt w' b m' → Q .normal { tmps := #[t0, t1, v, .pointer (some ⟨b1, 0, none⟩), .pointer (some ⟨b2, 0, none⟩), t5, t6, t7, .pointer (some ⟨b, 0, none⟩), t9, t10, t11, t12, t13, t14, m.val, m.val, .agg #[.int .i64 k, .int .i64 n, .int .i64 p], .agg #[.int .i64 k, .int .i64 n, .int .i64 p], v, m'.val, t21, t22, t23, t24], defers := [] } w') :
    (Code.region id #[{ dst := some 15, op := .load 70 (.tmp 3), type := 70, pos := pos, after := #[], guard := none },
      { dst := some 16, op := .call { callee := .value (.func f1), args := #[.tmp 15], argTypes := #[70] }, type := TM, pos := pos, after := #[{ on := 0, ground := .data }], guard := none },
      { dst := some 17, op := .load 71 (.tmp 4), type := 71, pos := pos, after := #[], guard := none },
      { dst := some 18, op := .call { callee := .value (.func f2), args := #[.tmp 17], argTypes := #[71] }, type := TA, pos := pos, after := #[{ on := 2, ground := .data }, { on := 1, ground := .chain }], guard := none },
      { dst := some 19, op := .move (.tmp 2), type := TV, pos := pos, after := #[], guard := none },
      { dst := some 20, op := .call { callee := .value (.func f3), args := #[.tmp 16, .tmp 18, .tmp 19], argTypes := #[TM, TA, TV] }, type := TM, pos := pos, after := #[{ on := 1, ground := .data }, { on := 3, ground := .data }, { on := 4, ground := .data }, { on := 3, ground := .chain }], guard := none },
      { dst := some 8, op := .alloc 37, type := 0, pos := pos, after := #[], guard := none },
      { dst := none, op := .store 37 (.tmp 8) (.tmp 20), type := 0, pos := pos, after := #[{ on := 6, ground := .data }, { on := 5, ground := .data }, { on := 5, ground := .chain }, { on := 0, ground := .phase }, { on := 1, ground := .phase }, { on := 2, ground := .phase }, { on := 3, ground := .phase }, { on := 4, ground := .phase }, { on := 5, ground := .phase }, { on := 6, ground := .phase }], guard := none }] true).wp Tryd.prog Q { tmps := #[t0, t1, v, .pointer (some ⟨b1, 0, none⟩), .pointer (some ⟨b2, 0, none⟩), t5, t6, t7, t8, t9, t10, t11, t12, t13, t14, t15, t16, t17, t18, t19, t20, t21, t22, t23, t24], defers := [] } w := by
  have hAW : ∀ W, Below w.heap.size w W → W.rangeAt b2 0 [.int .i64 k, .int .i64 n, .int .i64 p] := fun W hb j u hu => by
    rw [hb.cell (p := ⟨b2, 0 + j, none⟩) hb2]; exact hA j u hu
  refine wp_region_noPanic ?_
  refine wp_region_held_drew (S := fun W => Below w.heap.size w W) (by kernel_rfl) (Below.refl _ _).drew (fun hHeld => ?_)
  refine wpAnyH_take (i := 0) (oi := { dst := some 15, op := .load 70 (.tmp 3), type := 70, pos := pos, after := #[], guard := none }) (v := m.val) rfl (by kernel_rfl) (by kernel_rfl) (by kernel_rfl) (fun _ _ _ h => h) (yields_row (by rfl) (.tmp 3) rfl rfl (fun W hb => RowAt.to hI hb) Tryd.underlying70 rfl (by kernel_rfl)) hHeld ?_
  simp only [Act.put, List.setIfInBounds_toArray, List.set_cons_zero, List.set_cons_succ]
  refine wpAnyH_take (i := 2) (oi := { dst := some 17, op := .load 71 (.tmp 4), type := 71, pos := pos, after := #[], guard := none }) (v := .agg #[.int .i64 k, .int .i64 n, .int .i64 p]) rfl (by kernel_rfl) (by kernel_rfl) (by kernel_rfl) (fun _ _ _ h => h) (yieldsIf_load_mid (by rfl) _ _ rfl b2 0 rfl [.int .i64 k, .int .i64 n, .int .i64 p] _ hAW Tryd.underlying71 rfl (by kernel_rfl)) hHeld ?_
  simp only [Act.put, List.setIfInBounds_toArray, List.set_cons_zero, List.set_cons_succ]
  refine wpAnyH_take (i := 4) (oi := { dst := some 19, op := .move (.tmp 2), type := TV, pos := pos, after := #[], guard := none }) (v := v) rfl (by kernel_rfl) (by kernel_rfl) (by kernel_rfl) (fun _ _ _ h => h) (.inl ⟨by rfl, fun _ _ => rfl⟩) hHeld ?_
  simp only [Act.put, List.setIfInBounds_toArray, List.set_cons_zero, List.set_cons_succ]
  refine wpAnyH_ready (rs := [1, 6]) (by kernel_rfl) (by simp) ?_
  refine AllReadyH.cons (o := { dst := some 16, op := .call { callee := .value (.func f1), args := #[.tmp 15], argTypes := #[70] }, type := TM, pos := pos, after := #[{ on := 0, ground := .data }], guard := none }) rfl (fun K hK => ?_) (AllReadyH.cons (o := { dst := some 8, op := .alloc 37, type := 0, pos := pos, after := #[], guard := none }) rfl (fun K hK => ?_) AllReadyH.nil)
  · rw [if_pos (by rfl)]
    refine wp_callGo (args := #[m.val]) hf1 rfl (by simp [Act.eval]) (h1 _) ?_
    intro w1 hb1
    have hl1 : Below w.heap.size w w1 := Below.trans hHeld (Below.mono hb1 (Below.size hHeld))
    refine hK.out _ _ hl1 (fun _ => ?_)
    simp only [Act.put, List.setIfInBounds_toArray, List.set_cons_zero, List.set_cons_succ]
    refine wpAnyH_ready (rs := [3, 6]) (by kernel_rfl) (by simp) ?_
    refine AllReadyH.cons (o := { dst := some 18, op := .call { callee := .value (.func f2), args := #[.tmp 17], argTypes := #[71] }, type := TA, pos := pos, after := #[{ on := 2, ground := .data }, { on := 1, ground := .chain }], guard := none }) rfl (fun K hK => ?_) (AllReadyH.cons (o := { dst := some 8, op := .alloc 37, type := 0, pos := pos, after := #[], guard := none }) rfl (fun K hK => ?_) AllReadyH.nil)
    · rw [if_pos (by rfl)]
      refine wp_callGo (args := #[.agg #[.int .i64 k, .int .i64 n, .int .i64 p]]) hf2 rfl (by simp [Act.eval]) (h2 _) ?_
      intro w2 hb2
      have hl2 : Below w.heap.size w w2 := Below.trans hl1 (Below.mono hb2 (Below.size hl1))
      refine hK.out _ _ hl2 (fun _ => ?_)
      simp only [Act.put, List.setIfInBounds_toArray, List.set_cons_zero, List.set_cons_succ]
      refine wpAnyH_ready (rs := [5, 6]) (by kernel_rfl) (by simp) ?_
      refine AllReadyH.cons (o := { dst := some 20, op := .call { callee := .value (.func f3), args := #[.tmp 16, .tmp 18, .tmp 19], argTypes := #[TM, TA, TV] }, type := TM, pos := pos, after := #[{ on := 1, ground := .data }, { on := 3, ground := .data }, { on := 4, ground := .data }, { on := 3, ground := .chain }], guard := none }) rfl (fun K hK => ?_) (AllReadyH.cons (o := { dst := some 8, op := .alloc 37, type := 0, pos := pos, after := #[], guard := none }) rfl (fun K hK => ?_) AllReadyH.nil)
      · rw [if_pos (by rfl)]
        refine wp_callGo (args := #[m.val, .agg #[.int .i64 k, .int .i64 n, .int .i64 p], v]) hf3 rfl (by simp [Act.eval]) (h3 _ hl2) ?_
        intro w3 hb3
        have hl3 : Below w.heap.size w w3 := Below.trans hl2 (Below.mono hb3 (Below.size hl2))
        refine hK.out _ _ hl3 (fun _ => ?_)
        simp only [Act.put, List.setIfInBounds_toArray, List.set_cons_zero, List.set_cons_succ]
        refine wpAnyH_ready (rs := [6]) (by kernel_rfl) (by simp) ?_
        refine AllReadyH.cons (o := { dst := some 8, op := .alloc 37, type := 0, pos := pos, after := #[], guard := none }) rfl (fun K hK => ?_) AllReadyH.nil
        rw [if_pos (by rfl)]
        refine wp_allocMem rfl hz ?_
        have hm4 : MemAt (World.alloc w3 (.cells zeroM.cells 37)) (World.heap w3).size zeroM := RowAt.new _ _ 136 zeroM.cell
        have hge : w.heap.size ≤ (World.heap w3).size := Below.size hl3
        have hl4 : Below w.heap.size w (World.alloc w3 (.cells zeroM.cells 37)) := Below.alloc hl3 (Below.size hl3) _
        refine hK.out _ _ hl4 (fun _ => ?_)
        simp only [Act.put, List.setIfInBounds_toArray, List.set_cons_zero, List.set_cons_succ]
        refine wpAnyH_ready (rs := [7]) (by kernel_rfl) (by simp) (AllReadyH.cons (o := { dst := none, op := .store 37 (.tmp 8) (.tmp 20), type := 0, pos := pos, after := #[{ on := 6, ground := .data }, { on := 5, ground := .data }, { on := 5, ground := .chain }, { on := 0, ground := .phase }, { on := 1, ground := .phase }, { on := 2, ground := .phase }, { on := 3, ground := .phase }, { on := 4, ground := .phase }, { on := 5, ground := .phase }, { on := 6, ground := .phase }], guard := none }) rfl (fun K hK => ?_) AllReadyH.nil)
        rw [if_pos (by rfl)]
        with_reducible refine wp_storeMem (m := m') (b := (World.heap w3).size) (.tmp 8) (.tmp 20) ?_ ?_ ?_ hm4 ?_
        · rfl
        · simp [Act.eval]
        · simp [Act.eval]
        intro wz HMz hbz
        refine hK.out _ _ (hbz _ _ hl4 hge) (fun hHeld => ?_)
        have hd := hQ _ _ hHeld hge HMz
        refine wpAnyH_done ?_ ?_ _
        · kernel_rfl
        · exact NoPanic.normal hd
      · rw [if_pos (by rfl)]
        refine wp_allocMem rfl hz ?_
        have hm5 : MemAt (World.alloc w2 (.cells zeroM.cells 37)) (World.heap w2).size zeroM := RowAt.new _ _ 136 zeroM.cell
        have hge : w.heap.size ≤ (World.heap w2).size := Below.size hl2
        have hl5 : Below w.heap.size w (World.alloc w2 (.cells zeroM.cells 37)) := Below.alloc hl2 (Below.size hl2) _
        refine hK.out _ _ hl5 (fun _ => ?_)
        simp only [Act.put, List.setIfInBounds_toArray, List.set_cons_zero, List.set_cons_succ]
        refine wpAnyH_ready (rs := [5]) (by kernel_rfl) (by simp) ?_
        refine AllReadyH.cons (o := { dst := some 20, op := .call { callee := .value (.func f3), args := #[.tmp 16, .tmp 18, .tmp 19], argTypes := #[TM, TA, TV] }, type := TM, pos := pos, after := #[{ on := 1, ground := .data }, { on := 3, ground := .data }, { on := 4, ground := .data }, { on := 3, ground := .chain }], guard := none }) rfl (fun K hK => ?_) AllReadyH.nil
        rw [if_pos (by rfl)]
        refine wp_callGo (args := #[m.val, .agg #[.int .i64 k, .int .i64 n, .int .i64 p], v]) hf3 rfl (by simp [Act.eval]) (h3 _ hl5) ?_
        intro w6 hb6
        have hl6 : Below w.heap.size w w6 := Below.trans hl5 (Below.mono hb6 (Below.size hl5))
        have hm6 : MemAt w6 _ zeroM := RowAt.to hm5 hb6
        refine hK.out _ _ hl6 (fun _ => ?_)
        simp only [Act.put, List.setIfInBounds_toArray, List.set_cons_zero, List.set_cons_succ]
        refine wpAnyH_ready (rs := [7]) (by kernel_rfl) (by simp) (AllReadyH.cons (o := { dst := none, op := .store 37 (.tmp 8) (.tmp 20), type := 0, pos := pos, after := #[{ on := 6, ground := .data }, { on := 5, ground := .data }, { on := 5, ground := .chain }, { on := 0, ground := .phase }, { on := 1, ground := .phase }, { on := 2, ground := .phase }, { on := 3, ground := .phase }, { on := 4, ground := .phase }, { on := 5, ground := .phase }, { on := 6, ground := .phase }], guard := none }) rfl (fun K hK => ?_) AllReadyH.nil)
        rw [if_pos (by rfl)]
        with_reducible refine wp_storeMem (m := m') (b := (World.heap w2).size) (.tmp 8) (.tmp 20) ?_ ?_ ?_ hm6 ?_
        · rfl
        · simp [Act.eval]
        · simp [Act.eval]
        intro wz HMz hbz
        refine hK.out _ _ (hbz _ _ hl6 hge) (fun hHeld => ?_)
        have hd := hQ _ _ hHeld hge HMz
        refine wpAnyH_done ?_ ?_ _
        · kernel_rfl
        · exact NoPanic.normal hd
    · rw [if_pos (by rfl)]
      refine wp_allocMem rfl hz ?_
      have hm7 : MemAt (World.alloc w1 (.cells zeroM.cells 37)) (World.heap w1).size zeroM := RowAt.new _ _ 136 zeroM.cell
      have hge : w.heap.size ≤ (World.heap w1).size := Below.size hl1
      have hl7 : Below w.heap.size w (World.alloc w1 (.cells zeroM.cells 37)) := Below.alloc hl1 (Below.size hl1) _
      refine hK.out _ _ hl7 (fun _ => ?_)
      simp only [Act.put, List.setIfInBounds_toArray, List.set_cons_zero, List.set_cons_succ]
      refine wpAnyH_ready (rs := [3]) (by kernel_rfl) (by simp) ?_
      refine AllReadyH.cons (o := { dst := some 18, op := .call { callee := .value (.func f2), args := #[.tmp 17], argTypes := #[71] }, type := TA, pos := pos, after := #[{ on := 2, ground := .data }, { on := 1, ground := .chain }], guard := none }) rfl (fun K hK => ?_) AllReadyH.nil
      rw [if_pos (by rfl)]
      refine wp_callGo (args := #[.agg #[.int .i64 k, .int .i64 n, .int .i64 p]]) hf2 rfl (by simp [Act.eval]) (h2 _) ?_
      intro w8 hb8
      have hl8 : Below w.heap.size w w8 := Below.trans hl7 (Below.mono hb8 (Below.size hl7))
      have hm8 : MemAt w8 _ zeroM := RowAt.to hm7 hb8
      refine hK.out _ _ hl8 (fun _ => ?_)
      simp only [Act.put, List.setIfInBounds_toArray, List.set_cons_zero, List.set_cons_succ]
      refine wpAnyH_ready (rs := [5]) (by kernel_rfl) (by simp) ?_
      refine AllReadyH.cons (o := { dst := some 20, op := .call { callee := .value (.func f3), args := #[.tmp 16, .tmp 18, .tmp 19], argTypes := #[TM, TA, TV] }, type := TM, pos := pos, after := #[{ on := 1, ground := .data }, { on := 3, ground := .data }, { on := 4, ground := .data }, { on := 3, ground := .chain }], guard := none }) rfl (fun K hK => ?_) AllReadyH.nil
      rw [if_pos (by rfl)]
      refine wp_callGo (args := #[m.val, .agg #[.int .i64 k, .int .i64 n, .int .i64 p], v]) hf3 rfl (by simp [Act.eval]) (h3 _ hl8) ?_
      intro w9 hb9
      have hl9 : Below w.heap.size w w9 := Below.trans hl8 (Below.mono hb9 (Below.size hl8))
      have hm9 : MemAt w9 _ zeroM := RowAt.to hm8 hb9
      refine hK.out _ _ hl9 (fun _ => ?_)
      simp only [Act.put, List.setIfInBounds_toArray, List.set_cons_zero, List.set_cons_succ]
      refine wpAnyH_ready (rs := [7]) (by kernel_rfl) (by simp) (AllReadyH.cons (o := { dst := none, op := .store 37 (.tmp 8) (.tmp 20), type := 0, pos := pos, after := #[{ on := 6, ground := .data }, { on := 5, ground := .data }, { on := 5, ground := .chain }, { on := 0, ground := .phase }, { on := 1, ground := .phase }, { on := 2, ground := .phase }, { on := 3, ground := .phase }, { on := 4, ground := .phase }, { on := 5, ground := .phase }, { on := 6, ground := .phase }], guard := none }) rfl (fun K hK => ?_) AllReadyH.nil)
      rw [if_pos (by rfl)]
      with_reducible refine wp_storeMem (m := m') (b := (World.heap w1).size) (.tmp 8) (.tmp 20) ?_ ?_ ?_ hm9 ?_
      · rfl
      · simp [Act.eval]
      · simp [Act.eval]
      intro wz HMz hbz
      refine hK.out _ _ (hbz _ _ hl9 hge) (fun hHeld => ?_)
      have hd := hQ _ _ hHeld hge HMz
      refine wpAnyH_done ?_ ?_ _
      · kernel_rfl
      · exact NoPanic.normal hd
  · rw [if_pos (by rfl)]
    refine wp_allocMem rfl hz ?_
    have hm10 : MemAt (World.alloc w.drew (.cells zeroM.cells 37)) (World.heap w.drew).size zeroM := RowAt.new _ _ 136 zeroM.cell
    have hge : w.heap.size ≤ (World.heap w.drew).size := Below.size hHeld
    have hl10 : Below w.heap.size w (World.alloc w.drew (.cells zeroM.cells 37)) := Below.alloc hHeld (Below.size hHeld) _
    refine hK.out _ _ hl10 (fun _ => ?_)
    simp only [Act.put, List.setIfInBounds_toArray, List.set_cons_zero, List.set_cons_succ]
    refine wpAnyH_ready (rs := [1]) (by kernel_rfl) (by simp) ?_
    refine AllReadyH.cons (o := { dst := some 16, op := .call { callee := .value (.func f1), args := #[.tmp 15], argTypes := #[70] }, type := TM, pos := pos, after := #[{ on := 0, ground := .data }], guard := none }) rfl (fun K hK => ?_) AllReadyH.nil
    rw [if_pos (by rfl)]
    refine wp_callGo (args := #[m.val]) hf1 rfl (by simp [Act.eval]) (h1 _) ?_
    intro w11 hb11
    have hl11 : Below w.heap.size w w11 := Below.trans hl10 (Below.mono hb11 (Below.size hl10))
    have hm11 : MemAt w11 _ zeroM := RowAt.to hm10 hb11
    refine hK.out _ _ hl11 (fun _ => ?_)
    simp only [Act.put, List.setIfInBounds_toArray, List.set_cons_zero, List.set_cons_succ]
    refine wpAnyH_ready (rs := [3]) (by kernel_rfl) (by simp) ?_
    refine AllReadyH.cons (o := { dst := some 18, op := .call { callee := .value (.func f2), args := #[.tmp 17], argTypes := #[71] }, type := TA, pos := pos, after := #[{ on := 2, ground := .data }, { on := 1, ground := .chain }], guard := none }) rfl (fun K hK => ?_) AllReadyH.nil
    rw [if_pos (by rfl)]
    refine wp_callGo (args := #[.agg #[.int .i64 k, .int .i64 n, .int .i64 p]]) hf2 rfl (by simp [Act.eval]) (h2 _) ?_
    intro w12 hb12
    have hl12 : Below w.heap.size w w12 := Below.trans hl11 (Below.mono hb12 (Below.size hl11))
    have hm12 : MemAt w12 _ zeroM := RowAt.to hm11 hb12
    refine hK.out _ _ hl12 (fun _ => ?_)
    simp only [Act.put, List.setIfInBounds_toArray, List.set_cons_zero, List.set_cons_succ]
    refine wpAnyH_ready (rs := [5]) (by kernel_rfl) (by simp) ?_
    refine AllReadyH.cons (o := { dst := some 20, op := .call { callee := .value (.func f3), args := #[.tmp 16, .tmp 18, .tmp 19], argTypes := #[TM, TA, TV] }, type := TM, pos := pos, after := #[{ on := 1, ground := .data }, { on := 3, ground := .data }, { on := 4, ground := .data }, { on := 3, ground := .chain }], guard := none }) rfl (fun K hK => ?_) AllReadyH.nil
    rw [if_pos (by rfl)]
    refine wp_callGo (args := #[m.val, .agg #[.int .i64 k, .int .i64 n, .int .i64 p], v]) hf3 rfl (by simp [Act.eval]) (h3 _ hl12) ?_
    intro w13 hb13
    have hl13 : Below w.heap.size w w13 := Below.trans hl12 (Below.mono hb13 (Below.size hl12))
    have hm13 : MemAt w13 _ zeroM := RowAt.to hm12 hb13
    refine hK.out _ _ hl13 (fun _ => ?_)
    simp only [Act.put, List.setIfInBounds_toArray, List.set_cons_zero, List.set_cons_succ]
    refine wpAnyH_ready (rs := [7]) (by kernel_rfl) (by simp) (AllReadyH.cons (o := { dst := none, op := .store 37 (.tmp 8) (.tmp 20), type := 0, pos := pos, after := #[{ on := 6, ground := .data }, { on := 5, ground := .data }, { on := 5, ground := .chain }, { on := 0, ground := .phase }, { on := 1, ground := .phase }, { on := 2, ground := .phase }, { on := 3, ground := .phase }, { on := 4, ground := .phase }, { on := 5, ground := .phase }, { on := 6, ground := .phase }], guard := none }) rfl (fun K hK => ?_) AllReadyH.nil)
    rw [if_pos (by rfl)]
    with_reducible refine wp_storeMem (m := m') (b := (World.heap w.drew).size) (.tmp 8) (.tmp 20) ?_ ?_ ?_ hm13 ?_
    · rfl
    · simp [Act.eval]
    · simp [Act.eval]
    intro wz HMz hbz
    refine hK.out _ _ (hbz _ _ hl13 hge) (fun hHeld => ?_)
    have hd := hQ _ _ hHeld hge HMz
    refine wpAnyH_done ?_ ?_ _
    · kernel_rfl
    · exact NoPanic.normal hd
end Go.Proofs.YtljhpagpohihcaaDoor
