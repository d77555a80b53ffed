/- The library's FormatUint in decimals. Helper text: no statement is claimed here. -/
import Derived.Test.YtlflihegadjpdaaDoorP40
import Derived.Shelf.Strconv.Itoa3
import Derived.Lib.AppendIntMem
import Derived.Test.YtlflihegadjpdaaDoorP41
import Derived.Test.YtlflihegadjpdaaDoorShelf
import Derived.Test.YtlflihegadjpdaaDoorP39
import Derived.Test.YtlflihegadjpdaaDoorP38
namespace Go.Proofs.YtlflihegadjpdaaDoor
open Go.ChangeShapes Go.WideShapes Go.ChangeAt Go.RowKit Go.Sort

theorem small_any (u : Nat) (hu : u < 100) (w : World) :
    Calls Tryd.prog 72 #[.int .i64 (u : Int)] w fun e w' => e = .returned (.string ⟨(Lib.decDigits u).toArray⟩) ∧ w' = w :=
  Any.internal_strconv_small { Tryd.laysM171 with } u hu w
theorem nd_any (u : Nat) (h1 : 1 ≤ u) (h2 : u < 18446744073709551616) (w : World) (hP : PowTab w) :
    Calls Tryd.prog 73 #[.int .u64 (u : Int)] w fun e w' => e = .returned (.int .i64 (Lib.nDigits u : Int)) ∧ w' = w :=
  Any.internal_strconv_numDigits { Tryd.laysM171 with } u h1 h2 w hP
theorem fb_any (bk : Nat) (u : Nat) (d : Array UInt8) (w : World) (hH : Holds (fun (b : UInt8) => Value.int .u8 (b.toNat : Int)) w bk 0 d) (hu : u < 10 ^ d.size) (hu64 : u < 18446744073709551616) (hsz : d.size < 4611686018427387904) :
    Calls Tryd.prog 74 #[.slice (some ⟨bk, 0, none⟩) d.size 24, .int .u64 (u : Int)] w fun e w' =>
      e = .returned (.tuple #[]) ∧ ∃ (n v' : Nat) (dk : Array UInt8), w' = (putRow (fun (b : UInt8) => Value.int .u8 (b.toNat : Int)) w bk 0 dk).drewN n ∧ Lib.FmtInv d.size u 0 v' dk :=
  Any.internal_strconv_formatBase10 { Tryd.laysM171 with } bk 0 24 u d w hH hu hu64 hsz

set_option maxHeartbeats 4000000 in
set_option maxRecDepth 100000 in
theorem ifmt_any (u : Nat) (hu64 : u < 4294967296) (w : World) (hP : PowTab w) :
    Calls Tryd.prog 49 #[.int .u64 (u : Int), .int .i64 10] w fun e w' => e = .returned (.string ⟨(Lib.itoa (u : Int)).toArray⟩) ∧ Below w.heap.size w w' := by
  rw [Lib.itoa_nonneg]
  by_cases hs : u < 100
  · have hs' : (u : Int) < 100 := by omega
    go_enter Tryd.func49, Tryd.ntmps49
    go_wp2_with fail
    refine (small_any u hs _).mono ?_
    rintro e w1 ⟨rfl, rfl⟩
    go_wp2
    go_ret
    exact ⟨rfl, Below.refl _ _⟩
  · have hs' : ¬ (u : Int) < 100 := by omega
    have hnd20 : Lib.nDigits u ≤ 20 := by have := Lib.numDigits_eq u (by omega) (by omega); split at this <;> omega
    have hal : Tryd.prog.arrayLen 111 = 24 := by simp [Program.arrayLen, Tryd.underlying111]
    have hsl : ∀ W, (Instr.sliceAt 111 (.pointer (some ⟨w.heap.size, 0, none⟩)) none (some (.int .i64 (Lib.nDigits u : Int))) none).run Tryd.prog W = .ok (.slice (some ⟨w.heap.size, 0, none⟩) (Lib.nDigits u) 24) W := fun W => by
      rw [run_sliceAt_array_h W 111 ⟨w.heap.size, 0, none⟩ (by simp [Program.arrayLen, Program.elem, Tryd.underlying111]) .i64 (Lib.nDigits u : Int) (by omega) (by rw [hal]; omega)]
      go_simp
      try (simp [hal])
    have hH0 := Lib.holds_zero0 w 111 (Lib.nDigits u) (by omega)
    have HF : Hid _ := fb_any w.heap.size u (Array.replicate (Lib.nDigits u) 0) (w.alloc (.cells Lib.zeros24 111)) hH0 (by rw [Array.size_replicate]; exact Lib.lt_pow_nDigits u) (by omega) (by rw [Array.size_replicate]; omega)
    have HN : Hid (∀ W, PowTab W → Calls Tryd.prog 73 #[.int .u64 (u : Int)] W fun e w' => e = .returned (.int .i64 (Lib.nDigits u : Int)) ∧ w' = W) := fun W h => nd_any u (by omega) (by omega) W h
    have HH0 : Hid _ := hH0
    have HP : Hid (PowTab w) := hP
    clear hH0 hal hP
    go_enter Tryd.func49, Tryd.ntmps49
    go_upto_region 5 with fail
    show Code.wp _ _ _ _ (w.alloc (.cells Lib.zeros24 111))
    have HB : Hid (∀ dk k, Below w.heap.size w ((putRow (fun (b : UInt8) => Value.int .u8 (b.toNat : Int)) (w.alloc (.cells Lib.zeros24 111)) w.heap.size 0 dk).drewN k)) := fun dk k => by
      obtain ⟨os, eo⟩ := Lib.fin_at w (.cells Lib.zeros24 111) dk k 0
      rw [eo]
      exact below_grow w k os
    have HP1 : Hid (PowTab (w.alloc (.cells Lib.zeros24 111))) := HP.out.alloc _
    clear HP
    generalize w.alloc (.cells Lib.zeros24 111) = V at *
    generalize hB : w.heap.size = B at *
    go_wp2_with fail
    refine (HN.out _ HP1.out).mono ?_
    rintro e w1 ⟨rfl, rfl⟩
    go_wp2_with fail
    have hF := HF.out
    rw [Array.size_replicate] at hF
    refine Calls.mono hF ?_
    clear hF HF
    rintro e w' ⟨rfl, k, v', dk, rfl, hFm⟩
    have hcv : (convert 22 9 (.slice (some ⟨B, 0, none⟩) (Lib.nDigits u) 24)).run Tryd.prog ((putRow (fun (b : UInt8) => Value.int .u8 (b.toNat : Int)) w1 B 0 dk).drewN k) = .ok (.string ⟨(Lib.decDigits u).toArray⟩) ((putRow (fun (b : UInt8) => Value.int .u8 (b.toNat : Int)) w1 B 0 dk).drewN k) := by
      have h := run_convert_bytes_back (P := Tryd.prog) ((putRow (fun (b : UInt8) => Value.int .u8 (b.toNat : Int)) w1 B 0 dk).drewN k) 22 9 5 ⟨B, 0, none⟩ 24 (Lib.decDigits u) Tryd.underlying22 Tryd.underlying5 Tryd.underlying9 (fun j hj => by
        rw [Lib.row_is_numeral hFm j hj, Lib.add_plain, World.cell?_drewN]
        exact cell?_putRow (fun (b : UInt8) => Value.int .u8 (b.toNat : Int)) _ B 0 _ dk HH0.out (by rw [hFm.size, Array.size_replicate]) j (by rw [hFm.size]; rw [Lib.decDigits_length] at hj; exact hj))
      rw [Lib.decDigits_length] at h
      exact h
    have HB1 : Hid (Below B w ((putRow (fun (b : UInt8) => Value.int .u8 (b.toNat : Int)) w1 B 0 dk).drewN k)) := HB.out dk k
    clear HB HH0 hFm HN HP1
    generalize (putRow (fun (b : UInt8) => Value.int .u8 (b.toNat : Int)) w1 B 0 dk).drewN k = W2 at *
    go_wp2
    go_ret
    exact ⟨rfl, by rw [hB]; exact HB1.out⟩
theorem fmtU_any (u : Nat) (hu64 : u < 4294967296) (w : World) (hP : PowTab w) :
    Calls Tryd.prog 20 #[.int .u64 (u : Int), .int .i64 10] w fun e w' => e = .returned (.string ⟨(Lib.itoa (u : Int)).toArray⟩) ∧ Below w.heap.size w w' := by
  go_enter Tryd.func20, Tryd.ntmps20
  go_wp2_with fail
  refine (ifmt_any u hu64 w hP).mono ?_
  rintro e w1 ⟨rfl, hb⟩
  go_wp2
  go_ret
  exact ⟨rfl, hb⟩
end Go.Proofs.YtlflihegadjpdaaDoor

/- The program's text of a memory: MemText. Helper text: no statement is claimed here. -/
namespace Go.Proofs.YtlflihegadjpdaaDoor
open Go.ChangeShapes Go.WideShapes Go.ChangeAt Go.RowKit Fl

/-- A call of a function of the program that answers with something that is so there. -/
theorem wp_callU {o : Oper} {a : Act} {w : World} {K : Act → World → Prop} {Q : Exit → Act → World → Prop} {f : FuncId} {xs : Array Operand} {ts : Array TypeId} {G : Value → World → Prop} (hf : ∀ (xs : Array Value) (w : World), (callFunc f xs).run Tryd.prog w = .ok (.enter f xs) w) (ho : o.op = .call { callee := .value (.func f), args := xs, argTypes := ts })
    {args : Array Value} (ha : xs.map a.eval = args) (hC : Calls Tryd.prog f args w fun e w' => ∃ u, e = .returned u ∧ G u w') (hk : ∀ u w', G u w' → K (a.put o.dst u) w') : o.wp Tryd.prog a w K Q := by
  subst ha
  have he : (execOp a.eval o).run Tryd.prog w = .ok (.enter f (xs.map a.eval)) w := by
    unfold execOp
    rw [ho]
    simp [go_sem, resolve, hf]
  unfold Oper.wp
  rw [he, Oper.upon_enter]
  refine hC.mono ?_
  rintro e w' ⟨u, rfl, h1⟩
  exact hk u w' h1
theorem wp_assignU {o : Oper} {a : Act} {w : World} {K : Act → World → Prop} {Q : Exit → Act → World → Prop} (x : Operand) {u : Value} (ho : o.op = .assign x) (hx : a.eval x = u) (hk : K (a.put o.dst u) w) : o.wp Tryd.prog a w K Q := by
  unfold Oper.wp execOp
  rw [ho]
  simp [hx, Oper.upon_value]
  exact hk
/-- append of a row of texts to a row of texts that is the call's own. -/
theorem wp_sappR {o : Oper} {a : Act} {w : World} {K : Act → World → Prop} {Q : Exit → Act → World → Prop} (s x : Operand)
    (ho : o.op = .call { callee := .builtin .append, args := #[s, x], argTypes := #[61, 61] }) {base base2 : Nat} {v v2 : Value} {ws news : List (List UInt8)} (hs : a.eval s = v) (hx : a.eval x = v2)
    (hown : SRow w base v ws) (hown2 : SRow w base2 v2 news) (hb : ws.length + news.length ≤ 1000) (hbase : base ≤ w.heap.size)
    (h : ∀ v' w', SRow w' base v' (ws ++ news) → Below base w w' → K (a.put o.dst v') w') : o.wp Tryd.prog a w K Q := by
  obtain ⟨i0, hi, hz0, hz1, hz2⟩ := info_parts iStrR
  rcases hown2.form with ⟨rfl, rfl⟩ | ⟨g, cap, rfl, -, -, -, -, hc⟩
  · have hrun := run_append_owned_none (P := Tryd.prog) (w := w) base 61 o.type 9 i0 1 Tryd.underlying61 hi v _ _ hown
    unfold Oper.wp
    simp [execOp, ho, resolve, invoke, builtin, hs, hx, hrun, Result.andThen]
    exact h _ _ (by rw [List.append_nil]; exact hown) (Below.refl _ _)
  · refine wp_append_own w s x _ ho base _ i0 _ 1 16 Tryd.underlying61 hi hz0 hz1 hz2 rfl (by decide) v _ _ hs hown ⟨g, 0, none⟩ news.length cap (stCells news) hx (by rw [stCells_len, Nat.mul_one]) (fun j u hu => ?_) (stCells_one news) (by unfold maxLen; omega) (by omega) hbase (fun v' w' h1 h2 _ => h v' w' ?_ ((Below.refl _ _).grown h2 hbase fun k hk => (hown.lt k hk).1))
    · have hadd : (⟨g, 0, none⟩ : Addr).add j = ⟨g, j, none⟩ := by unfold Addr.add; split <;> simp_all
      rw [hadd]
      simp only [stCells, List.getElem?_map] at hu
      obtain ⟨l, hl, rfl⟩ := Option.map_eq_some_iff.1 hu
      exact hc j l hl
    · show World.ownsRow _ _ _ _ _ _ _
      rw [List.length_append, ← stCells_app]
      exact h1

set_option maxHeartbeats 1000000 in
set_option maxRecDepth 100000 in
theorem words_region {id : Nat} {pos : String} {Q : Exit → Act → World → Prop} {V : World} {t0 t2 t3 t4 t5 t6 t7 t8 t9 t10 t11 t12 t13 t14 t15 t16 t17 t18 t19 t20 t21 t22 t23 t24 t25 t26 t27 t28 t29 t30 t31 : Value} {b : Nat} {m : Mm} (hM : MemAt V b m)
    (h1 : ∀ W, Below V.heap.size V W → Calls Tryd.prog 18 #[m.val] W fun e w' => ∃ u, e = .returned u ∧ SRow w' W.heap.size u (bitsW m) ∧ Below W.heap.size W w')
    (h2 : ∀ W, Below V.heap.size V W → Calls Tryd.prog 19 #[m.val] W fun e w' => ∃ u, e = .returned u ∧ SRow w' W.heap.size u (numW m) ∧ Below W.heap.size W w')
    (hlen : (bitsW m).length + (numW m).length ≤ 1000)
    (hQ : ∀ v u5 u7 w', SRow w' V.heap.size v (bitsW m ++ numW m) → Below V.heap.size V w' → Q .normal { tmps := #[t0, .pointer (some ⟨b, 0, none⟩), t2, v, m.val, u5, m.val, u7, v, t9, t10, t11, t12, t13, t14, t15, t16, t17, t18, t19, t20, t21, t22, t23, t24, t25, t26, t27, t28, t29, t30, t31], defers := [] } w') :
    (Code.region id #[{ dst := some 4, op := .load 37 (.tmp 1), type := 37, pos := pos, after := #[], guard := none },
      { dst := some 5, op := .call { callee := .value (.func 18), args := #[.tmp 4], argTypes := #[37] }, type := 61, pos := pos, after := #[{ on := 0, ground := .data }], guard := none },
      { dst := some 6, op := .load 37 (.tmp 1), type := 37, pos := pos, after := #[], guard := none },
      { dst := some 7, op := .call { callee := .value (.func 19), args := #[.tmp 6], argTypes := #[37] }, type := 61, pos := pos, after := #[{ on := 2, ground := .data }, { on := 1, ground := .chain }], guard := none },
      { dst := some 8, op := .call { callee := .builtin .append, args := #[.tmp 5, .tmp 7], argTypes := #[61, 61] }, type := 61, pos := pos, after := #[{ on := 1, ground := .data }, { on := 3, ground := .data }, { on := 3, ground := .chain }], guard := none },
      { dst := some 3, op := .assign (.tmp 8), type := 61, pos := pos, after := #[{ on := 4, ground := .data }, { on := 4, ground := .chain }, { on := 0, ground := .phase }, { on := 1, ground := .phase }, { on := 2, ground := .phase }, { on := 3, ground := .phase }, { on := 4, ground := .phase }], guard := none }] true).wp Tryd.prog Q { tmps := #[t0, .pointer (some ⟨b, 0, none⟩), t2, t3, t4, t5, t6, t7, t8, t9, t10, t11, t12, t13, t14, t15, t16, t17, t18, t19, t20, t21, t22, t23, t24, t25, t26, t27, t28, t29, t30, t31], defers := [] } V := by
  refine wp_region_noPanic ?_
  refine wp_region_held_drew (S := fun W => Below V.heap.size V W) (by kernel_rfl) (Below.refl _ _).drew (fun hHeld => ?_)
  refine wpAnyH_take (i := 0) (oi := { dst := some 4, op := .load 37 (.tmp 1), type := 37, pos := pos, after := #[], guard := none }) (v := m.val) rfl (by kernel_rfl) (by kernel_rfl) (by kernel_rfl) (fun _ _ _ h => h) (yields_row (by rfl) (.tmp 1) rfl rfl (fun W hb => RowAt.to hM hb) Tryd.underlying37 rfl (by kernel_rfl)) hHeld ?_
  simp only [Act.put, List.setIfInBounds_toArray, List.set_cons_zero, List.set_cons_succ]
  refine wpAnyH_take (i := 2) (oi := { dst := some 6, op := .load 37 (.tmp 1), type := 37, pos := pos, after := #[], guard := none }) (v := m.val) rfl (by kernel_rfl) (by kernel_rfl) (by kernel_rfl) (fun _ _ _ h => h) (yields_row (by rfl) (.tmp 1) rfl rfl (fun W hb => RowAt.to hM hb) Tryd.underlying37 rfl (by kernel_rfl)) hHeld ?_
  simp only [Act.put, List.setIfInBounds_toArray, List.set_cons_zero, List.set_cons_succ]
  refine wpAnyH_ready (rs := [1]) (by kernel_rfl) (by simp) ?_
  refine AllReadyH.cons (o := { dst := some 5, op := .call { callee := .value (.func 18), args := #[.tmp 4], argTypes := #[37] }, type := 61, pos := pos, after := #[{ on := 0, ground := .data }], guard := none }) rfl (fun K hK => ?_) AllReadyH.nil
  rw [if_pos (by rfl)]
  refine wp_callU (args := #[m.val]) Tryd.call18 rfl (by simp [Act.eval]) (h1 _ hHeld) ?_
  rintro u5 w1 ⟨hr1, hb1⟩
  have hl1 : Below V.heap.size V w1 := Below.trans hHeld (Below.mono hb1 (Below.size hHeld))
  have hr1' : SRow w1 V.heap.size u5 (bitsW m) := hr1.low (Below.size hHeld)
  refine hK.out _ _ hl1 (fun _ => ?_)
  simp only [Act.put, List.setIfInBounds_toArray, List.set_cons_zero, List.set_cons_succ]
  refine wpAnyH_ready (rs := [3]) (by kernel_rfl) (by simp) ?_
  refine AllReadyH.cons (o := { dst := some 7, op := .call { callee := .value (.func 19), args := #[.tmp 6], argTypes := #[37] }, type := 61, pos := pos, after := #[{ on := 2, ground := .data }, { on := 1, ground := .chain }], guard := none }) rfl (fun K hK => ?_) AllReadyH.nil
  rw [if_pos (by rfl)]
  refine wp_callU (args := #[m.val]) Tryd.call19 rfl (by simp [Act.eval]) (h2 _ hl1) ?_
  rintro u7 w2 ⟨hr2, hb2⟩
  have hl2 : Below V.heap.size V w2 := Below.trans hl1 (Below.mono hb2 (Below.size hl1))
  refine hK.out _ _ hl2 (fun _ => ?_)
  simp only [Act.put, List.setIfInBounds_toArray, List.set_cons_zero, List.set_cons_succ]
  refine wpAnyH_ready (rs := [4]) (by kernel_rfl) (by simp) ?_
  refine AllReadyH.cons (o := { dst := some 8, op := .call { callee := .builtin .append, args := #[.tmp 5, .tmp 7], argTypes := #[61, 61] }, type := 61, pos := pos, after := #[{ on := 1, ground := .data }, { on := 3, ground := .data }, { on := 3, ground := .chain }], guard := none }) rfl (fun K hK => ?_) AllReadyH.nil
  rw [if_pos (by rfl)]
  refine wp_sappR (v := u5) (v2 := u7) (.tmp 5) (.tmp 7) rfl (by simp [Act.eval]) (by simp [Act.eval]) (hr1'.to hb2) hr2 hlen hl2.size ?_
  intro v w3 hr3 hb3
  have hl3 : Below V.heap.size V w3 := Below.trans hl2 hb3
  refine hK.out _ _ hl3 (fun _ => ?_)
  simp only [Act.put, List.setIfInBounds_toArray, List.set_cons_zero, List.set_cons_succ]
  refine wpAnyH_ready (rs := [5]) (by kernel_rfl) (by simp) ?_
  refine AllReadyH.cons (o := { dst := some 3, op := .assign (.tmp 8), type := 61, pos := pos, after := #[{ on := 4, ground := .data }, { on := 4, ground := .chain }, { on := 0, ground := .phase }, { on := 1, ground := .phase }, { on := 2, ground := .phase }, { on := 3, ground := .phase }, { on := 4, ground := .phase }], guard := none }) rfl (fun K hK => ?_) AllReadyH.nil
  rw [if_pos (by rfl)]
  refine wp_assignU (.tmp 8) (u := v) rfl (by simp [Act.eval]) ?_
  refine hK.out _ _ hl3 (fun _ => ?_)
  simp only [Act.put, List.setIfInBounds_toArray, List.set_cons_zero, List.set_cons_succ]
  have hd := hQ v u5 u7 w3 hr3 hl3
  refine wpAnyH_done ?_ ?_ _
  · kernel_rfl
  · exact NoPanic.normal hd

theorem joinS_any (ws : List (List UInt8)) (v : Value) (base : Nat) (w : World) (h : SRow w base v ws) (hl : ws.length ≤ 1000) (hj : (Lib.join ws [32]).length ≤ 1000000) :
    Calls Tryd.prog 21 #[v, .string ⟨#[32]⟩] w fun e w' => e = .returned (.string ⟨(Lib.join ws [32]).toArray⟩) ∧ Below w.heap.size w w' := by
  rcases h.form with ⟨rfl, rfl⟩ | ⟨g, cap, rfl, -, hg, hc, -, hcell⟩
  · exact (Any.strings_Join_none Tryd.lays156 Tryd.Builder_Extra_156 none 0 ⟨#[32]⟩ w).mono fun e w' ⟨he, hw⟩ => ⟨he, hw ▸ Below.refl _ _⟩
  · have hx : ((ws.map fun l => (⟨l.toArray⟩ : ByteArray)).map (·.data.toList)) = ws := by simp [Function.comp_def]
    have := Any.strings_Join Tryd.lays156 Tryd.Builder_Extra_156 g 0 cap (ws.map fun l => (⟨l.toArray⟩ : ByteArray)) ⟨#[32]⟩ w (fun j x hjx => by
      rw [List.getElem?_map] at hjx
      obtain ⟨l, hl', rfl⟩ := Option.map_eq_some_iff.1 hjx
      rw [Nat.zero_add]
      exact hcell j l hl') hg (by simp; omega) (by simpa using hc) (by rw [hx]; simp only []; omega)
    rw [hx] at this
    rw [List.length_map] at this
    exact this

set_option maxHeartbeats 2000000 in
set_option maxRecDepth 100000 in
theorem itextM_any (m : Mm) (hok : m.Ok) (w : World) (hT : DevTab w) (hP : PowTab w) :
    Calls Tryd.prog 7 #[m.val] w fun e w' => e = .returned (.string ⟨(memT m).toArray⟩) ∧ Below w.heap.size w w' := by
  have HT : Hid (DevTab w) := hT
  have HP : Hid (PowTab w) := hP
  have H1 : Hid (∀ W, DevTab W → PowTab W → Calls Tryd.prog 18 #[m.val] W fun e w' => ∃ u, e = .returned u ∧ SRow w' W.heap.size u (bitsW m) ∧ Below W.heap.size W w') := fun W h1 h2 => bitWords_any m hok W h1 h2
  have H2 : Hid (∀ W, DevTab W → PowTab W → Calls Tryd.prog 19 #[m.val] W fun e w' => ∃ u, e = .returned u ∧ SRow w' W.heap.size u (numW m) ∧ Below W.heap.size W w') := fun W h1 h2 => numberWords_any m hok W h1 h2
  have HW : Hid (bitsW m ++ numW m ++ ((if 0 < m.time then [timeT m] else []) ++ (if m.ran = true then [ranT] else []) ++ (if m.fault = true then [faultT] else [])) = wordsM m) := rfl
  have HF : Hid (Fits 400 (bitsW m ++ numW m)) := (fits_bits m).app (fits_num hok)
  have HFw : Hid (Fits 403 (wordsM m)) := fits_words hok
  have HJ : Hid (∀ W v base, SRow W base v (wordsM m) → Calls Tryd.prog 21 #[v, .string ⟨#[32]⟩] W fun e w' => e = .returned (.string ⟨(memT m).toArray⟩) ∧ Below W.heap.size W w') := fun W v base h => by
    have h1 := (fits_words hok).1
    have h2 := (fits_words hok).join
    exact joinS_any _ v base W h (by omega) (by omega)
  have hlb := (fits_bits m).1
  have hln := (fits_num hok).1
  have htm := hok.htime
  clear hok hT hP
  have hli := itoa_len (m.time : Int) (by omega) (by omega)
  unfold Mm.val at H1 H2 ⊢
  go_enter Tryd.func7, Tryd.ntmps7
  go_upto_region 1 with fail
  have HBV : Hid (Below w.heap.size w (w.alloc (.cells m.cells 37))) := (Below.refl _ _).alloc (Nat.le_refl _) _
  have HM0 : Hid (MemAt (w.alloc (.cells m.cells 37)) w.heap.size m) := RowAt.new w _ 136 m.cell
  generalize (w.alloc (.cells m.cells 37)) = V at *
  have HT0 : Hid (DevTab V) := HT.out.to HBV.out
  have HP0 : Hid (PowTab V) := HP.out.to HBV.out
  clear HT HP
  refine words_region (m := m) HM0.out (fun W hb => H1.out W (HT0.out.to hb) (HP0.out.to hb)) (fun W hb => H2.out W (HT0.out.to hb) (HP0.out.to hb)) (by omega) ?_
  intro v u5 u7 w1 hr1 hb1
  have HRa : Hid (SRow w1 V.heap.size v (bitsW m ++ numW m)) := hr1
  have HBa : Hid (Below V.heap.size V w1) := hb1
  clear hr1 hb1 H1 H2 hlb hln
  have HMa : Hid (MemAt w1 w.heap.size m) := HM0.out.to HBa.out
  have hwl := HF.out.1
  generalize hwa : bitsW m ++ numW m = la at *
  have HWA : Hid (bitsW m ++ numW m = la) := hwa
  clear hwa
  have c0 := HMa.out.cell (i := 133) (by omega)
  rw [show m.cell 133 = .int .u32 m.time from rfl] at c0
  clear HMa HF HFw HW
  have HRw : Hid (SRow w1 V.heap.size v la) := HRa
  have HB1 : Hid (Below V.heap.size V w1) := HBa
  have HR1 : Hid (SRow w1 V.heap.size v la) := HRa
  clear HRa HBa HRw
  by_cases htz : m.time = 0
  · rw [htz] at c0
    go_upto_region 4 with fail
    have c1 := (HM0.out.to HB1.out).cell (i := 134) (by omega)
    rw [show m.cell 134 = .bool m.ran from rfl] at c1
    cases hrn : m.ran
    · rw [hrn] at c1
      go_upto_region 6 with fail
      have c2 := (HM0.out.to HB1.out).cell (i := 135) (by omega)
      rw [show m.cell 135 = .bool m.fault from rfl] at c2
      cases hft : m.fault
      · rw [hft] at c2
        have HL : Hid (SRow w1 V.heap.size v (wordsM m)) := by
          show SRow w1 V.heap.size v (wordsM m)
          refine cast (congrArg (SRow w1 V.heap.size v) ?_) HR1.out
          rw [← HWA.out]
          simp [wordsM, endW, htz, hrn, hft]
        clear HR1 HWA
        go_wp2_with fail
        refine (HJ.out _ _ _ HL.out).mono ?_
        rintro e wz ⟨rfl, hbz⟩
        go_wp2
        go_ret
        exact ⟨rfl, HBV.out.trans ((HB1.out.trans (hbz.mono HB1.out.size)).mono HBV.out.size)⟩
      · rw [hft] at c2
        have HC := sone_cell w1 [102, 97, 117, 108, 116]
        have hbs : V.heap.size ≤ w1.heap.size := HB1.out.size
        go_wp2_with (refine wpList_sapp _ rfl _ _ rfl V.heap.size _ _ [[102, 97, 117, 108, 116]] rfl (HR1.out.to ((Below.refl _ _).alloc (Nat.le_refl _) _)) w1.heap.size 1 rfl HC (by simp; omega) (by simp; omega) ?_)
        intro vf w1f HR1f hb1f
        have HB1f : Hid (Below V.heap.size V w1f) := (HB1.out.alloc HB1.out.size _).trans hb1f.out
        clear HC hbs hb1f HR1 HB1
        have HL : Hid (SRow w1f V.heap.size vf (wordsM m)) := by
          show SRow w1f V.heap.size vf (wordsM m)
          refine cast (congrArg (SRow w1f V.heap.size vf) ?_) HR1f.out
          rw [← HWA.out]
          simp [wordsM, endW, htz, hrn, hft, faultT]
        clear HR1f HWA
        go_wp2_with fail
        refine (HJ.out _ _ _ HL.out).mono ?_
        rintro e wz ⟨rfl, hbz⟩
        go_wp2
        go_ret
        exact ⟨rfl, HBV.out.trans ((HB1f.out.trans (hbz.mono HB1f.out.size)).mono HBV.out.size)⟩
    · rw [hrn] at c1
      have HC := sone_cell w1 [114, 97, 110]
      have hbs : V.heap.size ≤ w1.heap.size := HB1.out.size
      go_wp2_with (refine wpList_sapp _ rfl _ _ rfl V.heap.size _ _ [[114, 97, 110]] rfl (HR1.out.to ((Below.refl _ _).alloc (Nat.le_refl _) _)) w1.heap.size 1 rfl HC (by simp; omega) (by simp; omega) ?_)
      intro vr w1r HR1r hb1r
      have HB1r : Hid (Below V.heap.size V w1r) := (HB1.out.alloc HB1.out.size _).trans hb1r.out
      clear HC hbs hb1r HR1 HB1
      go_upto_region 6 with fail
      have c2 := (HM0.out.to HB1r.out).cell (i := 135) (by omega)
      rw [show m.cell 135 = .bool m.fault from rfl] at c2
      cases hft : m.fault
      · rw [hft] at c2
        have HL : Hid (SRow w1r V.heap.size vr (wordsM m)) := by
          show SRow w1r V.heap.size vr (wordsM m)
          refine cast (congrArg (SRow w1r V.heap.size vr) ?_) HR1r.out
          rw [← HWA.out]
          simp [wordsM, endW, htz, hrn, ranT, hft]
        clear HR1r HWA
        go_wp2_with fail
        refine (HJ.out _ _ _ HL.out).mono ?_
        rintro e wz ⟨rfl, hbz⟩
        go_wp2
        go_ret
        exact ⟨rfl, HBV.out.trans ((HB1r.out.trans (hbz.mono HB1r.out.size)).mono HBV.out.size)⟩
      · rw [hft] at c2
        have HC := sone_cell w1r [102, 97, 117, 108, 116]
        have hbs : V.heap.size ≤ w1r.heap.size := HB1r.out.size
        go_wp2_with (refine wpList_sapp _ rfl _ _ rfl V.heap.size _ _ [[102, 97, 117, 108, 116]] rfl (HR1r.out.to ((Below.refl _ _).alloc (Nat.le_refl _) _)) w1r.heap.size 1 rfl HC (by simp; omega) (by simp; omega) ?_)
        intro vf w1rf HR1rf hb1rf
        have HB1rf : Hid (Below V.heap.size V w1rf) := (HB1r.out.alloc HB1r.out.size _).trans hb1rf.out
        clear HC hbs hb1rf HR1r HB1r
        have HL : Hid (SRow w1rf V.heap.size vf (wordsM m)) := by
          show SRow w1rf V.heap.size vf (wordsM m)
          refine cast (congrArg (SRow w1rf V.heap.size vf) ?_) HR1rf.out
          rw [← HWA.out]
          simp [wordsM, endW, htz, hrn, ranT, hft, faultT]
        clear HR1rf HWA
        go_wp2_with fail
        refine (HJ.out _ _ _ HL.out).mono ?_
        rintro e wz ⟨rfl, hbz⟩
        go_wp2
        go_ret
        exact ⟨rfl, HBV.out.trans ((HB1rf.out.trans (hbz.mono HB1rf.out.size)).mono HBV.out.size)⟩
  · have hz : ((m.time : Int) != 0) = true := by simp; omega
    have hz1 : ¬ (m.time : Int) = 0 := by omega
    have htp : 0 < m.time := by omega
    go_wp2_with fail
    refine (fmtU_any m.time (by omega) _ (HP0.out.to HB1.out)).mono ?_
    rintro e wb ⟨rfl, hbb⟩
    have HBb : Hid (Below V.heap.size V wb) := HB1.out.trans (hbb.mono HB1.out.size)
    have HRb : Hid (SRow wb V.heap.size v la) := HR1.out.to hbb
    clear hbb HB1 HR1
    have HC := sone_cell wb (timeT m)
    rw [show (⟨(timeT m).toArray⟩ : ByteArray) = ⟨#[116, 105, 109, 101, 61]⟩ ++ ⟨(Lib.itoa (m.time : Int)).toArray⟩ from (cat [116, 105, 109, 101, 61] _).symm] at HC
    have hbs : V.heap.size ≤ wb.heap.size := HBb.out.size
    go_wp2_with (refine wpList_sapp _ rfl _ _ rfl V.heap.size _ _ [timeT m] rfl (HRb.out.to ((Below.refl _ _).alloc (Nat.le_refl _) _)) wb.heap.size 1 rfl HC (by simp; omega) (by simp; omega) ?_)
    intro vt wt HRt hbt
    have HBt : Hid (Below V.heap.size V wt) := (HBb.out.alloc HBb.out.size _).trans hbt.out
    clear HC hbs hbt HRb HBb
    go_upto_region 4 with fail
    have c1 := (HM0.out.to HBt.out).cell (i := 134) (by omega)
    rw [show m.cell 134 = .bool m.ran from rfl] at c1
    cases hrn : m.ran
    · rw [hrn] at c1
      go_upto_region 6 with fail
      have c2 := (HM0.out.to HBt.out).cell (i := 135) (by omega)
      rw [show m.cell 135 = .bool m.fault from rfl] at c2
      cases hft : m.fault
      · rw [hft] at c2
        have HL : Hid (SRow wt V.heap.size vt (wordsM m)) := by
          show SRow wt V.heap.size vt (wordsM m)
          refine cast (congrArg (SRow wt V.heap.size vt) ?_) HRt.out
          rw [← HWA.out]
          simp [wordsM, endW, htp, hrn, hft]
        clear HRt HWA
        go_wp2_with fail
        refine (HJ.out _ _ _ HL.out).mono ?_
        rintro e wz ⟨rfl, hbz⟩
        go_wp2
        go_ret
        exact ⟨rfl, HBV.out.trans ((HBt.out.trans (hbz.mono HBt.out.size)).mono HBV.out.size)⟩
      · rw [hft] at c2
        have HC := sone_cell wt [102, 97, 117, 108, 116]
        have hbs : V.heap.size ≤ wt.heap.size := HBt.out.size
        go_wp2_with (refine wpList_sapp _ rfl _ _ rfl V.heap.size _ _ [[102, 97, 117, 108, 116]] rfl (HRt.out.to ((Below.refl _ _).alloc (Nat.le_refl _) _)) wt.heap.size 1 rfl HC (by simp; omega) (by simp; omega) ?_)
        intro vf wtf HRtf hbtf
        have HBtf : Hid (Below V.heap.size V wtf) := (HBt.out.alloc HBt.out.size _).trans hbtf.out
        clear HC hbs hbtf HRt HBt
        have HL : Hid (SRow wtf V.heap.size vf (wordsM m)) := by
          show SRow wtf V.heap.size vf (wordsM m)
          refine cast (congrArg (SRow wtf V.heap.size vf) ?_) HRtf.out
          rw [← HWA.out]
          simp [wordsM, endW, htp, hrn, hft, faultT]
        clear HRtf HWA
        go_wp2_with fail
        refine (HJ.out _ _ _ HL.out).mono ?_
        rintro e wz ⟨rfl, hbz⟩
        go_wp2
        go_ret
        exact ⟨rfl, HBV.out.trans ((HBtf.out.trans (hbz.mono HBtf.out.size)).mono HBV.out.size)⟩
    · rw [hrn] at c1
      have HC := sone_cell wt [114, 97, 110]
      have hbs : V.heap.size ≤ wt.heap.size := HBt.out.size
      go_wp2_with (refine wpList_sapp _ rfl _ _ rfl V.heap.size _ _ [[114, 97, 110]] rfl (HRt.out.to ((Below.refl _ _).alloc (Nat.le_refl _) _)) wt.heap.size 1 rfl HC (by simp; omega) (by simp; omega) ?_)
      intro vr wtr HRtr hbtr
      have HBtr : Hid (Below V.heap.size V wtr) := (HBt.out.alloc HBt.out.size _).trans hbtr.out
      clear HC hbs hbtr HRt HBt
      go_upto_region 6 with fail
      have c2 := (HM0.out.to HBtr.out).cell (i := 135) (by omega)
      rw [show m.cell 135 = .bool m.fault from rfl] at c2
      cases hft : m.fault
      · rw [hft] at c2
        have HL : Hid (SRow wtr V.heap.size vr (wordsM m)) := by
          show SRow wtr V.heap.size vr (wordsM m)
          refine cast (congrArg (SRow wtr V.heap.size vr) ?_) HRtr.out
          rw [← HWA.out]
          simp [wordsM, endW, htp, hrn, ranT, hft]
        clear HRtr HWA
        go_wp2_with fail
        refine (HJ.out _ _ _ HL.out).mono ?_
        rintro e wz ⟨rfl, hbz⟩
        go_wp2
        go_ret
        exact ⟨rfl, HBV.out.trans ((HBtr.out.trans (hbz.mono HBtr.out.size)).mono HBV.out.size)⟩
      · rw [hft] at c2
        have HC := sone_cell wtr [102, 97, 117, 108, 116]
        have hbs : V.heap.size ≤ wtr.heap.size := HBtr.out.size
        go_wp2_with (refine wpList_sapp _ rfl _ _ rfl V.heap.size _ _ [[102, 97, 117, 108, 116]] rfl (HRtr.out.to ((Below.refl _ _).alloc (Nat.le_refl _) _)) wtr.heap.size 1 rfl HC (by simp; omega) (by simp; omega) ?_)
        intro vf wtrf HRtrf hbtrf
        have HBtrf : Hid (Below V.heap.size V wtrf) := (HBtr.out.alloc HBtr.out.size _).trans hbtrf.out
        clear HC hbs hbtrf HRtr HBtr
        have HL : Hid (SRow wtrf V.heap.size vf (wordsM m)) := by
          show SRow wtrf V.heap.size vf (wordsM m)
          refine cast (congrArg (SRow wtrf V.heap.size vf) ?_) HRtrf.out
          rw [← HWA.out]
          simp [wordsM, endW, htp, hrn, ranT, hft, faultT]
        clear HRtrf HWA
        go_wp2_with fail
        refine (HJ.out _ _ _ HL.out).mono ?_
        rintro e wz ⟨rfl, hbz⟩
        go_wp2
        go_ret
        exact ⟨rfl, HBV.out.trans ((HBtrf.out.trans (hbz.mono HBtrf.out.size)).mono HBV.out.size)⟩
end Go.Proofs.YtlflihegadjpdaaDoor

/- A bit of a memory put, as plain mathematics. Helper text: no statement is claimed here. -/
namespace Go.Proofs.YtlflihegadjpdaaDoor
open Go.ChangeShapes Go.WideShapes Go.ChangeAt Go.RowKit

/-- The memory with one bit of a word turned. -/
def Mm.turn (m : Mm) (k n : Int) (b : Bool) : Mm :=
  if k = 1 then { m with x := putN m.x (plc 1 n).toNat b } else
  if k = 2 then { m with y := putN m.y (plc 2 n).toNat b } else
  if k = 3 then { m with m := putN m.m (plc 3 n).toNat b } else
  if k = 4 then { m with s := putN m.s (plc 4 n).toNat b } else
  if k = 5 then { m with e := putN m.e (plc 5 n).toNat b } else
  m
/-- What MemPut answers: inputs stay. -/
def Mm.putB (m : Mm) (k n : Int) (b : Bool) : Mm := if k = 1 then m else m.turn k n b
theorem wrap_u32n (n : Nat) (h : n < 4294967296) : IntKind.u32.wrap (n : Int) = n := by rw [IntKind.wrap_u32]; omega
theorem wrap_u16n (n : Nat) (h : n < 65536) : IntKind.u16.wrap (n : Int) = n := by rw [IntKind.wrap_u16]; omega
theorem set_x (m : Mm) (q i : Nat) : (if i = 0 then Value.int .u32 (q : Int) else m.cell i) = ({ m with x := q } : Mm).cell i := by
  by_cases h : i < 5
  · have : i = 0 ∨ i = 1 ∨ i = 2 ∨ i = 3 ∨ i = 4 := by omega
    rcases this with rfl | rfl | rfl | rfl | rfl <;> rfl
  · rw [if_neg (by omega)]
    unfold Mm.cell
    rw [if_neg h, if_neg h]
    rfl
theorem set_y (m : Mm) (q i : Nat) : (if i = 1 then Value.int .u32 (q : Int) else m.cell i) = ({ m with y := q } : Mm).cell i := by
  by_cases h : i < 5
  · have : i = 0 ∨ i = 1 ∨ i = 2 ∨ i = 3 ∨ i = 4 := by omega
    rcases this with rfl | rfl | rfl | rfl | rfl <;> rfl
  · rw [if_neg (by omega)]
    unfold Mm.cell
    rw [if_neg h, if_neg h]
    rfl
theorem set_m (m : Mm) (q i : Nat) : (if i = 2 then Value.int .u64 (q : Int) else m.cell i) = ({ m with m := q } : Mm).cell i := by
  by_cases h : i < 5
  · have : i = 0 ∨ i = 1 ∨ i = 2 ∨ i = 3 ∨ i = 4 := by omega
    rcases this with rfl | rfl | rfl | rfl | rfl <;> rfl
  · rw [if_neg (by omega)]
    unfold Mm.cell
    rw [if_neg h, if_neg h]
    rfl
theorem set_s (m : Mm) (q i : Nat) : (if i = 3 then Value.int .u16 (q : Int) else m.cell i) = ({ m with s := q } : Mm).cell i := by
  by_cases h : i < 5
  · have : i = 0 ∨ i = 1 ∨ i = 2 ∨ i = 3 ∨ i = 4 := by omega
    rcases this with rfl | rfl | rfl | rfl | rfl <;> rfl
  · rw [if_neg (by omega)]
    unfold Mm.cell
    rw [if_neg h, if_neg h]
    rfl
theorem set_e (m : Mm) (q i : Nat) : (if i = 4 then Value.int .u32 (q : Int) else m.cell i) = ({ m with e := q } : Mm).cell i := by
  by_cases h : i < 5
  · have : i = 0 ∨ i = 1 ∨ i = 2 ∨ i = 3 ∨ i = 4 := by omega
    rcases this with rfl | rfl | rfl | rfl | rfl <;> rfl
  · rw [if_neg (by omega)]
    unfold Mm.cell
    rw [if_neg h, if_neg h]
    rfl
theorem turn_x (m : Mm) (n : Int) (b : Bool) : m.turn 1 n b = { m with x := putN m.x (plc 1 n).toNat b } := by
  unfold Mm.turn
  rfl
theorem turn_y (m : Mm) (n : Int) (b : Bool) : m.turn 2 n b = { m with y := putN m.y (plc 2 n).toNat b } := by
  unfold Mm.turn
  rfl
theorem turn_m (m : Mm) (n : Int) (b : Bool) : m.turn 3 n b = { m with m := putN m.m (plc 3 n).toNat b } := by
  unfold Mm.turn
  rfl
theorem turn_s (m : Mm) (n : Int) (b : Bool) : m.turn 4 n b = { m with s := putN m.s (plc 4 n).toNat b } := by
  unfold Mm.turn
  rfl
theorem turn_e (m : Mm) (n : Int) (b : Bool) : m.turn 5 n b = { m with e := putN m.e (plc 5 n).toNat b } := by
  unfold Mm.turn
  rfl
theorem turn_no (m : Mm) (k n : Int) (b : Bool) (h : k ≠ 1 ∧ k ≠ 2 ∧ k ≠ 3 ∧ k ≠ 4 ∧ k ≠ 5) : m.turn k n b = m := by
  unfold Mm.turn
  rw [if_neg h.1, if_neg h.2.1, if_neg h.2.2.1, if_neg h.2.2.2.1, if_neg h.2.2.2.2]
theorem turn_real (m : Mm) (k n : Int) (b : Bool) (i : Nat) : m.r i = (m.turn k n b).r i := by
  unfold Mm.turn
  repeat' split
  all_goals rfl
theorem putB_real (m : Mm) (k n : Int) (b : Bool) (i : Nat) : m.r i = (m.putB k n b).r i := by
  unfold Mm.putB
  split
  · rfl
  · exact turn_real m k n b i
theorem putB_none (m : Mm) (k n : Int) (b : Bool) (h : k < 2 ∨ 5 < k) : m.putB k n b = m := by
  unfold Mm.putB Mm.turn
  by_cases h1 : k = 1
  · rw [if_pos h1]
  · rw [if_neg h1, if_neg h1, if_neg (by omega), if_neg (by omega), if_neg (by omega), if_neg (by omega)]
theorem putB_ok {m : Mm} {k n : Int} {b : Bool} (h : m.Ok) : (m.putB k n b).Ok := by
  by_cases h2 : k < 2 ∨ 5 < k
  · rw [putB_none m k n b h2]; exact h
  have hb : ∀ i : Int, 0 ≤ plc i n ∧ (plc i n < sz4 i ∨ plc i n = 0) := fun i => plc_range i n
  have : k = 2 ∨ k = 3 ∨ k = 4 ∨ k = 5 := by omega
  rcases this with rfl | rfl | rfl | rfl
  · have q := hb 2
    rw [show sz4 2 = 32 from rfl] at q
    exact { h with hy := putN_lt (n := 32) b (by omega) h.hy }
  · have q := hb 3
    rw [show sz4 3 = 64 from rfl] at q
    exact { h with hm := putN_lt (n := 64) b (by omega) h.hm }
  · have q := hb 4
    rw [show sz4 4 = 16 from rfl] at q
    exact { h with hs := putN_lt (n := 16) b (by omega) h.hs }
  · have q := hb 5
    rw [show sz4 5 = 32 from rfl] at q
    exact { h with he := putN_lt (n := 32) b (by omega) h.he }
end Go.Proofs.YtlflihegadjpdaaDoor

/- The place of an operand, counted round: the document's side. Helper text: no statement is claimed here. -/
namespace Go.Proofs.YtlflihegadjpdaaDoor
open Go.ChangeShapes Go.WideShapes Go.ChangeAt Go.RowKit

set_option maxHeartbeats 1000000 in
theorem at_any (k n p : Int) (w : World) :
    Calls Tryd.prog 37 #[.agg #[.int .i64 k, .int .i64 n, .int .i64 p]] w fun e w' => e = .returned (.int .i64 (plc k n)) ∧ Below w.heap.size w w' := by
  go_enter Tryd.func37, Tryd.ntmps37
  go_wp2_with fail
  refine (ssize_any k _).mono ?_
  rintro e w1 ⟨rfl, rfl⟩
  have HB1 : Hid (Below w.heap.size w (w.alloc (.cells #[.int .i64 k, .int .i64 n, .int .i64 p] 58))) := one w _
  by_cases h6 : k = 6
  · subst h6
    have hs : (0 : Int) < 8 := by decide
    have hsm := tmod_small (n := n) hs
    have hwr : IntKind.i64.wrap (n.tmod 8) = n.tmod 8 := wrap_small (by omega) (by omega)
    by_cases hn : n.tmod 8 < 0
    · have hw2 : IntKind.i64.wrap (n.tmod 8 + 8) = n.tmod 8 + 8 := wrap_small (by omega) (by omega)
      have HE : Hid (n.tmod 8 + 8 = n % 8) := tmod_neg hs hn
      go_wp2
      go_ret
      refine ⟨?_, HB1.out⟩
      rw [show plc 6 n = n % 8 from rfl, ← HE.out]
      rfl
    · have HE : Hid (n.tmod 8 = n % 8) := tmod_pos hs hn
      go_wp2
      go_ret
      refine ⟨?_, HB1.out⟩
      rw [show plc 6 n = n % 8 from rfl, ← HE.out]
      rfl
  · have hk : (k == 6) = false := by simpa using h6
    have hr : sz4 k = rN (kz k) := if_neg h6
    have HP : Hid (plc k n = if sz4 k = 0 then 0 else n % sz4 k) := rfl
    rw [hr] at HP
    rcases plc_s k h6 with h | h | h | h
    · rw [h] at HP ⊢
      clear hr h
      go_wp2
      go_ret
      exact ⟨by rw [show plc k n = 0 from HP.out]; rfl, HB1.out⟩
    · rw [h] at HP ⊢
      clear hr h
      have hs : (0 : Int) < 16 := by decide
      have hsm := tmod_small (n := n) hs
      have hwr : IntKind.i64.wrap (n.tmod 16) = n.tmod 16 := wrap_small (by omega) (by omega)
      by_cases hn : n.tmod 16 < 0
      · have hw2 : IntKind.i64.wrap (n.tmod 16 + 16) = n.tmod 16 + 16 := wrap_small (by omega) (by omega)
        have HE : Hid (n.tmod 16 + 16 = n % 16) := tmod_neg hs hn
        go_wp2
        go_ret
        refine ⟨?_, HB1.out⟩
        rw [show plc k n = n % 16 from HP.out, ← HE.out]
        rfl
      · have HE : Hid (n.tmod 16 = n % 16) := tmod_pos hs hn
        go_wp2
        go_ret
        refine ⟨?_, HB1.out⟩
        rw [show plc k n = n % 16 from HP.out, ← HE.out]
        rfl
    · rw [h] at HP ⊢
      clear hr h
      have hs : (0 : Int) < 32 := by decide
      have hsm := tmod_small (n := n) hs
      have hwr : IntKind.i64.wrap (n.tmod 32) = n.tmod 32 := wrap_small (by omega) (by omega)
      by_cases hn : n.tmod 32 < 0
      · have hw2 : IntKind.i64.wrap (n.tmod 32 + 32) = n.tmod 32 + 32 := wrap_small (by omega) (by omega)
        have HE : Hid (n.tmod 32 + 32 = n % 32) := tmod_neg hs hn
        go_wp2
        go_ret
        refine ⟨?_, HB1.out⟩
        rw [show plc k n = n % 32 from HP.out, ← HE.out]
        rfl
      · have HE : Hid (n.tmod 32 = n % 32) := tmod_pos hs hn
        go_wp2
        go_ret
        refine ⟨?_, HB1.out⟩
        rw [show plc k n = n % 32 from HP.out, ← HE.out]
        rfl
    · rw [h] at HP ⊢
      clear hr h
      have hs : (0 : Int) < 64 := by decide
      have hsm := tmod_small (n := n) hs
      have hwr : IntKind.i64.wrap (n.tmod 64) = n.tmod 64 := wrap_small (by omega) (by omega)
      by_cases hn : n.tmod 64 < 0
      · have hw2 : IntKind.i64.wrap (n.tmod 64 + 64) = n.tmod 64 + 64 := wrap_small (by omega) (by omega)
        have HE : Hid (n.tmod 64 + 64 = n % 64) := tmod_neg hs hn
        go_wp2
        go_ret
        refine ⟨?_, HB1.out⟩
        rw [show plc k n = n % 64 from HP.out, ← HE.out]
        rfl
      · have HE : Hid (n.tmod 64 = n % 64) := tmod_pos hs hn
        go_wp2
        go_ret
        refine ⟨?_, HB1.out⟩
        rw [show plc k n = n % 64 from HP.out, ← HE.out]
        rfl
end Go.Proofs.YtlflihegadjpdaaDoor

/- One bit of a word, asked and put, on both sides. Helper text: no statement is claimed here. -/
namespace Go.Proofs.YtlflihegadjpdaaDoor
open Go.ChangeShapes Go.WideShapes Go.ChangeAt Go.RowKit

set_option maxHeartbeats 400000 in
theorem sbit_any (W k : Nat) (w : World) (hW : W < 18446744073709551616) (hk : k ≤ 64) :
    Calls Tryd.prog 59 #[.int .u64 W, .int .i64 k] w fun e w' => e = .returned (.bool (bitN W k)) ∧ w' = w := by
  go_enter Tryd.func59, Tryd.ntmps59
  go_wp2
  go_loop [0, 5] (fun t c => ∃ u j : Nat, j ≤ k ∧ t = .int .u64 (u : Int) ∧ c = .int .i64 (j : Int) ∧ Hid (u = W / 2 ^ j)) (fun _ c => k - (intOf c).toNat)
  case atStart => exact ⟨W, 0, by omega, rfl, rfl, by show _ = _; simp⟩
  case round =>
    obtain ⟨u, j, hj, rfl, rfl, HU⟩ := hrel
    have hu : u < 18446744073709551616 := by rw [HU.out]; exact Nat.lt_of_le_of_lt (Nat.div_le_self _ _) hW
    by_cases hlt : j < k
    · have hlt' : (j : Int) < (k : Int) := by omega
      obtain ⟨u2, hu2⟩ : ∃ u2 : Nat, u2 = u / 2 := ⟨_, rfl⟩
      have h1 : (u : Int).tdiv 2 = (u2 : Int) := by rw [Int.tdiv_eq_ediv_of_nonneg (by omega)]; omega
      have h2 : IntKind.u64.wrap (u2 : Int) = (u2 : Int) := wrap_u64n u2 (by omega)
      have HU2 : Hid (u2 = W / 2 ^ (j + 1)) := by show _ = _; rw [hu2, HU.out, Nat.div_div_eq_div_mul, Nat.pow_succ]
      clear hu2 HU
      go_wp2
      exact ⟨⟨u2, j + 1, by omega, rfl, by go_num, HU2⟩, by simp [intOf]; omega⟩
    · obtain rfl : j = k := by omega
      obtain ⟨r, hr⟩ : ∃ r : Nat, r = u % 2 := ⟨_, rfl⟩
      have h1 : (u : Int).tmod 2 = (r : Int) := by rw [Int.tmod_eq_emod_of_nonneg (by omega)]; omega
      have h2 : IntKind.u64.wrap (r : Int) = (r : Int) := wrap_u64n r (by omega)
      have HR : Hid (((r : Int) == 1) = bitN W j) := by
        show _ = _
        rw [bitN, ← HU.out, ← hr]
        by_cases h : r = 1
        · subst h; rfl
        · have : ¬ (r : Int) = 1 := by omega
          simp [h, this]
      clear hr HU
      go_wp2
      go_ret
      exact ⟨ret_bool4 HR.out, rfl⟩

end Go.Proofs.YtlflihegadjpdaaDoor

/- A word with one bit put, the document's. Helper text: no statement is claimed here. -/
namespace Go.Proofs.YtlflihegadjpdaaDoor
open Go.ChangeShapes Go.WideShapes Go.ChangeAt Go.RowKit

set_option maxHeartbeats 400000 in
theorem sturn_any (W k : Nat) (b : Bool) (w : World) (hW : W < 18446744073709551616) (hk : k < 64) :
    Calls Tryd.prog 38 #[.int .u64 W, .int .i64 k, .bool b] w fun e w' => e = .returned (.int .u64 (putN W k b : Nat)) ∧ w' = w := by
  have HB : Hid (∀ w, Calls Tryd.prog 59 #[.int .u64 W, .int .i64 k] w fun e w' => e = .returned (.bool (bitN W k)) ∧ w' = w) := fun w => sbit_any W k w hW (by omega)
  have HP : Hid (∀ q, q = putN W k b → (bitN W k = b → q = W) ∧ (bitN W k = !b → b = true → q = W + 2 ^ k) ∧ (bitN W k = !b → b = false → q = W - 2 ^ k ∧ 2 ^ k ≤ W)) := by
    rintro q rfl
    refine ⟨fun h => ?_, fun h hb => ?_, fun h hb => ?_⟩
    · unfold putN; rw [if_pos h]
    · unfold putN; rw [if_neg (by rw [h]; cases b <;> simp), if_pos hb]
    · refine ⟨?_, ?_⟩
      · unfold putN; rw [if_neg (by rw [h]; cases b <;> simp), if_neg (by simp [hb])]
      · subst hb
        rw [bitN_test] at h
        exact two_pow_le_of_test (by simpa using h)
  have HL : Hid (putN W k b < 18446744073709551616) := putN_lt (n := 64) b hk hW
  generalize hq : putN W k b = q at *
  have HPq := HP.out q rfl
  clear HP hq
  generalize hc : bitN W k = c at *
  by_cases hcb : c = b
  · obtain rfl : q = W := HPq.1 hcb
    subst hcb
    clear HPq
    have hcc : (c == c) = true := by cases c <;> rfl
    go_enter Tryd.func38, Tryd.ntmps38
    go_wp2_with fail
    refine (HB.out _).mono ?_
    rintro e w1 ⟨rfl, rfl⟩
    go_wp2
    go_ret
    exact ⟨rfl, rfl⟩
  · have hcn : c = !b := by cases b <;> cases c <;> first | rfl | exact absurd rfl hcb
    have hcc : (c == b) = false := by cases b <;> cases c <;> first | rfl | exact absurd rfl hcb
    have HQ : Hid ((b = true → q = W + 2 ^ k) ∧ (b = false → q = W - 2 ^ k ∧ 2 ^ k ≤ W)) := ⟨HPq.2.1 hcn, HPq.2.2 hcn⟩
    clear HPq hcn hcb hc
    go_enter Tryd.func38, Tryd.ntmps38
    go_wp2_with fail
    refine (HB.out _).mono ?_
    rintro e w1 ⟨rfl, rfl⟩
    clear HB
    go_wp2
    go_loop [7, 8] (fun t i => ∃ u j : Nat, j ≤ k ∧ t = .int .u64 (u : Int) ∧ i = .int .i64 (j : Int) ∧ Hid (u = 2 ^ j)) (fun _ i => k - (intOf i).toNat)
    case atStart => exact ⟨1, 0, by omega, rfl, rfl, (Nat.pow_zero 2).symm⟩
    case round =>
      obtain ⟨u, j, hj, rfl, rfl, HU⟩ := hrel
      by_cases hlt : j < k
      · have hlt' : (j : Int) < (k : Int) := by omega
        obtain ⟨u2, hu2⟩ : ∃ u2 : Nat, u2 = 2 ^ (j + 1) := ⟨_, rfl⟩
        have hu3 : u2 = u * 2 := by rw [hu2, HU.out, Nat.pow_succ]
        have h1 : (u : Int) * 2 = (u2 : Int) := by omega
        have h2 : IntKind.u64.wrap (u2 : Int) = (u2 : Int) := wrap_u64n u2 (by rw [hu2]; exact pow_lt64 (by omega))
        have HU2 : Hid (u2 = 2 ^ (j + 1)) := hu2
        clear hu2 hu3 HU
        go_wp2
        exact ⟨⟨u2, j + 1, by omega, rfl, by go_num, HU2⟩, by simp [intOf]; omega⟩
      · obtain rfl : j = k := by omega
        have HQ2 := HQ.out
        rw [← HU.out] at HQ2
        cases b
        · obtain ⟨e1, e2⟩ := HQ2.2 rfl
          have h1 : (W : Int) - (u : Int) = (q : Int) := by omega
          have h2 : IntKind.u64.wrap (q : Int) = (q : Int) := wrap_u64n q HL.out
          clear e1 e2 HQ2 HQ HU
          go_wp2
          go_ret
          exact ⟨rfl, rfl⟩
        · have e1 := HQ2.1 rfl
          have h1 : (W : Int) + (u : Int) = (q : Int) := by omega
          have h2 : IntKind.u64.wrap (q : Int) = (q : Int) := wrap_u64n q HL.out
          clear e1 HQ2 HQ HU
          go_wp2
          go_ret
          exact ⟨rfl, rfl⟩

end Go.Proofs.YtlflihegadjpdaaDoor
