/- The words' real numbers: Inf, Copysign, realWords. Helper text: no statement is claimed here. -/
import Derived.Test.YtjacgamgjjpllaaGreatDoorP03
import Derived.WalkSmall
namespace Go.Proofs.YtjacgamgjjpllaaGreatDoor
open Go.ChangeShapes Go.WideShapes Go.ChangeAt Go.RowKit Fl

theorem store_float (P : Program) (w : World) (a : Addr) (k : FloatKind) (b : Nat) (m : Mode) : (store a (.float k b) m).run P w = stored P w a (.float k b) m := run_store P w a _ m rfl
theorem unary_negA (k : FloatKind) (b : Nat) : Op.unary .neg (.float k b) = pure (.float k (Op.negFloat k b)) := rfl
theorem frombits (n : Int) (w : World) : (callFunc 167 #[.int .u64 n]).run Tryz.prog w = .ok (.value (.float .f64 n.toNat)) w := by
  rw [run_callFunc_extern Tryz.func167 (by kernel_rfl) (by kernel_rfl) (by kernel_rfl) (e := Extern.MathFloatBits.float64frombits) (by kernel_rfl)]
  rfl
theorem tobits (n : Nat) (w : World) : (callFunc 168 #[.float .f64 n]).run Tryz.prog w = .ok (.value (.int .u64 n)) w := by
  rw [run_callFunc_extern Tryz.func168 (by kernel_rfl) (by kernel_rfl) (by kernel_rfl) (e := Extern.MathFloatBits.float64bits) (by kernel_rfl)]
  rfl
section
attribute [local go_sem] frombits tobits
set_option maxHeartbeats 400000 in
theorem mathNaN_any (w : World) : Calls Tryz.prog 155 #[] w fun e w' => e = .returned (.float .f64 9221120237041090561) ∧ w' = w := by
  go_enter Tryz.func155, Tryz.ntmps155
  go_wp2
  go_ret
  exact ⟨rfl, rfl⟩
set_option maxHeartbeats 400000 in
theorem mathInf_up (w : World) : Calls Tryz.prog 156 #[.int .i64 1] w fun e w' => e = .returned (.float .f64 (wi false)) ∧ w' = w := by
  go_enter Tryz.func156, Tryz.ntmps156
  go_wp2
  go_ret
  exact ⟨rfl, rfl⟩
set_option maxHeartbeats 400000 in
theorem mathInf_down (w : World) : Calls Tryz.prog 156 #[.int .i64 (-1)] w fun e w' => e = .returned (.float .f64 (wi true)) ∧ w' = w := by
  go_enter Tryz.func156, Tryz.ntmps156
  go_wp2
  go_ret
  exact ⟨rfl, rfl⟩
set_option maxHeartbeats 400000 in
theorem mathCopy (w : World) : Calls Tryz.prog 157 #[.float .f64 0, .float .f64 13830554455654793216] w fun e w' => e = .returned (.float .f64 (wd true 0 0)) ∧ w' = w := by
  go_enter Tryz.func157, Tryz.ntmps157
  go_wp2
  go_ret
  exact ⟨rfl, rfl⟩
end
theorem nan_lib : nan 9221120237041090561 := by rfl
/-- Four cells of the call's own lie in block b. -/
def Own4 (w : World) (b : Nat) (x0 x1 x2 x3 : Value) : Prop :=
  (w.cell? ⟨b, 0, none⟩ = some x0 ∧ w.cell? ⟨b, 1, none⟩ = some x1 ∧ w.cell? ⟨b, 2, none⟩ = some x2 ∧ w.cell? ⟨b, 3, none⟩ = some x3) ∧ w.frozen? ⟨b, 0, none⟩ = false ∧ w.frozen? ⟨b, 1, none⟩ = false ∧ w.frozen? ⟨b, 2, none⟩ = false ∧ w.frozen? ⟨b, 3, none⟩ = false
theorem Own4.new (w : World) (x0 x1 x2 x3 : Value) (t : TypeId) : Own4 (w.alloc (.cells #[x0, x1, x2, x3] t)) w.heap.size x0 x1 x2 x3 := by
  refine ⟨⟨?_, ?_, ?_, ?_⟩, ?_, ?_, ?_, ?_⟩ <;> simp [go_sem]
theorem put4 {w1 : World} {b : Nat} {x0 x1 x2 x3 u0 u1 u2 u3 : Value} (hc : w1.cell? ⟨b, 0, none⟩ = some u0 ∧ w1.cell? ⟨b, 1, none⟩ = some u1 ∧ w1.cell? ⟨b, 2, none⟩ = some u2 ∧ w1.cell? ⟨b, 3, none⟩ = some u3) :
    let W := (((w1.setCell ⟨b, 0, none⟩ x0).setCell ⟨b, 1, none⟩ x1).setCell ⟨b, 2, none⟩ x2).setCell ⟨b, 3, none⟩ x3
    W.cell? ⟨b, 0, none⟩ = some x0 ∧ W.cell? ⟨b, 1, none⟩ = some x1 ∧ W.cell? ⟨b, 2, none⟩ = some x2 ∧ W.cell? ⟨b, 3, none⟩ = some x3 := by
  obtain ⟨h0, h1, h2, h3⟩ := hc
  have o : ∀ (w : World) (i j : Nat) (v : Value), i ≠ j → (w.setCell ⟨b, i, none⟩ v).cell? ⟨b, j, none⟩ = w.cell? ⟨b, j, none⟩ := fun w i j v _ => World.cell?_setCell_other _ _ _ _ (by simp)
  intro W
  refine ⟨?_, ?_, ?_, ?_⟩
  · rw [o _ 3 0 _ (by omega), o _ 2 0 _ (by omega), o _ 1 0 _ (by omega)]; exact World.cell?_setCell_same _ _ _ h0
  · rw [o _ 3 1 _ (by omega), o _ 2 1 _ (by omega)]; exact World.cell?_setCell_same _ _ _ ((o _ 0 1 _ (by omega)).trans h1)
  · rw [o _ 3 2 _ (by omega)]; exact World.cell?_setCell_same _ _ _ ((o _ 1 2 _ (by omega)).trans ((o _ 0 2 _ (by omega)).trans h2))
  · exact World.cell?_setCell_same _ _ _ ((o _ 2 3 _ (by omega)).trans ((o _ 1 3 _ (by omega)).trans ((o _ 0 3 _ (by omega)).trans h3)))
theorem res4 {fn : Func} {W : World} {b p : Nat} {tmps : Array Value} {x0 x1 x2 x3 : Value} (h : fn.results = #[.cell p 158]) (hp : tmps.getD p undef = .pointer (some ⟨b, 0, none⟩))
    (hc : W.cell? ⟨b, 0, none⟩ = some x0 ∧ W.cell? ⟨b, 1, none⟩ = some x1 ∧ W.cell? ⟨b, 2, none⟩ = some x2 ∧ W.cell? ⟨b, 3, none⟩ = some x3) : (results fn tmps).run Tryz.prog W = .ok (.agg #[x0, x1, x2, x3]) W := by
  obtain ⟨h0, h1, h2, h3⟩ := hc
  simp only [results, h]
  simp [go_sem]
  rw [show tmps[p]?.getD undef = .pointer (some ⟨b, 0, none⟩) by simpa [Array.getD_eq_getD_getElem?] using hp]
  simp [go_sem, h0, h1, h2, h3]

def wordsV : Value := .agg #[.float .f64 9221120237041090561, .float .f64 (wi false), .float .f64 (wi true), .float .f64 (wd true 0 0)]
section
attribute [local go_sem] store_float
set_option maxHeartbeats 400000 in
theorem words_any (w : World) : Calls Tryz.prog 129 #[] w fun e w' => e = .returned wordsV ∧ Below w.heap.size w w' := by
  go_enter Tryz.func129, Tryz.ntmps129
  go_wp2_with fail
  refine (mathNaN_any _).mono ?_
  rintro e w1 ⟨rfl, hw1⟩
  obtain ⟨c, z0, z1, z2, z3⟩ := Own4.new w (.float .f64 0) (.float .f64 0) (.float .f64 0) (.float .f64 0) 158
  have hb : Below w.heap.size w w1 := by rw [hw1]; exact (Below.refl _ _).alloc (Nat.le_refl _) _
  rw [← hw1] at c z0 z1 z2 z3
  clear hw1
  obtain ⟨c0, c1, c2, c3⟩ := c
  go_wp2_with fail
  refine (mathInf_up _).mono ?_
  rintro e w2 ⟨rfl, rfl⟩
  go_wp2_with fail
  refine (mathInf_down _).mono ?_
  rintro e w2 ⟨rfl, rfl⟩
  go_wp2_with fail
  refine (mathCopy _).mono ?_
  rintro e w2 ⟨rfl, rfl⟩
  go_wp2
  exact bodyPost_ret (v := wordsV) (res4 Tryz.results129 rfl (put4 ⟨c0, c1, c2, c3⟩)) rfl ⟨rfl, (((hb.setCell (Nat.le_refl _) _).setCell (Nat.le_refl _) _).setCell (Nat.le_refl _) _).setCell (Nat.le_refl _) _⟩
end
end Go.Proofs.YtjacgamgjjpllaaGreatDoor

/- Reading a real number: the program's RealRead. Helper text: no statement is claimed here. -/
namespace Go.Proofs.YtjacgamgjjpllaaGreatDoor
open Go.ChangeShapes Go.WideShapes Go.ChangeAt Go.RowKit Fl

def ReadR (t : List UInt8) (w : World) (e : Ending) (w' : World) : Prop := ∃ (x : Nat) (b : Bool), e = .returned (.tuple #[.float .f64 x, .bool b]) ∧ RdR t x b ∧ Below w.heap.size w w'
/-- The words' numbers and texts. -/
def wN : Nat → Nat | 0 => 9221120237041090561 | 1 => wi false | 2 => wi true | _ => wd true 0 0
def wT : Nat → List UInt8 | 0 => [110, 97, 110] | 1 => [105, 110, 102] | 2 => [45, 105, 110, 102] | _ => [45, 48]
theorem wN_text (j : Nat) : TextR (wN j) (wT j) := by
  match j with
  | 0 => exact .isnan nan_lib
  | 1 => exact .inf
  | 2 => exact .ninf
  | n + 3 => exact .nzero
theorem wN_lt (j : Nat) : wN j < 2 ^ 64 := by
  match j with
  | 0 => show 9221120237041090561 < _; omega
  | 1 => exact wi_lt _
  | 2 => exact wi_lt _
  | n + 3 => exact wd_lt sc00 (by omega) _
def wordsA : Value := .agg #[.float .f64 (wN 0), .float .f64 (wN 1), .float .f64 (wN 2), .float .f64 (wN 3)]
theorem wordsA_eq : wordsV = wordsA := rfl
theorem index_w (j : Nat) (hj : j < 4) (w : World) : Sem.run Tryz.prog (Instr.index 158 wordsA (.int .i64 (j : Int))) w = .ok (.float .f64 (wN j)) w := by
  have h : ∀ a b c d : Value, Sem.run Tryz.prog (Instr.index 158 (.agg #[a, b, c, d]) (.int .i64 0)) w = .ok a w ∧ Sem.run Tryz.prog (Instr.index 158 (.agg #[a, b, c, d]) (.int .i64 1)) w = .ok b w ∧
      Sem.run Tryz.prog (Instr.index 158 (.agg #[a, b, c, d]) (.int .i64 2)) w = .ok c w ∧ Sem.run Tryz.prog (Instr.index 158 (.agg #[a, b, c, d]) (.int .i64 3)) w = .ok d w :=
    fun a b c d => ⟨by kernel_rfl, by kernel_rfl, by kernel_rfl, by kernel_rfl⟩
  have := h (.float .f64 (wN 0)) (.float .f64 (wN 1)) (.float .f64 (wN 2)) (.float .f64 (wN 3))
  match j, hj with
  | 0, _ => exact this.1
  | 1, _ => exact this.2.1
  | 2, _ => exact this.2.2.1
  | 3, _ => exact this.2.2.2
/-- Where neither the guess nor a word has the text, no number has it. -/
theorem none_left {t tg : List UInt8} {g : Nat} (hG : GsR t g) (hT : TextR g tg) (hne : tg ≠ t) (hw : ∀ i, i < 4 → t ≠ wT i) : ∀ y, ¬ TextR y t := by
  intro y hy
  rcases hy.form with ⟨-, e⟩ | ⟨-, e⟩ | ⟨-, e⟩ | ⟨-, e⟩ | ⟨-, e⟩ | ⟨m, k, g1, g2, g3, -, e⟩ | ⟨m, k, g1, g2, g3, -, e⟩
  · exact hw 0 (by omega) e
  · exact hw 1 (by omega) e
  · exact hw 2 (by omega) e
  · have h0 := hG.2.2.1 e
    rw [h0] at hT
    exact hne ((hT.one (show TextR 0 [48] from TextR.zero)).trans e.symm)
  · exact hw 3 (by omega) e
  · have h0 := hG.2.2.2 false m k ⟨g1, g2, g3, e⟩
    rw [h0] at hT
    exact hne ((hT.one (TextR.pos g1 g2 g3)).trans e.symm)
  · have h0 := hG.2.2.2 true m k ⟨g1, g2, g3, e⟩
    rw [h0] at hT
    exact hne ((hT.one (TextR.neg g1 g2 g3)).trans e.symm)
theorem post_r {fn : Func} {t u : Tmp} {tmps : Array Value} {W : World} {x y : Value} (h : fn.results = #[.tmp t, .tmp u]) (h1 : tmps.getD t undef = x) (h2 : tmps.getD u undef = y) :
    (results fn tmps).run Tryz.prog W = .ok (.tuple #[x, y]) W := by
  rw [results_tmp2 h, h1, h2]

set_option maxHeartbeats 2000000 in
theorem irl_any (t : List UInt8) (w : World) (ht : t.length ≤ 1500000) (hL : LTab w) (hP : PowTab w) :
    Calls Tryz.prog 95 #[.string ⟨t.toArray⟩] w (ReadR t w) := by
  go_enter Tryz.func95, Tryz.ntmps95
  go_wp2_with fail
  refine (guess_any t _ ht hL).mono ?_
  rintro e w1 ⟨g, rfl, hg, hb1⟩
  have hx := hg.1
  have HG : Hid (GsR t g) := hg
  clear hg
  go_wp2_with fail
  refine (it_any g _ hx (hP.to hb1)).mono ?_
  rintro e w2 ⟨tg, rfl, htg, hb2⟩
  have HT : Hid (TextR g tg) := htg
  clear htg
  have hb12 := hb1.trans (hb2.mono hb1.size)
  by_cases he : tg = t
  · subst he
    go_wp2
    exact bodyPost_ret (v := .tuple #[.float .f64 g, .bool true]) (post_r Tryz.results95 rfl rfl) rfl ⟨g, true, rfl, ⟨hx, .inl ⟨rfl, HT.out⟩⟩, hb12⟩
  · have he' : (tg == t) = false := by simpa using he
    have HN : Hid (tg ≠ t) := he
    clear he
    go_wp2_with fail
    refine (words_any _).mono ?_
    rintro e w3 ⟨rfl, hb3⟩
    rw [wordsA_eq]
    have hb13 := hb12.trans (hb3.mono hb12.size)
    clear hb1 hb2 hb12 hb3
    generalize hWA : wordsA = WA at *
    have HW : Hid (wordsA = WA) := hWA
    clear hWA
    go_wp2
    go_loopw [15] (fun c w' => ∃ j : Nat, j ≤ 4 ∧ c = .int .i64 (j : Int) ∧ Below w.heap.size w w' ∧ ∀ i, i < j → t ≠ wT i) (fun c _ => 4 - (intOf c).toNat)
    case atStart => exact ⟨0, by omega, rfl, hb13, fun i hi => by omega⟩
    case round =>
      obtain ⟨j, hj, rfl, hbr, hno⟩ := hrel
      have HNO : Hid (∀ i, i < j → t ≠ wT i) := hno
      clear hno hb13
      by_cases hlt : j < 4
      · have hlt' : (j : Int) < 4 := by omega
        have hix : ∀ w : World, Sem.run Tryz.prog (Instr.index 158 WA (.int .i64 (j : Int))) w = .ok (.float .f64 (wN j)) w := fun w => by rw [← HW.out]; exact index_w j hlt w
        have hwl := wN_lt j
        have HWT : Hid (TextR (wN j) (wT j)) := wN_text j
        go_wp2_with fail
        refine (it_any (wN j) _ hwl (hP.to hbr)).mono ?_
        rintro e w4 ⟨tj, rfl, htj, hb4⟩
        obtain rfl : tj = wT j := htj.one HWT.out
        clear htj
        have hb14 := hbr.trans (hb4.mono hbr.size)
        by_cases hm : wT j = t
        · have hm' : (wT j == t) = true := by simpa using hm
          have HM : Hid (TextR (wN j) t) := by show TextR (wN j) t; rw [← hm]; exact HWT.out
          clear hm
          go_wp2
          exact bodyPost_ret (v := .tuple #[.float .f64 (wN j), .bool true]) (post_r Tryz.results95 rfl rfl) rfl ⟨wN j, true, rfl, ⟨hwl, .inl ⟨rfl, HM.out⟩⟩, hb14⟩
        · have hm' : (wT j == t) = false := by simpa using hm
          have HM : Hid (t ≠ wT j) := fun h => hm h.symm
          clear hm
          go_wp2
          refine ⟨⟨j + 1, by omega, by go_num, hb14, fun i hi => ?_⟩, by simp [intOf]; omega⟩
          rcases Nat.lt_or_ge i j with h | h
          · exact HNO.out i h
          · obtain rfl : i = j := by omega
            exact HM.out
      · have hlt' : ¬ (j : Int) < 4 := by omega
        have HZ : Hid (∀ y, ¬ TextR y t) := none_left HG.out HT.out HN.out (fun i hi => HNO.out i (by omega))
        go_wp2
        exact bodyPost_ret (v := .tuple #[.float .f64 0, .bool false]) (post_r Tryz.results95 rfl rfl) rfl ⟨0, false, rfl, ⟨by omega, .inr ⟨rfl, rfl, HZ.out⟩⟩, hbr⟩
end Go.Proofs.YtjacgamgjjpllaaGreatDoor

/- Reading a numeral, as the document does it: l9Find, l9Num. Helper text: no statement is claimed here. -/
namespace Go.Proofs.YtjacgamgjjpllaaGreatDoor
open Go.ChangeShapes Go.WideShapes Go.ChangeAt Go.RowKit Fl

theorem take_snocG (s : ByteArray) (k : Nat) (h : k < s.size) : s.data.toList.take (k + 1) = s.data.toList.take k ++ [s[k]] := by
  rw [List.take_succ_eq_append_getElem (by simpa using h)]; rfl
theorem split_atG (s : ByteArray) (k : Nat) (h : k < s.size) : s.data.toList = s.data.toList.take k ++ s[k] :: s.data.toList.drop (k + 1) := by
  have e := List.drop_eq_getElem_cons (l := s.data.toList) (i := k) (by simpa using h)
  conv => lhs; rw [← List.take_append_drop k s.data.toList, e]
  rfl
theorem ext_allG (s : ByteArray) (k : Nat) : (s.extract k s.size).data.toList = s.data.toList.drop k := by
  rw [ByteArray.data_extract]
  simp
  exact List.take_of_length_le (by simp)
theorem ext_toG (s : ByteArray) (k : Nat) : (s.extract 0 k).data.toList = s.data.toList.take k := by
  rw [ByteArray.data_extract]
  simp

def FoundS (l : List UInt8) (v : Int) : Prop := (v = -1 ∧ (42 : UInt8) ∉ l) ∨ ∃ l1 l2, l = l1 ++ 42 :: l2 ∧ (42 : UInt8) ∉ l1 ∧ v = l1.length
theorem u8_42 {c : UInt8} (h : (c.toNat : Int) = 42) : c = 42 := by
  apply UInt8.toNat.inj
  have : c.toNat = 42 := by omega
  rw [this]; rfl
set_option maxHeartbeats 400000 in
theorem findS_any (s : ByteArray) (w : World) (hs : s.size ≤ 2000000) :
    Calls Tryz.prog 58 #[.string s, .int .u8 42] w fun e w' => ∃ v : Int, e = .returned (.int .i64 v) ∧ w' = w ∧ FoundS s.data.toList v := by
  go_enter Tryz.func58, Tryz.ntmps58
  go_wp2
  go_loop [5] (fun i => ∃ k : Nat, k ≤ s.size ∧ i = .int .i64 k ∧ (42 : UInt8) ∉ s.data.toList.take k) (fun i => s.size - (intOf i).toNat)
  case atStart => exact ⟨0, Nat.zero_le _, rfl, by simp⟩
  case round =>
    obtain ⟨k, hk, rfl, hn⟩ := hrel
    have HN : Hid ((42 : UInt8) ∉ s.data.toList.take k) := hn
    clear hn
    by_cases hlt : k < s.size
    · by_cases h46 : s[k] = 42
      · have h1 : ((s[k].toNat : Int) == 42) = true := by rw [h46]; rfl
        have H46 : Hid (s[k] = 42) := h46
        clear h46
        go_wp2
        go_ret
        exact ⟨k, rfl, rfl, .inr ⟨s.data.toList.take k, s.data.toList.drop (k + 1), by have e := split_atG s k hlt; rw [H46.out] at e; exact e, HN.out, by simp; omega⟩⟩
      · have h1 : ((s[k].toNat : Int) == 42) = false := by
          rw [beq_eq_false_iff_ne]; intro e; exact h46 (u8_42 e)
        have H46 : Hid (s[k] ≠ 42) := h46
        clear h46
        go_wp2
        go_round
        case rel =>
          refine ⟨k + 1, by omega, by go_num, ?_⟩
          rw [take_snocG s k hlt]
          have a1 := HN.out
          have a2 := H46.out
          simp only [List.mem_append, List.mem_singleton, not_or]
          exact ⟨a1, fun e => a2 e.symm⟩
        case measure => simp [intOf]; omega
    · go_wp2
      go_ret
      refine ⟨-1, rfl, rfl, .inl ⟨rfl, ?_⟩⟩
      have a1 := HN.out
      rwa [List.take_of_length_le (by simp; omega)] at a1

/-- What the reading of a numeral answers. -/
def NumR (t : List UInt8) (n : Int) (b : Bool) : Prop := (b = true ∧ t = Lib.itoa n ∧ n.natAbs < 10 ^ 17) ∨ (b = false ∧ n = 0 ∧ ∀ z : Int, z.natAbs < 10 ^ 17 → t ≠ Lib.itoa z)
def Numd (t : List UInt8) (w : World) (e : Ending) (w' : World) : Prop := ∃ (n : Int) (b : Bool), e = .returned (.tuple #[.int .i64 n, .bool b]) ∧ NumR t n b ∧ w' = w
theorem itoa_parts {t l : List UInt8} {neg : Bool} {z : Int} (ht : t = sgL neg ++ l) (hh : neg = false → ∀ r, l ≠ 45 :: r) (e : t = Lib.itoa z) : l = Lib.decDigits z.natAbs ∧ (neg = true → 1 ≤ z.natAbs) := by
  rcases Int.lt_or_le z 0 with h | h
  · obtain ⟨u, hu⟩ : ∃ u : Nat, z = -(u : Int) := ⟨z.natAbs, by omega⟩
    subst hu
    rw [Lib.itoa_neg u (by omega)] at e
    have hna : (-(u : Int)).natAbs = u := by simp
    rw [hna]
    cases neg
    · exact absurd (ht.symm.trans e) (hh rfl _)
    · have : 45 :: l = 45 :: Lib.decDigits u := ht.symm.trans e
      exact ⟨(List.cons.inj this).2, fun _ => by omega⟩
  · obtain ⟨u, rfl⟩ := Int.eq_ofNat_of_zero_le h
    rw [Lib.itoa_nonneg] at e
    have hna : ((u : Nat) : Int).natAbs = u := by simp
    rw [hna]
    cases neg
    · exact ⟨ht.symm.trans e, fun h => by cases h⟩
    · exact absurd (e.symm.trans ht) (no45 u _)
def Plain (neg : Bool) (l : List UInt8) : Prop := neg = false → ∀ r, l ≠ 45 :: r
def Lead (neg : Bool) (l : List UInt8) : Prop := l.head? = some 48 ∧ (neg = true ∨ 1 < l.length)
def Canon (neg : Bool) (l : List UInt8) : Prop := l.head? ≠ some 48 ∨ (neg = false ∧ l.length = 1)
theorem num_no {t l : List UInt8} {neg : Bool} (ht : t = sgL neg ++ l) (hh : Plain neg l)
    (h : l = [] ∨ 17 < l.length ∨ Lead neg l ∨ ∃ c ∈ l, isD c = false) : NumR t 0 false := by
  refine .inr ⟨rfl, rfl, fun z hz e => ?_⟩
  obtain ⟨e1, e2⟩ := itoa_parts ht hh e
  rcases h with h | h | ⟨h1, h2⟩ | ⟨c, hc, hd⟩
  · exact digits_ne _ (e1.symm.trans h)
  · have := digits_small 17 z.natAbs (by omega) hz
    rw [← e1] at this; omega
  · by_cases hu : 1 ≤ z.natAbs
    · exact digits_head hu (by rw [← e1]; exact h1)
    · have h0 : z.natAbs = 0 := by omega
      rcases h2 with h2 | h2
      · exact hu (e2 h2)
      · rw [e1, h0, digits_zero] at h2; simp at h2
  · rw [e1] at hc
    rw [digits_all _ c hc] at hd
    cases hd
theorem num_yes {t l : List UInt8} {neg : Bool} (ht : t = sgL neg ++ l) (hd : ∀ c ∈ l, isD c = true) (hne : l ≠ []) (h17 : l.length ≤ 17) (hc : Canon neg l) :
    NumR t (if neg then -valN l else valN l) true := by
  obtain ⟨c1, c2⟩ := canonD l.length l rfl hd hne (hc.elim Or.inl fun h => Or.inr h.2)
  have hb := val_bd l hd
  have hp : valN l < 10 ^ 17 := by
    have e := Nat.pow_le_pow_right (show 0 < 10 by omega) h17
    have e4 : (10 : Int) ^ l.length = (((10 : Nat) ^ l.length : Nat) : Int) := by rw [Int.natCast_pow]; rfl
    have e5 : (10 : Int) ^ 17 = (((10 : Nat) ^ 17 : Nat) : Int) := by rw [Int.natCast_pow]; rfl
    rw [e5]; rw [e4] at hb; omega
  refine .inl ⟨rfl, ?_, ?_⟩
  · cases neg
    · have e : valN l = ((valN l).toNat : Int) := by omega
      rw [ht]
      simp only [sgL, Bool.false_eq_true, if_false, List.nil_append]
      rw [e, Lib.itoa_nonneg, c1]
    · have h1 : 1 ≤ valN l := c2 (by rcases hc with h | h
                                     · exact h
                                     · exact absurd h.1 (by decide))
      have e : -valN l = -((valN l).toNat : Int) := by omega
      rw [ht]
      simp only [sgL, if_true]
      rw [e, Lib.itoa_neg _ (by omega), c1]; rfl
  · split <;> omega
end Go.Proofs.YtjacgamgjjpllaaGreatDoor

/- Reading a numeral, as the document does it: l9Num. Helper text: no statement is claimed here. -/
namespace Go.Proofs.YtjacgamgjjpllaaGreatDoor
open Go.ChangeShapes Go.WideShapes Go.ChangeAt Go.RowKit Fl

set_option maxHeartbeats 1000000 in
theorem num_pos (s : ByteArray) (w : World) (hs : s.size ≤ 2000000) (h0 : ∀ h : 0 < s.size, s[0] ≠ 45) :
    Calls Tryz.prog 59 #[.string s] w (Numd s.data.toList w) := by
  have hhd : Hid (Plain false s.data.toList) := fun _ r e => by
    have hz : 0 < s.size := by have := congrArg List.length e; simp at this; omega
    have := split_atG s 0 hz
    rw [e] at this
    simp at this
    exact h0 hz this.symm
  obtain ⟨T, hT⟩ : ∃ T, T = s.data.toList := ⟨_, rfl⟩
  have hbl : Hid (T = sgL false ++ s.data.toList) := hT
  rw [← hT]
  clear hT
  by_cases z0 : s.size = 0
  · have z0' : ((s.size : Int) == 0) = true := by simp [z0]
    have z1' : ¬ (0 : Int) < s.size := by omega
    have HZ : Hid (s.data.toList = []) := by show _ = _; apply List.eq_nil_of_length_eq_zero; simpa using z0
    clear z0 h0
    go_enter Tryz.func59, Tryz.ntmps59
    go_wp2
    exact bodyPost_ret (v := .tuple #[.int .i64 0, .bool false]) (post_r Tryz.results59 rfl rfl) rfl ⟨0, false, rfl, num_no hbl.out hhd.out (.inl HZ.out), rfl⟩
  have z0' : ((s.size : Int) == 0) = false := by rw [beq_eq_false_iff_ne]; omega
  have z1 : 0 < s.size := by omega
  have z1' : (0 : Int) < s.size := by omega
  have h45 : ((s[0].toNat : Int) == 45) = false := by
    rw [beq_eq_false_iff_ne]; intro e
    exact h0 z1 (UInt8.toNat.inj (by have : s[0].toNat = 45 := by omega
                                     rw [this]; rfl))
  clear h0 z0
  by_cases z17 : 17 < s.size
  · have z17' : (17 : Int) < s.size := by omega
    have HZ : Hid (17 < s.data.toList.length) := by show _ < _; simpa using z17
    go_enter Tryz.func59, Tryz.ntmps59
    go_wp2
    exact bodyPost_ret (v := .tuple #[.int .i64 0, .bool false]) (post_r Tryz.results59 rfl rfl) rfl ⟨0, false, rfl, num_no hbl.out hhd.out (.inr (.inl HZ.out)), rfl⟩
  have z17' : ¬ (17 : Int) < s.size := by omega
  have HH0 : Hid (s.data.toList.head? = some s[0]) := by
    show _ = _
    have := split_atG s 0 z1
    rw [this]; rfl
  have hlen : s.data.toList.length = s.size := by simp
  have HLEN : Hid (s.data.toList.length = s.size) := hlen
  clear hlen
  by_cases z48 : s[0] = 48 ∧ 1 < s.size
  · have zz : ((s[0].toNat : Int) == 48) = true := by rw [z48.1]; rfl
    have z2 : (1 : Int) < s.size := by omega
    have HZ : Hid (Lead false s.data.toList) := ⟨by rw [HH0.out, z48.1], .inr (by rw [HLEN.out]; exact z48.2)⟩
    clear z48
    go_enter Tryz.func59, Tryz.ntmps59
    go_wp2
    exact bodyPost_ret (v := .tuple #[.int .i64 0, .bool false]) (post_r Tryz.results59 rfl rfl) rfl ⟨0, false, rfl, num_no hbl.out hhd.out (.inr (.inr (.inl HZ.out))), rfl⟩
  have HC : Hid (Canon false s.data.toList) := by
    by_cases h : s[0] = 48
    · right
      refine ⟨rfl, ?_⟩
      have h3 : ¬ 1 < s.size := fun hh => z48 ⟨h, hh⟩
      rw [HLEN.out]; omega
    · left; rw [HH0.out]; intro e; exact h (Option.some.inj e)
  have hcond : ((s[0].toNat : Int) == 48) = false ∨ ((s[0].toNat : Int) == 48) = true ∧ ¬ (1 : Int) < s.size := by
    by_cases h : s[0] = 48
    · right
      have h3 : ¬ 1 < s.size := fun hh => z48 ⟨h, hh⟩
      exact ⟨by rw [h]; rfl, by omega⟩
    · left
      rw [beq_eq_false_iff_ne]; intro e
      exact h (UInt8.toNat.inj (by have : s[0].toNat = 48 := by omega
                                   rw [this]; rfl))
  clear z48 HH0
  rcases hcond with hcd | ⟨hcd, hc1⟩
  all_goals
    go_enter Tryz.func59, Tryz.ntmps59
    go_wp2
    go_loop [5, 6] (fun n i => ∃ k : Nat, k ≤ s.size ∧ i = .int .i64 k ∧ (∀ c ∈ s.data.toList.take k, isD c = true) ∧ n = .int .i64 (valN (s.data.toList.take k))) (fun _ i => s.size - (intOf i).toNat)
    case atStart => exact ⟨0, Nat.zero_le _, rfl, by simp, rfl⟩
    case round =>
      obtain ⟨k, hk, rfl, ha, rfl⟩ := hrel
      have HA : Hid (∀ c ∈ s.data.toList.take k, isD c = true) := ha
      have hb := val_bd _ ha
      have hpw : (10 : Int) ^ (s.data.toList.take k).length ≤ 100000000000000000 := by
        have hl : (s.data.toList.take k).length ≤ 17 := by simp; omega
        have e := Nat.pow_le_pow_right (show 0 < 10 by omega) hl
        have e2 : (10 : Nat) ^ 17 = 100000000000000000 := by decide
        have e3 : ((10 : Nat) ^ (s.data.toList.take k).length : Nat) ≤ 100000000000000000 := by omega
        have e4 : (10 : Int) ^ (s.data.toList.take k).length = (((10 : Nat) ^ (s.data.toList.take k).length : Nat) : Int) := by rw [Int.natCast_pow]; rfl
        rw [e4]; omega
      have hv0 : 0 ≤ valN (s.data.toList.take k) := hb.1
      have hv1 : valN (s.data.toList.take k) < 100000000000000000 := by omega
      clear ha hb hpw
      by_cases hlt : k < s.size
      · have hpw2 : k ≤ 16 := by omega
        have hsn := val_snoc (s.data.toList.take k) s[k]
        rw [← take_snocG s k hlt] at hsn
        have HS : Hid (valN (s.data.toList.take (k + 1)) = valN (s.data.toList.take k) * 10 + ((s[k].toNat : Int) - 48)) := hsn
        clear hsn
        have HM : Hid (s[k] ∈ s.data.toList) := by show _ ∈ _; rw [split_atG s k hlt]; simp
        by_cases h48 : (s[k].toNat : Int) < 48
        · have HB : Hid (isD s[k] = false) := by show _ = _; simp [isD]; omega
          go_wp2
          exact bodyPost_ret (v := .tuple #[.int .i64 0, .bool false]) (post_r Tryz.results59 rfl rfl) rfl ⟨0, false, rfl, num_no hbl.out hhd.out (.inr (.inr (.inr ⟨_, HM.out, HB.out⟩))), rfl⟩
        by_cases h57 : 57 < (s[k].toNat : Int)
        · have HB : Hid (isD s[k] = false) := by show _ = _; simp [isD]; omega
          go_wp2
          exact bodyPost_ret (v := .tuple #[.int .i64 0, .bool false]) (post_r Tryz.results59 rfl rfl) rfl ⟨0, false, rfl, num_no hbl.out hhd.out (.inr (.inr (.inr ⟨_, HM.out, HB.out⟩))), rfl⟩
        generalize hgv : valN (s.data.toList.take k) = V at *
        clear hgv
        go_wp2
        refine ⟨⟨k + 1, by omega, by go_num, ?_, ?_⟩, by simp [intOf]; omega⟩
        · intro c hc
          rw [take_snocG s k hlt] at hc
          rcases List.mem_append.1 hc with h | h
          · exact HA.out c h
          · simp at h; subst h; simp [isD]; omega
        · rw [HS.out]
      · have hke : k = s.size := by omega
        have htk : s.data.toList.take k = s.data.toList := List.take_of_length_le (by simp; omega)
        rw [htk] at hv0 hv1 HA ⊢
        have HY : Hid (NumR T (if false then -valN s.data.toList else valN s.data.toList) true) := num_yes hbl.out HA.out (fun h => by have e := HLEN.out; rw [h] at e; have e2 : 0 = s.size := e; omega) (by rw [HLEN.out]; omega) HC.out
        clear htk HA
        generalize valN s.data.toList = V at *
        go_wp2
        exact bodyPost_ret (v := .tuple #[.int .i64 V, .bool true]) (post_r Tryz.results59 rfl rfl) rfl ⟨_, true, rfl, HY.out, rfl⟩
end Go.Proofs.YtjacgamgjjpllaaGreatDoor

/- Reading a numeral, as the document does it: l9Num, with a sign. Helper text: no statement is claimed here. -/
namespace Go.Proofs.YtjacgamgjjpllaaGreatDoor
open Go.ChangeShapes Go.WideShapes Go.ChangeAt Go.RowKit Fl

set_option maxHeartbeats 1000000 in
theorem num_neg (s0 : ByteArray) (w : World) (hs0 : s0.size ≤ 2000000) (hz0 : 0 < s0.size) (h0 : s0[0] = 45) :
    Calls Tryz.prog 59 #[.string s0] w (Numd s0.data.toList w) := by
  have y1' : (0 : Int) < s0.size := by omega
  have y45 : ((s0[0].toNat : Int) == 45) = true := by rw [h0]; rfl
  obtain ⟨s, hs'⟩ : ∃ s, s = s0.extract 1 s0.size := ⟨_, rfl⟩
  have hx : s0.extract 1 s0.size = s := hs'.symm
  have hsl : s.data.toList = s0.data.toList.drop 1 := by rw [hs']; exact ext_allG s0 1
  have HLEN : Hid (s.data.toList.length = s.size) := by show _ = _; simp
  have hsz : s.size + 1 = s0.size := by
    have := HLEN.out
    rw [← this, hsl]; simp; omega
  have hs : s.size ≤ 2000000 := by omega
  obtain ⟨T, hT⟩ : ∃ T, T = s0.data.toList := ⟨_, rfl⟩
  have hbl : Hid (T = sgL true ++ s.data.toList) := by
    show T = _
    rw [hT, hsl]
    have := split_atG s0 0 hz0
    rw [h0] at this
    simpa [sgL] using this
  have hhd : Hid (Plain true s.data.toList) := fun h => by cases h
  rw [← hT]
  clear hT hsl h0 hs'
  by_cases z0 : s.size = 0
  · have z0' : ((s.size : Int) == 0) = true := by simp [z0]
    have HZ : Hid (s.data.toList = []) := by show _ = _; apply List.eq_nil_of_length_eq_zero; simpa using z0
    clear z0
    go_enter Tryz.func59, Tryz.ntmps59
    go_wp2
    exact bodyPost_ret (v := .tuple #[.int .i64 0, .bool false]) (post_r Tryz.results59 rfl rfl) rfl ⟨0, false, rfl, num_no hbl.out hhd.out (.inl HZ.out), rfl⟩
  have z0' : ((s.size : Int) == 0) = false := by rw [beq_eq_false_iff_ne]; omega
  have z1 : 0 < s.size := by omega
  clear z0
  by_cases z17 : 17 < s.size
  · have z17' : (17 : Int) < s.size := by omega
    have HZ : Hid (17 < s.data.toList.length) := by show _ < _; simpa using z17
    go_enter Tryz.func59, Tryz.ntmps59
    go_wp2
    exact bodyPost_ret (v := .tuple #[.int .i64 0, .bool false]) (post_r Tryz.results59 rfl rfl) rfl ⟨0, false, rfl, num_no hbl.out hhd.out (.inr (.inl HZ.out)), rfl⟩
  have z17' : ¬ (17 : Int) < s.size := by omega
  have HH0 : Hid (s.data.toList.head? = some s[0]) := by
    show _ = _
    have := split_atG s 0 z1
    rw [this]; rfl
  by_cases z48 : s[0] = 48
  · have zz : ((s[0].toNat : Int) == 48) = true := by rw [z48]; rfl
    have HZ : Hid (Lead true s.data.toList) := ⟨by rw [HH0.out, z48], .inl rfl⟩
    clear z48
    go_enter Tryz.func59, Tryz.ntmps59
    go_wp2
    all_goals exact bodyPost_ret (v := .tuple #[.int .i64 0, .bool false]) (post_r Tryz.results59 rfl rfl) rfl ⟨0, false, rfl, num_no hbl.out hhd.out (.inr (.inr (.inl HZ.out))), rfl⟩
  have HC : Hid (Canon true s.data.toList) := .inl (by rw [HH0.out]; intro e; exact z48 (Option.some.inj e))
  have hcd : ((s[0].toNat : Int) == 48) = false := by
    rw [beq_eq_false_iff_ne]; intro e
    exact z48 (UInt8.toNat.inj (by have : s[0].toNat = 48 := by omega
                                   rw [this]; rfl))
  clear z48 HH0
  go_enter Tryz.func59, Tryz.ntmps59
  go_wp2
  go_loop [5, 6] (fun n i => ∃ k : Nat, k ≤ s.size ∧ i = .int .i64 k ∧ (∀ c ∈ s.data.toList.take k, isD c = true) ∧ n = .int .i64 (valN (s.data.toList.take k))) (fun _ i => s.size - (intOf i).toNat)
  case atStart => exact ⟨0, Nat.zero_le _, rfl, by simp, rfl⟩
  case round =>
    obtain ⟨k, hk, rfl, ha, rfl⟩ := hrel
    have HA : Hid (∀ c ∈ s.data.toList.take k, isD c = true) := ha
    have hb := val_bd _ ha
    have hpw : (10 : Int) ^ (s.data.toList.take k).length ≤ 100000000000000000 := by
      have hl : (s.data.toList.take k).length ≤ 17 := by simp; omega
      have e := Nat.pow_le_pow_right (show 0 < 10 by omega) hl
      have e2 : (10 : Nat) ^ 17 = 100000000000000000 := by decide
      have e3 : ((10 : Nat) ^ (s.data.toList.take k).length : Nat) ≤ 100000000000000000 := by omega
      have e4 : (10 : Int) ^ (s.data.toList.take k).length = (((10 : Nat) ^ (s.data.toList.take k).length : Nat) : Int) := by rw [Int.natCast_pow]; rfl
      rw [e4]; omega
    have hv0 : 0 ≤ valN (s.data.toList.take k) := hb.1
    have hv1 : valN (s.data.toList.take k) < 100000000000000000 := by omega
    clear ha hb hpw
    by_cases hlt : k < s.size
    · have hpw2 : k ≤ 16 := by omega
      have hsn := val_snoc (s.data.toList.take k) s[k]
      rw [← take_snocG s k hlt] at hsn
      have HS : Hid (valN (s.data.toList.take (k + 1)) = valN (s.data.toList.take k) * 10 + ((s[k].toNat : Int) - 48)) := hsn
      clear hsn
      have HM : Hid (s[k] ∈ s.data.toList) := by show _ ∈ _; rw [split_atG s k hlt]; simp
      by_cases h48 : (s[k].toNat : Int) < 48
      · have HB : Hid (isD s[k] = false) := by show _ = _; simp [isD]; omega
        go_wp2
        exact bodyPost_ret (v := .tuple #[.int .i64 0, .bool false]) (post_r Tryz.results59 rfl rfl) rfl ⟨0, false, rfl, num_no hbl.out hhd.out (.inr (.inr (.inr ⟨_, HM.out, HB.out⟩))), rfl⟩
      by_cases h57 : 57 < (s[k].toNat : Int)
      · have HB : Hid (isD s[k] = false) := by show _ = _; simp [isD]; omega
        go_wp2
        exact bodyPost_ret (v := .tuple #[.int .i64 0, .bool false]) (post_r Tryz.results59 rfl rfl) rfl ⟨0, false, rfl, num_no hbl.out hhd.out (.inr (.inr (.inr ⟨_, HM.out, HB.out⟩))), rfl⟩
      generalize hgv : valN (s.data.toList.take k) = V at *
      clear hgv
      go_wp2
      refine ⟨⟨k + 1, by omega, by go_num, ?_, ?_⟩, by simp [intOf]; omega⟩
      · intro c hc
        rw [take_snocG s k hlt] at hc
        rcases List.mem_append.1 hc with h | h
        · exact HA.out c h
        · simp at h; subst h; simp [isD]; omega
      · rw [HS.out]
    · have hke : k = s.size := by omega
      have htk : s.data.toList.take k = s.data.toList := List.take_of_length_le (by simp; omega)
      rw [htk] at hv0 hv1 HA ⊢
      have HY : Hid (NumR T (if true then -valN s.data.toList else valN s.data.toList) true) := num_yes hbl.out HA.out (fun h => by have e := HLEN.out; rw [h] at e; have e2 : 0 = s.size := e; omega) (by rw [HLEN.out]; omega) HC.out
      clear htk HA
      generalize valN s.data.toList = V at *
      go_wp2
      exact bodyPost_ret (v := .tuple #[.int .i64 (-V), .bool true]) (post_r Tryz.results59 rfl rfl) rfl ⟨_, true, rfl, HY.out, rfl⟩
theorem l9num_any (s : ByteArray) (w : World) (hs : s.size ≤ 2000000) : Calls Tryz.prog 59 #[.string s] w (Numd s.data.toList w) := by
  by_cases h : ∃ h : 0 < s.size, s[0] = 45
  · exact num_neg s w hs h.1 h.2
  · exact num_pos s w hs (fun h0 e => h ⟨h0, e⟩)
end Go.Proofs.YtjacgamgjjpllaaGreatDoor

/- Reading a real number, as the document does it: l2Read. Helper text: no statement is claimed here. -/
namespace Go.Proofs.YtjacgamgjjpllaaGreatDoor
open Go.ChangeShapes Go.WideShapes Go.ChangeAt Go.RowKit Fl

/-- A number doubled: still a number, or beyond all of them. -/
def Up (N j : Nat) (x : Nat) : Prop :=
  (∃ m k, Sc m k ∧ k ≤ 2045 ∧ 0 < m ∧ x = wd false m k ∧ m * 2 ^ k = N * 2 ^ j) ∨ (x = wi false ∧ ∀ m k, Sc m k → k ≤ 2045 → m * 2 ^ k < N * 2 ^ j)
theorem mul_inf : floatBits .mul .f64 (wi false) 4611686018427387904 = some (wi false) := by
  show Ieee.double.mul (wi false) two = _
  unfold Ieee.Format.mul
  rw [read_wi, read_two]
  rfl
theorem Up.step {N j x : Nat} (h : Up N j x) : ∃ r, floatBits .mul .f64 x 4611686018427387904 = some r ∧ Up N (j + 1) r := by
  rcases h with ⟨m, k, g1, g2, g3, rfl, g5⟩ | ⟨rfl, hb⟩
  · obtain ⟨m', k', s1, s2, s3⟩ := sc_up g1
    have hm' : 0 < m' := by
      rcases Nat.eq_zero_or_pos m' with rfl | hp
      · have := @pos_val m k g3; omega
      · exact hp
    have hr : floatBits .mul .f64 (wd false m k) 4611686018427387904 = some (Ieee.double.word false (min (k' * 2 ^ 52 + m') Ieee.double.infRung)) := mul_two g1 g2 s1 g3 s2 false
    have hv : m' * 2 ^ k' = N * 2 ^ (j + 1) := by rw [s2, g5, Nat.pow_succ, Nat.mul_comm 2, Nat.mul_assoc]
    by_cases hk : k' ≤ 2045
    · refine ⟨_, hr, .inl ⟨m', k', s1, hk, hm', ?_, hv⟩⟩
      have h1 := s1.hm
      have : min (k' * 2 ^ 52 + m') Ieee.double.infRung = k' * 2 ^ 52 + m' := by rw [infRung_eq]; omega
      rw [this]; rfl
    · have h52 : 2 ^ 52 ≤ m' := by have := s1.hk; omega
      refine ⟨_, hr, .inr ⟨?_, fun m2 k2 q1 q2 => ?_⟩⟩
      · have : min (k' * 2 ^ 52 + m') Ieee.double.infRung = Ieee.double.infRung := by rw [infRung_eq]; omega
        rw [this]; rfl
      · rw [← hv]
        have a1 : m2 * 2 ^ k2 < 2 ^ (53 + k2) := by rw [Nat.pow_add]; exact Nat.mul_lt_mul_of_pos_right q1.hm (Nat.two_pow_pos _)
        have a2 : 2 ^ (52 + k') ≤ m' * 2 ^ k' := by rw [Nat.pow_add]; exact Nat.mul_le_mul_right _ h52
        have a3 : 2 ^ (53 + k2) ≤ 2 ^ (52 + k') := pow_le_pow_iff2.2 (by omega)
        exact Nat.lt_of_lt_of_le a1 (Nat.le_trans a3 a2)
  · refine ⟨_, mul_inf, .inr ⟨rfl, fun m k q1 q2 => Nat.lt_of_lt_of_le (hb m k q1 q2) ?_⟩⟩
    exact Nat.mul_le_mul_left _ (pow_le_pow_iff2.2 (by omega))
/-- A number halved, where it is even in its units. -/
theorem Up.half {N j x : Nat} (h : ∃ m k, Sc m k ∧ k ≤ 2045 ∧ 0 < m ∧ x = wd false m k ∧ m * 2 ^ k = N * 2 ^ (j + 1)) :
    ∃ r, floatBits .quo .f64 x 4611686018427387904 = some r ∧ ∃ m k, Sc m k ∧ k ≤ 2045 ∧ 0 < m ∧ r = wd false m k ∧ m * 2 ^ k = N * 2 ^ j := by
  obtain ⟨m1, k1, g1, g2, g3, rfl, g5⟩ := h
  rw [Nat.pow_succ, ← Nat.mul_assoc] at g5
  rcases Nat.eq_zero_or_pos k1 with rfl | hk
  · rw [Nat.pow_zero, Nat.mul_one] at g5
    obtain ⟨q, hq⟩ : ∃ q, m1 = 2 * q := ⟨N * 2 ^ j, by omega⟩
    subst hq
    obtain ⟨s1, s2⟩ := Fl.hlv0 g1 (by omega) false
    exact ⟨_, s2, q, 0, s1, by omega, by omega, rfl, by omega⟩
  · obtain ⟨k2, rfl⟩ : ∃ k2, k1 = k2 + 1 := ⟨k1 - 1, by omega⟩
    obtain ⟨s1, s2⟩ := Fl.hlv g1 g2 false
    refine ⟨_, s2, m1, k2, s1, by omega, g3, rfl, ?_⟩
    rw [Nat.pow_succ, ← Nat.mul_assoc] at g5
    omega

/-- What l2Read answers. -/
def L2R (t : List UInt8) (x : Nat) (b : Bool) : Prop := x < 2 ^ 64 ∧ ((b = true ∧ ∃ m k, Sc m k ∧ k ≤ 2045 ∧ 0 < m ∧ x = wd false m k ∧ t = oT m k) ∨ (b = false ∧ ∀ m k, Sc m k → k ≤ 2045 → 0 < m → t ≠ oT m k))
def L2d (t : List UInt8) (w : World) (e : Ending) (w' : World) : Prop := ∃ (x : Nat) (b : Bool), e = .returned (.tuple #[.float .f64 x, .bool b]) ∧ L2R t x b ∧ w' = w
theorem l2_no {t : List UInt8} (h : ∀ m k, Sc m k → k ≤ 2045 → 0 < m → t ≠ oT m k) : L2R t 0 false := ⟨by omega, .inr ⟨rfl, h⟩⟩
/-- The text of a number, cut at its first sign. -/
theorem oT_cut {l1 l2 : List UInt8} {m k : Nat} (h : (42 : UInt8) ∉ l1) (e : l1 ++ 42 :: l2 = oT m k) : l1 = Lib.itoa (oN m k) ∧ l2 = 50 :: 94 :: Lib.itoa (oE m k) := by
  rw [oT_form] at e
  exact first_of h (itoa_no42 _) e
theorem itoa_ne (z : Int) : 1 ≤ (Lib.itoa z).length := by
  rcases Int.lt_or_le z 0 with h | h
  · obtain ⟨u, hu⟩ : ∃ u : Nat, z = -(u : Int) := ⟨z.natAbs, by omega⟩
    subst hu
    rw [Lib.itoa_neg u (by omega)]; simp
  · obtain ⟨u, rfl⟩ := Int.eq_ofNat_of_zero_le h
    rw [Lib.itoa_nonneg]
    have := digits_ne u
    cases hd : Lib.decDigits u with
    | nil => exact absurd hd this
    | cons a b => simp
/-- What the numerals must be. -/
structure Good (n E : Int) : Prop where
  n1 : 1 ≤ n
  n2 : n ≤ 9007199254740991
  odd : n % 2 = 1
  e1 : -1074 ≤ E
  e2 : E ≤ 1023
theorem good_of {m k : Nat} (h : Sc m k) (hk : k ≤ 2045) (hm : 0 < m) : Good (oN m k) (oE m k) := by
  have a := oN_lt h hm
  have b := oE_in h hk hm
  have c := oE_hi h hk hm
  have d := (oddp_val (m * 2 ^ k) (pos_val hm)).2
  have d : oN m k % 2 = 1 := d
  exact ⟨by omega, by omega, by omega, by omega, by omega⟩
theorem num_back {l : List UInt8} {n : Int} (h : NumR l n true) : l = Lib.itoa n := by
  rcases h with ⟨-, h, -⟩ | ⟨h, -⟩
  · exact h
  · cases h
theorem num_bad {l : List UInt8} {n : Int} (h : NumR l n false) (z : Int) (hz : z.natAbs < 10 ^ 17) : l ≠ Lib.itoa z := by
  rcases h with ⟨h, -⟩ | ⟨-, -, h⟩
  · cases h
  · exact h z hz
theorem ten17 : (10 : Nat) ^ 17 = 100000000000000000 := by decide
theorem bad_left {l1 r : List UInt8} {n : Int} (h42 : (42 : UInt8) ∉ l1) (h : NumR l1 n false) : ∀ m k, Sc m k → k ≤ 2045 → 0 < m → l1 ++ 42 :: 50 :: 94 :: r ≠ oT m k := by
  intro m k h1 h2 h3 e
  have a := oN_lt h1 h3
  exact num_bad h _ (by rw [ten17]; omega) (oT_cut h42 e).1
theorem bad_right {l1 r : List UInt8} {n : Int} (h42 : (42 : UInt8) ∉ l1) (h : NumR r n false) : ∀ m k, Sc m k → k ≤ 2045 → 0 < m → l1 ++ 42 :: 50 :: 94 :: r ≠ oT m k := by
  intro m k h1 h2 h3 e
  have a := oE_in h1 h2 h3
  have := (oT_cut h42 e).2
  simp only [List.cons.injEq, true_and] at this
  exact num_bad h _ (by rw [ten17]; omega) this
theorem bad_val {l1 r : List UInt8} {n E : Int} (h42 : (42 : UInt8) ∉ l1) (h : NumR l1 n true) (h' : NumR r E true) (hg : ¬ Good n E) : ∀ m k, Sc m k → k ≤ 2045 → 0 < m → l1 ++ 42 :: 50 :: 94 :: r ≠ oT m k := by
  intro m k h1 h2 h3 e
  have c := oT_cut h42 e
  simp only [List.cons.injEq, true_and] at c
  have a := itoa_inj ((num_back h).symm.trans c.1)
  have b := itoa_inj ((num_back h').symm.trans c.2)
  rw [a, b] at hg
  exact hg (good_of h1 h2 h3)
/-- At the end. -/
theorem l2_end {l1 r : List UInt8} {n E : Int} {N : Nat} (h42 : (42 : UInt8) ∉ l1) (h : NumR l1 n true) (h' : NumR r E true) (hg : Good n E) (hN : n = N) {x : Nat} (hU : Up N (1074 + E).toNat x) :
    L2R (l1 ++ 42 :: 50 :: 94 :: r) x (ord x (wi false) == some .lt) := by
  rcases hU with ⟨m, k, g1, g2, g3, rfl, g5⟩ | ⟨rfl, hb⟩
  · have ho := oddp_of (n := N) (t := (1074 + E).toNat) (by have := hg.odd; omega)
    rw [← g5] at ho
    have e1 : oN m k = N := by unfold oN; rw [ho]
    have e2 : oE m k = E := by unfold oE; rw [ho]; have := hg.e1; show (((1074 + E).toNat : Nat) : Int) - 1074 = E; omega
    have hlt : (ord (wd false m k) (wi false) == some .lt) = true := by simp only [ord, Go.FloatKind.format, order_wd_wi g1 g2]; rfl
    rw [hlt]
    refine ⟨wd_lt g1 g2 false, .inl ⟨rfl, m, k, g1, g2, g3, rfl, ?_⟩⟩
    rw [oT_form, e1, e2, num_back h, num_back h', hN]
  · have hlt : (ord (wi false) (wi false) == some .lt) = false := by simp only [ord, Go.FloatKind.format, order_wi_wi]; rfl
    rw [hlt]
    refine ⟨wi_lt false, .inr ⟨rfl, fun m k h1 h2 h3 e => ?_⟩⟩
    have c := oT_cut h42 e
    simp only [List.cons.injEq, true_and] at c
    have a := itoa_inj ((num_back h).symm.trans c.1)
    have b := itoa_inj ((num_back h').symm.trans c.2)
    have v := val_o (k := k) h3
    have hNN : N = oN m k := by omega
    have := hb m k h1 h2
    rw [hNN, b, v] at this
    exact Nat.lt_irrefl _ this
end Go.Proofs.YtjacgamgjjpllaaGreatDoor
