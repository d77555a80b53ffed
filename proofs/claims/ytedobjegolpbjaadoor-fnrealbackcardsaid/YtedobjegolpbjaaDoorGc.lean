/- Reading a real number: the program's RealRead. Helper text: no statement is claimed here. -/
import Derived.Test.YtedobjegolpbjaaDoorGb
import Derived.Test.YtedobjegolpbjaaDoorNb
import Derived.Test.YtedobjegolpbjaaDoorAa
namespace Go.Proofs.YtedobjegolpbjaaDoor
open Go.ChangeShapes Go.WideShapes Go.ChangeAt Go.RowKit Fl

def ReadR (t : List UInt8) (w : World) (e : Ending) (w' : World) : Prop := ∃ (x : Nat) (b : Bool), e = .returned (.tuple #[.float .f64 x, .bool b]) ∧ RdR t x b ∧ Below w.heap.size w w'
/-- The words' numbers and texts. -/
def wN : Nat → Nat | 0 => 9221120237041090561 | 1 => wi false | 2 => wi true | _ => wd true 0 0
def wT : Nat → List UInt8 | 0 => [110, 97, 110] | 1 => [105, 110, 102] | 2 => [45, 105, 110, 102] | _ => [45, 48]
theorem wN_text (j : Nat) : TextR (wN j) (wT j) := by
  match j with
  | 0 => exact .isnan nan_lib
  | 1 => exact .inf
  | 2 => exact .ninf
  | n + 3 => exact .nzero
theorem wN_lt (j : Nat) : wN j < 2 ^ 64 := by
  match j with
  | 0 => show 9221120237041090561 < _; omega
  | 1 => exact wi_lt _
  | 2 => exact wi_lt _
  | n + 3 => exact wd_lt sc00 (by omega) _
def wordsA : Value := .agg #[.float .f64 (wN 0), .float .f64 (wN 1), .float .f64 (wN 2), .float .f64 (wN 3)]
theorem wordsA_eq : wordsV = wordsA := rfl
theorem index_w (j : Nat) (hj : j < 4) (w : World) : Sem.run Tryd.prog (Instr.index 50 wordsA (.int .i64 (j : Int))) w = .ok (.float .f64 (wN j)) w := by
  have h : ∀ a b c d : Value, Sem.run Tryd.prog (Instr.index 50 (.agg #[a, b, c, d]) (.int .i64 0)) w = .ok a w ∧ Sem.run Tryd.prog (Instr.index 50 (.agg #[a, b, c, d]) (.int .i64 1)) w = .ok b w ∧
      Sem.run Tryd.prog (Instr.index 50 (.agg #[a, b, c, d]) (.int .i64 2)) w = .ok c w ∧ Sem.run Tryd.prog (Instr.index 50 (.agg #[a, b, c, d]) (.int .i64 3)) w = .ok d w :=
    fun a b c d => ⟨by kernel_rfl, by kernel_rfl, by kernel_rfl, by kernel_rfl⟩
  have := h (.float .f64 (wN 0)) (.float .f64 (wN 1)) (.float .f64 (wN 2)) (.float .f64 (wN 3))
  match j, hj with
  | 0, _ => exact this.1
  | 1, _ => exact this.2.1
  | 2, _ => exact this.2.2.1
  | 3, _ => exact this.2.2.2
/-- Where neither the guess nor a word has the text, no number has it. -/
theorem none_left {t tg : List UInt8} {g : Nat} (hG : GsR t g) (hT : TextR g tg) (hne : tg ≠ t) (hw : ∀ i, i < 4 → t ≠ wT i) : ∀ y, ¬ TextR y t := by
  intro y hy
  rcases hy.form with ⟨-, e⟩ | ⟨-, e⟩ | ⟨-, e⟩ | ⟨-, e⟩ | ⟨-, e⟩ | ⟨m, k, g1, g2, g3, -, e⟩ | ⟨m, k, g1, g2, g3, -, e⟩
  · exact hw 0 (by omega) e
  · exact hw 1 (by omega) e
  · exact hw 2 (by omega) e
  · have h0 := hG.2.2.1 e
    rw [h0] at hT
    exact hne ((hT.one (show TextR 0 [48] from TextR.zero)).trans e.symm)
  · exact hw 3 (by omega) e
  · have h0 := hG.2.2.2 false m k ⟨g1, g2, g3, e⟩
    rw [h0] at hT
    exact hne ((hT.one (TextR.pos g1 g2 g3)).trans e.symm)
  · have h0 := hG.2.2.2 true m k ⟨g1, g2, g3, e⟩
    rw [h0] at hT
    exact hne ((hT.one (TextR.neg g1 g2 g3)).trans e.symm)
theorem post_r {fn : Func} {t u : Tmp} {tmps : Array Value} {W : World} {x y : Value} (h : fn.results = #[.tmp t, .tmp u]) (h1 : tmps.getD t undef = x) (h2 : tmps.getD u undef = y) :
    (results fn tmps).run Tryd.prog W = .ok (.tuple #[x, y]) W := by
  rw [results_tmp2 h, h1, h2]

set_option maxHeartbeats 2000000 in
theorem irl_any (t : List UInt8) (w : World) (ht : t.length ≤ 1500000) (hL : LTab w) (hP : PowTab w) :
    Calls Tryd.prog 13 #[.string ⟨t.toArray⟩] w (ReadR t w) := by
  go_enter Tryd.func13, Tryd.ntmps13
  go_wp2_with fail
  refine (guess_any t _ ht hL).mono ?_
  rintro e w1 ⟨g, rfl, hg, hb1⟩
  have hx := hg.1
  have HG : Hid (GsR t g) := hg
  clear hg
  go_wp2_with fail
  refine (it_any g _ hx (hP.to hb1)).mono ?_
  rintro e w2 ⟨tg, rfl, htg, hb2⟩
  have HT : Hid (TextR g tg) := htg
  clear htg
  have hb12 := hb1.trans (hb2.mono hb1.size)
  by_cases he : tg = t
  · subst he
    go_wp2
    exact bodyPost_ret (v := .tuple #[.float .f64 g, .bool true]) (post_r Tryd.results13 rfl rfl) rfl ⟨g, true, rfl, ⟨hx, .inl ⟨rfl, HT.out⟩⟩, hb12⟩
  · have he' : (tg == t) = false := by simpa using he
    have HN : Hid (tg ≠ t) := he
    clear he
    go_wp2_with fail
    refine (words_any _).mono ?_
    rintro e w3 ⟨rfl, hb3⟩
    rw [wordsA_eq]
    have hb13 := hb12.trans (hb3.mono hb12.size)
    clear hb1 hb2 hb12 hb3
    generalize hWA : wordsA = WA at *
    have HW : Hid (wordsA = WA) := hWA
    clear hWA
    go_wp2
    go_loopw [15] (fun c w' => ∃ j : Nat, j ≤ 4 ∧ c = .int .i64 (j : Int) ∧ Below w.heap.size w w' ∧ ∀ i, i < j → t ≠ wT i) (fun c _ => 4 - (intOf c).toNat)
    case atStart => exact ⟨0, by omega, rfl, hb13, fun i hi => by omega⟩
    case round =>
      obtain ⟨j, hj, rfl, hbr, hno⟩ := hrel
      have HNO : Hid (∀ i, i < j → t ≠ wT i) := hno
      clear hno hb13
      by_cases hlt : j < 4
      · have hlt' : (j : Int) < 4 := by omega
        have hix : ∀ w : World, Sem.run Tryd.prog (Instr.index 50 WA (.int .i64 (j : Int))) w = .ok (.float .f64 (wN j)) w := fun w => by rw [← HW.out]; exact index_w j hlt w
        have hwl := wN_lt j
        have HWT : Hid (TextR (wN j) (wT j)) := wN_text j
        go_wp2_with fail
        refine (it_any (wN j) _ hwl (hP.to hbr)).mono ?_
        rintro e w4 ⟨tj, rfl, htj, hb4⟩
        obtain rfl : tj = wT j := htj.one HWT.out
        clear htj
        have hb14 := hbr.trans (hb4.mono hbr.size)
        by_cases hm : wT j = t
        · have hm' : (wT j == t) = true := by simpa using hm
          have HM : Hid (TextR (wN j) t) := by show TextR (wN j) t; rw [← hm]; exact HWT.out
          clear hm
          go_wp2
          exact bodyPost_ret (v := .tuple #[.float .f64 (wN j), .bool true]) (post_r Tryd.results13 rfl rfl) rfl ⟨wN j, true, rfl, ⟨hwl, .inl ⟨rfl, HM.out⟩⟩, hb14⟩
        · have hm' : (wT j == t) = false := by simpa using hm
          have HM : Hid (t ≠ wT j) := fun h => hm h.symm
          clear hm
          go_wp2
          refine ⟨⟨j + 1, by omega, by go_num, hb14, fun i hi => ?_⟩, by simp [intOf]; omega⟩
          rcases Nat.lt_or_ge i j with h | h
          · exact HNO.out i h
          · obtain rfl : i = j := by omega
            exact HM.out
      · have hlt' : ¬ (j : Int) < 4 := by omega
        have HZ : Hid (∀ y, ¬ TextR y t) := none_left HG.out HT.out HN.out (fun i hi => HNO.out i (by omega))
        go_wp2
        exact bodyPost_ret (v := .tuple #[.float .f64 0, .bool false]) (post_r Tryd.results13 rfl rfl) rfl ⟨0, false, rfl, ⟨by omega, .inr ⟨rfl, rfl, HZ.out⟩⟩, hbr⟩
end Go.Proofs.YtedobjegolpbjaaDoor
