/- The program's devWord. Helper text: no statement is claimed here. -/
import Derived.Test.YtkffgjagiihppaaDoorTf
namespace Go.Proofs.YtkffgjagiihppaaDoor
open Go.ChangeShapes Go.WideShapes Go.ChangeAt Go.RowKit

def WordOk (t : List UInt8) (k n p : Int) (b : Bool) : Prop := (b = true ∧ Gs t k n p ∧ t ≠ []) ∨ (b = false ∧ ∀ j, j < 4 → t ≠ wordL j)

def Worded (t : List UInt8) (w : World) (e : Ending) (w' : World) : Prop := ∃ (k n p : Int) (b : Bool), e = .returned (.tuple #[.agg #[.int .i64 k, .int .i64 n, .int .i64 p], .bool b]) ∧ WordOk t k n p b ∧ Below w.heap.size w w'

set_option maxHeartbeats 1000000 in
theorem iword_any (s : ByteArray) (w : World) (hT : Tabs w) :
    Calls Tryd.prog 30 #[.string s] w (Worded s.data.toList w) := by
  go_enter Tryd.func30, Tryd.ntmps30
  go_wp2
  go_loop [4, 5] (fun _ i => ∃ m : Nat, m ≤ 4 ∧ i = .int .i64 m ∧ ∀ j, j < m → s.data.toList ≠ wordL j) (fun _ i => 4 - (intOf i).toNat)
  case atStart => exact ⟨0, by omega, rfl, by intro j hj; omega⟩
  case round =>
    obtain ⟨m, hm, rfl, hn⟩ := hrel
    have HN : Hid (∀ j, j < m → s.data.toList ≠ wordL j) := hn
    clear hn
    by_cases hlt : m < 4
    · have hw := hT.word m hlt
      have hl0 : 0 < w.heap.size := hT.word.lt
      by_cases hE : wordL m = s.toList
      · have HE : Hid (s.data.toList = wordL m) := by rw [← ByteArray.toList_eq]; exact hE.symm
        have hE' : (wordL m == s.toList) = true := by simp [hE]
        clear hE
        go_wp2
        exact bodyPost_ret (v := .tuple #[.agg #[.int .i64 13, .int .i64 m, .int .i64 0], .bool true]) (resArg2 Tryd.results30 rfl rfl (Own.new w _ _ _).1) rfl ⟨13, m, 0, true, rfl, .inl ⟨rfl, gs_word hlt HE.out, by
          rw [HE.out]
          have a : m = 0 ∨ m = 1 ∨ m = 2 ∨ m = 3 := by omega
          rcases a with rfl | rfl | rfl | rfl <;> simp [wordL]⟩, one _ _⟩
      · have hE' : (wordL m == s.toList) = false := by simp [hE]
        have HE : Hid (s.data.toList ≠ wordL m) := by rw [← ByteArray.toList_eq]; exact fun e => hE e.symm
        clear hE
        go_wp2
        go_round
        case rel =>
          refine ⟨m + 1, by omega, by go_num, ?_⟩
          intro j hj
          by_cases e : j = m
          · subst e; exact HE.out
          · exact HN.out j (by omega)
        case measure => simp [intOf]; omega
    · obtain rfl : m = 4 := by omega
      go_wp2
      exact bodyPost_ret (v := .tuple #[.agg #[.int .i64 0, .int .i64 0, .int .i64 0], .bool false]) (resArg2 Tryd.results30 rfl rfl (Own.new w _ _ _).1) rfl ⟨0, 0, 0, false, rfl, .inr ⟨rfl, HN.out⟩, one _ _⟩
end Go.Proofs.YtkffgjagiihppaaDoor
