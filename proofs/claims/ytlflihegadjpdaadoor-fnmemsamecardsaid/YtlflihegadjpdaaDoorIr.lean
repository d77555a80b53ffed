/- The program's MemSame of two memories, by the first test that fails. Helper text: no statement is claimed here. -/
import Derived.Test.YtlflihegadjpdaaDoorIm
import Derived.Test.YtlflihegadjpdaaDoorIl
import Derived.Test.YtlflihegadjpdaaDoorI5
import Derived.Test.YtlflihegadjpdaaDoorI6
import Derived.Test.YtlflihegadjpdaaDoorI7
import Derived.Test.YtlflihegadjpdaaDoorI8
import Derived.Test.YtlflihegadjpdaaDoorI9
import Derived.Test.YtlflihegadjpdaaDoorI10
import Derived.Test.YtlflihegadjpdaaDoorI11
import Derived.Test.YtlflihegadjpdaaDoorI12
namespace Go.Proofs.YtlflihegadjpdaaDoor
open Go.ChangeShapes Go.WideShapes Go.ChangeAt Go.RowKit Fl

theorem memSame_any (m n : Mm) (hm : m.Ok) (hn : n.Ok) (w : World) :
    Calls Tryd.prog 6 #[m.val, n.val] w fun e w' => e = .returned (.bool (sameM m n)) ∧ Below w.heap.size w w' := by
  cases q0 : ((m.x : Int) == (n.x : Int))
  · have hs : sameM m n = false := by simp only [sameM, q0, Bool.false_and]
    rw [hs]
    exact ms_0 m n hm hn w q0
  cases q1 : ((m.y : Int) == (n.y : Int))
  · have hs : sameM m n = false := by simp only [sameM, q0, q1, Bool.true_and, Bool.false_and]
    rw [hs]
    exact ms_1 m n hm hn w q0 q1
  cases q2 : ((m.m : Int) == (n.m : Int))
  · have hs : sameM m n = false := by simp only [sameM, q0, q1, q2, Bool.true_and, Bool.false_and]
    rw [hs]
    exact ms_2 m n hm hn w q0 q1 q2
  cases q3 : ((m.s : Int) == (n.s : Int))
  · have hs : sameM m n = false := by simp only [sameM, q0, q1, q2, q3, Bool.true_and, Bool.false_and]
    rw [hs]
    exact ms_3 m n hm hn w q0 q1 q2 q3
  cases q4 : ((m.e : Int) == (n.e : Int))
  · have hs : sameM m n = false := by simp only [sameM, q0, q1, q2, q3, q4, Bool.true_and, Bool.false_and]
    rw [hs]
    exact ms_4 m n hm hn w q0 q1 q2 q3 q4
  cases q5 : sameT m n
  · have hs : sameM m n = false := by simp only [sameM, q0, q1, q2, q3, q4, q5, Bool.true_and, Bool.false_and]
    rw [hs]
    exact ms_5 m n hm hn w q0 q1 q2 q3 q4 q5
  cases q6 : sameC m n
  · have hs : sameM m n = false := by simp only [sameM, q0, q1, q2, q3, q4, q5, q6, Bool.true_and, Bool.false_and]
    rw [hs]
    exact ms_6 m n hm hn w q0 q1 q2 q3 q4 q5 q6
  cases q7 : sameD m n
  · have hs : sameM m n = false := by simp only [sameM, q0, q1, q2, q3, q4, q5, q6, q7, Bool.true_and, Bool.false_and]
    rw [hs]
    exact ms_7 m n hm hn w q0 q1 q2 q3 q4 q5 q6 q7
  cases q8 : sameR m n
  · have hs : sameM m n = false := by simp only [sameM, q0, q1, q2, q3, q4, q5, q6, q7, q8, Bool.true_and, Bool.false_and]
    rw [hs]
    exact ms_8 m n hm hn w q0 q1 q2 q3 q4 q5 q6 q7 q8
  cases q9 : ((m.time : Int) == (n.time : Int))
  · have hs : sameM m n = false := by simp only [sameM, q0, q1, q2, q3, q4, q5, q6, q7, q8, q9, Bool.true_and, Bool.false_and]
    rw [hs]
    exact ms_9 m n hm hn w q0 q1 q2 q3 q4 q5 q6 q7 q8 q9
  cases q10 : (m.ran == n.ran)
  · have hs : sameM m n = false := by simp only [sameM, q0, q1, q2, q3, q4, q5, q6, q7, q8, q9, q10, Bool.true_and, Bool.false_and]
    rw [hs]
    exact ms_10 m n hm hn w q0 q1 q2 q3 q4 q5 q6 q7 q8 q9 q10
  cases q11 : (m.fault == n.fault)
  · have hs : sameM m n = false := by simp only [sameM, q0, q1, q2, q3, q4, q5, q6, q7, q8, q9, q10, q11, Bool.true_and]
    rw [hs]
    exact ms_11 m n hm hn w q0 q1 q2 q3 q4 q5 q6 q7 q8 q9 q10 q11
  have hs : sameM m n = true := by simp only [sameM, q0, q1, q2, q3, q4, q5, q6, q7, q8, q9, q10, q11, Bool.true_and]
  rw [hs]
  exact ms_12 m n hm hn w q0 q1 q2 q3 q4 q5 q6 q7 q8 q9 q10 q11
end Go.Proofs.YtlflihegadjpdaaDoor
