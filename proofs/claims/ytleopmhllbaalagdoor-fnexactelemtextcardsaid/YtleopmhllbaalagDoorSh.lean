/- How long the text of an operand can be. Helper text: no statement is claimed here. -/
import Derived.Test.YtleopmhllbaalagDoorSc
namespace Go.Proofs.YtleopmhllbaalagDoor
open Go.ChangeShapes Go.WideShapes Go.ChangeAt Go.RowKit

theorem txt_len (k n p : Int) : (txt k n p).length ≤ 100 := by
  unfold txt
  split
  · rename_i h
    split
    · rename_i h1; subst h1
      have := okB_int h
      have := Lib.itoa_length_le n (by omega) (by omega)
      omega
    split
    · rename_i h2; subst h2
      have := okB_dec h
      have := decT_len n p.toNat (by omega) (by omega) (by omega)
      omega
    split
    · unfold wordL; split <;> simp
    · rename_i h1 h2 h3
      have := okB_device h1 h2 h3 h
      have a := Lib.itoa_length_le n (by omega) (by omega)
      have b := rL_len (kz k)
      simp; omega
  · simp
end Go.Proofs.YtleopmhllbaalagDoor
