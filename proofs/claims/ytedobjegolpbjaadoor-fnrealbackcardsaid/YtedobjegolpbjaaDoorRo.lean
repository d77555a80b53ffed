/- The drawing of one text out of a list. Helper text: no statement is claimed here. -/
import Derived.Test.YtedobjegolpbjaaDoorRa
namespace Go.Proofs.YtedobjegolpbjaaDoor
open Go.ChangeShapes Go.WideShapes Go.ChangeAt Go.RowKit

/-- A list of n texts lies in block lb, each of at most 100 bytes. -/
def Strs (w : World) (lb n : Nat) : Prop := ∀ i, i < n → ∃ s : ByteArray, w.cell? ⟨lb, i, none⟩ = some (.string s) ∧ s.size ≤ 100
def shortB : Value → Bool | .string s => decide (s.size ≤ 100) | _ => false
theorem strs_all (w : World) (cs : Array Value) (t : TypeId) (n : Nat) (hn : cs.size = n) (h : cs.toList.all shortB = true) : Strs (w.alloc (.cells cs t)) w.heap.size n := by
  intro i hi
  have hi' : i < cs.size := by omega
  have hs := List.all_eq_true.1 h cs[i] (by simp)
  rw [World.cell?_alloc_new, Array.getElem?_eq_getElem hi']
  generalize cs[i] = v at *
  cases v <;> simp [shortB] at hs
  exact ⟨_, rfl, hs⟩

set_option maxHeartbeats 400000 in
theorem of_any (rb m lb n : Nat) (w : World) (hn : 1 ≤ n) (hn2 : n ≤ 100) (hr : Rd w rb m) (hm : m ≤ 1000000) (hl : Strs w lb n) (hlr : lb ≠ rb) :
    Calls Tryd.prog 29 #[.pointer (some ⟨rb, 0, none⟩), .slice (some ⟨lb, 0, none⟩) n n] w fun e w' => ∃ s : ByteArray, e = .returned (.string s) ∧ s.size ≤ 100 ∧ Rd w' rb (m + 1) ∧ Step rb w w' := by
  go_enter Tryd.func29, Tryd.ntmps29
  go_wp2_with fail
  refine (pick_any rb m n _ (by omega) hr hm).mono ?_
  rintro e w' ⟨v, rfl, v0, v1, -, hr', st⟩
  obtain ⟨k, rfl⟩ := Int.eq_ofNat_of_zero_le v0
  have hk : (k : Int) < n := v1 (by omega)
  obtain ⟨z, hz, z0⟩ := hl k (by omega)
  have hz' : w'.cell? ⟨lb, k, none⟩ = some (.string z) := by
    rw [st.cell lb k (World.block_lt_of_cell? w ⟨lb, k, none⟩ hz) hlr]; exact hz
  clear v1 hl
  go_wp2
  go_ret
  exact ⟨z, rfl, z0, hr', st⟩

end Go.Proofs.YtedobjegolpbjaaDoor
