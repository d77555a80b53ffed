/- ElemIsCoil: the program's. Helper text: no statement is claimed here. -/
import Derived.Test.YtleopmhllbaalabDoorLd
namespace Go.Proofs.YtleopmhllbaalabDoor
open Go.ChangeShapes Go.WideShapes Go.ChangeAt Go.RowKit
attribute [local go_sem] fv_store

set_option maxHeartbeats 1000000 in
theorem isCoil_any (op : Int) (ys : List Ar) (p : Option Addr) (cap : Nat) (w : World) (hT : DevTab w) (hA : ArgsIs w p ys) (hlc : ys.length ≤ cap) (hbd : ys.length ≤ 2000000) :
    Calls Tryd.prog 13 #[elemV op p ys.length cap] w fun e w' => e = .returned (.bool (coilB op ys)) ∧ Below w.heap.size w w' := by
  have HA : Hid (ArgsIs w p ys) := hA
  have HT : Hid (DevTab w) := hT
  have HR : Hid (∀ W, DevTab W → ArgsIs W p ys → Calls Tryd.prog 30 #[erowV (ez op), .slice p ys.length cap] W fun e w' => e = .returned (.bool (okA (ez op) ys)) ∧ Below W.heap.size W w') :=
    fun W h1 h2 => rowTakes_any (ez op) ys p cap W h1 h2 hlc hbd
  have HE : Hid (∀ W, Calls Tryd.prog 29 #[.int .i64 op] W fun e w' => e = .returned (erowV (ez op)) ∧ Below W.heap.size W w') := fun W => erowV_any op W
  have HC : Hid (coilB op ys = (decide (nm (ez op) ≠ []) && okA (ez op) ys)) := rfl
  clear hA hT
  generalize coilB op ys = res at *
  generalize ez op = i at *
  unfold erowV at HR HE
  generalize (fm0 i).getD 0 0 = g0 at *
  generalize (fm0 i).getD 1 0 = g1 at *
  generalize (fm0 i).getD 2 0 = g2 at *
  generalize (fm1 i).getD 0 0 = g3 at *
  generalize (fm1 i).getD 1 0 = g4 at *
  generalize (fm1 i).getD 2 0 = g5 at *
  generalize okA i ys = t0 at *
  by_cases hn : nm i = []
  · have HN : Hid (nm i = []) := hn
    rw [hn] at HR HE
    clear hn
    go_enter Tryd.func13, Tryd.ntmps13
    go_wp2_with fail
    refine (HE.out _).mono ?_
    rintro e w1 ⟨rfl, hb1⟩
    have HB1 : Hid (Below w.heap.size w w1) := of_one hb1
    have hce := elem_at hb1
    clear hb1
    go_wp2
    go_ret
    exact ⟨by rw [HC.out]; simp [HN.out], HB1.out.alloc HB1.out.size _⟩
  · have HN : Hid (nm i ≠ []) := hn
    obtain ⟨c, l, hl⟩ := List.exists_cons_of_ne_nil hn
    rw [hl] at HR HE
    clear hn hl
    go_enter Tryd.func13, Tryd.ntmps13
    go_wp2_with fail
    refine (HE.out _).mono ?_
    rintro e w1 ⟨rfl, hb1⟩
    have HB1 : Hid (Below w.heap.size w w1) := of_one hb1
    have hce := elem_at hb1
    clear hb1
    go_wp2_with fail
    refine (HR.out _ ((HT.out.to HB1.out).alloc _) ((HA.out.to HB1.out).to (one _ _))).mono ?_
    rintro e w2 ⟨rfl, hb2⟩
    go_wp2
    go_ret
    exact ⟨by rw [HC.out]; simp [HN.out], HB1.out.trans ((of_one hb2).mono HB1.out.size)⟩

end Go.Proofs.YtleopmhllbaalabDoor
