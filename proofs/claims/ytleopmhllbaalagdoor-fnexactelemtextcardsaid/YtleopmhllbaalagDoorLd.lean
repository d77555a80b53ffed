/- What a row of the table takes as operands: the program's. Helper text: no statement is claimed here. -/
import Derived.Test.YtleopmhllbaalagDoorLc
namespace Go.Proofs.YtleopmhllbaalagDoor
open Go.ChangeShapes Go.WideShapes Go.ChangeAt Go.RowKit


/-- A row of the table as a value. -/
abbrev erowV (i : Nat) : Value := .agg #[.string ⟨(nm i).toArray⟩, .int .i32 (mk i), .int .i64 (ts i), fv ((fm0 i).getD 0 0), fv ((fm0 i).getD 1 0), fv ((fm0 i).getD 2 0), fv ((fm1 i).getD 0 0), fv ((fm1 i).getD 1 0), fv ((fm1 i).getD 2 0)]
theorem erowV_any (op : Int) (w : World) : Calls Tryd.prog 16 #[.int .i64 op] w fun e w' => e = .returned (erowV (ez op)) ∧ Below w.heap.size w w' := erow_any op w

/-- The operands are as the tables say of a number. -/
def okA (i : Nat) (ys : List Ar) : Bool := takeB (fm0 i) ys || takeB (fm1 i) ys

set_option maxHeartbeats 400000 in
theorem rowTakes_any (i : Nat) (ys : List Ar) (p : Option Addr) (cap : Nat) (w : World) (hT : DevTab w) (hA : ArgsIs w p ys) (hlc : ys.length ≤ cap) (hbd : ys.length ≤ 2000000) :
    Calls Tryd.prog 17 #[erowV i, .slice p ys.length cap] w fun e w' => e = .returned (.bool (okA i ys)) ∧ Below w.heap.size w w' := by
  have H0 : Hid (∀ W, DevTab W → ArgsIs W p ys → Calls Tryd.prog 48 #[.agg #[fv ((fm0 i).getD 0 0), fv ((fm0 i).getD 1 0), fv ((fm0 i).getD 2 0)], .slice p ys.length cap] W fun e w' => e = .returned (.bool (takeB (fm0 i) ys)) ∧ Below W.heap.size W w') :=
    fun W h1 h2 => takes_any (fm0 i) ys p cap W (fm0_ok i) h1 h2 hlc hbd
  have H1 : Hid (∀ W, DevTab W → ArgsIs W p ys → Calls Tryd.prog 48 #[.agg #[fv ((fm1 i).getD 0 0), fv ((fm1 i).getD 1 0), fv ((fm1 i).getD 2 0)], .slice p ys.length cap] W fun e w' => e = .returned (.bool (takeB (fm1 i) ys)) ∧ Below W.heap.size W w') :=
    fun W h1 h2 => takes_any (fm1 i) ys p cap W (fm1_ok i) h1 h2 hlc hbd
  have HA : Hid (ArgsIs w p ys) := hA
  have HO : Hid (okA i ys = (takeB (fm0 i) ys || takeB (fm1 i) ys)) := rfl
  clear hA
  unfold erowV
  generalize fv ((fm0 i).getD 0 0) = g0 at *
  generalize fv ((fm0 i).getD 1 0) = g1 at *
  generalize fv ((fm0 i).getD 2 0) = g2 at *
  generalize fv ((fm1 i).getD 0 0) = g3 at *
  generalize fv ((fm1 i).getD 1 0) = g4 at *
  generalize fv ((fm1 i).getD 2 0) = g5 at *
  generalize takeB (fm0 i) ys = t0 at *
  generalize takeB (fm1 i) ys = t1 at *
  go_enter Tryd.func17, Tryd.ntmps17
  go_wp2_with fail
  refine (H0.out _ (hT.alloc _) (HA.out.to (one _ _))).mono ?_
  rintro e w1 ⟨rfl, hb1⟩
  have HB1 : Hid (Below w.heap.size w w1) := of_one hb1
  obtain ⟨hc, hf⟩ := bcell hb1
  cases t0 with
  | true =>
    go_wp2
    go_ret
    exact ⟨by rw [HO.out]; rfl, HB1.out⟩
  | false =>
    go_wp2_with fail
    refine (H1.out _ (hT.to HB1.out) (HA.out.to HB1.out)).mono ?_
    rintro e w2 ⟨rfl, hb2⟩
    go_wp2
    go_ret
    exact ⟨by rw [HO.out]; rfl, HB1.out.trans (hb2.mono HB1.out.size)⟩

/-- A contact or coil as a value. -/
abbrev elemV (op : Int) (p : Option Addr) (n cap : Nat) : Value := .agg #[.int .i64 op, .slice p n cap]
def conB (op : Int) (ys : List Ar) : Bool := decide (nm (ez op) = []) && okA (ez op) ys
def coilB (op : Int) (ys : List Ar) : Bool := decide (nm (ez op) ≠ []) && okA (ez op) ys

theorem elem_at {w w1 : World} {op : Int} {p : Option Addr} {n cap : Nat} (hb : Below (w.alloc (.cells #[.int .i64 op, .slice p n cap] 29)).heap.size (w.alloc (.cells #[.int .i64 op, .slice p n cap] 29)) w1) (o : Obj) :
    (w1.alloc o).cell? ⟨w.heap.size, 1, none⟩ = some (.slice p n cap) := by
  have h := hb.cell (p := ⟨w.heap.size, 1, none⟩) (by simp)
  rw [World.cell?_alloc_lt _ _ _ (Nat.lt_of_lt_of_le (by simp) hb.size), h, World.cell?_alloc_mark]
  rfl
end Go.Proofs.YtleopmhllbaalagDoor
