/- The program's TreeUses, and the walk of the law FnExactTreeUses. Helper text: no statement is claimed here. -/
import Derived.Test.YtkkkjhlbkmcjiaaUq
import Derived.Test.YtkkkjhlbkmcjiaaQl
import Derived.Test.YtkkkjhlbkmcjiaaUo
import Derived.Test.YtkkkjhlbkmcjiaaQx
namespace Go.Proofs.Ytkkkjhlbkmcjiaa.Tr
open Go.ChangeShapes Go.WideShapes Go.ChangeAt Go.RowKit

def elUses (a : Ar) : (n : Nat) → NT n → Nat
  | 0, _ => 0
  | _ + 1, t => uE a t.el
def coilUses (a : Ar) (k : Nat) : (n : Nat) → AT k n → Nat
  | 0, _ => 0
  | _ + 1, t => tot (uE a) t.coils
/-- The look that counts an operand. -/
def usesLk (C : Nat) (k0 n0 m0 : Int) : Lk := { C := C, T := 70, fn := 81, fa := 79, cnt := UsesAt C k0 n0 m0, fN := elUses (k0, n0, m0), fA := fun k n t => coilUses (k0, n0, m0) k n t }
theorem uses_ok (C : Nat) (k0 n0 m0 : Int) : (usesLk C k0 n0 m0).Ok where
  lt := fun _ _ h => UsesAt.lt h
  to := fun _ _ _ h hb => UsesAt.to h hb
  me := fun _ h w => (h _ w).2
  call := Try.call81
  net := fun S W n v t s hS hV hs hbd => by
    cases n with
    | zero => exact hV.elim
    | succ n => exact unet_any C k0 n0 m0 S W (fun b hb => (hS b hb).1) (fun h => (hS C h).2 rfl) n v t hV s hs hbd
  meA := fun _ h w => (h _ w).2
  callA := Try.call79
  arm := fun S W k n v t s hS hV hs hbd => by
    cases n with
    | zero => exact hV.elim
    | succ n => exact uarm_any C k0 n0 m0 S W (fun b hb => (hS b hb).1) (fun h => (hS C h).2 rfl) k n v t hV s hs hbd
theorem uses_gN (C : Nat) (k0 n0 m0 : Int) : ∀ (n : Nat) (t : NT n), (usesLk C k0 n0 m0).gN n t = uN (k0, n0, m0) n t
  | 0, t => Empty.elim t
  | n + 1, t => by
    show uE (k0, n0, m0) t.el + tot ((usesLk C k0 n0 m0).gN n) t.kids = uE (k0, n0, m0) t.el + tot (uN (k0, n0, m0) n) t.kids
    rw [tot_congr t.kids (fun u _ => uses_gN C k0 n0 m0 n u)]
theorem none_uses (a : Ar) {n : Nat} (t : NT (n + 1)) (h : isNone t = true) : uN a (n + 1) t = 0 := by
  unfold isNone at h
  simp only [Bool.and_eq_true, decide_eq_true_eq] at h
  have h1 : t.el.2 = [] := List.length_eq_zero_iff.1 h.1.2
  have h2 : t.kids = [] := List.length_eq_zero_iff.1 h.2
  rw [uN_succ, h2]
  unfold uE
  rw [h1]
  rfl
theorem uses_gA (C : Nat) (k0 n0 m0 : Int) (k : Nat) : ∀ (n : Nat) (t : AT k n), (usesLk C k0 n0 m0).gA k n t = uA (k0, n0, m0) k n t
  | 0, t => Empty.elim t
  | n + 1, t => by
    show (if isNone t.net then 0 else (usesLk C k0 n0 m0).gN (k + 1) t.net) + tot (uE (k0, n0, m0)) t.coils + tot ((usesLk C k0 n0 m0).gA k n) t.kids = uN (k0, n0, m0) (k + 1) t.net + tot (uE (k0, n0, m0)) t.coils + tot (uA (k0, n0, m0) k n) t.kids
    rw [tot_congr t.kids (fun u _ => uses_gA C k0 n0 m0 k n u), uses_gN]
    split
    · rename_i h
      rw [none_uses (k0, n0, m0) t.net h]
    · rfl
set_option maxHeartbeats 1000000 in
set_option maxRecDepth 100000 in
theorem iTreeUses_any (k0 n0 m0 : Int) (k n : Nat) (S : Nat → Prop) (w : World) (hSw : ∀ b, S b → b < w.heap.size) (p : Option Addr) (cap : Nat) (es : List (AT k n)) (hV : SlOf S (AmE S w k n) 6 p cap es) (hz : zAs k n es ≤ 1048576) :
    Calls Try.prog 15 #[.slice p es.length cap, .agg #[.int .i64 k0, .int .i64 n0, .int .i64 m0]] w fun r w' => r = .returned (.int .i64 (tot (uA (k0, n0, m0) k n) es)) ∧ Below w.heap.size w w' := by
  have htp := uAs_le (k0, n0, m0) k n es
  have HC : Hid (∀ W, Below w.heap.size w W → UsesAt (w.heap.size + 1) k0 n0 m0 W 0 → Calls Try.prog 19 #[.slice p es.length cap, .iface 70 (.pointer (some ⟨w.heap.size + 1, 0, none⟩))] W fun r w' => r = .returned .nilIface ∧ UsesAt (w.heap.size + 1) k0 n0 m0 w' (tot (uA (k0, n0, m0) k n) es) ∧ But (w.heap.size + 1) W w') := fun W hW h0 => by
    have h := treeArms_any (usesLk (w.heap.size + 1) k0 n0 m0) (uses_ok _ _ _ _) k n S W (fun b hb => ⟨Nat.lt_of_lt_of_le (hSw b hb) hW.size, by have := hSw b hb; show b ≠ w.heap.size + 1; omega⟩) p cap es (arms_to (Keep.of hW hSw) (fun _ h => h) hV) 0 h0 (by rw [tot_congr es (fun u _ => uses_gA _ k0 n0 m0 k n u)]; omega)
    rw [tot_congr es (fun u _ => uses_gA _ k0 n0 m0 k n u), Nat.zero_add] at h
    exact h
  clear hSw hV hz htp
  generalize tot (uA (k0, n0, m0) k n) es = R at *
  go_enter Try.func15, Try.ntmps15
  go_wp2_with fail
  refine (HC.out _ (two' _ _ _) ?_).mono ?_
  · have := last (w.alloc (.cells #[.int .i64 k0, .int .i64 n0, .int .i64 m0] 33)) (.cells #[.int .i64 k0, .int .i64 n0, .int .i64 m0, .int .i64 0] 72)
    rw [World.size_alloc] at this
    exact this
  rintro r w1 ⟨rfl, h1, hb1⟩
  have HB1 : Hid (Below w.heap.size w w1) := ((But.of (two' w _ _)).trans hb1).below (Nat.le_refl _) (by omega)
  have c3 : w1.cell? ⟨w.heap.size + 1, 3, none⟩ = some (.int .i64 (R : Int)) := cell_of_row _ _ 3 _ _ _ h1
  clear h1 hb1
  go_wp2
  go_ret
  exact ⟨rfl, HB1.out⟩
end Go.Proofs.Ytkkkjhlbkmcjiaa.Tr
