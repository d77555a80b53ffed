/- The program's TreeSize. Helper text: no statement is claimed here. -/
import Derived.Test.YtkkkjhlbkmcjiaaQw
namespace Go.Proofs.Ytkkkjhlbkmcjiaa.Tr
open Go.ChangeShapes Go.WideShapes Go.ChangeAt Go.RowKit

theorem tot_congr {α : Type} {f g : α → Nat} : ∀ (ts : List α), (∀ t ∈ ts, f t = g t) → tot f ts = tot g ts
  | [], _ => rfl
  | t :: ts, h => by rw [tot_cons, tot_cons, h t (by simp), tot_congr ts (fun u hu => h u (by simp [hu]))]
def coilsN (k : Nat) : (n : Nat) → AT k n → Nat
  | 0, _ => 0
  | _ + 1, a => 1 + a.coils.length
/-- The look that counts parts. -/
def cntLk (C : Nat) : Lk := { C := C, T := 57, fn := 78, fa := 77, cnt := CntAt C, fN := fun _ _ => 1, fA := coilsN }
theorem cnt_ok (C : Nat) : (cntLk C).Ok where
  lt := fun _ _ h => CntAt.lt h
  to := fun _ _ _ h hb => CntAt.to h hb
  me := fun _ h w => (h _ w).1
  call := Try.call78
  net := fun S W n v t s _ hV hs hbd => by
    obtain ⟨kd, op, pa, la, ca, pk, lk, ck, rfl⟩ := hV.parts
    exact cnet_any C s kd op pa la ca pk lk ck W hs hbd
  meA := fun _ h w => (h _ w).1
  callA := Try.call77
  arm := fun S W k n v t s _ hV hs hbd => by
    cases n with
    | zero => exact hV.elim
    | succ n =>
      obtain ⟨kd, op, pa, la, ca, pk, lk, ck, pc, cc, pq, cq, rfl, -, -, -⟩ := hV
      exact carm_any C s kd op pa la ca pk lk ck pc _ cc pq _ cq W hs hbd
theorem cnt_gN (C : Nat) : ∀ (n : Nat) (t : NT n), (cntLk C).gN n t = pN n t
  | 0, t => Empty.elim t
  | n + 1, t => by
    show 1 + tot ((cntLk C).gN n) t.kids = 1 + tot (pN n) t.kids
    rw [tot_congr t.kids (fun u _ => cnt_gN C n u)]
theorem cnt_gA (C k : Nat) : ∀ (n : Nat) (t : AT k n), (cntLk C).gA k n t = pA k n t
  | 0, t => Empty.elim t
  | n + 1, t => by
    show (if isNone t.net then 0 else (cntLk C).gN (k + 1) t.net) + (1 + t.coils.length) + tot ((cntLk C).gA k n) t.kids = 1 + t.coils.length + (if isNone t.net then 0 else pN (k + 1) t.net) + tot (pA k n) t.kids
    rw [tot_congr t.kids (fun u _ => cnt_gA C k n u), cnt_gN]
    omega
set_option maxHeartbeats 1000000 in
set_option maxRecDepth 100000 in
theorem iTreeSize_any (k n : Nat) (S : Nat → Prop) (w : World) (hSw : ∀ b, S b → b < w.heap.size) (p : Option Addr) (cap : Nat) (es : List (AT k n)) (hV : SlOf S (AmE S w k n) 6 p cap es) (hz : zAs k n es ≤ 1048576) :
    Calls Try.prog 9 #[.slice p es.length cap] w fun r w' => r = .returned (.int .i64 (tot (pA k n) es)) ∧ Below w.heap.size w w' := by
  have htp := totA_le k n es
  have HC : Hid (∀ W, Below w.heap.size w W → CntAt w.heap.size W 0 → Calls Try.prog 19 #[.slice p es.length cap, .iface 57 (.pointer (some ⟨w.heap.size, 0, none⟩))] W fun r w' => r = .returned .nilIface ∧ CntAt w.heap.size w' (tot (pA k n) es) ∧ But w.heap.size W w') := fun W hW h0 => by
    have h := treeArms_any (cntLk w.heap.size) (cnt_ok _) k n S W (fun b hb => ⟨Nat.lt_of_lt_of_le (hSw b hb) hW.size, by have := hSw b hb; show b ≠ w.heap.size; omega⟩) p cap es (arms_to (Keep.of hW hSw) (fun _ h => h) hV) 0 h0 (by rw [tot_congr es (fun u _ => cnt_gA _ k n u)]; omega)
    rw [tot_congr es (fun u _ => cnt_gA _ k n u), Nat.zero_add] at h
    exact h
  clear hSw hV hz htp
  generalize tot (pA k n) es = R at *
  go_enter Try.func9, Try.ntmps9
  go_wp2_with fail
  refine (HC.out _ (one _ _) ?_).mono ?_
  · exact last _ _
  rintro r w1 ⟨rfl, h1, hb1⟩
  have HB1 : Hid (Below w.heap.size w w1) := ((But.of (one w _)).trans hb1).below (Nat.le_refl _) (Nat.le_refl _)
  have c0 : w1.cell? ⟨w.heap.size, 0, none⟩ = some (.int .i64 (R : Int)) := cell_of_row _ _ 0 _ _ _ h1
  clear h1 hb1
  go_wp2
  go_ret
  exact ⟨rfl, HB1.out⟩
end Go.Proofs.Ytkkkjhlbkmcjiaa.Tr
