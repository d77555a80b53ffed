/- What is shown to a look of one net. Helper text: no statement is claimed here. -/
import Derived.Test.YtkkkjhlbkmcjiaaQt
namespace Go.Proofs.Ytkkkjhlbkmcjiaa.Tr
open Go.ChangeShapes Go.WideShapes Go.ChangeAt Go.RowKit
attribute [local go_sem] store_func

theorem tot_single {α : Type} (f : α → Nat) (t : α) : tot f [t] = f t := by rw [tot_cons, tot_nil]; omega
theorem h3a (w : World) (A B D : Obj) : (((w.alloc A).alloc B).alloc D).heap[w.heap.size]? = some A := by
  rw [Below.heap_alloc _ _ _ (by simp; omega), Below.heap_alloc _ _ _ (by simp)]
  exact last w A
theorem h3b (w : World) (A B D : Obj) : (((w.alloc A).alloc B).alloc D).heap[w.heap.size + 1]? = some B := by
  have := heap_alloc2_old (w.alloc A) B D
  rwa [World.size_alloc] at this
theorem h3c (w : World) (A B D : Obj) : (((w.alloc A).alloc B).alloc D).heap[w.heap.size + 1 + 1]? = some D := by
  have := heap_alloc2_new (w.alloc A) B D
  rwa [World.size_alloc] at this
set_option maxHeartbeats 1000000 in
set_option maxRecDepth 100000 in
theorem treeWalkN_any (L : Lk) (ok : L.Ok) (nmN : String) (hnm : NmN nmN) (n : Nat) (S : Nat → Prop) (w : World) (hS : Apart L.C S w) (p : Option Addr) (cap : Nat) (es : List (NT n)) (hV : SlOf S (NtE S w n) 4 p cap es) (s : Nat) (hs : L.cnt w s) (hbd : s + tot (L.gN n) es ≤ 9223372036854775807) :
    Calls Try.prog 51 #[.slice p es.length cap, .func (.func 52) #[] #[], .func (.method nmN) #[L.val] #[]] w fun r w' => r = .returned .nilIface ∧ L.cnt w' (s + tot (L.gN n) es) ∧ But L.C w w' := by
  have hlt := ok.lt _ _ hs
  have HC : Hid (∀ W, Below w.heap.size w W → ∀ P5 P7 P4, ClosN L.C L.val nmN W P5 P7 P4 → Calls Try.prog 58 #[.slice p es.length cap, .pointer (some ⟨P5, 0, none⟩), .pointer (some ⟨P7, 0, none⟩), .pointer (some ⟨P4, 0, none⟩)] W fun r w' => r = .returned .nilIface ∧ L.cnt w' (s + tot (L.gN n) es) ∧ But L.C W w') :=
    fun W hW P5 P7 P4 hc => walkN_any L ok nmN hnm n S W (hS.to hW.size) p cap es (nets_to (Keep.of hW (fun b hb => (hS b hb).1)) (fun _ h => h) hV) P5 P7 P4 hc s (ok.to _ _ _ hs hW) hbd
  have hmf' := hmf
  clear hS hV hs hbd ok hnm
  obtain ⟨lv, hlv⟩ : ∃ lv, lv = L.val := ⟨_, rfl⟩
  rw [← hlv] at HC ⊢
  clear hlv
  go_enter Try.func51, Try.ntmps51
  go_wp2_with fail
  refine (HC.out _ (two' _ _ _ |>.alloc (by simp; omega) _) (w.heap.size + 1) (w.heap.size + 1 + 1) w.heap.size ⟨?_, ?_, ?_, by omega, by omega, by omega⟩).mono ?_
  · exact cell_of_row _ _ 0 _ _ _ (h3b w _ _ _)
  · exact cell_of_row _ _ 0 _ _ _ (h3c w _ _ _)
  · exact cell_of_row _ _ 0 _ _ _ (h3a w _ _ _)
  rintro r w1 ⟨rfl, h1, hb1⟩
  have H1 : Hid (L.cnt w1 (s + tot (L.gN n) es)) := h1
  have HB1 : Hid (But L.C w w1) := (But.of ((two' _ _ _).alloc (by simp; omega) _)).trans hb1
  clear h1 hb1
  go_wp2
  go_ret
  exact ⟨rfl, H1.out, HB1.out⟩

set_option maxHeartbeats 1000000 in
set_option maxRecDepth 100000 in
theorem treeNets_any (L : Lk) (ok : L.Ok) (n : Nat) (S : Nat → Prop) (w : World) (hS : Apart L.C S w) (v : Value) (t : NT n) (hV : NtV S w n v t) (s : Nat) (hs : L.cnt w s) (hbd : s + L.gN n t ≤ 9223372036854775807) :
    Calls Try.prog 37 #[v, L.val] w fun r w' => r = .returned .nilIface ∧ L.cnt w' (s + L.gN n t) ∧ But L.C w w' := by
  have hlt := ok.lt _ _ hs
  obtain ⟨kd, op, pa, la, ca, pk, lk, ck, rfl⟩ := hV.parts
  have HC : Hid (∀ nmN, NmN nmN → ∀ W B, Below w.heap.size w W → w.heap.size ≤ B → W.heap[B]? = some (.cells #[.int .i64 kd, .int .i64 op, .slice pa la ca, .slice pk lk ck] 52 (0, 0)) → Calls Try.prog 51 #[.slice (some ⟨B, 0, none⟩) 1 1, .func (.func 52) #[] #[], .func (.method nmN) #[L.val] #[]] W fun r w' => r = .returned .nilIface ∧ L.cnt w' (s + L.gN n t) ∧ But L.C W w') := fun nmN hnm W B hW hB hrow => by
    have hk : Keep S w W := Keep.of hW (fun b hb => (hS b hb).1)
    have h := treeWalkN_any L ok nmN hnm n (fun b => S b ∨ b = B) W (fun b hb => by
      rcases hb with hb | rfl
      · exact (hS.to hW.size) b hb
      · exact ⟨(Array.getElem?_eq_some_iff.1 hrow).1, by omega⟩) (some ⟨B, 0, none⟩) 1 [t] ⟨⟨Nat.le_refl _, by simp⟩, .inr ⟨B, 0, rfl, .inr rfl, fun i u hu => by
        obtain ⟨rfl, rfl⟩ : i = 0 ∧ u = t := by
          cases i with
          | zero => exact ⟨rfl, by simpa using hu.symm⟩
          | succ i => simp at hu
        exact NtE.make (hV.to hk (fun b hb => .inl hb)) (cell_of_row _ _ 0 _ _ _ hrow) (cell_of_row _ _ 1 _ _ _ hrow) (cell_of_row _ _ 2 _ _ _ hrow) (cell_of_row _ _ 3 _ _ _ hrow)⟩⟩ s (ok.to _ _ _ hs hW) (by rw [tot_single]; exact hbd)
    rw [tot_single] at h
    exact h
  have hmf' := hmf
  obtain ⟨TL, hTL⟩ : ∃ TL, TL = L.T := ⟨_, rfl⟩
  obtain ⟨C, hCC⟩ : ∃ C, C = L.C := ⟨_, rfl⟩
  rw [show L.val = .iface TL (.pointer (some ⟨C, 0, none⟩)) by rw [hTL, hCC]; rfl] at HC ⊢
  clear hTL hCC hS hV hs hbd ok
  go_enter Try.func37, Try.ntmps37
  go_wp2
  have HBa : Hid (Below w.heap.size w (w.alloc (.cells #[.int .i64 kd, .int .i64 op, .slice pa la ca, .slice pk lk ck] 52))) := one _ _
  have HOw : Hid ((w.alloc (.cells #[.int .i64 kd, .int .i64 op, .slice pa la ca, .slice pk lk ck] 52)).heap[w.heap.size]? = some (.cells #[.int .i64 kd, .int .i64 op, .slice pa la ca, .slice pk lk ck] 52 (0, 0))) := last _ _
  generalize w.alloc (.cells #[.int .i64 kd, .int .i64 op, .slice pa la ca, .slice pk lk ck] 52) = V at *
  have hnC : w.heap.size ≠ L.C := by omega
  have q0 : V.cell? ⟨w.heap.size, 0, none⟩ = some (.int .i64 kd) := cell_of_row _ _ 0 _ _ _ HOw.out
  have q1 : V.cell? ⟨w.heap.size, 1, none⟩ = some (.int .i64 op) := cell_of_row _ _ 1 _ _ _ HOw.out
  have q2 : V.cell? ⟨w.heap.size, 2, none⟩ = some (.slice pa la ca) := cell_of_row _ _ 2 _ _ _ HOw.out
  have q3 : V.cell? ⟨w.heap.size, 3, none⟩ = some (.slice pk lk ck) := cell_of_row _ _ 3 _ _ _ HOw.out
  go_region_held3 (fun W => W.cell? ⟨w.heap.size, 0, none⟩ = some (.int .i64 kd) ∧ W.cell? ⟨w.heap.size, 1, none⟩ = some (.int .i64 op) ∧ W.cell? ⟨w.heap.size, 2, none⟩ = some (.slice pa la ca) ∧ W.cell? ⟨w.heap.size, 3, none⟩ = some (.slice pk lk ck)) (first | go_keep | assumption)
    (first
      | (go_at_call 51; refine (HC.out _ ?_ _ V.heap.size (HBa.out.trans ?_) HBa.out.size ?_).mono ?_; exact (fun p w => ⟨by kernel_rfl, by kernel_rfl⟩); exact ((Below.refl _ _).drew.alloc (Nat.le_refl _) _).mono HBa.out.size; exact heap_alloc_new _ _; rintro e w2 ⟨rfl, hn2, hb2⟩; have HN2 : Hid (L.cnt w2 (s + L.gN n t)) := hn2; have hVV : But L.C V w2 := (But.of ((Below.refl _ _).drew.alloc (Nat.le_refl _) _)).trans hb2; have HB2 : Hid (But L.C w w2) := (But.of HBa.out).trans hVV; have u0 := hVV.cell hnC q0; have u1 := hVV.cell hnC q1; have u2 := hVV.cell hnC q2; have u3 := hVV.cell hnC q3; clear hn2 hb2 hVV))
  all_goals (try go_wp2)
  all_goals go_ret
  all_goals exact ⟨rfl, HN2.out, HB2.out⟩
end Go.Proofs.Ytkkkjhlbkmcjiaa.Tr
