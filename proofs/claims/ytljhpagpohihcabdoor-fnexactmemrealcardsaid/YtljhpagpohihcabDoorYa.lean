/- The place of a device, counted round, on both sides. Helper text: no statement is claimed here. -/
import Derived.Test.YtljhpagpohihcabDoorDc
import Derived.Test.YtljhpagpohihcabDoorJb
import Derived.Laws.BitsLemmas
namespace Go.Proofs.YtljhpagpohihcabDoor
open Go.ChangeShapes Go.WideShapes Go.ChangeAt Go.RowKit

/-- How many there are to count round by. -/
def sz4 (k : Int) : Int := if k = 6 then 8 else rN (kz k)
/-- The place. -/
def plc (k n : Int) : Int := if sz4 k = 0 then 0 else n % sz4 k
theorem sz4_cases (k : Int) : sz4 k = 0 ∨ sz4 k = 8 ∨ sz4 k = 16 ∨ sz4 k = 32 ∨ sz4 k = 64 := by
  unfold sz4
  split
  · exact .inr (.inl rfl)
  · rename_i h6
    unfold kz
    split
    · rename_i h
      have : k = 1 ∨ k = 2 ∨ k = 3 ∨ k = 4 ∨ k = 5 ∨ k = 7 ∨ k = 8 ∨ k = 9 ∨ k = 10 ∨ k = 11 ∨ k = 12 ∨ k = 13 := by omega
      rcases this with rfl | rfl | rfl | rfl | rfl | rfl | rfl | rfl | rfl | rfl | rfl | rfl <;> decide
    · exact .inl rfl
theorem plc_range (k n : Int) : 0 ≤ plc k n ∧ (plc k n < sz4 k ∨ plc k n = 0) := by
  unfold plc
  rcases sz4_cases k with h | h | h | h | h <;> rw [h]
  · simp
  all_goals
    rw [if_neg (by decide)]
    omega
theorem wrap_small {x : Int} (h0 : -9223372036854775808 ≤ x) (h1 : x ≤ 9223372036854775807) : IntKind.i64.wrap x = x := by
  rw [IntKind.wrap_i64]; omega
theorem tmod_neg {n s : Int} (hs : 0 < s) (h : n.tmod s < 0) : n.tmod s + s = n % s := by
  have h1 := Int.tmod_eq_emod (a := n) (b := s)
  have h2 := Int.emod_nonneg n (show s ≠ 0 by omega)
  have h3 := Int.emod_lt_of_pos n hs
  split at h1
  · omega
  · have : (s.natAbs : Int) = s := by omega
    omega
theorem tmod_pos {n s : Int} (hs : 0 < s) (h : ¬ n.tmod s < 0) : n.tmod s = n % s := by
  have h1 := Int.tmod_eq_emod (a := n) (b := s)
  have h2 := Int.emod_nonneg n (show s ≠ 0 by omega)
  have h3 := Int.emod_lt_of_pos n hs
  split at h1
  · omega
  · have : (s.natAbs : Int) = s := by omega
    omega
theorem tmod_small {n s : Int} (hs : 0 < s) : -s ≤ n.tmod s ∧ n.tmod s < s := by
  have h2 := Int.emod_nonneg n (show s ≠ 0 by omega)
  have h3 := Int.emod_lt_of_pos n hs
  by_cases h : n.tmod s < 0
  · have := tmod_neg hs h
    omega
  · have := tmod_pos hs h
    omega

theorem plc_s (k : Int) (h6 : ¬ k = 6) : rN (kz k) = 0 ∨ rN (kz k) = 16 ∨ rN (kz k) = 32 ∨ rN (kz k) = 64 := by
  unfold kz
  split
  · rename_i h
    have : k = 1 ∨ k = 2 ∨ k = 3 ∨ k = 4 ∨ k = 5 ∨ k = 7 ∨ k = 8 ∨ k = 9 ∨ k = 10 ∨ k = 11 ∨ k = 12 ∨ k = 13 := by omega
    rcases this with rfl | rfl | rfl | rfl | rfl | rfl | rfl | rfl | rfl | rfl | rfl | rfl <;> decide
  · exact .inl rfl
set_option maxHeartbeats 1000000 in
theorem place_any (k n p : Int) (w : World) (hT : DevTab w) :
    Calls Tryd.prog 19 #[.agg #[.int .i64 k, .int .i64 n, .int .i64 p]] w fun e w' => e = .returned (.int .i64 (plc k n)) ∧ Below w.heap.size w w' := by
  have HT : Hid (DevTab w) := hT
  clear hT
  go_enter Tryd.func19, Tryd.ntmps19
  go_wp2_with fail
  refine (size_any k _ (HT.out.alloc _)).mono ?_
  rintro e w1 ⟨rfl, hb1⟩
  have HB1 : Hid (Below w.heap.size w w1) := of_one hb1
  have c0 : w1.cell? ⟨w.heap.size, 0, none⟩ = some (.int .i64 k) := (hb1.cell (p := ⟨w.heap.size, 0, none⟩) (by simp)).trans (by rw [World.cell?_alloc_mark]; rfl)
  have c1 : w1.cell? ⟨w.heap.size, 1, none⟩ = some (.int .i64 n) := (hb1.cell (p := ⟨w.heap.size, 1, none⟩) (by simp)).trans (by rw [World.cell?_alloc_mark]; rfl)
  clear hb1
  by_cases h6 : k = 6
  · subst h6
    have hs : (0 : Int) < 8 := by decide
    have hsm := tmod_small (n := n) hs
    have hwr : IntKind.i64.wrap (n.tmod 8) = n.tmod 8 := wrap_small (by omega) (by omega)
    by_cases hn : n.tmod 8 < 0
    · have hw2 : IntKind.i64.wrap (n.tmod 8 + 8) = n.tmod 8 + 8 := wrap_small (by omega) (by omega)
      have HE : Hid (n.tmod 8 + 8 = n % 8) := tmod_neg hs hn
      go_wp2
      go_ret
      refine ⟨?_, HB1.out⟩
      rw [show plc 6 n = n % 8 from rfl, ← HE.out]
      rfl
    · have HE : Hid (n.tmod 8 = n % 8) := tmod_pos hs hn
      go_wp2
      go_ret
      refine ⟨?_, HB1.out⟩
      rw [show plc 6 n = n % 8 from rfl, ← HE.out]
      rfl
  · have hk : (k == 6) = false := by simpa using h6
    have hr : sz4 k = rN (kz k) := if_neg h6
    have HP : Hid (plc k n = if sz4 k = 0 then 0 else n % sz4 k) := rfl
    rw [hr] at HP
    rcases plc_s k h6 with h | h | h | h
    · rw [h] at HP ⊢
      clear hr h
      go_wp2
      go_ret
      exact ⟨by rw [show plc k n = 0 from HP.out]; rfl, HB1.out⟩
    · rw [h] at HP ⊢
      clear hr h
      have hs : (0 : Int) < 16 := by decide
      have hsm := tmod_small (n := n) hs
      have hwr : IntKind.i64.wrap (n.tmod 16) = n.tmod 16 := wrap_small (by omega) (by omega)
      by_cases hn : n.tmod 16 < 0
      · have hw2 : IntKind.i64.wrap (n.tmod 16 + 16) = n.tmod 16 + 16 := wrap_small (by omega) (by omega)
        have HE : Hid (n.tmod 16 + 16 = n % 16) := tmod_neg hs hn
        go_wp2
        go_ret
        refine ⟨?_, HB1.out⟩
        rw [show plc k n = n % 16 from HP.out, ← HE.out]
        rfl
      · have HE : Hid (n.tmod 16 = n % 16) := tmod_pos hs hn
        go_wp2
        go_ret
        refine ⟨?_, HB1.out⟩
        rw [show plc k n = n % 16 from HP.out, ← HE.out]
        rfl
    · rw [h] at HP ⊢
      clear hr h
      have hs : (0 : Int) < 32 := by decide
      have hsm := tmod_small (n := n) hs
      have hwr : IntKind.i64.wrap (n.tmod 32) = n.tmod 32 := wrap_small (by omega) (by omega)
      by_cases hn : n.tmod 32 < 0
      · have hw2 : IntKind.i64.wrap (n.tmod 32 + 32) = n.tmod 32 + 32 := wrap_small (by omega) (by omega)
        have HE : Hid (n.tmod 32 + 32 = n % 32) := tmod_neg hs hn
        go_wp2
        go_ret
        refine ⟨?_, HB1.out⟩
        rw [show plc k n = n % 32 from HP.out, ← HE.out]
        rfl
      · have HE : Hid (n.tmod 32 = n % 32) := tmod_pos hs hn
        go_wp2
        go_ret
        refine ⟨?_, HB1.out⟩
        rw [show plc k n = n % 32 from HP.out, ← HE.out]
        rfl
    · rw [h] at HP ⊢
      clear hr h
      have hs : (0 : Int) < 64 := by decide
      have hsm := tmod_small (n := n) hs
      have hwr : IntKind.i64.wrap (n.tmod 64) = n.tmod 64 := wrap_small (by omega) (by omega)
      by_cases hn : n.tmod 64 < 0
      · have hw2 : IntKind.i64.wrap (n.tmod 64 + 64) = n.tmod 64 + 64 := wrap_small (by omega) (by omega)
        have HE : Hid (n.tmod 64 + 64 = n % 64) := tmod_neg hs hn
        go_wp2
        go_ret
        refine ⟨?_, HB1.out⟩
        rw [show plc k n = n % 64 from HP.out, ← HE.out]
        rfl
      · have HE : Hid (n.tmod 64 = n % 64) := tmod_pos hs hn
        go_wp2
        go_ret
        refine ⟨?_, HB1.out⟩
        rw [show plc k n = n % 64 from HP.out, ← HE.out]
        rfl
end Go.Proofs.YtljhpagpohihcabDoor
