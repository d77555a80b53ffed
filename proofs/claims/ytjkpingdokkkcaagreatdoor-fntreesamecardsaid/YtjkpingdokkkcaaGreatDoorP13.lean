/- The drawing of numbers out of a list of bytes: l9Open, pick, num. Helper text: no statement is claimed here. -/
import Derived.Test.YtjkpingdokkkcaaGreatDoorRows
import Derived.WalkKit
import Derived.ProofKit
import Derived.OpenShut
import Derived.Below
import Derived.WalkSmall
import Derived.Deep.QuietTactic
import Derived.BigQuiet
import Derived.Lib.QuietBelow
import Derived.LaidMore
import Derived.Deep.RegionHeld3
namespace Go.Proofs.YtjkpingdokkkcaaGreatDoor
open Go.ChangeShapes Go.WideShapes Go.ChangeAt Go.RowKit

/-- Of the blocks that were there none has turned but number rb. -/
structure Step (rb : Nat) (w w' : World) : Prop where
  os : w'.os = w.os
  tape : w'.tape = w.tape
  output : w'.output = w.output
  size : w.heap.size ≤ w'.heap.size
  block : ∀ k, k < w.heap.size → k ≠ rb → w'.heap[k]? = w.heap[k]?

/-- A reader lies in block rb: its bytes, at most 2000, and its place, at most m. -/
structure Rd (w : World) (rb m : Nat) : Prop where
  rd : ∃ (a : Option Addr) (len cap p : Nat), w.cell? ⟨rb, 0, none⟩ = some (.slice a len cap) ∧ w.cell? ⟨rb, 1, none⟩ = some (.int .i64 (p : Int)) ∧ w.frozen? ⟨rb, 1, none⟩ = false ∧ p ≤ m ∧ len ≤ 2000 ∧
    (len = 0 ∨ ∃ (b off : Nat) (f : Nat → Int), a = some ⟨b, off, none⟩ ∧ b < rb ∧ ∀ i, i < len → w.cell? ⟨b, off + i, none⟩ = some (.int .u8 (f i)) ∧ 0 ≤ f i ∧ f i ≤ 255)

theorem Step.refl (rb : Nat) (w : World) : Step rb w w := ⟨rfl, rfl, rfl, Nat.le_refl _, fun _ _ _ => rfl⟩
theorem Step.trans {rb : Nat} {a b c : World} (h : Step rb a b) (k : Step rb b c) : Step rb a c :=
  ⟨k.os.trans h.os, k.tape.trans h.tape, k.output.trans h.output, Nat.le_trans h.size k.size, fun i hi hr => (k.block i (Nat.lt_of_lt_of_le hi h.size) hr).trans (h.block i hi hr)⟩
theorem Step.of {rb : Nat} {w w' : World} (h : Below w.heap.size w w') : Step rb w w' := ⟨h.os, h.tape, h.output, h.size, fun k hk _ => h.block k hk⟩
theorem Step.alloc (rb : Nat) (w : World) (o : Obj) : Step rb w (w.alloc o) := .of ((Below.refl _ _).alloc (Nat.le_refl _) o)
theorem Step.set (rb : Nat) (w : World) (b i : Nat) (v : Value) (hb : b = rb) : Step rb w (w.setCell ⟨b, i, none⟩ v) :=
  ⟨rfl, rfl, rfl, by simp [World.setCell], fun k _ hr => Below.heap_setCell _ _ _ _ (by simp; omega)⟩
theorem Step.drawn {rb : Nat} {w w' : World} (h : Step rb w w') (n : Nat) : Step rb w (w'.drewN n) := h.trans (.of (Go.below_drewN (Below.refl _ _) n))
theorem Step.below {rb B : Nat} {w w' : World} (h : Step rb w w') (hB : B ≤ rb) (hs : B ≤ w.heap.size) : Below B w w' := ⟨h.os, h.tape, h.output, h.size, fun k hk => h.block k (by omega) (by omega)⟩
theorem Step.cell {rb : Nat} {w w' : World} (h : Step rb w w') (b o : Nat) (hb : b < w.heap.size) (hr : b ≠ rb) : w'.cell? ⟨b, o, none⟩ = w.cell? ⟨b, o, none⟩ := World.cell?_of_block (w := w) (h.block b hb hr)
theorem Step.frozen {rb : Nat} {w w' : World} (h : Step rb w w') (b o : Nat) (hb : b < w.heap.size) (hr : b ≠ rb) : w'.frozen? ⟨b, o, none⟩ = w.frozen? ⟨b, o, none⟩ := World.frozen?_of_block (w := w) (h.block b hb hr)

theorem Rd.lt {w : World} {rb m : Nat} (h : Rd w rb m) : rb < w.heap.size := by
  obtain ⟨a, len, cap, p, h0, _⟩ := h.rd
  exact World.block_lt_of_cell? w ⟨rb, 0, none⟩ h0
theorem Rd.to {w w' : World} {rb m : Nat} (h : Rd w rb m) (hb : Below w.heap.size w w') : Rd w' rb m := by
  have hlt := h.lt
  obtain ⟨a, len, cap, p, h0, h1, hf, hp, hl, hr⟩ := h.rd
  refine ⟨a, len, cap, p, ?_, ?_, ?_, hp, hl, ?_⟩
  · rw [hb.cell (p := ⟨rb, 0, none⟩) hlt]; exact h0
  · rw [hb.cell (p := ⟨rb, 1, none⟩) hlt]; exact h1
  · rw [hb.frozen (p := ⟨rb, 1, none⟩) hlt]; exact hf
  · rcases hr with hr | ⟨b, off, f, ha, hbr, hc⟩
    · exact .inl hr
    · refine .inr ⟨b, off, f, ha, hbr, fun i hi => ?_⟩
      have := hc i hi
      rw [hb.cell (p := ⟨b, off + i, none⟩) (World.block_lt_of_cell? w ⟨b, off + i, none⟩ this.1)]
      exact this
theorem Rd.alloc {w : World} {rb m : Nat} (h : Rd w rb m) (o : Obj) : Rd (w.alloc o) rb m := h.to ((Below.refl _ _).alloc (Nat.le_refl _) o)
theorem Rd.mono {w : World} {rb m m' : Nat} (h : Rd w rb m) (hm : m ≤ m') : Rd w rb m' := by
  obtain ⟨a, len, cap, p, h0, h1, hf, hp, hr⟩ := h.rd
  exact ⟨a, len, cap, p, h0, h1, hf, by omega, hr⟩
/-- A store into a block behind the reader's. -/
theorem Rd.set {w : World} {rb m : Nat} (h : Rd w rb m) (c i : Nat) (v : Value) (hc : rb < c) : Rd (w.setCell ⟨c, i, none⟩ v) rb m := by
  obtain ⟨a, len, cap, p, h0, h1, hf, hp, hl, hr⟩ := h.rd
  refine ⟨a, len, cap, p, ?_, ?_, ?_, hp, hl, ?_⟩
  · rw [World.cell?_setCell_other w ⟨c, i, none⟩ ⟨rb, 0, none⟩ _ (by simp <;> omega)]; exact h0
  · rw [World.cell?_setCell_other w ⟨c, i, none⟩ ⟨rb, 1, none⟩ _ (by simp <;> omega)]; exact h1
  · rw [World.frozen?_setCell]; exact hf
  · rcases hr with hr | ⟨b, off, f, ha, hbr, hb⟩
    · exact .inl hr
    · refine .inr ⟨b, off, f, ha, hbr, fun j hj => ?_⟩
      rw [World.cell?_setCell_other w ⟨c, i, none⟩ ⟨b, off + j, none⟩ _ (by simp <;> omega)]
      exact hb j hj
theorem Step.setNew {rb : Nat} {w w' : World} (h : Step rb w w') (c i : Nat) (v : Value) (hc : w.heap.size ≤ c) : Step rb w (w'.setCell ⟨c, i, none⟩ v) :=
  ⟨h.os, h.tape, h.output, by simpa [World.setCell] using h.size, fun k hk hr => (Below.heap_setCell _ _ _ _ (by simp; omega)).trans (h.block k hk hr)⟩
theorem next_of {w : World} {rb m len cap p : Nat} {a : Option Addr} (nq : Nat) (h0 : w.cell? ⟨rb, 0, none⟩ = some (.slice a len cap)) (h1 : w.cell? ⟨rb, 1, none⟩ = some (.int .i64 (p : Int))) (hf : w.frozen? ⟨rb, 1, none⟩ = false) (hp : p ≤ m) (hl : len ≤ 2000)
    (hr : len = 0 ∨ ∃ (b off : Nat) (f : Nat → Int), a = some ⟨b, off, none⟩ ∧ b < rb ∧ ∀ i, i < len → w.cell? ⟨b, off + i, none⟩ = some (.int .u8 (f i)) ∧ 0 ≤ f i ∧ f i ≤ 255) :
    Rd ((w.setCell ⟨rb, 1, none⟩ (.int .i64 ((p : Int) + 1))).drewN nq) rb (m + 1) ∧ Step rb w ((w.setCell ⟨rb, 1, none⟩ (.int .i64 ((p : Int) + 1))).drewN nq) := by
  have st : Step rb w ((w.setCell ⟨rb, 1, none⟩ (.int .i64 ((p : Int) + 1))).drewN nq) := (Step.set rb w rb 1 _ rfl).drawn nq
  refine ⟨⟨a, len, cap, p + 1, ?_, ?_, ?_, by omega, hl, ?_⟩, st⟩
  · show (w.setCell ⟨rb, 1, none⟩ _).cell? ⟨rb, 0, none⟩ = _
    rw [World.cell?_setCell_other w ⟨rb, 1, none⟩ ⟨rb, 0, none⟩ _ (by simp)]; exact h0
  · show (w.setCell ⟨rb, 1, none⟩ _).cell? ⟨rb, 1, none⟩ = _
    rw [World.cell?_setCell_same w ⟨rb, 1, none⟩ _ h1]; simp
  · show (w.setCell ⟨rb, 1, none⟩ _).frozen? ⟨rb, 1, none⟩ = _
    rw [World.frozen?_setCell]; exact hf
  · rcases hr with hr | ⟨b, off, f, ha, hbr, hc⟩
    · exact .inl hr
    · refine .inr ⟨b, off, f, ha, hbr, fun i hi => ?_⟩
      have := hc i hi
      rw [st.cell b (off + i) (World.block_lt_of_cell? w ⟨b, off + i, none⟩ this.1) (Nat.ne_of_lt hbr)]
      exact this

theorem xor_nonneg (a b : Int) (h1 : 0 ≤ a) (h2 : a < 4611686018427387904) (h3 : 0 ≤ b) (h4 : b < 4611686018427387904) : 0 ≤ bits .xor .i64 a b := by
  obtain ⟨x, rfl⟩ := Int.eq_ofNat_of_zero_le h1
  obtain ⟨y, rfl⟩ := Int.eq_ofNat_of_zero_le h3
  have hx : x ^^^ y < 2 ^ 62 := Nat.xor_lt_two_pow (by omega) (by omega)
  have e1 : (BitVec.ofInt 64 (x : Int)).toNat = x := by
    rw [BitVec.ofInt_natCast, BitVec.toNat_ofNat]; exact Nat.mod_eq_of_lt (by omega)
  have e2 : (BitVec.ofInt 64 (y : Int)).toNat = y := by
    rw [BitVec.ofInt_natCast, BitVec.toNat_ofNat]; exact Nat.mod_eq_of_lt (by omega)
  show 0 ≤ IntKind.i64.wrap ((BitVec.ofInt 64 (x : Int) ^^^ BitVec.ofInt 64 (y : Int)).toNat : Int)
  rw [BitVec.toNat_xor, e1, e2, IntKind.wrap_i64]
  omega

set_option maxHeartbeats 400000 in
theorem pick_few (rb p : Nat) (n : Int) (w : World) (hn : n < 1) (hp : p ≤ 1000000)
    (h1 : w.cell? ⟨rb, 1, none⟩ = some (.int .i64 (p : Int))) (hfz : w.frozen? ⟨rb, 1, none⟩ = false) :
    Calls Tryz.prog 13 #[.pointer (some ⟨rb, 0, none⟩), .int .i64 n] w fun e w' => e = .returned (.int .i64 0) ∧ w' = w.setCell ⟨rb, 1, none⟩ (.int .i64 (p + 1)) := by
  go_enter Tryz.func13, Tryz.ntmps13
  go_wp2
  go_ret
  exact ⟨rfl, rfl⟩

set_option maxHeartbeats 400000 in
theorem pick_none (rb p cap : Nat) (a : Option Addr) (n : Int) (w : World) (hn : 1 ≤ n) (hp : p ≤ 1000000)
    (h0 : w.cell? ⟨rb, 0, none⟩ = some (.slice a 0 cap)) (h1 : w.cell? ⟨rb, 1, none⟩ = some (.int .i64 (p : Int))) (hfz : w.frozen? ⟨rb, 1, none⟩ = false) :
    Calls Tryz.prog 13 #[.pointer (some ⟨rb, 0, none⟩), .int .i64 n] w fun e w' => e = .returned (.int .i64 0) ∧ w' = w.setCell ⟨rb, 1, none⟩ (.int .i64 (p + 1)) := by
  have hn3 : ¬ n < 1 := by omega
  go_enter Tryz.func13, Tryz.ntmps13
  go_wp2
  go_ret
  exact ⟨rfl, rfl⟩

set_option maxHeartbeats 400000 in
theorem pick_in (rb p len cap b off : Nat) (n c : Int) (w : World) (hn : 1 ≤ n) (hn2 : n ≤ 100000) (hp : p ≤ 1000000)
    (h0 : w.cell? ⟨rb, 0, none⟩ = some (.slice (some ⟨b, off, none⟩) len cap)) (h1 : w.cell? ⟨rb, 1, none⟩ = some (.int .i64 (p : Int))) (hfz : w.frozen? ⟨rb, 1, none⟩ = false)
    (hb : b ≠ rb) (hl : p < len) (_hl2 : len ≤ 2000) (hc : w.cell? ⟨b, off + p, none⟩ = some (.int .u8 c)) (c0 : 0 ≤ c) (c1 : c ≤ 255) :
    Calls Tryz.prog 13 #[.pointer (some ⟨rb, 0, none⟩), .int .i64 n] w fun e w' => e = .returned (.int .i64 (c % n)) ∧ w' = w.setCell ⟨rb, 1, none⟩ (.int .i64 (p + 1)) := by
  have hz : ((len : Int) == 0) = false := by simp; omega
  have hn3 : ¬ n < 1 := by omega
  have hn4 : (n == 0) = false := by simp; omega
  have hl3 : (p : Int) < len := by omega
  go_enter Tryz.func13, Tryz.ntmps13
  go_wp2
  go_ret
  exact ⟨rfl, rfl⟩

set_option maxHeartbeats 400000 in
theorem pick_out (rb p len cap b off : Nat) (n c d : Int) (w : World) (hn : 1 ≤ n) (hn2 : n ≤ 100000) (hp : p ≤ 1000000)
    (h0 : w.cell? ⟨rb, 0, none⟩ = some (.slice (some ⟨b, off, none⟩) len cap)) (h1 : w.cell? ⟨rb, 1, none⟩ = some (.int .i64 (p : Int))) (hfz : w.frozen? ⟨rb, 1, none⟩ = false)
    (hb : b ≠ rb) (hl : len ≤ p) (hl2 : len ≤ 2000) (hl0 : 1 ≤ len)
    (hc : w.cell? ⟨b, off + p % len, none⟩ = some (.int .u8 c)) (c0 : 0 ≤ c) (c1 : c ≤ 255) (hd : w.cell? ⟨b, off + (p * 7 + 3) % len, none⟩ = some (.int .u8 d)) (d0 : 0 ≤ d) (d1 : d ≤ 255) :
    Calls Tryz.prog 13 #[.pointer (some ⟨rb, 0, none⟩), .int .i64 n] w fun e w' => ∃ v, e = .returned (.int .i64 v) ∧ 0 ≤ v ∧ v < n ∧ ∃ nq, w' = (w.setCell ⟨rb, 1, none⟩ (.int .i64 (p + 1))).drewN nq := by
  have hz : ((len : Int) == 0) = false := by simp; omega
  have hn3 : ¬ n < 1 := by omega
  have hn4 : (n == 0) = false := by simp; omega
  have hl3 : ¬ (p : Int) < len := by omega
  have m1 : p % len < len := Nat.mod_lt _ (by omega)
  have i1 : ((p % len : Nat) : Int) < len := by omega
  have q0 : 0 ≤ (p : Int) / (len : Int) := Int.ediv_nonneg (by omega) (by omega)
  have q1 : (p : Int) / (len : Int) ≤ p := Int.ediv_le_self _ (by omega)
  have j1 : 0 ≤ ((p : Int) * 7 + 3) % (len : Int) := Int.emod_nonneg _ (by omega)
  have j2 : ((p : Int) * 7 + 3) % (len : Int) < (len : Int) := Int.emod_lt_of_pos _ (by omega)
  go_enter Tryz.func13, Tryz.ntmps13
  go_wp2
  go_quiet (fail)
  go_wp2
  go_ret
  have hx := xor_nonneg (c * 131 + d * 1117 + ↑p * 29 + ↑p / ↑len * 53) ((c * 131 + d * 1117 + ↑p * 29 + ↑p / ↑len * 53) / 64) (by omega) (by omega) (by omega) (by omega)
  exact ⟨_, rfl, Int.tmod_nonneg _ hx, Int.tmod_lt_of_pos _ (by omega), nq, rfl⟩

theorem pick_any (rb m : Nat) (n : Int) (w : World) (hn2 : n ≤ 100000) (hr : Rd w rb m) (hm : m ≤ 1000000) :
    Calls Tryz.prog 13 #[.pointer (some ⟨rb, 0, none⟩), .int .i64 n] w fun e w' => ∃ v, e = .returned (.int .i64 v) ∧ 0 ≤ v ∧ (1 ≤ n → v < n) ∧ (n < 1 → v = 0) ∧ Rd w' rb (m + 1) ∧ Step rb w w' := by
  obtain ⟨a, len, cap, p, h0, h1, hf, hp, hl, hr⟩ := hr.rd
  have fin := fun nq => next_of (m := m) nq h0 h1 hf hp hl hr
  by_cases hn : n < 1
  · refine (pick_few rb p n w hn (by omega) h1 hf).mono ?_
    rintro e w' ⟨rfl, rfl⟩
    exact ⟨0, rfl, by omega, by omega, fun _ => rfl, (fin 0).1, (fin 0).2⟩
  rcases hr with rfl | ⟨b, off, f, rfl, hb, hc⟩
  · refine (pick_none rb p cap a n w (by omega) (by omega) h0 h1 hf).mono ?_
    rintro e w' ⟨rfl, rfl⟩
    exact ⟨0, rfl, by omega, by omega, fun _ => rfl, (fin 0).1, (fin 0).2⟩
  by_cases hlen : len = 0
  · subst hlen
    refine (pick_none rb p cap _ n w (by omega) (by omega) h0 h1 hf).mono ?_
    rintro e w' ⟨rfl, rfl⟩
    exact ⟨0, rfl, by omega, by omega, fun _ => rfl, (fin 0).1, (fin 0).2⟩
  by_cases hpl : p < len
  · have := hc p hpl
    refine (pick_in rb p len cap b off n (f p) w (by omega) hn2 (by omega) h0 h1 hf (Nat.ne_of_lt hb) hpl hl this.1 this.2.1 this.2.2).mono ?_
    rintro e w' ⟨rfl, rfl⟩
    exact ⟨_, rfl, Int.emod_nonneg _ (by omega), fun _ => Int.emod_lt_of_pos _ (by omega), fun h => absurd h hn, (fin 0).1, (fin 0).2⟩
  · have c1 := hc (p % len) (Nat.mod_lt _ (by omega))
    have c2 := hc ((p * 7 + 3) % len) (Nat.mod_lt _ (by omega))
    refine (pick_out rb p len cap b off n _ _ w (by omega) hn2 (by omega) h0 h1 hf (Nat.ne_of_lt hb) (by omega) hl (by omega) c1.1 c1.2.1 c1.2.2 c2.1 c2.2.1 c2.2.2).mono ?_
    rintro e w' ⟨v, rfl, v0, v1, nq, rfl⟩
    exact ⟨v, rfl, v0, fun _ => v1, fun h => absurd h hn, (fin nq).1, (fin nq).2⟩

/-- A list of n numbers lies in block lb, each at most 2000000000 away from 0. -/
def Nums (w : World) (lb n : Nat) : Prop := ∀ i, i < n → ∃ z : Int, w.cell? ⟨lb, i, none⟩ = some (.int .i64 z) ∧ -2000000000 ≤ z ∧ z ≤ 2000000000

set_option maxHeartbeats 400000 in
theorem num_any (rb m lb n : Nat) (w : World) (hn : 1 ≤ n) (hn2 : n ≤ 100) (hr : Rd w rb m) (hm : m ≤ 1000000) (hl : Nums w lb n) (hlr : lb ≠ rb) :
    Calls Tryz.prog 48 #[.pointer (some ⟨rb, 0, none⟩), .slice (some ⟨lb, 0, none⟩) n n] w fun e w' => ∃ v, e = .returned (.int .i64 v) ∧ -2000000000 ≤ v ∧ v ≤ 2000000000 ∧ Rd w' rb (m + 1) ∧ Step rb w w' := by
  go_enter Tryz.func48, Tryz.ntmps48
  go_wp2_with fail
  refine (pick_any rb m n _ (by omega) hr hm).mono ?_
  rintro e w' ⟨v, rfl, v0, v1, -, hr', st⟩
  obtain ⟨k, rfl⟩ := Int.eq_ofNat_of_zero_le v0
  have hk : (k : Int) < n := v1 (by omega)
  obtain ⟨z, hz, z0, z1⟩ := hl k (by omega)
  have hz' : w'.cell? ⟨lb, k, none⟩ = some (.int .i64 z) := by
    rw [st.cell lb k (World.block_lt_of_cell? w ⟨lb, k, none⟩ hz) hlr]; exact hz
  clear v1 hl
  go_wp2
  go_ret
  exact ⟨z, rfl, z0, z1, hr', st⟩

/-- The bytes that come in: nil, or a row. -/
def IsRow (w : World) (a : Option Addr) (len : Nat) : Prop :=
  len = 0 ∨ ∃ (b off : Nat) (f : Nat → Int), a = some ⟨b, off, none⟩ ∧ ∀ i, i < len → w.cell? ⟨b, off + i, none⟩ = some (.int .u8 (f i)) ∧ 0 ≤ f i ∧ f i ≤ 255

theorem open_done {w : World} {a a' : Option Addr} {len len' cap : Nat} (h : IsRow w a len) (hl : len' ≤ len) (ha : len' ≠ 0 → a' = a) (h2 : len' ≤ 2000) :
    Rd (w.alloc (.cells #[.slice a' len' cap, .int .i64 0] 75)) w.heap.size 0 := by
  refine ⟨a', len', cap, 0, by simp [go_sem], by simp [go_sem], by simp [go_sem], by omega, h2, ?_⟩
  by_cases h0 : len' = 0
  · exact .inl h0
  rcases h with h | ⟨b, off, f, rfl, hc⟩
  · omega
  · refine .inr ⟨b, off, f, ha h0, ?_, fun i hi => ?_⟩
    · have := World.block_lt_of_cell? w ⟨b, off + 0, none⟩ (hc 0 (by omega)).1
      simp at this; omega
    · have := hc i (by omega)
      rw [World.cell?_alloc_lt _ _ _ (World.block_lt_of_cell? w ⟨b, off + i, none⟩ this.1)]
      exact this

set_option maxHeartbeats 400000 in
theorem open_any (a : Option Addr) (len cap : Nat) (w : World) (h : IsRow w a len) (hlc : len ≤ cap) :
    Calls Tryz.prog 11 #[.slice a len cap] w fun e w' => e = .returned (.pointer (some ⟨w.heap.size, 0, none⟩)) ∧ Rd w' w.heap.size 0 ∧ Below w.heap.size w w' := by
  by_cases hl : 2000 < len
  · have hl1 : (2000 : Int) < len := by omega
    have hl2 : (2000 : Int) ≤ cap := by omega
    rcases h with h | ⟨b, off, f, rfl, hc⟩
    · omega
    have hop : Hid (IsRow w (some ⟨b, off, none⟩) len) := .inr ⟨b, off, f, rfl, hc⟩
    clear hc
    go_enter Tryz.func11, Tryz.ntmps11
    go_wp2
    go_ret
    exact ⟨rfl, open_done hop.out (by omega) (fun _ => rfl) (by omega), (Below.refl _ _).alloc (Nat.le_refl _) _⟩
  · have hl1 : ¬ (2000 : Int) < len := by omega
    have hop : Hid (IsRow w a len) := h
    clear h
    go_enter Tryz.func11, Tryz.ntmps11
    go_wp2
    go_ret
    exact ⟨rfl, open_done hop.out (by omega) (fun _ => rfl) (by omega), (Below.refl _ _).alloc (Nat.le_refl _) _⟩
end Go.Proofs.YtjkpingdokkkcaaGreatDoor

/- The table of devices, as the program's own text lays it, cell for cell; and what devRowOf answers. Helper text: no statement is claimed here. -/
namespace Go.Proofs.YtjkpingdokkkcaaGreatDoor
open Go.ChangeShapes Go.WideShapes Go.ChangeAt Go.RowKit

def rL : Nat → List UInt8
  | 1 => [88] | 2 => [89] | 3 => [77] | 4 => [83] | 5 => [69] | 6 => [71] | 7 => [84] | 8 => [67] | 9 => [68] | 10 => [82] | _ => []
def rN : Nat → Int
  | 1 => 32 | 2 => 32 | 3 => 64 | 4 => 16 | 5 => 32 | 6 => 5 | 7 => 16 | 8 => 16 | 9 => 32 | 10 => 16 | _ => 0
def rB : Nat → Bool
  | 1 => true | 2 => true | 3 => true | 4 => true | 6 => true | 7 => true | 8 => true | _ => false
def rW : Nat → Bool
  | 7 => true | 8 => true | 9 => true | 11 => true | _ => false
def rR : Nat → Bool
  | 10 => true | 12 => true | 13 => true | _ => false

/-- The cells of the table of devices. -/
def DevTab (w : World) : Prop := ∀ i, i < 14 →
  w.cell? ⟨1, i * 5, none⟩ = some (.string ⟨(rL i).toArray⟩) ∧ w.cell? ⟨1, i * 5 + 1, none⟩ = some (.int .i64 (rN i)) ∧
  w.cell? ⟨1, i * 5 + 2, none⟩ = some (.bool (rB i)) ∧ w.cell? ⟨1, i * 5 + 3, none⟩ = some (.bool (rW i)) ∧ w.cell? ⟨1, i * 5 + 4, none⟩ = some (.bool (rR i))

theorem tRows : (Tryz.prog.globals[1]?).map (·.type) = some 169 := by kernel_rfl
theorem cRow : Tryz.prog.cellsOf 165 = 5 := by kernel_rfl
theorem cRows : Tryz.prog.cellsOf 169 = 70 := by kernel_rfl
theorem cInt : Tryz.prog.cellsOf 3 = 1 := by kernel_rfl
theorem cBool : Tryz.prog.cellsOf 4 = 1 := by kernel_rfl
theorem cStr : Tryz.prog.cellsOf 9 = 1 := by kernel_rfl

theorem five {α : Type} {l : List α} (h : l.length = 5) : ∃ a b c d e, l = [a, b, c, d, e] := by
  match l, h with
  | [a, b, c, d, e], _ => exact ⟨a, b, c, d, e, rfl⟩

theorem rowCells {w : World} {sp : Nat → Bool} {held : Bool} {fuel : Nat} {cs : List Value} {l : List UInt8} {n : Int} {b1 b2 b3 : Bool} {p : List MemPlace}
    (h : DataW.trod (fun _ => ()) Tryz.prog w 0 sp held fuel 165 cs = some (.agg [.lit (.string l), .lit (.int .i64 n), .lit (.bool b1), .lit (.bool b2), .lit (.bool b3)], p)) :
    cs = [.string ⟨l.toArray⟩, .int .i64 n, .bool b1, .bool b2, .bool b3] := by
  obtain ⟨xs, m, rfl, hx, hl, hn, hf⟩ := DataW.trod_struct Tryz.underlying165 h
  simp only [Prod.mk.injEq, DataW.agg.injEq] at hx
  rw [cRow] at hl
  obtain ⟨x0, x1, x2, x3, x4, rfl⟩ := five (show xs.length = 5 from hn)
  obtain ⟨c0, c1, c2, c3, c4, rfl⟩ := five hl
  · skip
    have f0 := hf 0 _ rfl
    have f1 := hf 1 _ rfl
    have f2 := hf 2 _ rfl
    have f3 := hf 3 _ rfl
    have f4 := hf 4 _ rfl
    simp only [List.map_cons, List.map_nil, List.cons.injEq, and_true] at hx
    obtain ⟨⟨e0, e1, e2, e3, e4⟩, _⟩ := hx
    simp [cInt, cStr, cBool] at f0 f1 f2 f3 f4
    obtain ⟨s0, g0, h0, _⟩ := DataW.trod_string Tryz.underlying9 f0
    obtain ⟨n1, g1, h1, _⟩ := DataW.trod_int Tryz.underlying3 f1
    obtain ⟨n2, g2, h2⟩ := DataW.trod_bool Tryz.underlying4 f2
    obtain ⟨n3, g3, h3⟩ := DataW.trod_bool Tryz.underlying4 f3
    obtain ⟨n4, g4, h4⟩ := DataW.trod_bool Tryz.underlying4 f4
    rw [h0] at e0; rw [h1] at e1; rw [h2] at e2; rw [h3] at e3; rw [h4] at e4
    simp only [DataW.lit.injEq, Lit.string.injEq, Lit.int.injEq, Lit.bool.injEq, true_and] at e0 e1 e2 e3 e4
    simp only [List.cons.injEq, and_true] at g0 g1 g2 g3 g4
    subst e0 e1 e2 e3 e4 g0 g1 g2 g3 g4
    simp

def rowD (i : Nat) : DataW Unit := .agg [.lit (.string (rL i)), .lit (.int .i64 (rN i)), .lit (.bool (rB i)), .lit (.bool (rW i)), .lit (.bool (rR i))]
def rowsD : List (DataW Unit) := [rowD 0, rowD 1, rowD 2, rowD 3, rowD 4, rowD 5, rowD 6, rowD 7, rowD 8, rowD 9, rowD 10, rowD 11, rowD 12, rowD 13]
theorem rowsD_at (i : Nat) (h : i < 14) : rowsD[i]? = some (rowD i) := by
  have : i = 0 ∨ i = 1 ∨ i = 2 ∨ i = 3 ∨ i = 4 ∨ i = 5 ∨ i = 6 ∨ i = 7 ∨ i = 8 ∨ i = 9 ∨ i = 10 ∨ i = 11 ∨ i = 12 ∨ i = 13 := by omega
  rcases this with rfl | rfl | rfl | rfl | rfl | rfl | rfl | rfl | rfl | rfl | rfl | rfl | rfl | rfl <;> rfl


theorem DevTab.below {w w' : World} (h : DevTab w) (hb : Below w.heap.size w w') (hs : 1 < w.heap.size) : DevTab w' := fun i hi => by
  have := h i hi
  simp only [hb.cell (p := ⟨1, _, none⟩) hs]
  exact this
end Go.Proofs.YtjkpingdokkkcaaGreatDoor

/- What the program's functions on operands answer. Helper text: no statement is claimed here. -/
namespace Go.Proofs.YtjkpingdokkkcaaGreatDoor
open Go.ChangeShapes Go.WideShapes Go.ChangeAt Go.RowKit

theorem DevTab.lt {w : World} (h : DevTab w) : 1 < w.heap.size := World.block_lt_of_cell? w ⟨1, _, none⟩ (h 0 (by omega)).1
theorem DevTab.to {w w' : World} (h : DevTab w) (hb : Below w.heap.size w w') : DevTab w' := h.below hb h.lt
theorem DevTab.alloc {w : World} (h : DevTab w) (o : Obj) : DevTab (w.alloc o) := h.to ((Below.refl _ _).alloc (Nat.le_refl _) o)
theorem DevTab.drew {w : World} (h : DevTab w) : DevTab w.drew := h.to (Below.refl _ _).drew
theorem bcell {W w1 : World} (hb : Below W.heap.size W w1) : (∀ b o, b < W.heap.size → w1.cell? ⟨b, o, none⟩ = W.cell? ⟨b, o, none⟩) ∧ (∀ b o, b < W.heap.size → w1.frozen? ⟨b, o, none⟩ = W.frozen? ⟨b, o, none⟩) :=
  ⟨fun b o h => hb.cell (p := ⟨b, o, none⟩) h, fun b o h => hb.frozen (p := ⟨b, o, none⟩) h⟩
theorem ret_bool {a b : Bool} (h : a = b) : Ending.returned (.bool a) = .returned (.bool b) := by rw [h]

def kz (k : Int) : Nat := if 1 ≤ k ∧ k ≤ 13 then k.toNat else 0
theorem kz_nat (i : Nat) (h1 : 1 ≤ i) (h2 : i ≤ 13) : kz (i : Int) = i := by unfold kz; rw [if_pos (by omega)]; omega
theorem kz_no (k : Int) (h : k < 1 ∨ 13 < k) : kz k = 0 := by unfold kz; rw [if_neg (by omega)]
def rowV (k : Int) : Value := .agg #[.string ⟨(rL (kz k)).toArray⟩, .int .i64 (rN (kz k)), .bool (rB (kz k)), .bool (rW (kz k)), .bool (rR (kz k))]

set_option maxHeartbeats 400000 in
theorem rowOf_no (k : Int) (w : World) (h : k < 1 ∨ 13 < k) :
    Calls Tryz.prog 121 #[.int .i64 k] w fun e w' => e = .returned (.agg #[.string ⟨#[]⟩, .int .i64 0, .bool false, .bool false, .bool false]) ∧ Below w.heap.size w w' := by
  rcases h with h | h
  · go_enter Tryz.func121, Tryz.ntmps121
    go_wp2
    exact bodyPost_ret (v := .agg #[.string ⟨#[]⟩, .int .i64 0, .bool false, .bool false, .bool false]) (by simp [results, Tryz.results121, go_sem]) rfl ⟨rfl, (Below.refl _ _).alloc (Nat.le_refl _) _⟩
  · have h' : ¬ k < 1 := by omega
    go_enter Tryz.func121, Tryz.ntmps121
    go_wp2
    exact bodyPost_ret (v := .agg #[.string ⟨#[]⟩, .int .i64 0, .bool false, .bool false, .bool false]) (by simp [results, Tryz.results121, go_sem]) rfl ⟨rfl, (Below.refl _ _).alloc (Nat.le_refl _) _⟩

set_option maxHeartbeats 400000 in
theorem rowOf_yes (i : Nat) (w : World) (h1 : 1 ≤ i) (h2 : i ≤ 13) (hT : DevTab w) :
    Calls Tryz.prog 121 #[.int .i64 (i : Int)] w fun e w' => e = .returned (.agg #[.string ⟨(rL i).toArray⟩, .int .i64 (rN i), .bool (rB i), .bool (rW i), .bool (rR i)]) ∧ Below w.heap.size w w' := by
  obtain ⟨t0, t1, t2, t3, t4⟩ := hT i (by omega)
  have a : ¬ (i : Int) < 1 := by omega
  have b : ¬ (13 : Int) < i := by omega
  have hs : 1 < w.heap.size := hT.lt
  clear hT
  go_enter Tryz.func121, Tryz.ntmps121
  go_wp2
  exact bodyPost_ret (v := .agg #[.string ⟨(rL i).toArray⟩, .int .i64 (rN i), .bool (rB i), .bool (rW i), .bool (rR i)]) (by simp [results, Tryz.results121, go_sem]) rfl ⟨rfl, (Below.refl _ _).alloc (Nat.le_refl _) _⟩

theorem rowOf_any (k : Int) (w : World) (hT : DevTab w) :
    Calls Tryz.prog 121 #[.int .i64 k] w fun e w' => e = .returned (.agg #[.string ⟨(rL (kz k)).toArray⟩, .int .i64 (rN (kz k)), .bool (rB (kz k)), .bool (rW (kz k)), .bool (rR (kz k))]) ∧ Below w.heap.size w w' := by
  by_cases h : k < 1 ∨ 13 < k
  · rw [kz_no k h]; exact rowOf_no k w h
  · obtain ⟨i, rfl⟩ := Int.eq_ofNat_of_zero_le (show 0 ≤ k by omega)
    rw [kz_nat i (by omega) (by omega)]; exact rowOf_yes i w (by omega) (by omega) hT

theorem field_0 (a b c d e : Value) (w : World) : Sem.run Tryz.prog (Instr.field 165 (.agg #[a, b, c, d, e]) 0) w = .ok a w := by kernel_rfl
theorem field_1 (a b c d e : Value) (w : World) : Sem.run Tryz.prog (Instr.field 165 (.agg #[a, b, c, d, e]) 1) w = .ok b w := by kernel_rfl
theorem field_2 (a b c d e : Value) (w : World) : Sem.run Tryz.prog (Instr.field 165 (.agg #[a, b, c, d, e]) 2) w = .ok c w := by kernel_rfl
theorem field_3 (a b c d e : Value) (w : World) : Sem.run Tryz.prog (Instr.field 165 (.agg #[a, b, c, d, e]) 3) w = .ok d w := by kernel_rfl
theorem field_4 (a b c d e : Value) (w : World) : Sem.run Tryz.prog (Instr.field 165 (.agg #[a, b, c, d, e]) 4) w = .ok e w := by kernel_rfl
attribute [local go_sem] field_0 field_1 field_2 field_3 field_4

set_option maxHeartbeats 400000 in
theorem size_any (k : Int) (w : World) (hT : DevTab w) :
    Calls Tryz.prog 125 #[.int .i64 k] w fun e w' => e = .returned (.int .i64 (rN (kz k))) ∧ Below w.heap.size w w' := by
  go_enter Tryz.func125, Tryz.ntmps125
  go_wp2_with fail
  refine (rowOf_any _ _ hT).mono ?_
  rintro e w' ⟨rfl, hb⟩
  go_wp2
  go_ret
  exact ⟨rfl, hb⟩

def decOk (n p : Int) : Bool := decide (-999999999 ≤ n ∧ n ≤ 999999999 ∧ 1 ≤ p ∧ p ≤ 6 ∧ (p = 1 ∨ n.tmod 10 ≠ 0))

set_option maxHeartbeats 400000 in
theorem decOk_any (n p : Int) (w : World) :
    Calls Tryz.prog 124 #[.int .i64 n, .int .i64 p] w fun e w' => e = .returned (.bool (decOk n p)) ∧ w' = w := by
  by_cases h1 : n < -999999999
  · go_enter Tryz.func124, Tryz.ntmps124
    go_wp2
    go_ret
    exact ⟨ret_bool (by simp [decOk]; omega), rfl⟩
  by_cases h2 : 999999999 < n
  · go_enter Tryz.func124, Tryz.ntmps124
    go_wp2
    go_ret
    exact ⟨ret_bool (by simp [decOk]; omega), rfl⟩
  by_cases h3 : p < 1
  · go_enter Tryz.func124, Tryz.ntmps124
    go_wp2
    go_ret
    exact ⟨ret_bool (by simp [decOk]; omega), rfl⟩
  by_cases h4 : 6 < p
  · go_enter Tryz.func124, Tryz.ntmps124
    go_wp2
    go_ret
    exact ⟨ret_bool (by simp [decOk]; omega), rfl⟩
  by_cases h5 : p = 1
  · subst h5
    go_enter Tryz.func124, Tryz.ntmps124
    go_wp2
    go_ret
    exact ⟨ret_bool (by simp [decOk]; omega), rfl⟩
  · have h5' : (p == 1) = false := by simpa using h5
    clear h5
    go_enter Tryz.func124, Tryz.ntmps124
    go_wp2
    go_ret
    have h5 : p ≠ 1 := by simpa using h5'
    exact ⟨ret_bool (by by_cases h6 : n.tmod 10 = 0 <;> simp [decOk, h1, h2, h3, h4, h5, h6]), rfl⟩
end Go.Proofs.YtjkpingdokkkcaaGreatDoor

/- DevOk, the program's and the document's. Helper text: no statement is claimed here. -/
namespace Go.Proofs.YtjkpingdokkkcaaGreatDoor
open Go.ChangeShapes Go.WideShapes Go.ChangeAt Go.RowKit

def okB (k n p : Int) : Bool := decide ((k = 11 ∧ -32768 ≤ n ∧ n ≤ 32767 ∧ p = 0) ∨ (k = 12 ∧ decOk n p = true) ∨ (k = 13 ∧ 0 ≤ n ∧ n < 4 ∧ p = 0) ∨ (k ≠ 11 ∧ k ≠ 12 ∧ k ≠ 13 ∧ 0 ≤ n ∧ n < rN (kz k) ∧ p = 0))
theorem okB_11 (n p : Int) : okB 11 n p = decide (-32768 ≤ n ∧ n ≤ 32767 ∧ p = 0) := by simp [okB]
theorem okB_12 (n p : Int) : okB 12 n p = decOk n p := by simp [okB]
theorem okB_13 (n p : Int) : okB 13 n p = decide (0 ≤ n ∧ n < 4 ∧ p = 0) := by simp [okB]
theorem okB_dev (k n p : Int) (h1 : k ≠ 11) (h2 : k ≠ 12) (h3 : k ≠ 13) : okB k n p = decide (0 ≤ n ∧ n < rN (kz k) ∧ p = 0) := by simp [okB, h1, h2, h3]
theorem rN_bd (i : Nat) : 0 ≤ rN i ∧ rN i ≤ 64 := by unfold rN; split <;> omega

theorem one (w : World) (o : Obj) : Below w.heap.size w (w.alloc o) := (Below.refl _ _).alloc (Nat.le_refl _) _

set_option maxHeartbeats 400000 in
theorem devOk_11 (n p : Int) (w : World) :
    Calls Tryz.prog 120 #[.agg #[.int .i64 11, .int .i64 n, .int .i64 p]] w fun e w' => e = .returned (.bool (okB 11 n p)) ∧ Below w.heap.size w w' := by
  rw [okB_11]
  go_enter Tryz.func120, Tryz.ntmps120
  go_wp2
  all_goals go_ret
  all_goals exact ⟨ret_bool (by rw [Bool.eq_iff_iff]; simp <;> omega), one _ _⟩

set_option maxHeartbeats 400000 in
theorem devOk_12 (n p : Int) (w : World) :
    Calls Tryz.prog 120 #[.agg #[.int .i64 12, .int .i64 n, .int .i64 p]] w fun e w' => e = .returned (.bool (okB 12 n p)) ∧ Below w.heap.size w w' := by
  rw [okB_12]
  go_enter Tryz.func120, Tryz.ntmps120
  go_wp2_with fail
  refine (decOk_any _ _ _).mono ?_
  rintro e w' ⟨rfl, rfl⟩
  go_wp2
  go_ret
  exact ⟨rfl, one _ _⟩

set_option maxHeartbeats 400000 in
theorem devOk_13 (n p : Int) (w : World) :
    Calls Tryz.prog 120 #[.agg #[.int .i64 13, .int .i64 n, .int .i64 p]] w fun e w' => e = .returned (.bool (okB 13 n p)) ∧ Below w.heap.size w w' := by
  rw [okB_13]
  go_enter Tryz.func120, Tryz.ntmps120
  go_wp2
  all_goals go_ret
  all_goals exact ⟨ret_bool (by rw [Bool.eq_iff_iff]; simp <;> omega), one _ _⟩

set_option maxHeartbeats 400000 in
theorem devOk_dev0 (k n p : Int) (w : World) (h1 : (k == 11) = false) (h2 : (k == 12) = false) (h3 : (k == 13) = false) (hn : n < 0) :
    Calls Tryz.prog 120 #[.agg #[.int .i64 k, .int .i64 n, .int .i64 p]] w fun e w' => e = .returned (.bool false) ∧ Below w.heap.size w w' := by
  have hd : decide (0 ≤ n) = false := by simp; omega
  go_enter Tryz.func120, Tryz.ntmps120
  go_wp2
  go_quiet (fail)
  go_wp2
  go_ret
  exact ⟨rfl, below_drewN (one _ _) _⟩
abbrev argO (k n p : Int) : Obj := .cells #[.int .i64 k, .int .i64 n, .int .i64 p] 27
theorem arg_at (k n p : Int) (w : World) : (w.alloc (argO k n p)).cell? ⟨w.heap.size, 0, none⟩ = some (.int .i64 k) ∧ (w.alloc (argO k n p)).cell? ⟨w.heap.size, 1, none⟩ = some (.int .i64 n) ∧ (w.alloc (argO k n p)).cell? ⟨w.heap.size, 2, none⟩ = some (.int .i64 p) := by
  refine ⟨?_, ?_, ?_⟩ <;> simp [go_sem]
theorem size_grown {k n p : Int} {w : World} (hT : DevTab w) (d : Nat) (os : Array Obj) :
    Calls Tryz.prog 125 #[.int .i64 k] (Sort.grow (redrawn (w.alloc (argO k n p)) d) os) fun e w'' => e = .returned (.int .i64 (rN (kz k))) ∧ ∃ p' : Regrown, w'' = Sort.grow (redrawn (w.alloc (argO k n p)) p'.d) p'.os :=
  Calls.regrown_of (size_any _ _ ((hT.alloc _).to (below_regrown _ d os)))

set_option maxHeartbeats 400000 in
theorem devOk_dev1 (k n p : Int) (w : World) (hT : DevTab w) (h1 : (k == 11) = false) (h2 : (k == 12) = false) (h3 : (k == 13) = false) (hn : 0 ≤ n) (hl : n < rN (kz k)) :
    Calls Tryz.prog 120 #[.agg #[.int .i64 k, .int .i64 n, .int .i64 p]] w fun e w' => e = .returned (.bool (p == 0)) ∧ Below w.heap.size w w' := by
  have hb := rN_bd (kz k)
  obtain ⟨c0, c1, c2⟩ := arg_at k n p w
  have k0 := cell_regrown c0
  have k1 := cell_regrown c1
  have k2 := cell_regrown c2
  clear c0 c1 c2
  go_enter Tryz.func120, Tryz.ntmps120
  go_wp2
  refine wp_region_quiet_below (by kernel_rfl) (by kernel_rfl) ?_
  repeat (first | go_big_quiet_step (exact size_grown hT _ _) | quiet_step (exact size_grown hT _ _))
  refine wpQuiet_nil ?_
  intro _ hw'
  obtain ⟨⟨dq, osq⟩, hw''⟩ := hw'
  subst hw''
  go_wp2
  go_ret
  exact ⟨rfl, (one _ _).trans ((below_regrown _ dq osq).mono (by simp))⟩
set_option maxHeartbeats 400000 in
theorem devOk_dev2 (k n p : Int) (w : World) (hT : DevTab w) (h1 : (k == 11) = false) (h2 : (k == 12) = false) (h3 : (k == 13) = false) (hn : 0 ≤ n) (hl : rN (kz k) ≤ n) :
    Calls Tryz.prog 120 #[.agg #[.int .i64 k, .int .i64 n, .int .i64 p]] w fun e w' => e = .returned (.bool false) ∧ Below w.heap.size w w' := by
  have hb := rN_bd (kz k)
  have hd : decide (n < rN (kz k)) = false := by simp; omega
  obtain ⟨c0, c1, c2⟩ := arg_at k n p w
  have k0 := cell_regrown c0
  have k1 := cell_regrown c1
  have k2 := cell_regrown c2
  clear c0 c1 c2
  go_enter Tryz.func120, Tryz.ntmps120
  go_wp2
  refine wp_region_quiet_below (by kernel_rfl) (by kernel_rfl) ?_
  repeat (first | go_big_quiet_step (exact size_grown hT _ _) | quiet_step (exact size_grown hT _ _))
  refine wpQuiet_nil ?_
  intro _ hw'
  obtain ⟨⟨dq, osq⟩, hw''⟩ := hw'
  subst hw''
  go_wp2
  go_ret
  exact ⟨rfl, (one _ _).trans ((below_regrown _ dq osq).mono (by simp))⟩

theorem of_one {w w1 : World} {o : Obj} (h : Below (w.alloc o).heap.size (w.alloc o) w1) : Below w.heap.size w w1 := (one w o).trans (h.mono (by simp))
theorem of_two {w w1 w2 : World} {o : Obj} (h : Below (w.alloc o).heap.size (w.alloc o) w1) (h2 : Below w1.heap.size w1 w2) : Below w.heap.size w w2 := (of_one h).trans (h2.mono (of_one h).size)

theorem devOk_any (k n p : Int) (w : World) (hT : DevTab w) :
    Calls Tryz.prog 120 #[.agg #[.int .i64 k, .int .i64 n, .int .i64 p]] w fun e w' => e = .returned (.bool (okB k n p)) ∧ Below w.heap.size w w' := by
  by_cases h1 : k = 11
  · subst h1; exact devOk_11 n p w
  by_cases h2 : k = 12
  · subst h2; exact devOk_12 n p w
  by_cases h3 : k = 13
  · subst h3; exact devOk_13 n p w
  rw [okB_dev k n p h1 h2 h3]
  have e1 : (k == 11) = false := by simpa using h1
  have e2 : (k == 12) = false := by simpa using h2
  have e3 : (k == 13) = false := by simpa using h3
  by_cases hn : n < 0
  · rw [show decide (0 ≤ n ∧ n < rN (kz k) ∧ p = 0) = false by simp; omega]
    exact devOk_dev0 k n p w e1 e2 e3 hn
  by_cases hl : n < rN (kz k)
  · rw [show decide (0 ≤ n ∧ n < rN (kz k) ∧ p = 0) = (p == 0) by rw [Bool.eq_iff_iff]; simp; omega]
    exact devOk_dev1 k n p w hT e1 e2 e3 (by omega) hl
  · rw [show decide (0 ≤ n ∧ n < rN (kz k) ∧ p = 0) = false by simp; omega]
    exact devOk_dev2 k n p w hT e1 e2 e3 (by omega) (by omega)
end Go.Proofs.YtjkpingdokkkcaaGreatDoor

/- The document's DevSize. Helper text: no statement is claimed here. -/
namespace Go.Proofs.YtjkpingdokkkcaaGreatDoor
open Go.ChangeShapes Go.WideShapes Go.ChangeAt Go.RowKit

/-! The document's own. -/
theorem kind_cases (k : Int) : k = 1 ∨ k = 2 ∨ k = 3 ∨ k = 4 ∨ k = 5 ∨ k = 6 ∨ k = 7 ∨ k = 8 ∨ k = 9 ∨ k = 10 ∨ ((k == 1) = false ∧ (k == 2) = false ∧ (k == 3) = false ∧ (k == 4) = false ∧ (k == 5) = false ∧ (k == 6) = false ∧ (k == 7) = false ∧ (k == 8) = false ∧ (k == 9) = false ∧ (k == 10) = false ∧ rN (kz k) = 0) := by
  by_cases h : 1 ≤ k ∧ k ≤ 10
  · omega
  · right; right; right; right; right; right; right; right; right; right
    simp only [beq_eq_false_iff_ne, ne_eq]
    refine ⟨by omega, by omega, by omega, by omega, by omega, by omega, by omega, by omega, by omega, by omega, ?_⟩
    by_cases h2 : 1 ≤ k ∧ k ≤ 13
    · have : k = 11 ∨ k = 12 ∨ k = 13 := by omega
      rcases this with rfl | rfl | rfl <;> rfl
    · unfold kz; rw [if_neg h2]; rfl

set_option maxHeartbeats 400000 in
theorem ssize_any (k : Int) (w : World) :
    Calls Tryz.prog 58 #[.int .i64 k] w fun e w' => e = .returned (.int .i64 (rN (kz k))) ∧ w' = w := by
  rcases kind_cases k with rfl | rfl | rfl | rfl | rfl | rfl | rfl | rfl | rfl | rfl | ⟨h1, h2, h3, h4, h5, h6, h7, h8, h9, h10, h0⟩
  case inr.inr.inr.inr.inr.inr.inr.inr.inr.inr =>
    rw [h0]
    clear h0
    go_enter Tryz.func58, Tryz.ntmps58
    go_wp2
    go_ret
    exact ⟨rfl, rfl⟩
  all_goals
    go_enter Tryz.func58, Tryz.ntmps58
    go_wp2
    go_ret
    exact ⟨rfl, rfl⟩
end Go.Proofs.YtjkpingdokkkcaaGreatDoor

/- An operand in memory of the call's own. Helper text: no statement is claimed here. -/
namespace Go.Proofs.YtjkpingdokkkcaaGreatDoor
open Go.ChangeShapes Go.WideShapes Go.ChangeAt Go.RowKit

/-- A result of type DevArg that lies in memory. -/
theorem resArg {fn : Func} {W : World} {b p : Nat} {tmps : Array Value} {x y z : Value} (h : fn.results = #[.cell p 27]) (hp : tmps.getD p undef = .pointer (some ⟨b, 0, none⟩))
    (hc : W.cell? ⟨b, 0, none⟩ = some x ∧ W.cell? ⟨b, 1, none⟩ = some y ∧ W.cell? ⟨b, 2, none⟩ = some z) : (results fn tmps).run Tryz.prog W = .ok (.agg #[x, y, z]) W := by
  obtain ⟨h0, h1, h2⟩ := hc
  simp only [results, h]
  simp [go_sem]
  rw [show tmps[p]?.getD undef = .pointer (some ⟨b, 0, none⟩) by simpa [Array.getD_eq_getD_getElem?] using hp]
  simp [go_sem, h0, h1, h2]
theorem put3 {w1 : World} {b : Nat} {x y z u0 u1 u2 : Value} (hc : w1.cell? ⟨b, 0, none⟩ = some u0 ∧ w1.cell? ⟨b, 1, none⟩ = some u1 ∧ w1.cell? ⟨b, 2, none⟩ = some u2) :
    (((w1.setCell ⟨b, 0, none⟩ x).setCell ⟨b, 1, none⟩ y).setCell ⟨b, 2, none⟩ z).cell? ⟨b, 0, none⟩ = some x ∧ (((w1.setCell ⟨b, 0, none⟩ x).setCell ⟨b, 1, none⟩ y).setCell ⟨b, 2, none⟩ z).cell? ⟨b, 1, none⟩ = some y ∧ (((w1.setCell ⟨b, 0, none⟩ x).setCell ⟨b, 1, none⟩ y).setCell ⟨b, 2, none⟩ z).cell? ⟨b, 2, none⟩ = some z := by
  obtain ⟨h0, h1, h2⟩ := hc
  have e1 : (w1.setCell ⟨b, 0, none⟩ x).cell? ⟨b, 1, none⟩ = some u1 := by rw [World.cell?_setCell_other _ _ _ _ (by simp)]; exact h1
  have e2 : ((w1.setCell ⟨b, 0, none⟩ x).setCell ⟨b, 1, none⟩ y).cell? ⟨b, 2, none⟩ = some u2 := by rw [World.cell?_setCell_other _ _ _ _ (by simp), World.cell?_setCell_other _ _ _ _ (by simp)]; exact h2
  refine ⟨?_, ?_, World.cell?_setCell_same _ _ _ e2⟩
  · rw [World.cell?_setCell_other _ _ _ _ (by simp), World.cell?_setCell_other _ _ _ _ (by simp)]; exact World.cell?_setCell_same _ _ _ h0
  · rw [World.cell?_setCell_other _ _ _ _ (by simp)]; exact World.cell?_setCell_same _ _ _ e1
/-- A DevArg of the call's own lies in block b. -/
def Own (w : World) (b : Nat) (x y z : Value) : Prop :=
  (w.cell? ⟨b, 0, none⟩ = some x ∧ w.cell? ⟨b, 1, none⟩ = some y ∧ w.cell? ⟨b, 2, none⟩ = some z) ∧ w.frozen? ⟨b, 0, none⟩ = false ∧ w.frozen? ⟨b, 1, none⟩ = false ∧ w.frozen? ⟨b, 2, none⟩ = false
theorem Own.new (w : World) (x y z : Value) : Own (w.alloc (.cells #[x, y, z] 27)) w.heap.size x y z := by
  refine ⟨⟨?_, ?_, ?_⟩, ?_, ?_, ?_⟩ <;> simp [go_sem]
theorem Own.lt {w : World} {b : Nat} {x y z : Value} (h : Own w b x y z) : b < w.heap.size := World.block_lt_of_cell? w ⟨b, 0, none⟩ h.1.1
theorem Own.below {w w' : World} {b : Nat} {x y z : Value} (h : Own w b x y z) (hb : Below w.heap.size w w') : Own w' b x y z := by
  have hlt := h.lt
  unfold Own
  rw [hb.cell (p := ⟨b, 0, none⟩) hlt, hb.cell (p := ⟨b, 1, none⟩) hlt, hb.cell (p := ⟨b, 2, none⟩) hlt, hb.frozen (p := ⟨b, 0, none⟩) hlt, hb.frozen (p := ⟨b, 1, none⟩) hlt, hb.frozen (p := ⟨b, 2, none⟩) hlt]
  exact h
theorem Own.alloc {b : Nat} {w : World} {x y z : Value} (h : Own w b x y z) (o : Obj) : Own (w.alloc o) b x y z := h.below (one w o)
theorem Own.put {w : World} {b : Nat} {x y z : Value} (h : Own w b x y z) (x' y' z' : Value) : Own (((w.setCell ⟨b, 0, none⟩ x').setCell ⟨b, 1, none⟩ y').setCell ⟨b, 2, none⟩ z') b x' y' z' :=
  ⟨put3 h.1, by rw [World.frozen?_setCell, World.frozen?_setCell, World.frozen?_setCell]; exact h.2.1, by rw [World.frozen?_setCell, World.frozen?_setCell, World.frozen?_setCell]; exact h.2.2.1, by rw [World.frozen?_setCell, World.frozen?_setCell, World.frozen?_setCell]; exact h.2.2.2⟩
theorem Own.set {w : World} {b c i : Nat} {x y z v : Value} (h : Own w b x y z) (hc : c ≠ b) : Own (w.setCell ⟨c, i, none⟩ v) b x y z := by
  unfold Own
  rw [World.cell?_setCell_other w ⟨c, i, none⟩ ⟨b, 0, none⟩ _ (by simp <;> omega), World.cell?_setCell_other w ⟨c, i, none⟩ ⟨b, 1, none⟩ _ (by simp <;> omega), World.cell?_setCell_other w ⟨c, i, none⟩ ⟨b, 2, none⟩ _ (by simp <;> omega), World.frozen?_setCell, World.frozen?_setCell, World.frozen?_setCell]
  exact h
end Go.Proofs.YtjkpingdokkkcaaGreatDoor
