/- The drawing of numbers out of a list of bytes: l9Open, pick, num. Helper text: no statement is claimed here. -/
import Derived.Test.YtmgjngihngddfaaGreatDoorRows
import Derived.WalkKit
import Derived.ProofKit
import Derived.OpenShut
import Derived.Below
import Derived.WalkSmall
import Derived.Deep.QuietTactic
import Derived.BigQuiet
import Derived.Lib.QuietBelow
import Derived.Test.YtmgjngihngddfaaGreatDoorP03
import Derived.Test.YtmgjngihngddfaaGreatDoorP02
namespace Go.Proofs.YtmgjngihngddfaaGreatDoor
open Go.ChangeShapes Go.WideShapes Go.ChangeAt Go.RowKit

/-- Of the blocks that were there none has turned but number rb. -/
structure Step (rb : Nat) (w w' : World) : Prop where
  os : w'.os = w.os
  tape : w'.tape = w.tape
  output : w'.output = w.output
  size : w.heap.size ≤ w'.heap.size
  block : ∀ k, k < w.heap.size → k ≠ rb → w'.heap[k]? = w.heap[k]?

/-- A reader lies in block rb: its bytes, at most 2000, and its place, at most m. -/
structure Rd (w : World) (rb m : Nat) : Prop where
  rd : ∃ (a : Option Addr) (len cap p : Nat), w.cell? ⟨rb, 0, none⟩ = some (.slice a len cap) ∧ w.cell? ⟨rb, 1, none⟩ = some (.int .i64 (p : Int)) ∧ w.frozen? ⟨rb, 1, none⟩ = false ∧ p ≤ m ∧ len ≤ 2000 ∧
    (len = 0 ∨ ∃ (b off : Nat) (f : Nat → Int), a = some ⟨b, off, none⟩ ∧ b < rb ∧ ∀ i, i < len → w.cell? ⟨b, off + i, none⟩ = some (.int .u8 (f i)) ∧ 0 ≤ f i ∧ f i ≤ 255)

theorem Step.refl (rb : Nat) (w : World) : Step rb w w := ⟨rfl, rfl, rfl, Nat.le_refl _, fun _ _ _ => rfl⟩
theorem Step.trans {rb : Nat} {a b c : World} (h : Step rb a b) (k : Step rb b c) : Step rb a c :=
  ⟨k.os.trans h.os, k.tape.trans h.tape, k.output.trans h.output, Nat.le_trans h.size k.size, fun i hi hr => (k.block i (Nat.lt_of_lt_of_le hi h.size) hr).trans (h.block i hi hr)⟩
theorem Step.of {rb : Nat} {w w' : World} (h : Below w.heap.size w w') : Step rb w w' := ⟨h.os, h.tape, h.output, h.size, fun k hk _ => h.block k hk⟩
theorem Step.alloc (rb : Nat) (w : World) (o : Obj) : Step rb w (w.alloc o) := .of ((Below.refl _ _).alloc (Nat.le_refl _) o)
theorem Step.set (rb : Nat) (w : World) (b i : Nat) (v : Value) (hb : b = rb) : Step rb w (w.setCell ⟨b, i, none⟩ v) :=
  ⟨rfl, rfl, rfl, by simp [World.setCell], fun k _ hr => Below.heap_setCell _ _ _ _ (by simp; omega)⟩
theorem Step.drawn {rb : Nat} {w w' : World} (h : Step rb w w') (n : Nat) : Step rb w (w'.drewN n) := h.trans (.of (below_drewN (Below.refl _ _) n))
theorem Step.below {rb B : Nat} {w w' : World} (h : Step rb w w') (hB : B ≤ rb) (hs : B ≤ w.heap.size) : Below B w w' := ⟨h.os, h.tape, h.output, h.size, fun k hk => h.block k (by omega) (by omega)⟩
theorem Step.cell {rb : Nat} {w w' : World} (h : Step rb w w') (b o : Nat) (hb : b < w.heap.size) (hr : b ≠ rb) : w'.cell? ⟨b, o, none⟩ = w.cell? ⟨b, o, none⟩ := World.cell?_of_block (w := w) (h.block b hb hr)
theorem Step.frozen {rb : Nat} {w w' : World} (h : Step rb w w') (b o : Nat) (hb : b < w.heap.size) (hr : b ≠ rb) : w'.frozen? ⟨b, o, none⟩ = w.frozen? ⟨b, o, none⟩ := World.frozen?_of_block (w := w) (h.block b hb hr)

theorem Rd.lt {w : World} {rb m : Nat} (h : Rd w rb m) : rb < w.heap.size := by
  obtain ⟨a, len, cap, p, h0, _⟩ := h.rd
  exact World.block_lt_of_cell? w ⟨rb, 0, none⟩ h0
theorem Rd.to {w w' : World} {rb m : Nat} (h : Rd w rb m) (hb : Below w.heap.size w w') : Rd w' rb m := by
  have hlt := h.lt
  obtain ⟨a, len, cap, p, h0, h1, hf, hp, hl, hr⟩ := h.rd
  refine ⟨a, len, cap, p, ?_, ?_, ?_, hp, hl, ?_⟩
  · rw [hb.cell (p := ⟨rb, 0, none⟩) hlt]; exact h0
  · rw [hb.cell (p := ⟨rb, 1, none⟩) hlt]; exact h1
  · rw [hb.frozen (p := ⟨rb, 1, none⟩) hlt]; exact hf
  · rcases hr with hr | ⟨b, off, f, ha, hbr, hc⟩
    · exact .inl hr
    · refine .inr ⟨b, off, f, ha, hbr, fun i hi => ?_⟩
      have := hc i hi
      rw [hb.cell (p := ⟨b, off + i, none⟩) (World.block_lt_of_cell? w ⟨b, off + i, none⟩ this.1)]
      exact this
theorem Rd.alloc {w : World} {rb m : Nat} (h : Rd w rb m) (o : Obj) : Rd (w.alloc o) rb m := h.to ((Below.refl _ _).alloc (Nat.le_refl _) o)
theorem Rd.mono {w : World} {rb m m' : Nat} (h : Rd w rb m) (hm : m ≤ m') : Rd w rb m' := by
  obtain ⟨a, len, cap, p, h0, h1, hf, hp, hr⟩ := h.rd
  exact ⟨a, len, cap, p, h0, h1, hf, by omega, hr⟩
/-- A store into a block behind the reader's. -/
theorem Rd.set {w : World} {rb m : Nat} (h : Rd w rb m) (c i : Nat) (v : Value) (hc : rb < c) : Rd (w.setCell ⟨c, i, none⟩ v) rb m := by
  obtain ⟨a, len, cap, p, h0, h1, hf, hp, hl, hr⟩ := h.rd
  refine ⟨a, len, cap, p, ?_, ?_, ?_, hp, hl, ?_⟩
  · rw [World.cell?_setCell_other w ⟨c, i, none⟩ ⟨rb, 0, none⟩ _ (by simp <;> omega)]; exact h0
  · rw [World.cell?_setCell_other w ⟨c, i, none⟩ ⟨rb, 1, none⟩ _ (by simp <;> omega)]; exact h1
  · rw [World.frozen?_setCell]; exact hf
  · rcases hr with hr | ⟨b, off, f, ha, hbr, hb⟩
    · exact .inl hr
    · refine .inr ⟨b, off, f, ha, hbr, fun j hj => ?_⟩
      rw [World.cell?_setCell_other w ⟨c, i, none⟩ ⟨b, off + j, none⟩ _ (by simp <;> omega)]
      exact hb j hj
theorem Step.setNew {rb : Nat} {w w' : World} (h : Step rb w w') (c i : Nat) (v : Value) (hc : w.heap.size ≤ c) : Step rb w (w'.setCell ⟨c, i, none⟩ v) :=
  ⟨h.os, h.tape, h.output, by simpa [World.setCell] using h.size, fun k hk hr => (Below.heap_setCell _ _ _ _ (by simp; omega)).trans (h.block k hk hr)⟩
theorem next_of {w : World} {rb m len cap p : Nat} {a : Option Addr} (nq : Nat) (h0 : w.cell? ⟨rb, 0, none⟩ = some (.slice a len cap)) (h1 : w.cell? ⟨rb, 1, none⟩ = some (.int .i64 (p : Int))) (hf : w.frozen? ⟨rb, 1, none⟩ = false) (hp : p ≤ m) (hl : len ≤ 2000)
    (hr : len = 0 ∨ ∃ (b off : Nat) (f : Nat → Int), a = some ⟨b, off, none⟩ ∧ b < rb ∧ ∀ i, i < len → w.cell? ⟨b, off + i, none⟩ = some (.int .u8 (f i)) ∧ 0 ≤ f i ∧ f i ≤ 255) :
    Rd ((w.setCell ⟨rb, 1, none⟩ (.int .i64 ((p : Int) + 1))).drewN nq) rb (m + 1) ∧ Step rb w ((w.setCell ⟨rb, 1, none⟩ (.int .i64 ((p : Int) + 1))).drewN nq) := by
  have st : Step rb w ((w.setCell ⟨rb, 1, none⟩ (.int .i64 ((p : Int) + 1))).drewN nq) := (Step.set rb w rb 1 _ rfl).drawn nq
  refine ⟨⟨a, len, cap, p + 1, ?_, ?_, ?_, by omega, hl, ?_⟩, st⟩
  · show (w.setCell ⟨rb, 1, none⟩ _).cell? ⟨rb, 0, none⟩ = _
    rw [World.cell?_setCell_other w ⟨rb, 1, none⟩ ⟨rb, 0, none⟩ _ (by simp)]; exact h0
  · show (w.setCell ⟨rb, 1, none⟩ _).cell? ⟨rb, 1, none⟩ = _
    rw [World.cell?_setCell_same w ⟨rb, 1, none⟩ _ h1]; simp
  · show (w.setCell ⟨rb, 1, none⟩ _).frozen? ⟨rb, 1, none⟩ = _
    rw [World.frozen?_setCell]; exact hf
  · rcases hr with hr | ⟨b, off, f, ha, hbr, hc⟩
    · exact .inl hr
    · refine .inr ⟨b, off, f, ha, hbr, fun i hi => ?_⟩
      have := hc i hi
      rw [st.cell b (off + i) (World.block_lt_of_cell? w ⟨b, off + i, none⟩ this.1) (Nat.ne_of_lt hbr)]
      exact this

theorem xor_nonneg (a b : Int) (h1 : 0 ≤ a) (h2 : a < 4611686018427387904) (h3 : 0 ≤ b) (h4 : b < 4611686018427387904) : 0 ≤ bits .xor .i64 a b := by
  obtain ⟨x, rfl⟩ := Int.eq_ofNat_of_zero_le h1
  obtain ⟨y, rfl⟩ := Int.eq_ofNat_of_zero_le h3
  have hx : x ^^^ y < 2 ^ 62 := Nat.xor_lt_two_pow (by omega) (by omega)
  have e1 : (BitVec.ofInt 64 (x : Int)).toNat = x := by
    rw [BitVec.ofInt_natCast, BitVec.toNat_ofNat]; exact Nat.mod_eq_of_lt (by omega)
  have e2 : (BitVec.ofInt 64 (y : Int)).toNat = y := by
    rw [BitVec.ofInt_natCast, BitVec.toNat_ofNat]; exact Nat.mod_eq_of_lt (by omega)
  show 0 ≤ IntKind.i64.wrap ((BitVec.ofInt 64 (x : Int) ^^^ BitVec.ofInt 64 (y : Int)).toNat : Int)
  rw [BitVec.toNat_xor, e1, e2, IntKind.wrap_i64]
  omega

set_option maxHeartbeats 400000 in
theorem pick_few (rb p : Nat) (n : Int) (w : World) (hn : n < 1) (hp : p ≤ 1000000)
    (h1 : w.cell? ⟨rb, 1, none⟩ = some (.int .i64 (p : Int))) (hfz : w.frozen? ⟨rb, 1, none⟩ = false) :
    Calls Tryz.prog 14 #[.pointer (some ⟨rb, 0, none⟩), .int .i64 n] w fun e w' => e = .returned (.int .i64 0) ∧ w' = w.setCell ⟨rb, 1, none⟩ (.int .i64 (p + 1)) := by
  go_enter Tryz.func14, Tryz.ntmps14
  go_wp2
  go_ret
  exact ⟨rfl, rfl⟩

set_option maxHeartbeats 400000 in
theorem pick_none (rb p cap : Nat) (a : Option Addr) (n : Int) (w : World) (hn : 1 ≤ n) (hp : p ≤ 1000000)
    (h0 : w.cell? ⟨rb, 0, none⟩ = some (.slice a 0 cap)) (h1 : w.cell? ⟨rb, 1, none⟩ = some (.int .i64 (p : Int))) (hfz : w.frozen? ⟨rb, 1, none⟩ = false) :
    Calls Tryz.prog 14 #[.pointer (some ⟨rb, 0, none⟩), .int .i64 n] w fun e w' => e = .returned (.int .i64 0) ∧ w' = w.setCell ⟨rb, 1, none⟩ (.int .i64 (p + 1)) := by
  have hn3 : ¬ n < 1 := by omega
  go_enter Tryz.func14, Tryz.ntmps14
  go_wp2
  go_ret
  exact ⟨rfl, rfl⟩

set_option maxHeartbeats 400000 in
theorem pick_in (rb p len cap b off : Nat) (n c : Int) (w : World) (hn : 1 ≤ n) (hn2 : n ≤ 100000) (hp : p ≤ 1000000)
    (h0 : w.cell? ⟨rb, 0, none⟩ = some (.slice (some ⟨b, off, none⟩) len cap)) (h1 : w.cell? ⟨rb, 1, none⟩ = some (.int .i64 (p : Int))) (hfz : w.frozen? ⟨rb, 1, none⟩ = false)
    (hb : b ≠ rb) (hl : p < len) (_hl2 : len ≤ 2000) (hc : w.cell? ⟨b, off + p, none⟩ = some (.int .u8 c)) (c0 : 0 ≤ c) (c1 : c ≤ 255) :
    Calls Tryz.prog 14 #[.pointer (some ⟨rb, 0, none⟩), .int .i64 n] w fun e w' => e = .returned (.int .i64 (c % n)) ∧ w' = w.setCell ⟨rb, 1, none⟩ (.int .i64 (p + 1)) := by
  have hz : ((len : Int) == 0) = false := by simp; omega
  have hn3 : ¬ n < 1 := by omega
  have hn4 : (n == 0) = false := by simp; omega
  have hl3 : (p : Int) < len := by omega
  go_enter Tryz.func14, Tryz.ntmps14
  go_wp2
  go_ret
  exact ⟨rfl, rfl⟩

set_option maxHeartbeats 400000 in
theorem pick_out (rb p len cap b off : Nat) (n c d : Int) (w : World) (hn : 1 ≤ n) (hn2 : n ≤ 100000) (hp : p ≤ 1000000)
    (h0 : w.cell? ⟨rb, 0, none⟩ = some (.slice (some ⟨b, off, none⟩) len cap)) (h1 : w.cell? ⟨rb, 1, none⟩ = some (.int .i64 (p : Int))) (hfz : w.frozen? ⟨rb, 1, none⟩ = false)
    (hb : b ≠ rb) (hl : len ≤ p) (hl2 : len ≤ 2000) (hl0 : 1 ≤ len)
    (hc : w.cell? ⟨b, off + p % len, none⟩ = some (.int .u8 c)) (c0 : 0 ≤ c) (c1 : c ≤ 255) (hd : w.cell? ⟨b, off + (p * 7 + 3) % len, none⟩ = some (.int .u8 d)) (d0 : 0 ≤ d) (d1 : d ≤ 255) :
    Calls Tryz.prog 14 #[.pointer (some ⟨rb, 0, none⟩), .int .i64 n] w fun e w' => ∃ v, e = .returned (.int .i64 v) ∧ 0 ≤ v ∧ v < n ∧ ∃ nq, w' = (w.setCell ⟨rb, 1, none⟩ (.int .i64 (p + 1))).drewN nq := by
  have hz : ((len : Int) == 0) = false := by simp; omega
  have hn3 : ¬ n < 1 := by omega
  have hn4 : (n == 0) = false := by simp; omega
  have hl3 : ¬ (p : Int) < len := by omega
  have m1 : p % len < len := Nat.mod_lt _ (by omega)
  have i1 : ((p % len : Nat) : Int) < len := by omega
  have q0 : 0 ≤ (p : Int) / (len : Int) := Int.ediv_nonneg (by omega) (by omega)
  have q1 : (p : Int) / (len : Int) ≤ p := Int.ediv_le_self _ (by omega)
  have j1 : 0 ≤ ((p : Int) * 7 + 3) % (len : Int) := Int.emod_nonneg _ (by omega)
  have j2 : ((p : Int) * 7 + 3) % (len : Int) < (len : Int) := Int.emod_lt_of_pos _ (by omega)
  go_enter Tryz.func14, Tryz.ntmps14
  go_wp2
  go_quiet (fail)
  go_wp2
  go_ret
  have hx := xor_nonneg (c * 131 + d * 1117 + ↑p * 29 + ↑p / ↑len * 53) ((c * 131 + d * 1117 + ↑p * 29 + ↑p / ↑len * 53) / 64) (by omega) (by omega) (by omega) (by omega)
  exact ⟨_, rfl, Int.tmod_nonneg _ hx, Int.tmod_lt_of_pos _ (by omega), nq, rfl⟩

theorem pick_any (rb m : Nat) (n : Int) (w : World) (hn2 : n ≤ 100000) (hr : Rd w rb m) (hm : m ≤ 1000000) :
    Calls Tryz.prog 14 #[.pointer (some ⟨rb, 0, none⟩), .int .i64 n] w fun e w' => ∃ v, e = .returned (.int .i64 v) ∧ 0 ≤ v ∧ (1 ≤ n → v < n) ∧ (n < 1 → v = 0) ∧ Rd w' rb (m + 1) ∧ Step rb w w' := by
  obtain ⟨a, len, cap, p, h0, h1, hf, hp, hl, hr⟩ := hr.rd
  have fin := fun nq => next_of (m := m) nq h0 h1 hf hp hl hr
  by_cases hn : n < 1
  · refine (pick_few rb p n w hn (by omega) h1 hf).mono ?_
    rintro e w' ⟨rfl, rfl⟩
    exact ⟨0, rfl, by omega, by omega, fun _ => rfl, (fin 0).1, (fin 0).2⟩
  rcases hr with rfl | ⟨b, off, f, rfl, hb, hc⟩
  · refine (pick_none rb p cap a n w (by omega) (by omega) h0 h1 hf).mono ?_
    rintro e w' ⟨rfl, rfl⟩
    exact ⟨0, rfl, by omega, by omega, fun _ => rfl, (fin 0).1, (fin 0).2⟩
  by_cases hlen : len = 0
  · subst hlen
    refine (pick_none rb p cap _ n w (by omega) (by omega) h0 h1 hf).mono ?_
    rintro e w' ⟨rfl, rfl⟩
    exact ⟨0, rfl, by omega, by omega, fun _ => rfl, (fin 0).1, (fin 0).2⟩
  by_cases hpl : p < len
  · have := hc p hpl
    refine (pick_in rb p len cap b off n (f p) w (by omega) hn2 (by omega) h0 h1 hf (Nat.ne_of_lt hb) hpl hl this.1 this.2.1 this.2.2).mono ?_
    rintro e w' ⟨rfl, rfl⟩
    exact ⟨_, rfl, Int.emod_nonneg _ (by omega), fun _ => Int.emod_lt_of_pos _ (by omega), fun h => absurd h hn, (fin 0).1, (fin 0).2⟩
  · have c1 := hc (p % len) (Nat.mod_lt _ (by omega))
    have c2 := hc ((p * 7 + 3) % len) (Nat.mod_lt _ (by omega))
    refine (pick_out rb p len cap b off n _ _ w (by omega) hn2 (by omega) h0 h1 hf (Nat.ne_of_lt hb) (by omega) hl (by omega) c1.1 c1.2.1 c1.2.2 c2.1 c2.2.1 c2.2.2).mono ?_
    rintro e w' ⟨v, rfl, v0, v1, nq, rfl⟩
    exact ⟨v, rfl, v0, fun _ => v1, fun h => absurd h hn, (fin nq).1, (fin nq).2⟩

/-- A list of n numbers lies in block lb, each at most 2000000000 away from 0. -/
def Nums (w : World) (lb n : Nat) : Prop := ∀ i, i < n → ∃ z : Int, w.cell? ⟨lb, i, none⟩ = some (.int .i64 z) ∧ -2000000000 ≤ z ∧ z ≤ 2000000000

set_option maxHeartbeats 400000 in
theorem num_any (rb m lb n : Nat) (w : World) (hn : 1 ≤ n) (hn2 : n ≤ 100) (hr : Rd w rb m) (hm : m ≤ 1000000) (hl : Nums w lb n) (hlr : lb ≠ rb) :
    Calls Tryz.prog 43 #[.pointer (some ⟨rb, 0, none⟩), .slice (some ⟨lb, 0, none⟩) n n] w fun e w' => ∃ v, e = .returned (.int .i64 v) ∧ -2000000000 ≤ v ∧ v ≤ 2000000000 ∧ Rd w' rb (m + 1) ∧ Step rb w w' := by
  go_enter Tryz.func43, Tryz.ntmps43
  go_wp2_with fail
  refine (pick_any rb m n _ (by omega) hr hm).mono ?_
  rintro e w' ⟨v, rfl, v0, v1, -, hr', st⟩
  obtain ⟨k, rfl⟩ := Int.eq_ofNat_of_zero_le v0
  have hk : (k : Int) < n := v1 (by omega)
  obtain ⟨z, hz, z0, z1⟩ := hl k (by omega)
  have hz' : w'.cell? ⟨lb, k, none⟩ = some (.int .i64 z) := by
    rw [st.cell lb k (World.block_lt_of_cell? w ⟨lb, k, none⟩ hz) hlr]; exact hz
  clear v1 hl
  go_wp2
  go_ret
  exact ⟨z, rfl, z0, z1, hr', st⟩

/-- The bytes that come in: nil, or a row. -/
def IsRow (w : World) (a : Option Addr) (len : Nat) : Prop :=
  len = 0 ∨ ∃ (b off : Nat) (f : Nat → Int), a = some ⟨b, off, none⟩ ∧ ∀ i, i < len → w.cell? ⟨b, off + i, none⟩ = some (.int .u8 (f i)) ∧ 0 ≤ f i ∧ f i ≤ 255

theorem open_done {w : World} {a a' : Option Addr} {len len' cap : Nat} (h : IsRow w a len) (hl : len' ≤ len) (ha : len' ≠ 0 → a' = a) (h2 : len' ≤ 2000) :
    Rd (w.alloc (.cells #[.slice a' len' cap, .int .i64 0] 74)) w.heap.size 0 := by
  refine ⟨a', len', cap, 0, by simp [go_sem], by simp [go_sem], by simp [go_sem], by omega, h2, ?_⟩
  by_cases h0 : len' = 0
  · exact .inl h0
  rcases h with h | ⟨b, off, f, rfl, hc⟩
  · omega
  · refine .inr ⟨b, off, f, ha h0, ?_, fun i hi => ?_⟩
    · have := World.block_lt_of_cell? w ⟨b, off + 0, none⟩ (hc 0 (by omega)).1
      simp at this; omega
    · have := hc i (by omega)
      rw [World.cell?_alloc_lt _ _ _ (World.block_lt_of_cell? w ⟨b, off + i, none⟩ this.1)]
      exact this

set_option maxHeartbeats 400000 in
theorem open_any (a : Option Addr) (len cap : Nat) (w : World) (h : IsRow w a len) (hlc : len ≤ cap) :
    Calls Tryz.prog 12 #[.slice a len cap] w fun e w' => e = .returned (.pointer (some ⟨w.heap.size, 0, none⟩)) ∧ Rd w' w.heap.size 0 ∧ Below w.heap.size w w' := by
  by_cases hl : 2000 < len
  · have hl1 : (2000 : Int) < len := by omega
    have hl2 : (2000 : Int) ≤ cap := by omega
    rcases h with h | ⟨b, off, f, rfl, hc⟩
    · omega
    have hop : Hid (IsRow w (some ⟨b, off, none⟩) len) := .inr ⟨b, off, f, rfl, hc⟩
    clear hc
    go_enter Tryz.func12, Tryz.ntmps12
    go_wp2
    go_ret
    exact ⟨rfl, open_done hop.out (by omega) (fun _ => rfl) (by omega), (Below.refl _ _).alloc (Nat.le_refl _) _⟩
  · have hl1 : ¬ (2000 : Int) < len := by omega
    have hop : Hid (IsRow w a len) := h
    clear h
    go_enter Tryz.func12, Tryz.ntmps12
    go_wp2
    go_ret
    exact ⟨rfl, open_done hop.out (by omega) (fun _ => rfl) (by omega), (Below.refl _ _).alloc (Nat.le_refl _) _⟩
end Go.Proofs.YtmgjngihngddfaaGreatDoor

/- The drawing of operands: l1Arg, l1Spoilt, l1Any, l1Half. Helper text: no statement is claimed here. -/
namespace Go.Proofs.YtmgjngihngddfaaGreatDoor
open Go.ChangeShapes Go.WideShapes Go.ChangeAt Go.RowKit

def Sm (z : Int) : Prop := -2000000000 ≤ z ∧ z ≤ 2000000000
/-- What a drawing of an operand ends in. -/
def Drawn (rb m : Nat) (w : World) (e : Ending) (w' : World) : Prop := ∃ k n p : Int, e = .returned (.agg #[.int .i64 k, .int .i64 n, .int .i64 p]) ∧ Sm k ∧ Sm n ∧ Sm p ∧ Rd w' rb m ∧ Step rb w w'

theorem nums_mk (w : World) (cs : List Int) (t : TypeId) (h : ∀ z ∈ cs, -2000000000 ≤ z ∧ z ≤ 2000000000) : Nums (w.alloc (.cells (cs.map fun z => Value.int .i64 z).toArray t)) w.heap.size cs.length := by
  intro i hi
  refine ⟨cs[i], ?_, h _ (List.getElem_mem hi)⟩
  rw [World.cell?_alloc_new]
  simp [hi]
theorem scell {rb : Nat} {W w1 : World} (h : Step rb W w1) : (∀ b o, b < W.heap.size → b ≠ rb → w1.cell? ⟨b, o, none⟩ = W.cell? ⟨b, o, none⟩) ∧ (∀ b o, b < W.heap.size → b ≠ rb → w1.frozen? ⟨b, o, none⟩ = W.frozen? ⟨b, o, none⟩) :=
  ⟨fun b o h1 h2 => h.cell b o h1 h2, fun b o h1 h2 => h.frozen b o h1 h2⟩

theorem Own.step {rb b : Nat} {w w' : World} {x y z : Value} (h : Own w b x y z) (st : Step rb w w') (hr : b ≠ rb) : Own w' b x y z := by
  have hb := h.lt
  unfold Own
  rw [st.cell b 0 hb hr, st.cell b 1 hb hr, st.cell b 2 hb hr, st.frozen b 0 hb hr, st.frozen b 1 hb hr, st.frozen b 2 hb hr]; exact h
theorem Rd.set3 {w : World} {rb m m' c : Nat} {x y z : Value} (h : Rd w rb m) (hc : rb < c) (hm : m ≤ m') : Rd (((w.setCell ⟨c, 0, none⟩ x).setCell ⟨c, 1, none⟩ y).setCell ⟨c, 2, none⟩ z) rb m' :=
  (((h.mono hm).set _ _ _ hc).set _ _ _ hc).set _ _ _ hc
theorem Step.set3 {w w' : World} {rb c : Nat} {x y z : Value} (h : Step rb w w') (hc : w.heap.size ≤ c) : Step rb w (((w'.setCell ⟨c, 0, none⟩ x).setCell ⟨c, 1, none⟩ y).setCell ⟨c, 2, none⟩ z) :=
  ((h.setNew _ _ _ hc).setNew _ _ _ hc).setNew _ _ _ hc

set_option maxHeartbeats 400000 in
theorem arg_11 (rb m : Nat) (w : World) (hr : Rd w rb m) (hm : m ≤ 1000) :
    Calls Tryz.prog 40 #[.pointer (some ⟨rb, 0, none⟩), .int .i64 11] w (Drawn rb (m + 4) w) := by
  have hlt := hr.lt
  have hne : w.heap.size ≠ rb := by omega
  go_enter Tryz.func40, Tryz.ntmps40
  go_wp2_with fail
  refine (num_any rb m (w.heap.size + 1) 12 _ (by omega) (by omega) ((hr.alloc _).alloc _) (by omega) ?_ (by omega)).mono ?_
  · have := nums_mk (w.alloc (.cells #[.int .i64 0, .int .i64 0, .int .i64 0] 48)) [0, 1, 2, 3, 5, -1, -7, 10, 100, 32767, -32768, 1000] 3 (by simp)
    simpa using this
  rintro e w1 ⟨v, rfl, v0, v1, hr1, st⟩
  have ow := ((Own.new w (.int .i64 0) (.int .i64 0) (.int .i64 0)).alloc _).step st hne
  obtain ⟨⟨o0, o1, o2⟩, z0, z1, z2⟩ := ow
  go_wp2
  exact bodyPost_ret (v := .agg #[.int .i64 11, .int .i64 v, .int .i64 0]) (resArg Tryz.results40 rfl (put3 ⟨o0, o1, o2⟩)) rfl ⟨11, v, 0, rfl, by unfold Sm; omega, ⟨v0, v1⟩, by unfold Sm; omega, hr1.set3 hlt (by omega), (((Step.alloc rb w _).trans (Step.alloc rb _ _)).trans st).set3 (Nat.le_refl _)⟩

set_option maxHeartbeats 400000 in
theorem arg_12 (rb m : Nat) (w : World) (hr : Rd w rb m) (hm : m ≤ 1000) :
    Calls Tryz.prog 40 #[.pointer (some ⟨rb, 0, none⟩), .int .i64 12] w (Drawn rb (m + 4) w) := by
  have hlt := hr.lt
  have hne : w.heap.size ≠ rb := by omega
  go_enter Tryz.func40, Tryz.ntmps40
  go_wp2_with fail
  refine (num_any rb m (w.heap.size + 1) 11 _ (by omega) (by omega) ((hr.alloc _).alloc _) (by omega) ?_ (by omega)).mono ?_
  · have := nums_mk (w.alloc (.cells #[.int .i64 0, .int .i64 0, .int .i64 0] 48)) [0, 1, 5, -5, 25, -15, 999999999, -999999999, 3, 1001, 7] 3 (by simp)
    simpa using this
  rintro e w1 ⟨v, rfl, v0, v1, hr1, st⟩
  go_wp2_with fail
  refine (pick_any rb (m + 1) 6 _ (by omega) hr1 (by omega)).mono ?_
  rintro e w2 ⟨q, rfl, q0, q1, -, hr2, st2⟩
  have ow := (((Own.new w (.int .i64 0) (.int .i64 0) (.int .i64 0)).alloc _).step st hne).step st2 hne
  obtain ⟨⟨o0, o1, o2⟩, z0, z1, z2⟩ := ow
  have q1 : q < 6 := q1 (by omega)
  go_wp2
  · exact bodyPost_ret (v := .agg #[.int .i64 12, .int .i64 v, .int .i64 1]) (resArg Tryz.results40 rfl (put3 ⟨o0, o1, o2⟩)) rfl ⟨12, v, 1, rfl, by unfold Sm; omega, ⟨v0, v1⟩, by unfold Sm; omega, hr2.set3 hlt (by omega), ((((Step.alloc rb w _).trans (Step.alloc rb _ _)).trans st).trans st2).set3 (Nat.le_refl _)⟩
  · exact bodyPost_ret (v := .agg #[.int .i64 12, .int .i64 v, .int .i64 (1 + q)]) (resArg Tryz.results40 rfl (put3 ⟨o0, o1, o2⟩)) rfl ⟨12, v, 1 + q, rfl, by unfold Sm; omega, ⟨v0, v1⟩, by unfold Sm; omega, hr2.set3 hlt (by omega), ((((Step.alloc rb w _).trans (Step.alloc rb _ _)).trans st).trans st2).set3 (Nat.le_refl _)⟩

set_option maxHeartbeats 400000 in
theorem arg_13 (rb m : Nat) (w : World) (hr : Rd w rb m) (hm : m ≤ 1000) :
    Calls Tryz.prog 40 #[.pointer (some ⟨rb, 0, none⟩), .int .i64 13] w (Drawn rb (m + 4) w) := by
  have hlt := hr.lt
  have hne : w.heap.size ≠ rb := by omega
  go_enter Tryz.func40, Tryz.ntmps40
  go_wp2_with fail
  refine (pick_any rb m 4 _ (by omega) (hr.alloc _) (by omega)).mono ?_
  rintro e w1 ⟨q, rfl, q0, q1, -, hr1, st⟩
  have ow := (Own.new w (.int .i64 0) (.int .i64 0) (.int .i64 0)).step st hne
  obtain ⟨⟨o0, o1, o2⟩, z0, z1, z2⟩ := ow
  have q1 : q < 4 := q1 (by omega)
  go_wp2
  exact bodyPost_ret (v := .agg #[.int .i64 13, .int .i64 q, .int .i64 0]) (resArg Tryz.results40 rfl (put3 ⟨o0, o1, o2⟩)) rfl ⟨13, q, 0, rfl, by unfold Sm; omega, by unfold Sm; omega, by unfold Sm; omega, hr1.set3 hlt (by omega), ((Step.alloc rb w _).trans st).set3 (Nat.le_refl _)⟩

set_option maxHeartbeats 1000000 in
theorem arg_dev (rb m : Nat) (k : Int) (w : World) (hr : Rd w rb m) (hm : m ≤ 1000) (hk : Sm k) (h1 : (k == 11) = false) (h2 : (k == 12) = false) (h3 : (k == 13) = false) :
    Calls Tryz.prog 40 #[.pointer (some ⟨rb, 0, none⟩), .int .i64 k] w (Drawn rb (m + 4) w) := by
  have hlt := hr.lt
  have hne : w.heap.size ≠ rb := by omega
  have hbd := rN_bd (kz k)
  go_enter Tryz.func40, Tryz.ntmps40
  go_wp2_with fail
  refine (pick_any rb m 4 _ (by omega) (hr.alloc _) (by omega)).mono ?_
  rintro e w1 ⟨q, rfl, q0, q1, -, hr1, st⟩
  have q1 : q < 4 := q1 (by omega)
  go_wp2_with fail
  refine (pick_any rb (m + 1) 6 _ (by omega) hr1 (by omega)).mono ?_
  rintro e w2 ⟨t, rfl, t0, t1, -, hr2, st2⟩
  have t1 : t < 6 := t1 (by omega)
  by_cases ht : t = 0
  · subst ht
    go_wp2_with fail
    refine (ssize_any _ _).mono ?_
    rintro e w3 ⟨rfl, rfl⟩
    go_wp2_with fail
    refine (pick_any rb (m + 2) (rN (kz k)) _ (by omega) hr2 (by omega)).mono ?_
    rintro e w3 ⟨u, rfl, u0, u1, u2, hr3, st3⟩
    have u3 : u < 65 := by by_cases h : 1 ≤ rN (kz k) <;> omega
    have ow := (((Own.new w (.int .i64 0) (.int .i64 0) (.int .i64 0)).step st hne).step st2 hne).step st3 hne
    obtain ⟨⟨o0, o1, o2⟩, z0, z1, z2⟩ := ow
    clear u1 u2
    go_wp2_with fail
    refine (ssize_any _ _).mono ?_
    rintro e w4 ⟨rfl, rfl⟩
    go_wp2
    · exact bodyPost_ret (v := .agg #[.int .i64 k, .int .i64 0, .int .i64 0]) (resArg Tryz.results40 rfl (put3 ⟨o0, o1, o2⟩)) rfl ⟨k, 0, 0, rfl, hk, by unfold Sm; omega, by unfold Sm; omega, hr3.set3 hlt (by omega), ((((Step.alloc rb w _).trans st).trans st2).trans st3).set3 (Nat.le_refl _)⟩
    · exact bodyPost_ret (v := .agg #[.int .i64 k, .int .i64 u, .int .i64 0]) (resArg Tryz.results40 rfl (put3 ⟨o0, o1, o2⟩)) rfl ⟨k, u, 0, rfl, hk, by unfold Sm; omega, by unfold Sm; omega, hr3.set3 hlt (by omega), ((((Step.alloc rb w _).trans st).trans st2).trans st3).set3 (Nat.le_refl _)⟩
  · have ht' : (t == 0) = false := by simpa using ht
    have ow := ((Own.new w (.int .i64 0) (.int .i64 0) (.int .i64 0)).step st hne).step st2 hne
    obtain ⟨⟨o0, o1, o2⟩, z0, z1, z2⟩ := ow
    clear ht
    go_wp2_with fail
    refine (ssize_any _ _).mono ?_
    rintro e w4 ⟨rfl, rfl⟩
    go_wp2
    · exact bodyPost_ret (v := .agg #[.int .i64 k, .int .i64 0, .int .i64 0]) (resArg Tryz.results40 rfl (put3 ⟨o0, o1, o2⟩)) rfl ⟨k, 0, 0, rfl, hk, by unfold Sm; omega, by unfold Sm; omega, hr2.set3 hlt (by omega), (((Step.alloc rb w _).trans st).trans st2).set3 (Nat.le_refl _)⟩
    · exact bodyPost_ret (v := .agg #[.int .i64 k, .int .i64 q, .int .i64 0]) (resArg Tryz.results40 rfl (put3 ⟨o0, o1, o2⟩)) rfl ⟨k, q, 0, rfl, hk, by unfold Sm; omega, by unfold Sm; omega, hr2.set3 hlt (by omega), (((Step.alloc rb w _).trans st).trans st2).set3 (Nat.le_refl _)⟩

theorem arg_any (rb m : Nat) (k : Int) (w : World) (hr : Rd w rb m) (hm : m ≤ 1000) (hk : Sm k) :
    Calls Tryz.prog 40 #[.pointer (some ⟨rb, 0, none⟩), .int .i64 k] w (Drawn rb (m + 4) w) := by
  by_cases h1 : k = 11
  · subst h1; exact arg_11 rb m w hr hm
  by_cases h2 : k = 12
  · subst h2; exact arg_12 rb m w hr hm
  by_cases h3 : k = 13
  · subst h3; exact arg_13 rb m w hr hm
  exact arg_dev rb m k w hr hm hk (by simpa using h1) (by simpa using h2) (by simpa using h3)
end Go.Proofs.YtmgjngihngddfaaGreatDoor

/- The drawing of operands, on: l1Spoilt, l1Any, l1Half. Helper text: no statement is claimed here. -/
namespace Go.Proofs.YtmgjngihngddfaaGreatDoor
open Go.ChangeShapes Go.WideShapes Go.ChangeAt Go.RowKit

theorem nums_16 (w : World) : Nums (w.alloc (.cells #[.int .i64 (-1), .int .i64 4, .int .i64 5, .int .i64 15, .int .i64 16, .int .i64 31, .int .i64 32, .int .i64 63, .int .i64 64, .int .i64 255, .int .i64 32768, .int .i64 (-32769), .int .i64 1000000000, .int .i64 (-1000000000), .int .i64 20, .int .i64 10] 3)) w.heap.size 16 := by
  have := nums_mk w [-1, 4, 5, 15, 16, 31, 32, 63, 64, 255, 32768, -32769, 1000000000, -1000000000, 20, 10] 3 (by simp)
  simpa using this
theorem nums_5 (w : World) : Nums (w.alloc (.cells #[.int .i64 (-1), .int .i64 0, .int .i64 1, .int .i64 6, .int .i64 7] 3)) w.heap.size 5 := by
  have := nums_mk w [-1, 0, 1, 6, 7] 3 (by simp)
  simpa using this

set_option maxHeartbeats 2000000 in
theorem spoilt_any (rb m : Nat) (k n p : Int) (w : World) (hr : Rd w rb m) (hm : m ≤ 1000) (hk : Sm k) (hn : Sm n) (hp : Sm p) :
    Calls Tryz.prog 45 #[.pointer (some ⟨rb, 0, none⟩), .agg #[.int .i64 k, .int .i64 n, .int .i64 p]] w (Drawn rb (m + 2) w) := by
  have hlt := hr.lt
  have hne : w.heap.size ≠ rb := by omega
  have hne2 : w.heap.size + 1 ≠ rb := by omega
  have hbd := rN_bd (kz k)
  obtain ⟨n0, n1⟩ := hn
  go_enter Tryz.func45, Tryz.ntmps45
  go_wp2_with fail
  refine (pick_any rb m 6 _ (by omega) ((hr.alloc _).alloc _) (by omega)).mono ?_
  rintro e w1 ⟨t, rfl, t0, t1, -, hr1, st⟩
  have t1 : t < 6 := t1 (by omega)
  have hz : w.heap.size + 1 < w1.heap.size := by have := st.size; simp at this; omega
  have oa := ((Own.new w (.int .i64 k) (.int .i64 n) (.int .i64 p)).alloc (.cells #[.int .i64 0, .int .i64 0, .int .i64 0] 48)).step st hne
  have ob : Own w1 (w.heap.size + 1) (.int .i64 0) (.int .i64 0) (.int .i64 0) := by
    have := (Own.new (w.alloc (.cells #[.int .i64 k, .int .i64 n, .int .i64 p] 48)) (.int .i64 0) (.int .i64 0) (.int .i64 0)).step st (by simpa using hne2)
    simpa using this
  have sw : Step rb w w1 := ((Step.alloc rb w _).trans (Step.alloc rb _ _)).trans st
  clear st
  have ht : t = 0 ∨ t = 1 ∨ t = 2 ∨ t = 3 ∨ t = 4 ∨ t = 5 := by omega
  rcases ht with rfl | rfl | rfl | rfl | rfl | rfl
  · go_wp2_with fail
    refine (pick_any rb (m + 1) 16 _ (by omega) hr1 (by omega)).mono ?_
    rintro e w2 ⟨u, rfl, u0, u1, -, hr2, st2⟩
    have u1 : u < 16 := u1 (by omega)
    have ow := ob.step st2 hne2
    obtain ⟨⟨o0, o1, o2⟩, z0, z1, z2⟩ := oa.step st2 hne
    obtain ⟨⟨r0, r1, r2⟩, y0, y1, y2⟩ := ow
    go_wp2
    exact bodyPost_ret (v := .agg #[.int .i64 (u - 1), .int .i64 n, .int .i64 p]) (resArg Tryz.results45 rfl (put3 (Own.set (show Own w2 _ _ _ _ from ⟨⟨r0, r1, r2⟩, y0, y1, y2⟩) (by omega)).1)) rfl ⟨u - 1, n, p, rfl, by unfold Sm; omega, ⟨n0, n1⟩, hp, (hr2.set _ _ _ hlt).set3 (by omega) (by omega), ((sw.trans st2).setNew _ _ _ (by omega)).set3 (by omega)⟩
  · go_wp2_with fail
    refine (num_any rb (m + 1) w1.heap.size 16 _ (by omega) (by omega) (hr1.alloc _) (by omega) (nums_16 w1) (by have := hr1.lt; omega)).mono ?_
    rintro e w2 ⟨u, rfl, u0, u1, hr2, st2⟩
    have st2 : Step rb w1 w2 := (Step.alloc rb w1 _).trans st2
    have ow := ob.step st2 hne2
    obtain ⟨⟨o0, o1, o2⟩, z0, z1, z2⟩ := oa.step st2 hne
    obtain ⟨⟨r0, r1, r2⟩, y0, y1, y2⟩ := ow
    go_wp2
    exact bodyPost_ret (v := .agg #[.int .i64 k, .int .i64 u, .int .i64 p]) (resArg Tryz.results45 rfl (put3 (Own.set (show Own w2 _ _ _ _ from ⟨⟨r0, r1, r2⟩, y0, y1, y2⟩) (by omega)).1)) rfl ⟨k, u, p, rfl, hk, ⟨u0, u1⟩, hp, (hr2.set _ _ _ hlt).set3 (by omega) (by omega), ((sw.trans st2).setNew _ _ _ (by omega)).set3 (by omega)⟩
  · go_wp2_with fail
    refine (num_any rb (m + 1) w1.heap.size 5 _ (by omega) (by omega) (hr1.alloc _) (by omega) (nums_5 w1) (by have := hr1.lt; omega)).mono ?_
    rintro e w2 ⟨u, rfl, u0, u1, hr2, st2⟩
    have st2 : Step rb w1 w2 := (Step.alloc rb w1 _).trans st2
    have ow := ob.step st2 hne2
    obtain ⟨⟨o0, o1, o2⟩, z0, z1, z2⟩ := oa.step st2 hne
    obtain ⟨⟨r0, r1, r2⟩, y0, y1, y2⟩ := ow
    go_wp2
    exact bodyPost_ret (v := .agg #[.int .i64 k, .int .i64 n, .int .i64 u]) (resArg Tryz.results45 rfl (put3 (Own.set (show Own w2 _ _ _ _ from ⟨⟨r0, r1, r2⟩, y0, y1, y2⟩) (by omega)).1)) rfl ⟨k, n, u, rfl, hk, ⟨n0, n1⟩, ⟨u0, u1⟩, (hr2.set _ _ _ hlt).set3 (by omega) (by omega), ((sw.trans st2).setNew _ _ _ (by omega)).set3 (by omega)⟩
  · have ow := ob
    obtain ⟨⟨o0, o1, o2⟩, z0, z1, z2⟩ := oa
    obtain ⟨⟨r0, r1, r2⟩, y0, y1, y2⟩ := ow
    go_wp2_with fail
    refine (ssize_any _ _).mono ?_
    rintro e w2 ⟨rfl, rfl⟩
    go_wp2
    exact bodyPost_ret (v := .agg #[.int .i64 k, .int .i64 (rN (kz k)), .int .i64 p]) (resArg Tryz.results45 rfl (put3 (Own.set ob (by omega)).1)) rfl ⟨k, rN (kz k), p, rfl, hk, by unfold Sm; omega, hp, (hr1.set _ _ _ hlt).set3 (by omega) (by omega), (sw.setNew _ _ _ (by omega)).set3 (by omega)⟩
  · have ow := ob
    obtain ⟨⟨o0, o1, o2⟩, z0, z1, z2⟩ := oa
    obtain ⟨⟨r0, r1, r2⟩, y0, y1, y2⟩ := ow
    go_wp2_with fail
    refine (ssize_any _ _).mono ?_
    rintro e w2 ⟨rfl, rfl⟩
    go_wp2
    exact bodyPost_ret (v := .agg #[.int .i64 k, .int .i64 (rN (kz k) - 1), .int .i64 p]) (resArg Tryz.results45 rfl (put3 (Own.set ob (by omega)).1)) rfl ⟨k, rN (kz k) - 1, p, rfl, hk, by unfold Sm; omega, hp, (hr1.set _ _ _ hlt).set3 (by omega) (by omega), (sw.setNew _ _ _ (by omega)).set3 (by omega)⟩
  · have ow := ob
    obtain ⟨⟨o0, o1, o2⟩, z0, z1, z2⟩ := oa
    obtain ⟨⟨r0, r1, r2⟩, y0, y1, y2⟩ := ow
    go_wp2
    exact bodyPost_ret (v := .agg #[.int .i64 k, .int .i64 (-n), .int .i64 p]) (resArg Tryz.results45 rfl (put3 (Own.set ob (by omega)).1)) rfl ⟨k, -n, p, rfl, hk, by unfold Sm; omega, hp, (hr1.set _ _ _ hlt).set3 (by omega) (by omega), (sw.setNew _ _ _ (by omega)).set3 (by omega)⟩

set_option maxHeartbeats 1000000 in
theorem argAny_any (rb m : Nat) (w : World) (hr : Rd w rb m) (hm : m ≤ 900) :
    Calls Tryz.prog 44 #[.pointer (some ⟨rb, 0, none⟩)] w (Drawn rb (m + 8) w) := by
  have hlt := hr.lt
  have hne : w.heap.size ≠ rb := by omega
  go_enter Tryz.func44, Tryz.ntmps44
  go_wp2_with fail
  refine (pick_any rb m 13 _ (by omega) (hr.alloc _) (by omega)).mono ?_
  rintro e w1 ⟨t, rfl, t0, t1, -, hr1, st⟩
  have t1 : t < 13 := t1 (by omega)
  have oa := (Own.new w (.int .i64 0) (.int .i64 0) (.int .i64 0)).step st hne
  have sw : Step rb w w1 := (Step.alloc rb w _).trans st
  clear st
  go_wp2_with fail
  refine (arg_any rb (m + 1) (1 + t) _ hr1 (by omega) (by unfold Sm; omega)).mono ?_
  rintro e w2 ⟨k, n, p, rfl, hk, hn, hp, hr2, st2⟩
  have oa2 := oa.step st2 hne
  have sw2 := sw.trans st2
  have hz2 := oa2.lt
  clear oa sw st2
  have hlt2 := hr2.lt
  go_wp2_with fail
  refine (pick_any rb (m + 5) 20 _ (by omega) (hr2.alloc _) (by omega)).mono ?_
  rintro e w3 ⟨u, rfl, u0, u1, -, hr3, st3⟩
  have on3 := (Own.new w2 (.int .i64 k) (.int .i64 n) (.int .i64 p)).step st3 (by omega)
  have oa3 := (oa2.alloc _).step st3 hne
  have sw3 : Step rb w w3 := (sw2.trans (Step.alloc rb w2 _)).trans st3
  clear oa2 sw2 st3 u1
  by_cases hu : u = 0
  · subst hu
    obtain ⟨⟨o0, o1, o2⟩, z0, z1, z2⟩ := on3
    go_wp2_with fail
    refine (spoilt_any rb (m + 6) k n p _ hr3 (by omega) hk hn hp).mono ?_
    rintro e w4 ⟨k', n', p', rfl, hk', hn', hp', hr4, st4⟩
    have oa4 := oa3.step st4 hne
    obtain ⟨⟨r0, r1, r2⟩, y0, y1, y2⟩ := oa4
    go_wp2
    exact bodyPost_ret (v := .agg #[.int .i64 k', .int .i64 n', .int .i64 p']) (resArg Tryz.results44 rfl (put3 ⟨r0, r1, r2⟩)) rfl ⟨k', n', p', rfl, hk', hn', hp', hr4.set3 hlt (by omega), (sw3.trans st4).set3 (Nat.le_refl _)⟩
  · have hu' : (u == 0) = false := by simpa using hu
    clear hu
    obtain ⟨⟨o0, o1, o2⟩, z0, z1, z2⟩ := on3
    obtain ⟨⟨r0, r1, r2⟩, y0, y1, y2⟩ := oa3
    go_wp2
    exact bodyPost_ret (v := .agg #[.int .i64 k, .int .i64 n, .int .i64 p]) (resArg Tryz.results44 rfl (put3 ⟨r0, r1, r2⟩)) rfl ⟨k, n, p, rfl, hk, hn, hp, hr3.set3 hlt (by omega), sw3.set3 (Nat.le_refl _)⟩

/-- What the drawing of an operand out of bytes ends in. -/
def DrawnNew (w : World) (e : Ending) (w' : World) : Prop := ∃ k n p : Int, e = .returned (.agg #[.int .i64 k, .int .i64 n, .int .i64 p]) ∧ Sm k ∧ Sm n ∧ Sm p ∧ Below w.heap.size w w'

theorem put3_below {W w1 : World} {b : Nat} {x y z : Value} (h : Below W.heap.size W w1) (hb : W.heap.size ≤ b) : Below W.heap.size W (((w1.setCell ⟨b, 0, none⟩ x).setCell ⟨b, 1, none⟩ y).setCell ⟨b, 2, none⟩ z) :=
  ((h.setCell hb _).setCell hb _).setCell hb _

theorem IsRow.alloc {w : World} {a : Option Addr} {len : Nat} (h : IsRow w a len) (o : Obj) : IsRow (w.alloc o) a len := by
  rcases h with h | ⟨b, off, f, rfl, hc⟩
  · exact .inl h
  · refine .inr ⟨b, off, f, rfl, fun i hi => ?_⟩
    have := hc i hi
    rw [World.cell?_alloc_lt _ _ _ (World.block_lt_of_cell? w ⟨b, off + i, none⟩ this.1)]
    exact this

end Go.Proofs.YtmgjngihngddfaaGreatDoor

/- The drawing of contacts and coils: their operands. Helper text: no statement is claimed here. -/
namespace Go.Proofs.YtmgjngihngddfaaGreatDoor
open Go.ChangeShapes Go.WideShapes Go.ChangeAt Go.RowKit

theorem Own2.step {rb b : Nat} {w w' : World} {x y : Value} (h : Own2 w b x y) (st : Step rb w w') (hr : b ≠ rb) : Own2 w' b x y := by
  have hb := h.lt
  unfold Own2
  rw [st.cell b 0 hb hr, st.cell b 1 hb hr, st.frozen b 0 hb hr, st.frozen b 1 hb hr]; exact h

set_option maxHeartbeats 400000 in
theorem l3Bit_any (rb m : Nat) (w : World) (hr : Rd w rb m) (hm : m ≤ 900) :
    Calls Tryz.prog 39 #[.pointer (some ⟨rb, 0, none⟩)] w (Drawn rb (m + 5) w) := by
  have hlt := hr.lt
  have hne : w.heap.size ≠ rb := by omega
  go_enter Tryz.func39, Tryz.ntmps39
  go_wp2_with fail
  refine (num_any rb m (w.heap.size + 1) 9 _ (by omega) (by omega) ((hr.alloc _).alloc _) (by omega) ?_ (by omega)).mono ?_
  · have := nums_mk (w.alloc (.cells #[.int .i64 0, .int .i64 0, .int .i64 0] 48)) [1, 1, 2, 3, 3, 4, 6, 7, 8] 3 (by simp)
    simpa using this
  rintro e w1 ⟨v, rfl, v0, v1, hr1, st⟩
  go_wp2_with fail
  refine (arg_any rb (m + 1) v _ hr1 (by omega) ⟨v0, v1⟩).mono ?_
  rintro e w2 ⟨k, n, p, rfl, hk, hn, hp, hr2, st2⟩
  obtain ⟨⟨o0, o1, o2⟩, z0, z1, z2⟩ := (((Own.new w (.int .i64 0) (.int .i64 0) (.int .i64 0)).alloc _).step st hne).step st2 hne
  go_wp2
  exact bodyPost_ret (v := .agg #[.int .i64 k, .int .i64 n, .int .i64 p]) (resArg Tryz.results39 rfl (put3 ⟨o0, o1, o2⟩)) rfl ⟨k, n, p, rfl, hk, hn, hp, hr2.set3 hlt (by omega), ((((Step.alloc rb w _).trans (Step.alloc rb _ _)).trans st).trans st2).set3 (Nat.le_refl _)⟩

set_option maxHeartbeats 400000 in
theorem l3Whole_any (rb m : Nat) (w : World) (hr : Rd w rb m) (hm : m ≤ 900) :
    Calls Tryz.prog 41 #[.pointer (some ⟨rb, 0, none⟩)] w (Drawn rb (m + 5) w) := by
  have hlt := hr.lt
  have hne : w.heap.size ≠ rb := by omega
  go_enter Tryz.func41, Tryz.ntmps41
  go_wp2_with fail
  refine (num_any rb m (w.heap.size + 1) 7 _ (by omega) (by omega) ((hr.alloc _).alloc _) (by omega) ?_ (by omega)).mono ?_
  · have := nums_mk (w.alloc (.cells #[.int .i64 0, .int .i64 0, .int .i64 0] 48)) [9, 9, 9, 11, 11, 7, 8] 3 (by simp)
    simpa using this
  rintro e w1 ⟨v, rfl, v0, v1, hr1, st⟩
  go_wp2_with fail
  refine (arg_any rb (m + 1) v _ hr1 (by omega) ⟨v0, v1⟩).mono ?_
  rintro e w2 ⟨k, n, p, rfl, hk, hn, hp, hr2, st2⟩
  obtain ⟨⟨o0, o1, o2⟩, z0, z1, z2⟩ := (((Own.new w (.int .i64 0) (.int .i64 0) (.int .i64 0)).alloc _).step st hne).step st2 hne
  go_wp2
  exact bodyPost_ret (v := .agg #[.int .i64 k, .int .i64 n, .int .i64 p]) (resArg Tryz.results41 rfl (put3 ⟨o0, o1, o2⟩)) rfl ⟨k, n, p, rfl, hk, hn, hp, hr2.set3 hlt (by omega), ((((Step.alloc rb w _).trans (Step.alloc rb _ _)).trans st).trans st2).set3 (Nat.le_refl _)⟩

set_option maxHeartbeats 400000 in
theorem l3Real_any (rb m : Nat) (w : World) (hr : Rd w rb m) (hm : m ≤ 900) :
    Calls Tryz.prog 42 #[.pointer (some ⟨rb, 0, none⟩)] w (Drawn rb (m + 5) w) := by
  have hlt := hr.lt
  have hne : w.heap.size ≠ rb := by omega
  go_enter Tryz.func42, Tryz.ntmps42
  go_wp2_with fail
  refine (num_any rb m (w.heap.size + 1) 5 _ (by omega) (by omega) ((hr.alloc _).alloc _) (by omega) ?_ (by omega)).mono ?_
  · have := nums_mk (w.alloc (.cells #[.int .i64 0, .int .i64 0, .int .i64 0] 48)) [10, 10, 10, 12, 13] 3 (by simp)
    simpa using this
  rintro e w1 ⟨v, rfl, v0, v1, hr1, st⟩
  go_wp2_with fail
  refine (arg_any rb (m + 1) v _ hr1 (by omega) ⟨v0, v1⟩).mono ?_
  rintro e w2 ⟨k, n, p, rfl, hk, hn, hp, hr2, st2⟩
  obtain ⟨⟨o0, o1, o2⟩, z0, z1, z2⟩ := (((Own.new w (.int .i64 0) (.int .i64 0) (.int .i64 0)).alloc _).step st hne).step st2 hne
  go_wp2
  exact bodyPost_ret (v := .agg #[.int .i64 k, .int .i64 n, .int .i64 p]) (resArg Tryz.results42 rfl (put3 ⟨o0, o1, o2⟩)) rfl ⟨k, n, p, rfl, hk, hn, hp, hr2.set3 hlt (by omega), ((((Step.alloc rb w _).trans (Step.alloc rb _ _)).trans st).trans st2).set3 (Nat.le_refl _)⟩

/-- The operands of a drawn contact or coil, in memory of the call's own; or none at all. -/
def Els (base : Nat) (w' : World) (p : Option Addr) (ys : List Ar) (cap : Nat) : Prop :=
  (p = none ∧ ys = [] ∧ cap = 0) ∨ ∃ B, p = some ⟨B, 0, none⟩ ∧ base ≤ B ∧ B < w'.heap.size ∧ ArgsAt w' B ys
/-- What a drawing of a contact or coil ends in. -/
def EDrawn (L rb m : Nat) (w : World) (e : Ending) (w' : World) : Prop := ∃ (op : Int) (ys : List Ar) (p : Option Addr) (cap : Nat), e = .returned (elemV op p ys.length cap) ∧
  Sm op ∧ (∀ a ∈ ys, Sm a.1 ∧ Sm a.2.1 ∧ Sm a.2.2) ∧ ys.length ≤ L ∧ ys.length ≤ cap ∧ Els w.heap.size w' p ys cap ∧ Rd w' rb m ∧ Step rb w w'
theorem Rd.drew {w : World} {rb m : Nat} (h : Rd w rb m) : Rd w.drew rb m := h.to (Below.refl _ _).drew
theorem Step.drew (rb : Nat) (w : World) : Step rb w w.drew := .of (Below.refl _ _).drew
/-- A contact or coil that is made of operands in a new row. -/
theorem edrawn_lit {L rb m m' : Nat} {w w2 : World} {op : Int} {ys : List Ar} {t : TypeId} (hlt : rb < w.heap.size) (hr : Rd w2 rb m') (hm : m' ≤ m) (sw : Step rb w w2) (hz : w.heap.size < w2.heap.size) (hop : Sm op)
    (hys : ∀ a ∈ ys, Sm a.1 ∧ Sm a.2.1 ∧ Sm a.2.2) (hl : ys.length ≤ L) :
    EDrawn L rb m w (.returned (.agg #[.int .i64 op, .slice (some ⟨w2.heap.size, 0, none⟩) ys.length ys.length]))
      (((w2.setCell ⟨w.heap.size, 0, none⟩ (.int .i64 op)).setCell ⟨w.heap.size, 1, none⟩ (.slice (some ⟨w2.heap.size, 0, none⟩) ys.length ys.length)).alloc (.cells (arCells ys).toArray t)) := by
  refine ⟨op, ys, _, ys.length, rfl, hop, hys, hl, Nat.le_refl _, .inr ⟨w2.heap.size, rfl, by omega, by simp, ?_⟩, (((hr.mono hm).set _ _ _ hlt).set _ _ _ hlt).alloc _, ((sw.setNew _ _ _ (Nat.le_refl _)).setNew _ _ _ (Nat.le_refl _)).trans (Step.alloc rb _ _)⟩
  have := argsAt_new ((w2.setCell ⟨w.heap.size, 0, none⟩ (.int .i64 op)).setCell ⟨w.heap.size, 1, none⟩ (.slice (some ⟨w2.heap.size, 0, none⟩) ys.length ys.length)) ys t
  simpa using this
theorem ArgsAt.step {rb b : Nat} {w w' : World} {ys : List Ar} (h : ArgsAt w b ys) (st : Step rb w w') (hb : b < w.heap.size) (hr : b ≠ rb) : ArgsAt w' b ys := fun i hi => by
  rw [st.cell b _ hb hr, st.cell b _ hb hr, st.cell b _ hb hr]; exact h i hi
/-- The same where more is drawn behind the row. -/
theorem edrawn_mid {L rb m m' : Nat} {w w2 w9 : World} {op : Int} {ys : List Ar} {t : TypeId} (hlt : rb < w.heap.size) (hr : Rd w9 rb m') (hm : m' ≤ m) (sw : Step rb w w2) (hz : w.heap.size < w2.heap.size)
    (st : Step rb (w2.alloc (.cells (arCells ys).toArray t)) w9) (hop : Sm op) (hys : ∀ a ∈ ys, Sm a.1 ∧ Sm a.2.1 ∧ Sm a.2.2) (hl : ys.length ≤ L) :
    EDrawn L rb m w (.returned (.agg #[.int .i64 op, .slice (some ⟨w2.heap.size, 0, none⟩) ys.length ys.length]))
      ((w9.setCell ⟨w.heap.size, 0, none⟩ (.int .i64 op)).setCell ⟨w.heap.size, 1, none⟩ (.slice (some ⟨w2.heap.size, 0, none⟩) ys.length ys.length)) := by
  have h9 := st.size
  simp only [World.size_alloc] at h9
  refine ⟨op, ys, _, ys.length, rfl, hop, hys, hl, Nat.le_refl _, .inr ⟨w2.heap.size, rfl, by omega, by simp; omega, ?_⟩, ((hr.mono hm).set _ _ _ hlt).set _ _ _ hlt, (((sw.trans (Step.alloc rb _ _)).trans st).setNew _ _ _ (Nat.le_refl _)).setNew _ _ _ (Nat.le_refl _)⟩
  exact (((argsAt_new w2 ys t).step st (by simp) (by omega)).set (by omega)).set (by omega)
theorem sm1 {k n p : Int} (hk : Sm k) (hn : Sm n) (hp : Sm p) : ∀ a ∈ [((k, n, p) : Ar)], Sm a.1 ∧ Sm a.2.1 ∧ Sm a.2.2 := by
  intro a ha
  obtain rfl : a = (k, n, p) := by simpa using ha
  exact ⟨hk, hn, hp⟩
theorem smC {a : Ar} {l : List Ar} (h : Sm a.1 ∧ Sm a.2.1 ∧ Sm a.2.2) (hl : ∀ a ∈ l, Sm a.1 ∧ Sm a.2.1 ∧ Sm a.2.2) : ∀ b ∈ a :: l, Sm b.1 ∧ Sm b.2.1 ∧ Sm b.2.2 := by
  intro b hb
  rcases List.mem_cons.1 hb with rfl | hb
  · exact h
  · exact hl b hb
theorem smN : ∀ a ∈ ([] : List Ar), Sm a.1 ∧ Sm a.2.1 ∧ Sm a.2.2 := by simp
end Go.Proofs.YtmgjngihngddfaaGreatDoor
