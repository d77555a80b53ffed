/- The drawing of numbers out of a list of bytes: l9Open, pick, num. Helper text: no statement is claimed here. -/
import Derived.Test.YtedobjegolpbjaaDoorRows
import Derived.WalkKit
import Derived.ProofKit
import Derived.OpenShut
import Derived.Below
import Derived.WalkSmall
import Derived.Deep.QuietTactic
import Derived.BigQuiet
import Derived.Lib.QuietBelow
namespace Go.Proofs.YtedobjegolpbjaaDoor
open Go.ChangeShapes Go.WideShapes Go.ChangeAt Go.RowKit

/-- Of the blocks that were there none has turned but number rb. -/
structure Step (rb : Nat) (w w' : World) : Prop where
  os : w'.os = w.os
  tape : w'.tape = w.tape
  output : w'.output = w.output
  size : w.heap.size ≤ w'.heap.size
  block : ∀ k, k < w.heap.size → k ≠ rb → w'.heap[k]? = w.heap[k]?

/-- A reader lies in block rb: its bytes, at most 2000, and its place, at most m. -/
structure Rd (w : World) (rb m : Nat) : Prop where
  rd : ∃ (a : Option Addr) (len cap p : Nat), w.cell? ⟨rb, 0, none⟩ = some (.slice a len cap) ∧ w.cell? ⟨rb, 1, none⟩ = some (.int .i64 (p : Int)) ∧ w.frozen? ⟨rb, 1, none⟩ = false ∧ p ≤ m ∧ len ≤ 2000 ∧
    (len = 0 ∨ ∃ (b off : Nat) (f : Nat → Int), a = some ⟨b, off, none⟩ ∧ b < rb ∧ ∀ i, i < len → w.cell? ⟨b, off + i, none⟩ = some (.int .u8 (f i)) ∧ 0 ≤ f i ∧ f i ≤ 255)

theorem Step.refl (rb : Nat) (w : World) : Step rb w w := ⟨rfl, rfl, rfl, Nat.le_refl _, fun _ _ _ => rfl⟩
theorem Step.trans {rb : Nat} {a b c : World} (h : Step rb a b) (k : Step rb b c) : Step rb a c :=
  ⟨k.os.trans h.os, k.tape.trans h.tape, k.output.trans h.output, Nat.le_trans h.size k.size, fun i hi hr => (k.block i (Nat.lt_of_lt_of_le hi h.size) hr).trans (h.block i hi hr)⟩
theorem Step.of {rb : Nat} {w w' : World} (h : Below w.heap.size w w') : Step rb w w' := ⟨h.os, h.tape, h.output, h.size, fun k hk _ => h.block k hk⟩
theorem Step.alloc (rb : Nat) (w : World) (o : Obj) : Step rb w (w.alloc o) := .of ((Below.refl _ _).alloc (Nat.le_refl _) o)
theorem Step.set (rb : Nat) (w : World) (b i : Nat) (v : Value) (hb : b = rb) : Step rb w (w.setCell ⟨b, i, none⟩ v) :=
  ⟨rfl, rfl, rfl, by simp [World.setCell], fun k _ hr => Below.heap_setCell _ _ _ _ (by simp; omega)⟩
theorem Step.drawn {rb : Nat} {w w' : World} (h : Step rb w w') (n : Nat) : Step rb w (w'.drewN n) := h.trans (.of (Go.below_drewN (Below.refl _ _) n))
theorem Step.below {rb B : Nat} {w w' : World} (h : Step rb w w') (hB : B ≤ rb) (hs : B ≤ w.heap.size) : Below B w w' := ⟨h.os, h.tape, h.output, h.size, fun k hk => h.block k (by omega) (by omega)⟩
theorem Step.cell {rb : Nat} {w w' : World} (h : Step rb w w') (b o : Nat) (hb : b < w.heap.size) (hr : b ≠ rb) : w'.cell? ⟨b, o, none⟩ = w.cell? ⟨b, o, none⟩ := World.cell?_of_block (w := w) (h.block b hb hr)
theorem Step.frozen {rb : Nat} {w w' : World} (h : Step rb w w') (b o : Nat) (hb : b < w.heap.size) (hr : b ≠ rb) : w'.frozen? ⟨b, o, none⟩ = w.frozen? ⟨b, o, none⟩ := World.frozen?_of_block (w := w) (h.block b hb hr)

theorem Rd.lt {w : World} {rb m : Nat} (h : Rd w rb m) : rb < w.heap.size := by
  obtain ⟨a, len, cap, p, h0, _⟩ := h.rd
  exact World.block_lt_of_cell? w ⟨rb, 0, none⟩ h0
theorem Rd.to {w w' : World} {rb m : Nat} (h : Rd w rb m) (hb : Below w.heap.size w w') : Rd w' rb m := by
  have hlt := h.lt
  obtain ⟨a, len, cap, p, h0, h1, hf, hp, hl, hr⟩ := h.rd
  refine ⟨a, len, cap, p, ?_, ?_, ?_, hp, hl, ?_⟩
  · rw [hb.cell (p := ⟨rb, 0, none⟩) hlt]; exact h0
  · rw [hb.cell (p := ⟨rb, 1, none⟩) hlt]; exact h1
  · rw [hb.frozen (p := ⟨rb, 1, none⟩) hlt]; exact hf
  · rcases hr with hr | ⟨b, off, f, ha, hbr, hc⟩
    · exact .inl hr
    · refine .inr ⟨b, off, f, ha, hbr, fun i hi => ?_⟩
      have := hc i hi
      rw [hb.cell (p := ⟨b, off + i, none⟩) (World.block_lt_of_cell? w ⟨b, off + i, none⟩ this.1)]
      exact this
theorem Rd.alloc {w : World} {rb m : Nat} (h : Rd w rb m) (o : Obj) : Rd (w.alloc o) rb m := h.to ((Below.refl _ _).alloc (Nat.le_refl _) o)
theorem Rd.mono {w : World} {rb m m' : Nat} (h : Rd w rb m) (hm : m ≤ m') : Rd w rb m' := by
  obtain ⟨a, len, cap, p, h0, h1, hf, hp, hr⟩ := h.rd
  exact ⟨a, len, cap, p, h0, h1, hf, by omega, hr⟩
/-- A store into a block behind the reader's. -/
theorem Rd.set {w : World} {rb m : Nat} (h : Rd w rb m) (c i : Nat) (v : Value) (hc : rb < c) : Rd (w.setCell ⟨c, i, none⟩ v) rb m := by
  obtain ⟨a, len, cap, p, h0, h1, hf, hp, hl, hr⟩ := h.rd
  refine ⟨a, len, cap, p, ?_, ?_, ?_, hp, hl, ?_⟩
  · rw [World.cell?_setCell_other w ⟨c, i, none⟩ ⟨rb, 0, none⟩ _ (by simp <;> omega)]; exact h0
  · rw [World.cell?_setCell_other w ⟨c, i, none⟩ ⟨rb, 1, none⟩ _ (by simp <;> omega)]; exact h1
  · rw [World.frozen?_setCell]; exact hf
  · rcases hr with hr | ⟨b, off, f, ha, hbr, hb⟩
    · exact .inl hr
    · refine .inr ⟨b, off, f, ha, hbr, fun j hj => ?_⟩
      rw [World.cell?_setCell_other w ⟨c, i, none⟩ ⟨b, off + j, none⟩ _ (by simp <;> omega)]
      exact hb j hj
theorem Step.setNew {rb : Nat} {w w' : World} (h : Step rb w w') (c i : Nat) (v : Value) (hc : w.heap.size ≤ c) : Step rb w (w'.setCell ⟨c, i, none⟩ v) :=
  ⟨h.os, h.tape, h.output, by simpa [World.setCell] using h.size, fun k hk hr => (Below.heap_setCell _ _ _ _ (by simp; omega)).trans (h.block k hk hr)⟩
theorem next_of {w : World} {rb m len cap p : Nat} {a : Option Addr} (nq : Nat) (h0 : w.cell? ⟨rb, 0, none⟩ = some (.slice a len cap)) (h1 : w.cell? ⟨rb, 1, none⟩ = some (.int .i64 (p : Int))) (hf : w.frozen? ⟨rb, 1, none⟩ = false) (hp : p ≤ m) (hl : len ≤ 2000)
    (hr : len = 0 ∨ ∃ (b off : Nat) (f : Nat → Int), a = some ⟨b, off, none⟩ ∧ b < rb ∧ ∀ i, i < len → w.cell? ⟨b, off + i, none⟩ = some (.int .u8 (f i)) ∧ 0 ≤ f i ∧ f i ≤ 255) :
    Rd ((w.setCell ⟨rb, 1, none⟩ (.int .i64 ((p : Int) + 1))).drewN nq) rb (m + 1) ∧ Step rb w ((w.setCell ⟨rb, 1, none⟩ (.int .i64 ((p : Int) + 1))).drewN nq) := by
  have st : Step rb w ((w.setCell ⟨rb, 1, none⟩ (.int .i64 ((p : Int) + 1))).drewN nq) := (Step.set rb w rb 1 _ rfl).drawn nq
  refine ⟨⟨a, len, cap, p + 1, ?_, ?_, ?_, by omega, hl, ?_⟩, st⟩
  · show (w.setCell ⟨rb, 1, none⟩ _).cell? ⟨rb, 0, none⟩ = _
    rw [World.cell?_setCell_other w ⟨rb, 1, none⟩ ⟨rb, 0, none⟩ _ (by simp)]; exact h0
  · show (w.setCell ⟨rb, 1, none⟩ _).cell? ⟨rb, 1, none⟩ = _
    rw [World.cell?_setCell_same w ⟨rb, 1, none⟩ _ h1]; simp
  · show (w.setCell ⟨rb, 1, none⟩ _).frozen? ⟨rb, 1, none⟩ = _
    rw [World.frozen?_setCell]; exact hf
  · rcases hr with hr | ⟨b, off, f, ha, hbr, hc⟩
    · exact .inl hr
    · refine .inr ⟨b, off, f, ha, hbr, fun i hi => ?_⟩
      have := hc i hi
      rw [st.cell b (off + i) (World.block_lt_of_cell? w ⟨b, off + i, none⟩ this.1) (Nat.ne_of_lt hbr)]
      exact this

theorem xor_nonneg (a b : Int) (h1 : 0 ≤ a) (h2 : a < 4611686018427387904) (h3 : 0 ≤ b) (h4 : b < 4611686018427387904) : 0 ≤ bits .xor .i64 a b := by
  obtain ⟨x, rfl⟩ := Int.eq_ofNat_of_zero_le h1
  obtain ⟨y, rfl⟩ := Int.eq_ofNat_of_zero_le h3
  have hx : x ^^^ y < 2 ^ 62 := Nat.xor_lt_two_pow (by omega) (by omega)
  have e1 : (BitVec.ofInt 64 (x : Int)).toNat = x := by
    rw [BitVec.ofInt_natCast, BitVec.toNat_ofNat]; exact Nat.mod_eq_of_lt (by omega)
  have e2 : (BitVec.ofInt 64 (y : Int)).toNat = y := by
    rw [BitVec.ofInt_natCast, BitVec.toNat_ofNat]; exact Nat.mod_eq_of_lt (by omega)
  show 0 ≤ IntKind.i64.wrap ((BitVec.ofInt 64 (x : Int) ^^^ BitVec.ofInt 64 (y : Int)).toNat : Int)
  rw [BitVec.toNat_xor, e1, e2, IntKind.wrap_i64]
  omega

set_option maxHeartbeats 400000 in
theorem pick_few (rb p : Nat) (n : Int) (w : World) (hn : n < 1) (hp : p ≤ 1000000)
    (h1 : w.cell? ⟨rb, 1, none⟩ = some (.int .i64 (p : Int))) (hfz : w.frozen? ⟨rb, 1, none⟩ = false) :
    Calls Tryd.prog 20 #[.pointer (some ⟨rb, 0, none⟩), .int .i64 n] w fun e w' => e = .returned (.int .i64 0) ∧ w' = w.setCell ⟨rb, 1, none⟩ (.int .i64 (p + 1)) := by
  go_enter Tryd.func20, Tryd.ntmps20
  go_wp2
  go_ret
  exact ⟨rfl, rfl⟩

set_option maxHeartbeats 400000 in
theorem pick_none (rb p cap : Nat) (a : Option Addr) (n : Int) (w : World) (hn : 1 ≤ n) (hp : p ≤ 1000000)
    (h0 : w.cell? ⟨rb, 0, none⟩ = some (.slice a 0 cap)) (h1 : w.cell? ⟨rb, 1, none⟩ = some (.int .i64 (p : Int))) (hfz : w.frozen? ⟨rb, 1, none⟩ = false) :
    Calls Tryd.prog 20 #[.pointer (some ⟨rb, 0, none⟩), .int .i64 n] w fun e w' => e = .returned (.int .i64 0) ∧ w' = w.setCell ⟨rb, 1, none⟩ (.int .i64 (p + 1)) := by
  have hn3 : ¬ n < 1 := by omega
  go_enter Tryd.func20, Tryd.ntmps20
  go_wp2
  go_ret
  exact ⟨rfl, rfl⟩

set_option maxHeartbeats 400000 in
theorem pick_in (rb p len cap b off : Nat) (n c : Int) (w : World) (hn : 1 ≤ n) (hn2 : n ≤ 100000) (hp : p ≤ 1000000)
    (h0 : w.cell? ⟨rb, 0, none⟩ = some (.slice (some ⟨b, off, none⟩) len cap)) (h1 : w.cell? ⟨rb, 1, none⟩ = some (.int .i64 (p : Int))) (hfz : w.frozen? ⟨rb, 1, none⟩ = false)
    (hb : b ≠ rb) (hl : p < len) (_hl2 : len ≤ 2000) (hc : w.cell? ⟨b, off + p, none⟩ = some (.int .u8 c)) (c0 : 0 ≤ c) (c1 : c ≤ 255) :
    Calls Tryd.prog 20 #[.pointer (some ⟨rb, 0, none⟩), .int .i64 n] w fun e w' => e = .returned (.int .i64 (c % n)) ∧ w' = w.setCell ⟨rb, 1, none⟩ (.int .i64 (p + 1)) := by
  have hz : ((len : Int) == 0) = false := by simp; omega
  have hn3 : ¬ n < 1 := by omega
  have hn4 : (n == 0) = false := by simp; omega
  have hl3 : (p : Int) < len := by omega
  go_enter Tryd.func20, Tryd.ntmps20
  go_wp2
  go_ret
  exact ⟨rfl, rfl⟩

set_option maxHeartbeats 400000 in
theorem pick_out (rb p len cap b off : Nat) (n c d : Int) (w : World) (hn : 1 ≤ n) (hn2 : n ≤ 100000) (hp : p ≤ 1000000)
    (h0 : w.cell? ⟨rb, 0, none⟩ = some (.slice (some ⟨b, off, none⟩) len cap)) (h1 : w.cell? ⟨rb, 1, none⟩ = some (.int .i64 (p : Int))) (hfz : w.frozen? ⟨rb, 1, none⟩ = false)
    (hb : b ≠ rb) (hl : len ≤ p) (hl2 : len ≤ 2000) (hl0 : 1 ≤ len)
    (hc : w.cell? ⟨b, off + p % len, none⟩ = some (.int .u8 c)) (c0 : 0 ≤ c) (c1 : c ≤ 255) (hd : w.cell? ⟨b, off + (p * 7 + 3) % len, none⟩ = some (.int .u8 d)) (d0 : 0 ≤ d) (d1 : d ≤ 255) :
    Calls Tryd.prog 20 #[.pointer (some ⟨rb, 0, none⟩), .int .i64 n] w fun e w' => ∃ v, e = .returned (.int .i64 v) ∧ 0 ≤ v ∧ v < n ∧ ∃ nq, w' = (w.setCell ⟨rb, 1, none⟩ (.int .i64 (p + 1))).drewN nq := by
  have hz : ((len : Int) == 0) = false := by simp; omega
  have hn3 : ¬ n < 1 := by omega
  have hn4 : (n == 0) = false := by simp; omega
  have hl3 : ¬ (p : Int) < len := by omega
  have m1 : p % len < len := Nat.mod_lt _ (by omega)
  have i1 : ((p % len : Nat) : Int) < len := by omega
  have q0 : 0 ≤ (p : Int) / (len : Int) := Int.ediv_nonneg (by omega) (by omega)
  have q1 : (p : Int) / (len : Int) ≤ p := Int.ediv_le_self _ (by omega)
  have j1 : 0 ≤ ((p : Int) * 7 + 3) % (len : Int) := Int.emod_nonneg _ (by omega)
  have j2 : ((p : Int) * 7 + 3) % (len : Int) < (len : Int) := Int.emod_lt_of_pos _ (by omega)
  go_enter Tryd.func20, Tryd.ntmps20
  go_wp2
  go_quiet (fail)
  go_wp2
  go_ret
  have hx := xor_nonneg (c * 131 + d * 1117 + ↑p * 29 + ↑p / ↑len * 53) ((c * 131 + d * 1117 + ↑p * 29 + ↑p / ↑len * 53) / 64) (by omega) (by omega) (by omega) (by omega)
  exact ⟨_, rfl, Int.tmod_nonneg _ hx, Int.tmod_lt_of_pos _ (by omega), nq, rfl⟩

theorem pick_any (rb m : Nat) (n : Int) (w : World) (hn2 : n ≤ 100000) (hr : Rd w rb m) (hm : m ≤ 1000000) :
    Calls Tryd.prog 20 #[.pointer (some ⟨rb, 0, none⟩), .int .i64 n] w fun e w' => ∃ v, e = .returned (.int .i64 v) ∧ 0 ≤ v ∧ (1 ≤ n → v < n) ∧ (n < 1 → v = 0) ∧ Rd w' rb (m + 1) ∧ Step rb w w' := by
  obtain ⟨a, len, cap, p, h0, h1, hf, hp, hl, hr⟩ := hr.rd
  have fin := fun nq => next_of (m := m) nq h0 h1 hf hp hl hr
  by_cases hn : n < 1
  · refine (pick_few rb p n w hn (by omega) h1 hf).mono ?_
    rintro e w' ⟨rfl, rfl⟩
    exact ⟨0, rfl, by omega, by omega, fun _ => rfl, (fin 0).1, (fin 0).2⟩
  rcases hr with rfl | ⟨b, off, f, rfl, hb, hc⟩
  · refine (pick_none rb p cap a n w (by omega) (by omega) h0 h1 hf).mono ?_
    rintro e w' ⟨rfl, rfl⟩
    exact ⟨0, rfl, by omega, by omega, fun _ => rfl, (fin 0).1, (fin 0).2⟩
  by_cases hlen : len = 0
  · subst hlen
    refine (pick_none rb p cap _ n w (by omega) (by omega) h0 h1 hf).mono ?_
    rintro e w' ⟨rfl, rfl⟩
    exact ⟨0, rfl, by omega, by omega, fun _ => rfl, (fin 0).1, (fin 0).2⟩
  by_cases hpl : p < len
  · have := hc p hpl
    refine (pick_in rb p len cap b off n (f p) w (by omega) hn2 (by omega) h0 h1 hf (Nat.ne_of_lt hb) hpl hl this.1 this.2.1 this.2.2).mono ?_
    rintro e w' ⟨rfl, rfl⟩
    exact ⟨_, rfl, Int.emod_nonneg _ (by omega), fun _ => Int.emod_lt_of_pos _ (by omega), fun h => absurd h hn, (fin 0).1, (fin 0).2⟩
  · have c1 := hc (p % len) (Nat.mod_lt _ (by omega))
    have c2 := hc ((p * 7 + 3) % len) (Nat.mod_lt _ (by omega))
    refine (pick_out rb p len cap b off n _ _ w (by omega) hn2 (by omega) h0 h1 hf (Nat.ne_of_lt hb) (by omega) hl (by omega) c1.1 c1.2.1 c1.2.2 c2.1 c2.2.1 c2.2.2).mono ?_
    rintro e w' ⟨v, rfl, v0, v1, nq, rfl⟩
    exact ⟨v, rfl, v0, fun _ => v1, fun h => absurd h hn, (fin nq).1, (fin nq).2⟩

/-- A list of n numbers lies in block lb, each at most 2000000000 away from 0. -/
def Nums (w : World) (lb n : Nat) : Prop := ∀ i, i < n → ∃ z : Int, w.cell? ⟨lb, i, none⟩ = some (.int .i64 z) ∧ -2000000000 ≤ z ∧ z ≤ 2000000000

set_option maxHeartbeats 400000 in
theorem num_any (rb m lb n : Nat) (w : World) (hn : 1 ≤ n) (hn2 : n ≤ 100) (hr : Rd w rb m) (hm : m ≤ 1000000) (hl : Nums w lb n) (hlr : lb ≠ rb) :
    Calls Tryd.prog 33 #[.pointer (some ⟨rb, 0, none⟩), .slice (some ⟨lb, 0, none⟩) n n] w fun e w' => ∃ v, e = .returned (.int .i64 v) ∧ -2000000000 ≤ v ∧ v ≤ 2000000000 ∧ Rd w' rb (m + 1) ∧ Step rb w w' := by
  go_enter Tryd.func33, Tryd.ntmps33
  go_wp2_with fail
  refine (pick_any rb m n _ (by omega) hr hm).mono ?_
  rintro e w' ⟨v, rfl, v0, v1, -, hr', st⟩
  obtain ⟨k, rfl⟩ := Int.eq_ofNat_of_zero_le v0
  have hk : (k : Int) < n := v1 (by omega)
  obtain ⟨z, hz, z0, z1⟩ := hl k (by omega)
  have hz' : w'.cell? ⟨lb, k, none⟩ = some (.int .i64 z) := by
    rw [st.cell lb k (World.block_lt_of_cell? w ⟨lb, k, none⟩ hz) hlr]; exact hz
  clear v1 hl
  go_wp2
  go_ret
  exact ⟨z, rfl, z0, z1, hr', st⟩

/-- The bytes that come in: nil, or a row. -/
def IsRow (w : World) (a : Option Addr) (len : Nat) : Prop :=
  len = 0 ∨ ∃ (b off : Nat) (f : Nat → Int), a = some ⟨b, off, none⟩ ∧ ∀ i, i < len → w.cell? ⟨b, off + i, none⟩ = some (.int .u8 (f i)) ∧ 0 ≤ f i ∧ f i ≤ 255

theorem open_done {w : World} {a a' : Option Addr} {len len' cap : Nat} (h : IsRow w a len) (hl : len' ≤ len) (ha : len' ≠ 0 → a' = a) (h2 : len' ≤ 2000) :
    Rd (w.alloc (.cells #[.slice a' len' cap, .int .i64 0] 56)) w.heap.size 0 := by
  refine ⟨a', len', cap, 0, by simp [go_sem], by simp [go_sem], by simp [go_sem], by omega, h2, ?_⟩
  by_cases h0 : len' = 0
  · exact .inl h0
  rcases h with h | ⟨b, off, f, rfl, hc⟩
  · omega
  · refine .inr ⟨b, off, f, ha h0, ?_, fun i hi => ?_⟩
    · have := World.block_lt_of_cell? w ⟨b, off + 0, none⟩ (hc 0 (by omega)).1
      simp at this; omega
    · have := hc i (by omega)
      rw [World.cell?_alloc_lt _ _ _ (World.block_lt_of_cell? w ⟨b, off + i, none⟩ this.1)]
      exact this

set_option maxHeartbeats 400000 in
theorem open_any (a : Option Addr) (len cap : Nat) (w : World) (h : IsRow w a len) (hlc : len ≤ cap) :
    Calls Tryd.prog 17 #[.slice a len cap] w fun e w' => e = .returned (.pointer (some ⟨w.heap.size, 0, none⟩)) ∧ Rd w' w.heap.size 0 ∧ Below w.heap.size w w' := by
  by_cases hl : 2000 < len
  · have hl1 : (2000 : Int) < len := by omega
    have hl2 : (2000 : Int) ≤ cap := by omega
    rcases h with h | ⟨b, off, f, rfl, hc⟩
    · omega
    have hop : Hid (IsRow w (some ⟨b, off, none⟩) len) := .inr ⟨b, off, f, rfl, hc⟩
    clear hc
    go_enter Tryd.func17, Tryd.ntmps17
    go_wp2
    go_ret
    exact ⟨rfl, open_done hop.out (by omega) (fun _ => rfl) (by omega), (Below.refl _ _).alloc (Nat.le_refl _) _⟩
  · have hl1 : ¬ (2000 : Int) < len := by omega
    have hop : Hid (IsRow w a len) := h
    clear h
    go_enter Tryd.func17, Tryd.ntmps17
    go_wp2
    go_ret
    exact ⟨rfl, open_done hop.out (by omega) (fun _ => rfl) (by omega), (Below.refl _ _).alloc (Nat.le_refl _) _⟩
end Go.Proofs.YtedobjegolpbjaaDoor
