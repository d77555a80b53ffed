/- A memory that is being drawn: every cell fits its place. Helper text: no statement is claimed here. -/
import Derived.Test.YtjacgamgjjpllaaGreatDoorP06
import Derived.Test.YtjacgamgjjpllaaGreatDoorP31
import Derived.Laws.BitsAllLaws
import Derived.Laws.Bits64
namespace Go.Proofs.YtjacgamgjjpllaaGreatDoor
open Go.ChangeShapes Go.WideShapes Go.ChangeAt Go.RowKit

/-- What may lie in a cell of a memory. -/
def Fit (i : Nat) (v : Value) : Prop :=
  if i < 5 then (if i = 2 then ∃ n : Nat, n < 2 ^ 64 ∧ v = .int .u64 n else if i = 3 then ∃ n : Nat, n < 2 ^ 16 ∧ v = .int .u16 n else ∃ n : Nat, n < 2 ^ 32 ∧ v = .int .u32 n)
  else if i < 37 then (if (i - 5) % 2 = 0 then ∃ b, v = .bool b else ∃ n : Nat, n < 65536 ∧ v = .int .u16 n)
  else if i < 85 then (if (i - 37) % 3 = 2 then ∃ n : Nat, n < 65536 ∧ v = .int .u16 n else ∃ b, v = .bool b)
  else if i < 117 then ∃ z : Int, -32768 ≤ z ∧ z ≤ 32767 ∧ v = .int .i16 z
  else if i < 133 then ∃ n : Nat, n < 2 ^ 64 ∧ v = .float .f64 n
  else if i = 133 then ∃ n : Nat, n < 2 ^ 32 ∧ v = .int .u32 n
  else ∃ b, v = .bool b
theorem fit_td {k : Nat} (h : k < 16) (b : Bool) : Fit (5 + k * 2) (.bool b) := by
  unfold Fit; rw [if_neg (by omega), if_pos (by omega), if_pos (by omega)]; exact ⟨b, rfl⟩
theorem fit_tc {k n : Nat} (h : k < 16) (hn : n < 65536) : Fit (5 + k * 2 + 1) (.int .u16 n) := by
  unfold Fit; rw [if_neg (by omega), if_pos (by omega), if_neg (by omega)]; exact ⟨n, hn, rfl⟩
theorem fit_cd {k : Nat} (h : k < 16) (b : Bool) : Fit (37 + k * 3) (.bool b) := by
  unfold Fit; rw [if_neg (by omega), if_neg (by omega), if_pos (by omega), if_neg (by omega)]; exact ⟨b, rfl⟩
theorem fit_cl {k : Nat} (h : k < 16) (b : Bool) : Fit (37 + k * 3 + 1) (.bool b) := by
  unfold Fit; rw [if_neg (by omega), if_neg (by omega), if_pos (by omega), if_neg (by omega)]; exact ⟨b, rfl⟩
theorem fit_cc {k n : Nat} (h : k < 16) (hn : n < 65536) : Fit (37 + k * 3 + 2) (.int .u16 n) := by
  unfold Fit; rw [if_neg (by omega), if_neg (by omega), if_pos (by omega), if_pos (by omega)]; exact ⟨n, hn, rfl⟩
theorem fit_d {k : Nat} {z : Int} (h : k < 32) (h0 : -32768 ≤ z) (h1 : z ≤ 32767) : Fit (85 + k) (.int .i16 z) := by
  unfold Fit; rw [if_neg (by omega), if_neg (by omega), if_neg (by omega), if_pos (by omega)]; exact ⟨z, h0, h1, rfl⟩
theorem fit_r {k n : Nat} (h : k < 16) (hn : n < 2 ^ 64) : Fit (117 + k) (.float .f64 n) := by
  unfold Fit; rw [if_neg (by omega), if_neg (by omega), if_neg (by omega), if_neg (by omega), if_pos (by omega)]; exact ⟨n, hn, rfl⟩
theorem fit_cell {m : Mm} (h : m.Ok) (i : Nat) (_hi : i < 136) : Fit i (m.cell i) := by
  unfold Fit Mm.cell
  by_cases h5 : i < 5
  · rw [if_pos h5, if_pos h5]
    have : i = 0 ∨ i = 1 ∨ i = 2 ∨ i = 3 ∨ i = 4 := by omega
    rcases this with rfl | rfl | rfl | rfl | rfl
    · exact ⟨_, h.hx, rfl⟩
    · exact ⟨_, h.hy, rfl⟩
    · exact ⟨_, h.hm, rfl⟩
    · exact ⟨_, h.hs, rfl⟩
    · exact ⟨_, h.he, rfl⟩
  · rw [if_neg h5, if_neg h5]
    by_cases h37 : i < 37
    · rw [if_pos h37, if_pos h37]
      unfold Mm.tcell
      by_cases ho : (i - 5) % 2 = 0
      · rw [if_pos ho, if_pos ho]; exact ⟨_, rfl⟩
      · rw [if_neg ho, if_neg ho]; exact ⟨_, h.htc _, rfl⟩
    · rw [if_neg h37, if_neg h37]
      by_cases h85 : i < 85
      · rw [if_pos h85, if_pos h85]
        unfold Mm.ccell
        by_cases ho : (i - 37) % 3 = 2
        · rw [if_pos ho, if_neg (by omega), if_neg (by omega)]; exact ⟨_, h.hcc _, rfl⟩
        · rw [if_neg ho]
          by_cases h0 : (i - 37) % 3 = 0
          · rw [if_pos h0]; exact ⟨_, rfl⟩
          · rw [if_neg h0, if_pos (by omega)]; exact ⟨_, rfl⟩
      · rw [if_neg h85, if_neg h85]
        by_cases h117 : i < 117
        · rw [if_pos h117, if_pos h117]; exact ⟨_, (h.hd _).1, (h.hd _).2, rfl⟩
        · rw [if_neg h117, if_neg h117]
          by_cases h133 : i < 133
          · rw [if_pos h133, if_pos h133]; exact ⟨_, h.hr _, rfl⟩
          · rw [if_neg h133, if_neg h133]
            by_cases ht : i = 133
            · rw [if_pos ht, if_pos ht]; exact ⟨_, h.htime, rfl⟩
            · rw [if_neg ht, if_neg ht]
              split
              · exact ⟨_, rfl⟩
              · exact ⟨_, rfl⟩
def nF : Value → Nat
  | .int _ n => n.toNat
  | .float _ n => n
  | _ => 0
def zF : Value → Int
  | .int _ n => n
  | _ => 0
def bF : Value → Bool
  | .bool b => b
  | _ => false
/-- The memory whose cells are so. -/
def memFit (f : Nat → Value) : Mm where
  x := nF (f 0)
  y := nF (f 1)
  m := nF (f 2)
  s := nF (f 3)
  e := nF (f 4)
  td := fun i => if i < 16 then bF (f (5 + i * 2)) else false
  tc := fun i => if i < 16 then nF (f (5 + i * 2 + 1)) else 0
  cd := fun i => if i < 16 then bF (f (37 + i * 3)) else false
  cl := fun i => if i < 16 then bF (f (37 + i * 3 + 1)) else false
  cc := fun i => if i < 16 then nF (f (37 + i * 3 + 2)) else 0
  d := fun i => if i < 32 then zF (f (85 + i)) else 0
  r := fun i => if i < 16 then nF (f (117 + i)) else 0
  time := nF (f 133)
  ran := bF (f 134)
  fault := bF (f 135)
theorem fit_u32 {f : Nat → Value} (h : ∀ i, i < 136 → Fit i (f i)) (i : Nat) (hi : i = 0 ∨ i = 1 ∨ i = 4 ∨ i = 133) : ∃ n : Nat, n < 2 ^ 32 ∧ f i = .int .u32 n := by
  have := h i (by omega)
  unfold Fit at this
  rcases hi with rfl | rfl | rfl | rfl <;> simpa using this
theorem fit_u64 {f : Nat → Value} (h : ∀ i, i < 136 → Fit i (f i)) : ∃ n : Nat, n < 2 ^ 64 ∧ f 2 = .int .u64 n := by
  have := h 2 (by omega)
  unfold Fit at this
  simpa using this
theorem fit_u16 {f : Nat → Value} (h : ∀ i, i < 136 → Fit i (f i)) : ∃ n : Nat, n < 2 ^ 16 ∧ f 3 = .int .u16 n := by
  have := h 3 (by omega)
  unfold Fit at this
  simpa using this
theorem fit_b {f : Nat → Value} (h : ∀ i, i < 136 → Fit i (f i)) (i : Nat) (hi : i = 134 ∨ i = 135) : ∃ b, f i = .bool b := by
  have := h i (by omega)
  unfold Fit at this
  rcases hi with rfl | rfl <;> simpa using this
theorem fit_tdE {f : Nat → Value} (h : ∀ i, i < 136 → Fit i (f i)) (k : Nat) (hk : k < 16) : ∃ b, f (5 + k * 2) = .bool b := by
  have := h (5 + k * 2) (by omega)
  unfold Fit at this
  rwa [if_neg (by omega), if_pos (by omega), if_pos (by omega)] at this
theorem fit_tcE {f : Nat → Value} (h : ∀ i, i < 136 → Fit i (f i)) (k : Nat) (hk : k < 16) : ∃ n : Nat, n < 65536 ∧ f (5 + k * 2 + 1) = .int .u16 n := by
  have := h (5 + k * 2 + 1) (by omega)
  unfold Fit at this
  rwa [if_neg (by omega), if_pos (by omega), if_neg (by omega)] at this
theorem fit_cdE {f : Nat → Value} (h : ∀ i, i < 136 → Fit i (f i)) (k : Nat) (hk : k < 16) : ∃ b, f (37 + k * 3) = .bool b := by
  have := h (37 + k * 3) (by omega)
  unfold Fit at this
  rwa [if_neg (by omega), if_neg (by omega), if_pos (by omega), if_neg (by omega)] at this
theorem fit_clE {f : Nat → Value} (h : ∀ i, i < 136 → Fit i (f i)) (k : Nat) (hk : k < 16) : ∃ b, f (37 + k * 3 + 1) = .bool b := by
  have := h (37 + k * 3 + 1) (by omega)
  unfold Fit at this
  rwa [if_neg (by omega), if_neg (by omega), if_pos (by omega), if_neg (by omega)] at this
theorem fit_ccE {f : Nat → Value} (h : ∀ i, i < 136 → Fit i (f i)) (k : Nat) (hk : k < 16) : ∃ n : Nat, n < 65536 ∧ f (37 + k * 3 + 2) = .int .u16 n := by
  have := h (37 + k * 3 + 2) (by omega)
  unfold Fit at this
  rwa [if_neg (by omega), if_neg (by omega), if_pos (by omega), if_pos (by omega)] at this
theorem fit_dE {f : Nat → Value} (h : ∀ i, i < 136 → Fit i (f i)) (k : Nat) (hk : k < 32) : ∃ z : Int, -32768 ≤ z ∧ z ≤ 32767 ∧ f (85 + k) = .int .i16 z := by
  have := h (85 + k) (by omega)
  unfold Fit at this
  rwa [if_neg (by omega), if_neg (by omega), if_neg (by omega), if_pos (by omega)] at this
theorem fit_rE {f : Nat → Value} (h : ∀ i, i < 136 → Fit i (f i)) (k : Nat) (hk : k < 16) : ∃ n : Nat, n < 2 ^ 64 ∧ f (117 + k) = .float .f64 n := by
  have := h (117 + k) (by omega)
  unfold Fit at this
  rwa [if_neg (by omega), if_neg (by omega), if_neg (by omega), if_neg (by omega), if_pos (by omega)] at this
theorem memFit_ok {f : Nat → Value} (h : ∀ i, i < 136 → Fit i (f i)) : (memFit f).Ok := by
  refine ⟨?_, ?_, ?_, ?_, ?_, ?_, ?_, ?_, ?_, ?_⟩
  · obtain ⟨n, hn, e⟩ := fit_u32 h 0 (by omega); show nF (f 0) < _; rw [e]; exact hn
  · obtain ⟨n, hn, e⟩ := fit_u32 h 1 (by omega); show nF (f 1) < _; rw [e]; exact hn
  · obtain ⟨n, hn, e⟩ := fit_u64 h; show nF (f 2) < _; rw [e]; exact hn
  · obtain ⟨n, hn, e⟩ := fit_u16 h; show nF (f 3) < _; rw [e]; exact hn
  · obtain ⟨n, hn, e⟩ := fit_u32 h 4 (by omega); show nF (f 4) < _; rw [e]; exact hn
  · intro i
    show (if i < 16 then nF (f (5 + i * 2 + 1)) else 0) < 65536
    split
    · rename_i hi
      obtain ⟨n, hn, e⟩ := fit_tcE h i hi; rw [e]; exact hn
    · omega
  · intro i
    show (if i < 16 then nF (f (37 + i * 3 + 2)) else 0) < 65536
    split
    · rename_i hi
      obtain ⟨n, hn, e⟩ := fit_ccE h i hi; rw [e]; exact hn
    · omega
  · intro i
    show -32768 ≤ (if i < 32 then zF (f (85 + i)) else 0) ∧ (if i < 32 then zF (f (85 + i)) else 0) ≤ 32767
    split
    · rename_i hi
      obtain ⟨z, h0, h1, e⟩ := fit_dE h i hi; rw [e]; exact ⟨h0, h1⟩
    · omega
  · intro i
    show (if i < 16 then nF (f (117 + i)) else 0) < 2 ^ 64
    split
    · rename_i hi
      obtain ⟨n, hn, e⟩ := fit_rE h i hi; rw [e]; exact hn
    · omega
  · obtain ⟨n, hn, e⟩ := fit_u32 h 133 (by omega); show nF (f 133) < _; rw [e]; exact hn
set_option maxRecDepth 10000 in
theorem memFit_cell {f : Nat → Value} (h : ∀ i, i < 136 → Fit i (f i)) (i : Nat) (hi : i < 136) : f i = (memFit f).cell i := by
  unfold Mm.cell
  split
  · have : i = 0 ∨ i = 1 ∨ i = 2 ∨ i = 3 ∨ i = 4 := by omega
    rcases this with rfl | rfl | rfl | rfl | rfl
    · obtain ⟨n, hn, e⟩ := fit_u32 h 0 (by omega); show _ = Value.int .u32 (nF (f 0) : Nat); rw [e]; rfl
    · obtain ⟨n, hn, e⟩ := fit_u32 h 1 (by omega); show _ = Value.int .u32 (nF (f 1) : Nat); rw [e]; rfl
    · obtain ⟨n, hn, e⟩ := fit_u64 h; show _ = Value.int .u64 (nF (f 2) : Nat); rw [e]; rfl
    · obtain ⟨n, hn, e⟩ := fit_u16 h; show _ = Value.int .u16 (nF (f 3) : Nat); rw [e]; rfl
    · obtain ⟨n, hn, e⟩ := fit_u32 h 4 (by omega); show _ = Value.int .u32 (nF (f 4) : Nat); rw [e]; rfl
  · split
    · unfold Mm.tcell
      split
      · obtain ⟨b, e⟩ := fit_tdE h ((i - 5) / 2) (by omega)
        show _ = Value.bool (if (i - 5) / 2 < 16 then bF (f (5 + (i - 5) / 2 * 2)) else false)
        rw [if_pos (by omega), e, show i = 5 + (i - 5) / 2 * 2 by omega, e]; rfl
      · obtain ⟨n, hn, e⟩ := fit_tcE h ((i - 5) / 2) (by omega)
        show _ = Value.int .u16 ((if (i - 5) / 2 < 16 then nF (f (5 + (i - 5) / 2 * 2 + 1)) else 0 : Nat) : Int)
        rw [if_pos (by omega), e, show i = 5 + (i - 5) / 2 * 2 + 1 by omega, e]; rfl
    · split
      · unfold Mm.ccell
        split
        · obtain ⟨b, e⟩ := fit_cdE h ((i - 37) / 3) (by omega)
          show _ = Value.bool (if (i - 37) / 3 < 16 then bF (f (37 + (i - 37) / 3 * 3)) else false)
          rw [if_pos (by omega), e, show i = 37 + (i - 37) / 3 * 3 by omega, e]; rfl
        · split
          · obtain ⟨b, e⟩ := fit_clE h ((i - 37) / 3) (by omega)
            show _ = Value.bool (if (i - 37) / 3 < 16 then bF (f (37 + (i - 37) / 3 * 3 + 1)) else false)
            rw [if_pos (by omega), e, show i = 37 + (i - 37) / 3 * 3 + 1 by omega, e]; rfl
          · obtain ⟨n, hn, e⟩ := fit_ccE h ((i - 37) / 3) (by omega)
            show _ = Value.int .u16 ((if (i - 37) / 3 < 16 then nF (f (37 + (i - 37) / 3 * 3 + 2)) else 0 : Nat) : Int)
            rw [if_pos (by omega), e, show i = 37 + (i - 37) / 3 * 3 + 2 by omega, e]; rfl
      · split
        · obtain ⟨z, h0, h1, e⟩ := fit_dE h (i - 85) (by omega)
          show _ = Value.int .i16 (if i - 85 < 32 then zF (f (85 + (i - 85))) else 0)
          rw [if_pos (by omega), e, show i = 85 + (i - 85) by omega, e]; rfl
        · split
          · obtain ⟨n, hn, e⟩ := fit_rE h (i - 117) (by omega)
            show _ = Value.float .f64 (if i - 117 < 16 then nF (f (117 + (i - 117))) else 0)
            rw [if_pos (by omega), e, show i = 117 + (i - 117) by omega, e]; rfl
          · split
            · rename_i h1
              subst h1
              obtain ⟨n, hn, e⟩ := fit_u32 h 133 (by omega); show _ = Value.int .u32 (nF (f 133) : Nat); rw [e]; rfl
            · split
              · rename_i h1
                subst h1
                obtain ⟨b, e⟩ := fit_b h 134 (by omega); show _ = Value.bool (bF (f 134)); rw [e]; rfl
              · obtain rfl : i = 135 := by omega
                obtain ⟨b, e⟩ := fit_b h 135 (by omega); show _ = Value.bool (bF (f 135)); rw [e]; rfl
/-- A memory of the call's own, whatever it is. -/
def MemF (w : World) (b : Nat) : Prop := ∃ f, RowAt w b 37 136 f ∧ ∀ i, i < 136 → Fit i (f i)
theorem MemF.mem {w : World} {b : Nat} (h : MemF w b) : ∃ m : Mm, m.Ok ∧ MemAt w b m := by
  obtain ⟨f, hf, hi⟩ := h
  exact ⟨memFit f, memFit_ok hi, hf.ext (memFit_cell hi)⟩
theorem MemF.of {w : World} {b : Nat} {m : Mm} (h : MemAt w b m) (hm : m.Ok) : MemF w b := ⟨_, h, fun i hi => fit_cell hm i hi⟩
theorem MemF.some {w : World} {b : Nat} (h : MemF w b) (i : Nat) (hi : i < 136) : ∃ v, w.cell? ⟨b, i, none⟩ = some v ∧ w.frozen? ⟨b, i, none⟩ = false := by
  obtain ⟨f, hf, -⟩ := h
  exact ⟨_, hf.cell hi, hf.frozen i⟩
theorem MemF.set {w : World} {b : Nat} (h : MemF w b) (k : Nat) (v : Value) (hv : Fit k v) : MemF (w.setCell ⟨b, k, none⟩ v) b := by
  obtain ⟨f, hf, hi⟩ := h
  refine ⟨_, hf.set k v, fun i hl => ?_⟩
  show Fit i (if i = k then v else f i)
  by_cases he : i = k
  · rw [if_pos he, he]; exact hv
  · rw [if_neg he]; exact hi i hl
theorem MemF.lt {w : World} {b : Nat} (h : MemF w b) : b < w.heap.size := by obtain ⟨f, hf, -⟩ := h; exact hf.lt
theorem MemF.step {rb b : Nat} {w w' : World} (h : MemF w b) (st : Step rb w w') (hb : b ≠ rb) : MemF w' b := by
  obtain ⟨f, hf, hi⟩ := h
  exact ⟨f, (st.block b hf.lt hb).trans hf, hi⟩
/-- A row of the call's own that waits for its answer. -/
def RowF (w : World) (b : Nat) : Prop := ∃ f, RowAt w b 37 136 f
theorem RowF.step {rb b : Nat} {w w' : World} (h : RowF w b) (st : Step rb w w') (hb : b ≠ rb) : RowF w' b := by
  obtain ⟨f, hf⟩ := h
  exact ⟨f, (st.block b hf.lt hb).trans hf⟩
theorem RowF.other {w : World} {b c k : Nat} (h : RowF w b) (v : Value) (hc : b ≠ c) : RowF (w.setCell ⟨c, k, none⟩ v) b := by
  obtain ⟨f, hf⟩ := h
  exact ⟨f, hf.other v hc⟩
theorem u32_nat (v : Int) : ∃ n : Nat, n < 4294967296 ∧ IntKind.u32.wrap v = (n : Int) := ⟨(v % 4294967296).toNat, by omega, by rw [IntKind.wrap_u32']; omega⟩
theorem u16_nat (v : Int) : ∃ n : Nat, n < 65536 ∧ IntKind.u16.wrap v = (n : Int) := ⟨(v % 65536).toNat, by omega, by rw [IntKind.wrap_u16]; omega⟩
/-- A list of numbers of whatever size. -/
def NumsW (w : World) (lb n : Nat) : Prop := ∀ i, i < n → ∃ z : Int, w.cell? ⟨lb, i, none⟩ = some (.int .i64 z)
set_option maxHeartbeats 400000 in
theorem numW_any (rb m lb n : Nat) (w : World) (hn : 1 ≤ n) (hn2 : n ≤ 100) (hr : Rd w rb m) (hm : m ≤ 1000000) (hl : NumsW w lb n) (hlr : lb ≠ rb) :
    Calls Tryz.prog 31 #[.pointer (some ⟨rb, 0, none⟩), .slice (some ⟨lb, 0, none⟩) n n] w fun e w' => ∃ v, e = .returned (.int .i64 v) ∧ Rd w' rb (m + 1) ∧ Step rb w w' := by
  go_enter Tryz.func31, Tryz.ntmps31
  go_wp2_with fail
  refine (pick_any rb m n _ (by omega) hr hm).mono ?_
  rintro e w' ⟨v, rfl, v0, v1, -, hr', st⟩
  obtain ⟨k, rfl⟩ := Int.eq_ofNat_of_zero_le v0
  have hk : (k : Int) < n := v1 (by omega)
  obtain ⟨z, hz⟩ := hl k (by omega)
  have hz' : w'.cell? ⟨lb, k, none⟩ = some (.int .i64 z) := by
    rw [st.cell lb k (World.block_lt_of_cell? w ⟨lb, k, none⟩ hz) hlr]; exact hz
  clear v1 hl
  go_wp2
  go_ret
  exact ⟨z, rfl, hr', st⟩
theorem numsW_of (w : World) (cs : List Int) (t : TypeId) : NumsW (w.alloc (.cells (cs.map fun z => Value.int .i64 z).toArray t)) w.heap.size cs.length := fun i hi => by
  refine ⟨cs[i], ?_⟩
  rw [World.cell?_alloc_mark]
  simp [hi]
end Go.Proofs.YtjacgamgjjpllaaGreatDoor
