/- A memory that is handed to a law, read off the given values. Helper text: no statement is claimed here. -/
import Derived.Test.YtljhpagpohihcabDoorJb
import Derived.Lib.SmallJoins
namespace Go.Proofs.YtljhpagpohihcabDoor
open Go.ChangeShapes Go.WideShapes Go.ChangeAt Go.RowKit Go.Joins

section
variable {H : Type} {enc : TypeId × Value → H} {w : World} {base : Nat} {spare : Nat → Bool} {held : Bool}
theorem field_of {fuel : Nat} {t : TypeId} {cs : List Value} {x : DataW H × List MemPlace} {fs : Array Field} (ht : Tryd.prog.underlying t = some (.struct fs)) (h : DataW.trod enc Tryd.prog w base spare held fuel t cs = some x)
    (i : Nat) (ty : TypeId) (off k : Nat) (hf : (fs[i]?).map (fun f => (f.type, f.offset)) = some (ty, off)) (hk : Tryd.prog.cellsOf ty = k) : ∃ n y, DataW.trod enc Tryd.prog w base spare held n ty ((cs.drop off).take k) = some y := by
  obtain ⟨xs, n, -, -, -, hl, hx⟩ := DataW.trod_struct ht h
  obtain ⟨f, h1, h2⟩ := Option.map_eq_some_iff.1 hf
  simp only [Prod.mk.injEq] at h2
  obtain ⟨rfl, rfl⟩ := h2
  have hi : i < xs.length := by rw [hl]; exact (Array.getElem?_eq_some_iff.1 h1).1
  have := hx i f h1
  rw [hk, List.getElem?_eq_getElem hi] at this
  exact ⟨n, _, this⟩
theorem elem_of {fuel : Nat} {t : TypeId} {cs : List Value} {x : DataW H × List MemPlace} {n : Nat} {e : TypeId} (ht : Tryd.prog.underlying t = some (.array n e)) (h : DataW.trod enc Tryd.prog w base spare held fuel t cs = some x)
    (k : Nat) (hk : Tryd.prog.cellsOf e = k) (i : Nat) (hi : i < n) : ∃ m y, DataW.trod enc Tryd.prog w base spare held m e ((cs.drop (i * k)).take k) = some y := by
  obtain ⟨xs, m, -, -, -, hl, hx⟩ := DataW.trod_array ht h
  have := hx i hi
  rw [hk, List.getElem?_eq_getElem (by omega)] at this
  exact ⟨m, _, this⟩
theorem trod_float {k : FloatKind} {fuel : Nat} {t : TypeId} {cs : List Value} {x : DataW H × List MemPlace} (ht : Tryd.prog.underlying t = some (.float k)) (h : DataW.trod enc Tryd.prog w base spare held fuel t cs = some x) : ∃ n, cs = [.float k n] ∧ (Lit.float k n).wf = true := by
  cases fuel with
  | zero => simp [DataW.trod] at h
  | succ n =>
    unfold DataW.trod at h
    rw [ht] at h
    split at h <;> simp_all
end
theorem at_of {l : List Value} {a : Nat} {v : Value} (h : (l.drop a).take 1 = [v]) : l[a]? = some v := by
  have : ((l.drop a).take 1)[0]? = some v := by rw [h]; rfl
  simpa [List.getElem?_take, List.getElem?_drop] using this
theorem at_part {l : List Value} {a k j : Nat} {v : Value} (h : ((l.drop a).take k)[j]? = some v) : l[a + j]? = some v := by
  rw [List.getElem?_take] at h
  split at h
  · rwa [List.getElem?_drop] at h
  · simp at h
theorem at_part2 {l : List Value} {a k b j i : Nat} {v : Value} (h : ((((l.drop a).take k).drop b).take j)[i]? = some v) : l[a + (b + i)]? = some v := at_part (at_part h)
def nOf : Value → Nat
  | .int _ n => n.toNat
  | .float _ n => n
  | _ => 0
def zOf : Value → Int
  | .int _ n => n
  | _ => 0
def bOf : Value → Bool
  | .bool b => b
  | _ => false
/-- The memory that lies in 136 cells. -/
def memOf (l : List Value) : Mm where
  x := nOf (l.getD 0 undef)
  y := nOf (l.getD 1 undef)
  m := nOf (l.getD 2 undef)
  s := nOf (l.getD 3 undef)
  e := nOf (l.getD 4 undef)
  td := fun i => if i < 16 then bOf (l.getD (5 + i * 2) undef) else false
  tc := fun i => if i < 16 then nOf (l.getD (5 + i * 2 + 1) undef) else 0
  cd := fun i => if i < 16 then bOf (l.getD (37 + i * 3) undef) else false
  cl := fun i => if i < 16 then bOf (l.getD (37 + i * 3 + 1) undef) else false
  cc := fun i => if i < 16 then nOf (l.getD (37 + i * 3 + 2) undef) else 0
  d := fun i => if i < 32 then zOf (l.getD (85 + i) undef) else 0
  r := fun i => if i < 16 then nOf (l.getD (117 + i) undef) else 0
  time := nOf (l.getD 133 undef)
  ran := bOf (l.getD 134 undef)
  fault := bOf (l.getD 135 undef)
theorem getD_of {l : List Value} {i : Nat} {v : Value} (h : l[i]? = some v) : l.getD i undef = v := by simp [List.getD, h]

set_option maxHeartbeats 1000000 in
set_option maxRecDepth 10000 in
theorem mem_read {H : Type} {enc : TypeId × Value → H} {w : World} {base : Nat} {v : Value} {d : DataW H} {pl : List MemPlace}
    (hv : Value.okWide Tryd.prog w .any base 36 v) (h : DataW.Trod enc Tryd.prog w 0 (fun _ => true) true 36 v d pl) : ∃ m : Mm, m.Ok ∧ v = m.val := by
  obtain ⟨cs, rfl, hsz⟩ := okWide_struct Tryd.underlying36 hv
  obtain ⟨fuel, hf⟩ := h
  have h136 : cs.size = 136 := hsz.trans (by kernel_rfl)
  simp only [Value.cells] at hf
  generalize hl : cs.toList = l at hf
  -- the words
  have word : ∀ (i : Nat) (ty : TypeId) (off : Nat) (k : IntKind), (∃ n y, DataW.trod enc Tryd.prog w 0 (fun _ => true) true n ty ((l.drop off).take 1) = some y) → Tryd.prog.underlying ty = some (.int k) → ∃ n, l[off]? = some (.int k n) ∧ (Lit.int k n).wf = true := by
    rintro i ty off k ⟨n, y, hy⟩ hu
    obtain ⟨m, e, -, hw⟩ := DataW.trod_int hu hy
    exact ⟨m, at_of e, hw⟩
  have flag : ∀ (ty : TypeId) (off : Nat), (∃ n y, DataW.trod enc Tryd.prog w 0 (fun _ => true) true n ty ((l.drop off).take 1) = some y) → Tryd.prog.underlying ty = some .bool → ∃ b, l[off]? = some (.bool b) := by
    rintro ty off ⟨n, y, hy⟩ hu
    obtain ⟨m, e, -⟩ := DataW.trod_bool hu hy
    exact ⟨m, at_of e⟩
  obtain ⟨nx, ex, wx⟩ := word 0 _ 0 .u32 (field_of Tryd.underlying36 hf 0 22 0 1 (by kernel_rfl) (by kernel_rfl)) Tryd.underlying22
  obtain ⟨ny, ey, wy⟩ := word 1 _ 1 .u32 (field_of Tryd.underlying36 hf 1 22 1 1 (by kernel_rfl) (by kernel_rfl)) Tryd.underlying22
  obtain ⟨nm, em, wm⟩ := word 2 _ 2 .u64 (field_of Tryd.underlying36 hf 2 23 2 1 (by kernel_rfl) (by kernel_rfl)) Tryd.underlying23
  obtain ⟨ns, es, ws⟩ := word 3 _ 3 .u16 (field_of Tryd.underlying36 hf 3 24 3 1 (by kernel_rfl) (by kernel_rfl)) Tryd.underlying24
  obtain ⟨ne, ee, we⟩ := word 4 _ 4 .u32 (field_of Tryd.underlying36 hf 4 22 4 1 (by kernel_rfl) (by kernel_rfl)) Tryd.underlying22
  obtain ⟨nt, et, wt⟩ := word 9 _ 133 .u32 (field_of Tryd.underlying36 hf 9 22 133 1 (by kernel_rfl) (by kernel_rfl)) Tryd.underlying22
  obtain ⟨br, er⟩ := flag _ 134 (field_of Tryd.underlying36 hf 10 4 134 1 (by kernel_rfl) (by kernel_rfl)) Tryd.underlying4
  obtain ⟨bf, ef⟩ := flag _ 135 (field_of Tryd.underlying36 hf 11 4 135 1 (by kernel_rfl) (by kernel_rfl)) Tryd.underlying4
  obtain ⟨_, _, hT⟩ := field_of Tryd.underlying36 hf 5 27 5 32 (by kernel_rfl) (by kernel_rfl)
  obtain ⟨_, _, hC⟩ := field_of Tryd.underlying36 hf 6 30 37 48 (by kernel_rfl) (by kernel_rfl)
  obtain ⟨_, _, hD⟩ := field_of Tryd.underlying36 hf 7 32 85 32 (by kernel_rfl) (by kernel_rfl)
  obtain ⟨_, _, hR⟩ := field_of Tryd.underlying36 hf 8 34 117 16 (by kernel_rfl) (by kernel_rfl)
  have tims : ∀ i, i < 16 → ∃ b n, l[5 + i * 2]? = some (.bool b) ∧ l[5 + i * 2 + 1]? = some (.int .u16 n) ∧ (Lit.int .u16 n).wf = true := by
    intro i hi
    obtain ⟨_, _, hE⟩ := elem_of Tryd.underlying27 hT 2 (by kernel_rfl) i hi
    obtain ⟨_, _, h0⟩ := field_of Tryd.underlying26 hE 0 4 0 1 (by kernel_rfl) (by kernel_rfl)
    obtain ⟨_, _, h1⟩ := field_of Tryd.underlying26 hE 1 24 1 1 (by kernel_rfl) (by kernel_rfl)
    obtain ⟨b, e0, -⟩ := DataW.trod_bool Tryd.underlying4 h0
    obtain ⟨n, e1, -, hw⟩ := DataW.trod_int Tryd.underlying24 h1
    exact ⟨b, n, by have := at_part2 (at_of e0); rwa [Nat.add_zero] at this, by rw [Nat.add_assoc]; exact at_part2 (at_of e1), hw⟩
  have cnts : ∀ i, i < 16 → ∃ b c n, l[37 + i * 3]? = some (.bool b) ∧ l[37 + i * 3 + 1]? = some (.bool c) ∧ l[37 + i * 3 + 2]? = some (.int .u16 n) ∧ (Lit.int .u16 n).wf = true := by
    intro i hi
    obtain ⟨_, _, hE⟩ := elem_of Tryd.underlying30 hC 3 (by kernel_rfl) i hi
    obtain ⟨_, _, h0⟩ := field_of Tryd.underlying29 hE 0 4 0 1 (by kernel_rfl) (by kernel_rfl)
    obtain ⟨_, _, h1⟩ := field_of Tryd.underlying29 hE 1 4 1 1 (by kernel_rfl) (by kernel_rfl)
    obtain ⟨_, _, h2⟩ := field_of Tryd.underlying29 hE 2 24 2 1 (by kernel_rfl) (by kernel_rfl)
    obtain ⟨b, e0, -⟩ := DataW.trod_bool Tryd.underlying4 h0
    obtain ⟨c, e1, -⟩ := DataW.trod_bool Tryd.underlying4 h1
    obtain ⟨n, e2, -, hw⟩ := DataW.trod_int Tryd.underlying24 h2
    exact ⟨b, c, n, by have := at_part2 (at_of e0); rwa [Nat.add_zero] at this, by rw [Nat.add_assoc]; exact at_part2 (at_of e1), by rw [Nat.add_assoc]; exact at_part2 (at_of e2), hw⟩
  have regs : ∀ i, i < 32 → ∃ n, l[85 + i]? = some (.int .i16 n) ∧ (Lit.int .i16 n).wf = true := by
    intro i hi
    obtain ⟨_, _, hE⟩ := elem_of Tryd.underlying32 hD 1 (by kernel_rfl) i hi
    obtain ⟨n, e, -, hw⟩ := DataW.trod_int Tryd.underlying31 hE
    exact ⟨n, by have := at_part (at_of e); rwa [Nat.mul_one] at this, hw⟩
  have reals : ∀ i, i < 16 → ∃ n, l[117 + i]? = some (.float .f64 n) ∧ (Lit.float .f64 n).wf = true := by
    intro i hi
    obtain ⟨_, _, hE⟩ := elem_of Tryd.underlying34 hR 1 (by kernel_rfl) i hi
    obtain ⟨n, e, hw⟩ := trod_float Tryd.underlying33 hE
    exact ⟨n, by have := at_part (at_of e); rwa [Nat.mul_one] at this, hw⟩
  clear hT hC hD hR hf word flag
  have u32 : ∀ n : Int, (Lit.int .u32 n).wf = true → 0 ≤ n ∧ n < 4294967296 := fun n h => by
    simp only [Lit.wf, Bool.and_eq_true, decide_eq_true_eq] at h
    rw [show IntKind.u32.min = 0 by decide, show IntKind.u32.max = 4294967295 by decide] at h
    omega
  have u64 : ∀ n : Int, (Lit.int .u64 n).wf = true → 0 ≤ n ∧ n < 18446744073709551616 := fun n h => by
    simp only [Lit.wf, Bool.and_eq_true, decide_eq_true_eq] at h
    rw [show IntKind.u64.min = 0 by decide, show IntKind.u64.max = 18446744073709551615 by decide] at h
    omega
  have u16 : ∀ n : Int, (Lit.int .u16 n).wf = true → 0 ≤ n ∧ n < 65536 := fun n h => by
    simp only [Lit.wf, Bool.and_eq_true, decide_eq_true_eq] at h
    rw [show IntKind.u16.min = 0 by decide, show IntKind.u16.max = 65535 by decide] at h
    omega
  have i16 : ∀ n : Int, (Lit.int .i16 n).wf = true → -32768 ≤ n ∧ n ≤ 32767 := fun n h => by
    simp only [Lit.wf, Bool.and_eq_true, decide_eq_true_eq] at h
    rw [show IntKind.i16.min = -32768 by decide, show IntKind.i16.max = 32767 by decide] at h
    omega
  have nat_of : ∀ n : Int, 0 ≤ n → ((n.toNat : Nat) : Int) = n := fun n h => by omega
  refine ⟨memOf l, ⟨?_, ?_, ?_, ?_, ?_, ?_, ?_, ?_, ?_, ?_⟩, ?_⟩
  · show nOf (l.getD 0 undef) < 2 ^ 32
    rw [getD_of ex]; have := u32 _ wx; simp only [nOf]; omega
  · show nOf (l.getD 1 undef) < 2 ^ 32
    rw [getD_of ey]; have := u32 _ wy; simp only [nOf]; omega
  · show nOf (l.getD 2 undef) < 2 ^ 64
    rw [getD_of em]; have := u64 _ wm; simp only [nOf]; omega
  · show nOf (l.getD 3 undef) < 2 ^ 16
    rw [getD_of es]; have := u16 _ ws; simp only [nOf]; omega
  · show nOf (l.getD 4 undef) < 2 ^ 32
    rw [getD_of ee]; have := u32 _ we; simp only [nOf]; omega
  · intro i
    show (if i < 16 then nOf (l.getD (5 + i * 2 + 1) undef) else 0) < 65536
    split
    · rename_i hi
      obtain ⟨b, n, e0, e1, hw⟩ := tims i hi
      rw [getD_of e1]; have := u16 _ hw; simp only [nOf]; omega
    · omega
  · intro i
    show (if i < 16 then nOf (l.getD (37 + i * 3 + 2) undef) else 0) < 65536
    split
    · rename_i hi
      obtain ⟨b, c, n, e0, e1, e2, hw⟩ := cnts i hi
      rw [getD_of e2]; have := u16 _ hw; simp only [nOf]; omega
    · omega
  · intro i
    show -32768 ≤ (if i < 32 then zOf (l.getD (85 + i) undef) else 0) ∧ (if i < 32 then zOf (l.getD (85 + i) undef) else 0) ≤ 32767
    split
    · rename_i hi
      obtain ⟨n, e0, hw⟩ := regs i hi
      rw [getD_of e0]; exact i16 _ hw
    · omega
  · intro i
    show (if i < 16 then nOf (l.getD (117 + i) undef) else 0) < 2 ^ 64
    split
    · rename_i hi
      obtain ⟨n, e0, hw⟩ := reals i hi
      rw [getD_of e0]
      simpa [Lit.wf, nOf] using hw
    · omega
  · show nOf (l.getD 133 undef) < 2 ^ 32
    rw [getD_of et]; have := u32 _ wt; simp only [nOf]; omega
  · unfold Mm.val
    refine congrArg Value.agg ?_
    apply Array.ext_getElem?
    intro i
    by_cases hi : i < 136
    · rw [Mm.at_ _ hi, ← Array.getElem?_toList, hl]
      have eT : ∀ j, j < 32 → l[5 + j]? = some ((memOf l).tcell j) := by
        intro j hj
        obtain ⟨b, n, e0, e1, hw⟩ := tims (j / 2) (by omega)
        unfold Mm.tcell
        split
        · show _ = some (Value.bool (if j / 2 < 16 then bOf (l.getD (5 + j / 2 * 2) undef) else false))
          rw [if_pos (by omega), getD_of e0, show 5 + j = 5 + j / 2 * 2 by omega, e0]; rfl
        · show _ = some (Value.int .u16 ((if j / 2 < 16 then nOf (l.getD (5 + j / 2 * 2 + 1) undef) else 0 : Nat) : Int))
          rw [if_pos (by omega), getD_of e1, show 5 + j = 5 + j / 2 * 2 + 1 by omega, e1]
          simp only [nOf]; rw [nat_of n (u16 _ hw).1]
      have eC : ∀ j, j < 48 → l[37 + j]? = some ((memOf l).ccell j) := by
        intro j hj
        obtain ⟨b, c, n, e0, e1, e2, hw⟩ := cnts (j / 3) (by omega)
        unfold Mm.ccell
        split
        · show _ = some (Value.bool (if j / 3 < 16 then bOf (l.getD (37 + j / 3 * 3) undef) else false))
          rw [if_pos (by omega), getD_of e0, show 37 + j = 37 + j / 3 * 3 by omega, e0]; rfl
        · split
          · show _ = some (Value.bool (if j / 3 < 16 then bOf (l.getD (37 + j / 3 * 3 + 1) undef) else false))
            rw [if_pos (by omega), getD_of e1, show 37 + j = 37 + j / 3 * 3 + 1 by omega, e1]; rfl
          · show _ = some (Value.int .u16 ((if j / 3 < 16 then nOf (l.getD (37 + j / 3 * 3 + 2) undef) else 0 : Nat) : Int))
            rw [if_pos (by omega), getD_of e2, show 37 + j = 37 + j / 3 * 3 + 2 by omega, e2]
            simp only [nOf]; rw [nat_of n (u16 _ hw).1]
      have eD : ∀ j, j < 32 → l[85 + j]? = some ((memOf l).dcell j) := by
        intro j hj
        obtain ⟨n, e0, hw⟩ := regs j hj
        show _ = some (Value.int .i16 (if j < 32 then zOf (l.getD (85 + j) undef) else 0))
        rw [if_pos hj, getD_of e0, e0]; rfl
      have eR : ∀ j, j < 16 → l[117 + j]? = some ((memOf l).rcell j) := by
        intro j hj
        obtain ⟨n, e0, hw⟩ := reals j hj
        show _ = some (Value.float .f64 (if j < 16 then nOf (l.getD (117 + j) undef) else 0))
        rw [if_pos hj, getD_of e0, e0]; rfl
      unfold Mm.cell
      split
      · have : i = 0 ∨ i = 1 ∨ i = 2 ∨ i = 3 ∨ i = 4 := by omega
        rcases this with rfl | rfl | rfl | rfl | rfl
        · show _ = some (Value.int .u32 ((nOf (l.getD 0 undef) : Nat) : Int))
          rw [getD_of ex, ex]; simp only [nOf]; rw [nat_of _ (u32 _ wx).1]
        · show _ = some (Value.int .u32 ((nOf (l.getD 1 undef) : Nat) : Int))
          rw [getD_of ey, ey]; simp only [nOf]; rw [nat_of _ (u32 _ wy).1]
        · show _ = some (Value.int .u64 ((nOf (l.getD 2 undef) : Nat) : Int))
          rw [getD_of em, em]; simp only [nOf]; rw [nat_of _ (u64 _ wm).1]
        · show _ = some (Value.int .u16 ((nOf (l.getD 3 undef) : Nat) : Int))
          rw [getD_of es, es]; simp only [nOf]; rw [nat_of _ (u16 _ ws).1]
        · show _ = some (Value.int .u32 ((nOf (l.getD 4 undef) : Nat) : Int))
          rw [getD_of ee, ee]; simp only [nOf]; rw [nat_of _ (u32 _ we).1]
      · split
        · rw [← eT (i - 5) (by omega), show 5 + (i - 5) = i by omega]
        · split
          · rw [← eC (i - 37) (by omega), show 37 + (i - 37) = i by omega]
          · split
            · rw [← eD (i - 85) (by omega), show 85 + (i - 85) = i by omega]
            · split
              · rw [← eR (i - 117) (by omega), show 117 + (i - 117) = i by omega]
              · split
                · rename_i h1
                  subst h1
                  show _ = some (Value.int .u32 ((nOf (l.getD 133 undef) : Nat) : Int))
                  rw [getD_of et, et]; simp only [nOf]; rw [nat_of _ (u32 _ wt).1]
                · split
                  · rename_i h1
                    subst h1
                    show _ = some (Value.bool (bOf (l.getD 134 undef)))
                    rw [getD_of er, er]; rfl
                  · obtain rfl : i = 135 := by omega
                    show _ = some (Value.bool (bOf (l.getD 135 undef)))
                    rw [getD_of ef, ef]; rfl
    · have h1 : cs[i]? = none := by simp; omega
      have h2 : (memOf l).cells[i]? = none := by simp [cells_size]; omega
      rw [h1, h2]
end Go.Proofs.YtljhpagpohihcabDoor
