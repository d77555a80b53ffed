/- Rows of memory that a call makes and fills. Helper text: no statement is claimed here. -/
import Derived.Test.YtkkkjhlbkmcjiaaQd
import Derived.Laws.MakeOwn
namespace Go.Proofs.Ytkkkjhlbkmcjiaa.Tr
open Go.ChangeShapes Go.WideShapes Go.ChangeAt Go.RowKit

/-- Blocks that were made between two worlds. -/
def New (w w' : World) (b : Nat) : Prop := w.heap.size ≤ b ∧ b < w'.heap.size
theorem New.lt {w w' : World} : ∀ b, New w w' b → b < w'.heap.size := fun _ h => h.2
theorem New.wider {w0 w w1 w2 : World} (h0 : w0.heap.size ≤ w.heap.size) (h1 : w1.heap.size ≤ w2.heap.size) : ∀ b, New w w1 b → New w0 w2 b := fun _ h => ⟨Nat.le_trans h0 h.1, Nat.lt_of_lt_of_le h.2 h1⟩

theorem ElE.wide {S S' : Nat → Prop} {w : World} (hS : ∀ b, S b → S' b) {b o : Nat} {e : El} (hE : ElE S w b o e) : ElE S' w b o e := by
  obtain ⟨pa, ca, h0, h1, h2⟩ := hE
  exact ⟨pa, ca, h0, h1, args_to (fun _ _ => rfl) hS h2⟩
theorem NtE.wide {S S' : Nat → Prop} {w : World} (hS : ∀ b, S b → S' b) {b o : Nat} : ∀ {n : Nat} {t : NT n} (_ : NtE S w n b o t), NtE S' w n b o t
  | 0, _, h => h.elim
  | n + 1, t, h => by
    obtain ⟨pa, ca, pk, ck, h0, h1, h2, h3, h4, h5⟩ := h
    exact ⟨pa, ca, pk, ck, h0, h1, h2, h3, args_to (fun _ _ => rfl) hS h4, nets_to (fun _ _ => rfl) hS h5⟩
theorem AmE.wide {S S' : Nat → Prop} {w : World} (hS : ∀ b, S b → S' b) {b o k : Nat} : ∀ {n : Nat} {t : AT k n} (_ : AmE S w k n b o t), AmE S' w k n b o t
  | 0, _, h => h.elim
  | n + 1, t, h => by
    obtain ⟨hn, pc, cc, pk, ck, h4, h5, h6, h7⟩ := h
    exact ⟨hn.wide hS, pc, cc, pk, ck, h4, h5, els_to (fun _ _ => rfl) hS h6, arms_to (fun _ _ => rfl) hS h7⟩

/-- Values stored one behind the other. -/
def setAll (w : World) (B : Nat) : Nat → List Value → World
  | _, [] => w
  | o, x :: xs => setAll (w.setCell ⟨B, o, none⟩ x) B (o + 1) xs
theorem setAll_row (B : Nat) (T : TypeId) : ∀ (xs : List Value) (w : World) (o : Nat) (cs : Array Value), w.heap[B]? = some (.cells cs T (0, 0)) → o + xs.length ≤ cs.size →
    ∃ cs' : Array Value, (setAll w B o xs).heap[B]? = some (.cells cs' T (0, 0)) ∧ cs'.size = cs.size ∧ (∀ i x, xs[i]? = some x → cs'[o + i]? = some x) ∧ (∀ p, p < o ∨ o + xs.length ≤ p → cs'[p]? = cs[p]?)
  | [], w, o, cs, h, _ => ⟨cs, h, rfl, fun i x hx => by simp at hx, fun _ _ => rfl⟩
  | x :: xs, w, o, cs, h, hl => by
    rw [List.length_cons] at hl
    obtain ⟨cs', h1, h2, h3, h4⟩ := setAll_row B T xs (w.setCell ⟨B, o, none⟩ x) (o + 1) _ (heap_setCell_same w B o cs T x h) (by simp; omega)
    refine ⟨cs', h1, by simpa using h2, fun i y hy => ?_, fun p hp => ?_⟩
    · cases i with
      | zero =>
        simp at hy
        subst hy
        rw [Nat.add_zero, h4 o (by omega), Array.getElem?_setIfInBounds, if_pos rfl, if_pos (by omega)]
      | succ i =>
        have := h3 i y (by simpa using hy)
        rwa [show o + (i + 1) = o + 1 + i by omega]
    · rw [List.length_cons] at hp
      rw [h4 p (by omega), Array.getElem?_setIfInBounds, if_neg (by omega)]
theorem setAll_other (B : Nat) : ∀ (xs : List Value) (w : World) (o b : Nat), b ≠ B → (setAll w B o xs).heap[b]? = w.heap[b]?
  | [], _, _, _, _ => rfl
  | x :: xs, w, o, b, hb => (setAll_other B xs _ _ b hb).trans (Below.heap_setCell w ⟨B, o, none⟩ x b hb)
theorem setAll_size (B : Nat) : ∀ (xs : List Value) (w : World) (o : Nat), (setAll w B o xs).heap.size = w.heap.size
  | [], _, _ => rfl
  | x :: xs, w, o => (setAll_size B xs _ _).trans (by simp [World.setCell])
theorem setAll_below {N B : Nat} {w0 : World} : ∀ (xs : List Value) {w : World} (o : Nat) (_ : Below N w0 w) (_ : N ≤ B), Below N w0 (setAll w B o xs)
  | [], _, _, h, _ => h
  | _ :: xs, _, _, h, hB => setAll_below xs _ (h.setCell (p := ⟨B, _, none⟩) hB _) hB

/-- An element stays itself if its own cells and the later blocks do. -/
def Stab {α : Type} (sz : Nat) (E : World → Nat → Nat → α → Prop) : Prop := ∀ (w1 w2 : World) (B o : Nat) (t : α), w1.heap.size ≤ w2.heap.size →
  (∀ c, c < sz → w2.cell? ⟨B, o + c, none⟩ = w1.cell? ⟨B, o + c, none⟩) → (∀ b, B < b → b < w1.heap.size → w2.heap[b]? = w1.heap[b]?) → E w1 B o t → E w2 B o t
/-- The first j elements of a row are in their places. -/
def Fill {α : Type} (w : World) (B : Nat) (T : TypeId) (sz : Nat) (E : World → Nat → Nat → α → Prop) (ts : List α) (j : Nat) : Prop :=
  ∃ cs : Array Value, w.heap[B]? = some (.cells cs T (0, 0)) ∧ cs.size = ts.length * sz ∧ ∀ i t, i < j → ts[i]? = some t → E w B (i * sz) t
theorem Fill.lt {α : Type} {w : World} {B : Nat} {T : TypeId} {sz : Nat} {E : World → Nat → Nat → α → Prop} {ts : List α} {j : Nat} (h : Fill w B T sz E ts j) : B < w.heap.size := by
  obtain ⟨cs, h1, _⟩ := h
  exact (Array.getElem?_eq_some_iff.1 h1).1
theorem Fill.new {α : Type} (w : World) (M : Array Value) (T : TypeId) (sz : Nat) (E : World → Nat → Nat → α → Prop) (ts : List α) (hM : M.size = ts.length * sz) : Fill (w.alloc (.cells M T)) w.heap.size T sz E ts 0 :=
  ⟨M, last w _, hM, fun i t hi => by omega⟩
theorem Fill.to {α : Type} {w w' : World} {B : Nat} {T : TypeId} {sz : Nat} {E : World → Nat → Nat → α → Prop} {ts : List α} {j : Nat} (hE : Stab sz E) (h : Fill w B T sz E ts j) (hb : Below w.heap.size w w') : Fill w' B T sz E ts j := by
  have hl := h.lt
  obtain ⟨cs, h1, h2, h3⟩ := h
  exact ⟨cs, (hb.block B hl).trans h1, h2, fun i t hi ht => hE w w' B _ t hb.size (fun c _ => hb.cell (p := ⟨B, _, none⟩) hl) (fun b _ hb' => hb.block b hb') (h3 i t hi ht)⟩
theorem Fill.cell {α : Type} {w : World} {B : Nat} {T : TypeId} {sz : Nat} {E : World → Nat → Nat → α → Prop} {ts : List α} {j : Nat} (h : Fill w B T sz E ts j) {k : Nat} (hk : k < ts.length * sz) : ∃ v, w.cell? ⟨B, k, none⟩ = some v ∧ w.frozen? ⟨B, k, none⟩ = false := by
  obtain ⟨cs, h1, h2, _⟩ := h
  exact ⟨cs[k]'(by omega), (cell_of_row _ _ _ _ _ _ h1).trans (by simp [show k < cs.size by omega]), frozen_of_row _ _ _ _ _ h1⟩
theorem Fill.put {α : Type} {w : World} {B : Nat} {T : TypeId} {sz : Nat} {E : World → Nat → Nat → α → Prop} {ts : List α} {j : Nat} {t : α} (hE : Stab sz E) (h : Fill w B T sz E ts j) (ht : ts[j]? = some t) (xs : List Value) (hx : xs.length = sz)
    (hN : ∀ w2 : World, w2.heap.size = w.heap.size → (∀ b, b ≠ B → w2.heap[b]? = w.heap[b]?) → (∀ i x, xs[i]? = some x → w2.cell? ⟨B, j * sz + i, none⟩ = some x) → E w2 B (j * sz) t) : Fill (setAll w B (j * sz) xs) B T sz E ts (j + 1) := by
  obtain ⟨cs, h1, h2, h3⟩ := h
  have hj : j < ts.length := (List.getElem?_eq_some_iff.1 ht).1
  have hjs : j * sz + sz ≤ ts.length * sz := by
    have := Nat.mul_le_mul_right sz (show j + 1 ≤ ts.length from hj)
    rw [Nat.add_mul] at this; omega
  obtain ⟨cs', g1, g2, g3, g4⟩ := setAll_row B T xs w (j * sz) cs h1 (by omega)
  have gz := setAll_size B xs w (j * sz)
  refine ⟨cs', g1, by omega, fun i u hi hu => ?_⟩
  rcases Nat.lt_or_ge i j with hlt | hge
  · refine hE w _ B _ u (by omega) (fun c hc => ?_) (fun b hb _ => setAll_other B xs w _ b (by omega)) (h3 i u hlt hu)
    rw [cell_of_row _ _ _ _ _ _ g1, cell_of_row _ _ _ _ _ _ h1]
    have : i * sz + sz ≤ j * sz := by
      have := Nat.mul_le_mul_right sz (show i + 1 ≤ j from hlt)
      rw [Nat.add_mul] at this; omega
    exact g4 _ (by omega)
  · obtain rfl : i = j := by omega
    obtain rfl : u = t := Option.some.inj (hu.symm.trans ht)
    exact hN _ gz (fun b hb => setAll_other B xs w _ b hb) fun i x hx => (cell_of_row _ _ _ _ _ _ g1).trans (g3 i x hx)
theorem Fill.all {α : Type} {w : World} {B : Nat} {T : TypeId} {sz : Nat} {E : World → Nat → Nat → α → Prop} {ts : List α} (h : Fill w B T sz E ts ts.length) (hl : ts.length ≤ 9223372036854775807) {S : Nat → Prop} {E' : Nat → Nat → α → Prop} (hS : S B) (hE : ∀ o t, t ∈ ts → E w B o t → E' B o t) :
    SlOf S E' sz (some ⟨B, 0, none⟩) ts.length ts := by
  obtain ⟨cs, h1, h2, h3⟩ := h
  refine ⟨⟨Nat.le_refl _, hl⟩, .inr ⟨B, 0, rfl, hS, fun i t ht => ?_⟩⟩
  rw [Nat.zero_add]
  exact hE _ t (List.mem_of_getElem? ht) (h3 i t (List.getElem?_eq_some_iff.1 ht).1 ht)

/-- A struct of the call's own. -/
def OwnL (w : World) (b : Nat) (xs : List Value) : Prop := ∀ i x, xs[i]? = some x → w.cell? ⟨b, i, none⟩ = some x ∧ w.frozen? ⟨b, i, none⟩ = false
theorem OwnL.of_row {w : World} {b : Nat} {xs : List Value} {T : TypeId} (h : w.heap[b]? = some (.cells xs.toArray T (0, 0))) : OwnL w b xs := fun i x hx =>
  ⟨(cell_of_row _ _ _ _ _ _ h).trans (by simpa using hx), frozen_of_row _ _ _ _ _ h⟩
theorem OwnL.new (w : World) (xs : List Value) (T : TypeId) : OwnL (w.alloc (.cells xs.toArray T)) w.heap.size xs := OwnL.of_row (last w _)
theorem OwnL.below {w w' : World} {b : Nat} {xs : List Value} (h : OwnL w b xs) (hb : Below w.heap.size w w') : OwnL w' b xs := fun i x hx => by
  obtain ⟨h1, h2⟩ := h i x hx
  have hlt : b < w.heap.size := World.block_lt_of_cell? w ⟨b, i, none⟩ h1
  rw [hb.cell (p := ⟨b, i, none⟩) hlt, hb.frozen (p := ⟨b, i, none⟩) hlt]
  exact ⟨h1, h2⟩
theorem OwnL.alloc {w : World} {b : Nat} {xs : List Value} (h : OwnL w b xs) (o : Obj) : OwnL (w.alloc o) b xs := h.below (one w o)
theorem OwnL.set {w : World} {b c i : Nat} {v : Value} {xs : List Value} (h : OwnL w b xs) (hc : c ≠ b) : OwnL (w.setCell ⟨c, i, none⟩ v) b xs := fun j x hx => by
  rw [World.cell?_setCell_other w ⟨c, i, none⟩ ⟨b, j, none⟩ _ (by simp <;> omega), World.frozen?_setCell]
  exact h j x hx
theorem OwnL.put {w : World} {b : Nat} {xs : List Value} (h : OwnL w b xs) (i : Nat) (v : Value) : OwnL (w.setCell ⟨b, i, none⟩ v) b (xs.set i v) := fun j x hx => by
  rw [World.frozen?_setCell]
  rw [List.getElem?_set] at hx
  split at hx
  · rename_i hij
    subst hij
    split at hx
    · rename_i hlt
      obtain rfl := Option.some.inj hx
      obtain ⟨y, hy⟩ := get_lt hlt
      obtain ⟨h1, h2⟩ := h i y hy
      exact ⟨World.cell?_setCell_same _ _ _ h1, h2⟩
    · cases hx
  · rename_i hij
    obtain ⟨h1, h2⟩ := h j x hx
    exact ⟨(World.cell?_setCell_other w ⟨b, i, none⟩ ⟨b, j, none⟩ _ (by simp only [ne_eq, Addr.mk.injEq, and_true, true_and]; omega)).trans h1, h2⟩
theorem OwnL.lt {w : World} {b : Nat} {x : Value} {xs : List Value} (h : OwnL w b (x :: xs)) : b < w.heap.size := World.block_lt_of_cell? w ⟨b, 0, none⟩ (h 0 x rfl).1

theorem resArg3 {fn : Func} {W : World} {b p : Nat} {tmps : Array Value} {x y z : Value} (h : fn.results = #[.cell p 33]) (hp : tmps.getD p undef = .pointer (some ⟨b, 0, none⟩))
    (hc : OwnL W b [x, y, z]) : (results fn tmps).run Try.prog W = .ok (.agg #[x, y, z]) W := by
  have h0 := (hc 0 _ rfl).1
  have h1 := (hc 1 _ rfl).1
  have h2 := (hc 2 _ rfl).1
  simp only [results, h]
  simp [go_sem]
  rw [show tmps[p]?.getD undef = .pointer (some ⟨b, 0, none⟩) by simpa [Array.getD_eq_getD_getElem?] using hp]
  simp [go_sem, h0, h1, h2]
theorem resElem2 {fn : Func} {W : World} {b p : Nat} {tmps : Array Value} {x y : Value} (h : fn.results = #[.cell p 49]) (hp : tmps.getD p undef = .pointer (some ⟨b, 0, none⟩))
    (hc : OwnL W b [x, y]) : (results fn tmps).run Try.prog W = .ok (.agg #[x, y]) W := by
  have h0 := (hc 0 _ rfl).1
  have h1 := (hc 1 _ rfl).1
  simp only [results, h]
  simp [go_sem]
  rw [show tmps[p]?.getD undef = .pointer (some ⟨b, 0, none⟩) by simpa [Array.getD_eq_getD_getElem?] using hp]
  simp [go_sem, h0, h1]
theorem resNet4 {fn : Func} {W : World} {b p : Nat} {tmps : Array Value} {x y z u : Value} (h : fn.results = #[.cell p 52]) (hp : tmps.getD p undef = .pointer (some ⟨b, 0, none⟩))
    (hc : OwnL W b [x, y, z, u]) : (results fn tmps).run Try.prog W = .ok (.agg #[x, y, z, u]) W := by
  have h0 := (hc 0 _ rfl).1
  have h1 := (hc 1 _ rfl).1
  have h2 := (hc 2 _ rfl).1
  have h3 := (hc 3 _ rfl).1
  simp only [results, h]
  simp [go_sem]
  rw [show tmps[p]?.getD undef = .pointer (some ⟨b, 0, none⟩) by simpa [Array.getD_eq_getD_getElem?] using hp]
  simp [go_sem, h0, h1, h2, h3]
theorem resArm6 {fn : Func} {W : World} {b p : Nat} {tmps : Array Value} {x y z u v t : Value} (h : fn.results = #[.cell p 55]) (hp : tmps.getD p undef = .pointer (some ⟨b, 0, none⟩))
    (hc : OwnL W b [x, y, z, u, v, t]) : (results fn tmps).run Try.prog W = .ok (.agg #[x, y, z, u, v, t]) W := by
  have h0 := (hc 0 _ rfl).1
  have h1 := (hc 1 _ rfl).1
  have h2 := (hc 2 _ rfl).1
  have h3 := (hc 3 _ rfl).1
  have h4 := (hc 4 _ rfl).1
  have h5 := (hc 5 _ rfl).1
  simp only [results, h]
  simp [go_sem]
  rw [show tmps[p]?.getD undef = .pointer (some ⟨b, 0, none⟩) by simpa [Array.getD_eq_getD_getElem?] using hp]
  simp [go_sem, h0, h1, h2, h3, h4, h5]

theorem iArg : (Try.prog.info? 33).map (fun i => (i.zero, i.size, i.bytes)) = some (some (.agg #[.int .i64 0, .int .i64 0, .int .i64 0]), 3, 24) := by kernel_rfl
theorem iElem : (Try.prog.info? 49).map (fun i => (i.zero, i.size, i.bytes)) = some (some (.agg #[.int .i64 0, .slice none 0 0]), 2, 32) := by kernel_rfl
theorem iNet : (Try.prog.info? 52).map (fun i => (i.zero, i.size, i.bytes)) = some (some (.agg #[.int .i64 0, .int .i64 0, .slice none 0 0, .slice none 0 0]), 4, 64) := by kernel_rfl
theorem iArm : (Try.prog.info? 55).map (fun i => (i.zero, i.size, i.bytes)) = some (some (.agg #[.int .i64 0, .int .i64 0, .slice none 0 0, .slice none 0 0, .slice none 0 0, .slice none 0 0]), 6, 112) := by kernel_rfl
theorem make_any {T E : TypeId} {z : Value} {sz by' : Nat} (hT : Try.prog.underlying T = some (.slice E)) (hi : (Try.prog.info? E).map (fun i => (i.zero, i.size, i.bytes)) = some (some z, sz, by')) (hb : by' ≤ 200) (hs : sz ≤ 10) (n : Nat) (hn : n ≤ 2000000) (w : World) :
    ∃ M : Array Value, M.size = n * sz ∧ (Instr.makeSlice T (.int .i64 (n : Int)) (.int .i64 (n : Int))).run Try.prog w = .ok (.slice (some ⟨w.heap.size, 0, none⟩) n n) (w.alloc (.cells M E)) := by
  obtain ⟨i, hi, hz⟩ := Option.map_eq_some_iff.1 hi
  simp only [Prod.mk.injEq] at hz
  refine ⟨madeCells (Value.cells z) (n * sz), size_madeCells _ _, ?_⟩
  have hbn : n * by' ≤ 2000000 * 200 := Nat.mul_le_mul hn hb
  have hsn : n * sz ≤ 2000000 * 10 := Nat.mul_le_mul hn hs
  have := run_make (P := Try.prog) w T E i _ hT hi hz.1 .i64 .i64 n n (by omega) (Int.le_refl _) (by rw [hz.2.2, Int.mul_comm]; omega) (by omega)
  rw [hz.2.1] at this
  simpa using this
end Go.Proofs.Ytkkkjhlbkmcjiaa.Tr
