/- Trees that came in as arguments. Helper text: no statement is claimed here. -/
import Derived.Test.YtkkkjhlbkmcjiaaQd
import Derived.Deep.Slices
import Derived.Lib.SmallJoins
namespace Go.Proofs.Ytkkkjhlbkmcjiaa.Tr
open Go.ChangeShapes Go.WideShapes Go.ChangeAt Go.RowKit Go.Deep Go.Joins

/-- Blocks that are there. -/
def Old (w : World) (b : Nat) : Prop := b < w.heap.size
/-- The cells of an element lie in a row. -/
def CellsAt (w : World) (b o : Nat) (cs : List Value) : Prop := ∀ c u, cs[c]? = some u → w.cell? ⟨b, o + c, none⟩ = some u
theorem choose_list {α : Type} {R : Nat → α → Prop} : ∀ (len : Nat), (∀ i, i < len → ∃ a, R i a) → ∃ l : List α, l.length = len ∧ ∀ i a, l[i]? = some a → R i a
  | 0, _ => ⟨[], rfl, fun i a h => by simp at h⟩
  | n + 1, h => by
    obtain ⟨l, hl, hR⟩ := choose_list n (fun i hi => h i (by omega))
    obtain ⟨a, ha⟩ := h n (by omega)
    refine ⟨l ++ [a], by simp [hl], fun i b hb => ?_⟩
    rcases Nat.lt_or_ge i n with hi | hi
    · rw [List.getElem?_append_left (by omega)] at hb
      exact hR i b hb
    · rw [List.getElem?_append_right (by omega)] at hb
      have hi0 : i - l.length = 0 := by
        have := (List.getElem?_eq_some_iff.1 hb).1
        simp at this
        omega
      rw [hi0] at hb
      simp at hb
      subst hb
      obtain rfl : i = n := by omega
      exact ha
theorem read_slice {H : Type} {enc : TypeId × Value → H} {w : World} {t e : TypeId} {sz : Nat} (ht : Try.prog.underlying t = some (.slice e)) (hc : Try.prog.cellsOf e = sz) (hsz : 0 < sz) {fuel : Nat} {v : Value} {x : DataW H × List MemPlace}
    (h : DataW.trod enc Try.prog w 0 (fun _ => true) true fuel t [v] = some x) {α : Type} (Q : List Value → α → Prop) (E : Nat → Nat → α → Prop)
    (hQ : ∀ n cs' x', n < fuel → cs'.length = sz → DataW.trod enc Try.prog w 0 (fun _ => true) true n e cs' = some x' → ∃ a, Q cs' a) (hE : ∀ b o cs' a, CellsAt w b o cs' → Q cs' a → E b o a) :
    ∃ p ts cap, v = .slice p ts.length cap ∧ SlOf (Old w) E sz p cap ts := by
  rcases DataW.trod_slice ht h with ⟨hcs, -⟩ | ⟨a, len, cap, elems, rest, n, hn, hcs, -, -, hl, hcm, hlen, hel, -, -⟩
  · simp only [List.cons.injEq, and_true] at hcs
    subst hcs
    exact ⟨none, [], 0, rfl, ⟨Nat.le_refl _, Nat.zero_le _⟩, .inl rfl⟩
  · simp only [List.cons.injEq, and_true] at hcs
    subst hcs
    have each : ∀ i, i < len → ∃ q : α, ∃ cs', w.cells? 0 (a.add (i * sz)) sz = some cs' ∧ Q cs' q := by
      intro i hi
      have h1 := hel i hi
      rw [hc] at h1
      obtain ⟨y, hy⟩ := get_lt (ts := elems) (j := i) (by omega)
      rw [hy] at h1
      obtain ⟨cs', h2, h3⟩ := Option.bind_eq_some_iff.1 h1
      obtain ⟨_, hlen', _⟩ := World.cells?_some h2
      obtain ⟨q, hq⟩ := hQ n cs' y (by omega) hlen' h3
      exact ⟨q, cs', h2, hq⟩
    obtain ⟨l, hll, hf⟩ := choose_list len each
    have hmax : maxLen ≤ 9223372036854775807 := by unfold maxLen; omega
    refine ⟨some a, l, cap, by rw [hll], ⟨by omega, by omega⟩, ?_⟩
    by_cases h0 : len = 0
    · exact .inl (List.length_eq_zero_iff.1 (by omega))
    · obtain ⟨b, off, spot⟩ := a
      obtain ⟨q0, hq0⟩ := get_lt (ts := l) (j := 0) (by omega)
      obtain ⟨cs0, g1, -⟩ := hf 0 q0 hq0
      obtain ⟨_, hlen0, hcell0⟩ := World.cells?_some g1
      have hc0 := hcell0 0 (by omega)
      obtain ⟨u0, hu0⟩ := get_lt (ts := cs0) (j := 0) (by omega)
      rw [hu0] at hc0
      have hspot : spot = none := by simpa [Addr.add] using World.cell?_spot hc0
      subst hspot
      refine .inr ⟨b, off, rfl, World.block_lt_of_cell? w ⟨b, off, none⟩ (by simpa [Addr.add] using hc0), fun i t ht => ?_⟩
      obtain ⟨cs', g2, hq⟩ := hf i t ht
      obtain ⟨_, hlen', hcell⟩ := World.cells?_some g2
      refine hE b _ cs' _ (fun c u hu => ?_) hq
      have hcl : c < sz := by rw [← hlen']; exact (List.getElem?_eq_some_iff.1 hu).1
      have := hcell c hcl
      rw [hu, Go.WideShapes.add_plain, Go.WideShapes.add_plain] at this
      exact this

theorem cInt : Try.prog.cellsOf 3 = 1 := by kernel_rfl
theorem cArg : Try.prog.cellsOf 31 = 3 := by kernel_rfl
theorem cElem : Try.prog.cellsOf 39 = 2 := by kernel_rfl
theorem cNet : Try.prog.cellsOf 42 = 4 := by kernel_rfl
theorem cArm : Try.prog.cellsOf 45 = 6 := by kernel_rfl
theorem cArgs : Try.prog.cellsOf 37 = 1 := by kernel_rfl
theorem cElems : Try.prog.cellsOf 43 = 1 := by kernel_rfl
theorem cNets : Try.prog.cellsOf 40 = 1 := by kernel_rfl
theorem cArms : Try.prog.cellsOf 22 = 1 := by kernel_rfl

theorem list2 {α : Type} {l : List α} (h : l.length = 2) : ∃ a b, l = [a, b] := by
  match l, h with
  | [a, b], _ => exact ⟨a, b, rfl⟩
theorem list3 {α : Type} {l : List α} (h : l.length = 3) : ∃ a b c, l = [a, b, c] := by
  match l, h with
  | [a, b, c], _ => exact ⟨a, b, c, rfl⟩
theorem list4 {α : Type} {l : List α} (h : l.length = 4) : ∃ a b c d, l = [a, b, c, d] := by
  match l, h with
  | [a, b, c, d], _ => exact ⟨a, b, c, d, rfl⟩
theorem list6 {α : Type} {l : List α} (h : l.length = 6) : ∃ a b c d e f, l = [a, b, c, d, e, f] := by
  match l, h with
  | [a, b, c, d, e, f], _ => exact ⟨a, b, c, d, e, f, rfl⟩

theorem arg_cells {H : Type} {enc : TypeId × Value → H} {w : World} {n : Nat} {cs : List Value} {x : DataW H × List MemPlace} (hl : cs.length = 3)
    (h : DataW.trod enc Try.prog w 0 (fun _ => true) true n 31 cs = some x) : ∃ q : Ar, cs = [.int .i64 q.1, .int .i64 q.2.1, .int .i64 q.2.2] := by
  obtain ⟨xs, k, hk, hxy, _, hxl, hf⟩ := DataW.trod_struct Try.underlying31 h
  obtain ⟨v0, v1, v2, rfl⟩ := list3 hl
  obtain ⟨y0, y1, y2, rfl⟩ := list3 (show xs.length = 3 from hxl)
  have g0 := hf 0 _ rfl
  have g1 := hf 1 _ rfl
  have g2 := hf 2 _ rfl
  simp [cInt] at g0 g1 g2
  obtain ⟨a, e0, -, -⟩ := DataW.trod_int Try.underlying3 g0
  obtain ⟨b, e1, -, -⟩ := DataW.trod_int Try.underlying3 g1
  obtain ⟨c, e2, -, -⟩ := DataW.trod_int Try.underlying3 g2
  simp only [List.cons.injEq, and_true] at e0 e1 e2
  subst e0 e1 e2
  exact ⟨(a, b, c), rfl⟩
theorem args_read {H : Type} {enc : TypeId × Value → H} {w : World} {n : Nat} {v : Value} {x : DataW H × List MemPlace} (h : DataW.trod enc Try.prog w 0 (fun _ => true) true n 37 [v] = some x) :
    ∃ p ts cap, v = .slice p (List.length ts) cap ∧ SlOf (Old w) (ArE w) 3 p cap ts :=
  read_slice Try.underlying37 cArg (by omega) h (fun cs (q : Ar) => cs = [.int .i64 q.1, .int .i64 q.2.1, .int .i64 q.2.2]) _ (fun _ _ _ _ hl h' => arg_cells hl h')
    (fun b o cs q hc hq => by subst hq; exact ⟨hc 0 _ rfl, hc 1 _ rfl, hc 2 _ rfl⟩)
theorem elem_cells {H : Type} {enc : TypeId × Value → H} {w : World} {n : Nat} {cs : List Value} {x : DataW H × List MemPlace} (hl : cs.length = 2)
    (h : DataW.trod enc Try.prog w 0 (fun _ => true) true n 39 cs = some x) : ∃ e : El, ∃ pa ca, cs = [.int .i64 e.1, .slice pa e.2.length ca] ∧ SlOf (Old w) (ArE w) 3 pa ca e.2 := by
  obtain ⟨xs, k, hk, hxy, _, hxl, hf⟩ := DataW.trod_struct Try.underlying39 h
  obtain ⟨v0, v1, rfl⟩ := list2 hl
  obtain ⟨y0, y1, rfl⟩ := list2 (show xs.length = 2 from hxl)
  have g0 := hf 0 _ rfl
  have g1 := hf 1 _ rfl
  simp [cInt, cArgs] at g0 g1
  obtain ⟨a, e0, -, -⟩ := DataW.trod_int Try.underlying3 g0
  obtain ⟨p, ts, cap, rfl, hs⟩ := args_read g1
  simp only [List.cons.injEq, and_true] at e0
  subst e0
  exact ⟨(a, ts), p, cap, rfl, hs⟩
theorem elems_read {H : Type} {enc : TypeId × Value → H} {w : World} {n : Nat} {v : Value} {x : DataW H × List MemPlace} (h : DataW.trod enc Try.prog w 0 (fun _ => true) true n 43 [v] = some x) :
    ∃ p ts cap, v = .slice p (List.length ts) cap ∧ SlOf (Old w) (ElE (Old w) w) 2 p cap ts :=
  read_slice Try.underlying43 cElem (by omega) h (fun cs (e : El) => ∃ pa ca, cs = [.int .i64 e.1, .slice pa e.2.length ca] ∧ SlOf (Old w) (ArE w) 3 pa ca e.2) _ (fun _ _ _ _ hl h' => elem_cells hl h')
    (fun b o cs q hc ⟨pa, ca, hq, hs⟩ => by subst hq; exact ⟨pa, ca, hc 0 _ rfl, hc 1 _ rfl, hs⟩)

/-- A net is read out of its cells, for each depth that is no less than the reading's. -/
theorem net_cells {H : Type} {enc : TypeId × Value → H} {w : World} : ∀ (n : Nat) {cs : List Value} {x : DataW H × List MemPlace} (_ : cs.length = 4)
    (_ : DataW.trod enc Try.prog w 0 (fun _ => true) true n 42 cs = some x) (d : Nat) (_ : n ≤ d), ∃ t : NT d, ∃ kd op pa la ca pk lk ck, cs = [.int .i64 kd, .int .i64 op, .slice pa la ca, .slice pk lk ck] ∧ NtV (Old w) w d (.agg #[.int .i64 kd, .int .i64 op, .slice pa la ca, .slice pk lk ck]) t := by
  intro n
  induction n using Nat.strongRecOn with
  | _ n IH =>
    intro cs x hl h d hd
    obtain ⟨xs, k, hk, hxy, _, hxl, hf⟩ := DataW.trod_struct Try.underlying42 h
    obtain ⟨v0, v1, v2, v3, rfl⟩ := list4 hl
    obtain ⟨y0, y1, y2, rfl⟩ := list3 (show xs.length = 3 from hxl)
    have g0 := hf 0 _ rfl
    have g1 := hf 1 _ rfl
    have g2 := hf 2 _ rfl
    simp [cInt, cElem, cNets] at g0 g1 g2
    obtain ⟨a, e0, -, -⟩ := DataW.trod_int Try.underlying3 g0
    obtain ⟨e, pa, ca, he, hs⟩ := elem_cells rfl g1
    simp only [List.cons.injEq, and_true] at e0 he
    obtain ⟨rfl, rfl⟩ := he
    subst e0
    obtain ⟨d', rfl⟩ : ∃ d', d = d' + 1 := ⟨d - 1, by omega⟩
    obtain ⟨pk, ts, ck, rfl, hks⟩ := read_slice Try.underlying40 cNet (by omega) g2
      (fun cs (t : NT d') => ∃ kd op pa la ca pk lk ck, cs = [.int .i64 kd, .int .i64 op, .slice pa la ca, .slice pk lk ck] ∧ NtV (Old w) w d' (.agg #[.int .i64 kd, .int .i64 op, .slice pa la ca, .slice pk lk ck]) t) (NtE (Old w) w d')
      (fun m cs' x' hm hl' h' => IH m (by omega) hl' h' d' (by omega))
      (fun b o cs' t hc ⟨kd, op, pa, la, ca, pk, lk, ck, hq, hv⟩ => by subst hq; exact NtE.make hv (hc 0 _ rfl) (hc 1 _ rfl) (hc 2 _ rfl) (hc 3 _ rfl))
    exact ⟨(a, e, ts), a, e.1, pa, e.2.length, ca, pk, ts.length, ck, rfl, pa, ca, pk, ck, rfl, hs, hks⟩
/-- An arm is read out of its cells. -/
theorem arm_cells {H : Type} {enc : TypeId × Value → H} {w : World} (K : Nat) : ∀ (n : Nat) {cs : List Value} {x : DataW H × List MemPlace} (_ : cs.length = 6)
    (_ : DataW.trod enc Try.prog w 0 (fun _ => true) true n 45 cs = some x) (_ : n ≤ K) (d : Nat) (_ : n ≤ d), ∃ t : AT K d, ∃ kd op pa la ca pk lk ck pc lc cc pq lq cq, cs = [.int .i64 kd, .int .i64 op, .slice pa la ca, .slice pk lk ck, .slice pc lc cc, .slice pq lq cq] ∧
      AmV (Old w) w K d (.agg #[.int .i64 kd, .int .i64 op, .slice pa la ca, .slice pk lk ck, .slice pc lc cc, .slice pq lq cq]) t := by
  intro n
  induction n using Nat.strongRecOn with
  | _ n IH =>
    intro cs x hl h hK d hd
    obtain ⟨xs, k, hk, hxy, _, hxl, hf⟩ := DataW.trod_struct Try.underlying45 h
    obtain ⟨v0, v1, v2, v3, v4, v5, rfl⟩ := list6 hl
    obtain ⟨y0, y1, y2, rfl⟩ := list3 (show xs.length = 3 from hxl)
    have g0 := hf 0 _ rfl
    have g1 := hf 1 _ rfl
    have g2 := hf 2 _ rfl
    simp [cNet, cElems, cArms] at g0 g1 g2
    obtain ⟨tn, kd, op, pa, la, ca, pk, lk, ck, he, hv⟩ := net_cells k rfl g0 (K + 1) (by omega)
    obtain ⟨pc, es, cc, rfl, hcs⟩ := elems_read g1
    simp only [List.cons.injEq, and_true] at he
    obtain ⟨rfl, rfl, rfl, rfl⟩ := he
    obtain ⟨d', rfl⟩ : ∃ d', d = d' + 1 := ⟨d - 1, by omega⟩
    obtain ⟨pq, ts, cq, rfl, hks⟩ := read_slice Try.underlying22 cArm (by omega) g2
      (fun cs (t : AT K d') => ∃ kd op pa la ca pk lk ck pc lc cc pq lq cq, cs = [.int .i64 kd, .int .i64 op, .slice pa la ca, .slice pk lk ck, .slice pc lc cc, .slice pq lq cq] ∧ AmV (Old w) w K d' (.agg #[.int .i64 kd, .int .i64 op, .slice pa la ca, .slice pk lk ck, .slice pc lc cc, .slice pq lq cq]) t) (AmE (Old w) w K d')
      (fun m cs' x' hm hl' h' => IH m (by omega) hl' h' (by omega) d' (by omega))
      (fun b o cs' t hc ⟨kd, op, pa, la, ca, pk, lk, ck, pc, lc, cc, pq, lq, cq, hq, hv⟩ => by subst hq; exact AmE.make hv (hc 0 _ rfl) (hc 1 _ rfl) (hc 2 _ rfl) (hc 3 _ rfl) (hc 4 _ rfl) (hc 5 _ rfl))
    exact ⟨(tn, es, ts), kd, op, pa, la, ca, pk, lk, ck, pc, es.length, cc, pq, ts.length, cq, rfl, kd, op, pa, la, ca, pk, lk, ck, pc, cc, pq, cq, rfl, hv, hcs, hks⟩
set_option maxRecDepth 100000 in
/-- A ladder that came in, for each depth that is great enough. -/
theorem arms_reads {H : Type} {enc : TypeId × Value → H} {w : World} {base : Nat} {v : Value} {d : DataW H} {pl : List MemPlace}
    (hv : Value.okWide Try.prog w .any base 22 v) (h : DataW.Trod enc Try.prog w 0 (fun _ => true) true 22 v d pl) :
    ∃ f : Nat, ∀ K, f ≤ K → ∃ (p : Option Addr) (ts : List (AT K K)) (cap : Nat), v = .slice p ts.length cap ∧ SlOf (Old w) (AmE (Old w) w K K) 6 p cap ts := by
  obtain ⟨a0, len0, cap0, rfl⟩ := okWide_slice Try.underlying22 hv
  obtain ⟨f, hf0⟩ := h
  have hf : DataW.trod enc Try.prog w 0 (fun _ => true) true f 22 [.slice a0 len0 cap0] = some (d, pl) := hf0
  clear hf0
  refine ⟨f, fun K hK => ?_⟩
  obtain ⟨p, ts, cap, he, hs⟩ := read_slice Try.underlying22 cArm (by omega) hf
      (fun cs (t : AT K K) => ∃ kd op pa la ca pk lk ck pc lc cc pq lq cq, cs = [.int .i64 kd, .int .i64 op, .slice pa la ca, .slice pk lk ck, .slice pc lc cc, .slice pq lq cq] ∧ AmV (Old w) w K K (.agg #[.int .i64 kd, .int .i64 op, .slice pa la ca, .slice pk lk ck, .slice pc lc cc, .slice pq lq cq]) t) (AmE (Old w) w K K)
      (fun m cs' x' hm hl' h' => arm_cells K m hl' h' (by omega) K (by omega))
      (fun b o cs' t hc ⟨kd, op, pa, la, ca, pk, lk, ck, pc, lc, cc, pq, lq, cq, hq, hv⟩ => by subst hq; exact AmE.make hv (hc 0 _ rfl) (hc 1 _ rfl) (hc 2 _ rfl) (hc 3 _ rfl) (hc 4 _ rfl) (hc 5 _ rfl))
  exact ⟨p, ts, cap, he, hs⟩
set_option maxRecDepth 100000 in
/-- A ladder that came in. -/
theorem arms_read {H : Type} {enc : TypeId × Value → H} {w : World} {base : Nat} {v : Value} {d : DataW H} {pl : List MemPlace}
    (hv : Value.okWide Try.prog w .any base 22 v) (h : DataW.Trod enc Try.prog w 0 (fun _ => true) true 22 v d pl) :
    ∃ (K n : Nat) (p : Option Addr) (ts : List (AT K n)) (cap : Nat), v = .slice p ts.length cap ∧ SlOf (Old w) (AmE (Old w) w K n) 6 p cap ts := by
  obtain ⟨f, hf⟩ := arms_reads hv h
  obtain ⟨p, ts, cap, he, hs⟩ := hf f (Nat.le_refl _)
  exact ⟨f, f, p, ts, cap, he, hs⟩
end Go.Proofs.Ytkkkjhlbkmcjiaa.Tr
