/- Nets and arms as data, and how they lie in memory. Helper text: no statement is claimed here. -/
import Derived.Test.YtkkkjhlbkmcjiaaRows
import Derived.WalkKit
import Derived.ProofKit
import Derived.LaidMore
import Derived.OpenShut
import Derived.Below
import Derived.WalkSmall
import Derived.Lib.QuietBelow
import Derived.Deep.QuietTactic
import Derived.BigQuiet
import Derived.Deep.RegionHeld3
import Derived.Deep.WholeRow
namespace Go.Proofs.Ytkkkjhlbkmcjiaa.Tr
open Go.ChangeShapes Go.WideShapes Go.ChangeAt Go.RowKit

theorem last (w : World) (o : Obj) : (w.alloc o).heap[w.heap.size]? = some o := heap_alloc_last w o
theorem one (w : World) (o : Obj) : Below w.heap.size w (w.alloc o) := (Below.refl _ _).alloc (Nat.le_refl _) _
theorem of_one {w w1 : World} {o : Obj} (h : Below (w.alloc o).heap.size (w.alloc o) w1) : Below w.heap.size w w1 := (one w o).trans (h.mono (by simp))
theorem keep2 {V w1 : World} (hb : Below V.heap.size V w1) {b i : Nat} {v : Value} (h : V.cell? ⟨b, i, none⟩ = some v) : w1.cell? ⟨b, i, none⟩ = some v := (hb.cell (p := ⟨b, i, none⟩) (World.block_lt_of_cell? V ⟨b, i, none⟩ h)).trans h
theorem keep1 {V w1 : World} {o : Obj} (hb : Below (V.alloc o).heap.size (V.alloc o) w1) {b i : Nat} {v : Value} (h : V.cell? ⟨b, i, none⟩ = some v) : w1.cell? ⟨b, i, none⟩ = some v :=
  keep2 hb ((World.cell?_alloc_lt _ _ _ (World.block_lt_of_cell? V ⟨b, i, none⟩ h)).trans h)

/-- An operand: kind, number, places. -/
abbrev Ar := Int × Int × Int
/-- A contact or coil: its Op, its operands. -/
abbrev El := Int × List Ar
/-- Nets of a depth below n: kind, contact, kids. -/
def NT : Nat → Type
  | 0 => Empty
  | n + 1 => Int × El × List (NT n)
/-- Arms of a depth below n, their nets of a depth of k at most: net, coils, kids. -/
def AT (k : Nat) : Nat → Type
  | 0 => Empty
  | n + 1 => NT (k + 1) × List El × List (AT k n)
def NT.kind {n : Nat} (t : NT (n + 1)) : Int := t.1
def NT.el {n : Nat} (t : NT (n + 1)) : El := t.2.1
def NT.kids {n : Nat} (t : NT (n + 1)) : List (NT n) := t.2.2
def AT.net {k n : Nat} (a : AT k (n + 1)) : NT (k + 1) := a.1
def AT.coils {k n : Nat} (a : AT k (n + 1)) : List El := a.2.1
def AT.kids {k n : Nat} (a : AT k (n + 1)) : List (AT k n) := a.2.2

/-- What a function gives for the parts of a list, together. -/
def tot {α : Type} (f : α → Nat) (ts : List α) : Nat := (ts.map f).sum
theorem tot_nil {α : Type} (f : α → Nat) : tot f [] = 0 := rfl
theorem tot_cons {α : Type} (f : α → Nat) (t : α) (ts : List α) : tot f (t :: ts) = f t + tot f ts := rfl
theorem tot_app {α : Type} (f : α → Nat) : ∀ (us bs : List α), tot f (us ++ bs) = tot f us + tot f bs
  | [], bs => by simp [tot]
  | a :: us, bs => by rw [List.cons_append, tot_cons, tot_cons, tot_app f us bs]; omega
theorem take_next {α : Type} {ts : List α} {j : Nat} {t : α} (h : ts[j]? = some t) : ts.take (j + 1) = ts.take j ++ [t] := by
  rw [List.take_add_one, h]; rfl
theorem tot_next {α : Type} (f : α → Nat) {ts : List α} {j : Nat} {t : α} (h : ts[j]? = some t) : tot f (ts.take (j + 1)) = tot f (ts.take j) + f t := by
  rw [take_next h, tot_app, tot_cons, tot_nil]; omega
theorem tot_le {α : Type} (f : α → Nat) (ts : List α) (j : Nat) : tot f (ts.take j) ≤ tot f ts := by
  have := tot_app f (ts.take j) (ts.drop j)
  rw [List.take_append_drop] at this
  omega
theorem tot_get {α : Type} (f : α → Nat) {ts : List α} {j : Nat} {t : α} (h : ts[j]? = some t) : f t ≤ tot f ts := by
  have h1 := tot_next f h
  have h2 := tot_le f ts (j + 1)
  omega
theorem tot_mono {α : Type} {f g : α → Nat} : ∀ (ts : List α), (∀ t ∈ ts, f t ≤ g t) → tot f ts ≤ tot g ts
  | [], _ => Nat.le_refl _
  | t :: ts, h => by
    rw [tot_cons, tot_cons]
    have := h t (by simp)
    have := tot_mono ts (fun u hu => h u (by simp [hu]))
    omega

/-- How many values the exact laws count of a contact, net, arm. -/
def zEl (e : El) : Nat := e.2.length
def zEls (es : List El) : Nat := es.length + tot zEl es
def zN : (n : Nat) → NT n → Nat
  | 0, _ => 0
  | n + 1, t => zEl t.el + (t.kids.length + tot (zN n) t.kids)
def zNs (n : Nat) (ts : List (NT n)) : Nat := ts.length + tot (zN n) ts
def zA (k : Nat) : (n : Nat) → AT k n → Nat
  | 0, _ => 0
  | n + 1, a => zN (k + 1) a.net + zEls a.coils + (a.kids.length + tot (zA k n) a.kids)
def zAs (k n : Nat) (us : List (AT k n)) : Nat := us.length + tot (zA k n) us
theorem zN_succ (n : Nat) (t : NT (n + 1)) : zN (n + 1) t = zEl t.el + zNs n t.kids := rfl
theorem zA_succ (k n : Nat) (a : AT k (n + 1)) : zA k (n + 1) a = zN (k + 1) a.net + zEls a.coils + zAs k n a.kids := rfl

/-- A list lies in a row of memory: its header, and its elements, each of sz cells, in a block of which S says that it may be. -/
def SlOf {α : Type} (S : Nat → Prop) (E : Nat → Nat → α → Prop) (sz : Nat) (p : Option Addr) (cap : Nat) (ts : List α) : Prop :=
  (ts.length ≤ cap ∧ ts.length ≤ 9223372036854775807) ∧ (ts = [] ∨ ∃ b off, p = some ⟨b, off, none⟩ ∧ S b ∧ ∀ i t, ts[i]? = some t → E b (off + i * sz) t)
theorem SlOf.conv {α : Type} {S S' : Nat → Prop} {E E' : Nat → Nat → α → Prop} {sz cap : Nat} {p : Option Addr} {ts : List α} (h : SlOf S E sz p cap ts) (hS : ∀ b, S b → S' b)
    (hE : ∀ b o t, S b → t ∈ ts → E b o t → E' b o t) : SlOf S' E' sz p cap ts := by
  obtain ⟨h1, h2⟩ := h
  refine ⟨h1, ?_⟩
  rcases h2 with h2 | ⟨b, off, rfl, hb, h⟩
  · exact .inl h2
  · exact .inr ⟨b, off, rfl, hS b hb, fun i t ht => hE b _ t hb (List.mem_of_getElem? ht) (h i t ht)⟩
theorem SlOf.get {α : Type} {S : Nat → Prop} {E : Nat → Nat → α → Prop} {sz cap : Nat} {p : Option Addr} {ts : List α} (h : SlOf S E sz p cap ts) {j : Nat} {t : α} (ht : ts[j]? = some t) :
    ∃ b off, p = some ⟨b, off, none⟩ ∧ S b ∧ E b (off + j * sz) t := by
  rcases h.2 with h2 | ⟨b, off, rfl, hb, h⟩
  · subst h2; simp at ht
  · exact ⟨b, off, rfl, hb, h j t ht⟩

def ArE (w : World) (b o : Nat) (a : Ar) : Prop := w.cell? ⟨b, o, none⟩ = some (.int .i64 a.1) ∧ w.cell? ⟨b, o + 1, none⟩ = some (.int .i64 a.2.1) ∧ w.cell? ⟨b, o + 2, none⟩ = some (.int .i64 a.2.2)
def ElE (S : Nat → Prop) (w : World) (b o : Nat) (e : El) : Prop :=
  ∃ pa ca, w.cell? ⟨b, o, none⟩ = some (.int .i64 e.1) ∧ w.cell? ⟨b, o + 1, none⟩ = some (.slice pa e.2.length ca) ∧ SlOf S (ArE w) 3 pa ca e.2
def NtE (S : Nat → Prop) (w : World) : (n : Nat) → Nat → Nat → NT n → Prop
  | 0, _, _, _ => False
  | n + 1, b, o, t => ∃ pa ca pk ck, w.cell? ⟨b, o, none⟩ = some (.int .i64 t.kind) ∧ w.cell? ⟨b, o + 1, none⟩ = some (.int .i64 t.el.1) ∧ w.cell? ⟨b, o + 2, none⟩ = some (.slice pa t.el.2.length ca) ∧
      w.cell? ⟨b, o + 3, none⟩ = some (.slice pk t.kids.length ck) ∧ SlOf S (ArE w) 3 pa ca t.el.2 ∧ SlOf S (NtE S w n) 4 pk ck t.kids
def AmE (S : Nat → Prop) (w : World) (k : Nat) : (n : Nat) → Nat → Nat → AT k n → Prop
  | 0, _, _, _ => False
  | n + 1, b, o, a => NtE S w (k + 1) b o a.net ∧ ∃ pc cc pk ck, w.cell? ⟨b, o + 4, none⟩ = some (.slice pc a.coils.length cc) ∧ w.cell? ⟨b, o + 5, none⟩ = some (.slice pk a.kids.length ck) ∧
      SlOf S (ElE S w) 2 pc cc a.coils ∧ SlOf S (AmE S w k n) 6 pk ck a.kids
/-- Values that are passed. -/
def ElV (S : Nat → Prop) (w : World) (v : Value) (e : El) : Prop := ∃ pa ca, v = .agg #[.int .i64 e.1, .slice pa e.2.length ca] ∧ SlOf S (ArE w) 3 pa ca e.2
def NtV (S : Nat → Prop) (w : World) : (n : Nat) → Value → NT n → Prop
  | 0, _, _ => False
  | n + 1, v, t => ∃ pa ca pk ck, v = .agg #[.int .i64 t.kind, .int .i64 t.el.1, .slice pa t.el.2.length ca, .slice pk t.kids.length ck] ∧ SlOf S (ArE w) 3 pa ca t.el.2 ∧ SlOf S (NtE S w n) 4 pk ck t.kids
def AmV (S : Nat → Prop) (w : World) (k : Nat) : (n : Nat) → Value → AT k n → Prop
  | 0, _, _ => False
  | n + 1, v, a => ∃ kd op pa la ca pk lk ck pc cc pq cq, v = .agg #[.int .i64 kd, .int .i64 op, .slice pa la ca, .slice pk lk ck, .slice pc a.coils.length cc, .slice pq a.kids.length cq] ∧ NtV S w (k + 1) (.agg #[.int .i64 kd, .int .i64 op, .slice pa la ca, .slice pk lk ck]) a.net ∧
      SlOf S (ElE S w) 2 pc cc a.coils ∧ SlOf S (AmE S w k n) 6 pq cq a.kids

/-- The blocks of which S speaks are as they were. -/
def Keep (S : Nat → Prop) (w w' : World) : Prop := ∀ b, S b → w'.heap[b]? = w.heap[b]?
theorem Keep.cell {S : Nat → Prop} {w w' : World} (h : Keep S w w') {b i : Nat} (hb : S b) : w'.cell? ⟨b, i, none⟩ = w.cell? ⟨b, i, none⟩ := World.cell?_of_block (w := w) (h b hb)
theorem Keep.of {S : Nat → Prop} {N : Nat} {w w' : World} (h : Below N w w') (hS : ∀ b, S b → b < N) : Keep S w w' := fun b hb => h.block b (hS b hb)
theorem ArE.to {S : Nat → Prop} {w w' : World} (h : Keep S w w') {b o : Nat} (hb : S b) {a : Ar} (hA : ArE w b o a) : ArE w' b o a := by
  unfold ArE
  rw [h.cell hb, h.cell hb, h.cell hb]; exact hA
theorem args_to {S S' : Nat → Prop} {w w' : World} (h : Keep S w w') (hS : ∀ b, S b → S' b) {p : Option Addr} {cap : Nat} {ys : List Ar} (hA : SlOf S (ArE w) 3 p cap ys) : SlOf S' (ArE w') 3 p cap ys :=
  hA.conv hS fun _ _ _ hb _ hE => ArE.to h hb hE
theorem ElE.to {S S' : Nat → Prop} {w w' : World} (h : Keep S w w') (hS : ∀ b, S b → S' b) {b o : Nat} (hb : S b) {e : El} (hE : ElE S w b o e) : ElE S' w' b o e := by
  obtain ⟨pa, ca, h0, h1, h2⟩ := hE
  exact ⟨pa, ca, (h.cell hb).trans h0, (h.cell hb).trans h1, args_to h hS h2⟩
theorem els_to {S S' : Nat → Prop} {w w' : World} (h : Keep S w w') (hS : ∀ b, S b → S' b) {p : Option Addr} {cap : Nat} {es : List El} (hA : SlOf S (ElE S w) 2 p cap es) : SlOf S' (ElE S' w') 2 p cap es :=
  hA.conv hS fun _ _ _ hb _ hE => ElE.to h hS hb hE
theorem NtE.to {S S' : Nat → Prop} {w w' : World} (h : Keep S w w') (hS : ∀ b, S b → S' b) : ∀ (n : Nat) {b o : Nat} (_ : S b) {t : NT n} (_ : NtE S w n b o t), NtE S' w' n b o t
  | 0, _, _, _, _, hE => hE.elim
  | n + 1, b, o, hb, t, hE => by
    obtain ⟨pa, ca, pk, ck, h0, h1, h2, h3, h4, h5⟩ := hE
    exact ⟨pa, ca, pk, ck, (h.cell hb).trans h0, (h.cell hb).trans h1, (h.cell hb).trans h2, (h.cell hb).trans h3, args_to h hS h4, h5.conv hS fun _ _ _ hb' _ hE' => NtE.to h hS n hb' hE'⟩
theorem nets_to {S S' : Nat → Prop} {w w' : World} (h : Keep S w w') (hS : ∀ b, S b → S' b) {n : Nat} {p : Option Addr} {cap : Nat} {ts : List (NT n)} (hA : SlOf S (NtE S w n) 4 p cap ts) : SlOf S' (NtE S' w' n) 4 p cap ts :=
  hA.conv hS fun _ _ _ hb _ hE => NtE.to h hS n hb hE
theorem AmE.to {S S' : Nat → Prop} {w w' : World} (h : Keep S w w') (hS : ∀ b, S b → S' b) {k : Nat} : ∀ (n : Nat) {b o : Nat} (_ : S b) {a : AT k n} (_ : AmE S w k n b o a), AmE S' w' k n b o a
  | 0, _, _, _, _, hE => hE.elim
  | n + 1, b, o, hb, a, hE => by
    obtain ⟨hn, pc, cc, pk, ck, h4, h5, h6, h7⟩ := hE
    exact ⟨NtE.to h hS _ hb hn, pc, cc, pk, ck, (h.cell hb).trans h4, (h.cell hb).trans h5, els_to h hS h6, h7.conv hS fun _ _ _ hb' _ hE' => AmE.to h hS n hb' hE'⟩
theorem arms_to {S S' : Nat → Prop} {w w' : World} (h : Keep S w w') (hS : ∀ b, S b → S' b) {k n : Nat} {p : Option Addr} {cap : Nat} {ts : List (AT k n)} (hA : SlOf S (AmE S w k n) 6 p cap ts) : SlOf S' (AmE S' w' k n) 6 p cap ts :=
  hA.conv hS fun _ _ _ hb _ hE => AmE.to h hS n hb hE
theorem NtV.to {S S' : Nat → Prop} {w w' : World} (h : Keep S w w') (hS : ∀ b, S b → S' b) : ∀ {n : Nat} {v : Value} {t : NT n} (_ : NtV S w n v t), NtV S' w' n v t
  | 0, _, _, hE => hE.elim
  | n + 1, v, t, hE => by
    obtain ⟨pa, ca, pk, ck, rfl, h4, h5⟩ := hE
    exact ⟨pa, ca, pk, ck, rfl, args_to h hS h4, nets_to h hS h5⟩
theorem ElV.to {S S' : Nat → Prop} {w w' : World} (h : Keep S w w') (hS : ∀ b, S b → S' b) {v : Value} {e : El} (hE : ElV S w v e) : ElV S' w' v e := by
  obtain ⟨pa, ca, rfl, h4⟩ := hE
  exact ⟨pa, ca, rfl, args_to h hS h4⟩
theorem AmV.to {S S' : Nat → Prop} {w w' : World} (h : Keep S w w') (hS : ∀ b, S b → S' b) {k : Nat} : ∀ {n : Nat} {v : Value} {a : AT k n} (_ : AmV S w k n v a), AmV S' w' k n v a
  | 0, _, _, hE => hE.elim
  | n + 1, v, a, hE => by
    obtain ⟨kd, op, pa, la, ca, pk, lk, ck, pc, cc, pq, cq, rfl, h3, h4, h5⟩ := hE
    exact ⟨kd, op, pa, la, ca, pk, lk, ck, pc, cc, pq, cq, rfl, h3.to h hS, els_to h hS h4, arms_to h hS h5⟩

theorem NtE.out {S : Nat → Prop} {w : World} : ∀ {n : Nat} {b o : Nat} {t : NT n} (_ : NtE S w n b o t), ∃ kd op pa la ca pk lk ck, w.cell? ⟨b, o, none⟩ = some (.int .i64 kd) ∧ w.cell? ⟨b, o + 1, none⟩ = some (.int .i64 op) ∧
      w.cell? ⟨b, o + 2, none⟩ = some (.slice pa la ca) ∧ w.cell? ⟨b, o + 3, none⟩ = some (.slice pk lk ck) ∧ NtV S w n (.agg #[.int .i64 kd, .int .i64 op, .slice pa la ca, .slice pk lk ck]) t
  | 0, _, _, _, h => h.elim
  | n + 1, b, o, t, h => by
    obtain ⟨pa, ca, pk, ck, h0, h1, h2, h3, h4, h5⟩ := h
    exact ⟨_, _, pa, _, ca, pk, _, ck, h0, h1, h2, h3, pa, ca, pk, ck, rfl, h4, h5⟩
theorem NtE.make {S : Nat → Prop} {w : World} {b o : Nat} {kd op : Int} {pa pk : Option Addr} {la ca lk ck : Nat} : ∀ {n : Nat} {t : NT n} (_ : NtV S w n (.agg #[.int .i64 kd, .int .i64 op, .slice pa la ca, .slice pk lk ck]) t)
      (_ : w.cell? ⟨b, o, none⟩ = some (.int .i64 kd)) (_ : w.cell? ⟨b, o + 1, none⟩ = some (.int .i64 op)) (_ : w.cell? ⟨b, o + 2, none⟩ = some (.slice pa la ca)) (_ : w.cell? ⟨b, o + 3, none⟩ = some (.slice pk lk ck)), NtE S w n b o t
  | 0, _, h, _, _, _, _ => h.elim
  | n + 1, t, h, h0, h1, h2, h3 => by
    obtain ⟨pa', ca', pk', ck', he, h4, h5⟩ := h
    simp only [Value.agg.injEq, Array.mk.injEq, List.cons.injEq, Value.int.injEq, Value.slice.injEq, true_and, and_true] at he
    obtain ⟨rfl, rfl, ⟨rfl, rfl, rfl⟩, rfl, rfl, rfl⟩ := he
    exact ⟨pa, ca, pk, ck, h0, h1, h2, h3, h4, h5⟩
theorem AmE.out {S : Nat → Prop} {w : World} {k : Nat} : ∀ {n : Nat} {b o : Nat} {a : AT k n} (_ : AmE S w k n b o a), ∃ kd op pa la ca pk lk ck pc lc cc pq lq cq, w.cell? ⟨b, o, none⟩ = some (.int .i64 kd) ∧ w.cell? ⟨b, o + 1, none⟩ = some (.int .i64 op) ∧
      w.cell? ⟨b, o + 2, none⟩ = some (.slice pa la ca) ∧ w.cell? ⟨b, o + 3, none⟩ = some (.slice pk lk ck) ∧ w.cell? ⟨b, o + 4, none⟩ = some (.slice pc lc cc) ∧ w.cell? ⟨b, o + 5, none⟩ = some (.slice pq lq cq) ∧
      AmV S w k n (.agg #[.int .i64 kd, .int .i64 op, .slice pa la ca, .slice pk lk ck, .slice pc lc cc, .slice pq lq cq]) a
  | 0, _, _, _, h => h.elim
  | n + 1, b, o, a, h => by
    obtain ⟨hn, pc, cc, pq, cq, h4, h5, h6, h7⟩ := h
    obtain ⟨kd, op, pa, la, ca, pk, lk, ck, h0, h1, h2, h3, hv⟩ := hn.out
    exact ⟨kd, op, pa, la, ca, pk, lk, ck, pc, _, cc, pq, _, cq, h0, h1, h2, h3, h4, h5, kd, op, pa, la, ca, pk, lk, ck, pc, cc, pq, cq, rfl, hv, h6, h7⟩
theorem AmE.make {S : Nat → Prop} {w : World} {b o : Nat} {kd op : Int} {pa pk pc pq : Option Addr} {la ca lk ck lc cc lq cq k : Nat} : ∀ {n : Nat} {t : AT k n} (_ : AmV S w k n (.agg #[.int .i64 kd, .int .i64 op, .slice pa la ca, .slice pk lk ck, .slice pc lc cc, .slice pq lq cq]) t)
      (_ : w.cell? ⟨b, o, none⟩ = some (.int .i64 kd)) (_ : w.cell? ⟨b, o + 1, none⟩ = some (.int .i64 op)) (_ : w.cell? ⟨b, o + 2, none⟩ = some (.slice pa la ca)) (_ : w.cell? ⟨b, o + 3, none⟩ = some (.slice pk lk ck))
      (_ : w.cell? ⟨b, o + 4, none⟩ = some (.slice pc lc cc)) (_ : w.cell? ⟨b, o + 5, none⟩ = some (.slice pq lq cq)), AmE S w k n b o t
  | 0, _, h, _, _, _, _, _, _ => h.elim
  | n + 1, t, h, h0, h1, h2, h3, h4, h5 => by
    obtain ⟨kd', op', pa', la', ca', pk', lk', ck', pc', cc', pq', cq', he, hn, hc, hk⟩ := h
    simp only [Value.agg.injEq, Array.mk.injEq, List.cons.injEq, Value.int.injEq, Value.slice.injEq, true_and, and_true] at he
    obtain ⟨rfl, rfl, ⟨rfl, rfl, rfl⟩, ⟨rfl, rfl, rfl⟩, ⟨rfl, rfl, rfl⟩, rfl, rfl, rfl⟩ := he
    exact ⟨NtE.make hn h0 h1 h2 h3, pc, cc, pq, cq, h4, h5, hc, hk⟩
theorem NtV.parts {S : Nat → Prop} {w : World} : ∀ {n : Nat} {v : Value} {t : NT n} (_ : NtV S w n v t), ∃ kd op pa la ca pk lk ck, v = .agg #[.int .i64 kd, .int .i64 op, .slice pa la ca, .slice pk lk ck]
  | 0, _, _, h => h.elim
  | n + 1, v, t, h => by
    obtain ⟨pa, ca, pk, ck, he, _, _⟩ := h
    exact ⟨_, _, pa, _, ca, pk, _, ck, he⟩
theorem get_lt {α : Type} {ts : List α} {j : Nat} (h : j < ts.length) : ∃ t, ts[j]? = some t := ⟨ts[j], List.getElem?_eq_getElem h⟩
end Go.Proofs.Ytkkkjhlbkmcjiaa.Tr
