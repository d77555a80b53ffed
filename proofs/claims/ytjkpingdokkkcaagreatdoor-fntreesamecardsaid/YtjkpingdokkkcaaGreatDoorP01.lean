/- Nets and arms as data, and how they lie in memory. Helper text: no statement is claimed here. -/
import Derived.Test.YtjkpingdokkkcaaGreatDoorRows
import Derived.WalkKit
import Derived.ProofKit
import Derived.LaidMore
import Derived.OpenShut
import Derived.Below
import Derived.WalkSmall
import Derived.Lib.QuietBelow
import Derived.Deep.QuietTactic
import Derived.BigQuiet
import Derived.Deep.RegionHeld3
import Derived.Deep.WholeRow
namespace Go.Proofs.YtjkpingdokkkcaaGreatDoor.Tr
open Go.ChangeShapes Go.WideShapes Go.ChangeAt Go.RowKit

theorem last (w : World) (o : Obj) : (w.alloc o).heap[w.heap.size]? = some o := heap_alloc_last w o
theorem one (w : World) (o : Obj) : Below w.heap.size w (w.alloc o) := (Below.refl _ _).alloc (Nat.le_refl _) _
theorem of_one {w w1 : World} {o : Obj} (h : Below (w.alloc o).heap.size (w.alloc o) w1) : Below w.heap.size w w1 := (one w o).trans (h.mono (by simp))
theorem keep2 {V w1 : World} (hb : Below V.heap.size V w1) {b i : Nat} {v : Value} (h : V.cell? ⟨b, i, none⟩ = some v) : w1.cell? ⟨b, i, none⟩ = some v := (hb.cell (p := ⟨b, i, none⟩) (World.block_lt_of_cell? V ⟨b, i, none⟩ h)).trans h
theorem keep1 {V w1 : World} {o : Obj} (hb : Below (V.alloc o).heap.size (V.alloc o) w1) {b i : Nat} {v : Value} (h : V.cell? ⟨b, i, none⟩ = some v) : w1.cell? ⟨b, i, none⟩ = some v :=
  keep2 hb ((World.cell?_alloc_lt _ _ _ (World.block_lt_of_cell? V ⟨b, i, none⟩ h)).trans h)

/-- An operand: kind, number, places. -/
abbrev Ar := Int × Int × Int
/-- A contact or coil: its Op, its operands. -/
abbrev El := Int × List Ar
/-- Nets of a depth below n: kind, contact, kids. -/
def NT : Nat → Type
  | 0 => Empty
  | n + 1 => Int × El × List (NT n)
/-- Arms of a depth below n, their nets of a depth of k at most: net, coils, kids. -/
def AT (k : Nat) : Nat → Type
  | 0 => Empty
  | n + 1 => NT (k + 1) × List El × List (AT k n)
def NT.kind {n : Nat} (t : NT (n + 1)) : Int := t.1
def NT.el {n : Nat} (t : NT (n + 1)) : El := t.2.1
def NT.kids {n : Nat} (t : NT (n + 1)) : List (NT n) := t.2.2
def AT.net {k n : Nat} (a : AT k (n + 1)) : NT (k + 1) := a.1
def AT.coils {k n : Nat} (a : AT k (n + 1)) : List El := a.2.1
def AT.kids {k n : Nat} (a : AT k (n + 1)) : List (AT k n) := a.2.2

/-- What a function gives for the parts of a list, together. -/
def tot {α : Type} (f : α → Nat) (ts : List α) : Nat := (ts.map f).sum
theorem tot_nil {α : Type} (f : α → Nat) : tot f [] = 0 := rfl
theorem tot_cons {α : Type} (f : α → Nat) (t : α) (ts : List α) : tot f (t :: ts) = f t + tot f ts := rfl
theorem tot_app {α : Type} (f : α → Nat) : ∀ (us bs : List α), tot f (us ++ bs) = tot f us + tot f bs
  | [], bs => by simp [tot]
  | a :: us, bs => by rw [List.cons_append, tot_cons, tot_cons, tot_app f us bs]; omega
theorem take_next {α : Type} {ts : List α} {j : Nat} {t : α} (h : ts[j]? = some t) : ts.take (j + 1) = ts.take j ++ [t] := by
  rw [List.take_add_one, h]; rfl
theorem tot_next {α : Type} (f : α → Nat) {ts : List α} {j : Nat} {t : α} (h : ts[j]? = some t) : tot f (ts.take (j + 1)) = tot f (ts.take j) + f t := by
  rw [take_next h, tot_app, tot_cons, tot_nil]; omega
theorem tot_le {α : Type} (f : α → Nat) (ts : List α) (j : Nat) : tot f (ts.take j) ≤ tot f ts := by
  have := tot_app f (ts.take j) (ts.drop j)
  rw [List.take_append_drop] at this
  omega
theorem tot_get {α : Type} (f : α → Nat) {ts : List α} {j : Nat} {t : α} (h : ts[j]? = some t) : f t ≤ tot f ts := by
  have h1 := tot_next f h
  have h2 := tot_le f ts (j + 1)
  omega
theorem tot_mono {α : Type} {f g : α → Nat} : ∀ (ts : List α), (∀ t ∈ ts, f t ≤ g t) → tot f ts ≤ tot g ts
  | [], _ => Nat.le_refl _
  | t :: ts, h => by
    rw [tot_cons, tot_cons]
    have := h t (by simp)
    have := tot_mono ts (fun u hu => h u (by simp [hu]))
    omega

/-- How many values the exact laws count of a contact, net, arm. -/
def zEl (e : El) : Nat := e.2.length
def zEls (es : List El) : Nat := es.length + tot zEl es
def zN : (n : Nat) → NT n → Nat
  | 0, _ => 0
  | n + 1, t => zEl t.el + (t.kids.length + tot (zN n) t.kids)
def zNs (n : Nat) (ts : List (NT n)) : Nat := ts.length + tot (zN n) ts
def zA (k : Nat) : (n : Nat) → AT k n → Nat
  | 0, _ => 0
  | n + 1, a => zN (k + 1) a.net + zEls a.coils + (a.kids.length + tot (zA k n) a.kids)
def zAs (k n : Nat) (us : List (AT k n)) : Nat := us.length + tot (zA k n) us
theorem zN_succ (n : Nat) (t : NT (n + 1)) : zN (n + 1) t = zEl t.el + zNs n t.kids := rfl
theorem zA_succ (k n : Nat) (a : AT k (n + 1)) : zA k (n + 1) a = zN (k + 1) a.net + zEls a.coils + zAs k n a.kids := rfl

/-- A list lies in a row of memory: its header, and its elements, each of sz cells, in a block of which S says that it may be. -/
def SlOf {α : Type} (S : Nat → Prop) (E : Nat → Nat → α → Prop) (sz : Nat) (p : Option Addr) (cap : Nat) (ts : List α) : Prop :=
  (ts.length ≤ cap ∧ ts.length ≤ 9223372036854775807) ∧ (ts = [] ∨ ∃ b off, p = some ⟨b, off, none⟩ ∧ S b ∧ ∀ i t, ts[i]? = some t → E b (off + i * sz) t)
theorem SlOf.conv {α : Type} {S S' : Nat → Prop} {E E' : Nat → Nat → α → Prop} {sz cap : Nat} {p : Option Addr} {ts : List α} (h : SlOf S E sz p cap ts) (hS : ∀ b, S b → S' b)
    (hE : ∀ b o t, S b → t ∈ ts → E b o t → E' b o t) : SlOf S' E' sz p cap ts := by
  obtain ⟨h1, h2⟩ := h
  refine ⟨h1, ?_⟩
  rcases h2 with h2 | ⟨b, off, rfl, hb, h⟩
  · exact .inl h2
  · exact .inr ⟨b, off, rfl, hS b hb, fun i t ht => hE b _ t hb (List.mem_of_getElem? ht) (h i t ht)⟩
theorem SlOf.get {α : Type} {S : Nat → Prop} {E : Nat → Nat → α → Prop} {sz cap : Nat} {p : Option Addr} {ts : List α} (h : SlOf S E sz p cap ts) {j : Nat} {t : α} (ht : ts[j]? = some t) :
    ∃ b off, p = some ⟨b, off, none⟩ ∧ S b ∧ E b (off + j * sz) t := by
  rcases h.2 with h2 | ⟨b, off, rfl, hb, h⟩
  · subst h2; simp at ht
  · exact ⟨b, off, rfl, hb, h j t ht⟩

def ArE (w : World) (b o : Nat) (a : Ar) : Prop := w.cell? ⟨b, o, none⟩ = some (.int .i64 a.1) ∧ w.cell? ⟨b, o + 1, none⟩ = some (.int .i64 a.2.1) ∧ w.cell? ⟨b, o + 2, none⟩ = some (.int .i64 a.2.2)
def ElE (S : Nat → Prop) (w : World) (b o : Nat) (e : El) : Prop :=
  ∃ pa ca, w.cell? ⟨b, o, none⟩ = some (.int .i64 e.1) ∧ w.cell? ⟨b, o + 1, none⟩ = some (.slice pa e.2.length ca) ∧ SlOf S (ArE w) 3 pa ca e.2
def NtE (S : Nat → Prop) (w : World) : (n : Nat) → Nat → Nat → NT n → Prop
  | 0, _, _, _ => False
  | n + 1, b, o, t => ∃ pa ca pk ck, w.cell? ⟨b, o, none⟩ = some (.int .i64 t.kind) ∧ w.cell? ⟨b, o + 1, none⟩ = some (.int .i64 t.el.1) ∧ w.cell? ⟨b, o + 2, none⟩ = some (.slice pa t.el.2.length ca) ∧
      w.cell? ⟨b, o + 3, none⟩ = some (.slice pk t.kids.length ck) ∧ SlOf S (ArE w) 3 pa ca t.el.2 ∧ SlOf S (NtE S w n) 4 pk ck t.kids
def AmE (S : Nat → Prop) (w : World) (k : Nat) : (n : Nat) → Nat → Nat → AT k n → Prop
  | 0, _, _, _ => False
  | n + 1, b, o, a => NtE S w (k + 1) b o a.net ∧ ∃ pc cc pk ck, w.cell? ⟨b, o + 4, none⟩ = some (.slice pc a.coils.length cc) ∧ w.cell? ⟨b, o + 5, none⟩ = some (.slice pk a.kids.length ck) ∧
      SlOf S (ElE S w) 2 pc cc a.coils ∧ SlOf S (AmE S w k n) 6 pk ck a.kids
/-- Values that are passed. -/
def ElV (S : Nat → Prop) (w : World) (v : Value) (e : El) : Prop := ∃ pa ca, v = .agg #[.int .i64 e.1, .slice pa e.2.length ca] ∧ SlOf S (ArE w) 3 pa ca e.2
def NtV (S : Nat → Prop) (w : World) : (n : Nat) → Value → NT n → Prop
  | 0, _, _ => False
  | n + 1, v, t => ∃ pa ca pk ck, v = .agg #[.int .i64 t.kind, .int .i64 t.el.1, .slice pa t.el.2.length ca, .slice pk t.kids.length ck] ∧ SlOf S (ArE w) 3 pa ca t.el.2 ∧ SlOf S (NtE S w n) 4 pk ck t.kids
def AmV (S : Nat → Prop) (w : World) (k : Nat) : (n : Nat) → Value → AT k n → Prop
  | 0, _, _ => False
  | n + 1, v, a => ∃ kd op pa la ca pk lk ck pc cc pq cq, v = .agg #[.int .i64 kd, .int .i64 op, .slice pa la ca, .slice pk lk ck, .slice pc a.coils.length cc, .slice pq a.kids.length cq] ∧ NtV S w (k + 1) (.agg #[.int .i64 kd, .int .i64 op, .slice pa la ca, .slice pk lk ck]) a.net ∧
      SlOf S (ElE S w) 2 pc cc a.coils ∧ SlOf S (AmE S w k n) 6 pq cq a.kids

/-- The blocks of which S speaks are as they were. -/
def Keep (S : Nat → Prop) (w w' : World) : Prop := ∀ b, S b → w'.heap[b]? = w.heap[b]?
theorem Keep.cell {S : Nat → Prop} {w w' : World} (h : Keep S w w') {b i : Nat} (hb : S b) : w'.cell? ⟨b, i, none⟩ = w.cell? ⟨b, i, none⟩ := World.cell?_of_block (w := w) (h b hb)
theorem Keep.of {S : Nat → Prop} {N : Nat} {w w' : World} (h : Below N w w') (hS : ∀ b, S b → b < N) : Keep S w w' := fun b hb => h.block b (hS b hb)
theorem ArE.to {S : Nat → Prop} {w w' : World} (h : Keep S w w') {b o : Nat} (hb : S b) {a : Ar} (hA : ArE w b o a) : ArE w' b o a := by
  unfold ArE
  rw [h.cell hb, h.cell hb, h.cell hb]; exact hA
theorem args_to {S S' : Nat → Prop} {w w' : World} (h : Keep S w w') (hS : ∀ b, S b → S' b) {p : Option Addr} {cap : Nat} {ys : List Ar} (hA : SlOf S (ArE w) 3 p cap ys) : SlOf S' (ArE w') 3 p cap ys :=
  hA.conv hS fun _ _ _ hb _ hE => ArE.to h hb hE
theorem ElE.to {S S' : Nat → Prop} {w w' : World} (h : Keep S w w') (hS : ∀ b, S b → S' b) {b o : Nat} (hb : S b) {e : El} (hE : ElE S w b o e) : ElE S' w' b o e := by
  obtain ⟨pa, ca, h0, h1, h2⟩ := hE
  exact ⟨pa, ca, (h.cell hb).trans h0, (h.cell hb).trans h1, args_to h hS h2⟩
theorem els_to {S S' : Nat → Prop} {w w' : World} (h : Keep S w w') (hS : ∀ b, S b → S' b) {p : Option Addr} {cap : Nat} {es : List El} (hA : SlOf S (ElE S w) 2 p cap es) : SlOf S' (ElE S' w') 2 p cap es :=
  hA.conv hS fun _ _ _ hb _ hE => ElE.to h hS hb hE
theorem NtE.to {S S' : Nat → Prop} {w w' : World} (h : Keep S w w') (hS : ∀ b, S b → S' b) : ∀ (n : Nat) {b o : Nat} (_ : S b) {t : NT n} (_ : NtE S w n b o t), NtE S' w' n b o t
  | 0, _, _, _, _, hE => hE.elim
  | n + 1, b, o, hb, t, hE => by
    obtain ⟨pa, ca, pk, ck, h0, h1, h2, h3, h4, h5⟩ := hE
    exact ⟨pa, ca, pk, ck, (h.cell hb).trans h0, (h.cell hb).trans h1, (h.cell hb).trans h2, (h.cell hb).trans h3, args_to h hS h4, h5.conv hS fun _ _ _ hb' _ hE' => NtE.to h hS n hb' hE'⟩
theorem nets_to {S S' : Nat → Prop} {w w' : World} (h : Keep S w w') (hS : ∀ b, S b → S' b) {n : Nat} {p : Option Addr} {cap : Nat} {ts : List (NT n)} (hA : SlOf S (NtE S w n) 4 p cap ts) : SlOf S' (NtE S' w' n) 4 p cap ts :=
  hA.conv hS fun _ _ _ hb _ hE => NtE.to h hS n hb hE
theorem AmE.to {S S' : Nat → Prop} {w w' : World} (h : Keep S w w') (hS : ∀ b, S b → S' b) {k : Nat} : ∀ (n : Nat) {b o : Nat} (_ : S b) {a : AT k n} (_ : AmE S w k n b o a), AmE S' w' k n b o a
  | 0, _, _, _, _, hE => hE.elim
  | n + 1, b, o, hb, a, hE => by
    obtain ⟨hn, pc, cc, pk, ck, h4, h5, h6, h7⟩ := hE
    exact ⟨NtE.to h hS _ hb hn, pc, cc, pk, ck, (h.cell hb).trans h4, (h.cell hb).trans h5, els_to h hS h6, h7.conv hS fun _ _ _ hb' _ hE' => AmE.to h hS n hb' hE'⟩
theorem arms_to {S S' : Nat → Prop} {w w' : World} (h : Keep S w w') (hS : ∀ b, S b → S' b) {k n : Nat} {p : Option Addr} {cap : Nat} {ts : List (AT k n)} (hA : SlOf S (AmE S w k n) 6 p cap ts) : SlOf S' (AmE S' w' k n) 6 p cap ts :=
  hA.conv hS fun _ _ _ hb _ hE => AmE.to h hS n hb hE
theorem NtV.to {S S' : Nat → Prop} {w w' : World} (h : Keep S w w') (hS : ∀ b, S b → S' b) : ∀ {n : Nat} {v : Value} {t : NT n} (_ : NtV S w n v t), NtV S' w' n v t
  | 0, _, _, hE => hE.elim
  | n + 1, v, t, hE => by
    obtain ⟨pa, ca, pk, ck, rfl, h4, h5⟩ := hE
    exact ⟨pa, ca, pk, ck, rfl, args_to h hS h4, nets_to h hS h5⟩
theorem ElV.to {S S' : Nat → Prop} {w w' : World} (h : Keep S w w') (hS : ∀ b, S b → S' b) {v : Value} {e : El} (hE : ElV S w v e) : ElV S' w' v e := by
  obtain ⟨pa, ca, rfl, h4⟩ := hE
  exact ⟨pa, ca, rfl, args_to h hS h4⟩
theorem AmV.to {S S' : Nat → Prop} {w w' : World} (h : Keep S w w') (hS : ∀ b, S b → S' b) {k : Nat} : ∀ {n : Nat} {v : Value} {a : AT k n} (_ : AmV S w k n v a), AmV S' w' k n v a
  | 0, _, _, hE => hE.elim
  | n + 1, v, a, hE => by
    obtain ⟨kd, op, pa, la, ca, pk, lk, ck, pc, cc, pq, cq, rfl, h3, h4, h5⟩ := hE
    exact ⟨kd, op, pa, la, ca, pk, lk, ck, pc, cc, pq, cq, rfl, h3.to h hS, els_to h hS h4, arms_to h hS h5⟩

theorem NtE.out {S : Nat → Prop} {w : World} : ∀ {n : Nat} {b o : Nat} {t : NT n} (_ : NtE S w n b o t), ∃ kd op pa la ca pk lk ck, w.cell? ⟨b, o, none⟩ = some (.int .i64 kd) ∧ w.cell? ⟨b, o + 1, none⟩ = some (.int .i64 op) ∧
      w.cell? ⟨b, o + 2, none⟩ = some (.slice pa la ca) ∧ w.cell? ⟨b, o + 3, none⟩ = some (.slice pk lk ck) ∧ NtV S w n (.agg #[.int .i64 kd, .int .i64 op, .slice pa la ca, .slice pk lk ck]) t
  | 0, _, _, _, h => h.elim
  | n + 1, b, o, t, h => by
    obtain ⟨pa, ca, pk, ck, h0, h1, h2, h3, h4, h5⟩ := h
    exact ⟨_, _, pa, _, ca, pk, _, ck, h0, h1, h2, h3, pa, ca, pk, ck, rfl, h4, h5⟩
theorem NtE.make {S : Nat → Prop} {w : World} {b o : Nat} {kd op : Int} {pa pk : Option Addr} {la ca lk ck : Nat} : ∀ {n : Nat} {t : NT n} (_ : NtV S w n (.agg #[.int .i64 kd, .int .i64 op, .slice pa la ca, .slice pk lk ck]) t)
      (_ : w.cell? ⟨b, o, none⟩ = some (.int .i64 kd)) (_ : w.cell? ⟨b, o + 1, none⟩ = some (.int .i64 op)) (_ : w.cell? ⟨b, o + 2, none⟩ = some (.slice pa la ca)) (_ : w.cell? ⟨b, o + 3, none⟩ = some (.slice pk lk ck)), NtE S w n b o t
  | 0, _, h, _, _, _, _ => h.elim
  | n + 1, t, h, h0, h1, h2, h3 => by
    obtain ⟨pa', ca', pk', ck', he, h4, h5⟩ := h
    simp only [Value.agg.injEq, Array.mk.injEq, List.cons.injEq, Value.int.injEq, Value.slice.injEq, true_and, and_true] at he
    obtain ⟨rfl, rfl, ⟨rfl, rfl, rfl⟩, rfl, rfl, rfl⟩ := he
    exact ⟨pa, ca, pk, ck, h0, h1, h2, h3, h4, h5⟩
theorem AmE.out {S : Nat → Prop} {w : World} {k : Nat} : ∀ {n : Nat} {b o : Nat} {a : AT k n} (_ : AmE S w k n b o a), ∃ kd op pa la ca pk lk ck pc lc cc pq lq cq, w.cell? ⟨b, o, none⟩ = some (.int .i64 kd) ∧ w.cell? ⟨b, o + 1, none⟩ = some (.int .i64 op) ∧
      w.cell? ⟨b, o + 2, none⟩ = some (.slice pa la ca) ∧ w.cell? ⟨b, o + 3, none⟩ = some (.slice pk lk ck) ∧ w.cell? ⟨b, o + 4, none⟩ = some (.slice pc lc cc) ∧ w.cell? ⟨b, o + 5, none⟩ = some (.slice pq lq cq) ∧
      AmV S w k n (.agg #[.int .i64 kd, .int .i64 op, .slice pa la ca, .slice pk lk ck, .slice pc lc cc, .slice pq lq cq]) a
  | 0, _, _, _, h => h.elim
  | n + 1, b, o, a, h => by
    obtain ⟨hn, pc, cc, pq, cq, h4, h5, h6, h7⟩ := h
    obtain ⟨kd, op, pa, la, ca, pk, lk, ck, h0, h1, h2, h3, hv⟩ := hn.out
    exact ⟨kd, op, pa, la, ca, pk, lk, ck, pc, _, cc, pq, _, cq, h0, h1, h2, h3, h4, h5, kd, op, pa, la, ca, pk, lk, ck, pc, cc, pq, cq, rfl, hv, h6, h7⟩
theorem AmE.make {S : Nat → Prop} {w : World} {b o : Nat} {kd op : Int} {pa pk pc pq : Option Addr} {la ca lk ck lc cc lq cq k : Nat} : ∀ {n : Nat} {t : AT k n} (_ : AmV S w k n (.agg #[.int .i64 kd, .int .i64 op, .slice pa la ca, .slice pk lk ck, .slice pc lc cc, .slice pq lq cq]) t)
      (_ : w.cell? ⟨b, o, none⟩ = some (.int .i64 kd)) (_ : w.cell? ⟨b, o + 1, none⟩ = some (.int .i64 op)) (_ : w.cell? ⟨b, o + 2, none⟩ = some (.slice pa la ca)) (_ : w.cell? ⟨b, o + 3, none⟩ = some (.slice pk lk ck))
      (_ : w.cell? ⟨b, o + 4, none⟩ = some (.slice pc lc cc)) (_ : w.cell? ⟨b, o + 5, none⟩ = some (.slice pq lq cq)), AmE S w k n b o t
  | 0, _, h, _, _, _, _, _, _ => h.elim
  | n + 1, t, h, h0, h1, h2, h3, h4, h5 => by
    obtain ⟨kd', op', pa', la', ca', pk', lk', ck', pc', cc', pq', cq', he, hn, hc, hk⟩ := h
    simp only [Value.agg.injEq, Array.mk.injEq, List.cons.injEq, Value.int.injEq, Value.slice.injEq, true_and, and_true] at he
    obtain ⟨rfl, rfl, ⟨rfl, rfl, rfl⟩, ⟨rfl, rfl, rfl⟩, ⟨rfl, rfl, rfl⟩, rfl, rfl, rfl⟩ := he
    exact ⟨NtE.make hn h0 h1 h2 h3, pc, cc, pq, cq, h4, h5, hc, hk⟩
theorem NtV.parts {S : Nat → Prop} {w : World} : ∀ {n : Nat} {v : Value} {t : NT n} (_ : NtV S w n v t), ∃ kd op pa la ca pk lk ck, v = .agg #[.int .i64 kd, .int .i64 op, .slice pa la ca, .slice pk lk ck]
  | 0, _, _, h => h.elim
  | n + 1, v, t, h => by
    obtain ⟨pa, ca, pk, ck, he, _, _⟩ := h
    exact ⟨_, _, pa, _, ca, pk, _, ck, he⟩
theorem get_lt {α : Type} {ts : List α} {j : Nat} (h : j < ts.length) : ∃ t, ts[j]? = some t := ⟨ts[j], List.getElem?_eq_getElem h⟩
end Go.Proofs.YtjkpingdokkkcaaGreatDoor.Tr

/- Whether two contacts, nets, arms are the same: mathematics, and the program's treeSameElem. Helper text: no statement is claimed here. -/
namespace Go.Proofs.YtjkpingdokkkcaaGreatDoor.Tr
open Go.ChangeShapes Go.WideShapes Go.ChangeAt Go.RowKit

/-- Two lists are the same, part by part. -/
def eqL {α : Type} (f : α → α → Bool) : List α → List α → Bool
  | [], [] => true
  | a :: l, b :: m => f a b && eqL f l m
  | _, _ => false
theorem eqL_len {α : Type} {f : α → α → Bool} : ∀ {l m : List α}, l.length ≠ m.length → eqL f l m = false
  | [], [], h => absurd rfl h
  | [], _ :: _, _ => rfl
  | _ :: _, [], _ => rfl
  | a :: l, b :: m, h => by
    rw [List.length_cons, List.length_cons] at h
    rw [eqL, eqL_len (by omega), Bool.and_false]
theorem eqL_yes {α : Type} {f : α → α → Bool} : ∀ {l m : List α}, l.length = m.length → (∀ (i : Nat) (a b : α), l[i]? = some a → m[i]? = some b → f a b = true) → eqL f l m = true
  | [], [], _, _ => rfl
  | [], _ :: _, h, _ => by simp at h
  | _ :: _, [], h, _ => by simp at h
  | a :: l, b :: m, h, hf => by
    rw [List.length_cons, List.length_cons] at h
    rw [eqL, hf 0 a b rfl rfl, eqL_yes (by omega) (fun i x y hx hy => hf (i + 1) x y (by simpa using hx) (by simpa using hy)), Bool.true_and]
theorem eqL_no {α : Type} {f : α → α → Bool} : ∀ {l m : List α} (i : Nat) {a b : α}, l[i]? = some a → m[i]? = some b → f a b = false → eqL f l m = false
  | [], _, i, _, _, h, _, _ => by simp at h
  | _ :: _, [], i, _, _, _, h, _ => by simp at h
  | x :: l, y :: m, 0, a, b, h, h', hf => by
    simp at h h'
    subst h h'
    rw [eqL, hf, Bool.false_and]
  | x :: l, y :: m, i + 1, a, b, h, h', hf => by
    rw [eqL, eqL_no i (by simpa using h) (by simpa using h') hf, Bool.and_false]
/-- The first j parts of two lists are the same. -/
def UpTo {α : Type} (f : α → α → Bool) (l m : List α) (j : Nat) : Prop := ∀ (i : Nat) (a b : α), i < j → l[i]? = some a → m[i]? = some b → f a b = true
theorem UpTo.zero {α : Type} {f : α → α → Bool} {l m : List α} : UpTo f l m 0 := fun i a b h => by omega
theorem UpTo.next {α : Type} {f : α → α → Bool} {l m : List α} {j : Nat} {x y : α} (h : UpTo f l m j) (hx : l[j]? = some x) (hy : m[j]? = some y) (hf : f x y = true) : UpTo f l m (j + 1) := fun i a b hi ha hb => by
  rcases Nat.lt_or_ge i j with hlt | hge
  · exact h i a b hlt ha hb
  · obtain rfl : i = j := by omega
    obtain rfl := Option.some.inj (ha.symm.trans hx)
    obtain rfl := Option.some.inj (hb.symm.trans hy)
    exact hf
theorem UpTo.all {α : Type} {f : α → α → Bool} {l m : List α} (h : UpTo f l m l.length) (hl : l.length = m.length) : eqL f l m = true :=
  eqL_yes hl fun i a b ha hb => h i a b (List.getElem?_eq_some_iff.1 ha).1 ha hb
def eqAr (a b : Ar) : Bool := decide (a.1 = b.1) && decide (a.2.1 = b.2.1) && decide (a.2.2 = b.2.2)
def eqE (a b : El) : Bool := decide (a.1 = b.1) && eqL eqAr a.2 b.2
def eqN : (n : Nat) → NT n → NT n → Bool
  | 0, _, _ => true
  | n + 1, a, b => decide (a.kind = b.kind) && eqE a.el b.el && eqL (eqN n) a.kids b.kids
def eqA (k : Nat) : (n : Nat) → AT k n → AT k n → Bool
  | 0, _, _ => true
  | n + 1, a, b => eqN (k + 1) a.net b.net && eqL eqE a.coils b.coils && eqL (eqA k n) a.kids b.kids

theorem neq_arg (a0 a1 a2 b0 b1 b2 : Int) (w : World) : (binOp .neq 27 (.agg #[.int .i64 a0, .int .i64 a1, .int .i64 a2]) (.agg #[.int .i64 b0, .int .i64 b1, .int .i64 b2])).run Tryz.prog w = .ok (.bool (!eqAr (a0, a1, a2) (b0, b1, b2))) w := by
  by_cases h0 : a0 = b0
  · by_cases h1 : a1 = b1
    · by_cases h2 : a2 = b2
      · simp [go_sem, eqAr, h0, h1, h2]
      · simp [go_sem, eqAr, h0, h1, h2]
    · simp [go_sem, eqAr, h0, h1]
  · simp [go_sem, eqAr, h0]
set_option maxHeartbeats 1000000 in
theorem iEqual_any {S S2 : Nat → Prop} {w : World} (hSw : ∀ b, S b → b < w.heap.size) (hSw2 : ∀ b, S2 b → b < w.heap.size) (p p2 : Option Addr) (cap cap2 : Nat) (es fs : List Ar) (hV : SlOf S (ArE w) 3 p cap es) (hV2 : SlOf S2 (ArE w) 3 p2 cap2 fs) :
    Calls Tryz.prog 34 #[.slice p es.length cap, .slice p2 fs.length cap2] w fun r w' => r = .returned (.bool (eqL eqAr es fs)) ∧ Below w.heap.size w w' := by
  have HV : Hid (SlOf S (ArE w) 3 p cap es) := hV
  have HV2 : Hid (SlOf S2 (ArE w) 3 p2 cap2 fs) := hV2
  have HSw : Hid (∀ b, S b → b < w.heap.size) := hSw
  have HSw2 : Hid (∀ b, S2 b → b < w.heap.size) := hSw2
  obtain ⟨⟨hl1, hl2⟩, -⟩ := hV
  obtain ⟨⟨hl3, hl4⟩, -⟩ := hV2
  clear hSw hSw2
  obtain ⟨R, hR⟩ : ∃ R : Bool, R = eqL eqAr es fs := ⟨_, rfl⟩
  rw [← hR]
  have HR : Hid (R = eqL eqAr es fs) := hR
  clear hR
  by_cases hlen : es.length = fs.length
  · have HL : Hid (es.length = fs.length) := hlen
    rw [← hlen]
    rw [← hlen] at hl3
    clear hlen hl4
    go_enter Tryz.func34, Tryz.ntmps34
    go_wp2
    go_loopw [13] (fun d w' => ∃ j : Nat, j ≤ es.length ∧ d = .int .i64 (j : Int) ∧ Hid (UpTo eqAr es fs j) ∧ Hid (Below w.heap.size w w')) (fun d _ => es.length - (intOf d).toNat)
    case atStart => exact ⟨0, by omega, rfl, UpTo.zero, Below.refl _ _⟩
    case round =>
      obtain ⟨j, hj, rfl, HP, HB⟩ := hrel
      rename_i wr
      by_cases hlt : j < es.length
      · have hlt' : (j : Int) < (es.length : Int) := by omega
        obtain ⟨t, ht⟩ := get_lt hlt
        obtain ⟨u, hu⟩ := get_lt (ts := fs) (j := j) (HL.out ▸ hlt)
        obtain ⟨b, off, rfl, hb, c0, c1, c2⟩ := (args_to (Keep.of HB.out HSw.out) (fun _ h => h) HV.out).get ht
        obtain ⟨b', off', rfl, hb', d0, d1, d2⟩ := (args_to (Keep.of HB.out HSw2.out) (fun _ h => h) HV2.out).get hu
        obtain ⟨t0, t1, t2⟩ := t
        obtain ⟨u0, u1, u2⟩ := u
        have k0 := cell_regrown c0
        have k1 := cell_regrown c1
        have k2 := cell_regrown c2
        have q0 := cell_regrown d0
        have q1 := cell_regrown d1
        have q2 := cell_regrown d2
        have hnq := neq_arg t0 t1 t2 u0 u1 u2
        have HT : Hid (es[j]? = some (t0, t1, t2)) := ht
        have HU : Hid (fs[j]? = some (u0, u1, u2)) := hu
        clear ht hu
        cases hq : eqAr (t0, t1, t2) (u0, u1, u2) with
        | true =>
          have HQ : Hid (eqAr (t0, t1, t2) (u0, u1, u2) = true) := hq
          rw [hq] at hnq
          clear hq
          go_wp2
          refine wp_region_quiet_below (by kernel_rfl) (by kernel_rfl) ?_
          repeat (first | go_big_quiet_step (fail) | quiet_step (fail))
          refine wpQuiet_nil ?_
          intro _ hw'
          obtain ⟨⟨dq, osq⟩, hw''⟩ := hw'
          subst hw''
          have HBq : Hid (Below w.heap.size w (Sort.grow (redrawn wr dq) osq)) := HB.out.trans ((below_regrown _ dq osq).mono HB.out.size)
          clear k0 k1 k2 q0 q1 q2 c0 c1 c2 d0 d1 d2 hnq
          generalize Sort.grow (redrawn wr dq) osq = wq at *
          go_wp2
          exact ⟨⟨j + 1, by omega, by go_num, HP.out.next HT.out HU.out HQ.out, HBq⟩, by simp [intOf]; omega⟩
        | false =>
          have HR1 : Hid (R = false) := HR.out.trans (eqL_no j HT.out HU.out hq)
          rw [hq] at hnq
          clear hq
          go_wp2
          refine wp_region_quiet_below (by kernel_rfl) (by kernel_rfl) ?_
          repeat (first | go_big_quiet_step (fail) | quiet_step (fail))
          refine wpQuiet_nil ?_
          intro _ hw'
          obtain ⟨⟨dq, osq⟩, hw''⟩ := hw'
          subst hw''
          have HBq : Hid (Below w.heap.size w (Sort.grow (redrawn wr dq) osq)) := HB.out.trans ((below_regrown _ dq osq).mono HB.out.size)
          clear k0 k1 k2 q0 q1 q2 c0 c1 c2 d0 d1 d2 hnq
          generalize Sort.grow (redrawn wr dq) osq = wq at *
          go_wp2
          go_ret
          exact ⟨by rw [HR1.out]; rfl, HBq.out⟩
      · obtain rfl : j = es.length := by omega
        have HR1 : Hid (R = true) := HR.out.trans (HP.out.all HL.out)
        go_wp2
        go_ret
        exact ⟨by rw [HR1.out]; rfl, HB.out⟩
  · have hlen' : ¬ (es.length : Int) = (fs.length : Int) := by omega
    have HR1 : Hid (R = false) := HR.out.trans (eqL_len hlen)
    go_enter Tryz.func34, Tryz.ntmps34
    go_wp2
    go_ret
    exact ⟨by rw [HR1.out]; rfl, Below.refl _ _⟩
end Go.Proofs.YtjkpingdokkkcaaGreatDoor.Tr

/- The program's treeSameElem, treeSameNet, treeIsNone. Helper text: no statement is claimed here. -/
namespace Go.Proofs.YtjkpingdokkkcaaGreatDoor.Tr
open Go.ChangeShapes Go.WideShapes Go.ChangeAt Go.RowKit

theorem of_two' {w w1 : World} {o1 o2 : Obj} (h : Below ((w.alloc o1).alloc o2).heap.size ((w.alloc o1).alloc o2) w1) : Below w.heap.size w w1 := of_one (of_one h)
theorem two' (w : World) (o1 o2 : Obj) : Below w.heap.size w ((w.alloc o1).alloc o2) := (one _ _).alloc (by simp) _
set_option maxHeartbeats 1000000 in
theorem iElem_any {S S2 : Nat → Prop} {w : World} (hSw : ∀ b, S b → b < w.heap.size) (hSw2 : ∀ b, S2 b → b < w.heap.size) (v v2 : Value) (e e2 : El) (hV : ElV S w v e) (hV2 : ElV S2 w v2 e2) :
    Calls Tryz.prog 19 #[v, v2] w fun r w' => r = .returned (.bool (eqE e e2)) ∧ Below w.heap.size w w' := by
  obtain ⟨pa, ca, rfl, hA⟩ := hV
  obtain ⟨pb, cb, rfl, hA2⟩ := hV2
  have HC : Hid (∀ W, Below w.heap.size w W → Calls Tryz.prog 34 #[.slice pa e.2.length ca, .slice pb e2.2.length cb] W fun r w' => r = .returned (.bool (eqL eqAr e.2 e2.2)) ∧ Below W.heap.size W w') :=
    fun W hW => iEqual_any (S := S) (S2 := S2) (fun b hb => Nat.lt_of_lt_of_le (hSw b hb) hW.size) (fun b hb => Nat.lt_of_lt_of_le (hSw2 b hb) hW.size) pa pb ca cb e.2 e2.2 (args_to (Keep.of hW hSw) (fun _ h => h) hA) (args_to (Keep.of hW hSw2) (fun _ h => h) hA2)
  unfold eqE
  clear hSw hSw2 hA hA2
  generalize eqL eqAr e.2 e2.2 = R at *
  generalize e.2.length = la at *
  generalize e2.2.length = lb at *
  generalize e.1 = op at *
  generalize e2.1 = op2 at *
  by_cases h : op = op2
  · subst h
    rw [decide_eq_true rfl, Bool.true_and]
    go_enter Tryz.func19, Tryz.ntmps19
    go_wp2_with fail
    refine (HC.out _ (two' _ _ _)).mono ?_
    rintro r w1 ⟨rfl, hb1⟩
    have HB1 : Hid (Below w.heap.size w w1) := of_two' hb1
    clear hb1
    cases R
    all_goals go_wp2
    all_goals go_ret
    all_goals exact ⟨rfl, HB1.out⟩
  · rw [decide_eq_false h, Bool.false_and]
    go_enter Tryz.func19, Tryz.ntmps19
    go_wp2
    go_ret
    exact ⟨rfl, two' _ _ _⟩

/-- The cell in which treeSameNet keeps its own function. -/
def CloN (B : Nat) (w : World) : Prop := w.heap[B]? = some (.cells #[.func (.func 32) #[] #[.pointer (some ⟨B, 0, none⟩)]] 53 (0, 0))
theorem CloN.lt {B : Nat} {w : World} (h : CloN B w) : B < w.heap.size := (Array.getElem?_eq_some_iff.1 h).1
theorem CloN.to {B : Nat} {w w' : World} (h : CloN B w) (hb : Below w.heap.size w w') : CloN B w' := (hb.block B h.lt).trans h
def SameN (n : Nat) : Prop := ∀ (S S2 : Nat → Prop) (w : World) (_ : ∀ b, S b → b < w.heap.size) (_ : ∀ b, S2 b → b < w.heap.size) (B : Nat) (_ : CloN B w) (v v2 : Value) (t t2 : NT n) (_ : NtV S w n v t) (_ : NtV S2 w n v2 t2),
    Calls Tryz.prog 32 #[v, v2, .pointer (some ⟨B, 0, none⟩)] w fun r w' => r = .returned (.bool (eqN n t t2)) ∧ Below w.heap.size w w'

set_option maxHeartbeats 1000000 in
theorem iNets_any {S S2 : Nat → Prop} {w : World} (hSw : ∀ b, S b → b < w.heap.size) (hSw2 : ∀ b, S2 b → b < w.heap.size) (n : Nat) (IH : Hid (SameN n)) (B : Nat) (hB : CloN B w) (p p2 : Option Addr) (cap cap2 : Nat) (es fs : List (NT n)) (hV : SlOf S (NtE S w n) 4 p cap es) (hV2 : SlOf S2 (NtE S2 w n) 4 p2 cap2 fs) :
    Calls Tryz.prog 33 #[.slice p es.length cap, .slice p2 fs.length cap2, .func (.func 32) #[] #[.pointer (some ⟨B, 0, none⟩)]] w
      fun r w' => r = .returned (.bool (eqL (eqN n) es fs)) ∧ Below w.heap.size w w' := by
  have HV : Hid (SlOf S (NtE S w n) 4 p cap es) := hV
  have HV2 : Hid (SlOf S2 (NtE S2 w n) 4 p2 cap2 fs) := hV2
  have HSw : Hid (∀ b, S b → b < w.heap.size) := hSw
  have HSw2 : Hid (∀ b, S2 b → b < w.heap.size) := hSw2
  have HCl : Hid (CloN B w) := hB
  obtain ⟨⟨hl1, hl2⟩, -⟩ := hV
  obtain ⟨⟨hl3, hl4⟩, -⟩ := hV2
  clear hSw hSw2 hB
  obtain ⟨R, hR⟩ : ∃ R : Bool, R = eqL (eqN n) es fs := ⟨_, rfl⟩
  rw [← hR]
  have HR : Hid (R = eqL (eqN n) es fs) := hR
  clear hR
  by_cases hlen : es.length = fs.length
  · have HL : Hid (es.length = fs.length) := hlen
    rw [← hlen]
    rw [← hlen] at hl3
    clear hlen hl4
    go_enter Tryz.func33, Tryz.ntmps33
    go_wp2
    go_loopw [17] (fun d w' => ∃ j : Nat, j ≤ es.length ∧ d = .int .i64 (j : Int) ∧ Hid (UpTo (eqN n) es fs j) ∧ Hid (Below w.heap.size w w')) (fun d _ => es.length - (intOf d).toNat)
    case atStart => exact ⟨0, by omega, rfl, UpTo.zero, Below.refl _ _⟩
    case round =>
      obtain ⟨j, hj, rfl, HP, HB⟩ := hrel
      rename_i wr
      by_cases hlt : j < es.length
      · have hlt' : (j : Int) < (es.length : Int) := by omega
        obtain ⟨t, ht⟩ := get_lt hlt
        obtain ⟨u, hu⟩ := get_lt (ts := fs) (j := j) (HL.out ▸ hlt)
        obtain ⟨b, off, rfl, hb, hE⟩ := (nets_to (Keep.of HB.out HSw.out) (fun _ h => h) HV.out).get ht
        obtain ⟨b', off', rfl, hb', hE2⟩ := (nets_to (Keep.of HB.out HSw2.out) (fun _ h => h) HV2.out).get hu
        obtain ⟨kd, op, pa, la, ca, pk, lk, ck, c0, c1, c2, c3, hN⟩ := hE.out
        obtain ⟨kd2, op2, pa2, la2, ca2, pk2, lk2, ck2, d0, d1, d2, d3, hN2⟩ := hE2.out
        have hbl : b < wr.heap.size := World.block_lt_of_cell? _ _ c0
        have hbl2 : b' < wr.heap.size := World.block_lt_of_cell? _ _ d0
        have HC : Hid (∀ W, Below wr.heap.size wr W → Calls Tryz.prog 32 #[.agg #[.int .i64 kd, .int .i64 op, .slice pa la ca, .slice pk lk ck], .agg #[.int .i64 kd2, .int .i64 op2, .slice pa2 la2 ca2, .slice pk2 lk2 ck2], .pointer (some ⟨B, 0, none⟩)] W
            fun r w' => r = .returned (.bool (eqN n t u)) ∧ Below W.heap.size W w') := fun W hW => by
          have hS1 : ∀ b, S b → b < wr.heap.size := fun b hb => Nat.lt_of_lt_of_le (HSw.out b hb) HB.out.size
          have hS2 : ∀ b, S2 b → b < wr.heap.size := fun b hb => Nat.lt_of_lt_of_le (HSw2.out b hb) HB.out.size
          exact IH.out S S2 W (fun b hb => Nat.lt_of_lt_of_le (hS1 b hb) hW.size) (fun b hb => Nat.lt_of_lt_of_le (hS2 b hb) hW.size) B ((HCl.out.to HB.out).to hW) _ _ t u (hN.to (Keep.of hW hS1) (fun _ h => h)) (hN2.to (Keep.of hW hS2) (fun _ h => h))
        have HT : Hid (es[j]? = some t) := ht
        have HU : Hid (fs[j]? = some u) := hu
        clear ht hu hN hN2 hE hE2
        cases hq : eqN n t u with
        | true =>
          have HQ : Hid (eqN n t u = true) := hq
          rw [hq] at HC
          clear hq HR
          go_wp2_with fail
          refine (HC.out _ (two' _ _ _)).mono ?_
          rintro r w1 ⟨rfl, hb1⟩
          have HBq : Hid (Below w.heap.size w w1) := HB.out.trans ((of_two' hb1).mono HB.out.size)
          clear hb1 c0 c1 c2 c3 d0 d1 d2 d3 HC
          go_wp2
          exact ⟨⟨j + 1, by omega, by go_num, HP.out.next HT.out HU.out HQ.out, HBq⟩, by simp [intOf]; omega⟩
        | false =>
          have HR1 : Hid (R = false) := HR.out.trans (eqL_no j HT.out HU.out hq)
          rw [hq] at HC
          clear hq
          go_wp2_with fail
          refine (HC.out _ (two' _ _ _)).mono ?_
          rintro r w1 ⟨rfl, hb1⟩
          have HBq : Hid (Below w.heap.size w w1) := HB.out.trans ((of_two' hb1).mono HB.out.size)
          clear hb1 c0 c1 c2 c3 d0 d1 d2 d3 HC
          go_wp2
          go_ret
          exact ⟨by rw [HR1.out]; rfl, HBq.out⟩
      · obtain rfl : j = es.length := by omega
        have HR1 : Hid (R = true) := HR.out.trans (HP.out.all HL.out)
        go_wp2
        go_ret
        exact ⟨by rw [HR1.out]; rfl, HB.out⟩
  · have hlen' : ¬ (es.length : Int) = (fs.length : Int) := by omega
    have HR1 : Hid (R = false) := HR.out.trans (eqL_len hlen)
    go_enter Tryz.func33, Tryz.ntmps33
    go_wp2
    go_ret
    exact ⟨by rw [HR1.out]; rfl, Below.refl _ _⟩
end Go.Proofs.YtjkpingdokkkcaaGreatDoor.Tr

/- The document's TreeSize. Helper text: no statement is claimed here. -/
namespace Go.Proofs.YtjkpingdokkkcaaGreatDoor.Tr
open Go.ChangeShapes Go.WideShapes Go.ChangeAt Go.RowKit

/-- How many nets there are, from one on. -/
def pN : (n : Nat) → NT n → Nat
  | 0, _ => 0
  | n + 1, t => 1 + tot (pN n) t.kids
/-- A net is none. -/
def isNone {n : Nat} (t : NT (n + 1)) : Bool := decide (t.kind = 0) && decide (t.el.1 = 0) && decide (t.el.2.length = 0) && decide (t.kids.length = 0)
/-- How many parts an arm has. -/
def pA (k : Nat) : (n : Nat) → AT k n → Nat
  | 0, _ => 0
  | n + 1, a => 1 + a.coils.length + (if isNone a.net then 0 else pN (k + 1) a.net) + tot (pA k n) a.kids
theorem tot_one {α : Type} (f : α → Nat) : ∀ ts : List α, tot (fun t => 1 + f t) ts = ts.length + tot f ts
  | [] => rfl
  | t :: ts => by rw [tot_cons, tot_cons, tot_one f ts, List.length_cons]; omega
theorem tot_two {α : Type} (f : α → Nat) : ∀ ts : List α, tot (fun t => 2 + 2 * f t) ts = 2 * ts.length + 2 * tot f ts
  | [] => rfl
  | t :: ts => by rw [tot_cons, tot_cons, tot_two f ts, List.length_cons]; omega
theorem pN_le : ∀ (n : Nat) (t : NT n), pN n t ≤ 1 + zN n t
  | 0, t => Empty.elim t
  | n + 1, t => by
    have h := tot_mono t.kids (f := pN n) (g := fun u => 1 + zN n u) (fun u _ => pN_le n u)
    rw [tot_one] at h
    show 1 + tot (pN n) t.kids ≤ 1 + (zEl t.el + (t.kids.length + tot (zN n) t.kids))
    omega
theorem pA_le (k : Nat) : ∀ (n : Nat) (a : AT k n), pA k n a ≤ 2 + 2 * zA k n a
  | 0, t => Empty.elim t
  | n + 1, a => by
    have h := tot_mono a.kids (f := pA k n) (g := fun u => 2 + 2 * zA k n u) (fun u _ => pA_le k n u)
    rw [tot_two] at h
    have h2 := pN_le (k + 1) a.net
    show 1 + a.coils.length + (if isNone a.net then 0 else pN (k + 1) a.net) + tot (pA k n) a.kids ≤ 2 + 2 * (zN (k + 1) a.net + (a.coils.length + tot zEl a.coils) + (a.kids.length + tot (zA k n) a.kids))
    split <;> omega
theorem pN_succ (n : Nat) (t : NT (n + 1)) : pN (n + 1) t = 1 + tot (pN n) t.kids := rfl
theorem pA_succ (k n : Nat) (a : AT k (n + 1)) : pA k (n + 1) a = 1 + a.coils.length + (if isNone a.net then 0 else pN (k + 1) a.net) + tot (pA k n) a.kids := rfl

set_option maxHeartbeats 1000000 in
theorem sNone_any (kd op : Int) (pa : Option Addr) (la ca : Nat) (pk : Option Addr) (lk ck : Nat) (w : World) :
    Calls Tryz.prog 66 #[.agg #[.int .i64 kd, .int .i64 op, .slice pa la ca, .slice pk lk ck]] w fun r w' => r = .returned (.bool (decide (kd = 0) && decide (op = 0) && decide (la = 0) && decide (lk = 0))) ∧ Below w.heap.size w w' := by
  by_cases h1 : kd = 0
  · by_cases h2 : op = 0
    · by_cases h3 : la = 0
      · by_cases h4 : lk = 0
        · subst h1 h2 h3 h4
          go_enter Tryz.func66, Tryz.ntmps66
          go_wp2
          go_ret
          exact ⟨rfl, one _ _⟩
        · subst h1 h2 h3
          rw [decide_eq_false h4]
          have h4' : ((lk : Int) == 0) = false := by simpa using h4
          go_enter Tryz.func66, Tryz.ntmps66
          go_wp2
          go_ret
          exact ⟨rfl, one _ _⟩
      · subst h1 h2
        rw [decide_eq_false h3]
        have h3' : ¬ (la : Int) = 0 := by omega
        go_enter Tryz.func66, Tryz.ntmps66
        go_wp2
        go_ret
        exact ⟨rfl, one _ _⟩
    · subst h1
      rw [decide_eq_false h2]
      go_enter Tryz.func66, Tryz.ntmps66
      go_wp2
      go_ret
      exact ⟨rfl, one _ _⟩
  · rw [decide_eq_false h1]
    go_enter Tryz.func66, Tryz.ntmps66
    go_wp2
    go_ret
    exact ⟨rfl, one _ _⟩

/-- The document's count of nets of a depth below n. -/
def SpN (n : Nat) : Prop := ∀ (S : Nat → Prop) (w : World) (_ : ∀ b, S b → b < w.heap.size) (v : Value) (t : NT n) (_ : NtV S w n v t) (_ : zN n t ≤ 1048576),
    Calls Tryz.prog 67 #[v] w fun r w' => r = .returned (.int .i64 (pN n t)) ∧ Below w.heap.size w w'
set_option maxHeartbeats 1000000 in
theorem sNet_next (n : Nat) (IH : SpN n) : SpN (n + 1) := by
  intro S w hSw v t hV hbd
  obtain ⟨pa, ca, pk, ck, rfl, hA, hK⟩ := hV
  rw [zN_succ] at hbd
  rw [pN_succ]
  have HSw : Hid (∀ b, S b → b < w.heap.size) := hSw
  have HV : Hid (SlOf S (NtE S w n) 4 pk ck t.kids) := hK
  have HI : Hid (SpN n) := IH
  obtain ⟨⟨hl1, hl2⟩, -⟩ := hK
  have HZ : Hid (zNs n t.kids ≤ 1048576) := Nat.le_trans (by omega) hbd
  have hpn : tot (pN n) t.kids ≤ 1048576 := by
    have h := tot_mono t.kids (f := pN n) (g := fun u => 1 + zN n u) (fun u _ => pN_le n u)
    rw [tot_one] at h
    have := HZ.out
    unfold zNs at this
    omega
  generalize t.kids = es at *
  generalize t.kind = kd at *
  generalize t.el.1 = op at *
  generalize t.el.2.length = la at *
  clear hSw hA hbd IH
  obtain ⟨R, hR⟩ : ∃ R : Int, R = ((1 + tot (pN n) es : Nat) : Int) := ⟨_, rfl⟩
  rw [← hR]
  have HR : Hid (R = ((1 + tot (pN n) es : Nat) : Int)) := hR
  clear hR
  go_enter Tryz.func67, Tryz.ntmps67
  go_wp2
  have HBa : Hid (Below w.heap.size w (w.alloc (.cells #[.int .i64 kd, .int .i64 op, .slice pa la ca, .slice pk es.length ck] 49))) := one _ _
  have HLa : Hid ((w.alloc (.cells #[.int .i64 kd, .int .i64 op, .slice pa la ca, .slice pk es.length ck] 49)).cell? ⟨w.heap.size, 3, none⟩ = some (.slice pk es.length ck)) := by
    show _ = _
    rw [World.cell?_alloc_mark]; rfl
  generalize w.alloc (.cells #[.int .i64 kd, .int .i64 op, .slice pa la ca, .slice pk es.length ck] 49) = V at *
  go_loopw [3, 4] (fun c d w' => ∃ j : Nat, j ≤ es.length ∧ c = .int .i64 ((1 + tot (pN n) (es.take j) : Nat) : Int) ∧ d = .int .i64 (j : Int) ∧ Hid (Below V.heap.size V w')) (fun _ d _ => es.length - (intOf d).toNat)
  case atStart => exact ⟨0, by omega, rfl, rfl, Below.refl _ _⟩
  case round =>
    obtain ⟨j, hj, rfl, rfl, HB⟩ := hrel
    rename_i wr
    have c3 := keep2 HB.out HLa.out
    have HBw : Hid (Below w.heap.size w wr) := HBa.out.trans (HB.out.mono HBa.out.size)
    by_cases hlt : j < es.length
    · have hlt' : (j : Int) < (es.length : Int) := by omega
      obtain ⟨u, hu⟩ := get_lt hlt
      have hbd := tot_next (pN n) hu
      have hle := tot_le (pN n) es (j + 1)
      obtain ⟨b, off, rfl, hb, hE⟩ := (nets_to (Keep.of HBw.out HSw.out) (fun _ h => h) HV.out).get hu
      obtain ⟨kd', op', pa', la', ca', pk', lk', ck', e0, e1, e2, e3, hN⟩ := hE.out
      have HC : Hid (Calls Tryz.prog 67 #[.agg #[.int .i64 kd', .int .i64 op', .slice pa' la' ca', .slice pk' lk' ck']] wr fun r w' => r = .returned (.int .i64 (pN n u)) ∧ Below wr.heap.size wr w') :=
        HI.out S wr (fun b hb => Nat.lt_of_lt_of_le (HSw.out b hb) HBw.out.size) _ u hN (by have := tot_get (zN n) hu; have := HZ.out; unfold zNs at this; omega)
      clear hN hE HR
      generalize hZ : pN n u = z at *
      generalize hT : tot (pN n) (es.take j) = T at *
      go_wp2_with fail
      refine HC.out.mono ?_
      rintro e w1 ⟨rfl, hb1⟩
      have HB1 : Hid (Below V.heap.size V w1) := HB.out.trans (hb1.mono HB.out.size)
      clear hb1
      go_wp2
      exact ⟨⟨j + 1, by omega, by congr 1; omega, by go_num, HB1⟩, by simp [intOf]; omega⟩
    · obtain rfl : j = es.length := by omega
      have HR1 : Hid (R = ((1 + tot (pN n) (es.take es.length) : Nat) : Int)) := by
        rw [List.take_length]
        exact HR.out
      generalize ((1 + tot (pN n) (es.take es.length) : Nat) : Int) = L at *
      go_wp2
      go_ret
      exact ⟨by rw [HR1.out]; rfl, HBw.out⟩
theorem sNet_any : ∀ n, SpN n
  | 0 => fun _ _ _ _ _ h => h.elim
  | n + 1 => sNet_next n (sNet_any n)
end Go.Proofs.YtjkpingdokkkcaaGreatDoor.Tr
