/- append, generally: one element, a row that is copied. A row's element that is put anew. Helper text: no statement is claimed here. -/
import Derived.Test.YtjkpingdokkkcaaGreatDoorCw
import Derived.Test.YtjkpingdokkkcaaGreatDoorP04
namespace Go.Proofs.YtjkpingdokkkcaaGreatDoor.Tr
open Go.ChangeShapes Go.WideShapes Go.ChangeAt Go.RowKit

/-- A type of elements, and the type of its slices. -/
structure TyI (T ST : TypeId) (sz bt : Nat) (z : Value) : Prop where
  info : (Tryz.prog.info? T).map (fun i => (i.zero, i.size, i.bytes)) = some (some z, sz, bt)
  und : Tryz.prog.underlying ST = some (.slice T)
  zs : z.cells.size = sz
  pos : 0 < sz
  bl : bt ≤ 1000
theorem tyE : TyI 46 50 2 32 (.agg #[.int .i64 0, .slice none 0 0]) := ⟨infoE, Tryz.underlying50, rfl, by decide, by decide⟩
theorem tyN : TyI 49 47 4 64 (.agg #[.int .i64 0, .int .i64 0, .slice none 0 0, .slice none 0 0]) := ⟨infoN, Tryz.underlying47, rfl, by decide, by decide⟩
theorem tyA : TyI 52 23 6 112 (.agg #[.int .i64 0, .int .i64 0, .slice none 0 0, .slice none 0 0, .slice none 0 0, .slice none 0 0]) := ⟨infoA, Tryz.underlying23, rfl, by decide, by decide⟩

theorem addr_add (b off j : Nat) : (⟨b, off, none⟩ : Addr).add j = ⟨b, off + j, none⟩ := by
  unfold Addr.add
  by_cases h : j = 0
  · simp [h]
  · simp [h]

section
variable {α : Type} {T ST : TypeId} {O : Nat → Prop} {sz bt base : Nat} {z : Value} {V : (Nat → Prop) → World → Value → α → Prop} {E : (Nat → Prop) → World → Nat → Nat → α → Prop}
/-- Values, out of elements in memory. -/
def ReadE (sz : Nat) (V : (Nat → Prop) → World → Value → α → Prop) (E : (Nat → Prop) → World → Nat → Nat → α → Prop) : Prop :=
  ∀ (S : Nat → Prop) (W : World) (b o : Nat) (t : α), E S W b o t → ∃ cs : List Value, cs.length = sz ∧ (∀ u ∈ cs, u.oneCell' = true) ∧ (∀ j u, cs[j]? = some u → W.cell? ⟨b, o + j, none⟩ = some u) ∧ V S W (.agg cs.toArray) t
theorem news_of (hR : ReadE sz V E) {S : Nat → Prop} {W : World} {b : Nat} : ∀ (us : List α) (off : Nat), (∀ i t, us[i]? = some t → E S W b (off + i * sz) t) →
    ∃ news : List Value, news.length = us.length * sz ∧ (∀ u ∈ news, u.oneCell' = true) ∧ (∀ j u, news[j]? = some u → W.cell? ⟨b, off + j, none⟩ = some u) ∧ ∀ i t, us[i]? = some t → V S W (.agg ((news.drop (i * sz)).take sz).toArray) t
  | [], _, _ => ⟨[], by simp, by simp, by simp, by simp⟩
  | t :: us, off, h => by
    obtain ⟨cs, c1, c2, c3, c4⟩ := hR S W b off t (by simpa using h 0 t (by simp))
    obtain ⟨news, n1, n2, n3, n4⟩ := news_of hR us (off + sz) (fun i u hu => by
      have := h (i + 1) u (by simpa using hu)
      rwa [Nat.add_mul, Nat.one_mul, show off + (i * sz + sz) = off + sz + i * sz by omega] at this)
    refine ⟨cs ++ news, by simp [c1, n1, Nat.add_mul]; omega, fun u hu => ?_, fun j u hj => ?_, fun i u hu => ?_⟩
    · rcases List.mem_append.1 hu with hu | hu
      · exact c2 u hu
      · exact n2 u hu
    · rcases Nat.lt_or_ge j cs.length with hl | hl
      · rw [List.getElem?_append_left hl] at hj
        exact c3 j u hj
      · rw [List.getElem?_append_right hl, c1] at hj
        have := n3 (j - sz) u hj
        rwa [show off + sz + (j - sz) = off + j by omega] at this
    · cases i with
      | zero =>
        obtain rfl : u = t := by simpa using hu.symm
        rw [Nat.zero_mul, List.drop_zero, List.take_append_of_le_length (by omega), ← c1, List.take_length]
        exact c4
      | succ i =>
        have := n4 i u (by simpa using hu)
        rw [Nat.add_mul, Nat.one_mul, show i * sz + sz = cs.length + i * sz by omega, ← List.drop_drop, List.drop_left]
        exact this
theorem GRow.empty {W : World} {B : Nat} (hB : W.heap[B]? = some (.cells #[] T (0, 0))) (hb : base ≤ B) : GRow O T sz V base W (.slice (some ⟨B, 0, none⟩) 0 0) [] [] :=
  ⟨⟨by simp, .inr ⟨B, 0, #[], rfl, hb, hB, Nat.le_refl _, by decide, by simp, by simp⟩⟩, fun i t h => by simp at h⟩
theorem GRow.form {W : World} {v : Value} {xs : List Value} {ts : List α} (h : GRow O T sz V base W v xs ts) (hn : v ≠ .slice none 0 0) : ∃ g cap, v = .slice (some ⟨g, 0, none⟩) ts.length cap ∧ base ≤ g ∧ g < W.heap.size := by
  rcases h.1.2 with ⟨h', -⟩ | ⟨g, cap, cur, hv, hb, hg, -⟩
  · exact absurd h' hn
  · exact ⟨g, cap, hv, hb, (Array.getElem?_eq_some_iff.1 hg).1⟩
/-- A row copied into an empty one of the call's own. -/
theorem wp_copy (hT : TyI T ST sz bt z) (hV : KeptV V) (hR : ReadE sz V E) {o : Oper} {a : Act} {K : Act → World → Prop} {Q : Exit → Act → World → Prop} (w : World) (s x : Operand) (ho : o.op = .call { callee := .builtin .append, args := #[s, x], argTypes := #[ST, ST] })
    (B : Nat) (hs : a.eval s = .slice (some ⟨B, 0, none⟩) 0 0) (hB : w.heap[B]? = some (.cells #[] T (0, 0))) (hb : base ≤ B) (hO : ∀ b, O b → b < base) {p : Option Addr} {cap : Nat} {us : List α} (hx : a.eval x = .slice p us.length cap) (hS : SlOf O (E O w) sz p cap us) (hl : us.length ≤ 100000)
    (h : ∀ g cap' w', Hid (∃ xs, GRow O T sz V base w' (.slice (some ⟨g, 0, none⟩) us.length cap') xs us) → Hid (w.grownBy w' (some B)) → base ≤ g → g < w'.heap.size → K (a.put o.dst (.slice (some ⟨g, 0, none⟩) us.length cap')) w') : o.wp Tryz.prog a w K Q := by
  obtain ⟨i0, hi, hz0, hz1, hz2⟩ := info_parts hT.info
  have hE : GRow O T sz V base w (.slice (some ⟨B, 0, none⟩) 0 0) [] [] := GRow.empty hB hb
  have hBl := (Array.getElem?_eq_some_iff.1 hB).1
  have main : ∀ (ad : Addr) (m : Nat) (news : List Value), us.length = m → p = some ad → news.length = m * sz → (∀ j u, news[j]? = some u → w.cell? (ad.add j) = some u) → (∀ u ∈ news, u.oneCell' = true) → (∀ i t, us[i]? = some t → V O w (.agg ((news.drop (i * sz)).take sz).toArray) t) → o.wp Tryz.prog a w K Q := by
    intro ad m news hm hp n1 n2 n3 n4
    subst hm
    refine wp_append_own w s x ST ho base T i0 z sz bt hT.und hi hz0 hz1 hz2 hT.zs hT.pos _ 0 [] hs hE.1 ad us.length cap news (by rw [hx, hp]) n1 n2 n3 (by unfold maxLen; omega) (by rw [Nat.zero_add]; have := Nat.mul_le_mul hl hT.bl; omega) (by omega) fun v' w' h1 h2 h3 => ?_
    have hne : v' ≠ .slice none 0 0 := fun e => by
      have := (h3.1 e).1
      simp at this
    rw [Nat.zero_add, List.nil_append] at h1
    have hk : Keep O w w' := fun b hb' => h2.block b (by have := hO b hb'; omega) (fun e => by
      have e' : b = B := by simpa [Value.ownBlock] using e
      have := hO b hb'
      omega)
    have hrow : GRow O T sz V base w' v' news us := ⟨h1, fun i t ht => hV _ _ _ _ _ _ hk (fun b hb' => .inl hb') (n4 i t ht)⟩
    obtain ⟨g, cap', rfl, hg1, hg2⟩ := hrow.form hne
    exact h g cap' w' ⟨news, hrow⟩ h2 hg1 hg2
  rcases hS.2 with h0 | ⟨b, off, hp, hb', hel⟩
  · subst h0
    cases p with
    | none =>
      have hrun := run_append_no (P := Tryz.prog) base ST o.type T i0 sz cap hT.und hi _ _ _ hE.1
      unfold Oper.wp execOp
      rw [ho]
      simp only [resolve, invoke, builtin, Sem.run_bind, Sem.run_pure, Result.andThen_ok, List.map_toArray, List.map_cons, List.map_nil, hs, hx, List.length_nil, hrun]
      exact h B 0 w ⟨[], hE⟩ ⟨rfl, rfl, rfl, Nat.le_refl _, fun _ _ _ => rfl⟩ hb hBl
    | some ad => exact main ad 0 [] rfl rfl (by simp) (by simp) (by simp) (by simp)
  · obtain ⟨news, n1, n2, n3, n4⟩ := news_of hR us off hel
    exact main ⟨b, off, none⟩ us.length news rfl hp n1 (fun j u hj => by rw [addr_add]; exact n3 j u hj) n2 n4
/-- One more element. -/
theorem wp_one (hT : TyI T ST sz bt z) (hV : KeptV V) {o : Oper} {a : Act} {K : Act → World → Prop} {Q : Exit → Act → World → Prop} (w : World) (s x : Operand) (ho : o.op = .call { callee := .builtin .append, args := #[s, x], argTypes := #[ST, ST] })
    (v : Value) (ts : List α) (hs : a.eval s = v) (hrow : ∃ xs, GRow O T sz V base w v xs ts) (cs : List Value) (hcs : cs.length = sz) (h1 : ∀ u ∈ cs, u.oneCell' = true) (B : Nat) (hx : a.eval x = .slice (some ⟨B, 0, none⟩) 1 1) (hB : w.heap[B]? = some (.cells cs.toArray T (0, 0))) (t : α) (ht : V (Inn O base w v) w (.agg cs.toArray) t) (hb : ts.length ≤ 100000) (hbase : base ≤ w.heap.size) (hO : ∀ b, O b → b < base)
    (h : ∀ g cap w', Hid (∃ xs, GRow O T sz V base w' (.slice (some ⟨g, 0, none⟩) (ts.length + 1) cap) xs (ts ++ [t])) → Hid (w.grownBy w' v.ownBlock) → base ≤ g → g < w'.heap.size → K (a.put o.dst (.slice (some ⟨g, 0, none⟩) (ts.length + 1) cap)) w') : o.wp Tryz.prog a w K Q := by
  obtain ⟨i0, hi, hz0, hz1, hz2⟩ := info_parts hT.info
  obtain ⟨xs, hrow⟩ := hrow
  refine wp_append_lies w s x ST ho base T i0 z sz bt hT.und hi hz0 hz1 hz2 hT.zs hT.pos v ts.length xs hs hrow.1 ⟨B, 0, none⟩ 1 1 cs hx (by omega) (World.news_of_block (cs := cs.toArray) hB) h1 (by omega) (by unfold maxLen; omega) (by have := Nat.mul_le_mul (show ts.length + 1 ≤ 100001 by omega) hT.bl; omega) hbase _ rfl ?_
  intro g cap w' k1 k2 k3 k4
  have hg : base ≤ g := by
    rcases k3 with k3 | k3
    · exact (hrow.1.lt g k3).1
    · omega
  exact h g cap w' ⟨_, hrow.app hV hO hcs k1 k2 k3 hbase ht⟩ k2 hg k4
end
section
variable {α : Type} {T ST : TypeId} {O : Nat → Prop} {sz bt base : Nat} {z : Value} {V : (Nat → Prop) → World → Value → α → Prop} {E : (Nat → Prop) → World → Nat → Nat → α → Prop}
theorem wl_one (hT : TyI T ST sz bt z) (hV : KeptV V) {ops : Array Oper} {rest : List Oper} {o : Oper} {a : Act} {Q : Exit → Act → World → Prop} (w : World) (hgd : o.guard = none) (s x : Operand) (ho : o.op = .call { callee := .builtin .append, args := #[s, x], argTypes := #[ST, ST] })
    (v : Value) (ts : List α) (hs : a.eval s = v) (hrow : ∃ xs, GRow O T sz V base w v xs ts) (cs : List Value) (hcs : cs.length = sz) (h1 : ∀ u ∈ cs, u.oneCell' = true) (B : Nat) (hx : a.eval x = .slice (some ⟨B, 0, none⟩) 1 1) (hB : w.heap[B]? = some (.cells cs.toArray T (0, 0))) (t : α) (ht : V (Inn O base w v) w (.agg cs.toArray) t) (hb : ts.length ≤ 100000) (hbase : base ≤ w.heap.size) (hO : ∀ b, O b → b < base)
    (h : ∀ g cap w', Hid (∃ xs, GRow O T sz V base w' (.slice (some ⟨g, 0, none⟩) (ts.length + 1) cap) xs (ts ++ [t])) → Hid (w.grownBy w' v.ownBlock) → base ≤ g → g < w'.heap.size → wpList Tryz.prog ops Q rest (a.put o.dst (.slice (some ⟨g, 0, none⟩) (ts.length + 1) cap)) w') : wpList Tryz.prog ops Q (o :: rest) a w :=
  wpList_plain hgd fun _ hK => wp_one hT hV w s x ho v ts hs hrow cs hcs h1 B hx hB t ht hb hbase hO fun g cap w' k1 k2 k3 k4 => hK _ _ (h g cap w' k1 k2 k3 k4)
theorem wl_copy (hT : TyI T ST sz bt z) (hV : KeptV V) (hR : ReadE sz V E) {ops : Array Oper} {rest : List Oper} {o : Oper} {a : Act} {Q : Exit → Act → World → Prop} (w : World) (hgd : o.guard = none) (s x : Operand) (ho : o.op = .call { callee := .builtin .append, args := #[s, x], argTypes := #[ST, ST] })
    (B : Nat) (hs : a.eval s = .slice (some ⟨B, 0, none⟩) 0 0) (hB : w.heap[B]? = some (.cells #[] T (0, 0))) (hb : base ≤ B) (hO : ∀ b, O b → b < base) {p : Option Addr} {cap : Nat} {us : List α} (hx : a.eval x = .slice p us.length cap) (hS : SlOf O (E O w) sz p cap us) (hl : us.length ≤ 100000)
    (h : ∀ g cap' w', Hid (∃ xs, GRow O T sz V base w' (.slice (some ⟨g, 0, none⟩) us.length cap') xs us) → Hid (w.grownBy w' (some B)) → base ≤ g → g < w'.heap.size → wpList Tryz.prog ops Q rest (a.put o.dst (.slice (some ⟨g, 0, none⟩) us.length cap')) w') : wpList Tryz.prog ops Q (o :: rest) a w :=
  wpList_plain hgd fun _ hK => wp_copy hT hV hR w s x ho B hs hB hb hO hx hS hl fun g cap w' k1 k2 k3 k4 => hK _ _ (h g cap w' k1 k2 k3 k4)
end
/-- As a step of a region that draws. -/
theorem st_of {ops : Array Oper} {o : Oper} {a : Act} {w : World} {K : Act → World → Prop} {Q : Exit → Act → World → Prop} {E : Prop} (hgd : o.guard = none) (h : o.wp Tryz.prog a w K Q) : if Region.wanted o (yielded ops a.tmps) = true then Oper.wp Tryz.prog o a w K Q else E := by
  rw [if_pos (by simp [Region.wanted, hgd])]
  exact h
theorem readE : ReadE 2 ElV ElE := fun S W b o t h => by
  obtain ⟨pa, ca, h0, h1, h2⟩ := h
  refine ⟨[.int .i64 t.1, .slice pa t.2.length ca], rfl, by simp [Value.oneCell'], fun j u hj => ?_, pa, ca, rfl, h2⟩
  match j, hj with
  | 0, hj => obtain rfl := Option.some.inj hj; exact h0
  | 1, hj => obtain rfl := Option.some.inj hj; exact h1
  | j + 2, hj => simp at hj
theorem readN (n : Nat) : ReadE 4 (fun S W v (t : NT n) => NtV S W n v t) (fun S W b o t => NtE S W n b o t) := fun S W b o t h => by
  obtain ⟨kd, op, pa, la, ca, pk, lk, ck, h0, h1, h2, h3, hv⟩ := h.out
  refine ⟨[.int .i64 kd, .int .i64 op, .slice pa la ca, .slice pk lk ck], rfl, by simp [Value.oneCell'], fun j u hj => ?_, hv⟩
  match j, hj with
  | 0, hj => obtain rfl := Option.some.inj hj; exact h0
  | 1, hj => obtain rfl := Option.some.inj hj; exact h1
  | 2, hj => obtain rfl := Option.some.inj hj; exact h2
  | 3, hj => obtain rfl := Option.some.inj hj; exact h3
  | j + 4, hj => simp at hj
theorem readA (k n : Nat) : ReadE 6 (fun S W v (t : AT k n) => AmV S W k n v t) (fun S W b o t => AmE S W k n b o t) := fun S W b o t h => by
  obtain ⟨kd, op, pa, la, ca, pk, lk, ck, pc, lc, cc, pq, lq, cq, h0, h1, h2, h3, h4, h5, hv⟩ := h.out
  refine ⟨[.int .i64 kd, .int .i64 op, .slice pa la ca, .slice pk lk ck, .slice pc lc cc, .slice pq lq cq], rfl, by simp [Value.oneCell'], fun j u hj => ?_, hv⟩
  match j, hj with
  | 0, hj => obtain rfl := Option.some.inj hj; exact h0
  | 1, hj => obtain rfl := Option.some.inj hj; exact h1
  | 2, hj => obtain rfl := Option.some.inj hj; exact h2
  | 3, hj => obtain rfl := Option.some.inj hj; exact h3
  | 4, hj => obtain rfl := Option.some.inj hj; exact h4
  | 5, hj => obtain rfl := Option.some.inj hj; exact h5
  | j + 6, hj => simp at hj
end Go.Proofs.YtjkpingdokkkcaaGreatDoor.Tr

/- The drawing of ladders: l6Ladder. Helper text: no statement is claimed here. -/
namespace Go.Proofs.YtjkpingdokkkcaaGreatDoor.Tr
open Go.ChangeShapes Go.WideShapes Go.ChangeAt Go.RowKit

set_option maxHeartbeats 400000 in
/-- num, where the numbers have bounds. -/
theorem numB_any (lo hi : Int) (rb m lb n : Nat) (w : World) (hn : 1 ≤ n) (hn2 : n ≤ 100) (hr : Rd w rb m) (hm : m ≤ 1000000) (hl : ∀ i, i < n → ∃ z : Int, w.cell? ⟨lb, i, none⟩ = some (.int .i64 z) ∧ lo ≤ z ∧ z ≤ hi) (hlr : lb ≠ rb) :
    Calls Tryz.prog 48 #[.pointer (some ⟨rb, 0, none⟩), .slice (some ⟨lb, 0, none⟩) n n] w fun e w' => ∃ v, e = .returned (.int .i64 v) ∧ lo ≤ v ∧ v ≤ hi ∧ Rd w' rb (m + 1) ∧ Step rb w w' := by
  go_enter Tryz.func48, Tryz.ntmps48
  go_wp2_with fail
  refine (pick_any rb m n _ (by omega) hr hm).mono ?_
  rintro e w' ⟨v, rfl, v0, v1, -, hr', st⟩
  obtain ⟨k, rfl⟩ := Int.eq_ofNat_of_zero_le v0
  have hk : (k : Int) < n := v1 (by omega)
  obtain ⟨z, hz, z0, z1⟩ := hl k (by omega)
  have hz' : w'.cell? ⟨lb, k, none⟩ = some (.int .i64 z) := by
    rw [st.cell lb k (World.block_lt_of_cell? w ⟨lb, k, none⟩ hz) hlr]; exact hz
  clear v1 hl
  go_wp2
  go_ret
  exact ⟨z, rfl, z0, z1, hr', st⟩
theorem numsB_mk (lo hi : Int) (w : World) (cs : List Int) (t : TypeId) (h : ∀ z ∈ cs, lo ≤ z ∧ z ≤ hi) : ∀ i, i < cs.length → ∃ z : Int, (w.alloc (.cells (cs.map fun z => Value.int .i64 z).toArray t)).cell? ⟨w.heap.size, i, none⟩ = some (.int .i64 z) ∧ lo ≤ z ∧ z ≤ hi := by
  intro i hi
  refine ⟨cs[i], ?_, h _ (List.getElem_mem hi)⟩
  rw [World.cell?_alloc_new]
  simp [hi]
theorem nums_st (w : World) : ∀ i, i < 6 → ∃ z : Int, (w.alloc (.cells #[.int .i64 9, .int .i64 15, .int .i64 16, .int .i64 17, .int .i64 18, .int .i64 30] 3)).cell? ⟨w.heap.size, i, none⟩ = some (.int .i64 z) ∧ 0 ≤ z ∧ z ≤ 60 := by
  have := numsB_mk 0 60 w [9, 15, 16, 17, 18, 30] 3 (by simp)
  simpa using this
theorem nums_fk (w : World) : ∀ i, i < 5 → ∃ z : Int, (w.alloc (.cells #[.int .i64 5, .int .i64 7, .int .i64 8, .int .i64 9, .int .i64 12] 3)).cell? ⟨w.heap.size, i, none⟩ = some (.int .i64 z) ∧ 0 ≤ z ∧ z ≤ 60 := by
  have := numsB_mk 0 60 w [5, 7, 8, 9, 12] 3 (by simp)
  simpa using this

/-- A ladder is drawn: its blocks are new. -/
def LDr (O : Nat → Prop) (L K Nn nl z rb m : Nat) (w : World) (e : Ending) (w' : World) : Prop := ∃ (p : Option Addr) (cap : Nat) (us : List (AT K (Nn + 1))), e = .returned (.slice p us.length cap) ∧ SlOf (Frs O w.heap.size w') (AmE (Frs O w.heap.size w') w' K (Nn + 1)) 6 p cap us ∧ (∀ u ∈ us, okAm L K (Nn + 1) u) ∧ us.length ≤ nl ∧ tot (zA K (Nn + 1)) us ≤ z ∧ Rd w' rb m ∧ Step rb w w'
/-- While rungs are drawn. -/
def LLoop (K Nn rb M : Nat) (w : World) (c : Nat) (s : Value) (w' : World) : Prop := ∃ (p : Option Addr) (cap : Nat) (us : List (AT K (Nn + 1))), s = .slice p us.length cap ∧ us.length + c ≤ 4 ∧ w.heap.size ≤ w'.heap.size ∧ RowA Non K (Nn + 1) w.heap.size w' (.slice p us.length cap) us ∧ (∀ u ∈ us, okAm 3 K (Nn + 1) u) ∧ tot (zA K (Nn + 1)) us ≤ us.length * 818 ∧ Rd w' rb (M + us.length * 7800) ∧ Step rb w w'
/-- While rungs are taken off. -/
def TLoop (K Nn rb M : Nat) (w : World) (s : Value) (w' : World) : Prop := ∃ (p : Option Addr) (cap : Nat) (us : List (AT K (Nn + 1))), s = .slice p us.length cap ∧ us.length ≤ 4 ∧ SlOf (Frs Non w.heap.size w') (AmE (Frs Non w.heap.size w') w' K (Nn + 1)) 6 p cap us ∧ (∀ u ∈ us, okAm 3 K (Nn + 1) u) ∧ tot (zA K (Nn + 1)) us ≤ 4 * 818 ∧ Rd w' rb M ∧ Step rb w w'
def vlen : Value → Nat
  | .slice _ n _ => n
  | _ => 0

theorem row_sl {k n base : Nat} {W : World} {p : Option Addr} {cap : Nat} {us : List (AT k n)} {O : Nat → Prop} (h : RowA O k n base W (.slice p us.length cap) us) : SlOf (Frs O base W) (AmE (Frs O base W) W k n) 6 p cap us := by
  obtain ⟨xs, hx⟩ := h
  obtain ⟨p', cap', he, hS⟩ := hx.sl (keptA _ _) (madeA _ _)
  simp only [Value.slice.injEq] at he
  obtain ⟨rfl, -, rfl⟩ := he
  exact hS
theorem row_ldr {K Nn nl z rb m m' : Nat} {w w' : World} {p : Option Addr} {cap : Nat} {us : List (AT K (Nn + 1))} (h : RowA Non K (Nn + 1) w.heap.size w' (.slice p us.length cap) us) (hok : ∀ u ∈ us, okAm 3 K (Nn + 1) u) (hl : us.length ≤ nl) (hz : tot (zA K (Nn + 1)) us ≤ z) (hr : Rd w' rb m') (hm : m' ≤ m) (st : Step rb w w') : LDr Non 3 K Nn nl z rb m w (.returned (.slice p us.length cap)) w' :=
  ⟨p, cap, us, rfl, row_sl h, hok, hl, hz, hr.mono hm, st⟩
/-- A stair and a coil as an arm. -/
theorem stair_arm {K Nn : Nat} {S : Nat → Prop} {W : World} {kd op op' : Int} {pa pk p' : Option Addr} {la ca lk ck cap' B : Nat} {ys' : List Ar} {z : Nat} (hK : 63 ≤ K) (hV : ∃ t : NT 64, NtV S W 64 (.agg #[.int .i64 kd, .int .i64 op, .slice pa la ca, .slice pk lk ck]) t ∧ okN 3 64 t ∧ zN 64 t ≤ z) (hB : W.heap[B]? = some (.cells #[.int .i64 op', .slice p' ys'.length cap'] 46 (0, 0))) (h' : SlOf S (ArE W) 3 p' cap' ys') (hS : S B) (hok : okEl 3 (op', ys')) :
    ∃ t : AT K (Nn + 1), AmV S W K (Nn + 1) (.agg #[.int .i64 kd, .int .i64 op, .slice pa la ca, .slice pk lk ck, .slice (some ⟨B, 0, none⟩) 1 1, .slice none 0 0]) t ∧ okAm 3 K (Nn + 1) t ∧ zA K (Nn + 1) t ≤ z + 4 := by
  obtain ⟨t, h1, h2, h3⟩ := raiseN (n' := K + 1) (by omega) hV
  refine ⟨((t, [(op', ys')], []) : NT (K + 1) × List El × List (AT K Nn)), ⟨kd, op, pa, la, ca, pk, lk, ck, some ⟨B, 0, none⟩, 1, none, 0, rfl, h1, one_coil hB h' hS, sl_nil⟩, ⟨h2, fun e he => by rw [List.mem_singleton.1 he]; exact hok, fun u hu => (by cases hu)⟩, ?_⟩
  have h4 : ys'.length ≤ 3 := hok.1
  show zN (K + 1) t + (1 + (ys'.length + 0)) + (0 + 0) ≤ z + 4
  omega
theorem lstep {K Nn rb M c g7 cap7 cap : Nat} {w wr w6 w7 : World} {p : Option Addr} {us : List (AT K (Nn + 1))} {t : AT K (Nn + 1)} {o : Obj} (hul : us.length + (c + 1) ≤ 4) (hs : w.heap.size ≤ wr.heap.size) (hrow : RowA Non K (Nn + 1) w.heap.size wr (.slice p us.length cap) us) (hok : ∀ u ∈ us, okAm 3 K (Nn + 1) u) (hz : tot (zA K (Nn + 1)) us ≤ us.length * 818) (hst : Step rb w wr) (hrb : rb < w.heap.size) (st6 : Step rb wr w6) (hokt : okAm 3 K (Nn + 1) t) (hzt : zA K (Nn + 1) t ≤ 818) (hr6 : Rd w6 rb (M + us.length * 7800 + 7800))
    (HR7 : RowA Non K (Nn + 1) w.heap.size w7 (.slice (some ⟨g7, 0, none⟩) (us.length + 1) cap7) (us ++ [t])) (HG7 : (w6.alloc o).grownBy w7 (Value.slice p us.length cap).ownBlock) : LLoop K Nn rb M w c (.slice (some ⟨g7, 0, none⟩) (us.length + 1) cap7) w7 := by
  have hs6 := st6.size
  have hbw := rowA_below (rowA_in hrow st6 hrb (fun _ h => h.elim) o) HG7 (by simp; omega)
  have hs7 := hbw.size
  have hsa : w6.heap.size ≤ (w6.alloc o).heap.size := (one w6 o).size
  have hl : (us ++ [t]).length = us.length + 1 := by simp
  refine ⟨some ⟨g7, 0, none⟩, cap7, us ++ [t], by rw [hl], by rw [hl]; omega, by omega, by rw [hl]; exact HR7, fun u hu => ?_, ?_, ?_, ((hst.trans st6).trans (Step.alloc rb w6 o)).in hbw (Nat.le_refl _)⟩
  · rcases List.mem_append.1 hu with h | h
    · exact hok u h
    · rw [List.mem_singleton.1 h]; exact hokt
  · rw [hl, tot_app]
    have : tot (zA K (Nn + 1)) [t] = zA K (Nn + 1) t := by simp [tot]
    omega
  · rw [hl]
    exact ((hr6.alloc o).in hbw hrb).mono (by omega)
theorem arms_take {k n sz : Nat} {S : Nat → Prop} {E : Nat → Nat → AT k n → Prop} {p : Option Addr} {cap : Nat} {us : List (AT k n)} (h : SlOf S E sz p cap us) (j : Nat) : SlOf S E sz p cap (us.take j) := by
  obtain ⟨⟨h1, h2⟩, h3⟩ := h
  have hl : (us.take j).length ≤ us.length := by rw [List.length_take]; omega
  refine ⟨⟨by omega, by omega⟩, ?_⟩
  rcases h3 with h3 | ⟨b, off, rfl, hb, h⟩
  · exact .inl (by simp [h3])
  · refine .inr ⟨b, off, rfl, hb, fun i t ht => h i t ?_⟩
    have hi := (List.getElem?_eq_some_iff.1 ht).1
    rw [List.length_take] at hi
    rwa [List.getElem?_take_of_lt (by omega)] at ht

set_option maxHeartbeats 2000000 in
set_option maxRecDepth 100000 in
theorem l6Ladder_any (K Nn : Nat) (hK : 63 ≤ K) (hNn : 61 ≤ Nn) (rb m : Nat) (w : World) (hr : Rd w rb m) (hm : m ≤ 300000) : Calls Tryz.prog 25 #[.pointer (some ⟨rb, 0, none⟩)] w (LDr Non 3 K Nn 4 4000 rb (m + 40000) w) := by
  have hlt := hr.lt
  go_enter Tryz.func25, Tryz.ntmps25
  go_wp2_with fail
  refine (pick_any rb m 24 _ (by omega) (hr.alloc _) (by omega)).mono ?_
  rintro e w2 ⟨k, rfl, k0, k1, -, hr2, st2⟩
  have hB2 : w2.heap[w.heap.size]? = some (.cells #[] 52 (0, 0)) := (st2.block _ (by simp) (by omega)).trans (last w _)
  have st2' : Step rb w w2 := (Step.alloc rb w _).trans st2
  have hl2 : w.heap.size < w2.heap.size := (Array.getElem?_eq_some_iff.1 hB2).1
  clear st2 k1
  by_cases hk0 : k = 0
  · subst hk0
    have HN6 : Hid (∀ W : World, ∀ i, i < 6 → ∃ z : Int, (W.alloc (.cells #[.int .i64 9, .int .i64 15, .int .i64 16, .int .i64 17, .int .i64 18, .int .i64 30] 3)).cell? ⟨W.heap.size, i, none⟩ = some (.int .i64 z) ∧ 0 ≤ z ∧ z ≤ 60) := nums_st
    go_wp2_with fail
    refine (numB_any 0 60 rb (m + 1) w2.heap.size 6 _ (by omega) (by omega) (hr2.alloc _) (by omega) (HN6.out w2) (by omega)).mono ?_
    rintro e w3 ⟨n, rfl, n0, n1, hr3, st3⟩
    have st3' : Step rb w w3 := (st2'.trans (Step.alloc rb w2 _)).trans st3
    have hB3 : w3.heap[w.heap.size]? = some (.cells #[] 52 (0, 0)) := (st3.block _ (by simp; omega) (by omega)).trans (((one w2 _).block _ hl2).trans hB2)
    have hl3 : w.heap.size < w3.heap.size := (Array.getElem?_eq_some_iff.1 hB3).1
    clear st3 hB2 hr2 st2'
    go_wp2_with fail
    refine (l6Stair_any rb (m + 1 + 1) n _ hr3 (by omega) (by omega)).mono ?_
    rintro e w4 ⟨v4, tn, rfl, hV, hok, hz, hr4, st4⟩
    obtain ⟨kd, op, pa, la, ca, pk, lk, ck, rfl⟩ := hV.parts
    go_wp2_with fail
    refine (coil_dr rb _ _ hr4 (by omega)).mono ?_
    rintro e w5 ⟨op', ys', p', cap', rfl, hA5, hok5, hr5, st5⟩
    have hs4 := st4.size
    have hs5 := st5.size
    have hB5 : w5.heap[w.heap.size]? = some (.cells #[] 52 (0, 0)) := ((st5.block _ (by omega) (by omega)).trans (st4.block _ (by omega) (by omega))).trans hB3
    have HB5 : Hid (((w5.alloc (.cells #[.int .i64 op', .slice p' ys'.length cap'] 46)).alloc (.cells #[.int .i64 kd, .int .i64 op, .slice pa la ca, .slice pk lk ck, .slice (some ⟨w5.heap.size, 0, none⟩) 1 1, .slice none 0 0] 52)).heap[w.heap.size]? = some (.cells #[] 52 (0, 0))) := ((one _ _).block _ (by simp; omega)).trans (((one w5 _).block _ (by omega)).trans hB5)
    have HL5 : Hid (((w5.alloc (.cells #[.int .i64 op', .slice p' ys'.length cap'] 46)).alloc (.cells #[.int .i64 kd, .int .i64 op, .slice pa la ca, .slice pk lk ck, .slice (some ⟨w5.heap.size, 0, none⟩) 1 1, .slice none 0 0] 52)).heap[w5.heap.size + 1]? = some (.cells #[.int .i64 kd, .int .i64 op, .slice pa la ca, .slice pk lk ck, .slice (some ⟨w5.heap.size, 0, none⟩) 1 1, .slice none 0 0] 52 (0, 0))) := by
      have := last (w5.alloc (.cells #[.int .i64 op', .slice p' ys'.length cap'] 46)) (.cells #[.int .i64 kd, .int .i64 op, .slice pa la ca, .slice pk lk ck, .slice (some ⟨w5.heap.size, 0, none⟩) 1 1, .slice none 0 0] 52)
      rw [show (w5.alloc (.cells #[.int .i64 op', .slice p' ys'.length cap'] 46)).heap.size = w5.heap.size + 1 by simp] at this
      exact this
    obtain ⟨t, HT⟩ : ∃ t : AT K (Nn + 1), Hid (AmV (Inn Non w.heap.size ((w5.alloc (.cells #[.int .i64 op', .slice p' ys'.length cap'] 46)).alloc (.cells #[.int .i64 kd, .int .i64 op, .slice pa la ca, .slice pk lk ck, .slice (some ⟨w5.heap.size, 0, none⟩) 1 1, .slice none 0 0] 52)) (.slice (some ⟨w.heap.size, 0, none⟩) 0 0)) ((w5.alloc (.cells #[.int .i64 op', .slice p' ys'.length cap'] 46)).alloc (.cells #[.int .i64 kd, .int .i64 op, .slice pa la ca, .slice pk lk ck, .slice (some ⟨w5.heap.size, 0, none⟩) 1 1, .slice none 0 0] 52)) K (Nn + 1) (.agg #[.int .i64 kd, .int .i64 op, .slice pa la ca, .slice pk lk ck, .slice (some ⟨w5.heap.size, 0, none⟩) 1 1, .slice none 0 0]) t ∧ okAm 3 K (Nn + 1) t ∧ zA K (Nn + 1) t ≤ 400 + 4) := by
      have hb : Below w5.heap.size w5 ((w5.alloc (.cells #[.int .i64 op', .slice p' ys'.length cap'] 46)).alloc (.cells #[.int .i64 kd, .int .i64 op, .slice pa la ca, .slice pk lk ck, .slice (some ⟨w5.heap.size, 0, none⟩) 1 1, .slice none 0 0] 52)) := (one w5 _).trans ((one _ _).mono (by simp))
      have hB1 := ((one (w5.alloc (.cells #[.int .i64 op', .slice p' ys'.length cap'] 46)) (.cells #[.int .i64 kd, .int .i64 op, .slice pa la ca, .slice pk lk ck, .slice (some ⟨w5.heap.size, 0, none⟩) 1 1, .slice none 0 0] 52)).block w5.heap.size (by simp)).trans (last w5 (.cells #[.int .i64 op', .slice p' ys'.length cap'] 46))
      have hsz : ((w5.alloc (.cells #[.int .i64 op', .slice p' ys'.length cap'] 46)).alloc (.cells #[.int .i64 kd, .int .i64 op, .slice pa la ca, .slice pk lk ck, .slice (some ⟨w5.heap.size, 0, none⟩) 1 1, .slice none 0 0] 52)).heap.size = w5.heap.size + 2 := by simp
      generalize (w5.alloc (.cells #[.int .i64 op', .slice p' ys'.length cap'] 46)).alloc (.cells #[.int .i64 kd, .int .i64 op, .slice pa la ca, .slice pk lk ck, .slice (some ⟨w5.heap.size, 0, none⟩) 1 1, .slice none 0 0] 52) = W at *
      have hI : ∀ b, w.heap.size < b → b < w5.heap.size + 2 → Inn Non w.heap.size W (.slice (some ⟨w.heap.size, 0, none⟩) 0 0) b := fun b h1 h2 => .inr ⟨by omega, by omega, by simp [Value.ownBlock]; omega⟩
      refine stair_arm (S := Inn Non w.heap.size W (.slice (some ⟨w.heap.size, 0, none⟩) 0 0)) hK ⟨tn, hV.to (Keep.trans0 (Keep.ofStep st5 ?_) (Keep.of hb ?_)) ?_, hok, hz⟩ hB1 (args_to (Keep.of hb ?_) ?_ hA5) (hI _ (by omega) (by omega)) hok5
      · intro b hb
        exact hb.elim (fun h => h.elim) fun h => ⟨h.2, by omega⟩
      · intro b hb
        exact hb.elim (fun h => h.elim) fun h => by omega
      · intro b hb
        exact hb.elim (fun h => h.elim) fun h => hI b (by omega) (by omega)
      · intro b hb
        exact hb.elim (fun h => h.elim) fun h => h.2
      · intro b hb
        exact hb.elim (fun h => h.elim) fun h => hI b (by omega) (by omega)
    have HRW : Hid (Rd ((w5.alloc (.cells #[.int .i64 op', .slice p' ys'.length cap'] 46)).alloc (.cells #[.int .i64 kd, .int .i64 op, .slice pa la ca, .slice pk lk ck, .slice (some ⟨w5.heap.size, 0, none⟩) 1 1, .slice none 0 0] 52)) rb (m + 1 + 1 + 2000 + 40)) := (hr5.alloc _).alloc _
    have HSW : Hid (Step rb w ((w5.alloc (.cells #[.int .i64 op', .slice p' ys'.length cap'] 46)).alloc (.cells #[.int .i64 kd, .int .i64 op, .slice pa la ca, .slice pk lk ck, .slice (some ⟨w5.heap.size, 0, none⟩) 1 1, .slice none 0 0] 52))) := (((st3'.trans st4).trans st5).trans (Step.alloc rb _ _)).trans (Step.alloc rb _ _)
    clear hV hok hz hr4 st4 hA5 hok5 hr5 st5 hB5 hB3 st3'
    go_wp2_with (refine wl_one tyA (keptA K (Nn + 1)) (O := Non) (base := w.heap.size) _ (by rfl) (.tmp 10) (.tmp 20) (by rfl) _ [] (by rfl) ⟨[], GRow.empty HB5.out (Nat.le_refl _)⟩ [.int .i64 kd, .int .i64 op, .slice pa la ca, .slice pk lk ck, .slice (some ⟨w5.heap.size, 0, none⟩) 1 1, .slice none 0 0] rfl (by simp [Value.oneCell']) (w5.heap.size + 1) (by rfl) HL5.out t HT.out.1 (by simp) (by simp; omega) non_lt ?_; intro g7 cap7 w7 HR7 HG7 hg7 hl7)
    go_ret
    have hbw := rowA_below (k := K) (n := Nn + 1) (O := Non) (ts := []) ⟨[], GRow.empty HB5.out (Nat.le_refl _)⟩ HG7.out (by simp; omega)
    exact row_ldr (us := [t]) HR7.out (fun u hu => by rw [List.mem_singleton.1 hu]; exact HT.out.2.1) (by simp) (by have := HT.out.2.2; simp [tot]; omega) (HRW.out.in hbw hlt) (by omega) (HSW.out.in hbw (Nat.le_refl _))
  · have hk0' : (k == 0) = false := by simp [hk0]
    by_cases hk1 : k = 1
    · subst hk1
      have HN6 : Hid (∀ W : World, ∀ i, i < 5 → ∃ z : Int, (W.alloc (.cells #[.int .i64 5, .int .i64 7, .int .i64 8, .int .i64 9, .int .i64 12] 3)).cell? ⟨W.heap.size, i, none⟩ = some (.int .i64 z) ∧ 0 ≤ z ∧ z ≤ 60) := nums_fk
      go_wp2_with fail
      refine (numB_any 0 60 rb (m + 1) w2.heap.size 5 _ (by omega) (by omega) (hr2.alloc _) (by omega) (HN6.out w2) (by omega)).mono ?_
      rintro e w3 ⟨n, rfl, n0, n1, hr3, st3⟩
      have st3' : Step rb w w3 := (st2'.trans (Step.alloc rb w2 _)).trans st3
      have hB3 : w3.heap[w.heap.size]? = some (.cells #[] 52 (0, 0)) := (st3.block _ (by simp; omega) (by omega)).trans (((one w2 _).block _ hl2).trans hB2)
      have hl3 : w.heap.size < w3.heap.size := (Array.getElem?_eq_some_iff.1 hB3).1
      clear st3 hB2 hr2 st2'
      go_wp2_with fail
      refine (l6Forks_any K Nn hNn rb (m + 1 + 1) n _ hr3 (by omega) (by omega)).mono ?_
      rintro e w5 ⟨v4, t, rfl, hV, hok, hz, hr5, st5⟩
      obtain ⟨kd, op, pa, la, ca, pk, lk, ck, pc, lc, cc, pq, lq, cq, rfl⟩ := hV.partsA
      have hs5 := st5.size
      have hB5 : w5.heap[w.heap.size]? = some (.cells #[] 52 (0, 0)) := (st5.block _ (by omega) (by omega)).trans hB3
      have HB5 : Hid ((w5.alloc (.cells #[.int .i64 kd, .int .i64 op, .slice pa la ca, .slice pk lk ck, .slice pc lc cc, .slice pq lq cq] 52)).heap[w.heap.size]? = some (.cells #[] 52 (0, 0))) := ((one w5 _).block _ (by omega)).trans hB5
      have HT : Hid (AmV (Inn Non w.heap.size (w5.alloc (.cells #[.int .i64 kd, .int .i64 op, .slice pa la ca, .slice pk lk ck, .slice pc lc cc, .slice pq lq cq] 52)) (.slice (some ⟨w.heap.size, 0, none⟩) 0 0)) (w5.alloc (.cells #[.int .i64 kd, .int .i64 op, .slice pa la ca, .slice pk lk ck, .slice pc lc cc, .slice pq lq cq] 52)) K (Nn + 1) (.agg #[.int .i64 kd, .int .i64 op, .slice pa la ca, .slice pk lk ck, .slice pc lc cc, .slice pq lq cq]) t) :=
        hV.to (Keep.of (one w5 _) (fun b hb => hb.elim (fun h => h.elim) fun h => h.2)) (fun b hb => hb.elim (fun h => h.elim) fun h => .inr ⟨by omega, by simp; omega, by simp [Value.ownBlock]; omega⟩)
      have HRW : Hid (Rd (w5.alloc (.cells #[.int .i64 kd, .int .i64 op, .slice pa la ca, .slice pk lk ck, .slice pc lc cc, .slice pq lq cq] 52)) rb (m + 1 + 1 + 7000)) := hr5.alloc _
      have HSW : Hid (Step rb w (w5.alloc (.cells #[.int .i64 kd, .int .i64 op, .slice pa la ca, .slice pk lk ck, .slice pc lc cc, .slice pq lq cq] 52))) := (st3'.trans st5).trans (Step.alloc rb _ _)
      have HOK : Hid (okAm 3 K (Nn + 1) t) := hok
      have HZ : Hid (zA K (Nn + 1) t ≤ 800) := hz
      clear hV hok hz hr5 st5 hB5 hB3 st3'
      go_wp2_with (refine wl_one tyA (keptA K (Nn + 1)) (O := Non) (base := w.heap.size) _ (by rfl) (.tmp 24) (.tmp 30) (by rfl) _ [] (by rfl) ⟨[], GRow.empty HB5.out (Nat.le_refl _)⟩ [.int .i64 kd, .int .i64 op, .slice pa la ca, .slice pk lk ck, .slice pc lc cc, .slice pq lq cq] rfl (by simp [Value.oneCell']) w5.heap.size (by rfl) (last _ _) t HT.out (by simp) (by simp; omega) non_lt ?_; intro g7 cap7 w7 HR7 HG7 hg7 hl7)
      go_ret
      have hbw := rowA_below (k := K) (n := Nn + 1) (O := Non) (ts := []) ⟨[], GRow.empty HB5.out (Nat.le_refl _)⟩ HG7.out (by simp; omega)
      exact row_ldr (us := [t]) HR7.out (fun u hu => by rw [List.mem_singleton.1 hu]; exact HOK.out) (by simp) (by have := HZ.out; simp [tot]; omega) (HRW.out.in hbw hlt) (by omega) (HSW.out.in hbw (Nat.le_refl _))
    · have hk1' : (k == 1) = false := by simp [hk1]
      by_cases hk2 : k = 2
      · subst hk2
        go_wp2
        go_ret
        exact ⟨some ⟨w.heap.size, 0, none⟩, 0, [], rfl, sl_nil, fun u hu => (by cases hu), by simp, by simp [tot], hr2.mono (by omega), st2'⟩
      · have hk2' : (k == 2) = false := by simp [hk2]
        go_wp2_with fail
        refine (pick_any rb (m + 1) 4 _ (by omega) hr2 (by omega)).mono ?_
        rintro e w3 ⟨c0, rfl, c00, c01, -, hr3, st3⟩
        obtain ⟨c0, rfl⟩ := Int.eq_ofNat_of_zero_le c00
        have hc0 : c0 ≤ 3 := by have := c01 (by omega); omega
        have hs3 := st3.size
        have HL0 : Hid (LLoop K Nn rb (m + 2) w (1 + c0) (.slice (some ⟨w.heap.size, 0, none⟩) 0 0) w3) := ⟨some ⟨w.heap.size, 0, none⟩, 0, [], rfl, by simp; omega, by omega, ⟨[], GRow.empty ((st3.block _ hl2 (by omega)).trans hB2) (Nat.le_refl _)⟩, fun u hu => (by cases hu), by simp [tot], hr3, st2'.trans st3⟩
        clear c00 c01 hr3 st3 hB2 st2' hr2 hs3
        go_wp2
        go_loopw [3, 4] (fun s d8 w' => ∃ c : Nat, c ≤ 4 ∧ d8 = .int .i64 (c : Int) ∧ Hid (LLoop K Nn rb (m + 2) w c s w')) (fun _ d8 _ => (intOf d8).toNat)
        case atStart => exact ⟨1 + c0, by omega, by go_num, HL0⟩
        case round =>
          obtain ⟨c, hc, rfl, HL⟩ := hrel
          clear HL0
          rename_i wr
          obtain ⟨p, cap, us, rfl, hul, hsz, hrow, hok, hz, hrd, hst⟩ := HL.out
          by_cases hlt8 : 0 < c
          · obtain ⟨c, rfl⟩ : ∃ c', c = c' + 1 := ⟨c - 1, by omega⟩
            have hlt8' : (0 : Int) < ((c + 1 : Nat) : Int) := by omega
            have HROW : Hid (RowA Non K (Nn + 1) w.heap.size wr (.slice p us.length cap) us) := hrow
            have HOK : Hid (∀ u ∈ us, okAm 3 K (Nn + 1) u) := hok
            have HZ : Hid (tot (zA K (Nn + 1)) us ≤ us.length * 818) := hz
            have HST : Hid (Step rb w wr) := hst
            have HUL : Hid (us.length + (c + 1) ≤ 4) := hul
            have hMb : m + 2 + us.length * 7800 + 7800 ≤ 500000 := by omega
            clear hrow hok hz hst HL
            go_wp2_with fail
            refine Calls.mono (show Calls Tryz.prog 50 #[.pointer (some ⟨rb, 0, none⟩), .int .i64 2, .bool true] _ (ADr 2 2 (Za 2) rb (m + 2 + us.length * 7800 + Mar 2) _) from l6Arm_all 2 rb _ true _ hrd hMb) ?_
            rintro e w6 ⟨v, t0, rfl, hV, hokt, hzt, hr6, st6⟩
            obtain ⟨kd, op, pa, la, ca, pk, lk, ck, pc, lc, cc, pq, lq, cq, rfl⟩ := hV.partsA
            obtain ⟨t, hV1, hok1, hz1⟩ := raiseA (k' := K) (n' := Nn + 1) (by omega) (by omega) ⟨t0, hV, hokt, hzt⟩
            have HT : Hid (AmV (Frs Non wr.heap.size w6) w6 K (Nn + 1) (.agg #[.int .i64 kd, .int .i64 op, .slice pa la ca, .slice pk lk ck, .slice pc lc cc, .slice pq lq cq]) t) := hV1
            have HST6 : Hid (Step rb wr w6) := st6
            have hsz6 := st6.size
            have HOK1 : Hid (okAm 3 K (Nn + 1) t) := hok1
            have HZ1 : Hid (zA K (Nn + 1) t ≤ 818) := hz1
            have HR6 : Hid (Rd w6 rb (m + 2 + us.length * 7800 + 7800)) := hr6
            clear hV hV1 hok1 hz1 hokt hzt st6 hr6 hul
            go_wp2_with (refine wl_one tyA (keptA K (Nn + 1)) (O := Non) (base := w.heap.size) _ (by rfl) (.tmp 42) (.tmp 45) (by rfl) _ us (by rfl) (rowA_in HROW.out HST6.out hlt (fun _ h => h.elim) _) [.int .i64 kd, .int .i64 op, .slice pa la ca, .slice pk lk ck, .slice pc lc cc, .slice pq lq cq] rfl (by simp [Value.oneCell']) w6.heap.size (by rfl) (last _ _) t (newA_in HT.out HROW.out hsz _) (by have := HUL.out; omega) (by simp; omega) non_lt ?_; intro g7 cap7 w7 HR7 HG7 hg7 hl7)
            exact ⟨⟨c, by omega, by go_num, lstep HUL.out hsz HROW.out HOK.out HZ.out HST.out hlt HST6.out HOK1.out HZ1.out HR6.out HR7.out HG7.out⟩, by simp [intOf]⟩
          · obtain rfl : c = 0 := by omega
            have HT0 : Hid (TLoop K Nn rb (m + 32000) w (.slice p us.length cap) wr) := ⟨p, cap, us, rfl, by omega, row_sl hrow, hok, by omega, hrd.mono (by omega), hst⟩
            clear hrow hok hz hst hrd HL hul
            rw [show ((0 : Nat) : Int) = 0 from rfl]
            go_wp2
            go_loopw [3] (fun s w' => ∃ W, W = w' ∧ Hid (TLoop K Nn rb (m + 32000) w s W)) (fun s _ => vlen s)
            case atStart => exact ⟨_, rfl, HT0⟩
            case round =>
              clear HT0
              obtain ⟨ws, rfl, HRL⟩ := hrel
              obtain ⟨p, cap, us, rfl, hul, hS, hok, hz, hrd, hst⟩ := HRL.out
              clear HRL
              have hcap := hS.1.1
              by_cases h0 : us = []
              · subst h0
                go_wp2
                go_ret
                exact ⟨p, cap, [], rfl, hS, hok, by simp, by simp [tot], hrd.mono (by omega), hst⟩
              · have hl0 : 0 < us.length := List.length_pos_iff.2 h0
                have hl0' : (0 : Int) < (us.length : Int) := by omega
                have HC : Hid (Calls Tryz.prog 28 #[.slice p us.length cap] ws fun r w' => r = .returned (.int .i64 (tot (pA K (Nn + 1)) us)) ∧ Below ws.heap.size ws w') := sTreeSize_any K (Nn + 1) (Frs Non w.heap.size ws) ws (fun b hb => hb.elim (fun h => h.elim) fun h => h.2) p cap us hS (by unfold zAs; omega)
                generalize hR : ((tot (pA K (Nn + 1)) us : Nat) : Int) = R at HC
                have HRR : Hid (((tot (pA K (Nn + 1)) us : Nat) : Int) = R) := hR
                have HS : Hid (SlOf (Frs Non w.heap.size ws) (AmE (Frs Non w.heap.size ws) ws K (Nn + 1)) 6 p cap us) := hS
                have HOK : Hid (∀ u ∈ us, okAm 3 K (Nn + 1) u) := hok
                have HZ : Hid (tot (zA K (Nn + 1)) us ≤ 4 * 818) := hz
                have HST : Hid (Step rb w ws) := hst
                clear hS hok hz hst hR h0
                go_wp2_with fail
                refine HC.out.mono ?_
                rintro e wt ⟨rfl, hbt⟩
                have HT : Hid (∀ j, TLoop K Nn rb (m + 32000) w (.slice p (us.take j).length cap) wt) := fun j =>
                  ⟨p, cap, us.take j, rfl, by rw [List.length_take]; omega, arms_take (arms_to (Keep.of hbt (fun b hb => hb.elim (fun h => h.elim) fun h => h.2)) (Frs.mono (Nat.le_refl _) hbt.size) HS.out) j, fun u hu => HOK.out u (List.mem_of_mem_take hu), Nat.le_trans (tot_le _ _ _) HZ.out, hrd.to hbt, HST.out.trans (.of hbt)⟩
                clear HC HRR HS HOK HZ HST hbt hrd
                by_cases h4 : 400 < R
                · go_wp2
                  have hlen : (us.take (us.length - 1)).length = us.length - 1 := by rw [List.length_take]; omega
                  exact ⟨⟨_, rfl, by have := HT.out (us.length - 1); rw [hlen] at this; exact this⟩, by show us.length - 1 < us.length; omega⟩
                · go_wp2
                  go_ret
                  have HQ := HT.out us.length
                  rw [List.take_length] at HQ
                  obtain ⟨p', cap', us', he, q1, q2, q3, q4, q5, q6⟩ := HQ
                  exact ⟨p', cap', us', by rw [← he]; rfl, q2, q3, q1, by omega, q5.mono (by omega), q6⟩
end Go.Proofs.YtjkpingdokkkcaaGreatDoor.Tr
