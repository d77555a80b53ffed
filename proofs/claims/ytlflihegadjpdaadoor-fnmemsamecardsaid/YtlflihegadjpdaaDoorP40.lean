/- A row of texts of the call's own, appended to. Helper text: no statement is claimed here. -/
import Derived.Test.YtlflihegadjpdaaDoorRows
import Derived.WalkKit
import Derived.ProofKit
import Derived.OpenShut
import Derived.Below
import Derived.Deep.AppendLies
import Derived.Laws.AppendOwnNone
import Derived.OwnWalk
import Derived.Test.YtlflihegadjpdaaDoorP38
import Derived.WalkSmall
import Derived.BigQuiet
import Derived.Test.YtlflihegadjpdaaDoorShelf
import Derived.Test.YtlflihegadjpdaaDoorSi
import Derived.Lib.LaidTab
import Derived.Lib.ItoaLen
import Derived.Deep.RegionWith
import Derived.Lib.QuietBelow
import Derived.Test.YtlflihegadjpdaaDoorP39
import Derived.Deep.Cut
import Derived.Test.YtlflihegadjpdaaDoorJz
import Derived.Test.YtlflihegadjpdaaDoorJb
namespace Go.Proofs.YtlflihegadjpdaaDoor
open Go.ChangeShapes Go.WideShapes Go.ChangeAt Go.RowKit

/-- The cells of a row of texts. -/
def stCells (ws : List (List UInt8)) : List Value := ws.map fun l => .string ⟨l.toArray⟩
theorem stCells_len (ws : List (List UInt8)) : (stCells ws).length = ws.length := by simp [stCells]
theorem stCells_app (a b : List (List UInt8)) : stCells a ++ stCells b = stCells (a ++ b) := by simp [stCells]
theorem stCells_one (ws : List (List UInt8)) : ∀ u ∈ stCells ws, u.oneCell' = true := by
  intro u hu
  simp only [stCells, List.mem_map] at hu
  obtain ⟨a, -, rfl⟩ := hu
  rfl
theorem iStrR : (Tryd.prog.info? 9).map (fun i => (i.zero, i.size, i.bytes)) = some (some (.string ⟨#[]⟩), 1, 16) := by kernel_rfl
/-- A row of texts that is the call's own. -/
def SRow (w : World) (base : Nat) (v : Value) (ws : List (List UInt8)) : Prop := w.ownsRow base 9 1 v ws.length (stCells ws)
theorem SRow.nil (w : World) (base : Nat) : SRow w base (.slice none 0 0) [] := World.ownsRow_nil w base _ _
theorem SRow.to {w w' : World} {base : Nat} {v : Value} {ws : List (List UInt8)} (h : SRow w base v ws) (hb : Below w.heap.size w w') : SRow w' base v ws := by
  refine ⟨h.1, ?_⟩
  rcases h.2 with hn | ⟨g, cap, cur, rfl, hb', hgg, rest⟩
  · exact .inl hn
  · exact .inr ⟨g, cap, cur, rfl, hb', (hb.block g (Array.getElem?_eq_some_iff.1 hgg).1).trans hgg, rest⟩
theorem SRow.low {w : World} {base base' : Nat} {v : Value} {ws : List (List UInt8)} (h : SRow w base v ws) (hb : base' ≤ base) : SRow w base' v ws := by
  refine ⟨h.1, ?_⟩
  rcases h.2 with hn | ⟨g, cap, cur, rfl, hb', rest⟩
  · exact .inl hn
  · exact .inr ⟨g, cap, cur, rfl, Nat.le_trans hb hb', rest⟩
/-- The slice that stands for it, and where its texts lie. -/
theorem SRow.form {w : World} {base : Nat} {v : Value} {ws : List (List UInt8)} (h : SRow w base v ws) : (v = .slice none 0 0 ∧ ws = []) ∨ ∃ g cap, v = .slice (some ⟨g, 0, none⟩) ws.length cap ∧ base ≤ g ∧ g < w.heap.size ∧ ws.length ≤ cap ∧ cap ≤ maxLen ∧ ∀ j l, ws[j]? = some l → w.cell? ⟨g, j, none⟩ = some (.string ⟨l.toArray⟩) := by
  have hc : ∀ g, v.ownBlock = some g → ∀ j l, ws[j]? = some l → w.cell? ⟨g, j, none⟩ = some (.string ⟨l.toArray⟩) := fun g hg j l hl => by
    have := World.ownsRow.cells h hg j (.string ⟨l.toArray⟩) (by simp [stCells, hl])
    have hadd : (⟨g, 0, none⟩ : Addr).add j = ⟨g, j, none⟩ := by unfold Addr.add; split <;> simp_all
    rwa [hadd] at this
  rcases h.2 with ⟨h1, h2⟩ | ⟨g, cap, cur, rfl, hb', hgg, h2, h3, -⟩
  · exact .inl ⟨h1, List.eq_nil_of_length_eq_zero h2⟩
  · exact .inr ⟨g, cap, rfl, hb', (Array.getElem?_eq_some_iff.1 hgg).1, h2, h3, hc g rfl⟩
theorem SRow.lt {w : World} {base : Nat} {v : Value} {ws : List (List UInt8)} (h : SRow w base v ws) : ∀ k, v.ownBlock = some k → base ≤ k ∧ k < w.heap.size := World.ownsRow.lt h

/-- append to a row of texts that is the call's own. -/
theorem wpList_sapp {ops : Array Oper} {rest : List Oper} {o : Oper} {a : Act} {Q : Exit → Act → World → Prop} (w : World) (hgd : o.guard = none) (s x : Operand)
    (ho : o.op = .call { callee := .builtin .append, args := #[s, x], argTypes := #[61, 61] }) (base : Nat)
    (v : Value) (ws news : List (List UInt8)) (hs : a.eval s = v) (hown : SRow w base v ws)
    (g c : Nat) (hx : a.eval x = .slice (some ⟨g, 0, none⟩) news.length c) (hnews : ∀ j l, news[j]? = some l → w.cell? ⟨g, j, none⟩ = some (.string ⟨l.toArray⟩))
    (hb : ws.length + news.length ≤ 1000) (hbase : base ≤ w.heap.size)
    (h : ∀ v' w', Hid (SRow w' base v' (ws ++ news)) → Hid (Below base w w') → wpList Tryd.prog ops Q rest (a.put o.dst v') w') : wpList Tryd.prog ops Q (o :: rest) a w := by
  obtain ⟨i0, hi, hz0, hz1, hz2⟩ := info_parts iStrR
  refine wpList_append_own w hgd s x _ ho base _ i0 _ 1 16 Tryd.underlying61 hi hz0 hz1 hz2 rfl (by decide) v _ _ hs hown ⟨g, 0, none⟩ news.length c (stCells news) hx (by rw [stCells_len, Nat.mul_one]) (fun j u hu => ?_) (stCells_one news) (by unfold maxLen; omega) (by omega) hbase (fun v' w' h1 h2 _ => h v' w' ?_ ((Below.refl _ _).grown h2 hbase fun k hk => (hown.lt k hk).1))
  · have hadd : (⟨g, 0, none⟩ : Addr).add j = ⟨g, j, none⟩ := by unfold Addr.add; split <;> simp_all
    rw [hadd]
    simp only [stCells, List.getElem?_map] at hu
    obtain ⟨l, hl, rfl⟩ := Option.map_eq_some_iff.1 hu
    exact hnews j l hl
  · show World.ownsRow _ _ _ _ _ _ _
    rw [List.length_append, ← stCells_app]
    exact h1
theorem sone_cell (w : World) (l : List UInt8) : ∀ j t, [l][j]? = some t → (w.alloc (.cells #[.string ⟨l.toArray⟩] 9)).cell? ⟨w.heap.size, j, none⟩ = some (.string ⟨t.toArray⟩) := by
  intro j t h
  have hj : j = 0 := by
    have := (List.getElem?_eq_some_iff.1 h).1
    simpa using this
  subst hj
  obtain rfl : l = t := by simpa using h
  rw [World.cell?_alloc_new]
  rfl
end Go.Proofs.YtlflihegadjpdaaDoor

/- What DevLetter answers. Helper text: no statement is claimed here. -/
namespace Go.Proofs.YtlflihegadjpdaaDoor
open Go.ChangeShapes Go.WideShapes Go.ChangeAt Go.RowKit
attribute [local go_sem] field_0 field_1 field_2 field_3 field_4

set_option maxHeartbeats 400000 in
theorem letter_any (k : Int) (w : World) (hT : DevTab w) :
    Calls Tryd.prog 68 #[.int .i64 k] w fun e w' => e = .returned (.string ⟨(rL (kz k)).toArray⟩) ∧ Below w.heap.size w w' := by
  go_enter Tryd.func68, Tryd.ntmps68
  go_wp2_with fail
  refine (rowOf_any _ _ hT).mono ?_
  rintro e w' ⟨rfl, hb⟩
  go_wp2
  go_ret
  exact ⟨rfl, hb⟩

end Go.Proofs.YtlflihegadjpdaaDoor

/- Decimal numerals: the library's Itoa, and the document's own. Helper text: no statement is claimed here. -/
namespace Go.Proofs.YtlflihegadjpdaaDoor
open Go.ChangeShapes Go.WideShapes Go.ChangeAt Go.RowKit

/-- The library's table of powers of ten reads as its initialiser lays it. -/
def PowTab (w : World) : Prop := Lib.TabIs Tryd.prog w (Rows.fnMemSameRow.named.getD 2 "") .u64 Lib.pow10Tab
theorem gPow : Tryd.prog.globalNamed (Rows.fnMemSameRow.named.getD 2 "") = some 2 := by kernel_rfl
theorem PowTab.lt {w : World} (h : PowTab w) : 2 < w.heap.size :=
  World.block_lt_of_cell? w ⟨2, 0, none⟩ (Lib.TabIs.cell h gPow 0 (by decide))
theorem PowTab.to {w w' : World} (h : PowTab w) (hb : Below w.heap.size w w') : PowTab w' := by
  have hlt := h.lt
  unfold PowTab Lib.TabIs World.var? at *
  rw [gPow] at *
  simp only [Option.bind_some] at *
  rw [hb.block _ hlt]; exact h
theorem PowTab.alloc {w : World} (h : PowTab w) (o : Obj) : PowTab (w.alloc o) := h.to ((Below.refl _ _).alloc (Nat.le_refl _) o)

theorem below_grow (w : World) (k : Nat) (os : Array Obj) : Below w.heap.size w (Sort.grow (w.drewN k) os) :=
  ⟨rfl, rfl, rfl, by simp [Sort.grow], fun i hi => by
    have h : i < (w.drewN k).heap.size := hi
    simp only [Sort.grow]
    rw [Array.getElem?_append_left h]; rfl⟩

theorem itoa_any (n : Int) (w : World) (h0 : -9223372036854775808 ≤ n) (h1 : n ≤ 9223372036854775807) (hP : PowTab w) :
    Calls Tryd.prog 47 #[.int .i64 n] w fun e w' => e = .returned (.string ⟨(Lib.itoa n).toArray⟩) ∧ Below w.heap.size w w' :=
  (Any.strconv_Itoa Tryd.laysM171 n h0 h1 w hP).mono fun _ _ ⟨he, k, os, hw⟩ => ⟨he, by rw [hw]; exact below_grow w k os⟩
end Go.Proofs.YtlflihegadjpdaaDoor

/- The text of a device: the program's DevText. Helper text: no statement is claimed here. -/
namespace Go.Proofs.YtlflihegadjpdaaDoor
open Go.ChangeShapes Go.WideShapes Go.ChangeAt Go.RowKit

theorem letterG {W : World} {k : Int} (hT : DevTab W) (d : Nat) (os : Array Obj) :
    Calls Tryd.prog 68 #[.int .i64 k] (Sort.grow (redrawn W d) os) fun e w'' => e = .returned (.string ⟨(rL (kz k)).toArray⟩) ∧ ∃ q : Regrown, w'' = Sort.grow (redrawn W q.d) q.os :=
  Calls.regrown_of (letter_any _ _ (hT.to (below_regrown _ d os)))
theorem itoaG {W : World} {n : Int} (hP : PowTab W) (h0 : 0 ≤ n) (h1 : n < 64) (d : Nat) (os : Array Obj) :
    Calls Tryd.prog 47 #[.int .i64 n] (Sort.grow (redrawn W d) os) fun e w'' => e = .returned (.string ⟨(Lib.itoa n).toArray⟩) ∧ ∃ q : Regrown, w'' = Sort.grow (redrawn W q.d) q.os :=
  Calls.regrown_of (itoa_any _ _ (by omega) (by omega) (hP.to (below_regrown _ d os)))
theorem rL_short (i : Nat) : (rL i).length ≤ 1 := by unfold rL; split <;> simp

set_option maxHeartbeats 400000 in
theorem itext_dv (k n : Int) (w : World) (hT : DevTab w) (hP : PowTab w) (hk1 : 1 ≤ k) (hk2 : k ≤ 10) (n0 : 0 ≤ n) (n1 : n < 64) (hn : n < rN (kz k)) :
    Calls Tryd.prog 43 #[.agg #[.int .i64 k, .int .i64 n, .int .i64 0]] w fun e w' => e = .returned (.string ⟨(rL (kz k) ++ Lib.itoa n).toArray⟩) ∧ Below w.heap.size w w' := by
  have e1 : (k == 11) = false := by simp; omega
  have e2 : (k == 12) = false := by simp; omega
  have e3 : (k == 13) = false := by simp; omega
  have hl1 := rL_short (kz k)
  have hl2 := Lib.itoa_length_le n (by omega) (by omega)
  have hk : Hid (okB k n 0 = true) := by
    show okB k n 0 = true
    rw [okB_dev k n 0 (by omega) (by omega) (by omega)]
    simp
    omega
  clear hn
  go_enter Tryd.func43, Tryd.ntmps43
  go_wp2_with fail
  refine (devOk_any _ _ _ _ (hT.alloc _)).mono ?_
  rintro e w1 ⟨rfl, hb⟩
  rw [hk.out]
  have hT1 := (hT.alloc (argO k n 0)).to hb
  have hP1 := (hP.alloc (argO k n 0)).to hb
  obtain ⟨c0, c1, c2⟩ := arg_at k n 0 w
  have d0 : w1.cell? ⟨w.heap.size, 0, none⟩ = some (.int .i64 k) := by rw [hb.cell (p := ⟨w.heap.size, 0, none⟩) (by simp)]; exact c0
  have d1 : w1.cell? ⟨w.heap.size, 1, none⟩ = some (.int .i64 n) := by rw [hb.cell (p := ⟨w.heap.size, 1, none⟩) (by simp)]; exact c1
  clear c0 c1 c2
  have k0 := cell_regrown d0
  have k1 := cell_regrown d1
  go_wp2
  refine wp_region_quiet_below (by kernel_rfl) (by kernel_rfl) ?_
  repeat (first | go_big_quiet_step ((first | exact letterG hT1 _ _ | exact itoaG hP1 n0 n1 _ _)) | quiet_step ((first | exact letterG hT1 _ _ | exact itoaG hP1 n0 n1 _ _)))
  refine wpQuiet_nil ?_
  intro _ hw'
  obtain ⟨⟨dq, osq⟩, hw''⟩ := hw'
  subst hw''
  go_wp2
  go_ret
  exact ⟨ret_str (cat _ _), of_two hb (below_regrown _ dq osq)⟩
end Go.Proofs.YtlflihegadjpdaaDoor

/- The program's MemBit. Helper text: no statement is claimed here. -/
namespace Go.Proofs.YtlflihegadjpdaaDoor
open Go.ChangeShapes Go.WideShapes Go.ChangeAt Go.RowKit
theorem bit_packed (m : Mm) (k n : Int) (h : k ≠ 6 ∧ k ≠ 7 ∧ k ≠ 8) : m.bit k n = bitN (m.packed k) (plc k n).toNat := by
  unfold Mm.bit Mm.packed
  by_cases h1 : k = 1
  · subst h1; rfl
  by_cases h2 : k = 2
  · subst h2; rfl
  by_cases h3 : k = 3
  · subst h3; rfl
  by_cases h4 : k = 4
  · subst h4; rfl
  by_cases h5 : k = 5
  · subst h5; rfl
  rw [if_neg h1, if_neg h2, if_neg h3, if_neg h4, if_neg h5, if_neg h.1, if_neg h.2.1, if_neg h.2.2, if_neg h1, if_neg h2, if_neg h3, if_neg h4, if_neg h5]
  unfold bitN
  rw [Nat.zero_div]
  rfl

set_option maxHeartbeats 1000000 in
set_option maxRecDepth 10000 in
theorem ibit_6 (m : Mm) (hok : m.Ok) (n p : Int) (w : World) (hT : DevTab w) :
    Calls Tryd.prog 42 #[m.val, .agg #[.int .i64 6, .int .i64 n, .int .i64 p]] w fun e w' => e = .returned (.bool (m.bit 6 n)) ∧ Below w.heap.size w w' := by
  have HT : Hid (DevTab w) := hT
  clear hT
  obtain ⟨j, hj⟩ := Int.eq_ofNat_of_zero_le (plc_range 6 n).1
  have hlt : j < 8 := by
    have := (plc_range 6 n).2
    rw [hj, show sz4 6 = 8 from rfl] at this
    omega
  have hlt' : (j : Int) < 8 := by omega
  have HG : Hid (∀ W, Calls Tryd.prog 64 #[m.val, .int .i64 j] W fun e w' => e = .returned (.bool (m.given j)) ∧ Below W.heap.size W w') := fun W => igiven_any m hok j W hlt
  have HE : Hid (m.bit 6 n = m.given j) := by
    show m.given (plc 6 n).toNat = m.given j
    rw [hj]; rfl
  rw [HE.out]
  clear hok
  generalize m.given j = g at *
  unfold Mm.val
  go_enter Tryd.func42, Tryd.ntmps42
  go_upto_region 1 with fail
  have HB : Hid (Below w.heap.size w ((w.alloc (.cells m.cells 37)).alloc (.cells #[.int .i64 6, .int .i64 n, .int .i64 p] 58))) := ((Below.refl _ _).alloc (Nat.le_refl _) _).alloc (by simp) _
  have HI : Hid (MemAt ((w.alloc (.cells m.cells 37)).alloc (.cells #[.int .i64 6, .int .i64 n, .int .i64 p] 58)) w.heap.size m) := (RowAt.new w 37 136 m.cell).alloc _
  have a0 : World.cell? ((w.alloc (.cells m.cells 37)).alloc (.cells #[.int .i64 6, .int .i64 n, .int .i64 p] 58)) ⟨w.heap.size + 1, 0, none⟩ = some (.int .i64 6) := by simp [go_sem]
  have a1 : World.cell? ((w.alloc (.cells m.cells 37)).alloc (.cells #[.int .i64 6, .int .i64 n, .int .i64 p] 58)) ⟨w.heap.size + 1, 1, none⟩ = some (.int .i64 n) := by simp [go_sem]
  have a2 : World.cell? ((w.alloc (.cells m.cells 37)).alloc (.cells #[.int .i64 6, .int .i64 n, .int .i64 p] 58)) ⟨w.heap.size + 1, 2, none⟩ = some (.int .i64 p) := by simp [go_sem]
  generalize ((w.alloc (.cells m.cells 37)).alloc (.cells #[.int .i64 6, .int .i64 n, .int .i64 p] 58)) = V at *
  go_wp2_with fail
  refine (place_any 6 n p _ (HT.out.to HB.out)).mono ?_
  rw [hj]
  rintro e w1 ⟨rfl, hb1⟩
  have HB1 : Hid (Below w.heap.size w w1) := HB.out.trans (hb1.mono HB.out.size)
  have HI1 : Hid (MemAt w1 w.heap.size m) := HI.out.to hb1
  have b0 : w1.cell? ⟨w.heap.size + 1, 0, none⟩ = some (.int .i64 6) := (hb1.cell (p := ⟨w.heap.size + 1, 0, none⟩) (World.block_lt_of_cell? V _ a0)).trans a0
  clear hb1 HB HI a0 a1 a2
  go_wp2_with (refine wpList_rowLoad rfl 37 (.tmp 2) rfl _ 0 136 m.cell rfl HI1.out (by omega) (fun i _ => by rw [Nat.zero_add]) Tryd.underlying37 rfl (by kernel_rfl) ?_)
  refine (HG.out _).mono ?_
  rintro e w2 ⟨rfl, hb2⟩
  have HB2 : Hid (Below w.heap.size w w2) := HB1.out.trans (hb2.mono HB1.out.size)
  clear hb2 HG
  go_wp2
  go_ret
  exact ⟨rfl, HB2.out⟩

set_option maxHeartbeats 1000000 in
set_option maxRecDepth 10000 in
theorem ibit_7 (m : Mm) (_hok : m.Ok) (n p : Int) (w : World) (hT : DevTab w) :
    Calls Tryd.prog 42 #[m.val, .agg #[.int .i64 7, .int .i64 n, .int .i64 p]] w fun e w' => e = .returned (.bool (m.bit 7 n)) ∧ Below w.heap.size w w' := by
  have HT : Hid (DevTab w) := hT
  clear hT
  obtain ⟨j, hj⟩ := Int.eq_ofNat_of_zero_le (plc_range 7 n).1
  have hlt : j < 16 := by
    have := (plc_range 7 n).2
    rw [hj, show sz4 7 = 16 from rfl] at this
    omega
  have hlt' : (j : Int) < 16 := by omega
  have HE : Hid (m.bit 7 n = m.td j) := by
    show m.td (plc 7 n).toNat = m.td j
    rw [hj]; rfl
  rw [HE.out]
  clear _hok
  unfold Mm.val
  go_enter Tryd.func42, Tryd.ntmps42
  go_upto_region 1 with fail
  have HB : Hid (Below w.heap.size w ((w.alloc (.cells m.cells 37)).alloc (.cells #[.int .i64 7, .int .i64 n, .int .i64 p] 58))) := ((Below.refl _ _).alloc (Nat.le_refl _) _).alloc (by simp) _
  have HI : Hid (MemAt ((w.alloc (.cells m.cells 37)).alloc (.cells #[.int .i64 7, .int .i64 n, .int .i64 p] 58)) w.heap.size m) := (RowAt.new w 37 136 m.cell).alloc _
  have a0 : World.cell? ((w.alloc (.cells m.cells 37)).alloc (.cells #[.int .i64 7, .int .i64 n, .int .i64 p] 58)) ⟨w.heap.size + 1, 0, none⟩ = some (.int .i64 7) := by simp [go_sem]
  have a1 : World.cell? ((w.alloc (.cells m.cells 37)).alloc (.cells #[.int .i64 7, .int .i64 n, .int .i64 p] 58)) ⟨w.heap.size + 1, 1, none⟩ = some (.int .i64 n) := by simp [go_sem]
  have a2 : World.cell? ((w.alloc (.cells m.cells 37)).alloc (.cells #[.int .i64 7, .int .i64 n, .int .i64 p] 58)) ⟨w.heap.size + 1, 2, none⟩ = some (.int .i64 p) := by simp [go_sem]
  generalize ((w.alloc (.cells m.cells 37)).alloc (.cells #[.int .i64 7, .int .i64 n, .int .i64 p] 58)) = V at *
  go_wp2_with fail
  refine (place_any 7 n p _ (HT.out.to HB.out)).mono ?_
  rw [hj]
  rintro e w1 ⟨rfl, hb1⟩
  have HB1 : Hid (Below w.heap.size w w1) := HB.out.trans (hb1.mono HB.out.size)
  have HI1 : Hid (MemAt w1 w.heap.size m) := HI.out.to hb1
  have b0 : w1.cell? ⟨w.heap.size + 1, 0, none⟩ = some (.int .i64 7) := (hb1.cell (p := ⟨w.heap.size + 1, 0, none⟩) (World.block_lt_of_cell? V _ a0)).trans a0
  clear hb1 HB HI a0 a1 a2
  have c0 : w1.cell? ⟨w.heap.size, 5 + j * 2, none⟩ = some (.bool (m.td j)) := (cell_of_row _ _ _ _ _ _ HI1.out).trans (m.at_td hlt)
  go_wp2
  go_ret
  exact ⟨rfl, HB1.out⟩

set_option maxHeartbeats 1000000 in
set_option maxRecDepth 10000 in
theorem ibit_8 (m : Mm) (_hok : m.Ok) (n p : Int) (w : World) (hT : DevTab w) :
    Calls Tryd.prog 42 #[m.val, .agg #[.int .i64 8, .int .i64 n, .int .i64 p]] w fun e w' => e = .returned (.bool (m.bit 8 n)) ∧ Below w.heap.size w w' := by
  have HT : Hid (DevTab w) := hT
  clear hT
  obtain ⟨j, hj⟩ := Int.eq_ofNat_of_zero_le (plc_range 8 n).1
  have hlt : j < 16 := by
    have := (plc_range 8 n).2
    rw [hj, show sz4 8 = 16 from rfl] at this
    omega
  have hlt' : (j : Int) < 16 := by omega
  have HE : Hid (m.bit 8 n = m.cd j) := by
    show m.cd (plc 8 n).toNat = m.cd j
    rw [hj]; rfl
  rw [HE.out]
  clear _hok
  unfold Mm.val
  go_enter Tryd.func42, Tryd.ntmps42
  go_upto_region 1 with fail
  have HB : Hid (Below w.heap.size w ((w.alloc (.cells m.cells 37)).alloc (.cells #[.int .i64 8, .int .i64 n, .int .i64 p] 58))) := ((Below.refl _ _).alloc (Nat.le_refl _) _).alloc (by simp) _
  have HI : Hid (MemAt ((w.alloc (.cells m.cells 37)).alloc (.cells #[.int .i64 8, .int .i64 n, .int .i64 p] 58)) w.heap.size m) := (RowAt.new w 37 136 m.cell).alloc _
  have a0 : World.cell? ((w.alloc (.cells m.cells 37)).alloc (.cells #[.int .i64 8, .int .i64 n, .int .i64 p] 58)) ⟨w.heap.size + 1, 0, none⟩ = some (.int .i64 8) := by simp [go_sem]
  have a1 : World.cell? ((w.alloc (.cells m.cells 37)).alloc (.cells #[.int .i64 8, .int .i64 n, .int .i64 p] 58)) ⟨w.heap.size + 1, 1, none⟩ = some (.int .i64 n) := by simp [go_sem]
  have a2 : World.cell? ((w.alloc (.cells m.cells 37)).alloc (.cells #[.int .i64 8, .int .i64 n, .int .i64 p] 58)) ⟨w.heap.size + 1, 2, none⟩ = some (.int .i64 p) := by simp [go_sem]
  generalize ((w.alloc (.cells m.cells 37)).alloc (.cells #[.int .i64 8, .int .i64 n, .int .i64 p] 58)) = V at *
  go_wp2_with fail
  refine (place_any 8 n p _ (HT.out.to HB.out)).mono ?_
  rw [hj]
  rintro e w1 ⟨rfl, hb1⟩
  have HB1 : Hid (Below w.heap.size w w1) := HB.out.trans (hb1.mono HB.out.size)
  have HI1 : Hid (MemAt w1 w.heap.size m) := HI.out.to hb1
  have b0 : w1.cell? ⟨w.heap.size + 1, 0, none⟩ = some (.int .i64 8) := (hb1.cell (p := ⟨w.heap.size + 1, 0, none⟩) (World.block_lt_of_cell? V _ a0)).trans a0
  clear hb1 HB HI a0 a1 a2
  have c0 : w1.cell? ⟨w.heap.size, 37 + j * 3, none⟩ = some (.bool (m.cd j)) := (cell_of_row _ _ _ _ _ _ HI1.out).trans (m.at_cd hlt)
  go_wp2
  go_ret
  exact ⟨rfl, HB1.out⟩

set_option maxHeartbeats 1000000 in
set_option maxRecDepth 10000 in
theorem ibit_no (m : Mm) (hok : m.Ok) (k : Int) (n p : Int) (w : World) (hT : DevTab w) (hk : k ≠ 6 ∧ k ≠ 7 ∧ k ≠ 8) :
    Calls Tryd.prog 42 #[m.val, .agg #[.int .i64 k, .int .i64 n, .int .i64 p]] w fun e w' => e = .returned (.bool (m.bit k n)) ∧ Below w.heap.size w w' := by
  have HT : Hid (DevTab w) := hT
  clear hT
  obtain ⟨j, hj⟩ := Int.eq_ofNat_of_zero_le (plc_range k n).1
  have hlt : j < 64 := by
    have := (plc_range k n).2
    rw [hj] at this
    rcases sz4_cases k with h | h | h | h | h <;> omega
  have k6 : (k == 6) = false := by simp only [beq_eq_false_iff_ne, ne_eq]; omega
  have k7 : (k == 7) = false := by simp only [beq_eq_false_iff_ne, ne_eq]; omega
  have k8 : (k == 8) = false := by simp only [beq_eq_false_iff_ne, ne_eq]; omega
  have HG : Hid (∀ W, Calls Tryd.prog 65 #[m.val, .int .i64 k] W fun e w' => e = .returned (.int .u64 (m.packed k : Nat)) ∧ Below W.heap.size W w') := fun W => packed_any m hok k W
  have hP : m.packed k < 18446744073709551616 := packed_lt hok k
  have HE : Hid (m.bit k n = bitN (m.packed k) j) := by
    show _ = _
    rw [bit_packed m k n hk, hj]; rfl
  rw [HE.out]
  clear hok hk
  generalize m.packed k = pk at *
  obtain ⟨u, hu⟩ : ∃ u : Nat, u = pk / 2 ^ j := ⟨_, rfl⟩
  have hs : (pk : Int) / 2 ^ j = (u : Int) := by rw [hu, Int.natCast_ediv, Int.natCast_pow]; rfl
  have hul : u < 18446744073709551616 := by rw [hu]; exact Nat.lt_of_le_of_lt (Nat.div_le_self _ _) hP
  obtain ⟨r, hr⟩ : ∃ r : Nat, r = u % 2 := ⟨_, rfl⟩
  have ha : bits .and .u64 (u : Int) 1 = (r : Int) := by
    have := u64_and_nat u 1 hul (by decide)
    rw [Nat.and_one_is_mod, ← hr] at this
    exact this
  have HD : Hid (((r : Int) == 1) = bitN pk j) := by
    show _ = _
    unfold bitN
    rw [← hu, ← hr]
    by_cases h : r = 1
    · subst h; rfl
    · have : ¬ (r : Int) = 1 := by omega
      simp [h, this]
  have hj0 : (0 : Int) ≤ (j : Int) := by omega
  have hj1 : (j : Int) ≤ 64 := by omega
  clear hu hr hul hP
  generalize bitN pk j = res at *
  unfold Mm.val
  go_enter Tryd.func42, Tryd.ntmps42
  go_upto_region 1 with fail
  have HB : Hid (Below w.heap.size w ((w.alloc (.cells m.cells 37)).alloc (.cells #[.int .i64 k, .int .i64 n, .int .i64 p] 58))) := ((Below.refl _ _).alloc (Nat.le_refl _) _).alloc (by simp) _
  have HI : Hid (MemAt ((w.alloc (.cells m.cells 37)).alloc (.cells #[.int .i64 k, .int .i64 n, .int .i64 p] 58)) w.heap.size m) := (RowAt.new w 37 136 m.cell).alloc _
  have a0 : World.cell? ((w.alloc (.cells m.cells 37)).alloc (.cells #[.int .i64 k, .int .i64 n, .int .i64 p] 58)) ⟨w.heap.size + 1, 0, none⟩ = some (.int .i64 k) := by simp [go_sem]
  have a1 : World.cell? ((w.alloc (.cells m.cells 37)).alloc (.cells #[.int .i64 k, .int .i64 n, .int .i64 p] 58)) ⟨w.heap.size + 1, 1, none⟩ = some (.int .i64 n) := by simp [go_sem]
  have a2 : World.cell? ((w.alloc (.cells m.cells 37)).alloc (.cells #[.int .i64 k, .int .i64 n, .int .i64 p] 58)) ⟨w.heap.size + 1, 2, none⟩ = some (.int .i64 p) := by simp [go_sem]
  generalize ((w.alloc (.cells m.cells 37)).alloc (.cells #[.int .i64 k, .int .i64 n, .int .i64 p] 58)) = V at *
  go_wp2_with fail
  refine (place_any k n p _ (HT.out.to HB.out)).mono ?_
  rw [hj]
  rintro e w1 ⟨rfl, hb1⟩
  have HB1 : Hid (Below w.heap.size w w1) := HB.out.trans (hb1.mono HB.out.size)
  have HI1 : Hid (MemAt w1 w.heap.size m) := HI.out.to hb1
  have b0 : w1.cell? ⟨w.heap.size + 1, 0, none⟩ = some (.int .i64 k) := (hb1.cell (p := ⟨w.heap.size + 1, 0, none⟩) (World.block_lt_of_cell? V _ a0)).trans a0
  clear hb1 HB HI a0 a1 a2
  go_wp2_with (refine wpList_rowLoad rfl 37 (.tmp 2) rfl _ 0 136 m.cell rfl HI1.out (by omega) (fun i _ => by rw [Nat.zero_add]) Tryd.underlying37 rfl (by kernel_rfl) ?_)
  refine (HG.out _).mono ?_
  rintro e w2 ⟨rfl, hb2⟩
  have HB2 : Hid (Below w.heap.size w w2) := HB1.out.trans (hb2.mono HB1.out.size)
  clear hb2 HG
  go_wp2
  go_ret
  exact ⟨ret_bool4 HD.out, HB2.out⟩
theorem ibit_any (m : Mm) (hok : m.Ok) (k n p : Int) (w : World) (hT : DevTab w) :
    Calls Tryd.prog 42 #[m.val, .agg #[.int .i64 k, .int .i64 n, .int .i64 p]] w fun e w' => e = .returned (.bool (m.bit k n)) ∧ Below w.heap.size w w' := by
  by_cases h : k ≠ 6 ∧ k ≠ 7 ∧ k ≠ 8
  · exact ibit_no m hok k n p w hT h
  · have : k = 6 ∨ k = 7 ∨ k = 8 := by omega
    rcases this with rfl | rfl | rfl
    · exact ibit_6 m hok n p w hT
    · exact ibit_7 m hok n p w hT
    · exact ibit_8 m hok n p w hT
end Go.Proofs.YtlflihegadjpdaaDoor

/- The program's words of a memory: marks, timers, counters, bits. Helper text: no statement is claimed here. -/
namespace Go.Proofs.YtlflihegadjpdaaDoor
open Go.ChangeShapes Go.WideShapes Go.ChangeAt Go.RowKit Fl

theorem imark_any (b : Bool) (l : List UInt8) (w : World) :
    Calls Tryd.prog 69 #[.string ⟨l.toArray⟩, .bool b] w fun e w' => e = .returned (.string ⟨(mkT b l).toArray⟩) ∧ w' = w := by
  cases b
  all_goals
    go_enter Tryd.func69, Tryd.ntmps69
    go_wp2
    go_ret
    exact ⟨rfl, rfl⟩
theorem imarkG {W : World} {b : Bool} {l : List UInt8} (d : Nat) (os : Array Obj) :
    Calls Tryd.prog 69 #[.string ⟨l.toArray⟩, .bool b] (Sort.grow (redrawn W d) os) fun e w'' => e = .returned (.string ⟨(mkT b l).toArray⟩) ∧ ∃ q : Regrown, w'' = Sort.grow (redrawn W q.d) q.os :=
  (imark_any b l _).mono fun _ _ ⟨he, hw⟩ => ⟨he, ⟨d, os⟩, hw⟩
theorem itoaW {W : World} {n : Int} (hP : PowTab W) (h0 : -9223372036854775808 ≤ n) (h1 : n ≤ 9223372036854775807) (d : Nat) (os : Array Obj) :
    Calls Tryd.prog 47 #[.int .i64 n] (Sort.grow (redrawn W d) os) fun e w'' => e = .returned (.string ⟨(Lib.itoa n).toArray⟩) ∧ ∃ q : Regrown, w'' = Sort.grow (redrawn W q.d) q.os :=
  Calls.regrown_of (itoa_any _ _ h0 h1 (hP.to (below_regrown _ d os)))

set_option maxHeartbeats 400000 in
theorem timerText_any (td : Bool) (tc : Nat) (w : World) (htc : tc < 65536) (hP : PowTab w) :
    Calls Tryd.prog 45 #[.agg #[.bool td, .int .u16 (tc : Int)]] w fun e w' => e = .returned (.string ⟨(Lib.itoa (tc : Int) ++ mkT td [33]).toArray⟩) ∧ Below w.heap.size w w' := by
  have hli := itoa_len (tc : Int) (by omega) (by omega)
  have hlk := mkT_len td 33
  go_enter Tryd.func45, Tryd.ntmps45
  go_upto_region 1 with fail
  have HB : Hid (Below w.heap.size w (w.alloc (.cells #[.bool td, .int .u16 (tc : Int)] 27))) := (Below.refl _ _).alloc (Nat.le_refl _) _
  have d0 : (w.alloc (.cells #[.bool td, .int .u16 (tc : Int)] 27)).cell? ⟨w.heap.size, 0, none⟩ = some (.bool td) := by simp [go_sem]
  have d1 : (w.alloc (.cells #[.bool td, .int .u16 (tc : Int)] 27)).cell? ⟨w.heap.size, 1, none⟩ = some (.int .u16 (tc : Int)) := by simp [go_sem]
  have hP1 := hP.alloc (.cells #[.bool td, .int .u16 (tc : Int)] 27)
  clear hP
  generalize w.alloc (.cells #[.bool td, .int .u16 (tc : Int)] 27) = V at *
  have k0 := cell_regrown d0
  have k1 := cell_regrown d1
  refine wp_region_quiet_below (by kernel_rfl) (by kernel_rfl) ?_
  repeat (first | go_big_quiet_step ((first | exact imarkG _ _ | exact itoaW hP1 (by omega) (by omega) _ _)) | quiet_step ((first | exact imarkG _ _ | exact itoaW hP1 (by omega) (by omega) _ _)))
  refine wpQuiet_nil ?_
  intro _ hw'
  obtain ⟨⟨dq, osq⟩, hw''⟩ := hw'
  subst hw''
  go_wp2
  go_ret
  exact ⟨ret_str (cat _ _), HB.out.trans ((below_regrown _ dq osq).mono HB.out.size)⟩

set_option maxHeartbeats 400000 in
theorem counterText_any (cd cl : Bool) (cc : Nat) (w : World) (htc : cc < 65536) (hP : PowTab w) :
    Calls Tryd.prog 46 #[.agg #[.bool cd, .bool cl, .int .u16 (cc : Int)]] w fun e w' => e = .returned (.string ⟨(Lib.itoa (cc : Int) ++ mkT cd [33] ++ mkT cl [43]).toArray⟩) ∧ Below w.heap.size w w' := by
  have hli := itoa_len (cc : Int) (by omega) (by omega)
  have hlk := mkT_len cd 33
  have hll := mkT_len cl 43
  go_enter Tryd.func46, Tryd.ntmps46
  go_upto_region 1 with fail
  have HB : Hid (Below w.heap.size w (w.alloc (.cells #[.bool cd, .bool cl, .int .u16 (cc : Int)] 30))) := (Below.refl _ _).alloc (Nat.le_refl _) _
  have d0 : (w.alloc (.cells #[.bool cd, .bool cl, .int .u16 (cc : Int)] 30)).cell? ⟨w.heap.size, 0, none⟩ = some (.bool cd) := by simp [go_sem]
  have d1 : (w.alloc (.cells #[.bool cd, .bool cl, .int .u16 (cc : Int)] 30)).cell? ⟨w.heap.size, 1, none⟩ = some (.bool cl) := by simp [go_sem]
  have d2 : (w.alloc (.cells #[.bool cd, .bool cl, .int .u16 (cc : Int)] 30)).cell? ⟨w.heap.size, 2, none⟩ = some (.int .u16 (cc : Int)) := by simp [go_sem]
  have hP1 := hP.alloc (.cells #[.bool cd, .bool cl, .int .u16 (cc : Int)] 30)
  clear hP
  generalize w.alloc (.cells #[.bool cd, .bool cl, .int .u16 (cc : Int)] 30) = V at *
  have k0 := cell_regrown d0
  have k1 := cell_regrown d1
  have k2 := cell_regrown d2
  refine wp_region_quiet_below (by kernel_rfl) (by kernel_rfl) ?_
  repeat (first | go_big_quiet_step ((first | exact imarkG _ _ | exact itoaW hP1 (by omega) (by omega) _ _)) | quiet_step ((first | exact imarkG _ _ | exact itoaW hP1 (by omega) (by omega) _ _)))
  refine wpQuiet_nil ?_
  intro _ hw'
  obtain ⟨⟨dq, osq⟩, hw''⟩ := hw'
  subst hw''
  go_wp2
  go_ret
  exact ⟨ret_str (by rw [cat, cat]), HB.out.trans ((below_regrown _ dq osq).mono HB.out.size)⟩

theorem cat_w (a b : List UInt8) : (⟨a.toArray⟩ : ByteArray) ++ ⟨#[61]⟩ ++ ⟨b.toArray⟩ = ⟨(a ++ ([61] ++ b)).toArray⟩ := by
  have h := cat a [61]
  rw [← List.append_assoc, ← cat, ← h]
set_option maxHeartbeats 400000 in
theorem numberWord_any (k : Int) (i : Nat) (t : List UInt8) (w : World) (hT : DevTab w) (hP : PowTab w) (hk1 : 1 ≤ k) (hk2 : k ≤ 10) (hi : (i : Int) < 64) (hn : (i : Int) < rN (kz k)) (ht : t.length ≤ 100) :
    Calls Tryd.prog 44 #[.int .i64 k, .int .i64 (i : Int), .string ⟨t.toArray⟩] w fun e w' => e = .returned (.string ⟨(dvT k i ++ ([61] ++ t)).toArray⟩) ∧ Below w.heap.size w w' := by
  have hl := dvT_len k (i := i) (by omega)
  have HC : Hid (∀ W, DevTab W → PowTab W → Calls Tryd.prog 43 #[.agg #[.int .i64 k, .int .i64 (i : Int), .int .i64 0]] W fun e w' => e = .returned (.string ⟨(dvT k i).toArray⟩) ∧ Below W.heap.size W w') := fun W h1 h2 => itext_dv k i W h1 h2 hk1 hk2 (by omega) hi hn
  generalize dvT k i = dt at *
  clear hk1 hk2 hn
  go_enter Tryd.func44, Tryd.ntmps44
  go_wp2_with fail
  refine (HC.out _ hT hP).mono ?_
  rintro e w1 ⟨rfl, hb⟩
  go_wp2
  go_ret
  exact ⟨ret_str (cat_w _ _), hb⟩
end Go.Proofs.YtlflihegadjpdaaDoor

/- The program's words of bits: memBitWords. Helper text: no statement is claimed here. -/
namespace Go.Proofs.YtlflihegadjpdaaDoor
open Go.ChangeShapes Go.WideShapes Go.ChangeAt Go.RowKit Fl

/-- The words of bits as far as place i of kind j. -/
def wI (m : Mm) (j i : Nat) : List (List UInt8) := upto (kindW m) j ++ upto (bitW m ((j : Int) + 1)) i
theorem wI_0 (m : Mm) (j : Nat) : wI m j 0 = upto (kindW m) j := by simp [wI, upto_zero]
theorem wI_end (m : Mm) (j : Nat) : wI m j (bits5 j) = upto (kindW m) (j + 1) := by rw [upto_succ]; rfl
theorem wI_no {m : Mm} {j i : Nat} (h : m.bit ((j : Int) + 1) (i : Int) = false) : wI m j (i + 1) = wI m j i := by
  unfold wI; rw [upto_succ]; simp [bitW, h]
theorem wI_yes {m : Mm} {j i : Nat} (h : m.bit ((j : Int) + 1) (i : Int) = true) : wI m j (i + 1) = wI m j i ++ [dvT ((j : Int) + 1) i] := by
  unfold wI; rw [upto_succ]; simp [bitW, h]
theorem wI_len (m : Mm) {j i : Nat} (hj : j < 5) (hi : i ≤ bits5 j) : (wI m j i).length ≤ 400 := by
  have h1 := (fits_kind m (j := j)).1
  have h2 := bits5_le j
  have h3 := (fits_bit m ((j : Int) + 1) (j := i) (by omega)).1
  unfold wI
  rw [List.length_append]
  omega

theorem keepC {V w1 : World} (hb : Below V.heap.size V w1) {b i : Nat} {v : Value} (h : V.cell? ⟨b, i, none⟩ = some v) : w1.cell? ⟨b, i, none⟩ = some v := (hb.cell (p := ⟨b, i, none⟩) (World.block_lt_of_cell? V ⟨b, i, none⟩ h)).trans h

set_option maxHeartbeats 1000000 in
set_option maxRecDepth 10000 in
theorem bitWords_any (m : Mm) (hok : m.Ok) (w : World) (hT : DevTab w) (hP : PowTab w) :
    Calls Tryd.prog 18 #[m.val] w fun e w' => ∃ v, e = .returned v ∧ Hid (SRow w' w.heap.size v (bitsW m)) ∧ Below w.heap.size w w' := by
  have HBit : Hid (∀ (k n : Int) W, DevTab W → Calls Tryd.prog 42 #[m.val, .agg #[.int .i64 k, .int .i64 n, .int .i64 0]] W fun e w' => e = .returned (.bool (m.bit k n)) ∧ Below W.heap.size W w') := fun k n W h => ibit_any m hok k n 0 W h
  clear hok
  have HT : Hid (DevTab w) := hT
  have HP : Hid (PowTab w) := hP
  clear hT hP
  unfold Mm.val
  go_enter Tryd.func18, Tryd.ntmps18
  go_wp2
  have HB0 : Hid (Below w.heap.size w (w.alloc (.cells m.cells 37))) := (Below.refl _ _).alloc (Nat.le_refl _) _
  have HM0 : Hid (MemAt (w.alloc (.cells m.cells 37)) w.heap.size m) := RowAt.new w _ 136 m.cell
  generalize (w.alloc (.cells m.cells 37)) = V at *
  have HT0 : Hid (DevTab V) := HT.out.to HB0.out
  have HP0 : Hid (PowTab V) := HP.out.to HB0.out
  clear HT HP
  go_loopw [4, 3] (fun c o w' => ∃ j : Nat, j ≤ 5 ∧ c = .int .i64 ((j : Int) + 1) ∧ Hid (SRow w' V.heap.size o (upto (kindW m) j)) ∧ Hid (Below V.heap.size V w')) (fun c _ _ => 6 - (intOf c).toNat)
  case atStart => exact ⟨0, by omega, rfl, SRow.nil _ _, Below.refl _ _⟩
  case round =>
    obtain ⟨j, hj, rfl, HR, HB⟩ := hrel
    rename_i wr
    by_cases hlt : j < 5
    · have hlt' : (j : Int) + 1 ≤ 5 := by omega
      have HS : Hid (∀ W, DevTab W → Calls Tryd.prog 41 #[.int .i64 ((j : Int) + 1)] W fun e w' => e = .returned (.int .i64 (bits5 j : Int)) ∧ Below W.heap.size W w') := fun W h => by
        have h1 := size_any ((j : Int) + 1) W h
        have h0 := (rN_bd (kz ((j : Int) + 1))).1
        rwa [show ((bits5 j : Nat) : Int) = rN (kz ((j : Int) + 1)) by unfold bits5; omega]
      go_wp2_with fail
      refine (HS.out _ (HT0.out.to HB.out)).mono ?_
      rintro e w1 ⟨rfl, hb1⟩
      have HB1 : Hid (Below V.heap.size V w1) := HB.out.trans (hb1.mono HB.out.size)
      have HR1 : Hid (SRow w1 V.heap.size u3 (wI m j 0)) := by
        show SRow w1 V.heap.size u3 (wI m j 0)
        rw [wI_0]
        exact HR.out.to hb1
      clear hb1 HS HR HB
      have hN := bits5_le j
      go_wp2
      go_loopw [13, 3] (fun c o w' => ∃ (i : Nat) (W : World), W = w' ∧ i ≤ bits5 j ∧ c = .int .i64 (i : Int) ∧ Hid (SRow W V.heap.size o (wI m j i)) ∧ Hid (Below V.heap.size V W)) (fun c _ _ => bits5 j - (intOf c).toNat)
      case atStart => exact ⟨0, _, rfl, by omega, rfl, HR1, HB1⟩
      case round =>
        clear HR1 HB1
        obtain ⟨i, ws, rfl, hi, rfl, HR, HB⟩ := hrel
        by_cases hil : i < bits5 j
        · have hil' : (i : Int) < (bits5 j : Int) := by omega
          have HD : Hid (∀ W, DevTab W → PowTab W → Calls Tryd.prog 43 #[.agg #[.int .i64 ((j : Int) + 1), .int .i64 (i : Int), .int .i64 0]] W fun e w' => e = .returned (.string ⟨(dvT ((j : Int) + 1) i).toArray⟩) ∧ Below W.heap.size W w') := fun W h1 h2 =>
            itext_dv ((j : Int) + 1) i W h1 h2 (by omega) (by omega) (by omega) (by omega) (by unfold bits5 at hil; omega)
          go_upto_region 9 with fail
          have HB2 : Hid (Below V.heap.size V (ws.alloc (.cells #[.int .i64 ((j : Int) + 1), .int .i64 (i : Int), .int .i64 0] 58))) := HB.out.alloc HB.out.size _
          have HR2 : Hid (SRow (ws.alloc (.cells #[.int .i64 ((j : Int) + 1), .int .i64 (i : Int), .int .i64 0] 58)) V.heap.size u3 (wI m j i)) := HR.out.to ((Below.refl _ _).alloc (Nat.le_refl _) _)
          have HM2 : Hid (MemAt (ws.alloc (.cells #[.int .i64 ((j : Int) + 1), .int .i64 (i : Int), .int .i64 0] 58)) w.heap.size m) := HM0.out.to HB2.out
          obtain ⟨c0, c1, c2⟩ := arg_at ((j : Int) + 1) (i : Int) 0 ws
          clear HR HB
          generalize (ws.alloc (.cells #[.int .i64 ((j : Int) + 1), .int .i64 (i : Int), .int .i64 0] 58)) = W at *
          generalize ws.heap.size = B at *
          go_wp2_with (first | (refine wpList_rowLoad rfl 37 (.tmp 1) rfl _ 0 136 m.cell rfl HM2.out (by omega) (fun i _ => by rw [Nat.zero_add]) Tryd.underlying37 rfl (by kernel_rfl) ?_) | fail)
          refine (HBit.out _ _ _ (HT0.out.to HB2.out)).mono ?_
          rintro e w3 ⟨rfl, hb3⟩
          have HB3 : Hid (Below V.heap.size V w3) := HB2.out.trans (hb3.mono HB2.out.size)
          have HR3 : Hid (SRow w3 V.heap.size u3 (wI m j i)) := HR2.out.to hb3
          have d0 := keepC hb3 c0
          have d1 := keepC hb3 c1
          have d2 := keepC hb3 c2
          clear hb3 HB2 HR2 c0 c1 c2 HM2
          have HW0 : Hid (m.bit ((j : Int) + 1) (i : Int) = false → wI m j (i + 1) = wI m j i) := wI_no
          have HW1 : Hid (m.bit ((j : Int) + 1) (i : Int) = true → wI m j (i + 1) = wI m j i ++ [dvT ((j : Int) + 1) i]) := wI_yes
          have hwl := wI_len m hlt hi
          generalize m.bit ((j : Int) + 1) (i : Int) = bb at *
          cases bb
          · have HW : Hid (SRow w3 V.heap.size u3 (wI m j (i + 1))) := by
              show SRow w3 V.heap.size u3 (wI m j (i + 1))
              rw [HW0.out rfl]
              exact HR3.out
            clear HW0 HW1 HR3
            go_wp2
            exact ⟨⟨i + 1, _, rfl, by omega, by go_num, HW, HB3⟩, by simp [intOf]; omega⟩
          · have HW : Hid (wI m j (i + 1) = wI m j i ++ [dvT ((j : Int) + 1) i]) := HW1.out rfl
            clear HW0 HW1
            generalize wI m j i = wi0 at *
            go_wp2_with fail
            refine (HD.out _ (HT0.out.to HB3.out) (HP0.out.to HB3.out)).mono ?_
            rintro e w4 ⟨rfl, hb4⟩
            have HB4 : Hid (Below V.heap.size V w4) := HB3.out.trans (hb4.mono HB3.out.size)
            have HR4 : Hid (SRow w4 V.heap.size u3 wi0) := HR3.out.to hb4
            clear hb4 HB3 HR3 d0 d1 d2 HD
            generalize dvT ((j : Int) + 1) i = dt at *
            have hbs : V.heap.size ≤ w4.heap.size := HB4.out.size
            have HC := sone_cell w4 dt
            go_wp2_with (refine wpList_sapp _ rfl _ _ rfl V.heap.size _ wi0 [dt] rfl (HR4.out.to ((Below.refl _ _).alloc (Nat.le_refl _) _)) w4.heap.size 1 rfl HC (by simp; omega) (by simp; omega) ?_)
            intro v5 w5 HR5 hb5
            have HB5 : Hid (Below V.heap.size V w5) := (HB4.out.alloc HB4.out.size _).trans hb5.out
            have HW5 : Hid (SRow w5 V.heap.size v5 (wI m j (i + 1))) := by
              show SRow w5 V.heap.size v5 (wI m j (i + 1))
              rw [HW.out]
              exact HR5.out
            clear HR5 hb5 HB4 HR4 HC hbs HW
            go_wp2
            exact ⟨⟨i + 1, _, rfl, by omega, by go_num, HW5, HB5⟩, by simp [intOf]; omega⟩
        · have hil' : ¬ (i : Int) < (bits5 j : Int) := by omega
          obtain rfl : i = bits5 j := by omega
          have HW : Hid (SRow ws V.heap.size u3 (upto (kindW m) (j + 1))) := by
            show SRow ws V.heap.size u3 (upto (kindW m) (j + 1))
            rw [← wI_end]
            exact HR.out
          clear HR
          go_wp2
          exact ⟨⟨j + 1, by omega, by go_num, HW, HB⟩, by simp [intOf]; omega⟩
    · have hlt' : ¬ (j : Int) + 1 ≤ 5 := by omega
      obtain rfl : j = 5 := by omega
      go_wp2
      go_ret
      exact ⟨_, rfl, HR.out.low HB0.out.size, HB0.out.trans (HB.out.mono HB0.out.size)⟩
end Go.Proofs.YtlflihegadjpdaaDoor

/- Places of a memory's arrays, by value. Helper text: no statement is claimed here. -/
namespace Go.Proofs.YtlflihegadjpdaaDoor
open Go.ChangeShapes Go.WideShapes Go.ChangeAt Go.RowKit

theorem ext_two {n : Nat} (f : Nat → Value) {a : Nat} (h : a + 2 ≤ n) : (cellsOf n f).extract a (a + 2) = #[f a, f (a + 1)] := by
  apply Array.ext
  · simp [cellsOf_size]; omega
  · intro i h1 h2
    have : i = 0 ∨ i = 1 := by simp at h2; omega
    rcases this with rfl | rfl <;> simp [cellsOf]
theorem ext_three {n : Nat} (f : Nat → Value) {a : Nat} (h : a + 3 ≤ n) : (cellsOf n f).extract a (a + 3) = #[f a, f (a + 1), f (a + 2)] := by
  apply Array.ext
  · simp [cellsOf_size]; omega
  · intro i h1 h2
    have : i = 0 ∨ i = 1 ∨ i = 2 := by simp at h2; omega
    rcases this with rfl | rfl | rfl <;> simp [cellsOf]
theorem idxT (m : Mm) {j : Nat} (hj : j < 16) (w : World) : (Instr.index 28 (.agg (cellsOf 32 m.tcell)) (.int .i64 (j : Int))).run Tryd.prog w = .ok (.agg #[.bool (m.td j), .int .u16 (m.tc j : Int)]) w := by
  simp [Instr.index, run_underlying Tryd.underlying28, asIntOf, go_sem]
  rw [if_pos hj, ext_two _ (by omega), m.tcell_d, m.tcell_c]
theorem idxC (m : Mm) {j : Nat} (hj : j < 16) (w : World) : (Instr.index 31 (.agg (cellsOf 48 m.ccell)) (.int .i64 (j : Int))).run Tryd.prog w = .ok (.agg #[.bool (m.cd j), .bool (m.cl j), .int .u16 (m.cc j : Int)]) w := by
  simp [Instr.index, run_underlying Tryd.underlying31, asIntOf, go_sem]
  rw [if_pos hj, ext_three _ (by omega), m.ccell_d, m.ccell_l, m.ccell_c]
theorem idxD (m : Mm) {j : Nat} (hj : j < 32) (w : World) : (Instr.index 33 (.agg (cellsOf 32 m.dcell)) (.int .i64 (j : Int))).run Tryd.prog w = .ok (.int .i16 (m.d j)) w := by
  have h := cellsOf_at m.dcell hj
  simp [Instr.index, run_underlying Tryd.underlying33, asIntOf, h, go_sem]
  rw [if_pos hj]
  rfl
theorem idxR (m : Mm) {j : Nat} (hj : j < 16) (w : World) : (Instr.index 35 (.agg (cellsOf 16 m.rcell)) (.int .i64 (j : Int))).run Tryd.prog w = .ok (.float .f64 (m.r j)) w := by
  have h := cellsOf_at m.rcell hj
  simp [Instr.index, run_underlying Tryd.underlying35, asIntOf, h, go_sem]
  rw [if_pos hj]
  rfl
end Go.Proofs.YtlflihegadjpdaaDoor
