/- Decimal numbers as texts: devDecText and l1Dec. Helper text: no statement is claimed here. -/
import Derived.Test.YtlddkhhaclfmiaaGreatDoorP01
import Derived.Deep.RegionWith
namespace Go.Proofs.YtlddkhhaclfmiaaGreatDoor
open Go.ChangeShapes Go.WideShapes Go.ChangeAt Go.RowKit

/-- Zeros put ahead, so that more than p bytes stand there. -/
def padL (p : Nat) (l : List UInt8) : List UInt8 := List.replicate (p + 1 - l.length) 48 ++ l
/-- The last p bytes behind a point. -/
def ptL (p : Nat) (s : List UInt8) : List UInt8 := s.take (s.length - p) ++ 46 :: s.drop (s.length - p)
def decT (n : Int) (p : Nat) : List UInt8 := if n < 0 then 45 :: ptL p (padL p (Lib.decDigits n.natAbs)) else ptL p (padL p (Lib.decDigits n.toNat))
theorem padL_len (p : Nat) (l : List UInt8) (h : l.length ≤ 30) (hp : p ≤ 6) : p < (padL p l).length ∧ (padL p l).length ≤ 40 := by
  simp [padL]; omega
theorem padL_long (p : Nat) (l : List UInt8) (h : ¬ l.length ≤ p) : padL p l = l := by
  simp [padL, show p + 1 - l.length = 0 by omega]
theorem rep48 : ∀ c : Nat, Lib.repeatL [48] c = List.replicate c 48
  | 0 => rfl
  | c + 1 => by rw [Lib.repeatL, rep48 c, List.replicate_succ]; rfl

theorem ext0 (l : List UInt8) (k : Nat) : (⟨l.toArray⟩ : ByteArray).extract 0 k = ⟨(l.take k).toArray⟩ := by
  apply ByteArray.ext
  simp [ByteArray.data_extract]
theorem ext1 (l : List UInt8) (k n : Nat) (hn : n = l.length) : (⟨l.toArray⟩ : ByteArray).extract k n = ⟨(l.drop k).toArray⟩ := by
  apply ByteArray.ext
  subst hn
  simp [ByteArray.data_extract]
  exact List.take_of_length_le (by simp)
theorem pt_str (sg s : List UInt8) (p n : Nat) (hn : n = s.length) : ((⟨sg.toArray⟩ : ByteArray) ++ (⟨s.toArray⟩ : ByteArray).extract 0 (n - p) ++ ⟨#[46]⟩ ++ (⟨s.toArray⟩ : ByteArray).extract (n - p) n : ByteArray) = ⟨(sg ++ ptL p s).toArray⟩ := by
  subst hn
  rw [ext0, ext1 _ _ _ rfl, cat, show (⟨#[46]⟩ : ByteArray) = ⟨([46] : List UInt8).toArray⟩ from rfl, cat, cat]
  simp [ptL]
theorem pt_cat (sg r l : List UInt8) (p n : Nat) (hn : n = r.length + l.length) : ((⟨sg.toArray⟩ : ByteArray) ++ ((⟨r.toArray⟩ : ByteArray) ++ ⟨l.toArray⟩).extract 0 (n - p) ++ ⟨#[46]⟩ ++ ((⟨r.toArray⟩ : ByteArray) ++ ⟨l.toArray⟩).extract (n - p) n : ByteArray) = ⟨(sg ++ ptL p (r ++ l)).toArray⟩ := by
  rw [cat]
  exact pt_str sg (r ++ l) p n (by simp [hn])

set_option maxHeartbeats 400000 in
theorem idec_long (u p : Nat) (w : World) (hP : PowTab w) (hu : u ≤ 999999999) (h1 : 1 ≤ p) (h6 : p ≤ 6) (hl : p < (Lib.decDigits u).length) :
    Calls Tryz.prog 57 #[.int .i64 (u : Int), .int .i64 (p : Int)] w fun e w' => e = .returned (.string ⟨(ptL p (Lib.decDigits u)).toArray⟩) ∧ Below w.heap.size w w' := by
  have h2 : ¬ (u : Int) < 0 := by omega
  have hU := digits_len u (by omega)
  go_enter Tryz.func57, Tryz.ntmps57
  go_wp2_with fail
  refine (itoa_any _ _ (by omega) (by omega) hP).mono ?_
  rintro e w1 ⟨rfl, hb⟩
  rw [Lib.itoa_nonneg]
  generalize hg : Lib.decDigits u = l at *
  have HG : Hid (Lib.decDigits u = l) := hg
  clear hg
  have h3 : ¬ (l.length : Int) ≤ p := by omega
  go_wp2
  go_quiet (fail)
  go_wp2
  go_ret
  exact ⟨ret_str ((pt_str [] l p _ rfl).trans (by rw [HG.out]; simp)), below_drewN hb _⟩

set_option maxHeartbeats 400000 in
theorem idec_long_neg (u p : Nat) (w : World) (hP : PowTab w) (h0 : 1 ≤ u) (hu : u ≤ 999999999) (h1 : 1 ≤ p) (h6 : p ≤ 6) (hl : p < (Lib.decDigits u).length) :
    Calls Tryz.prog 57 #[.int .i64 (-(u : Int)), .int .i64 (p : Int)] w fun e w' => e = .returned (.string ⟨(45 :: ptL p (Lib.decDigits u)).toArray⟩) ∧ Below w.heap.size w w' := by
  have h2 : -(u : Int) < 0 := by omega
  have hU := digits_len u (by omega)
  go_enter Tryz.func57, Tryz.ntmps57
  go_wp2_with fail
  refine (itoa_any _ _ (by omega) (by omega) hP).mono ?_
  rintro e w1 ⟨rfl, hb⟩
  rw [Lib.itoa_nonneg]
  generalize hg : Lib.decDigits u = l at *
  have HG : Hid (Lib.decDigits u = l) := hg
  clear hg
  have h3 : ¬ (l.length : Int) ≤ p := by omega
  go_wp2
  go_quiet (fail)
  go_wp2
  go_ret
  exact ⟨ret_str ((pt_str [45] l p _ rfl).trans (by rw [HG.out]; simp)), below_drewN hb _⟩

set_option maxHeartbeats 400000 in
theorem idec_short (u p : Nat) (w : World) (hP : PowTab w) (hu : u ≤ 999999999) (h1 : 1 ≤ p) (h6 : p ≤ 6) (hl : (Lib.decDigits u).length ≤ p) :
    Calls Tryz.prog 57 #[.int .i64 (u : Int), .int .i64 (p : Int)] w fun e w' => e = .returned (.string ⟨(ptL p (padL p (Lib.decDigits u))).toArray⟩) ∧ Below w.heap.size w w' := by
  have h2 : ¬ (u : Int) < 0 := by omega
  go_enter Tryz.func57, Tryz.ntmps57
  go_wp2_with fail
  refine (itoa_any _ _ (by omega) (by omega) hP).mono ?_
  rintro e w1 ⟨rfl, hb⟩
  rw [Lib.itoa_nonneg]
  generalize hg : Lib.decDigits u = l at *
  have HG : Hid (Lib.decDigits u = l) := hg
  clear hg
  have h3 : (l.length : Int) ≤ p := by omega
  go_wp2_with fail
  rw [show ((p : Int) + 1 - (l.length : Int)) = ((p + 1 - l.length : Nat) : Int) by omega]
  refine (repeat_any ⟨#[48]⟩ (p + 1 - l.length) _ (by show 1 * _ ≤ _; omega) (by omega)).mono ?_
  rintro e w2 ⟨rfl, hb2⟩
  rw [show (#[48] : Array UInt8).toList = [48] from rfl, rep48]
  have hr : (List.replicate (p + 1 - l.length) (48 : UInt8)).length = p + 1 - l.length := by simp
  generalize hgr : List.replicate (p + 1 - l.length) (48 : UInt8) = r at *
  have HR : Hid (List.replicate (p + 1 - l.length) (48 : UInt8) = r) := hgr
  have hr1 : r.length + l.length = p + 1 := by omega
  clear hgr hr
  have HR1 : Hid (r.length + l.length = p + 1) := hr1
  clear hr1
  have hr2 : r.length ≤ 10 := by have := HR1.out; omega
  have hr3 : p ≤ r.length + l.length := by have := HR1.out; omega
  go_wp2
  go_quiet (fail)
  go_wp2
  go_ret
  exact ⟨ret_str ((pt_cat [] r l p _ rfl).trans (by rw [HG.out, padL, HR.out]; simp)), below_drewN (hb.trans (hb2.mono hb.size)) _⟩
set_option maxHeartbeats 400000 in
theorem idec_short_neg (u p : Nat) (w : World) (hP : PowTab w) (h0 : 1 ≤ u) (hu : u ≤ 999999999) (h1 : 1 ≤ p) (h6 : p ≤ 6) (hl : (Lib.decDigits u).length ≤ p) :
    Calls Tryz.prog 57 #[.int .i64 (-(u : Int)), .int .i64 (p : Int)] w fun e w' => e = .returned (.string ⟨(45 :: ptL p (padL p (Lib.decDigits u))).toArray⟩) ∧ Below w.heap.size w w' := by
  have h2 : -(u : Int) < 0 := by omega
  go_enter Tryz.func57, Tryz.ntmps57
  go_wp2_with fail
  refine (itoa_any _ _ (by omega) (by omega) hP).mono ?_
  rintro e w1 ⟨rfl, hb⟩
  rw [Lib.itoa_nonneg]
  generalize hg : Lib.decDigits u = l at *
  have HG : Hid (Lib.decDigits u = l) := hg
  clear hg
  have h3 : (l.length : Int) ≤ p := by omega
  go_wp2_with fail
  rw [show ((p : Int) + 1 - (l.length : Int)) = ((p + 1 - l.length : Nat) : Int) by omega]
  refine (repeat_any ⟨#[48]⟩ (p + 1 - l.length) _ (by show 1 * _ ≤ _; omega) (by omega)).mono ?_
  rintro e w2 ⟨rfl, hb2⟩
  rw [show (#[48] : Array UInt8).toList = [48] from rfl, rep48]
  have hr : (List.replicate (p + 1 - l.length) (48 : UInt8)).length = p + 1 - l.length := by simp
  generalize hgr : List.replicate (p + 1 - l.length) (48 : UInt8) = r at *
  have HR : Hid (List.replicate (p + 1 - l.length) (48 : UInt8) = r) := hgr
  have hr1 : r.length + l.length = p + 1 := by omega
  clear hgr hr
  have HR1 : Hid (r.length + l.length = p + 1) := hr1
  clear hr1
  have hr2 : r.length ≤ 10 := by have := HR1.out; omega
  have hr3 : p ≤ r.length + l.length := by have := HR1.out; omega
  go_wp2
  go_quiet (fail)
  go_wp2
  go_ret
  exact ⟨ret_str ((pt_cat [45] r l p _ rfl).trans (by rw [HG.out, padL, HR.out]; simp)), below_drewN (hb.trans (hb2.mono hb.size)) _⟩
theorem idec_any (n : Int) (p : Nat) (w : World) (hP : PowTab w) (h0 : -999999999 ≤ n) (h9 : n ≤ 999999999) (h1 : 1 ≤ p) (h6 : p ≤ 6) :
    Calls Tryz.prog 57 #[.int .i64 n, .int .i64 (p : Int)] w fun e w' => e = .returned (.string ⟨(decT n p).toArray⟩) ∧ Below w.heap.size w w' := by
  by_cases h : n < 0
  · obtain ⟨u, hu⟩ : ∃ u : Nat, n = -(u : Int) := ⟨n.natAbs, by omega⟩
    subst hu
    rw [show decT (-(u : Int)) p = 45 :: ptL p (padL p (Lib.decDigits u)) by unfold decT; rw [if_pos h]; simp]
    by_cases hl : (Lib.decDigits u).length ≤ p
    · exact idec_short_neg u p w hP (by omega) (by omega) h1 h6 hl
    · rw [padL_long p _ hl]
      exact idec_long_neg u p w hP (by omega) (by omega) h1 h6 (by omega)
  · obtain ⟨u, rfl⟩ := Int.eq_ofNat_of_zero_le (show 0 ≤ n by omega)
    rw [show decT (u : Int) p = ptL p (padL p (Lib.decDigits u)) by simp [decT]]
    by_cases hl : (Lib.decDigits u).length ≤ p
    · exact idec_short u p w hP (by omega) h1 h6 hl
    · rw [padL_long p _ hl]
      exact idec_long u p w hP (by omega) h1 h6 (by omega)

/-! The document's own. -/
def strSz : Value → Nat | .string b => b.size | _ => 0
theorem pt_str0 (s : List UInt8) (p n : Nat) (hn : n = s.length) : ((⟨s.toArray⟩ : ByteArray).extract 0 (n - p) ++ ⟨#[46]⟩ ++ (⟨s.toArray⟩ : ByteArray).extract (n - p) n : ByteArray) = ⟨(ptL p s).toArray⟩ := by
  subst hn
  rw [ext0, ext1 _ _ _ rfl, show (⟨#[46]⟩ : ByteArray) = ⟨([46] : List UInt8).toArray⟩ from rfl, cat, cat]
  simp [ptL]
set_option maxHeartbeats 400000 in
theorem sdec_nat (u p : Nat) (w : World) (hu : u ≤ 999999999) (h1 : 1 ≤ p) (h6 : p ≤ 6) :
    Calls Tryz.prog 70 #[.int .i64 (u : Int), .int .i64 (p : Int)] w fun e w' => e = .returned (.string ⟨(ptL p (padL p (Lib.decDigits u))).toArray⟩) ∧ Below w.heap.size w w' := by
  have h2 : ¬ (u : Int) < 0 := by omega
  have hU := digits_len u (by omega)
  go_enter Tryz.func70, Tryz.ntmps70
  go_wp2_with fail
  refine (dec_nat u _ (by omega)).mono ?_
  rintro e w1 ⟨rfl, hb⟩
  generalize hg : Lib.decDigits u = l at *
  have HG : Hid (Lib.decDigits u = l) := hg
  clear hg
  go_wp2
  go_loop [5] (fun s => ∃ t : List UInt8, s = .string ⟨t.toArray⟩ ∧ ∃ j : Nat, t = List.replicate j 48 ++ l ∧ j ≤ p + 1 - l.length) (fun s => 40 - strSz s)
  case atStart => exact ⟨l, rfl, 0, by simp, by omega⟩
  case round =>
    obtain ⟨t, rfl, j, hj, hj2⟩ := hrel
    have hlen : t.length = j + l.length := by rw [hj]; simp
    have HJ : Hid (t = List.replicate j 48 ++ l) := hj
    clear hj
    have ht : t.length ≤ 40 := by omega
    by_cases hlt : t.length ≤ p
    · have hlt' : (t.length : Int) ≤ p := by omega
      have hj3 : j < p + 1 - l.length := by omega
      have HL : Hid (t.length = j + l.length) := hlen
      clear hlen
      go_wp2
      refine ⟨⟨[48] ++ t, congrArg Value.string (cat [48] t), j + 1, by rw [HJ.out]; simp [List.replicate_succ], by omega⟩, ?_⟩
      show 40 - ((⟨#[48]⟩ : ByteArray) ++ ⟨t.toArray⟩).size < 40 - (⟨t.toArray⟩ : ByteArray).size
      have e : ((⟨#[48]⟩ : ByteArray) ++ ⟨t.toArray⟩).size = 1 + t.length := by rw [show (⟨#[48]⟩ : ByteArray) = ⟨([48] : List UInt8).toArray⟩ from rfl, cat]; simp [ByteArray.size]; omega
      have e2 : (⟨t.toArray⟩ : ByteArray).size = t.length := by simp [ByteArray.size]
      omega
    · have hlt' : ¬ (t.length : Int) ≤ p := by omega
      have hpl : Hid (t = padL p l) := by
        have e : j = p + 1 - l.length := by omega
        show t = _
        rw [HJ.out, e]; rfl
      clear hlen
      go_wp2
      go_quiet (fail)
      go_wp2
      go_ret
      exact ⟨ret_str ((pt_str0 t p _ rfl).trans (by rw [HG.out, hpl.out])), below_drewN hb _⟩

set_option maxHeartbeats 400000 in
theorem sdec_neg (u p : Nat) (w : World) (h0 : 1 ≤ u) (hu : u ≤ 999999999) (h1 : 1 ≤ p) (h6 : p ≤ 6) :
    Calls Tryz.prog 70 #[.int .i64 (-(u : Int)), .int .i64 (p : Int)] w fun e w' => e = .returned (.string ⟨(45 :: ptL p (padL p (Lib.decDigits u))).toArray⟩) ∧ Below w.heap.size w w' := by
  have h2 : -(u : Int) < 0 := by omega
  have hl : (ptL p (padL p (Lib.decDigits u))).length ≤ 50 := by
    have h3 := padL_len p _ (show (Lib.decDigits u).length ≤ 30 by have := digits_len u (by omega); omega) h6
    simp [ptL]; omega
  go_enter Tryz.func70, Tryz.ntmps70
  go_wp2_with fail
  refine (sdec_nat u p _ hu h1 h6).mono ?_
  rintro e w1 ⟨rfl, hb⟩
  generalize hg : ptL p (padL p (Lib.decDigits u)) = l at *
  have HG : Hid (ptL p (padL p (Lib.decDigits u)) = l) := hg
  clear hg
  go_wp2
  go_ret
  exact ⟨ret_str ((cat [45] l).trans (by rw [HG.out]; simp)), hb⟩

theorem sdec_any (n : Int) (p : Nat) (w : World) (h0 : -999999999 ≤ n) (h9 : n ≤ 999999999) (h1 : 1 ≤ p) (h6 : p ≤ 6) :
    Calls Tryz.prog 70 #[.int .i64 n, .int .i64 (p : Int)] w fun e w' => e = .returned (.string ⟨(decT n p).toArray⟩) ∧ Below w.heap.size w w' := by
  by_cases h : n < 0
  · obtain ⟨u, hu⟩ : ∃ u : Nat, n = -(u : Int) := ⟨n.natAbs, by omega⟩
    subst hu
    rw [show decT (-(u : Int)) p = 45 :: ptL p (padL p (Lib.decDigits u)) by unfold decT; rw [if_pos h]; simp]
    exact sdec_neg u p w (by omega) (by omega) h1 h6
  · obtain ⟨u, rfl⟩ := Int.eq_ofNat_of_zero_le (show 0 ≤ n by omega)
    rw [show decT (u : Int) p = ptL p (padL p (Lib.decDigits u)) by simp [decT]]
    exact sdec_nat u p w (by omega) h1 h6
theorem decT_len (n : Int) (p : Nat) (h0 : -999999999 ≤ n) (h9 : n ≤ 999999999) (h6 : p ≤ 6) : (decT n p).length ≤ 60 := by
  unfold decT
  split
  · have h3 := padL_len p _ (show (Lib.decDigits n.natAbs).length ≤ 30 by have := digits_len n.natAbs (by omega); omega) h6
    simp [ptL]; omega
  · have h3 := padL_len p _ (show (Lib.decDigits n.toNat).length ≤ 30 by have := digits_len n.toNat (by omega); omega) h6
    simp [ptL]; omega
end Go.Proofs.YtlddkhhaclfmiaaGreatDoor

/- Texts of operands: DevText, the program's and the document's. Helper text: no statement is claimed here. -/
namespace Go.Proofs.YtlddkhhaclfmiaaGreatDoor
open Go.ChangeShapes Go.WideShapes Go.ChangeAt Go.RowKit

def wordL : Nat → List UInt8
  | 0 => [110, 97, 110] | 1 => [105, 110, 102] | 2 => [45, 105, 110, 102] | 3 => [45, 48, 46, 48] | _ => []
/-- The cells of the table of words. -/
def WordTab (w : World) : Prop := ∀ i, i < 4 → w.cell? ⟨0, i, none⟩ = some (.string ⟨(wordL i).toArray⟩)
theorem gWords : Tryz.prog.globalNamed (Rows.fnElemBackRow.named.getD 1 "") = some 0 := by kernel_rfl
theorem tWords : (Tryz.prog.globals[0]?).map (·.type) = some 74 := by kernel_rfl
def wordsD : List (DataW Unit) := [.lit (.string (wordL 0)), .lit (.string (wordL 1)), .lit (.string (wordL 2)), .lit (.string (wordL 3))]
theorem wordsD_at (i : Nat) (h : i < 4) : wordsD[i]? = some (.lit (.string (wordL i))) := by
  have : i = 0 ∨ i = 1 ∨ i = 2 ∨ i = 3 := by omega
  rcases this with rfl | rfl | rfl | rfl <;> rfl
theorem laid_wordsD : (Rows.laid_loop_example_stilscan_impl_devWords : DataW Unit) = .agg wordsD := rfl
theorem wordTab_of {W : World} {sp : Nat → Bool} {held : Bool} {cs : Array Value} {fuel : Nat} {p : List MemPlace}
    (hv : W.var? Tryz.prog (Rows.fnElemBackRow.named.getD 1 "") = some cs)
    (hd : DataW.trod (fun _ => ()) Tryz.prog W 0 sp held fuel 74 cs.toList = some (Rows.laid_loop_example_stilscan_impl_devWords, p)) : WordTab W := by
  rw [laid_wordsD] at hd
  obtain ⟨xs, m, rfl, hx, hl, hn, hel⟩ := DataW.trod_array Tryz.underlying74 hd
  simp only [Prod.mk.injEq, DataW.agg.injEq] at hx
  intro i hi
  have h1 := hel i hi
  have h2 := wordsD_at i hi
  rw [hx.1, List.getElem?_map] at h2
  obtain ⟨x, hx1, hx2⟩ := Option.map_eq_some_iff.1 h2
  rw [hx1, cStr] at h1
  obtain ⟨s, hs, hx3, _⟩ := DataW.trod_string Tryz.underlying9 h1
  rw [hx3] at hx2
  simp only [DataW.lit.injEq, Lit.string.injEq] at hx2
  have hc := World.var?_cell gWords hv i
  have h4 : ((cs.toList.drop (i * 1)).take 1)[0]? = some (.string s) := by rw [hs]; rfl
  have h5 : cs[i]? = some (.string s) := by simpa [List.getElem?_take, List.getElem?_drop] using h4
  rw [hc, h5, ← hx2]
theorem WordTab.lt {w : World} (h : WordTab w) : 0 < w.heap.size := World.block_lt_of_cell? w ⟨0, 0, none⟩ (h 0 (by omega))
theorem WordTab.to {w w' : World} (h : WordTab w) (hb : Below w.heap.size w w') : WordTab w' := fun i hi => by
  rw [hb.cell (p := ⟨0, i, none⟩) h.lt]; exact h i hi

/-- The three tables. -/
structure Tabs (w : World) : Prop where
  dev : DevTab w
  word : WordTab w
  pow : PowTab w
theorem Tabs.to {w w' : World} (h : Tabs w) (hb : Below w.heap.size w w') : Tabs w' := ⟨h.dev.to hb, h.word.to hb, h.pow.to hb⟩
theorem Tabs.alloc {w : World} (h : Tabs w) (o : Obj) : Tabs (w.alloc o) := h.to (one w o)

/-- The text of an operand. -/
def txt (k n p : Int) : List UInt8 :=
  if okB k n p then (if k = 11 then Lib.itoa n else if k = 12 then decT n p.toNat else if k = 13 then wordL n.toNat else rL (kz k) ++ Lib.itoa n) else []

theorem okB_dec {n p : Int} (h : okB 12 n p = true) : -999999999 ≤ n ∧ n ≤ 999999999 ∧ 1 ≤ p ∧ p ≤ 6 := by
  rw [okB_12] at h; simp [decOk] at h; omega
theorem okB_int {n p : Int} (h : okB 11 n p = true) : -32768 ≤ n ∧ n ≤ 32767 ∧ p = 0 := by
  rw [okB_11] at h; simpa using h
theorem okB_word {n p : Int} (h : okB 13 n p = true) : 0 ≤ n ∧ n < 4 ∧ p = 0 := by
  rw [okB_13] at h; simpa using h
theorem okB_device {k n p : Int} (h1 : k ≠ 11) (h2 : k ≠ 12) (h3 : k ≠ 13) (h : okB k n p = true) : 0 ≤ n ∧ n < 64 ∧ n < rN (kz k) ∧ p = 0 ∧ 1 ≤ k ∧ k ≤ 10 := by
  have hk := okB_kind h
  rw [okB_dev k n p h1 h2 h3] at h
  have := rN_bd (kz k)
  simp at h
  omega

set_option maxHeartbeats 400000 in
theorem itext_no (k n p : Int) (w : World) (hT : Tabs w) (h : okB k n p = false) :
    Calls Tryz.prog 21 #[.agg #[.int .i64 k, .int .i64 n, .int .i64 p]] w fun e w' => e = .returned (.string ⟨#[]⟩) ∧ Below w.heap.size w w' := by
  have hk : Hid (okB k n p = false) := h
  clear h
  go_enter Tryz.func21, Tryz.ntmps21
  go_wp2_with fail
  refine (devOk_any _ _ _ _ (hT.dev.alloc _)).mono ?_
  rintro e w1 ⟨rfl, hb⟩
  rw [hk.out]
  go_wp2
  go_ret
  exact ⟨rfl, of_one hb⟩

set_option maxHeartbeats 400000 in
theorem itext_11 (n p : Int) (w : World) (hT : Tabs w) (h : okB 11 n p = true) :
    Calls Tryz.prog 21 #[.agg #[.int .i64 11, .int .i64 n, .int .i64 p]] w fun e w' => e = .returned (.string ⟨(Lib.itoa n).toArray⟩) ∧ Below w.heap.size w w' := by
  obtain ⟨n0, n1, -⟩ := okB_int h
  have hk : Hid (okB 11 n p = true) := h
  clear h
  go_enter Tryz.func21, Tryz.ntmps21
  go_wp2_with fail
  refine (devOk_any _ _ _ _ (hT.dev.alloc _)).mono ?_
  rintro e w1 ⟨rfl, hb⟩
  rw [hk.out]
  obtain ⟨hc, hf⟩ := bcell hb
  go_wp2_with fail
  refine (itoa_any _ _ (by omega) (by omega) ((hT.alloc _).to hb).pow).mono ?_
  rintro e w2 ⟨rfl, hb2⟩
  go_wp2
  go_ret
  exact ⟨rfl, of_two hb hb2⟩

set_option maxHeartbeats 400000 in
theorem itext_12 (n : Int) (p : Nat) (w : World) (hT : Tabs w) (h : okB 12 n p = true) :
    Calls Tryz.prog 21 #[.agg #[.int .i64 12, .int .i64 n, .int .i64 (p : Int)]] w fun e w' => e = .returned (.string ⟨(decT n p).toArray⟩) ∧ Below w.heap.size w w' := by
  obtain ⟨n0, n1, p0, p1⟩ := okB_dec h
  have hk : Hid (okB 12 n p = true) := h
  clear h
  go_enter Tryz.func21, Tryz.ntmps21
  go_wp2_with fail
  refine (devOk_any _ _ _ _ (hT.dev.alloc _)).mono ?_
  rintro e w1 ⟨rfl, hb⟩
  rw [hk.out]
  obtain ⟨hc, hf⟩ := bcell hb
  go_wp2_with fail
  refine (idec_any n p _ ((hT.alloc _).to hb).pow n0 n1 (by omega) (by omega)).mono ?_
  rintro e w2 ⟨rfl, hb2⟩
  go_wp2
  go_ret
  exact ⟨rfl, of_two hb hb2⟩

set_option maxHeartbeats 400000 in
theorem itext_13 (i : Nat) (p : Int) (w : World) (hT : Tabs w) (h : okB 13 i p = true) :
    Calls Tryz.prog 21 #[.agg #[.int .i64 13, .int .i64 (i : Int), .int .i64 p]] w fun e w' => e = .returned (.string ⟨(wordL i).toArray⟩) ∧ Below w.heap.size w w' := by
  obtain ⟨n0, n1, -⟩ := okB_word h
  have hk : Hid (okB 13 i p = true) := h
  clear h
  go_enter Tryz.func21, Tryz.ntmps21
  go_wp2_with fail
  refine (devOk_any _ _ _ _ (hT.dev.alloc _)).mono ?_
  rintro e w1 ⟨rfl, hb⟩
  rw [hk.out]
  have hwd := ((hT.alloc (argO 13 i p)).to hb).word i (by omega)
  obtain ⟨c0, c1, c2⟩ := arg_at 13 i p w
  have d0 : w1.cell? ⟨w.heap.size, 0, none⟩ = some (.int .i64 13) := by rw [hb.cell (p := ⟨w.heap.size, 0, none⟩) (by simp)]; exact c0
  have d1 : w1.cell? ⟨w.heap.size, 1, none⟩ = some (.int .i64 (i : Int)) := by rw [hb.cell (p := ⟨w.heap.size, 1, none⟩) (by simp)]; exact c1
  clear c0 c1 c2
  go_wp2
  go_ret
  exact ⟨rfl, of_one hb⟩

theorem letter_grown {W : World} {k : Int} (hT : Tabs W) (d : Nat) (os : Array Obj) :
    Calls Tryz.prog 58 #[.int .i64 k] (Sort.grow (redrawn W d) os) fun e w'' => e = .returned (.string ⟨(rL (kz k)).toArray⟩) ∧ ∃ q : Regrown, w'' = Sort.grow (redrawn W q.d) q.os :=
  Calls.regrown_of (letter_any _ _ (hT.to (below_regrown _ d os)).dev)
theorem itoa_grown {W : World} {n : Int} (hT : Tabs W) (h0 : 0 ≤ n) (h1 : n < 64) (d : Nat) (os : Array Obj) :
    Calls Tryz.prog 56 #[.int .i64 n] (Sort.grow (redrawn W d) os) fun e w'' => e = .returned (.string ⟨(Lib.itoa n).toArray⟩) ∧ ∃ q : Regrown, w'' = Sort.grow (redrawn W q.d) q.os :=
  Calls.regrown_of (itoa_any _ _ (by omega) (by omega) (hT.to (below_regrown _ d os)).pow)
theorem rL_len (i : Nat) : (rL i).length ≤ 1 := by unfold rL; split <;> simp

set_option maxHeartbeats 400000 in
theorem itext_dev (k n p : Int) (w : World) (hT : Tabs w) (h1 : k ≠ 11) (h2 : k ≠ 12) (h3 : k ≠ 13) (h : okB k n p = true) :
    Calls Tryz.prog 21 #[.agg #[.int .i64 k, .int .i64 n, .int .i64 p]] w fun e w' => e = .returned (.string ⟨(rL (kz k) ++ Lib.itoa n).toArray⟩) ∧ Below w.heap.size w w' := by
  obtain ⟨n0, n1, n2, n3, n4, n5⟩ := okB_device h1 h2 h3 h
  have e1 : (k == 11) = false := by simpa using h1
  have e2 : (k == 12) = false := by simpa using h2
  have e3 : (k == 13) = false := by simpa using h3
  have hl1 := rL_len (kz k)
  have hl2 := Lib.itoa_length_le n (by omega) (by omega)
  have hk : Hid (okB k n p = true) := h
  clear h h1 h2 h3 n2 n3
  go_enter Tryz.func21, Tryz.ntmps21
  go_wp2_with fail
  refine (devOk_any _ _ _ _ (hT.dev.alloc _)).mono ?_
  rintro e w1 ⟨rfl, hb⟩
  rw [hk.out]
  have hT1 := (hT.alloc (argO k n p)).to hb
  obtain ⟨c0, c1, c2⟩ := arg_at k n p w
  have d0 : w1.cell? ⟨w.heap.size, 0, none⟩ = some (.int .i64 k) := by rw [hb.cell (p := ⟨w.heap.size, 0, none⟩) (by simp)]; exact c0
  have d1 : w1.cell? ⟨w.heap.size, 1, none⟩ = some (.int .i64 n) := by rw [hb.cell (p := ⟨w.heap.size, 1, none⟩) (by simp)]; exact c1
  clear c0 c1 c2
  have k0 := cell_regrown d0
  have k1 := cell_regrown d1
  go_wp2
  refine wp_region_quiet_below (by kernel_rfl) (by kernel_rfl) ?_
  repeat (first | go_big_quiet_step ((first | exact letter_grown hT1 _ _ | exact itoa_grown hT1 n0 n1 _ _)) | quiet_step ((first | exact letter_grown hT1 _ _ | exact itoa_grown hT1 n0 n1 _ _)))
  refine wpQuiet_nil ?_
  intro _ hw'
  obtain ⟨⟨dq, osq⟩, hw''⟩ := hw'
  subst hw''
  go_wp2
  go_ret
  exact ⟨ret_str (cat _ _), of_two hb (below_regrown _ dq osq)⟩

theorem itext_any (k n p : Int) (w : World) (hT : Tabs w) :
    Calls Tryz.prog 21 #[.agg #[.int .i64 k, .int .i64 n, .int .i64 p]] w fun e w' => e = .returned (.string ⟨(txt k n p).toArray⟩) ∧ Below w.heap.size w w' := by
  unfold txt
  cases h : okB k n p
  · simpa using itext_no k n p w hT h
  · simp only [if_true]
    by_cases h1 : k = 11
    · subst h1; simpa using itext_11 n p w hT h
    by_cases h2 : k = 12
    · subst h2
      obtain ⟨q, rfl⟩ := Int.eq_ofNat_of_zero_le (show 0 ≤ p by have := okB_dec h; omega)
      simpa using itext_12 n q w hT h
    by_cases h3 : k = 13
    · subst h3
      obtain ⟨i, rfl⟩ := Int.eq_ofNat_of_zero_le (okB_word h).1
      simpa using itext_13 i p w hT h
    simp only [h1, h2, h3, if_false]
    exact itext_dev k n p w hT h1 h2 h3 h
end Go.Proofs.YtlddkhhaclfmiaaGreatDoor

/- Plain mathematics of numerals: digits, and the number that they make. Helper text: no statement is claimed here. -/
namespace Go.Proofs.YtlddkhhaclfmiaaGreatDoor
open Go.RowKit

def isD (c : UInt8) : Bool := decide (48 ≤ c.toNat ∧ c.toNat ≤ 57)
/-- The number that digits make. -/
def valN (l : List UInt8) : Int := l.foldl (fun (a : Int) c => a * 10 + ((c.toNat : Int) - 48)) 0

theorem val_snoc (l : List UInt8) (c : UInt8) : valN (l ++ [c]) = valN l * 10 + ((c.toNat : Int) - 48) := by simp [valN]
theorem val_bd' : ∀ (l : List UInt8) (a : Int), 0 ≤ a → (∀ c ∈ l, isD c = true) → 0 ≤ l.foldl (fun (a : Int) c => a * 10 + ((c.toNat : Int) - 48)) a ∧ l.foldl (fun (a : Int) c => a * 10 + ((c.toNat : Int) - 48)) a < (a + 1) * 10 ^ l.length
  | [], a, h0, _ => by simp; omega
  | c :: r, a, h0, h => by
    have h2 := h c (by simp)
    simp [isD] at h2
    have h1 := val_bd' r (a * 10 + ((c.toNat : Int) - 48)) (by omega) (fun x hx => h x (by simp [hx]))
    have hm : (a * 10 + ((c.toNat : Int) - 48) + 1) * 10 ^ r.length ≤ ((a + 1) * 10) * 10 ^ r.length := Int.mul_le_mul_of_nonneg_right (by omega) (Int.pow_nonneg (by omega))
    have e : (a + 1) * 10 ^ (c :: r).length = ((a + 1) * 10) * 10 ^ r.length := by rw [List.length_cons, Int.pow_succ, Int.mul_comm (10 ^ r.length) 10, Int.mul_assoc]
    rw [e]
    simp only [List.foldl_cons]
    omega
theorem val_bd (l : List UInt8) (h : ∀ c ∈ l, isD c = true) : 0 ≤ valN l ∧ valN l < 10 ^ l.length := by
  have := val_bd' l 0 (by omega) h
  simpa [valN] using this

theorem dig_toNat (d : Nat) (h : d < 10) : (UInt8.ofNat (48 + d)).toNat = 48 + d := by rw [UInt8.toNat_ofNat']; omega
theorem digits_all : ∀ (u : Nat), ∀ c ∈ Lib.decDigits u, isD c = true := by
  intro u
  induction u using Nat.strongRecOn with
  | _ u ih =>
    intro c hc
    rw [Lib.decDigits] at hc
    split at hc
    · rename_i h
      simp only [List.mem_singleton] at hc
      subst hc
      simp [isD]
      omega
    · rename_i h
      simp only [List.mem_append, List.mem_singleton] at hc
      rcases hc with hc | hc
      · exact ih (u / 10) (by omega) c hc
      · subst hc
        simp [isD]
        omega
theorem digits_val : ∀ (u : Nat), valN (Lib.decDigits u) = (u : Int) := by
  intro u
  induction u using Nat.strongRecOn with
  | _ u ih =>
    rw [Lib.decDigits]
    split
    · rename_i h
      show (0 : Int) * 10 + (((UInt8.ofNat (48 + u)).toNat : Int) - 48) = _
      rw [dig_toNat u h]; omega
    · rename_i h
      rw [val_snoc, ih (u / 10) (by omega), dig_toNat (u % 10) (by omega)]
      omega
theorem digits_ne (u : Nat) : Lib.decDigits u ≠ [] := by
  rw [Lib.decDigits]; split <;> simp
theorem digits_small : ∀ (n u : Nat), 1 ≤ n → u < 10 ^ n → (Lib.decDigits u).length ≤ n := by
  intro n
  induction n with
  | zero => intro u h; omega
  | succ n ih =>
    intro u _ hu
    rw [Lib.decDigits]
    split
    · simp
    · rename_i h
      by_cases hn : n = 0
      · subst hn; simp at hu; omega
      · have := ih (u / 10) (by omega) (by rw [Nat.pow_succ] at hu; omega)
        simp; omega

end Go.Proofs.YtlddkhhaclfmiaaGreatDoor

/- Plain mathematics of the texts of operands: how they are taken apart. Helper text: no statement is claimed here. -/
namespace Go.Proofs.YtlddkhhaclfmiaaGreatDoor
open Go.RowKit

theorem val_zeros (j : Nat) (l : List UInt8) : valN (List.replicate j 48 ++ l) = valN l := by
  have : ∀ j : Nat, valN (List.replicate j 48) = 0 := by
    intro j
    induction j with
    | zero => rfl
    | succ j ih => rw [List.replicate_succ', val_snoc, ih]; rfl
  unfold valN at *
  rw [List.foldl_append, this]

/-- What a text of digits with a point inside is made of. -/
theorem pt_parts (p : Nat) (s : List UInt8) (h : p < s.length) : ∃ l1 l2, ptL p s = l1 ++ 46 :: l2 ∧ l1 ++ l2 = s ∧ l2.length = p ∧ l1 ≠ [] := by
  refine ⟨s.take (s.length - p), s.drop (s.length - p), rfl, List.take_append_drop _ _, by simp; omega, ?_⟩
  intro e
  have := congrArg List.length e
  simp at this
  omega
theorem pad_all (p u : Nat) : ∀ c ∈ padL p (Lib.decDigits u), isD c = true := by
  intro c hc
  simp only [padL, List.mem_append, List.mem_replicate] at hc
  rcases hc with ⟨-, rfl⟩ | hc
  · rfl
  · exact digits_all u c hc
theorem pad_val (p u : Nat) : valN (padL p (Lib.decDigits u)) = (u : Int) := by rw [padL, val_zeros, digits_val]
theorem pad_len (p u : Nat) (hu : u ≤ 999999999) (hp : p ≤ 6) : p < (padL p (Lib.decDigits u)).length ∧ (padL p (Lib.decDigits u)).length ≤ 9 := by
  have := digits_small 9 u (by omega) (by omega)
  have h0 : (Lib.decDigits u).length ≠ 0 := fun e => digits_ne u (List.eq_nil_of_length_eq_zero e)
  simp [padL]; omega
end Go.Proofs.YtlddkhhaclfmiaaGreatDoor

/- Letters of kinds: the document's. Helper text: no statement is claimed here. -/
namespace Go.Proofs.YtlddkhhaclfmiaaGreatDoor
open Go.ChangeShapes Go.WideShapes Go.ChangeAt Go.RowKit

theorem kz_out {k : Int} (h : rN (kz k) = 0) : rL (kz k) = [] := by
  unfold rN at h; unfold rL; split at h <;> simp_all
theorem rN_pos {k : Int} (h1 : 1 ≤ k) (h2 : k ≤ 10) : (rN (kz k) == 0) = false := by
  have : k = 1 ∨ k = 2 ∨ k = 3 ∨ k = 4 ∨ k = 5 ∨ k = 6 ∨ k = 7 ∨ k = 8 ∨ k = 9 ∨ k = 10 := by omega
  rcases this with rfl | rfl | rfl | rfl | rfl | rfl | rfl | rfl | rfl | rfl <;> decide +kernel
theorem ret_strv {s t : ByteArray} (h : s = t) : Ending.returned (.string s) = .returned (.string t) := by rw [h]
theorem letters_at {k : Int} (h1 : 1 ≤ k) (h2 : k ≤ 10) : (⟨#[88, 89, 77, 83, 69, 71, 84, 67, 68, 82]⟩ : ByteArray).extract (k - 1).toNat k.toNat = ⟨(rL (kz k)).toArray⟩ := by
  have : k = 1 ∨ k = 2 ∨ k = 3 ∨ k = 4 ∨ k = 5 ∨ k = 6 ∨ k = 7 ∨ k = 8 ∨ k = 9 ∨ k = 10 := by omega
  rcases this with rfl | rfl | rfl | rfl | rfl | rfl | rfl | rfl | rfl | rfl <;> rfl

set_option maxHeartbeats 400000 in
theorem sletter_any (k : Int) (w : World) :
    Calls Tryz.prog 72 #[.int .i64 k] w fun e w' => e = .returned (.string ⟨(rL (kz k)).toArray⟩) ∧ w' = w := by
  rcases kind_cases k with rfl | rfl | rfl | rfl | rfl | rfl | rfl | rfl | rfl | rfl | ⟨-, -, -, -, -, -, -, -, -, -, h0⟩
  case inr.inr.inr.inr.inr.inr.inr.inr.inr.inr =>
    have hz : (rN (kz k) == 0) = true := by simp [h0]
    have he : Hid (rL (kz k) = []) := kz_out h0
    clear h0
    go_enter Tryz.func72, Tryz.ntmps72
    go_wp2_with fail
    refine (ssize_any _ _).mono ?_
    rintro e w1 ⟨rfl, rfl⟩
    go_wp2
    go_ret
    exact ⟨ret_strv (by rw [he.out]), rfl⟩
  all_goals
    go_enter Tryz.func72, Tryz.ntmps72
    go_wp2_with fail
    refine (ssize_any _ _).mono ?_
    rintro e w1 ⟨rfl, rfl⟩
    simp only [kz, rN]
    go_wp2
    go_ret
    exact ⟨ret_strv rfl, rfl⟩
end Go.Proofs.YtlddkhhaclfmiaaGreatDoor

/- The document's DevText. Helper text: no statement is claimed here. -/
namespace Go.Proofs.YtlddkhhaclfmiaaGreatDoor
open Go.ChangeShapes Go.WideShapes Go.ChangeAt Go.RowKit

abbrev wordsO : Obj := .cells #[.string ⟨#[110, 97, 110]⟩, .string ⟨#[105, 110, 102]⟩, .string ⟨#[45, 105, 110, 102]⟩, .string ⟨#[45, 48, 46, 48]⟩] 9
set_option maxHeartbeats 400000 in
theorem words_anyD (w : World) :
    Calls Tryz.prog 71 #[] w fun e w' => e = .returned (.slice (some ⟨w.heap.size, 0, none⟩) 4 4) ∧ w' = w.alloc wordsO := by
  go_enter Tryz.func71, Tryz.ntmps71
  go_wp2
  go_ret
  exact ⟨rfl, rfl⟩
theorem words_at (w : World) (i : Nat) (h : i < 4) : (w.alloc wordsO).cell? ⟨w.heap.size, i, none⟩ = some (.string ⟨(wordL i).toArray⟩) := by
  rw [World.cell?_alloc_new]
  have : i = 0 ∨ i = 1 ∨ i = 2 ∨ i = 3 := by omega
  rcases this with rfl | rfl | rfl | rfl <;> rfl

set_option maxHeartbeats 400000 in
theorem stext_no (k n p : Int) (w : World) (h : okB k n p = false) :
    Calls Tryz.prog 27 #[.agg #[.int .i64 k, .int .i64 n, .int .i64 p]] w fun e w' => e = .returned (.string ⟨#[]⟩) ∧ Below w.heap.size w w' := by
  have hk : Hid (okB k n p = false) := h
  clear h
  go_enter Tryz.func27, Tryz.ntmps27
  go_wp2_with fail
  refine (sOk_any _ _ _ _).mono ?_
  rintro e w1 ⟨rfl, hb⟩
  rw [hk.out]
  go_wp2
  go_ret
  exact ⟨rfl, of_one hb⟩

set_option maxHeartbeats 400000 in
theorem stext_11 (n p : Int) (w : World) (h : okB 11 n p = true) :
    Calls Tryz.prog 27 #[.agg #[.int .i64 11, .int .i64 n, .int .i64 p]] w fun e w' => e = .returned (.string ⟨(Lib.itoa n).toArray⟩) ∧ Below w.heap.size w w' := by
  obtain ⟨n0, n1, -⟩ := okB_int h
  have hk : Hid (okB 11 n p = true) := h
  clear h
  go_enter Tryz.func27, Tryz.ntmps27
  go_wp2_with fail
  refine (sOk_any _ _ _ _).mono ?_
  rintro e w1 ⟨rfl, hb⟩
  rw [hk.out]
  obtain ⟨hc, hf⟩ := bcell hb
  go_wp2_with fail
  refine (dec_any _ _ (by omega) (by omega)).mono ?_
  rintro e w2 ⟨rfl, hb2⟩
  go_wp2
  go_ret
  exact ⟨rfl, of_two hb hb2⟩

set_option maxHeartbeats 400000 in
theorem stext_12 (n : Int) (p : Nat) (w : World) (h : okB 12 n p = true) :
    Calls Tryz.prog 27 #[.agg #[.int .i64 12, .int .i64 n, .int .i64 (p : Int)]] w fun e w' => e = .returned (.string ⟨(decT n p).toArray⟩) ∧ Below w.heap.size w w' := by
  obtain ⟨n0, n1, p0, p1⟩ := okB_dec h
  have hk : Hid (okB 12 n p = true) := h
  clear h
  go_enter Tryz.func27, Tryz.ntmps27
  go_wp2_with fail
  refine (sOk_any _ _ _ _).mono ?_
  rintro e w1 ⟨rfl, hb⟩
  rw [hk.out]
  obtain ⟨hc, hf⟩ := bcell hb
  go_wp2_with fail
  refine (sdec_any n p _ n0 n1 (by omega) (by omega)).mono ?_
  rintro e w2 ⟨rfl, hb2⟩
  go_wp2
  go_ret
  exact ⟨rfl, of_two hb hb2⟩

set_option maxHeartbeats 400000 in
theorem stext_13 (i : Nat) (p : Int) (w : World) (h : okB 13 i p = true) :
    Calls Tryz.prog 27 #[.agg #[.int .i64 13, .int .i64 (i : Int), .int .i64 p]] w fun e w' => e = .returned (.string ⟨(wordL i).toArray⟩) ∧ Below w.heap.size w w' := by
  obtain ⟨n0, n1, -⟩ := okB_word h
  have hk : Hid (okB 13 i p = true) := h
  clear h
  go_enter Tryz.func27, Tryz.ntmps27
  go_wp2_with fail
  refine (sOk_any _ _ _ _).mono ?_
  rintro e w1 ⟨rfl, hb⟩
  rw [hk.out]
  obtain ⟨c0, c1, c2⟩ := arg_at 13 i p w
  have d0 : w1.cell? ⟨w.heap.size, 0, none⟩ = some (.int .i64 13) := by rw [hb.cell (p := ⟨w.heap.size, 0, none⟩) (by simp)]; exact c0
  have d1 : w1.cell? ⟨w.heap.size, 1, none⟩ = some (.int .i64 (i : Int)) := by rw [hb.cell (p := ⟨w.heap.size, 1, none⟩) (by simp)]; exact c1
  clear c0 c1 c2
  have hw := words_at w1 i (by omega)
  have hlt : w.heap.size < w1.heap.size := by have := hb.size; simp at this; omega
  go_wp2
  go_region_with (go_at_call 71; refine (words_anyD _).mono ?_; rintro e w2 ⟨rfl, rfl⟩)
  all_goals go_wp2
  all_goals go_ret
  all_goals exact ⟨rfl, of_two hb ((one _ _).drew)⟩

theorem sletter_grown {W : World} {k : Int} (d : Nat) (os : Array Obj) :
    Calls Tryz.prog 72 #[.int .i64 k] (Sort.grow (redrawn W d) os) fun e w'' => e = .returned (.string ⟨(rL (kz k)).toArray⟩) ∧ ∃ q : Regrown, w'' = Sort.grow (redrawn W q.d) q.os :=
  (sletter_any _ _).mono fun _ _ ⟨he, hw⟩ => ⟨he, ⟨d, os⟩, hw⟩
theorem dec_grown {W : World} {n : Int} (h0 : 0 ≤ n) (h1 : n < 64) (d : Nat) (os : Array Obj) :
    Calls Tryz.prog 69 #[.int .i64 n] (Sort.grow (redrawn W d) os) fun e w'' => e = .returned (.string ⟨(Lib.itoa n).toArray⟩) ∧ ∃ q : Regrown, w'' = Sort.grow (redrawn W q.d) q.os :=
  Calls.regrown_of (dec_any _ _ (by omega) (by omega))

set_option maxHeartbeats 400000 in
theorem stext_dev (k n p : Int) (w : World) (h1 : k ≠ 11) (h2 : k ≠ 12) (h3 : k ≠ 13) (h : okB k n p = true) :
    Calls Tryz.prog 27 #[.agg #[.int .i64 k, .int .i64 n, .int .i64 p]] w fun e w' => e = .returned (.string ⟨(rL (kz k) ++ Lib.itoa n).toArray⟩) ∧ Below w.heap.size w w' := by
  obtain ⟨n0, n1, n2, n3, n4, n5⟩ := okB_device h1 h2 h3 h
  have e1 : (k == 11) = false := by simpa using h1
  have e2 : (k == 12) = false := by simpa using h2
  have e3 : (k == 13) = false := by simpa using h3
  have hl1 := rL_len (kz k)
  have hl2 := Lib.itoa_length_le n (by omega) (by omega)
  have hk : Hid (okB k n p = true) := h
  clear h h1 h2 h3 n2 n3
  go_enter Tryz.func27, Tryz.ntmps27
  go_wp2_with fail
  refine (sOk_any _ _ _ _).mono ?_
  rintro e w1 ⟨rfl, hb⟩
  rw [hk.out]
  obtain ⟨c0, c1, c2⟩ := arg_at k n p w
  have d0 : w1.cell? ⟨w.heap.size, 0, none⟩ = some (.int .i64 k) := by rw [hb.cell (p := ⟨w.heap.size, 0, none⟩) (by simp)]; exact c0
  have d1 : w1.cell? ⟨w.heap.size, 1, none⟩ = some (.int .i64 n) := by rw [hb.cell (p := ⟨w.heap.size, 1, none⟩) (by simp)]; exact c1
  clear c0 c1 c2
  have k0 := cell_regrown d0
  have k1 := cell_regrown d1
  go_wp2
  refine wp_region_quiet_below (by kernel_rfl) (by kernel_rfl) ?_
  repeat (first | go_big_quiet_step ((first | exact sletter_grown _ _ | exact dec_grown n0 n1 _ _)) | quiet_step ((first | exact sletter_grown _ _ | exact dec_grown n0 n1 _ _)))
  refine wpQuiet_nil ?_
  intro _ hw'
  obtain ⟨⟨dq, osq⟩, hw''⟩ := hw'
  subst hw''
  go_wp2
  go_ret
  exact ⟨ret_str (cat _ _), of_two hb (below_regrown _ dq osq)⟩

theorem stext_any (k n p : Int) (w : World) :
    Calls Tryz.prog 27 #[.agg #[.int .i64 k, .int .i64 n, .int .i64 p]] w fun e w' => e = .returned (.string ⟨(txt k n p).toArray⟩) ∧ Below w.heap.size w w' := by
  unfold txt
  cases h : okB k n p
  · simpa using stext_no k n p w h
  · simp only [if_true]
    by_cases h1 : k = 11
    · subst h1; simpa using stext_11 n p w h
    by_cases h2 : k = 12
    · subst h2
      obtain ⟨q, rfl⟩ := Int.eq_ofNat_of_zero_le (show 0 ≤ p by have := okB_dec h; omega)
      simpa using stext_12 n q w h
    by_cases h3 : k = 13
    · subst h3
      obtain ⟨i, rfl⟩ := Int.eq_ofNat_of_zero_le (okB_word h).1
      simpa using stext_13 i p w h
    simp only [h1, h2, h3, if_false]
    exact stext_dev k n p w h1 h2 h3 h
end Go.Proofs.YtlddkhhaclfmiaaGreatDoor
