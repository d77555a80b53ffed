/- Texts of operands: DevText, the program's and the document's. Helper text: no statement is claimed here. -/
import Derived.Test.YtleopmhllbaalagDoorDl
import Derived.Test.YtleopmhllbaalagDoorSb
import Derived.Deep.RegionWith
namespace Go.Proofs.YtleopmhllbaalagDoor
open Go.ChangeShapes Go.WideShapes Go.ChangeAt Go.RowKit

def wordL : Nat → List UInt8
  | 0 => [110, 97, 110] | 1 => [105, 110, 102] | 2 => [45, 105, 110, 102] | 3 => [45, 48, 46, 48] | _ => []
/-- The cells of the table of words. -/
def WordTab (w : World) : Prop := ∀ i, i < 4 → w.cell? ⟨0, i, none⟩ = some (.string ⟨(wordL i).toArray⟩)
theorem gWords : Tryd.prog.globalNamed (Rows.fnExactElemTextRow.named.getD 1 "") = some 0 := by kernel_rfl
theorem tWords : (Tryd.prog.globals[0]?).map (·.type) = some 61 := by kernel_rfl
def wordsD : List (DataW Unit) := [.lit (.string (wordL 0)), .lit (.string (wordL 1)), .lit (.string (wordL 2)), .lit (.string (wordL 3))]
theorem wordsD_at (i : Nat) (h : i < 4) : wordsD[i]? = some (.lit (.string (wordL i))) := by
  have : i = 0 ∨ i = 1 ∨ i = 2 ∨ i = 3 := by omega
  rcases this with rfl | rfl | rfl | rfl <;> rfl
theorem laid_wordsD : (Rows.laid_loop_example_stilscan_impl_devWords : DataW Unit) = .agg wordsD := rfl
theorem wordTab_of {W : World} {sp : Nat → Bool} {held : Bool} {cs : Array Value} {fuel : Nat} {p : List MemPlace}
    (hv : W.var? Tryd.prog (Rows.fnExactElemTextRow.named.getD 1 "") = some cs)
    (hd : DataW.trod (fun _ => ()) Tryd.prog W 0 sp held fuel 61 cs.toList = some (Rows.laid_loop_example_stilscan_impl_devWords, p)) : WordTab W := by
  rw [laid_wordsD] at hd
  obtain ⟨xs, m, rfl, hx, hl, hn, hel⟩ := DataW.trod_array Tryd.underlying61 hd
  simp only [Prod.mk.injEq, DataW.agg.injEq] at hx
  intro i hi
  have h1 := hel i hi
  have h2 := wordsD_at i hi
  rw [hx.1, List.getElem?_map] at h2
  obtain ⟨x, hx1, hx2⟩ := Option.map_eq_some_iff.1 h2
  rw [hx1, cStr] at h1
  obtain ⟨s, hs, hx3, _⟩ := DataW.trod_string Tryd.underlying9 h1
  rw [hx3] at hx2
  simp only [DataW.lit.injEq, Lit.string.injEq] at hx2
  have hc := World.var?_cell gWords hv i
  have h4 : ((cs.toList.drop (i * 1)).take 1)[0]? = some (.string s) := by rw [hs]; rfl
  have h5 : cs[i]? = some (.string s) := by simpa [List.getElem?_take, List.getElem?_drop] using h4
  rw [hc, h5, ← hx2]
theorem WordTab.lt {w : World} (h : WordTab w) : 0 < w.heap.size := World.block_lt_of_cell? w ⟨0, 0, none⟩ (h 0 (by omega))
theorem WordTab.to {w w' : World} (h : WordTab w) (hb : Below w.heap.size w w') : WordTab w' := fun i hi => by
  rw [hb.cell (p := ⟨0, i, none⟩) h.lt]; exact h i hi

/-- The three tables. -/
structure Tabs (w : World) : Prop where
  dev : DevTab w
  word : WordTab w
  pow : PowTab w
theorem Tabs.to {w w' : World} (h : Tabs w) (hb : Below w.heap.size w w') : Tabs w' := ⟨h.dev.to hb, h.word.to hb, h.pow.to hb⟩
theorem Tabs.alloc {w : World} (h : Tabs w) (o : Obj) : Tabs (w.alloc o) := h.to (one w o)

/-- The text of an operand. -/
def txt (k n p : Int) : List UInt8 :=
  if okB k n p then (if k = 11 then Lib.itoa n else if k = 12 then decT n p.toNat else if k = 13 then wordL n.toNat else rL (kz k) ++ Lib.itoa n) else []

theorem okB_dec {n p : Int} (h : okB 12 n p = true) : -999999999 ≤ n ∧ n ≤ 999999999 ∧ 1 ≤ p ∧ p ≤ 6 := by
  rw [okB_12] at h; simp [decOk] at h; omega
theorem okB_int {n p : Int} (h : okB 11 n p = true) : -32768 ≤ n ∧ n ≤ 32767 ∧ p = 0 := by
  rw [okB_11] at h; simpa using h
theorem okB_word {n p : Int} (h : okB 13 n p = true) : 0 ≤ n ∧ n < 4 ∧ p = 0 := by
  rw [okB_13] at h; simpa using h
theorem okB_device {k n p : Int} (h1 : k ≠ 11) (h2 : k ≠ 12) (h3 : k ≠ 13) (h : okB k n p = true) : 0 ≤ n ∧ n < 64 ∧ n < rN (kz k) ∧ p = 0 ∧ 1 ≤ k ∧ k ≤ 10 := by
  have hk := okB_kind h
  rw [okB_dev k n p h1 h2 h3] at h
  have := rN_bd (kz k)
  simp at h
  omega

set_option maxHeartbeats 400000 in
theorem itext_no (k n p : Int) (w : World) (hT : Tabs w) (h : okB k n p = false) :
    Calls Tryd.prog 18 #[.agg #[.int .i64 k, .int .i64 n, .int .i64 p]] w fun e w' => e = .returned (.string ⟨#[]⟩) ∧ Below w.heap.size w w' := by
  have hk : Hid (okB k n p = false) := h
  clear h
  go_enter Tryd.func18, Tryd.ntmps18
  go_wp2_with fail
  refine (devOk_any _ _ _ _ (hT.dev.alloc _)).mono ?_
  rintro e w1 ⟨rfl, hb⟩
  rw [hk.out]
  go_wp2
  go_ret
  exact ⟨rfl, of_one hb⟩

set_option maxHeartbeats 400000 in
theorem itext_11 (n p : Int) (w : World) (hT : Tabs w) (h : okB 11 n p = true) :
    Calls Tryd.prog 18 #[.agg #[.int .i64 11, .int .i64 n, .int .i64 p]] w fun e w' => e = .returned (.string ⟨(Lib.itoa n).toArray⟩) ∧ Below w.heap.size w w' := by
  obtain ⟨n0, n1, -⟩ := okB_int h
  have hk : Hid (okB 11 n p = true) := h
  clear h
  go_enter Tryd.func18, Tryd.ntmps18
  go_wp2_with fail
  refine (devOk_any _ _ _ _ (hT.dev.alloc _)).mono ?_
  rintro e w1 ⟨rfl, hb⟩
  rw [hk.out]
  obtain ⟨hc, hf⟩ := bcell hb
  go_wp2_with fail
  refine (itoa_any _ _ (by omega) (by omega) ((hT.alloc _).to hb).pow).mono ?_
  rintro e w2 ⟨rfl, hb2⟩
  go_wp2
  go_ret
  exact ⟨rfl, of_two hb hb2⟩

set_option maxHeartbeats 400000 in
theorem itext_12 (n : Int) (p : Nat) (w : World) (hT : Tabs w) (h : okB 12 n p = true) :
    Calls Tryd.prog 18 #[.agg #[.int .i64 12, .int .i64 n, .int .i64 (p : Int)]] w fun e w' => e = .returned (.string ⟨(decT n p).toArray⟩) ∧ Below w.heap.size w w' := by
  obtain ⟨n0, n1, p0, p1⟩ := okB_dec h
  have hk : Hid (okB 12 n p = true) := h
  clear h
  go_enter Tryd.func18, Tryd.ntmps18
  go_wp2_with fail
  refine (devOk_any _ _ _ _ (hT.dev.alloc _)).mono ?_
  rintro e w1 ⟨rfl, hb⟩
  rw [hk.out]
  obtain ⟨hc, hf⟩ := bcell hb
  go_wp2_with fail
  refine (idec_any n p _ ((hT.alloc _).to hb).pow n0 n1 (by omega) (by omega)).mono ?_
  rintro e w2 ⟨rfl, hb2⟩
  go_wp2
  go_ret
  exact ⟨rfl, of_two hb hb2⟩

set_option maxHeartbeats 400000 in
theorem itext_13 (i : Nat) (p : Int) (w : World) (hT : Tabs w) (h : okB 13 i p = true) :
    Calls Tryd.prog 18 #[.agg #[.int .i64 13, .int .i64 (i : Int), .int .i64 p]] w fun e w' => e = .returned (.string ⟨(wordL i).toArray⟩) ∧ Below w.heap.size w w' := by
  obtain ⟨n0, n1, -⟩ := okB_word h
  have hk : Hid (okB 13 i p = true) := h
  clear h
  go_enter Tryd.func18, Tryd.ntmps18
  go_wp2_with fail
  refine (devOk_any _ _ _ _ (hT.dev.alloc _)).mono ?_
  rintro e w1 ⟨rfl, hb⟩
  rw [hk.out]
  have hwd := ((hT.alloc (argO 13 i p)).to hb).word i (by omega)
  obtain ⟨c0, c1, c2⟩ := arg_at 13 i p w
  have d0 : w1.cell? ⟨w.heap.size, 0, none⟩ = some (.int .i64 13) := by rw [hb.cell (p := ⟨w.heap.size, 0, none⟩) (by simp)]; exact c0
  have d1 : w1.cell? ⟨w.heap.size, 1, none⟩ = some (.int .i64 (i : Int)) := by rw [hb.cell (p := ⟨w.heap.size, 1, none⟩) (by simp)]; exact c1
  clear c0 c1 c2
  go_wp2
  go_ret
  exact ⟨rfl, of_one hb⟩

theorem letter_grown {W : World} {k : Int} (hT : Tabs W) (d : Nat) (os : Array Obj) :
    Calls Tryd.prog 52 #[.int .i64 k] (Sort.grow (redrawn W d) os) fun e w'' => e = .returned (.string ⟨(rL (kz k)).toArray⟩) ∧ ∃ q : Regrown, w'' = Sort.grow (redrawn W q.d) q.os :=
  Calls.regrown_of (letter_any _ _ (hT.to (below_regrown _ d os)).dev)
theorem itoa_grown {W : World} {n : Int} (hT : Tabs W) (h0 : 0 ≤ n) (h1 : n < 64) (d : Nat) (os : Array Obj) :
    Calls Tryd.prog 50 #[.int .i64 n] (Sort.grow (redrawn W d) os) fun e w'' => e = .returned (.string ⟨(Lib.itoa n).toArray⟩) ∧ ∃ q : Regrown, w'' = Sort.grow (redrawn W q.d) q.os :=
  Calls.regrown_of (itoa_any _ _ (by omega) (by omega) (hT.to (below_regrown _ d os)).pow)
theorem rL_len (i : Nat) : (rL i).length ≤ 1 := by unfold rL; split <;> simp

set_option maxHeartbeats 400000 in
theorem itext_dev (k n p : Int) (w : World) (hT : Tabs w) (h1 : k ≠ 11) (h2 : k ≠ 12) (h3 : k ≠ 13) (h : okB k n p = true) :
    Calls Tryd.prog 18 #[.agg #[.int .i64 k, .int .i64 n, .int .i64 p]] w fun e w' => e = .returned (.string ⟨(rL (kz k) ++ Lib.itoa n).toArray⟩) ∧ Below w.heap.size w w' := by
  obtain ⟨n0, n1, n2, n3, n4, n5⟩ := okB_device h1 h2 h3 h
  have e1 : (k == 11) = false := by simpa using h1
  have e2 : (k == 12) = false := by simpa using h2
  have e3 : (k == 13) = false := by simpa using h3
  have hl1 := rL_len (kz k)
  have hl2 := Lib.itoa_length_le n (by omega) (by omega)
  have hk : Hid (okB k n p = true) := h
  clear h h1 h2 h3 n2 n3
  go_enter Tryd.func18, Tryd.ntmps18
  go_wp2_with fail
  refine (devOk_any _ _ _ _ (hT.dev.alloc _)).mono ?_
  rintro e w1 ⟨rfl, hb⟩
  rw [hk.out]
  have hT1 := (hT.alloc (argO k n p)).to hb
  obtain ⟨c0, c1, c2⟩ := arg_at k n p w
  have d0 : w1.cell? ⟨w.heap.size, 0, none⟩ = some (.int .i64 k) := by rw [hb.cell (p := ⟨w.heap.size, 0, none⟩) (by simp)]; exact c0
  have d1 : w1.cell? ⟨w.heap.size, 1, none⟩ = some (.int .i64 n) := by rw [hb.cell (p := ⟨w.heap.size, 1, none⟩) (by simp)]; exact c1
  clear c0 c1 c2
  have k0 := cell_regrown d0
  have k1 := cell_regrown d1
  go_wp2
  refine wp_region_quiet_below (by kernel_rfl) (by kernel_rfl) ?_
  repeat (first | go_big_quiet_step ((first | exact letter_grown hT1 _ _ | exact itoa_grown hT1 n0 n1 _ _)) | quiet_step ((first | exact letter_grown hT1 _ _ | exact itoa_grown hT1 n0 n1 _ _)))
  refine wpQuiet_nil ?_
  intro _ hw'
  obtain ⟨⟨dq, osq⟩, hw''⟩ := hw'
  subst hw''
  go_wp2
  go_ret
  exact ⟨ret_str (cat _ _), of_two hb (below_regrown _ dq osq)⟩

theorem itext_any (k n p : Int) (w : World) (hT : Tabs w) :
    Calls Tryd.prog 18 #[.agg #[.int .i64 k, .int .i64 n, .int .i64 p]] w fun e w' => e = .returned (.string ⟨(txt k n p).toArray⟩) ∧ Below w.heap.size w w' := by
  unfold txt
  cases h : okB k n p
  · simpa using itext_no k n p w hT h
  · simp only [if_true]
    by_cases h1 : k = 11
    · subst h1; simpa using itext_11 n p w hT h
    by_cases h2 : k = 12
    · subst h2
      obtain ⟨q, rfl⟩ := Int.eq_ofNat_of_zero_le (show 0 ≤ p by have := okB_dec h; omega)
      simpa using itext_12 n q w hT h
    by_cases h3 : k = 13
    · subst h3
      obtain ⟨i, rfl⟩ := Int.eq_ofNat_of_zero_le (okB_word h).1
      simpa using itext_13 i p w hT h
    simp only [h1, h2, h3, if_false]
    exact itext_dev k n p w hT h1 h2 h3 h
end Go.Proofs.YtleopmhllbaalagDoor
