/- The walk of the law FnActShut. Helper text: no statement is claimed here. -/
import Derived.Test.YtmgjngihngddfaaGreatDoorWr
import Derived.Test.YtmgjngihngddfaaGreatDoorP31
import Derived.Test.YtmgjngihngddfaaGreatDoorP16
import Derived.Test.YtmgjngihngddfaaGreatDoorLh
namespace Go.Proofs.YtmgjngihngddfaaGreatDoor
open Go.ChangeShapes Go.WideShapes Go.ChangeAt Go.RowKit Fl

theorem list_one {ys : List Ar} (h : ys.length = 1) : ∃ A, ys = [A] := by
  match ys, h with
  | [A], _ => exact ⟨A, rfl⟩
theorem list_two {ys : List Ar} (h : ys.length = 2) : ∃ A B, ys = [A, B] := by
  match ys, h with
  | [A, B], _ => exact ⟨A, B, rfl⟩
theorem take_len {fs : List Nat} {ys : List Ar} (h : takeB fs ys = true) : ys.length ≠ 0 ∧ ys.length = fs.length ∧ ∀ i, i < ys.length → fitA fs ys i = true := by
  simp only [takeB, Bool.and_eq_true, decide_eq_true_eq, List.all_eq_true, List.mem_range] at h
  exact ⟨h.1.1, h.1.2, h.2⟩
theorem con_edge {op : Int} {ys : List Ar} (ho : op = 3 ∨ op = 4) (h : conB op ys = true) : ∃ A n p, ys = [A, (5, n, p)] := by
  have ht : takeB [1, 4] ys = true := by
    simp only [conB, okA, Bool.and_eq_true, Bool.or_eq_true] at h
    rcases ho with rfl | rfl <;> rcases h.2 with h' | h'
    · exact h'
    · exact absurd (take_len (fs := []) h').2.1 (take_len (fs := []) h').1
    · exact h'
    · exact absurd (take_len (fs := []) h').2.1 (take_len (fs := []) h').1
  obtain ⟨-, hl, hf⟩ := take_len ht
  obtain ⟨A, ⟨k, n, p⟩, rfl⟩ := list_two hl
  have h1 := hf 1 (by simp)
  have hk : k = 5 := by
    simpa [fitA, fitB, kinB, hasK, sk, at3] using (show kinB [5] k n p = true from h1 : _) |> fun h => (by simpa [kinB, hasK] using h : okB k n p = true ∧ k = 5).2
  subst hk
  exact ⟨A, n, p, rfl⟩
theorem con_plain {op : Int} {ys : List Ar} (ho : op = 1 ∨ op = 2) (h : conB op ys = true) : ∃ A, ys = [A] := by
  have ht : takeB [1] ys = true := by
    simp only [conB, okA, Bool.and_eq_true, Bool.or_eq_true] at h
    rcases ho with rfl | rfl <;> rcases h.2 with h' | h'
    · exact h'
    · exact absurd (take_len (fs := []) h').2.1 (take_len (fs := []) h').1
    · exact h'
    · exact absurd (take_len (fs := []) h').2.1 (take_len (fs := []) h').1
  exact list_one (take_len ht).2.1
theorem con_low {op : Int} {ys : List Ar} (h : op < 1) : ¬ conB op ys = true := fun hc => by
  have he : ez op = 0 := by
    unfold ez
    split
    · omega
    · rfl
  simp only [conB, okA, Bool.and_eq_true, Bool.or_eq_true] at hc
  rw [he] at hc
  rcases hc.2 with h' | h'
  · exact (take_len (fs := []) h').1 (take_len (fs := []) h').2.1
  · exact (take_len (fs := []) h').1 (take_len (fs := []) h').2.1

/-- What stands there when both sides have been asked. -/
def Asked (w : World) (B P : Nat) (m m' : Mm) (op : Int) (ys : List Ar) (p : Option Addr) (cp : Nat) (V : World) : Prop :=
  Below w.heap.size w V ∧ MemAt V B m ∧ MemAt V P m' ∧ Own2 V (B + 1) (.int .i64 op) (.slice p ys.length cp) ∧ ArgsIs V p ys ∧ DevTab V ∧ w.heap.size ≤ B ∧ P ≠ B
theorem Asked.to {w : World} {B P : Nat} {m m' : Mm} {op : Int} {ys : List Ar} {p : Option Addr} {cp : Nat} {V W : World} (h : Asked w B P m m' op ys p cp V) (hb : Below V.heap.size V W) : Asked w B P m m' op ys p cp W :=
  ⟨h.1.trans (hb.mono h.1.size), RowAt.to h.2.1 hb, RowAt.to h.2.2.1 hb, h.2.2.2.1.below hb, h.2.2.2.2.1.to hb, h.2.2.2.2.2.1.to hb, h.2.2.2.2.2.2⟩

set_option maxHeartbeats 4000000 in
set_option maxRecDepth 100000 in
theorem actShut_walk (a : Option Addr) (len cap : Nat) (w : World) (h : IsRow w a len) (hlc : len ≤ cap) (hT : DevTab w) :
    Calls Tryz.prog 3 #[.slice a len cap] w fun e w' => e = .returned (.bool true) ∧ Below w.heap.size w w' := by
  have HT : Hid (DevTab w) := hT
  have HH : Hid (IsRow w a len) := h
  have hz : ∀ w, (zeroValue 37).run Tryz.prog w = .ok (.agg zeroM.cells) w := fun _ => by kernel_rfl
  clear hT h
  by_cases hl : (1048576 : Int) < (len : Int)
  · go_enter Tryz.func3, Tryz.ntmps3
    go_wp2
    go_ret
    exact ⟨rfl, Below.refl _ _⟩
  go_enter Tryz.func3, Tryz.ntmps3
  go_wp2_with fail
  refine (drawTest_any a len cap _ HH.out hlc).mono ?_
  rintro e w1 ⟨m, op, ys, p, cp, rfl, hm, hop, hys, hlc1, hA1, hb1⟩
  have HB1 : Hid (Below w.heap.size w w1) := hb1
  have hle : w.heap.size ≤ w1.heap.size := hb1.size
  have HA1 : Hid (ArgsIs w1 p ys) := hA1
  have HY : Hid (ys.length ≤ cp) := hlc1
  clear hb1 hA1 hop hys hlc1 HH hl
  have HOA : Hid (∀ W : World, W.heap[w1.heap.size + 1]? = (((w1.alloc (.cells zeroM.cells 37)).alloc (.cells #[.int .i64 0, .slice none 0 0] 40)).heap)[w1.heap.size + 1]? → Own2 W (w1.heap.size + 1) (.int .i64 0) (.slice none 0 0)) := fun W e => by
    have := Own2.new (w1.alloc (.cells zeroM.cells 37)) (.int .i64 0) (.slice none 0 0)
    rw [show (w1.alloc (.cells zeroM.cells 37)).heap.size = w1.heap.size + 1 by simp] at this
    exact this.byBlock e
  go_upto_region 4 with (refine wpList_rowStore rfl 37 (.tmp 3) (.tmp 20) rfl w1.heap.size 0 136 m.cell m.cell rfl rfl ((RowAt.new w1 37 136 zeroM.cell).alloc _) (by omega) (fun i _ => cell_one m i) (fun i hi => by rw [if_pos ⟨by omega, by omega⟩, Nat.sub_zero]) (by kernel_rfl) ?_; intro w2 HZ2 hz2 hk2 hb2; have oA := HOA.out w2 (hk2 _ (by omega)); obtain ⟨⟨g0, g1⟩, f0, f1⟩ := oA)
  have HB3 : Hid (Below w.heap.size w ((w2.setCell ⟨w1.heap.size + 1, 0, none⟩ (.int .i64 op)).setCell ⟨w1.heap.size + 1, 1, none⟩ (.slice p ys.length cp))) := ((hb2 _ _ ((HB1.out.alloc hle _).alloc (by simp; omega) _) hle).setCell (p := ⟨_, _, none⟩) (by show w.heap.size ≤ w1.heap.size + 1; omega) _).setCell (p := ⟨_, _, none⟩) (by show w.heap.size ≤ w1.heap.size + 1; omega) _
  have HM3 : Hid (MemAt ((w2.setCell ⟨w1.heap.size + 1, 0, none⟩ (.int .i64 op)).setCell ⟨w1.heap.size + 1, 1, none⟩ (.slice p ys.length cp)) w1.heap.size m) := (RowAt.other HZ2 (.int .i64 op) (by omega)).other (.slice p ys.length cp) (by omega)
  have HE3 : Hid (Own2 ((w2.setCell ⟨w1.heap.size + 1, 0, none⟩ (.int .i64 op)).setCell ⟨w1.heap.size + 1, 1, none⟩ (.slice p ys.length cp)) (w1.heap.size + 1) (.int .i64 op) (.slice p ys.length cp)) := Own2.put ⟨⟨g0, g1⟩, f0, f1⟩ _ _
  have HA3 : Hid (ArgsIs ((w2.setCell ⟨w1.heap.size + 1, 0, none⟩ (.int .i64 op)).setCell ⟨w1.heap.size + 1, 1, none⟩ (.slice p ys.length cp)) p ys) :=
    HA1.out.to (((hb2 _ _ (((Below.refl _ _).alloc (Nat.le_refl _) _).alloc (by simp) _) (Nat.le_refl _)).setCell (p := ⟨_, _, none⟩) (by show w1.heap.size ≤ w1.heap.size + 1; omega) _).setCell (p := ⟨_, _, none⟩) (by show w1.heap.size ≤ w1.heap.size + 1; omega) _)
  generalize ((w2.setCell ⟨w1.heap.size + 1, 0, none⟩ (.int .i64 op)).setCell ⟨w1.heap.size + 1, 1, none⟩ (.slice p ys.length cp)) = W3 at *
  clear HZ2 hz2 hk2 hb2 g0 g1 f0 f1 HOA HB1 HA1
  obtain ⟨B, hB⟩ : ∃ B, B = w1.heap.size := ⟨_, rfl⟩
  rw [← hB] at HM3 HE3 hle ⊢
  clear hB
  have hBW : B + 1 < W3.heap.size := HE3.out.lt
  obtain ⟨⟨g0, g1⟩, f0, f1⟩ := HE3.out
  go_wp2_with (refine wpList_rowLoad rfl 37 (.tmp 3) rfl _ 0 136 m.cell rfl HM3.out (by omega) (fun i _ => by rw [Nat.zero_add]) Tryz.underlying37 rfl (by kernel_rfl) ?_)
  refine Calls.mono (iTest_any m hm op ys p cp W3 HA3.out (HT.out.to HB3.out)) ?_
  rintro e w4 ⟨m', b, rfl, hR4, hb4⟩
  have HR : Hid (TestR m op ys m' b) := hR4
  have HB4 : Hid (Below w.heap.size w w4) := HB3.out.trans (hb4.mono HB3.out.size)
  have HM4 : Hid (MemAt w4 B m) := RowAt.to HM3.out hb4
  have HE4 : Hid (Own2 w4 (B + 1) (.int .i64 op) (.slice p ys.length cp)) := HE3.out.below hb4
  have HA4 : Hid (ArgsIs w4 p ys) := HA3.out.to hb4
  clear hR4 hb4 HB3 HM3 HE3 HA3 g0 g1 f0 f1 hBW
  have hBW : B + 1 < w4.heap.size := HE4.out.lt
  go_upto_region 5 with (refine wpList_rowStore rfl 37 (.tmp 5) (.tmp 26) rfl w4.heap.size 0 136 m'.cell m'.cell rfl rfl (RowAt.new w4 37 136 zeroM.cell) (by omega) (fun i _ => cell_one m' i) (fun i hi => by rw [if_pos ⟨by omega, by omega⟩, Nat.sub_zero]) (by kernel_rfl) ?_; intro w6 HZ6 hz6 hk6 hb6)
  have HB6 : Hid (Below w.heap.size w w6) := hb6 _ _ (HB4.out.alloc HB4.out.size _) HB4.out.size
  have HM6 : Hid (MemAt w6 B m) := RowAt.by (RowAt.alloc HM4.out _) (hk6 B (by omega))
  have HE6 : Hid (Own2 w6 (B + 1) (.int .i64 op) (.slice p ys.length cp)) := (HE4.out.alloc _).byBlock (hk6 (B + 1) (by omega))
  have HA6 : Hid (ArgsIs w6 p ys) := HA4.out.to (hb6 _ _ ((Below.refl _ _).alloc (Nat.le_refl _) _) (Nat.le_refl _))
  have HP6 : Hid (MemAt w6 w4.heap.size m') := HZ6
  have hl6 : w4.heap.size < w6.heap.size := HZ6.lt
  clear HZ6 hz6 hk6 hb6 HB4 HM4 HE4 HA4
  obtain ⟨P, hP⟩ : ∃ P, P = w4.heap.size := ⟨_, rfl⟩
  rw [← hP] at HP6 hl6 hBW ⊢
  clear hP
  obtain ⟨⟨g0, g1⟩, f0, f1⟩ := HE6.out
  go_wp2_with (refine wpList_rowLoad rfl 37 (.tmp 3) rfl _ 0 136 m.cell rfl HM6.out (by omega) (fun i _ => by rw [Nat.zero_add]) Tryz.underlying37 rfl (by kernel_rfl) ?_)
  refine Calls.mono (sTest_any m hm op ys p cp w6 HA6.out) ?_
  rintro e w7 ⟨m'', b', rfl, hR7, hb7⟩
  obtain ⟨-, hbb⟩ := HR.out.one hR7
  subst hbb
  have HX7 : Hid (Asked w B P m m' op ys p cp w7) := ⟨HB6.out.trans (hb7.mono HB6.out.size), RowAt.to HM6.out hb7, RowAt.to HP6.out hb7, HE6.out.below hb7, HA6.out.to hb7, HT.out.to (HB6.out.trans (hb7.mono HB6.out.size)), hle, by omega⟩
  clear hR7 hb7 HB6 HM6 HE6 HA6 HP6 g0 g1 f0 f1 hl6 hBW
  have hlw : P < w7.heap.size := HX7.out.2.2.1.lt
  go_upto_region 6 with (refine wpList_rowStore rfl 37 (.tmp 7) (.tmp 32) rfl w7.heap.size 0 136 m''.cell m''.cell rfl rfl (RowAt.new w7 37 136 zeroM.cell) (by omega) (fun i _ => cell_one m'' i) (fun i hi => by rw [if_pos ⟨by omega, by omega⟩, Nat.sub_zero]) (by kernel_rfl) ?_; intro w8 HZ8 hz8 hk8 hb8)
  have HX8 : Hid (Asked w B P m m' op ys p cp w8) := HX7.out.to (hb8 _ _ ((Below.refl _ _).alloc (Nat.le_refl _) _) (Nat.le_refl _))
  clear HZ8 hz8 hk8 hb8 HX7 hlw hle HT
  obtain ⟨⟨g0, g1⟩, f0, f1⟩ := HX8.out.2.2.2.1
  go_wp2_with fail
  refine Calls.mono (sCon_any op ys p cp w8 HX8.out.2.2.2.2.1 HY.out) ?_
  rintro e w9 ⟨rfl, hb9⟩
  have HX9 : Hid (Asked w B P m m' op ys p cp w9) := HX8.out.to hb9
  clear hb9 HX8 g0 g1 f0 f1 HY
  cases hcon : conB op ys
  · go_wp2_with fail
    go_ret
    exact ⟨by simp, HX9.out.1⟩
  obtain ⟨⟨g0, g1⟩, f0, f1⟩ := HX9.out.2.2.2.1
  by_cases h34 : op = 3 ∨ op = 4
  · obtain ⟨A, n, q, rfl⟩ := con_edge h34 hcon
    have hm' : m' = m.putB 5 n (m.bit A.1 A.2.1) := by
      have hk : keptM m [A, (5, n, q)] = m.putB 5 n (m.bit A.1 A.2.1) := rfl
      rcases HR.out with ⟨e, _⟩ | ⟨e, _⟩ | ⟨_, e, _⟩ | ⟨_, e, _⟩ | ⟨i, l, u, e, _⟩ | ⟨e, _⟩
      · omega
      · omega
      · exact e.trans hk
      · exact e.trans hk
      · omega
      · omega
    have hA9 := HX9.out.2.2.2.2.1
    obtain ⟨Y, rfl, hY9, hYa⟩ : ∃ Y, p = some ⟨Y, 0, none⟩ ∧ Y < w9.heap.size ∧ ArgsAt w9 Y [A, (5, n, q)] := by
      rcases hA9 with h0 | h1
      · cases h0
      · exact h1
    have ra9 : w9.rangeAt Y 0 [.int .i64 A.1, .int .i64 A.2.1, .int .i64 A.2.2] := range3V (hYa 0 (by simp)).1 (hYa 0 (by simp)).2.1 (hYa 0 (by simp)).2.2
    have rb9 : w9.rangeAt Y 3 [.int .i64 5, .int .i64 n, .int .i64 q] := range3W (hYa 1 (by simp)).1 (hYa 1 (by simp)).2.1 (hYa 1 (by simp)).2.2
    have HSB : Hid (∀ W, Calls Tryz.prog 8 #[m.val, arV A] W fun e w' => e = .returned (.bool (m.bit A.1 A.2.1)) ∧ Below W.heap.size W w') := fun W => sbt_any m hm A.1 A.2.1 A.2.2 W
    have HSE : Hid (∀ W, Calls Tryz.prog 8 #[m.val, .agg #[.int .i64 5, .int .i64 n, .int .i64 q]] W fun e w' => e = .returned (.bool (m.bit 5 n)) ∧ Below W.heap.size W w') := fun W => sbt_any m hm 5 n q W
    have hok' : m'.Ok := by rw [hm']; exact putB_ok hm
    have HSI : Hid (∀ W, DevTab W → Calls Tryz.prog 9 #[m'.val, .agg #[.int .i64 5, .int .i64 n, .int .i64 q]] W fun e w' => e = .returned (.bool (m.bit A.1 A.2.1)) ∧ Below W.heap.size W w') := fun W hW => by
      have := ibit_any m' hok' 5 n q W hW
      rwa [show m'.bit 5 n = m.bit A.1 A.2.1 by rw [hm']; exact putB_bit m 5 n _ (by omega) (by omega)] at this
    have HSP : Hid (∀ W, DevTab W → Calls Tryz.prog 11 #[m'.val, .agg #[.int .i64 5, .int .i64 n, .int .i64 q], .bool (m.bit 5 n)] W fun e w' => e = .returned m.val ∧ Below W.heap.size W w') := fun W hW => by
      have := iPut_any m' hok' 5 n q (m.bit 5 n) W hW
      rwa [show m'.putB 5 n (m.bit 5 n) = m by rw [hm']; exact putB_back m 5 n _ (by omega) (by omega)] at this
    have HSS : Hid (∀ W, Calls Tryz.prog 10 #[m.val, m.val] W fun e w' => e = .returned (.bool true) ∧ Below W.heap.size W w') := fun W => memSame_self m hm W
    generalize m.bit A.1 A.2.1 = nb at *
    generalize m.bit 5 n = bb at *
    clear hm' hok' hA9 hYa hcon HR hm
    rcases h34 with rfl | rfl
    all_goals (
      go_upto_region 9 with fail
      refine wp_region_noPanic ?_
      refine wp_region_held_drew (S := fun W => Below w9.heap.size w9 W) (by kernel_rfl) (Below.refl _ _).drew (fun hHeld => ?_)
      refine wpAnyH_take (i := 0) (oi := { dst := some 53, op := .load 37 (.tmp 3), type := 37, pos := _, after := #[], guard := none }) (v := m.val) rfl (by kernel_rfl) (by kernel_rfl) (by kernel_rfl) (fun _ _ _ h => h) (yields_row (by rfl) (.tmp 3) rfl rfl (fun W hb => RowAt.to HX9.out.2.1 hb) Tryz.underlying37 rfl (by kernel_rfl)) hHeld ?_
      simp only [Act.put, List.setIfInBounds_toArray, List.set_cons_zero, List.set_cons_succ]
      refine wpAnyH_take (i := 1) (oi := { dst := some 54, op := .fieldAddr 40 (.tmp 4) 1, type := 0, pos := _, after := #[], guard := none }) (v := .pointer (some ⟨B + 1, 1, none⟩)) rfl (by kernel_rfl) (by kernel_rfl) (by kernel_rfl) (fun _ _ _ h => h) (.inl ⟨by rfl, fun _ _ => rfl⟩) hHeld ?_
      simp only [Act.put, List.setIfInBounds_toArray, List.set_cons_zero, List.set_cons_succ]
      refine wpAnyH_take (i := 2) (oi := { dst := some 55, op := .load 38 (.tmp 54), type := 38, pos := _, after := #[{ on := 1, ground := .data }], guard := none }) (v := .slice (some ⟨Y, 0, none⟩) 2 cp) rfl (by kernel_rfl) (by kernel_rfl) (by kernel_rfl) (fun _ _ _ h => h) (yields_slice (by rfl) (.tmp 54) rfl rfl (fun W hb => (HX9.out.2.2.2.1.below hb).1.2)) hHeld ?_
      simp only [Act.put, List.setIfInBounds_toArray, List.set_cons_zero, List.set_cons_succ]
      refine wpAnyH_take (i := 3) (oi := { dst := some 56, op := .indexAddr 38 (.tmp 55) (.const (.int .i64 0)), type := 0, pos := _, after := #[{ on := 2, ground := .data }], guard := none }) (v := .pointer (some ⟨Y, 0, none⟩)) rfl (by kernel_rfl) (by kernel_rfl) (by kernel_rfl) (fun _ _ _ h => h) (.inl ⟨by rfl, fun _ _ => by simp [execOp, Act.eval, go_sem, Tryz.underlying38]⟩) hHeld ?_
      simp only [Act.put, List.setIfInBounds_toArray, List.set_cons_zero, List.set_cons_succ]
      refine wpAnyH_take (i := 4) (oi := { dst := some 57, op := .load 48 (.tmp 56), type := 48, pos := _, after := #[{ on := 3, ground := .data }], guard := none }) (v := arV A) rfl (by kernel_rfl) (by kernel_rfl) (by kernel_rfl) (fun _ _ _ h => h) (yieldsIf_load_mid (by rfl) _ _ rfl Y 0 rfl [.int .i64 A.1, .int .i64 A.2.1, .int .i64 A.2.2] _ (fun W hb j v hv => by rw [hb.cell (p := ⟨Y, 0 + j, none⟩) hY9]; exact ra9 j v hv) Tryz.underlying48 rfl (by kernel_rfl)) hHeld ?_
      simp only [Act.put, List.setIfInBounds_toArray, List.set_cons_zero, List.set_cons_succ]
      refine wpAnyH_ready (rs := [5]) (by kernel_rfl) (by simp) ?_
      refine AllReadyH.cons (o := { dst := some 58, op := .call { callee := .value (.func 8), args := #[.tmp 53, .tmp 57], argTypes := #[37, 48] }, type := 4, pos := _, after := #[{ on := 0, ground := .data }, { on := 4, ground := .data }], guard := none }) rfl (fun K hK => ?_) AllReadyH.nil
      rw [if_pos (by rfl)]
      refine wp_callGo (args := #[m.val, arV A]) Tryz.call8 rfl (by simp [Act.eval]) (HSB.out _) ?_
      intro w10 hb10
      have hl10 : Below w9.heap.size w9 w10 := (Below.refl _ _).drew.trans (hb10.mono (Nat.le_refl _))
      clear hb10
      refine hK.out _ _ hl10 (fun hHeld => ?_)
      simp only [Act.put, List.setIfInBounds_toArray, List.set_cons_zero, List.set_cons_succ]
      refine wpAnyH_take (i := 6) (oi := { dst := some 9, op := .assign (.tmp 58), type := 4, pos := _, after := #[{ on := 5, ground := .data }, { on := 5, ground := .chain }, { on := 0, ground := .phase }, { on := 1, ground := .phase }, { on := 2, ground := .phase }, { on := 3, ground := .phase }, { on := 4, ground := .phase }, { on := 5, ground := .phase }], guard := none }) (v := .bool nb) rfl (by kernel_rfl) (by kernel_rfl) (by kernel_rfl) (fun _ _ _ h => h) (.inl ⟨by rfl, fun _ _ => rfl⟩) hHeld ?_
      simp only [Act.put, List.setIfInBounds_toArray, List.set_cons_zero, List.set_cons_succ]
      refine wpAnyH_done ?_ ?_ _
      · kernel_rfl
      refine NoPanic.normal ?_
      have HX10 : Hid (Asked w B P m m' _ [A, (5, n, q)] (some ⟨Y, 0, none⟩) cp w10) := HX9.out.to hl10
      have ra10 : w10.rangeAt Y 0 [.int .i64 A.1, .int .i64 A.2.1, .int .i64 A.2.2] := fun j v hv => by rw [hl10.cell (p := ⟨Y, 0 + j, none⟩) hY9]; exact ra9 j v hv
      have rb10 : w10.rangeAt Y 3 [.int .i64 5, .int .i64 n, .int .i64 q] := fun j v hv => by rw [hl10.cell (p := ⟨Y, 3 + j, none⟩) hY9]; exact rb9 j v hv
      have hY10 : Y < w10.heap.size := Nat.lt_of_lt_of_le hY9 hl10.size
      clear hl10 HX9 ra9 rb9 hY9
      clear g0 g1 f0 f1
      go_upto_region 10 with fail
      refine wp_region_noPanic ?_
      refine wp_region_held_drew (S := fun W => Below w10.heap.size w10 W) (by kernel_rfl) (Below.refl _ _).drew (fun hHeld => ?_)
      refine wpAnyH_take (i := 0) (oi := { dst := some 59, op := .load 37 (.tmp 5), type := 37, pos := _, after := #[], guard := none }) (v := m'.val) rfl (by kernel_rfl) (by kernel_rfl) (by kernel_rfl) (fun _ _ _ h => h) (yields_row (by rfl) (.tmp 5) rfl rfl (fun W hb => RowAt.to HX10.out.2.2.1 hb) Tryz.underlying37 rfl (by kernel_rfl)) hHeld ?_
      simp only [Act.put, List.setIfInBounds_toArray, List.set_cons_zero, List.set_cons_succ]
      refine wpAnyH_take (i := 1) (oi := { dst := some 60, op := .fieldAddr 40 (.tmp 4) 1, type := 0, pos := _, after := #[], guard := none }) (v := .pointer (some ⟨B + 1, 1, none⟩)) rfl (by kernel_rfl) (by kernel_rfl) (by kernel_rfl) (fun _ _ _ h => h) (.inl ⟨by rfl, fun _ _ => rfl⟩) hHeld ?_
      simp only [Act.put, List.setIfInBounds_toArray, List.set_cons_zero, List.set_cons_succ]
      refine wpAnyH_take (i := 2) (oi := { dst := some 61, op := .load 38 (.tmp 60), type := 38, pos := _, after := #[{ on := 1, ground := .data }], guard := none }) (v := .slice (some ⟨Y, 0, none⟩) 2 cp) rfl (by kernel_rfl) (by kernel_rfl) (by kernel_rfl) (fun _ _ _ h => h) (yields_slice (by rfl) (.tmp 60) rfl rfl (fun W hb => (HX10.out.2.2.2.1.below hb).1.2)) hHeld ?_
      simp only [Act.put, List.setIfInBounds_toArray, List.set_cons_zero, List.set_cons_succ]
      refine wpAnyH_take (i := 3) (oi := { dst := some 62, op := .indexAddr 38 (.tmp 61) (.const (.int .i64 1)), type := 0, pos := _, after := #[{ on := 2, ground := .data }], guard := none }) (v := .pointer (some ⟨Y, 3, none⟩)) rfl (by kernel_rfl) (by kernel_rfl) (by kernel_rfl) (fun _ _ _ h => h) (.inl ⟨by rfl, fun _ _ => by simp [execOp, Act.eval, go_sem, Tryz.underlying38]⟩) hHeld ?_
      simp only [Act.put, List.setIfInBounds_toArray, List.set_cons_zero, List.set_cons_succ]
      refine wpAnyH_take (i := 4) (oi := { dst := some 63, op := .load 48 (.tmp 62), type := 48, pos := _, after := #[{ on := 3, ground := .data }], guard := none }) (v := .agg #[.int .i64 5, .int .i64 n, .int .i64 q]) rfl (by kernel_rfl) (by kernel_rfl) (by kernel_rfl) (fun _ _ _ h => h) (yieldsIf_load_mid (by rfl) _ _ rfl Y 3 rfl [.int .i64 5, .int .i64 n, .int .i64 q] _ (fun W hb j v hv => by rw [hb.cell (p := ⟨Y, 3 + j, none⟩) hY10]; exact rb10 j v hv) Tryz.underlying48 rfl (by kernel_rfl)) hHeld ?_
      simp only [Act.put, List.setIfInBounds_toArray, List.set_cons_zero, List.set_cons_succ]
      refine wpAnyH_take (i := 6) (oi := { dst := some 65, op := .move (.tmp 9), type := 4, pos := _, after := #[], guard := none }) (v := .bool nb) rfl (by kernel_rfl) (by kernel_rfl) (by kernel_rfl) (fun _ _ _ h => h) (.inl ⟨by rfl, fun _ _ => rfl⟩) hHeld ?_
      simp only [Act.put, List.setIfInBounds_toArray, List.set_cons_zero, List.set_cons_succ]
      refine wpAnyH_ready (rs := [5]) (by kernel_rfl) (by simp) ?_
      refine AllReadyH.cons (o := { dst := some 64, op := .call { callee := .value (.func 9), args := #[.tmp 59, .tmp 63], argTypes := #[37, 48] }, type := 4, pos := _, after := #[{ on := 0, ground := .data }, { on := 4, ground := .data }], guard := none }) rfl (fun K hK => ?_) AllReadyH.nil
      rw [if_pos (by rfl)]
      refine wp_callGo (args := #[m'.val, .agg #[.int .i64 5, .int .i64 n, .int .i64 q]]) Tryz.call9 rfl (by simp [Act.eval]) (HSI.out _ (HX10.out.2.2.2.2.2.1.to (Below.refl _ _).drew)) ?_
      intro w11 hb11
      have hl11 : Below w10.heap.size w10 w11 := (Below.refl _ _).drew.trans (hb11.mono (Nat.le_refl _))
      clear hb11
      refine hK.out _ _ hl11 (fun hHeld => ?_)
      simp only [Act.put, List.setIfInBounds_toArray, List.set_cons_zero, List.set_cons_succ]
      refine wpAnyH_take (i := 7) (oi := { dst := some 66, op := .binOp .neq 4 (.tmp 64) (.tmp 65) 4, type := 4, pos := _, after := #[{ on := 5, ground := .data }, { on := 6, ground := .data }], guard := none }) (v := .bool false) rfl (by kernel_rfl) (by kernel_rfl) (by kernel_rfl) (fun _ _ _ h => h) (.inl ⟨by rfl, fun _ _ => by cases nb <;> rfl⟩) hHeld ?_
      simp only [Act.put, List.setIfInBounds_toArray, List.set_cons_zero, List.set_cons_succ]
      refine wpAnyH_done ?_ ?_ _
      · kernel_rfl
      refine NoPanic.normal ?_
      have HX11 : Hid (Asked w B P m m' _ [A, (5, n, q)] (some ⟨Y, 0, none⟩) cp w11) := HX10.out.to hl11
      have ra11 : w11.rangeAt Y 0 [.int .i64 A.1, .int .i64 A.2.1, .int .i64 A.2.2] := fun j v hv => by rw [hl11.cell (p := ⟨Y, 0 + j, none⟩) hY10]; exact ra10 j v hv
      have rb11 : w11.rangeAt Y 3 [.int .i64 5, .int .i64 n, .int .i64 q] := fun j v hv => by rw [hl11.cell (p := ⟨Y, 3 + j, none⟩) hY10]; exact rb10 j v hv
      have hY11 : Y < w11.heap.size := Nat.lt_of_lt_of_le hY10 hl11.size
      clear hl11 HX10 ra10 rb10 hY10
      go_upto_region 12 with fail
      refine wp_region_noPanic ?_
      refine wp_region_held_drew (S := fun W => Below w11.heap.size w11 W) (by kernel_rfl) (Below.refl _ _).drew (fun hHeld => ?_)
      refine wpAnyH_take (i := 0) (oi := { dst := some 67, op := .load 37 (.tmp 5), type := 37, pos := _, after := #[], guard := none }) (v := m'.val) rfl (by kernel_rfl) (by kernel_rfl) (by kernel_rfl) (fun _ _ _ h => h) (yields_row (by rfl) (.tmp 5) rfl rfl (fun W hb => RowAt.to HX11.out.2.2.1 hb) Tryz.underlying37 rfl (by kernel_rfl)) hHeld ?_
      simp only [Act.put, List.setIfInBounds_toArray, List.set_cons_zero, List.set_cons_succ]
      refine wpAnyH_take (i := 1) (oi := { dst := some 68, op := .fieldAddr 40 (.tmp 4) 1, type := 0, pos := _, after := #[], guard := none }) (v := .pointer (some ⟨B + 1, 1, none⟩)) rfl (by kernel_rfl) (by kernel_rfl) (by kernel_rfl) (fun _ _ _ h => h) (.inl ⟨by rfl, fun _ _ => rfl⟩) hHeld ?_
      simp only [Act.put, List.setIfInBounds_toArray, List.set_cons_zero, List.set_cons_succ]
      refine wpAnyH_take (i := 2) (oi := { dst := some 69, op := .load 38 (.tmp 68), type := 38, pos := _, after := #[{ on := 1, ground := .data }], guard := none }) (v := .slice (some ⟨Y, 0, none⟩) 2 cp) rfl (by kernel_rfl) (by kernel_rfl) (by kernel_rfl) (fun _ _ _ h => h) (yields_slice (by rfl) (.tmp 68) rfl rfl (fun W hb => (HX11.out.2.2.2.1.below hb).1.2)) hHeld ?_
      simp only [Act.put, List.setIfInBounds_toArray, List.set_cons_zero, List.set_cons_succ]
      refine wpAnyH_take (i := 3) (oi := { dst := some 70, op := .indexAddr 38 (.tmp 69) (.const (.int .i64 1)), type := 0, pos := _, after := #[{ on := 2, ground := .data }], guard := none }) (v := .pointer (some ⟨Y, 3, none⟩)) rfl (by kernel_rfl) (by kernel_rfl) (by kernel_rfl) (fun _ _ _ h => h) (.inl ⟨by rfl, fun _ _ => by simp [execOp, Act.eval, go_sem, Tryz.underlying38]⟩) hHeld ?_
      simp only [Act.put, List.setIfInBounds_toArray, List.set_cons_zero, List.set_cons_succ]
      refine wpAnyH_take (i := 4) (oi := { dst := some 71, op := .load 48 (.tmp 70), type := 48, pos := _, after := #[{ on := 3, ground := .data }], guard := none }) (v := .agg #[.int .i64 5, .int .i64 n, .int .i64 q]) rfl (by kernel_rfl) (by kernel_rfl) (by kernel_rfl) (fun _ _ _ h => h) (yieldsIf_load_mid (by rfl) _ _ rfl Y 3 rfl [.int .i64 5, .int .i64 n, .int .i64 q] _ (fun W hb j v hv => by rw [hb.cell (p := ⟨Y, 3 + j, none⟩) hY11]; exact rb11 j v hv) Tryz.underlying48 rfl (by kernel_rfl)) hHeld ?_
      simp only [Act.put, List.setIfInBounds_toArray, List.set_cons_zero, List.set_cons_succ]
      refine wpAnyH_take (i := 5) (oi := { dst := some 72, op := .load 37 (.tmp 3), type := 37, pos := _, after := #[], guard := none }) (v := m.val) rfl (by kernel_rfl) (by kernel_rfl) (by kernel_rfl) (fun _ _ _ h => h) (yields_row (by rfl) (.tmp 3) rfl rfl (fun W hb => RowAt.to HX11.out.2.1 hb) Tryz.underlying37 rfl (by kernel_rfl)) hHeld ?_
      simp only [Act.put, List.setIfInBounds_toArray, List.set_cons_zero, List.set_cons_succ]
      refine wpAnyH_take (i := 6) (oi := { dst := some 73, op := .fieldAddr 40 (.tmp 4) 1, type := 0, pos := _, after := #[], guard := none }) (v := .pointer (some ⟨B + 1, 1, none⟩)) rfl (by kernel_rfl) (by kernel_rfl) (by kernel_rfl) (fun _ _ _ h => h) (.inl ⟨by rfl, fun _ _ => rfl⟩) hHeld ?_
      simp only [Act.put, List.setIfInBounds_toArray, List.set_cons_zero, List.set_cons_succ]
      refine wpAnyH_take (i := 7) (oi := { dst := some 74, op := .load 38 (.tmp 73), type := 38, pos := _, after := #[{ on := 6, ground := .data }], guard := none }) (v := .slice (some ⟨Y, 0, none⟩) 2 cp) rfl (by kernel_rfl) (by kernel_rfl) (by kernel_rfl) (fun _ _ _ h => h) (yields_slice (by rfl) (.tmp 73) rfl rfl (fun W hb => (HX11.out.2.2.2.1.below hb).1.2)) hHeld ?_
      simp only [Act.put, List.setIfInBounds_toArray, List.set_cons_zero, List.set_cons_succ]
      refine wpAnyH_take (i := 8) (oi := { dst := some 75, op := .indexAddr 38 (.tmp 74) (.const (.int .i64 1)), type := 0, pos := _, after := #[{ on := 7, ground := .data }], guard := none }) (v := .pointer (some ⟨Y, 3, none⟩)) rfl (by kernel_rfl) (by kernel_rfl) (by kernel_rfl) (fun _ _ _ h => h) (.inl ⟨by rfl, fun _ _ => by simp [execOp, Act.eval, go_sem, Tryz.underlying38]⟩) hHeld ?_
      simp only [Act.put, List.setIfInBounds_toArray, List.set_cons_zero, List.set_cons_succ]
      refine wpAnyH_take (i := 9) (oi := { dst := some 76, op := .load 48 (.tmp 75), type := 48, pos := _, after := #[{ on := 8, ground := .data }], guard := none }) (v := .agg #[.int .i64 5, .int .i64 n, .int .i64 q]) rfl (by kernel_rfl) (by kernel_rfl) (by kernel_rfl) (fun _ _ _ h => h) (yieldsIf_load_mid (by rfl) _ _ rfl Y 3 rfl [.int .i64 5, .int .i64 n, .int .i64 q] _ (fun W hb j v hv => by rw [hb.cell (p := ⟨Y, 3 + j, none⟩) hY11]; exact rb11 j v hv) Tryz.underlying48 rfl (by kernel_rfl)) hHeld ?_
      simp only [Act.put, List.setIfInBounds_toArray, List.set_cons_zero, List.set_cons_succ]
      refine wpAnyH_take (i := 12) (oi := { dst := some 79, op := .load 37 (.tmp 3), type := 37, pos := _, after := #[], guard := none }) (v := m.val) rfl (by kernel_rfl) (by kernel_rfl) (by kernel_rfl) (fun _ _ _ h => h) (yields_row (by rfl) (.tmp 3) rfl rfl (fun W hb => RowAt.to HX11.out.2.1 hb) Tryz.underlying37 rfl (by kernel_rfl)) hHeld ?_
      simp only [Act.put, List.setIfInBounds_toArray, List.set_cons_zero, List.set_cons_succ]
      refine wpAnyH_ready (rs := [10]) (by kernel_rfl) (by simp) ?_
      refine AllReadyH.cons (o := { dst := some 77, op := .call { callee := .value (.func 8), args := #[.tmp 72, .tmp 76], argTypes := #[37, 48] }, type := 4, pos := _, after := #[{ on := 5, ground := .data }, { on := 9, ground := .data }], guard := none }) rfl (fun K hK => ?_) AllReadyH.nil
      rw [if_pos (by rfl)]
      refine wp_callGo (args := #[m.val, .agg #[.int .i64 5, .int .i64 n, .int .i64 q]]) Tryz.call8 rfl (by simp [Act.eval]) (HSE.out _) ?_
      intro w12 hb12
      have hl12 : Below w11.heap.size w11 w12 := (Below.refl _ _).drew.trans (hb12.mono (Nat.le_refl _))
      clear hb12
      refine hK.out _ _ hl12 (fun hHeld => ?_)
      simp only [Act.put, List.setIfInBounds_toArray, List.set_cons_zero, List.set_cons_succ]
      refine wpAnyH_ready (rs := [11]) (by kernel_rfl) (by simp) ?_
      refine AllReadyH.cons (o := { dst := some 78, op := .call { callee := .value (.func 11), args := #[.tmp 67, .tmp 71, .tmp 77], argTypes := #[37, 48, 4] }, type := 37, pos := _, after := #[{ on := 0, ground := .data }, { on := 4, ground := .data }, { on := 10, ground := .data }, { on := 10, ground := .chain }], guard := none }) rfl (fun K hK => ?_) AllReadyH.nil
      rw [if_pos (by rfl)]
      refine wp_callGo (args := #[m'.val, .agg #[.int .i64 5, .int .i64 n, .int .i64 q], .bool bb]) Tryz.call11 rfl (by simp [Act.eval]) (HSP.out _ (HX11.out.2.2.2.2.2.1.to hl12)) ?_
      intro w13 hb13
      have hl13 : Below w11.heap.size w11 w13 := hl12.trans (hb13.mono hl12.size)
      clear hb13 hl12
      refine hK.out _ _ hl13 (fun hHeld => ?_)
      simp only [Act.put, List.setIfInBounds_toArray, List.set_cons_zero, List.set_cons_succ]
      refine wpAnyH_ready (rs := [13]) (by kernel_rfl) (by simp) ?_
      refine AllReadyH.cons (o := { dst := some 80, op := .call { callee := .value (.func 10), args := #[.tmp 78, .tmp 79], argTypes := #[37, 37] }, type := 4, pos := _, after := #[{ on := 11, ground := .data }, { on := 12, ground := .data }, { on := 11, ground := .chain }], guard := none }) rfl (fun K hK => ?_) AllReadyH.nil
      rw [if_pos (by rfl)]
      refine wp_callGo (args := #[m.val, m.val]) Tryz.call10 rfl (by simp [Act.eval]) (HSS.out _) ?_
      intro w14 hb14
      have hl14 : Below w11.heap.size w11 w14 := hl13.trans (hb14.mono hl13.size)
      clear hb14 hl13
      refine hK.out _ _ hl14 (fun hHeld => ?_)
      simp only [Act.put, List.setIfInBounds_toArray, List.set_cons_zero, List.set_cons_succ]
      refine wpAnyH_take (i := 14) (oi := { dst := some 2, op := .assign (.tmp 80), type := 4, pos := _, after := #[{ on := 13, ground := .data }, { on := 13, ground := .chain }, { on := 0, ground := .phase }, { on := 1, ground := .phase }, { on := 2, ground := .phase }, { on := 3, ground := .phase }, { on := 4, ground := .phase }, { on := 5, ground := .phase }, { on := 6, ground := .phase }, { on := 7, ground := .phase }, { on := 8, ground := .phase }, { on := 9, ground := .phase }, { on := 10, ground := .phase }, { on := 11, ground := .phase }, { on := 12, ground := .phase }, { on := 13, ground := .phase }], guard := none }) (v := .bool true) rfl (by kernel_rfl) (by kernel_rfl) (by kernel_rfl) (fun _ _ _ h => h) (.inl ⟨by rfl, fun _ _ => rfl⟩) hHeld ?_
      simp only [Act.put, List.setIfInBounds_toArray, List.set_cons_zero, List.set_cons_succ]
      have HB14 : Hid (Below w.heap.size w w14) := HX11.out.1.trans (hl14.mono HX11.out.1.size)
      refine wpAnyH_done ?_ ?_ _
      · kernel_rfl
      refine NoPanic.normal ?_
      go_wp2_with fail
      go_ret
      exact ⟨rfl, HB14.out⟩)
  · have hm' : m' = m := by
      rcases HR.out with ⟨_, e, _⟩ | ⟨_, e, _⟩ | ⟨e, _⟩ | ⟨e, _⟩ | ⟨i, l, u, _, e, _⟩ | ⟨_, e, _⟩
      · exact e
      · exact e
      · omega
      · omega
      · exact e
      · exact e
    subst hm'
    have q3 : (op == 3) = false := by simp only [beq_eq_false_iff_ne, ne_eq]; omega
    have q4 : (op == 4) = false := by simp only [beq_eq_false_iff_ne, ne_eq]; omega
    have HM9 : Hid (MemAt w9 B m') := HX9.out.2.1
    have HP9 : Hid (MemAt w9 P m') := HX9.out.2.2.1
    go_wp2_with (first
      | refine wpList_rowLoad rfl 37 (.tmp 5) rfl _ 0 136 m'.cell rfl HP9.out (by omega) (fun i _ => by rw [Nat.zero_add]) Tryz.underlying37 rfl (by kernel_rfl) ?_
      | refine wpList_rowLoad rfl 37 (.tmp 3) rfl _ 0 136 m'.cell rfl HM9.out (by omega) (fun i _ => by rw [Nat.zero_add]) Tryz.underlying37 rfl (by kernel_rfl) ?_)
    refine Calls.mono (memSame_self m' hm w9) ?_
    rintro e w10 ⟨rfl, hb10⟩
    have HX10 : Hid (Asked w B P m' m' op ys p cp w10) := HX9.out.to hb10
    clear hb10 HX9 HM9 HP9 g0 g1 f0 f1
    obtain ⟨⟨g0, g1⟩, f0, f1⟩ := HX10.out.2.2.2.1
    by_cases h2 : (2 : Int) < op
    · go_wp2_with fail
      go_ret
      exact ⟨rfl, HX10.out.1⟩
    have h12 : op = 1 ∨ op = 2 := by
      rcases op_cases op with e | e | e | e | ⟨i, l, u, e⟩ | e | e
      · exact .inl e
      · exact .inr e
      · omega
      · omega
      · omega
      · exact absurd hcon (con_low e)
      · omega
    obtain ⟨A, rfl⟩ := con_plain h12 hcon
    have hA9 := HX10.out.2.2.2.2.1
    obtain ⟨Y, rfl, hY, hYa⟩ : ∃ Y, p = some ⟨Y, 0, none⟩ ∧ Y < w10.heap.size ∧ ArgsAt w10 Y [A] := by
      rcases hA9 with h0 | h1
      · cases h0
      · exact h1
    have ra : w10.rangeAt Y 0 [.int .i64 A.1, .int .i64 A.2.1, .int .i64 A.2.2] := range3V (hYa 0 (by simp)).1 (hYa 0 (by simp)).2.1 (hYa 0 (by simp)).2.2
    have HC1 : Hid (∀ (W : World) (p : Option Addr) (cp : Nat), DevTab W → ArgsIs W p [A] → Calls Tryz.prog 5 #[m'.val, .agg #[.int .i64 1, .slice p 1 cp]] W fun e w' => ∃ v, e = .returned v ∧ (∃ m1 : Mm, v = .tuple #[m1.val, .bool (nowB m' [A])]) ∧ Below W.heap.size W w') := fun W p cp hW hp => (iTest_any m' hm 1 [A] p cp W hp hW).mono (by
      rintro e w' ⟨m1, b1, rfl, hR, hb⟩
      obtain ⟨-, rfl⟩ := hR.one (.inl ⟨rfl, rfl, rfl⟩ : TestR m' 1 [A] m' (nowB m' [A]))
      exact ⟨_, rfl, ⟨m1, rfl⟩, hb⟩)
    have HC2 : Hid (∀ (W : World) (p : Option Addr) (cp : Nat), DevTab W → ArgsIs W p [A] → Calls Tryz.prog 5 #[m'.val, .agg #[.int .i64 2, .slice p 1 cp]] W fun e w' => ∃ v, e = .returned v ∧ (∃ m1 : Mm, v = .tuple #[m1.val, .bool (!nowB m' [A])]) ∧ Below W.heap.size W w') := fun W p cp hW hp => (iTest_any m' hm 2 [A] p cp W hp hW).mono (by
      rintro e w' ⟨m1, b1, rfl, hR, hb⟩
      obtain ⟨-, rfl⟩ := hR.one (.inr (.inl ⟨rfl, rfl, rfl⟩) : TestR m' 2 [A] m' (!nowB m' [A]))
      exact ⟨_, rfl, ⟨m1, rfl⟩, hb⟩)
    generalize nowB m' [A] = nb at *
    clear hcon HR hA9 hYa h12 hm q3 q4
    go_upto_region 17 with fail
    refine ask_region17 (A := A) (op := op) (n := 0) (cap := cp) (B := Y) (bb := nb) Tryz.call5 HX10.out.2.1 HX10.out.2.2.2.1 ra hY (fun W p cp hW hp => HC1.out W p cp (HX10.out.2.2.2.2.2.1.to hW) hp) ?_
    intro u10 u88 u89 u90 u91 u92 u93 u94 u95 u96 u97 u98 w11 hb11
    have HX11 : Hid (Asked w B P m' m' op [A] (some ⟨Y, 0, none⟩) cp w11) := HX10.out.to hb11
    have ra11 : w11.rangeAt Y 0 [.int .i64 A.1, .int .i64 A.2.1, .int .i64 A.2.2] := fun j v hv => by rw [hb11.cell (p := ⟨Y, 0 + j, none⟩) hY]; exact ra j v hv
    have hY11 : Y < w11.heap.size := Nat.lt_of_lt_of_le hY hb11.size
    clear hb11 HX10 ra hY g0 g1 f0 f1 HC1
    go_upto_region 18 with fail
    refine ask_region18 (A := A) (op := op) (n := 0) (cap := cp) (B := Y) (bb := !nb) Tryz.call5 HX11.out.2.1 HX11.out.2.2.2.1 ra11 hY11 (fun W p cp hW hp => HC2.out W p cp (HX11.out.2.2.2.2.2.1.to hW) hp) ?_
    intro u12 u99 u100 u101 u102 u103 u104 u105 u106 u107 u108 u109 w12 hb12
    have HB12 : Hid (Below w.heap.size w w12) := (HX11.out.to hb12).1
    clear hb12 HX11 ra11 hY11 HC2
    cases nb
    all_goals (
      go_wp2_with fail
      go_ret
      exact ⟨by first | rfl | simp, HB12.out⟩)
end Go.Proofs.YtmgjngihngddfaaGreatDoor
