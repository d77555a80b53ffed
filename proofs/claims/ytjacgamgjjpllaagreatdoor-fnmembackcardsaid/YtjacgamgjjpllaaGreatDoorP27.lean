/- The document's MemRead. Helper text: no statement is claimed here. -/
import Derived.Test.YtjacgamgjjpllaaGreatDoorP19
import Derived.Test.YtjacgamgjjpllaaGreatDoorKf
import Derived.Test.YtjacgamgjjpllaaGreatDoorP09
import Derived.Test.YtjacgamgjjpllaaGreatDoorP05
import Derived.Test.YtjacgamgjjpllaaGreatDoorP01
import Derived.Deep.RegionWith
import Derived.Lib.QuietBelow
import Derived.Test.YtjacgamgjjpllaaGreatDoorP07
import Derived.Test.YtjacgamgjjpllaaGreatDoorP08
import Derived.Test.YtjacgamgjjpllaaGreatDoorP16
import Derived.Test.YtjacgamgjjpllaaGreatDoorP03
import Derived.Test.YtjacgamgjjpllaaGreatDoorP02
import Derived.BigQuiet
import Derived.Deep.Cut
import Derived.Test.YtjacgamgjjpllaaGreatDoorP06
namespace Go.Proofs.YtjacgamgjjpllaaGreatDoor
open Go.ChangeShapes Go.WideShapes Go.ChangeAt Go.RowKit Fl

/-- What a reading ends in: a memory and whether it is one. -/
def ReadM (t : List UInt8) (ws : List (List UInt8)) (w : World) (e : Ending) (w' : World) : Prop :=
  ∃ (m : Mm) (b : Bool), e = .returned (.tuple #[m.val, .bool b]) ∧ m.Ok ∧ ((b = true ∧ t.length ≤ 6000 ∧ memT m = t ∧ FoldW zeroM ws m) ∨ (b = false ∧ m = zeroM ∧ (6000 < t.length ∨ ∃ m1 : Mm, m1.Ok ∧ FoldW zeroM ws m1 ∧ memT m1 ≠ t))) ∧ Below w.heap.size w w'
/-- What stands while the words are read. -/
def Rdg (w0 : World) (bR bM g : Nat) (ws : List (List UInt8)) (j : Nat) (m : Mm) (W : World) : Prop :=
  m.Ok ∧ FoldW zeroM (ws.take j) m ∧ MemAt W bM m ∧ MemAt W bR zeroM ∧ (∀ i l, ws[i]? = some l → W.cell? ⟨g, i, none⟩ = some (.string ⟨l.toArray⟩)) ∧ Below w0.heap.size w0 W
theorem resMemB {fn : Func} {W : World} {b p u : Nat} {tmps : Array Value} {v : Value} {m : Mm} (h : fn.results = #[.cell p 37, .tmp u]) (hp : tmps.getD p undef = .pointer (some ⟨b, 0, none⟩)) (hu : tmps.getD u undef = v)
    (hM : MemAt W b m) : (results fn tmps).run Tryz.prog W = .ok (.tuple #[m.val, v]) W := by
  have hp' : tmps[p]?.getD undef = .pointer (some ⟨b, 0, none⟩) := by simpa [Array.getD_eq_getD_getElem?] using hp
  have hu' : tmps[u]?.getD undef = v := by simpa [Array.getD_eq_getD_getElem?] using hu
  simp [results, h, hp', hu', asAddr, runMemX hM]
theorem build_zeroX (w : World) : (Instr.build 37 #[]).run Tryz.prog w = .ok (.agg zeroM.cells) w := by kernel_rfl
theorem take_next {ws : List (List UInt8)} {j : Nat} {l : List UInt8} (h : ws[j]? = some l) : ws.take (j + 1) = ws.take j ++ [l] := by
  rw [List.take_add_one, h]; rfl
theorem Rdg.step {w0 : World} {bR bM g : Nat} {ws : List (List UInt8)} {j : Nat} {m m' : Mm} {W W' : World} {l : List UInt8} (h : Rdg w0 bR bM g ws j m W) (hl : ws[j]? = some l) (hr : m'.Ok ∧ Res m l m') (hM : MemAt W' bM m')
    (hb : ∀ B x, Below B x W → B ≤ bM → Below B x W') (hk : ∀ b, b < W.heap.size → b ≠ bM → W'.heap[b]? = W.heap[b]?) (h0 : w0.heap.size ≤ bM) (hR : bR ≠ bM) (hg : g ≠ bM) : Rdg w0 bR bM g ws (j + 1) m' W' := by
  obtain ⟨-, h2, -, h4, h5, h6⟩ := h
  refine ⟨hr.1, ?_, hM, h4.by (hk _ h4.lt hR), fun i l' hi => ?_, hb _ _ h6 h0⟩
  · rw [take_next hl]
    exact h2.snoc (res_step hr.2)
  · have := h5 i l' hi
    exact (World.cell?_of_block (w := W) (a := ⟨g, i, none⟩) (hk g (World.block_lt_of_cell? W ⟨g, i, none⟩ this) hg)).trans this
attribute [local go_sem] build_zeroX
set_option maxHeartbeats 2000000 in
set_option maxRecDepth 20000 in
theorem sread_long (s : ByteArray) (w : World) (hs : (6000 : Int) < (s.size : Int)) :
    Calls Tryz.prog 10 #[.string s] w fun e w' => e = .returned (.tuple #[zeroM.val, .bool false]) ∧ Below w.heap.size w w' := by
  have hz : ∀ w, (zeroValue 37).run Tryz.prog w = .ok (.agg zeroM.cells) w := fun _ => by kernel_rfl
  go_enter Tryz.func10, Tryz.ntmps10
  go_wp2_with (first
    | (refine wpList_rowStore rfl 37 (.tmp 4) (.tmp 7) rfl _ 0 136 zeroM.cell zeroM.cell rfl rfl (by have := RowAt.new (w.alloc (.cells zeroM.cells 37)) 37 136 zeroM.cell; rw [show (w.alloc (.cells zeroM.cells 37)).heap.size = w.heap.size + 1 by simp] at this; exact this) (by omega) (fun i _ => cell_one zeroM i) (fun i hi => by rw [if_pos ⟨by omega, by omega⟩, Nat.sub_zero]) (by kernel_rfl) ?_
       intro v0 HZ0 hz0 hk0 hb0
       have HB : Hid (Below w.heap.size w v0) := hb0 _ _ (((Below.refl _ _).alloc (Nat.le_refl _) _).alloc (by simp) _) (by omega)
       have HI : Hid (MemAt v0 (w.heap.size + 1) zeroM) := HZ0
       have HR : Hid (MemAt v0 w.heap.size zeroM) := ((RowAt.new w 37 136 zeroM.cell).alloc _).by (hk0 w.heap.size (by omega))
       clear HZ0 hz0 hk0 hb0 hz)
    | refine wpList_rowLoad rfl 37 (.tmp 4) rfl _ 0 136 zeroM.cell rfl HI.out (by omega) (fun i _ => by rw [Nat.zero_add]) Tryz.underlying37 rfl (by kernel_rfl) ?_
    | (refine wpList_rowStore rfl 37 (.tmp 2) (.tmp 11) rfl _ 0 136 zeroM.cell zeroM.cell rfl rfl HR.out (by omega) (fun i _ => cell_one zeroM i) (fun i hi => by rw [if_pos ⟨by omega, by omega⟩, Nat.sub_zero]) (by kernel_rfl) ?_; intro w2 HZ2 hz2 hk2 hb2))
  exact bodyPost_ret (v := .tuple #[zeroM.val, .bool false]) (resMemB Tryz.results10 rfl rfl HZ2) rfl ⟨rfl, hb2 _ _ HB.out (Nat.le_refl _)⟩
set_option maxHeartbeats 4000000 in
set_option maxRecDepth 20000 in
theorem sread_walk (s : ByteArray) (t : List UInt8) (ws : List (List UInt8)) (w : World) (hst : s.toList = t) (hs : ¬ (6000 : Int) < (s.size : Int)) (hwl : ws.length ≤ 6001) (htl : t.length ≤ 6000)
    (h1 : ∀ W, Calls Tryz.prog 24 #[.string s] W fun e w' => ∃ v, e = .returned v ∧ Hid (SRow w' W.heap.size v ws) ∧ Below W.heap.size W w')
    (h2 : ∀ (m : Mm) (l : List UInt8), m.Ok → l ∈ ws → ∀ W, Calls Tryz.prog 25 #[m.val, .string ⟨l.toArray⟩] W fun e w' => ∃ m' : Mm, e = .returned m'.val ∧ (m'.Ok ∧ Res m l m') ∧ Below W.heap.size W w')
    (h3 : ∀ m : Mm, m.Ok → ∀ W, Calls Tryz.prog 21 #[.agg m.cells] W fun e w' => e = .returned (.string ⟨(memT m).toArray⟩) ∧ Below W.heap.size W w') :
    Calls Tryz.prog 10 #[.string s] w (ReadM t ws w) := by
  have hz : ∀ w, (zeroValue 37).run Tryz.prog w = .ok (.agg zeroM.cells) w := fun _ => by kernel_rfl
  have H1 : Hid (∀ W, Calls Tryz.prog 24 #[.string s] W fun e w' => ∃ v, e = .returned v ∧ Hid (SRow w' W.heap.size v ws) ∧ Below W.heap.size W w') := h1
  have H2 : Hid (∀ (m : Mm) (l : List UInt8), m.Ok → l ∈ ws → ∀ W, Calls Tryz.prog 25 #[m.val, .string ⟨l.toArray⟩] W fun e w' => ∃ m' : Mm, e = .returned m'.val ∧ (m'.Ok ∧ Res m l m') ∧ Below W.heap.size W w') := h2
  have H3 : Hid (∀ m : Mm, m.Ok → ∀ W, Calls Tryz.prog 21 #[.agg m.cells] W fun e w' => e = .returned (.string ⟨(memT m).toArray⟩) ∧ Below W.heap.size W w') := h3
  have HST : Hid (s.toList = t) := hst
  clear h1 h2 h3 hst
  go_enter Tryz.func10, Tryz.ntmps10
  go_wp2_with (first
    | (refine wpList_rowStore rfl 37 (.tmp 4) (.tmp 7) rfl _ 0 136 zeroM.cell zeroM.cell rfl rfl (by have := RowAt.new (w.alloc (.cells zeroM.cells 37)) 37 136 zeroM.cell; rw [show (w.alloc (.cells zeroM.cells 37)).heap.size = w.heap.size + 1 by simp] at this; exact this) (by omega) (fun i _ => cell_one zeroM i) (fun i hi => by rw [if_pos ⟨by omega, by omega⟩, Nat.sub_zero]) (by kernel_rfl) ?_
       intro v0 HZ0 hz0 hk0 hb0
       have HB : Hid (Below w.heap.size w v0) := hb0 _ _ (((Below.refl _ _).alloc (Nat.le_refl _) _).alloc (by simp) _) (by omega)
       have HI : Hid (MemAt v0 (w.heap.size + 1) zeroM) := HZ0
       have HR : Hid (MemAt v0 w.heap.size zeroM) := ((RowAt.new w 37 136 zeroM.cell).alloc _).by (hk0 w.heap.size (by omega))
       clear HZ0 hz0 hk0 hb0 hz))
  refine (H1.out _).mono ?_
  rintro e w1 ⟨v, rfl, HRow, hb1⟩
  have hbz : Below w.heap.size w w1 := HB.out.trans (hb1.mono HB.out.size)
  have hI1 : MemAt w1 (w.heap.size + 1) zeroM := HI.out.to hb1
  have hR1 : MemAt w1 w.heap.size zeroM := HR.out.to hb1
  have hlt := HI.out.lt
  obtain ⟨g, cap, hg, HG, hcap⟩ : ∃ g cap, (v = .slice none 0 0 ∧ ws = [] ∨ v = .slice (some ⟨g, 0, none⟩) ws.length cap) ∧ Hid (∀ j l, ws[j]? = some l → w1.cell? ⟨g, j, none⟩ = some (.string ⟨l.toArray⟩)) ∧ w.heap.size + 1 < g := by
    rcases HRow.out.form with ⟨rfl, rfl⟩ | ⟨g, cap, rfl, hg, -, -, -, h⟩
    · exact ⟨w.heap.size + 2, 0, .inl ⟨rfl, rfl⟩, fun j l h => by simp at h, by omega⟩
    · exact ⟨g, cap, .inr rfl, h, by omega⟩
  have HD : Hid (Rdg w w.heap.size (w.heap.size + 1) g ws 0 zeroM w1) := ⟨zeroM_ok, rfl, hI1, hR1, HG.out, hbz⟩
  clear hI1 hR1 hbz hb1 HB HI HR HG HRow H1
  rcases hg with ⟨rfl, rfl⟩ | rfl
  · go_wp2
    go_loopw [6] (fun d w' => ∃ m : Mm, d = .int .i64 0 ∧ Hid (Rdg w w.heap.size (w.heap.size + 1) g [] 0 m w')) (fun _ _ => 0)
    case atStart => exact ⟨zeroM, rfl, HD⟩
    case round =>
      obtain ⟨m, rfl, HX⟩ := hrel
      rename_i wr
      have hok := HX.out.1
      have HI : Hid (MemAt wr (w.heap.size + 1) m) := HX.out.2.2.1
      have HR : Hid (MemAt wr w.heap.size zeroM) := HX.out.2.2.2.1
      have HB : Hid (Below w.heap.size w wr) := HX.out.2.2.2.2.2
      have HF : Hid (FoldW zeroM [] m) := by
        have h := HX.out.2.1
        exact h
      clear HX
      go_wp2_with (refine wpList_rowLoad rfl 37 (.tmp 4) rfl _ 0 136 m.cell rfl HI.out (by omega) (fun i _ => by rw [Nat.zero_add]) Tryz.underlying37 rfl (by kernel_rfl) ?_)
      refine (H3.out m hok _).mono ?_
      rintro e w4 ⟨rfl, hb4⟩
      have HI4 : Hid (MemAt w4 (w.heap.size + 1) m) := HI.out.to hb4
      have HR4 : Hid (MemAt w4 w.heap.size zeroM) := HR.out.to hb4
      have HB4 : Hid (Below w.heap.size w w4) := HB.out.trans (hb4.mono HB.out.size)
      clear HI HR HB hb4 H3
      have htm : (⟨(memT m).toArray⟩ : ByteArray).toList = memT m := ba_list _
      by_cases he : memT m = t
      · have e1 : ((⟨(memT m).toArray⟩ : ByteArray).toList == s.toList) = true := by rw [htm, HST.out, he]; simp
        have HE : Hid (memT m = t) := he
        clear htm he
        generalize (⟨(memT m).toArray⟩ : ByteArray) = tm at *
        go_wp2_with (first
          | refine wpList_rowLoad rfl 37 (.tmp 4) rfl _ 0 136 m.cell rfl HI4.out (by omega) (fun i _ => by rw [Nat.zero_add]) Tryz.underlying37 rfl (by kernel_rfl) ?_
          | (refine wpList_rowStore rfl 37 (.tmp 2) (.tmp 31) rfl _ 0 136 m.cell m.cell rfl rfl HR4.out (by omega) (fun i _ => cell_one m i) (fun i hi => by rw [if_pos ⟨by omega, by omega⟩, Nat.sub_zero]) (by kernel_rfl) ?_; intro w5 HZ5 hz5 hk5 hb5))
        exact bodyPost_ret (v := .tuple #[m.val, .bool true]) (resMemB Tryz.results10 rfl rfl HZ5) rfl ⟨m, true, rfl, hok, .inl ⟨rfl, htl, HE.out, HF.out⟩, hb5 _ _ HB4.out (Nat.le_refl _)⟩
      · have e1 : ((⟨(memT m).toArray⟩ : ByteArray).toList == s.toList) = false := by rw [htm, HST.out]; simpa using he
        have HE : Hid (memT m ≠ t) := he
        clear htm he
        generalize (⟨(memT m).toArray⟩ : ByteArray) = tm at *
        go_wp2_with (refine wpList_rowStore rfl 37 (.tmp 2) (.tmp 30) rfl _ 0 136 zeroM.cell zeroM.cell rfl rfl HR4.out (by omega) (fun i _ => cell_one zeroM i) (fun i hi => by rw [if_pos ⟨by omega, by omega⟩, Nat.sub_zero]) (by kernel_rfl) ?_; intro w5 HZ5 hz5 hk5 hb5)
        exact bodyPost_ret (v := .tuple #[zeroM.val, .bool false]) (resMemB Tryz.results10 rfl rfl HZ5) rfl ⟨zeroM, false, rfl, zeroM_ok, .inr ⟨rfl, rfl, .inr ⟨m, hok, HF.out, HE.out⟩⟩, hb5 _ _ HB4.out (Nat.le_refl _)⟩
  · go_wp2
    go_loopw [6] (fun d w' => ∃ (j : Nat) (m : Mm), j ≤ ws.length ∧ d = .int .i64 (j : Int) ∧ Hid (Rdg w w.heap.size (w.heap.size + 1) g ws j m w')) (fun d _ => ws.length - (intOf d).toNat)
    case atStart => exact ⟨0, zeroM, by omega, rfl, HD⟩
    case round =>
      obtain ⟨j, m, hj, rfl, HX⟩ := hrel
      rename_i wr
      by_cases hlt2 : j < ws.length
      · have hlt' : (j : Int) < (ws.length : Int) := by omega
        obtain ⟨l, hl⟩ : ∃ l, ws[j]? = some l := ⟨ws[j], List.getElem?_eq_getElem hlt2⟩
        go_upto_region 8 with fail
        refine read_region (m := m) (g := g) (bM := w.heap.size + 1) (R := fun m' => m'.Ok ∧ Res m l m') HX.out.2.2.1 (HX.out.2.2.2.2.1 j l hl) (by omega) hlt2 (by omega) (fun W => H2.out m l HX.out.1 (List.mem_of_getElem? hl) W) ?_
        intro u20 u21 u22 u23 u24 u25 m' w3 hr3 hM3 hB3 hk3
        have HX3 : Hid (Rdg w w.heap.size (w.heap.size + 1) g ws (j + 1) m' w3) := HX.out.step hl hr3 hM3 hB3 hk3 (by omega) (by omega) (by omega)
        clear HX hr3 hM3 hB3 hk3
        go_wp2
        exact ⟨⟨j + 1, m', by omega, by go_num, HX3⟩, by simp [intOf]; omega⟩
      · obtain rfl : j = ws.length := by omega
        have hok := HX.out.1
        have HI : Hid (MemAt wr (w.heap.size + 1) m) := HX.out.2.2.1
        have HR : Hid (MemAt wr w.heap.size zeroM) := HX.out.2.2.2.1
        have HB : Hid (Below w.heap.size w wr) := HX.out.2.2.2.2.2
        have HF : Hid (FoldW zeroM ws m) := by
          have h := HX.out.2.1
          rwa [List.take_length] at h
        clear HX
        go_wp2_with (refine wpList_rowLoad rfl 37 (.tmp 4) rfl _ 0 136 m.cell rfl HI.out (by omega) (fun i _ => by rw [Nat.zero_add]) Tryz.underlying37 rfl (by kernel_rfl) ?_)
        refine (H3.out m hok _).mono ?_
        rintro e w4 ⟨rfl, hb4⟩
        have HI4 : Hid (MemAt w4 (w.heap.size + 1) m) := HI.out.to hb4
        have HR4 : Hid (MemAt w4 w.heap.size zeroM) := HR.out.to hb4
        have HB4 : Hid (Below w.heap.size w w4) := HB.out.trans (hb4.mono HB.out.size)
        clear HI HR HB hb4 H3
        have htm : (⟨(memT m).toArray⟩ : ByteArray).toList = memT m := ba_list _
        by_cases he : memT m = t
        · have e1 : ((⟨(memT m).toArray⟩ : ByteArray).toList == s.toList) = true := by rw [htm, HST.out, he]; simp
          have HE : Hid (memT m = t) := he
          clear htm he
          generalize (⟨(memT m).toArray⟩ : ByteArray) = tm at *
          go_wp2_with (first
            | refine wpList_rowLoad rfl 37 (.tmp 4) rfl _ 0 136 m.cell rfl HI4.out (by omega) (fun i _ => by rw [Nat.zero_add]) Tryz.underlying37 rfl (by kernel_rfl) ?_
            | (refine wpList_rowStore rfl 37 (.tmp 2) (.tmp 31) rfl _ 0 136 m.cell m.cell rfl rfl HR4.out (by omega) (fun i _ => cell_one m i) (fun i hi => by rw [if_pos ⟨by omega, by omega⟩, Nat.sub_zero]) (by kernel_rfl) ?_; intro w5 HZ5 hz5 hk5 hb5))
          exact bodyPost_ret (v := .tuple #[m.val, .bool true]) (resMemB Tryz.results10 rfl rfl HZ5) rfl ⟨m, true, rfl, hok, .inl ⟨rfl, htl, HE.out, HF.out⟩, hb5 _ _ HB4.out (Nat.le_refl _)⟩
        · have e1 : ((⟨(memT m).toArray⟩ : ByteArray).toList == s.toList) = false := by rw [htm, HST.out]; simpa using he
          have HE : Hid (memT m ≠ t) := he
          clear htm he
          generalize (⟨(memT m).toArray⟩ : ByteArray) = tm at *
          go_wp2_with (refine wpList_rowStore rfl 37 (.tmp 2) (.tmp 30) rfl _ 0 136 zeroM.cell zeroM.cell rfl rfl HR4.out (by omega) (fun i _ => cell_one zeroM i) (fun i hi => by rw [if_pos ⟨by omega, by omega⟩, Nat.sub_zero]) (by kernel_rfl) ?_; intro w5 HZ5 hz5 hk5 hb5)
          exact bodyPost_ret (v := .tuple #[zeroM.val, .bool false]) (resMemB Tryz.results10 rfl rfl HZ5) rfl ⟨zeroM, false, rfl, zeroM_ok, .inr ⟨rfl, rfl, .inr ⟨m, hok, HF.out, HE.out⟩⟩, hb5 _ _ HB4.out (Nat.le_refl _)⟩
theorem piece_short {t l : List UInt8} (h : l ∈ cutL 32 t) : l.length ≤ t.length := by
  rw [← split_cutL 32 _ _ (Nat.le_refl _)] at h
  exact split_short t.length t 32 (Nat.le_refl _) l h
theorem smread_any (t : List UInt8) (w : World) (ht : t.length ≤ 1500000) : Calls Tryz.prog 10 #[.string ⟨t.toArray⟩] w (ReadM t (keepW (cutL 32 t)) w) := by
  have hsz := ba_size t
  by_cases hl : t.length ≤ 6000
  · have hcl := cutL_len 32 t
    have hkl := keepW_len (cutL 32 t)
    refine sread_walk _ t _ w (ba_list t) (by omega) (by omega) hl (fun W => ?_) (fun m l hm hl' W => ?_) (fun m hm W => stextM_any m hm W)
    · have h := l9words_any ⟨t.toArray⟩ W (by omega)
      simpa using h
    · have h1 := piece_short (List.mem_filter.1 hl').1
      exact (sword_any m hm l W (by omega)).mono fun _ _ ⟨m', a, b, c, d⟩ => ⟨m', a, ⟨b, c⟩, d⟩
  · exact (sread_long _ w (by omega)).mono fun _ _ ⟨a, b⟩ => ⟨zeroM, false, a, zeroM_ok, .inr ⟨rfl, rfl, .inl (by omega)⟩, b⟩
end Go.Proofs.YtjacgamgjjpllaaGreatDoor

/- The text of a device: the program's DevText. Helper text: no statement is claimed here. -/
namespace Go.Proofs.YtjacgamgjjpllaaGreatDoor
open Go.ChangeShapes Go.WideShapes Go.ChangeAt Go.RowKit

theorem letterG {W : World} {k : Int} (hT : DevTab W) (d : Nat) (os : Array Obj) :
    Calls Tryz.prog 75 #[.int .i64 k] (Sort.grow (redrawn W d) os) fun e w'' => e = .returned (.string ⟨(rL (kz k)).toArray⟩) ∧ ∃ q : Regrown, w'' = Sort.grow (redrawn W q.d) q.os :=
  Calls.regrown_of (letter_any _ _ (hT.to (below_regrown _ d os)))
theorem itoaG {W : World} {n : Int} (hP : PowTab W) (h0 : 0 ≤ n) (h1 : n < 64) (d : Nat) (os : Array Obj) :
    Calls Tryz.prog 40 #[.int .i64 n] (Sort.grow (redrawn W d) os) fun e w'' => e = .returned (.string ⟨(Lib.itoa n).toArray⟩) ∧ ∃ q : Regrown, w'' = Sort.grow (redrawn W q.d) q.os :=
  Calls.regrown_of (itoa_any _ _ (by omega) (by omega) (hP.to (below_regrown _ d os)))
theorem rL_short (i : Nat) : (rL i).length ≤ 1 := by unfold rL; split <;> simp

set_option maxHeartbeats 400000 in
theorem itext_dv (k n : Int) (w : World) (hT : DevTab w) (hP : PowTab w) (hk1 : 1 ≤ k) (hk2 : k ≤ 10) (n0 : 0 ≤ n) (n1 : n < 64) (hn : n < rN (kz k)) :
    Calls Tryz.prog 36 #[.agg #[.int .i64 k, .int .i64 n, .int .i64 0]] w fun e w' => e = .returned (.string ⟨(rL (kz k) ++ Lib.itoa n).toArray⟩) ∧ Below w.heap.size w w' := by
  have e1 : (k == 11) = false := by simp; omega
  have e2 : (k == 12) = false := by simp; omega
  have e3 : (k == 13) = false := by simp; omega
  have hl1 := rL_short (kz k)
  have hl2 := Lib.itoa_length_le n (by omega) (by omega)
  have hk : Hid (okB k n 0 = true) := by
    show okB k n 0 = true
    rw [okB_dev k n 0 (by omega) (by omega) (by omega)]
    simp
    omega
  clear hn
  go_enter Tryz.func36, Tryz.ntmps36
  go_wp2_with fail
  refine (devOk_any _ _ _ _ (hT.alloc _)).mono ?_
  rintro e w1 ⟨rfl, hb⟩
  rw [hk.out]
  have hT1 := (hT.alloc (argO k n 0)).to hb
  have hP1 := (hP.alloc (argO k n 0)).to hb
  obtain ⟨c0, c1, c2⟩ := arg_at k n 0 w
  have d0 : w1.cell? ⟨w.heap.size, 0, none⟩ = some (.int .i64 k) := by rw [hb.cell (p := ⟨w.heap.size, 0, none⟩) (by simp)]; exact c0
  have d1 : w1.cell? ⟨w.heap.size, 1, none⟩ = some (.int .i64 n) := by rw [hb.cell (p := ⟨w.heap.size, 1, none⟩) (by simp)]; exact c1
  clear c0 c1 c2
  have k0 := cell_regrown d0
  have k1 := cell_regrown d1
  go_wp2
  refine wp_region_quiet_below (by kernel_rfl) (by kernel_rfl) ?_
  repeat (first | go_big_quiet_step ((first | exact letterG hT1 _ _ | exact itoaG hP1 n0 n1 _ _)) | quiet_step ((first | exact letterG hT1 _ _ | exact itoaG hP1 n0 n1 _ _)))
  refine wpQuiet_nil ?_
  intro _ hw'
  obtain ⟨⟨dq, osq⟩, hw''⟩ := hw'
  subst hw''
  go_wp2
  go_ret
  exact ⟨ret_str (cat _ _), of_two hb (below_regrown _ dq osq)⟩
end Go.Proofs.YtjacgamgjjpllaaGreatDoor

/- The program's words of a memory: marks, timers, counters, bits. Helper text: no statement is claimed here. -/
namespace Go.Proofs.YtjacgamgjjpllaaGreatDoor
open Go.ChangeShapes Go.WideShapes Go.ChangeAt Go.RowKit Fl

theorem imark_any (b : Bool) (l : List UInt8) (w : World) :
    Calls Tryz.prog 76 #[.string ⟨l.toArray⟩, .bool b] w fun e w' => e = .returned (.string ⟨(mkT b l).toArray⟩) ∧ w' = w := by
  cases b
  all_goals
    go_enter Tryz.func76, Tryz.ntmps76
    go_wp2
    go_ret
    exact ⟨rfl, rfl⟩
theorem imarkG {W : World} {b : Bool} {l : List UInt8} (d : Nat) (os : Array Obj) :
    Calls Tryz.prog 76 #[.string ⟨l.toArray⟩, .bool b] (Sort.grow (redrawn W d) os) fun e w'' => e = .returned (.string ⟨(mkT b l).toArray⟩) ∧ ∃ q : Regrown, w'' = Sort.grow (redrawn W q.d) q.os :=
  (imark_any b l _).mono fun _ _ ⟨he, hw⟩ => ⟨he, ⟨d, os⟩, hw⟩
theorem itoaW {W : World} {n : Int} (hP : PowTab W) (h0 : -9223372036854775808 ≤ n) (h1 : n ≤ 9223372036854775807) (d : Nat) (os : Array Obj) :
    Calls Tryz.prog 40 #[.int .i64 n] (Sort.grow (redrawn W d) os) fun e w'' => e = .returned (.string ⟨(Lib.itoa n).toArray⟩) ∧ ∃ q : Regrown, w'' = Sort.grow (redrawn W q.d) q.os :=
  Calls.regrown_of (itoa_any _ _ h0 h1 (hP.to (below_regrown _ d os)))

set_option maxHeartbeats 400000 in
theorem timerText_any (td : Bool) (tc : Nat) (w : World) (htc : tc < 65536) (hP : PowTab w) :
    Calls Tryz.prog 38 #[.agg #[.bool td, .int .u16 (tc : Int)]] w fun e w' => e = .returned (.string ⟨(Lib.itoa (tc : Int) ++ mkT td [33]).toArray⟩) ∧ Below w.heap.size w w' := by
  have hli := itoa_len (tc : Int) (by omega) (by omega)
  have hlk := mkT_len td 33
  go_enter Tryz.func38, Tryz.ntmps38
  go_upto_region 1 with fail
  have HB : Hid (Below w.heap.size w (w.alloc (.cells #[.bool td, .int .u16 (tc : Int)] 27))) := (Below.refl _ _).alloc (Nat.le_refl _) _
  have d0 : (w.alloc (.cells #[.bool td, .int .u16 (tc : Int)] 27)).cell? ⟨w.heap.size, 0, none⟩ = some (.bool td) := by simp [go_sem]
  have d1 : (w.alloc (.cells #[.bool td, .int .u16 (tc : Int)] 27)).cell? ⟨w.heap.size, 1, none⟩ = some (.int .u16 (tc : Int)) := by simp [go_sem]
  have hP1 := hP.alloc (.cells #[.bool td, .int .u16 (tc : Int)] 27)
  clear hP
  generalize w.alloc (.cells #[.bool td, .int .u16 (tc : Int)] 27) = V at *
  have k0 := cell_regrown d0
  have k1 := cell_regrown d1
  refine wp_region_quiet_below (by kernel_rfl) (by kernel_rfl) ?_
  repeat (first | go_big_quiet_step ((first | exact imarkG _ _ | exact itoaW hP1 (by omega) (by omega) _ _)) | quiet_step ((first | exact imarkG _ _ | exact itoaW hP1 (by omega) (by omega) _ _)))
  refine wpQuiet_nil ?_
  intro _ hw'
  obtain ⟨⟨dq, osq⟩, hw''⟩ := hw'
  subst hw''
  go_wp2
  go_ret
  exact ⟨ret_str (cat _ _), HB.out.trans ((below_regrown _ dq osq).mono HB.out.size)⟩

set_option maxHeartbeats 400000 in
theorem counterText_any (cd cl : Bool) (cc : Nat) (w : World) (htc : cc < 65536) (hP : PowTab w) :
    Calls Tryz.prog 39 #[.agg #[.bool cd, .bool cl, .int .u16 (cc : Int)]] w fun e w' => e = .returned (.string ⟨(Lib.itoa (cc : Int) ++ mkT cd [33] ++ mkT cl [43]).toArray⟩) ∧ Below w.heap.size w w' := by
  have hli := itoa_len (cc : Int) (by omega) (by omega)
  have hlk := mkT_len cd 33
  have hll := mkT_len cl 43
  go_enter Tryz.func39, Tryz.ntmps39
  go_upto_region 1 with fail
  have HB : Hid (Below w.heap.size w (w.alloc (.cells #[.bool cd, .bool cl, .int .u16 (cc : Int)] 30))) := (Below.refl _ _).alloc (Nat.le_refl _) _
  have d0 : (w.alloc (.cells #[.bool cd, .bool cl, .int .u16 (cc : Int)] 30)).cell? ⟨w.heap.size, 0, none⟩ = some (.bool cd) := by simp [go_sem]
  have d1 : (w.alloc (.cells #[.bool cd, .bool cl, .int .u16 (cc : Int)] 30)).cell? ⟨w.heap.size, 1, none⟩ = some (.bool cl) := by simp [go_sem]
  have d2 : (w.alloc (.cells #[.bool cd, .bool cl, .int .u16 (cc : Int)] 30)).cell? ⟨w.heap.size, 2, none⟩ = some (.int .u16 (cc : Int)) := by simp [go_sem]
  have hP1 := hP.alloc (.cells #[.bool cd, .bool cl, .int .u16 (cc : Int)] 30)
  clear hP
  generalize w.alloc (.cells #[.bool cd, .bool cl, .int .u16 (cc : Int)] 30) = V at *
  have k0 := cell_regrown d0
  have k1 := cell_regrown d1
  have k2 := cell_regrown d2
  refine wp_region_quiet_below (by kernel_rfl) (by kernel_rfl) ?_
  repeat (first | go_big_quiet_step ((first | exact imarkG _ _ | exact itoaW hP1 (by omega) (by omega) _ _)) | quiet_step ((first | exact imarkG _ _ | exact itoaW hP1 (by omega) (by omega) _ _)))
  refine wpQuiet_nil ?_
  intro _ hw'
  obtain ⟨⟨dq, osq⟩, hw''⟩ := hw'
  subst hw''
  go_wp2
  go_ret
  exact ⟨ret_str (by rw [cat, cat]), HB.out.trans ((below_regrown _ dq osq).mono HB.out.size)⟩

theorem cat_w (a b : List UInt8) : (⟨a.toArray⟩ : ByteArray) ++ ⟨#[61]⟩ ++ ⟨b.toArray⟩ = ⟨(a ++ ([61] ++ b)).toArray⟩ := by
  have h := cat a [61]
  rw [← List.append_assoc, ← cat, ← h]
set_option maxHeartbeats 400000 in
theorem numberWord_any (k : Int) (i : Nat) (t : List UInt8) (w : World) (hT : DevTab w) (hP : PowTab w) (hk1 : 1 ≤ k) (hk2 : k ≤ 10) (hi : (i : Int) < 64) (hn : (i : Int) < rN (kz k)) (ht : t.length ≤ 100) :
    Calls Tryz.prog 37 #[.int .i64 k, .int .i64 (i : Int), .string ⟨t.toArray⟩] w fun e w' => e = .returned (.string ⟨(dvT k i ++ ([61] ++ t)).toArray⟩) ∧ Below w.heap.size w w' := by
  have hl := dvT_len k (i := i) (by omega)
  have HC : Hid (∀ W, DevTab W → PowTab W → Calls Tryz.prog 36 #[.agg #[.int .i64 k, .int .i64 (i : Int), .int .i64 0]] W fun e w' => e = .returned (.string ⟨(dvT k i).toArray⟩) ∧ Below W.heap.size W w') := fun W h1 h2 => itext_dv k i W h1 h2 hk1 hk2 (by omega) hi hn
  generalize dvT k i = dt at *
  clear hk1 hk2 hn
  go_enter Tryz.func37, Tryz.ntmps37
  go_wp2_with fail
  refine (HC.out _ hT hP).mono ?_
  rintro e w1 ⟨rfl, hb⟩
  go_wp2
  go_ret
  exact ⟨ret_str (cat_w _ _), hb⟩
end Go.Proofs.YtjacgamgjjpllaaGreatDoor

/- The program's words of bits: memBitWords. Helper text: no statement is claimed here. -/
namespace Go.Proofs.YtjacgamgjjpllaaGreatDoor
open Go.ChangeShapes Go.WideShapes Go.ChangeAt Go.RowKit Fl

/-- The words of bits as far as place i of kind j. -/
def wI (m : Mm) (j i : Nat) : List (List UInt8) := upto (kindW m) j ++ upto (bitW m ((j : Int) + 1)) i
theorem wI_0 (m : Mm) (j : Nat) : wI m j 0 = upto (kindW m) j := by simp [wI, upto_zero]
theorem wI_end (m : Mm) (j : Nat) : wI m j (bits5 j) = upto (kindW m) (j + 1) := by rw [upto_succ]; rfl
theorem wI_no {m : Mm} {j i : Nat} (h : m.bit ((j : Int) + 1) (i : Int) = false) : wI m j (i + 1) = wI m j i := by
  unfold wI; rw [upto_succ]; simp [bitW, h]
theorem wI_yes {m : Mm} {j i : Nat} (h : m.bit ((j : Int) + 1) (i : Int) = true) : wI m j (i + 1) = wI m j i ++ [dvT ((j : Int) + 1) i] := by
  unfold wI; rw [upto_succ]; simp [bitW, h]
theorem wI_len (m : Mm) {j i : Nat} (hj : j < 5) (hi : i ≤ bits5 j) : (wI m j i).length ≤ 400 := by
  have h1 := (fits_kind m (j := j)).1
  have h2 := bits5_le j
  have h3 := (fits_bit m ((j : Int) + 1) (j := i) (by omega)).1
  unfold wI
  rw [List.length_append]
  omega

theorem keepC {V w1 : World} (hb : Below V.heap.size V w1) {b i : Nat} {v : Value} (h : V.cell? ⟨b, i, none⟩ = some v) : w1.cell? ⟨b, i, none⟩ = some v := (hb.cell (p := ⟨b, i, none⟩) (World.block_lt_of_cell? V ⟨b, i, none⟩ h)).trans h

set_option maxHeartbeats 1000000 in
set_option maxRecDepth 10000 in
theorem bitWords_any (m : Mm) (hok : m.Ok) (w : World) (hT : DevTab w) (hP : PowTab w) :
    Calls Tryz.prog 14 #[m.val] w fun e w' => ∃ v, e = .returned v ∧ Hid (SRow w' w.heap.size v (bitsW m)) ∧ Below w.heap.size w w' := by
  have HBit : Hid (∀ (k n : Int) W, DevTab W → Calls Tryz.prog 35 #[m.val, .agg #[.int .i64 k, .int .i64 n, .int .i64 0]] W fun e w' => e = .returned (.bool (m.bit k n)) ∧ Below W.heap.size W w') := fun k n W h => ibit_any m hok k n 0 W h
  clear hok
  have HT : Hid (DevTab w) := hT
  have HP : Hid (PowTab w) := hP
  clear hT hP
  unfold Mm.val
  go_enter Tryz.func14, Tryz.ntmps14
  go_wp2
  have HB0 : Hid (Below w.heap.size w (w.alloc (.cells m.cells 37))) := (Below.refl _ _).alloc (Nat.le_refl _) _
  have HM0 : Hid (MemAt (w.alloc (.cells m.cells 37)) w.heap.size m) := RowAt.new w _ 136 m.cell
  generalize (w.alloc (.cells m.cells 37)) = V at *
  have HT0 : Hid (DevTab V) := HT.out.to HB0.out
  have HP0 : Hid (PowTab V) := HP.out.to HB0.out
  clear HT HP
  go_loopw [4, 3] (fun c o w' => ∃ j : Nat, j ≤ 5 ∧ c = .int .i64 ((j : Int) + 1) ∧ Hid (SRow w' V.heap.size o (upto (kindW m) j)) ∧ Hid (Below V.heap.size V w')) (fun c _ _ => 6 - (intOf c).toNat)
  case atStart => exact ⟨0, by omega, rfl, SRow.nil _ _, Below.refl _ _⟩
  case round =>
    obtain ⟨j, hj, rfl, HR, HB⟩ := hrel
    rename_i wr
    by_cases hlt : j < 5
    · have hlt' : (j : Int) + 1 ≤ 5 := by omega
      have HS : Hid (∀ W, DevTab W → Calls Tryz.prog 34 #[.int .i64 ((j : Int) + 1)] W fun e w' => e = .returned (.int .i64 (bits5 j : Int)) ∧ Below W.heap.size W w') := fun W h => by
        have h1 := size_any ((j : Int) + 1) W h
        have h0 := (rN_bd (kz ((j : Int) + 1))).1
        rwa [show ((bits5 j : Nat) : Int) = rN (kz ((j : Int) + 1)) by unfold bits5; omega]
      go_wp2_with fail
      refine (HS.out _ (HT0.out.to HB.out)).mono ?_
      rintro e w1 ⟨rfl, hb1⟩
      have HB1 : Hid (Below V.heap.size V w1) := HB.out.trans (hb1.mono HB.out.size)
      have HR1 : Hid (SRow w1 V.heap.size u3 (wI m j 0)) := by
        show SRow w1 V.heap.size u3 (wI m j 0)
        rw [wI_0]
        exact HR.out.to hb1
      clear hb1 HS HR HB
      have hN := bits5_le j
      go_wp2
      go_loopw [13, 3] (fun c o w' => ∃ (i : Nat) (W : World), W = w' ∧ i ≤ bits5 j ∧ c = .int .i64 (i : Int) ∧ Hid (SRow W V.heap.size o (wI m j i)) ∧ Hid (Below V.heap.size V W)) (fun c _ _ => bits5 j - (intOf c).toNat)
      case atStart => exact ⟨0, _, rfl, by omega, rfl, HR1, HB1⟩
      case round =>
        clear HR1 HB1
        obtain ⟨i, ws, rfl, hi, rfl, HR, HB⟩ := hrel
        by_cases hil : i < bits5 j
        · have hil' : (i : Int) < (bits5 j : Int) := by omega
          have HD : Hid (∀ W, DevTab W → PowTab W → Calls Tryz.prog 36 #[.agg #[.int .i64 ((j : Int) + 1), .int .i64 (i : Int), .int .i64 0]] W fun e w' => e = .returned (.string ⟨(dvT ((j : Int) + 1) i).toArray⟩) ∧ Below W.heap.size W w') := fun W h1 h2 =>
            itext_dv ((j : Int) + 1) i W h1 h2 (by omega) (by omega) (by omega) (by omega) (by unfold bits5 at hil; omega)
          go_upto_region 9 with fail
          have HB2 : Hid (Below V.heap.size V (ws.alloc (.cells #[.int .i64 ((j : Int) + 1), .int .i64 (i : Int), .int .i64 0] 71))) := HB.out.alloc HB.out.size _
          have HR2 : Hid (SRow (ws.alloc (.cells #[.int .i64 ((j : Int) + 1), .int .i64 (i : Int), .int .i64 0] 71)) V.heap.size u3 (wI m j i)) := HR.out.to ((Below.refl _ _).alloc (Nat.le_refl _) _)
          have HM2 : Hid (MemAt (ws.alloc (.cells #[.int .i64 ((j : Int) + 1), .int .i64 (i : Int), .int .i64 0] 71)) w.heap.size m) := HM0.out.to HB2.out
          obtain ⟨c0, c1, c2⟩ := arg_at ((j : Int) + 1) (i : Int) 0 ws
          clear HR HB
          generalize (ws.alloc (.cells #[.int .i64 ((j : Int) + 1), .int .i64 (i : Int), .int .i64 0] 71)) = W at *
          generalize ws.heap.size = B at *
          go_wp2_with (first | (refine wpList_rowLoad rfl 37 (.tmp 1) rfl _ 0 136 m.cell rfl HM2.out (by omega) (fun i _ => by rw [Nat.zero_add]) Tryz.underlying37 rfl (by kernel_rfl) ?_) | fail)
          refine (HBit.out _ _ _ (HT0.out.to HB2.out)).mono ?_
          rintro e w3 ⟨rfl, hb3⟩
          have HB3 : Hid (Below V.heap.size V w3) := HB2.out.trans (hb3.mono HB2.out.size)
          have HR3 : Hid (SRow w3 V.heap.size u3 (wI m j i)) := HR2.out.to hb3
          have d0 := keepC hb3 c0
          have d1 := keepC hb3 c1
          have d2 := keepC hb3 c2
          clear hb3 HB2 HR2 c0 c1 c2 HM2
          have HW0 : Hid (m.bit ((j : Int) + 1) (i : Int) = false → wI m j (i + 1) = wI m j i) := wI_no
          have HW1 : Hid (m.bit ((j : Int) + 1) (i : Int) = true → wI m j (i + 1) = wI m j i ++ [dvT ((j : Int) + 1) i]) := wI_yes
          have hwl := wI_len m hlt hi
          generalize m.bit ((j : Int) + 1) (i : Int) = bb at *
          cases bb
          · have HW : Hid (SRow w3 V.heap.size u3 (wI m j (i + 1))) := by
              show SRow w3 V.heap.size u3 (wI m j (i + 1))
              rw [HW0.out rfl]
              exact HR3.out
            clear HW0 HW1 HR3
            go_wp2
            exact ⟨⟨i + 1, _, rfl, by omega, by go_num, HW, HB3⟩, by simp [intOf]; omega⟩
          · have HW : Hid (wI m j (i + 1) = wI m j i ++ [dvT ((j : Int) + 1) i]) := HW1.out rfl
            clear HW0 HW1
            generalize wI m j i = wi0 at *
            go_wp2_with fail
            refine (HD.out _ (HT0.out.to HB3.out) (HP0.out.to HB3.out)).mono ?_
            rintro e w4 ⟨rfl, hb4⟩
            have HB4 : Hid (Below V.heap.size V w4) := HB3.out.trans (hb4.mono HB3.out.size)
            have HR4 : Hid (SRow w4 V.heap.size u3 wi0) := HR3.out.to hb4
            clear hb4 HB3 HR3 d0 d1 d2 HD
            generalize dvT ((j : Int) + 1) i = dt at *
            have hbs : V.heap.size ≤ w4.heap.size := HB4.out.size
            have HC := sone_cell w4 dt
            go_wp2_with (refine wpList_sapp _ rfl _ _ rfl V.heap.size _ wi0 [dt] rfl (HR4.out.to ((Below.refl _ _).alloc (Nat.le_refl _) _)) w4.heap.size 1 rfl HC (by simp; omega) (by simp; omega) ?_)
            intro v5 w5 HR5 hb5
            have HB5 : Hid (Below V.heap.size V w5) := (HB4.out.alloc HB4.out.size _).trans hb5.out
            have HW5 : Hid (SRow w5 V.heap.size v5 (wI m j (i + 1))) := by
              show SRow w5 V.heap.size v5 (wI m j (i + 1))
              rw [HW.out]
              exact HR5.out
            clear HR5 hb5 HB4 HR4 HC hbs HW
            go_wp2
            exact ⟨⟨i + 1, _, rfl, by omega, by go_num, HW5, HB5⟩, by simp [intOf]; omega⟩
        · have hil' : ¬ (i : Int) < (bits5 j : Int) := by omega
          obtain rfl : i = bits5 j := by omega
          have HW : Hid (SRow ws V.heap.size u3 (upto (kindW m) (j + 1))) := by
            show SRow ws V.heap.size u3 (upto (kindW m) (j + 1))
            rw [← wI_end]
            exact HR.out
          clear HR
          go_wp2
          exact ⟨⟨j + 1, by omega, by go_num, HW, HB⟩, by simp [intOf]; omega⟩
    · have hlt' : ¬ (j : Int) + 1 ≤ 5 := by omega
      obtain rfl : j = 5 := by omega
      go_wp2
      go_ret
      exact ⟨_, rfl, HR.out.low HB0.out.size, HB0.out.trans (HB.out.mono HB0.out.size)⟩
end Go.Proofs.YtjacgamgjjpllaaGreatDoor

/- A float operation that has an answer, as the walk meets it. Helper text: no statement is claimed here. -/
namespace Go.Proofs.YtjacgamgjjpllaaGreatDoor
open Go.ChangeShapes Go.WideShapes Go.ChangeAt Go.RowKit Fl
theorem run_some {op : BinOp} {x y r : Nat} (h : floatBits op .f64 x y = some r) (t : TypeId) (w : World) : (binOp op t (.float .f64 x) (.float .f64 y)).run Tryz.prog w = .ok (.float .f64 r) w := run_float_arith w op t .f64 x y r h
end Go.Proofs.YtjacgamgjjpllaaGreatDoor

/- A real number is the same as itself: memSameReal. Helper text: no statement is claimed here. -/
namespace Go.Proofs.YtjacgamgjjpllaaGreatDoor
open Go.ChangeShapes Go.WideShapes Go.ChangeAt Go.RowKit Fl

theorem one_wd : 4607182418800017408 = wd false 4503599627370496 1022 := by decide
theorem one_sc : Sc 4503599627370496 1022 := ⟨by decide, .inr (by decide)⟩
theorem one_by_inf (s : Bool) : Go.floatBits .quo .f64 4607182418800017408 (wi s) = some (wd s 0 0) := by cases s <;> decide +kernel
theorem one_by {x : Nat} (hx : x < 2 ^ 64) (hn : ¬ nan x) : ∃ r, Go.floatBits .quo .f64 4607182418800017408 x = some r ∧ r < 2 ^ 64 ∧ ¬ nan r := by
  rcases cases_wd hx with ⟨s, m, k, hs, hk, rfl⟩ | ⟨s, rfl⟩ | h
  · by_cases h0 : m = 0
    · have e : wd s m k = wd s 0 0 := by
        subst h0
        rcases hs.hk with rfl | h
        · rfl
        · omega
      rw [e]
      exact ⟨_, one_by_zero s, wi_lt s, not_nan_wi s⟩
    · have := quo_some one_sc (by omega) hs hk false s (by omega)
      rwa [← one_wd] at this
  · exact ⟨_, one_by_inf s, wd_lt sc00 (by omega) s, not_nan_wd sc00 (by omega) s⟩
  · exact absurd h hn
theorem eq_selfI {x : Nat} (h : x < 2 ^ 64) (hn : ¬ nan x) : (ord x x == some .eq) = true := by
  simp only [ord, Go.FloatKind.format, order_self h hn]; rfl
theorem neq_selfI {x : Nat} (h : x < 2 ^ 64) (hn : ¬ nan x) : (ord x x != some .eq) = false := by
  simp only [ord, Go.FloatKind.format, order_self h hn]; rfl
set_option maxHeartbeats 400000 in
theorem sameReal_self (x : Nat) (w : World) (hx : x < 2 ^ 64) :
    Calls Tryz.prog 41 #[.float .f64 x, .float .f64 x] w fun e w' => e = .returned (.bool true) ∧ w' = w := by
  by_cases hn : nan x
  · have h1 := (asks_nan hn).n
    clear hn
    go_enter Tryz.func41, Tryz.ntmps41
    go_wp2
    go_ret
    exact ⟨rfl, rfl⟩
  · obtain ⟨r, hr, hl, hrn⟩ := one_by hx hn
    have h1 := neq_selfI hx hn
    have h2 := eq_selfI hx hn
    have h3 := run_some hr
    have h4 := eq_selfI hl hrn
    clear hn hr hl hrn hx
    go_enter Tryz.func41, Tryz.ntmps41
    go_wp2
    go_ret
    exact ⟨rfl, rfl⟩
theorem grownSame {x : Nat} {w : World} (hx : x < 2 ^ 64) (n : Nat) (os : Array Obj) :
    Calls Tryz.prog 41 #[.float .f64 x, .float .f64 x] (Sort.grow (redrawn w n) os) fun e w'' => e = .returned (.bool true) ∧ ∃ p' : Regrown, w'' = Sort.grow (redrawn w p'.d) p'.os :=
  Calls.regrown_of ((sameReal_self x _ hx).mono fun _ _ ⟨a, b⟩ => ⟨a, b ▸ Below.refl _ _⟩)
end Go.Proofs.YtjacgamgjjpllaaGreatDoor

/- Two real numbers that are one, by both sides. Helper text: no statement is claimed here. -/
namespace Go.Proofs.YtjacgamgjjpllaaGreatDoor
open Go.ChangeShapes Go.WideShapes Go.ChangeAt Go.RowKit Fl

set_option maxHeartbeats 400000 in
theorem l4Same_any (x y : Nat) (w : World) (hx : x < 2 ^ 64) (hy : y < 2 ^ 64) :
    Calls Tryz.prog 20 #[.float .f64 x, .float .f64 y] w fun e w' => e = .returned (.bool (sv x y)) ∧ Below w.heap.size w w' := by
  have H1 : Hid (∀ W, Calls Tryz.prog 52 #[.float .f64 x] W (Texted x W)) := fun W => st_any x W hx
  have H2 : Hid (∀ W, Calls Tryz.prog 52 #[.float .f64 y] W (Texted y W)) := fun W => st_any y W hy
  clear hx hy
  go_enter Tryz.func20, Tryz.ntmps20
  go_wp2_with fail
  refine (H1.out w).mono ?_
  rintro e w1 ⟨s, rfl, hs, hb1⟩
  have HB1 : Hid (Below w.heap.size w w1) := hb1
  clear hb1 H1
  go_wp2_with fail
  refine (H2.out w1).mono ?_
  rintro e w2 ⟨t, rfl, ht, hb2⟩
  have HB2 : Hid (Below w.heap.size w w2) := HB1.out.trans (hb2.mono HB1.out.size)
  clear hb2 H2 HB1
  have hv : (s == t) = sv x y := by
    by_cases h : s = t
    · rw [sv_yes ((text_iff hs ht).1 h)]; simpa using h
    · rw [sv_no (fun h' => h ((text_iff hs ht).2 h'))]; simpa using h
  clear hs ht
  go_wp2
  go_ret
  exact ⟨rfl, HB2.out⟩

theorem ord_nanR {x y : Nat} (h : nan y) : (ord x y == some .eq) = false := by
  simp only [ord, Go.FloatKind.format, order_nan_right h]; rfl
set_option maxHeartbeats 400000 in
theorem sameReal_any (x y : Nat) (w : World) (hx : x < 2 ^ 64) (hy : y < 2 ^ 64) :
    Calls Tryz.prog 41 #[.float .f64 x, .float .f64 y] w fun e w' => e = .returned (.bool (sv x y)) ∧ w' = w := by
  by_cases nx : nan x
  · have h1 := (asks_nan nx).n
    have h2 : (ord y y != some .eq) = sv x y := by
      by_cases ny : nan y
      · rw [sv_yes (.inr ⟨nx, ny⟩)]; exact (asks_nan ny).n
      · rw [sv_no (by rintro (rfl | h); exact ny nx; exact ny h.2)]; exact neq_selfI hy ny
    clear nx
    generalize sv x y = b at *
    go_enter Tryz.func41, Tryz.ntmps41
    go_wp2
    go_ret
    exact ⟨by rw [← h2]; rfl, rfl⟩
  have h1 := neq_selfI hx nx
  by_cases he : (ord x y == some .eq) = true
  · have ny : ¬ nan y := fun h => by rw [ord_nanR h] at he; cases he
    obtain ⟨r, hr, hl, hrn⟩ := one_by hx nx
    obtain ⟨q, hq, hql, hqn⟩ := one_by hy ny
    have h3 := run_some hr
    have h4 := run_some hq
    have h5 : (ord r q == some .eq) = sv x y := by
      rcases not_both hx hy nx ny he with rfl | ⟨s, t, rfl, rfl⟩
      · obtain rfl : r = q := Option.some.inj (hr.symm.trans hq)
        rw [sv_yes (.inl rfl)]
        exact eq_selfI hl hrn
      · obtain rfl : r = wi s := Option.some.inj (hr.symm.trans (one_by_zero s))
        obtain rfl : q = wi t := Option.some.inj (hq.symm.trans (one_by_zero t))
        cases s <;> cases t
        · rw [sv_yes (.inl rfl)]; decide +kernel
        · rw [sv_no (by rintro (h | h); exact absurd h (by decide +kernel); exact nx h.1)]; decide +kernel
        · rw [sv_no (by rintro (h | h); exact absurd h (by decide +kernel); exact nx h.1)]; decide +kernel
        · rw [sv_yes (.inl rfl)]; decide +kernel
    clear nx ny hr hq hl hrn hql hqn hx hy
    generalize sv x y = b at *
    go_enter Tryz.func41, Tryz.ntmps41
    go_wp2
    go_ret
    exact ⟨by rw [← h5]; rfl, rfl⟩
  · have h2 : (ord x y == some .eq) = false := by simpa using he
    have h3 : sv x y = false := sv_no (by
      rintro (rfl | h)
      · exact he (eq_selfI hx nx)
      · exact nx h.1)
    rw [h3]
    clear nx he h3 hx hy
    go_enter Tryz.func41, Tryz.ntmps41
    go_wp2
    go_ret
    exact ⟨rfl, rfl⟩
theorem grownSame2 {x y : Nat} {w : World} (hx : x < 2 ^ 64) (hy : y < 2 ^ 64) {b : Bool} (hb : sv x y = b) (n : Nat) (os : Array Obj) :
    Calls Tryz.prog 41 #[.float .f64 x, .float .f64 y] (Sort.grow (redrawn w n) os) fun e w'' => e = .returned (.bool b) ∧ ∃ p' : Regrown, w'' = Sort.grow (redrawn w p'.d) p'.os :=
  Calls.regrown_of ((sameReal_any x y _ hx hy).mono fun _ _ ⟨a, b⟩ => ⟨by rw [a, hb], b ▸ Below.refl _ _⟩)
end Go.Proofs.YtjacgamgjjpllaaGreatDoor

/- Places of a memory's arrays, by value. Helper text: no statement is claimed here. -/
namespace Go.Proofs.YtjacgamgjjpllaaGreatDoor
open Go.ChangeShapes Go.WideShapes Go.ChangeAt Go.RowKit

theorem ext_two {n : Nat} (f : Nat → Value) {a : Nat} (h : a + 2 ≤ n) : (cellsOf n f).extract a (a + 2) = #[f a, f (a + 1)] := by
  apply Array.ext
  · simp [cellsOf_size]; omega
  · intro i h1 h2
    have : i = 0 ∨ i = 1 := by simp at h2; omega
    rcases this with rfl | rfl <;> simp [cellsOf]
theorem ext_three {n : Nat} (f : Nat → Value) {a : Nat} (h : a + 3 ≤ n) : (cellsOf n f).extract a (a + 3) = #[f a, f (a + 1), f (a + 2)] := by
  apply Array.ext
  · simp [cellsOf_size]; omega
  · intro i h1 h2
    have : i = 0 ∨ i = 1 ∨ i = 2 := by simp at h2; omega
    rcases this with rfl | rfl | rfl <;> simp [cellsOf]
theorem idxT (m : Mm) {j : Nat} (hj : j < 16) (w : World) : (Instr.index 28 (.agg (cellsOf 32 m.tcell)) (.int .i64 (j : Int))).run Tryz.prog w = .ok (.agg #[.bool (m.td j), .int .u16 (m.tc j : Int)]) w := by
  simp [Instr.index, run_underlying Tryz.underlying28, asIntOf, go_sem]
  rw [if_pos hj, ext_two _ (by omega), m.tcell_d, m.tcell_c]
theorem idxC (m : Mm) {j : Nat} (hj : j < 16) (w : World) : (Instr.index 31 (.agg (cellsOf 48 m.ccell)) (.int .i64 (j : Int))).run Tryz.prog w = .ok (.agg #[.bool (m.cd j), .bool (m.cl j), .int .u16 (m.cc j : Int)]) w := by
  simp [Instr.index, run_underlying Tryz.underlying31, asIntOf, go_sem]
  rw [if_pos hj, ext_three _ (by omega), m.ccell_d, m.ccell_l, m.ccell_c]
theorem idxD (m : Mm) {j : Nat} (hj : j < 32) (w : World) : (Instr.index 33 (.agg (cellsOf 32 m.dcell)) (.int .i64 (j : Int))).run Tryz.prog w = .ok (.int .i16 (m.d j)) w := by
  have h := cellsOf_at m.dcell hj
  simp [Instr.index, run_underlying Tryz.underlying33, asIntOf, h, go_sem]
  rw [if_pos hj]
  rfl
theorem idxR (m : Mm) {j : Nat} (hj : j < 16) (w : World) : (Instr.index 35 (.agg (cellsOf 16 m.rcell)) (.int .i64 (j : Int))).run Tryz.prog w = .ok (.float .f64 (m.r j)) w := by
  have h := cellsOf_at m.rcell hj
  simp [Instr.index, run_underlying Tryz.underlying35, asIntOf, h, go_sem]
  rw [if_pos hj]
  rfl
end Go.Proofs.YtjacgamgjjpllaaGreatDoor
