/- The document's l4Value. Helper text: no statement is claimed here. -/
import Derived.Test.YtjacgamgjjpllaaGreatDoorP13
import Derived.Test.YtjacgamgjjpllaaGreatDoorP14
import Derived.Test.YtjacgamgjjpllaaGreatDoorP04
namespace Go.Proofs.YtjacgamgjjpllaaGreatDoor
open Go.ChangeShapes Go.WideShapes Go.ChangeAt Go.RowKit Fl

attribute [local go_sem] store_float2
theorem tmC_cells (d : Bool) (c : Int) : cellsOf 2 (tmC d c) = #[.bool d, .int .u16 c] := rfl
theorem cnC_cells (d l : Bool) (c : Int) : cellsOf 3 (cnC d l c) = #[.bool d, .bool l, .int .u16 c] := rfl
theorem tmC_one (d : Bool) (c : Int) (i : Nat) : (tmC d c i).oneCell' = true := by unfold tmC; split <;> rfl
theorem cnC_one (d l : Bool) (c : Int) (i : Nat) : (cnC d l c i).oneCell' = true := by unfold cnC; split <;> (try split) <;> rfl
theorem numR_ex (l : List UInt8) : ∃ v b, NumR l v b := by
  by_cases h : ∃ z : Int, z.natAbs < 10 ^ 17 ∧ l = Lib.itoa z
  · obtain ⟨z, hz, e⟩ := h
    exact ⟨z, true, .inl ⟨rfl, e, hz⟩⟩
  · exact ⟨0, false, .inr ⟨rfl, rfl, fun z hz e => h ⟨z, hz, e⟩⟩⟩
theorem NumR.one {l : List UInt8} {v v' : Int} {b b' : Bool} (h : NumR l v b) (h' : NumR l v' b') : v = v' ∧ b = b' := by
  rcases h with ⟨rfl, e, hz⟩ | ⟨rfl, rfl, hn⟩ <;> rcases h' with ⟨rfl, e', hz'⟩ | ⟨rfl, rfl, hn'⟩
  · exact ⟨itoa_inj (e.symm.trans e'), rfl⟩
  · exact absurd e (hn' v hz)
  · exact absurd e' (hn v' hz')
  · exact ⟨rfl, rfl⟩
set_option maxHeartbeats 1000000 in
set_option maxRecDepth 10000 in
theorem sval_real (m : Mm) (hm : m.Ok) (q : Nat) (hq : q < 16) (p : Int) (t : List UInt8) (w : World) (ht : t.length ≤ 6000) :
    Calls Tryz.prog 61 #[m.val, .agg #[.int .i64 10, .int .i64 (q : Int), .int .i64 p], .string ⟨t.toArray⟩] w fun e w' => ∃ m' : Mm, e = .returned m'.val ∧ m'.Ok ∧ VRes m 10 q t m' ∧ Below w.heap.size w w' := by
  have hz : ∀ w, (zeroValue 37).run Tryz.prog w = .ok (.agg zeroM.cells) w := fun _ => by kernel_rfl
  have HRd : Hid (∀ W, Calls Tryz.prog 103 #[.string ⟨t.toArray⟩] W (ReadR t W)) := fun W => srl_any t W (by omega)
  have HP : Hid (∀ (x : Nat) W, Calls Tryz.prog 104 #[.agg m.cells, .agg #[.int .i64 10, .int .i64 (q : Int), .int .i64 p], .float .f64 x] W fun e w' => e = .returned (.agg (m.setR q x).cells) ∧ Below W.heap.size W w') := fun x W => by
    have h := sPutR_any m 10 (q : Int) p x W
    rw [putR_set m hq] at h
    exact h
  unfold Mm.val
  generalize (⟨t.toArray⟩ : ByteArray) = s at *
  go_enter Tryz.func61, Tryz.ntmps61
  go_upto_region 1 with fail
  have HB : Hid (Below w.heap.size w (((w.alloc (.cells m.cells 37)).alloc (.cells #[.int .i64 10, .int .i64 (q : Int), .int .i64 p] 71)).alloc (.cells zeroM.cells 37))) := (((Below.refl _ _).alloc (Nat.le_refl _) _).alloc (by simp) _).alloc (by simp; omega) _
  have HI : Hid (MemAt (((w.alloc (.cells m.cells 37)).alloc (.cells #[.int .i64 10, .int .i64 (q : Int), .int .i64 p] 71)).alloc (.cells zeroM.cells 37)) w.heap.size m) := ((RowAt.new w 37 136 m.cell).alloc _).alloc _
  have HR : Hid (MemAt (((w.alloc (.cells m.cells 37)).alloc (.cells #[.int .i64 10, .int .i64 (q : Int), .int .i64 p] 71)).alloc (.cells zeroM.cells 37)) (w.heap.size + 1 + 1) zeroM) := by
    have := RowAt.new ((w.alloc (.cells m.cells 37)).alloc (.cells #[.int .i64 10, .int .i64 (q : Int), .int .i64 p] 71)) 37 136 zeroM.cell
    rw [show ((w.alloc (.cells m.cells 37)).alloc (.cells #[.int .i64 10, .int .i64 (q : Int), .int .i64 p] 71)).heap.size = w.heap.size + 1 + 1 by simp] at this
    exact this
  have a0 : World.cell? (((w.alloc (.cells m.cells 37)).alloc (.cells #[.int .i64 10, .int .i64 (q : Int), .int .i64 p] 71)).alloc (.cells zeroM.cells 37)) ⟨w.heap.size + 1, 0, none⟩ = some (.int .i64 10) := by simp [go_sem]
  have a1 : World.cell? (((w.alloc (.cells m.cells 37)).alloc (.cells #[.int .i64 10, .int .i64 (q : Int), .int .i64 p] 71)).alloc (.cells zeroM.cells 37)) ⟨w.heap.size + 1, 1, none⟩ = some (.int .i64 (q : Int)) := by simp [go_sem]
  have a2 : World.cell? (((w.alloc (.cells m.cells 37)).alloc (.cells #[.int .i64 10, .int .i64 (q : Int), .int .i64 p] 71)).alloc (.cells zeroM.cells 37)) ⟨w.heap.size + 1, 2, none⟩ = some (.int .i64 p) := by simp [go_sem]
  generalize (((w.alloc (.cells m.cells 37)).alloc (.cells #[.int .i64 10, .int .i64 (q : Int), .int .i64 p] 71)).alloc (.cells zeroM.cells 37)) = V at *
  clear hz
  go_wp2_with fail
  refine (HRd.out _).mono ?_
  rintro e w1 ⟨x, b, rfl, hr, hb1⟩
  have hb1V : V.heap.size ≤ w1.heap.size := hb1.size
  have HI1 : Hid (MemAt w1 w.heap.size m) := HI.out.to hb1
  have HR1 : Hid (MemAt w1 (w.heap.size + 1 + 1) zeroM) := HR.out.to hb1
  have HB1 : Hid (Below w.heap.size w w1) := HB.out.trans (hb1.mono HB.out.size)
  have b0 : w1.cell? ⟨w.heap.size + 1, 0, none⟩ = some (.int .i64 10) := (hb1.cell (p := ⟨w.heap.size + 1, 0, none⟩) (World.block_lt_of_cell? V _ a0)).trans a0
  have b1 : w1.cell? ⟨w.heap.size + 1, 1, none⟩ = some (.int .i64 (q : Int)) := (hb1.cell (p := ⟨w.heap.size + 1, 1, none⟩) (World.block_lt_of_cell? V _ a1)).trans a1
  have b2 : w1.cell? ⟨w.heap.size + 1, 2, none⟩ = some (.int .i64 p) := (hb1.cell (p := ⟨w.heap.size + 1, 2, none⟩) (World.block_lt_of_cell? V _ a2)).trans a2
  have HX : Hid (RdR t x b) := hr
  clear a0 a1 a2 HI HR HB hb1 HRd hr
  go_wp2_with (first
    | refine wpList_rowLoad rfl 37 (.tmp 3) rfl _ 0 136 m.cell rfl HI1.out (by omega) (fun i _ => by rw [Nat.zero_add]) Tryz.underlying37 rfl (by kernel_rfl) ?_
    | fail)
  refine (HP.out x _).mono ?_
  rintro e w3 ⟨rfl, hb3⟩
  have HR3 : Hid (MemAt w3 (w.heap.size + 1 + 1) zeroM) := HR1.out.to hb3
  have HB3 : Hid (Below w.heap.size w w3) := HB1.out.trans (hb3.mono HB1.out.size)
  clear HP hb3
  generalize hmm : m.setR q x = m' at *
  go_wp2_with (refine wpList_rowStore rfl 37 (.tmp 6) (.tmp 24) rfl _ 0 136 m'.cell m'.cell rfl rfl HR3.out (by omega) (fun i _ => cell_one m' i) (fun i hi => by rw [if_pos ⟨by omega, by omega⟩, Nat.sub_zero]) (by kernel_rfl) ?_; intro w2 HZ2 hz2 hk2 hb2)
  exact bodyPost_ret (v := .agg m'.cells) (resRow Tryz.results61 rfl HZ2 Tryz.underlying37 rfl (by kernel_rfl)) rfl ⟨m', rfl, hmm ▸ setR_ok hm q HX.out.1, hmm ▸ vres_real HX.out, hb2 _ _ HB3.out (by omega)⟩
set_option maxHeartbeats 1000000 in
set_option maxRecDepth 10000 in
theorem sval_none (m : Mm) (k n : Int) (hk : k ≠ 10) (p : Int) (s s1 s2 : ByteArray) (la dn : Bool) (v : Int) (w : World) (h1 : ∀ W, Calls Tryz.prog 105 #[.string s, .int .u8 43] W fun e w' => e = .returned (.tuple #[.string s1, .bool la]) ∧ w' = W) (h2 : ∀ W, Calls Tryz.prog 105 #[.string s1, .int .u8 33] W fun e w' => e = .returned (.tuple #[.string s2, .bool dn]) ∧ w' = W)
    (h3 : ∀ W, Calls Tryz.prog 59 #[.string s2] W fun e w' => e = .returned (.tuple #[.int .i64 v, .bool false]) ∧ w' = W)  :
    Calls Tryz.prog 61 #[m.val, .agg #[.int .i64 k, .int .i64 n, .int .i64 p], .string s] w fun e w' => e = .returned (m).val ∧ Below w.heap.size w w' := by
  have hz : ∀ w, (zeroValue 37).run Tryz.prog w = .ok (.agg zeroM.cells) w := fun _ => by kernel_rfl
  have HT1 : Hid (∀ W, Calls Tryz.prog 105 #[.string s, .int .u8 43] W fun e w' => e = .returned (.tuple #[.string s1, .bool la]) ∧ w' = W) := h1
  have HT2 : Hid (∀ W, Calls Tryz.prog 105 #[.string s1, .int .u8 33] W fun e w' => e = .returned (.tuple #[.string s2, .bool dn]) ∧ w' = W) := h2
  have HN : Hid (∀ W, Calls Tryz.prog 59 #[.string s2] W fun e w' => e = .returned (.tuple #[.int .i64 v, .bool false]) ∧ w' = W) := h3
  clear h1 h2 h3
  have k10 : (k == 10) = false := by simpa using hk
  clear hk
  unfold Mm.val
  go_enter Tryz.func61, Tryz.ntmps61
  go_upto_region 1 with fail
  have HB : Hid (Below w.heap.size w (((w.alloc (.cells m.cells 37)).alloc (.cells #[.int .i64 k, .int .i64 n, .int .i64 p] 71)).alloc (.cells zeroM.cells 37))) := (((Below.refl _ _).alloc (Nat.le_refl _) _).alloc (by simp) _).alloc (by simp; omega) _
  have HI : Hid (MemAt (((w.alloc (.cells m.cells 37)).alloc (.cells #[.int .i64 k, .int .i64 n, .int .i64 p] 71)).alloc (.cells zeroM.cells 37)) w.heap.size m) := ((RowAt.new w 37 136 m.cell).alloc _).alloc _
  have HR : Hid (MemAt (((w.alloc (.cells m.cells 37)).alloc (.cells #[.int .i64 k, .int .i64 n, .int .i64 p] 71)).alloc (.cells zeroM.cells 37)) (w.heap.size + 1 + 1) zeroM) := by
    have := RowAt.new ((w.alloc (.cells m.cells 37)).alloc (.cells #[.int .i64 k, .int .i64 n, .int .i64 p] 71)) 37 136 zeroM.cell
    rw [show ((w.alloc (.cells m.cells 37)).alloc (.cells #[.int .i64 k, .int .i64 n, .int .i64 p] 71)).heap.size = w.heap.size + 1 + 1 by simp] at this
    exact this
  have a0 : World.cell? (((w.alloc (.cells m.cells 37)).alloc (.cells #[.int .i64 k, .int .i64 n, .int .i64 p] 71)).alloc (.cells zeroM.cells 37)) ⟨w.heap.size + 1, 0, none⟩ = some (.int .i64 k) := by simp [go_sem]
  have a1 : World.cell? (((w.alloc (.cells m.cells 37)).alloc (.cells #[.int .i64 k, .int .i64 n, .int .i64 p] 71)).alloc (.cells zeroM.cells 37)) ⟨w.heap.size + 1, 1, none⟩ = some (.int .i64 n) := by simp [go_sem]
  have a2 : World.cell? (((w.alloc (.cells m.cells 37)).alloc (.cells #[.int .i64 k, .int .i64 n, .int .i64 p] 71)).alloc (.cells zeroM.cells 37)) ⟨w.heap.size + 1, 2, none⟩ = some (.int .i64 p) := by simp [go_sem]
  generalize (((w.alloc (.cells m.cells 37)).alloc (.cells #[.int .i64 k, .int .i64 n, .int .i64 p] 71)).alloc (.cells zeroM.cells 37)) = V at *
  clear hz
  go_wp2_with fail
  refine (HT1.out _).mono ?_
  rintro e w1 ⟨rfl, rfl⟩
  go_wp2_with fail
  refine (HT2.out _).mono ?_
  rintro e w1 ⟨rfl, rfl⟩
  go_wp2_with fail
  refine (HN.out _).mono ?_
  rintro e w1 ⟨rfl, rfl⟩
  clear HT1 HT2 HN
  go_wp2_with (first
    | refine wpList_rowLoad rfl 37 (.tmp 3) rfl _ 0 136 m.cell rfl HI.out (by omega) (fun i _ => by rw [Nat.zero_add]) Tryz.underlying37 rfl (by kernel_rfl) ?_
    | (refine wpList_rowStore rfl 37 (.tmp 6) (.tmp 50) rfl _ 0 136 m.cell m.cell rfl rfl HR.out (by omega) (fun i _ => cell_one m i) (fun i hi => by rw [if_pos ⟨by omega, by omega⟩, Nat.sub_zero]) (by kernel_rfl) ?_; intro w2 HZ2 hz2 hk2 hb2))
  exact bodyPost_ret (v := .agg m.cells) (resRow Tryz.results61 rfl HZ2 Tryz.underlying37 rfl (by kernel_rfl)) rfl ⟨rfl, hb2 _ _ HB.out (by omega)⟩
set_option maxHeartbeats 1000000 in
set_option maxRecDepth 10000 in
theorem sval_low (m : Mm) (k n : Int) (hk : k ≠ 10) (p : Int) (s s1 s2 : ByteArray) (la dn : Bool) (v : Int) (w : World) (h1 : ∀ W, Calls Tryz.prog 105 #[.string s, .int .u8 43] W fun e w' => e = .returned (.tuple #[.string s1, .bool la]) ∧ w' = W) (h2 : ∀ W, Calls Tryz.prog 105 #[.string s1, .int .u8 33] W fun e w' => e = .returned (.tuple #[.string s2, .bool dn]) ∧ w' = W)
    (h3 : ∀ W, Calls Tryz.prog 59 #[.string s2] W fun e w' => e = .returned (.tuple #[.int .i64 v, .bool true]) ∧ w' = W) (hv : v < -32768) :
    Calls Tryz.prog 61 #[m.val, .agg #[.int .i64 k, .int .i64 n, .int .i64 p], .string s] w fun e w' => e = .returned (m).val ∧ Below w.heap.size w w' := by
  have hz : ∀ w, (zeroValue 37).run Tryz.prog w = .ok (.agg zeroM.cells) w := fun _ => by kernel_rfl
  have HT1 : Hid (∀ W, Calls Tryz.prog 105 #[.string s, .int .u8 43] W fun e w' => e = .returned (.tuple #[.string s1, .bool la]) ∧ w' = W) := h1
  have HT2 : Hid (∀ W, Calls Tryz.prog 105 #[.string s1, .int .u8 33] W fun e w' => e = .returned (.tuple #[.string s2, .bool dn]) ∧ w' = W) := h2
  have HN : Hid (∀ W, Calls Tryz.prog 59 #[.string s2] W fun e w' => e = .returned (.tuple #[.int .i64 v, .bool true]) ∧ w' = W) := h3
  clear h1 h2 h3
  have k10 : (k == 10) = false := by simpa using hk
  clear hk
  unfold Mm.val
  go_enter Tryz.func61, Tryz.ntmps61
  go_upto_region 1 with fail
  have HB : Hid (Below w.heap.size w (((w.alloc (.cells m.cells 37)).alloc (.cells #[.int .i64 k, .int .i64 n, .int .i64 p] 71)).alloc (.cells zeroM.cells 37))) := (((Below.refl _ _).alloc (Nat.le_refl _) _).alloc (by simp) _).alloc (by simp; omega) _
  have HI : Hid (MemAt (((w.alloc (.cells m.cells 37)).alloc (.cells #[.int .i64 k, .int .i64 n, .int .i64 p] 71)).alloc (.cells zeroM.cells 37)) w.heap.size m) := ((RowAt.new w 37 136 m.cell).alloc _).alloc _
  have HR : Hid (MemAt (((w.alloc (.cells m.cells 37)).alloc (.cells #[.int .i64 k, .int .i64 n, .int .i64 p] 71)).alloc (.cells zeroM.cells 37)) (w.heap.size + 1 + 1) zeroM) := by
    have := RowAt.new ((w.alloc (.cells m.cells 37)).alloc (.cells #[.int .i64 k, .int .i64 n, .int .i64 p] 71)) 37 136 zeroM.cell
    rw [show ((w.alloc (.cells m.cells 37)).alloc (.cells #[.int .i64 k, .int .i64 n, .int .i64 p] 71)).heap.size = w.heap.size + 1 + 1 by simp] at this
    exact this
  have a0 : World.cell? (((w.alloc (.cells m.cells 37)).alloc (.cells #[.int .i64 k, .int .i64 n, .int .i64 p] 71)).alloc (.cells zeroM.cells 37)) ⟨w.heap.size + 1, 0, none⟩ = some (.int .i64 k) := by simp [go_sem]
  have a1 : World.cell? (((w.alloc (.cells m.cells 37)).alloc (.cells #[.int .i64 k, .int .i64 n, .int .i64 p] 71)).alloc (.cells zeroM.cells 37)) ⟨w.heap.size + 1, 1, none⟩ = some (.int .i64 n) := by simp [go_sem]
  have a2 : World.cell? (((w.alloc (.cells m.cells 37)).alloc (.cells #[.int .i64 k, .int .i64 n, .int .i64 p] 71)).alloc (.cells zeroM.cells 37)) ⟨w.heap.size + 1, 2, none⟩ = some (.int .i64 p) := by simp [go_sem]
  generalize (((w.alloc (.cells m.cells 37)).alloc (.cells #[.int .i64 k, .int .i64 n, .int .i64 p] 71)).alloc (.cells zeroM.cells 37)) = V at *
  clear hz
  go_wp2_with fail
  refine (HT1.out _).mono ?_
  rintro e w1 ⟨rfl, rfl⟩
  go_wp2_with fail
  refine (HT2.out _).mono ?_
  rintro e w1 ⟨rfl, rfl⟩
  go_wp2_with fail
  refine (HN.out _).mono ?_
  rintro e w1 ⟨rfl, rfl⟩
  clear HT1 HT2 HN
  go_wp2_with (first
    | refine wpList_rowLoad rfl 37 (.tmp 3) rfl _ 0 136 m.cell rfl HI.out (by omega) (fun i _ => by rw [Nat.zero_add]) Tryz.underlying37 rfl (by kernel_rfl) ?_
    | (refine wpList_rowStore rfl 37 (.tmp 6) (.tmp 50) rfl _ 0 136 m.cell m.cell rfl rfl HR.out (by omega) (fun i _ => cell_one m i) (fun i hi => by rw [if_pos ⟨by omega, by omega⟩, Nat.sub_zero]) (by kernel_rfl) ?_; intro w2 HZ2 hz2 hk2 hb2))
  exact bodyPost_ret (v := .agg m.cells) (resRow Tryz.results61 rfl HZ2 Tryz.underlying37 rfl (by kernel_rfl)) rfl ⟨rfl, hb2 _ _ HB.out (by omega)⟩
set_option maxHeartbeats 1000000 in
set_option maxRecDepth 10000 in
theorem sval_high (m : Mm) (k n : Int) (hk : k ≠ 10) (p : Int) (s s1 s2 : ByteArray) (la dn : Bool) (v : Int) (w : World) (h1 : ∀ W, Calls Tryz.prog 105 #[.string s, .int .u8 43] W fun e w' => e = .returned (.tuple #[.string s1, .bool la]) ∧ w' = W) (h2 : ∀ W, Calls Tryz.prog 105 #[.string s1, .int .u8 33] W fun e w' => e = .returned (.tuple #[.string s2, .bool dn]) ∧ w' = W)
    (h3 : ∀ W, Calls Tryz.prog 59 #[.string s2] W fun e w' => e = .returned (.tuple #[.int .i64 v, .bool true]) ∧ w' = W) (hv : ¬ v < -32768) (hv' : 65535 < v) :
    Calls Tryz.prog 61 #[m.val, .agg #[.int .i64 k, .int .i64 n, .int .i64 p], .string s] w fun e w' => e = .returned (m).val ∧ Below w.heap.size w w' := by
  have hz : ∀ w, (zeroValue 37).run Tryz.prog w = .ok (.agg zeroM.cells) w := fun _ => by kernel_rfl
  have HT1 : Hid (∀ W, Calls Tryz.prog 105 #[.string s, .int .u8 43] W fun e w' => e = .returned (.tuple #[.string s1, .bool la]) ∧ w' = W) := h1
  have HT2 : Hid (∀ W, Calls Tryz.prog 105 #[.string s1, .int .u8 33] W fun e w' => e = .returned (.tuple #[.string s2, .bool dn]) ∧ w' = W) := h2
  have HN : Hid (∀ W, Calls Tryz.prog 59 #[.string s2] W fun e w' => e = .returned (.tuple #[.int .i64 v, .bool true]) ∧ w' = W) := h3
  clear h1 h2 h3
  have k10 : (k == 10) = false := by simpa using hk
  clear hk
  unfold Mm.val
  go_enter Tryz.func61, Tryz.ntmps61
  go_upto_region 1 with fail
  have HB : Hid (Below w.heap.size w (((w.alloc (.cells m.cells 37)).alloc (.cells #[.int .i64 k, .int .i64 n, .int .i64 p] 71)).alloc (.cells zeroM.cells 37))) := (((Below.refl _ _).alloc (Nat.le_refl _) _).alloc (by simp) _).alloc (by simp; omega) _
  have HI : Hid (MemAt (((w.alloc (.cells m.cells 37)).alloc (.cells #[.int .i64 k, .int .i64 n, .int .i64 p] 71)).alloc (.cells zeroM.cells 37)) w.heap.size m) := ((RowAt.new w 37 136 m.cell).alloc _).alloc _
  have HR : Hid (MemAt (((w.alloc (.cells m.cells 37)).alloc (.cells #[.int .i64 k, .int .i64 n, .int .i64 p] 71)).alloc (.cells zeroM.cells 37)) (w.heap.size + 1 + 1) zeroM) := by
    have := RowAt.new ((w.alloc (.cells m.cells 37)).alloc (.cells #[.int .i64 k, .int .i64 n, .int .i64 p] 71)) 37 136 zeroM.cell
    rw [show ((w.alloc (.cells m.cells 37)).alloc (.cells #[.int .i64 k, .int .i64 n, .int .i64 p] 71)).heap.size = w.heap.size + 1 + 1 by simp] at this
    exact this
  have a0 : World.cell? (((w.alloc (.cells m.cells 37)).alloc (.cells #[.int .i64 k, .int .i64 n, .int .i64 p] 71)).alloc (.cells zeroM.cells 37)) ⟨w.heap.size + 1, 0, none⟩ = some (.int .i64 k) := by simp [go_sem]
  have a1 : World.cell? (((w.alloc (.cells m.cells 37)).alloc (.cells #[.int .i64 k, .int .i64 n, .int .i64 p] 71)).alloc (.cells zeroM.cells 37)) ⟨w.heap.size + 1, 1, none⟩ = some (.int .i64 n) := by simp [go_sem]
  have a2 : World.cell? (((w.alloc (.cells m.cells 37)).alloc (.cells #[.int .i64 k, .int .i64 n, .int .i64 p] 71)).alloc (.cells zeroM.cells 37)) ⟨w.heap.size + 1, 2, none⟩ = some (.int .i64 p) := by simp [go_sem]
  generalize (((w.alloc (.cells m.cells 37)).alloc (.cells #[.int .i64 k, .int .i64 n, .int .i64 p] 71)).alloc (.cells zeroM.cells 37)) = V at *
  clear hz
  go_wp2_with fail
  refine (HT1.out _).mono ?_
  rintro e w1 ⟨rfl, rfl⟩
  go_wp2_with fail
  refine (HT2.out _).mono ?_
  rintro e w1 ⟨rfl, rfl⟩
  go_wp2_with fail
  refine (HN.out _).mono ?_
  rintro e w1 ⟨rfl, rfl⟩
  clear HT1 HT2 HN
  go_wp2_with (first
    | refine wpList_rowLoad rfl 37 (.tmp 3) rfl _ 0 136 m.cell rfl HI.out (by omega) (fun i _ => by rw [Nat.zero_add]) Tryz.underlying37 rfl (by kernel_rfl) ?_
    | (refine wpList_rowStore rfl 37 (.tmp 6) (.tmp 50) rfl _ 0 136 m.cell m.cell rfl rfl HR.out (by omega) (fun i _ => cell_one m i) (fun i hi => by rw [if_pos ⟨by omega, by omega⟩, Nat.sub_zero]) (by kernel_rfl) ?_; intro w2 HZ2 hz2 hk2 hb2))
  exact bodyPost_ret (v := .agg m.cells) (resRow Tryz.results61 rfl HZ2 Tryz.underlying37 rfl (by kernel_rfl)) rfl ⟨rfl, hb2 _ _ HB.out (by omega)⟩
set_option maxHeartbeats 1000000 in
set_option maxRecDepth 10000 in
theorem sval_no (m : Mm) (k n : Int) (hk : k ≠ 10 ∧ k ≠ 7 ∧ k ≠ 8 ∧ k ≠ 9) (p : Int) (s s1 s2 : ByteArray) (la dn : Bool) (v : Int) (w : World) (h1 : ∀ W, Calls Tryz.prog 105 #[.string s, .int .u8 43] W fun e w' => e = .returned (.tuple #[.string s1, .bool la]) ∧ w' = W) (h2 : ∀ W, Calls Tryz.prog 105 #[.string s1, .int .u8 33] W fun e w' => e = .returned (.tuple #[.string s2, .bool dn]) ∧ w' = W)
    (h3 : ∀ W, Calls Tryz.prog 59 #[.string s2] W fun e w' => e = .returned (.tuple #[.int .i64 v, .bool true]) ∧ w' = W) (hv : ¬ v < -32768) (hv' : ¬ 65535 < v) :
    Calls Tryz.prog 61 #[m.val, .agg #[.int .i64 k, .int .i64 n, .int .i64 p], .string s] w fun e w' => e = .returned (m).val ∧ Below w.heap.size w w' := by
  have hz : ∀ w, (zeroValue 37).run Tryz.prog w = .ok (.agg zeroM.cells) w := fun _ => by kernel_rfl
  have HT1 : Hid (∀ W, Calls Tryz.prog 105 #[.string s, .int .u8 43] W fun e w' => e = .returned (.tuple #[.string s1, .bool la]) ∧ w' = W) := h1
  have HT2 : Hid (∀ W, Calls Tryz.prog 105 #[.string s1, .int .u8 33] W fun e w' => e = .returned (.tuple #[.string s2, .bool dn]) ∧ w' = W) := h2
  have HN : Hid (∀ W, Calls Tryz.prog 59 #[.string s2] W fun e w' => e = .returned (.tuple #[.int .i64 v, .bool true]) ∧ w' = W) := h3
  clear h1 h2 h3
  have k10 : (k == 10) = false := by simpa using hk.1
  have k7 : (k == 7) = false := by simpa using hk.2.1
  have k8 : (k == 8) = false := by simpa using hk.2.2.1
  have k9 : (k == 9) = false := by simpa using hk.2.2.2
  clear hk
  unfold Mm.val
  go_enter Tryz.func61, Tryz.ntmps61
  go_upto_region 1 with fail
  have HB : Hid (Below w.heap.size w (((w.alloc (.cells m.cells 37)).alloc (.cells #[.int .i64 k, .int .i64 n, .int .i64 p] 71)).alloc (.cells zeroM.cells 37))) := (((Below.refl _ _).alloc (Nat.le_refl _) _).alloc (by simp) _).alloc (by simp; omega) _
  have HI : Hid (MemAt (((w.alloc (.cells m.cells 37)).alloc (.cells #[.int .i64 k, .int .i64 n, .int .i64 p] 71)).alloc (.cells zeroM.cells 37)) w.heap.size m) := ((RowAt.new w 37 136 m.cell).alloc _).alloc _
  have HR : Hid (MemAt (((w.alloc (.cells m.cells 37)).alloc (.cells #[.int .i64 k, .int .i64 n, .int .i64 p] 71)).alloc (.cells zeroM.cells 37)) (w.heap.size + 1 + 1) zeroM) := by
    have := RowAt.new ((w.alloc (.cells m.cells 37)).alloc (.cells #[.int .i64 k, .int .i64 n, .int .i64 p] 71)) 37 136 zeroM.cell
    rw [show ((w.alloc (.cells m.cells 37)).alloc (.cells #[.int .i64 k, .int .i64 n, .int .i64 p] 71)).heap.size = w.heap.size + 1 + 1 by simp] at this
    exact this
  have a0 : World.cell? (((w.alloc (.cells m.cells 37)).alloc (.cells #[.int .i64 k, .int .i64 n, .int .i64 p] 71)).alloc (.cells zeroM.cells 37)) ⟨w.heap.size + 1, 0, none⟩ = some (.int .i64 k) := by simp [go_sem]
  have a1 : World.cell? (((w.alloc (.cells m.cells 37)).alloc (.cells #[.int .i64 k, .int .i64 n, .int .i64 p] 71)).alloc (.cells zeroM.cells 37)) ⟨w.heap.size + 1, 1, none⟩ = some (.int .i64 n) := by simp [go_sem]
  have a2 : World.cell? (((w.alloc (.cells m.cells 37)).alloc (.cells #[.int .i64 k, .int .i64 n, .int .i64 p] 71)).alloc (.cells zeroM.cells 37)) ⟨w.heap.size + 1, 2, none⟩ = some (.int .i64 p) := by simp [go_sem]
  generalize (((w.alloc (.cells m.cells 37)).alloc (.cells #[.int .i64 k, .int .i64 n, .int .i64 p] 71)).alloc (.cells zeroM.cells 37)) = V at *
  clear hz
  go_wp2_with fail
  refine (HT1.out _).mono ?_
  rintro e w1 ⟨rfl, rfl⟩
  go_wp2_with fail
  refine (HT2.out _).mono ?_
  rintro e w1 ⟨rfl, rfl⟩
  go_wp2_with fail
  refine (HN.out _).mono ?_
  rintro e w1 ⟨rfl, rfl⟩
  clear HT1 HT2 HN
  go_wp2_with (first
    | refine wpList_rowLoad rfl 37 (.tmp 3) rfl _ 0 136 m.cell rfl HI.out (by omega) (fun i _ => by rw [Nat.zero_add]) Tryz.underlying37 rfl (by kernel_rfl) ?_
    | (refine wpList_rowStore rfl 37 (.tmp 6) (.tmp 82) rfl _ 0 136 m.cell m.cell rfl rfl HR.out (by omega) (fun i _ => cell_one m i) (fun i hi => by rw [if_pos ⟨by omega, by omega⟩, Nat.sub_zero]) (by kernel_rfl) ?_; intro w2 HZ2 hz2 hk2 hb2))
  exact bodyPost_ret (v := .agg m.cells) (resRow Tryz.results61 rfl HZ2 Tryz.underlying37 rfl (by kernel_rfl)) rfl ⟨rfl, hb2 _ _ HB.out (by omega)⟩
set_option maxHeartbeats 1000000 in
set_option maxRecDepth 10000 in
theorem sval_7 (m : Mm) (i : Nat) (hi : i < 16) (p : Int) (s s1 s2 : ByteArray) (la dn : Bool) (v : Int) (w : World) (h1 : ∀ W, Calls Tryz.prog 105 #[.string s, .int .u8 43] W fun e w' => e = .returned (.tuple #[.string s1, .bool la]) ∧ w' = W) (h2 : ∀ W, Calls Tryz.prog 105 #[.string s1, .int .u8 33] W fun e w' => e = .returned (.tuple #[.string s2, .bool dn]) ∧ w' = W)
    (h3 : ∀ W, Calls Tryz.prog 59 #[.string s2] W fun e w' => e = .returned (.tuple #[.int .i64 v, .bool true]) ∧ w' = W) (hv : ¬ v < -32768) (hv' : ¬ 65535 < v) :
    Calls Tryz.prog 61 #[m.val, .agg #[.int .i64 7, .int .i64 (i : Int), .int .i64 p], .string s] w fun e w' => e = .returned (m.setT i dn (c16 v)).val ∧ Below w.heap.size w w' := by
  have hz : ∀ w, (zeroValue 37).run Tryz.prog w = .ok (.agg zeroM.cells) w := fun _ => by kernel_rfl
  have HT1 : Hid (∀ W, Calls Tryz.prog 105 #[.string s, .int .u8 43] W fun e w' => e = .returned (.tuple #[.string s1, .bool la]) ∧ w' = W) := h1
  have HT2 : Hid (∀ W, Calls Tryz.prog 105 #[.string s1, .int .u8 33] W fun e w' => e = .returned (.tuple #[.string s2, .bool dn]) ∧ w' = W) := h2
  have HN : Hid (∀ W, Calls Tryz.prog 59 #[.string s2] W fun e w' => e = .returned (.tuple #[.int .i64 v, .bool true]) ∧ w' = W) := h3
  clear h1 h2 h3
  have hi' : (i : Int) < 16 := by omega
  have HC : Hid (∀ j, j < 136 → (m.setT i dn (c16 v)).cell j = if 5 + i * 2 ≤ j ∧ j < 5 + i * 2 + 2 then tmC dn (c16 v : Int) (j - (5 + i * 2)) else m.cell j) := setT_cell m hi dn (c16 v)
  have w16 : IntKind.u16.wrap v = (c16 v : Int) := c16_wrap v
  unfold Mm.val
  generalize m.setT i dn (c16 v) = m' at *
  generalize c16 v = cc at *
  go_enter Tryz.func61, Tryz.ntmps61
  go_upto_region 1 with fail
  have HB : Hid (Below w.heap.size w (((w.alloc (.cells m.cells 37)).alloc (.cells #[.int .i64 7, .int .i64 (i : Int), .int .i64 p] 71)).alloc (.cells zeroM.cells 37))) := (((Below.refl _ _).alloc (Nat.le_refl _) _).alloc (by simp) _).alloc (by simp; omega) _
  have HI : Hid (MemAt (((w.alloc (.cells m.cells 37)).alloc (.cells #[.int .i64 7, .int .i64 (i : Int), .int .i64 p] 71)).alloc (.cells zeroM.cells 37)) w.heap.size m) := ((RowAt.new w 37 136 m.cell).alloc _).alloc _
  have HR : Hid (MemAt (((w.alloc (.cells m.cells 37)).alloc (.cells #[.int .i64 7, .int .i64 (i : Int), .int .i64 p] 71)).alloc (.cells zeroM.cells 37)) (w.heap.size + 1 + 1) zeroM) := by
    have := RowAt.new ((w.alloc (.cells m.cells 37)).alloc (.cells #[.int .i64 7, .int .i64 (i : Int), .int .i64 p] 71)) 37 136 zeroM.cell
    rw [show ((w.alloc (.cells m.cells 37)).alloc (.cells #[.int .i64 7, .int .i64 (i : Int), .int .i64 p] 71)).heap.size = w.heap.size + 1 + 1 by simp] at this
    exact this
  have a0 : World.cell? (((w.alloc (.cells m.cells 37)).alloc (.cells #[.int .i64 7, .int .i64 (i : Int), .int .i64 p] 71)).alloc (.cells zeroM.cells 37)) ⟨w.heap.size + 1, 0, none⟩ = some (.int .i64 7) := by simp [go_sem]
  have a1 : World.cell? (((w.alloc (.cells m.cells 37)).alloc (.cells #[.int .i64 7, .int .i64 (i : Int), .int .i64 p] 71)).alloc (.cells zeroM.cells 37)) ⟨w.heap.size + 1, 1, none⟩ = some (.int .i64 (i : Int)) := by simp [go_sem]
  have a2 : World.cell? (((w.alloc (.cells m.cells 37)).alloc (.cells #[.int .i64 7, .int .i64 (i : Int), .int .i64 p] 71)).alloc (.cells zeroM.cells 37)) ⟨w.heap.size + 1, 2, none⟩ = some (.int .i64 p) := by simp [go_sem]
  generalize (((w.alloc (.cells m.cells 37)).alloc (.cells #[.int .i64 7, .int .i64 (i : Int), .int .i64 p] 71)).alloc (.cells zeroM.cells 37)) = V at *
  clear hz
  go_wp2_with fail
  refine (HT1.out _).mono ?_
  rintro e w1 ⟨rfl, rfl⟩
  go_wp2_with fail
  refine (HT2.out _).mono ?_
  rintro e w1 ⟨rfl, rfl⟩
  go_wp2_with fail
  refine (HN.out _).mono ?_
  rintro e w1 ⟨rfl, rfl⟩
  clear HT1 HT2 HN
  go_wp2_with (first
    | (refine wpList_rowStore rfl 27 (.tmp 62) (.tmp 60) rfl w.heap.size (5 + i * 2) 2 (tmC dn (cc : Int)) m'.cell rfl rfl HI.out (by omega) (fun j _ => tmC_one _ _ j) (fun j hj => HC.out j hj) (by kernel_rfl) ?_
       intro w4 HZ4 hz4 hk4 hb4
       have HS : Hid (MemAt w4 w.heap.size m') := HZ4
       have HR2 : Hid (MemAt w4 (w.heap.size + 1 + 1) zeroM) := HR.out.by (hk4 _ (by omega))
       have HB2 : Hid (Below w.heap.size w w4) := hb4 _ _ HB.out (Nat.le_refl _)
       clear HI HR HB a0 a1 a2 HZ4 hk4 hb4 HC)
    | refine wpList_rowLoad rfl 37 (.tmp 3) rfl _ 0 136 m'.cell rfl HS.out (by omega) (fun i _ => by rw [Nat.zero_add]) Tryz.underlying37 rfl (by kernel_rfl) ?_
    | (refine wpList_rowStore rfl 37 (.tmp 6) (.tmp 82) rfl _ 0 136 m'.cell m'.cell rfl rfl HR2.out (by omega) (fun i _ => cell_one m' i) (fun i hi => by rw [if_pos ⟨by omega, by omega⟩, Nat.sub_zero]) (by kernel_rfl) ?_; intro w2 HZ2 hz2 hk2 hb2))
  exact bodyPost_ret (v := .agg m'.cells) (resRow Tryz.results61 rfl HZ2 Tryz.underlying37 rfl (by kernel_rfl)) rfl ⟨rfl, hb2 _ _ HB2.out (by omega)⟩
set_option maxHeartbeats 1000000 in
set_option maxRecDepth 10000 in
theorem sval_8 (m : Mm) (i : Nat) (hi : i < 16) (p : Int) (s s1 s2 : ByteArray) (la dn : Bool) (v : Int) (w : World) (h1 : ∀ W, Calls Tryz.prog 105 #[.string s, .int .u8 43] W fun e w' => e = .returned (.tuple #[.string s1, .bool la]) ∧ w' = W) (h2 : ∀ W, Calls Tryz.prog 105 #[.string s1, .int .u8 33] W fun e w' => e = .returned (.tuple #[.string s2, .bool dn]) ∧ w' = W)
    (h3 : ∀ W, Calls Tryz.prog 59 #[.string s2] W fun e w' => e = .returned (.tuple #[.int .i64 v, .bool true]) ∧ w' = W) (hv : ¬ v < -32768) (hv' : ¬ 65535 < v) :
    Calls Tryz.prog 61 #[m.val, .agg #[.int .i64 8, .int .i64 (i : Int), .int .i64 p], .string s] w fun e w' => e = .returned (m.setC i dn la (c16 v)).val ∧ Below w.heap.size w w' := by
  have hz : ∀ w, (zeroValue 37).run Tryz.prog w = .ok (.agg zeroM.cells) w := fun _ => by kernel_rfl
  have HT1 : Hid (∀ W, Calls Tryz.prog 105 #[.string s, .int .u8 43] W fun e w' => e = .returned (.tuple #[.string s1, .bool la]) ∧ w' = W) := h1
  have HT2 : Hid (∀ W, Calls Tryz.prog 105 #[.string s1, .int .u8 33] W fun e w' => e = .returned (.tuple #[.string s2, .bool dn]) ∧ w' = W) := h2
  have HN : Hid (∀ W, Calls Tryz.prog 59 #[.string s2] W fun e w' => e = .returned (.tuple #[.int .i64 v, .bool true]) ∧ w' = W) := h3
  clear h1 h2 h3
  have hi' : (i : Int) < 16 := by omega
  have HC : Hid (∀ j, j < 136 → (m.setC i dn la (c16 v)).cell j = if 37 + i * 3 ≤ j ∧ j < 37 + i * 3 + 3 then cnC dn la (c16 v : Int) (j - (37 + i * 3)) else m.cell j) := setC_cell m hi dn la (c16 v)
  have w16 : IntKind.u16.wrap v = (c16 v : Int) := c16_wrap v
  unfold Mm.val
  generalize m.setC i dn la (c16 v) = m' at *
  generalize c16 v = cc at *
  go_enter Tryz.func61, Tryz.ntmps61
  go_upto_region 1 with fail
  have HB : Hid (Below w.heap.size w (((w.alloc (.cells m.cells 37)).alloc (.cells #[.int .i64 8, .int .i64 (i : Int), .int .i64 p] 71)).alloc (.cells zeroM.cells 37))) := (((Below.refl _ _).alloc (Nat.le_refl _) _).alloc (by simp) _).alloc (by simp; omega) _
  have HI : Hid (MemAt (((w.alloc (.cells m.cells 37)).alloc (.cells #[.int .i64 8, .int .i64 (i : Int), .int .i64 p] 71)).alloc (.cells zeroM.cells 37)) w.heap.size m) := ((RowAt.new w 37 136 m.cell).alloc _).alloc _
  have HR : Hid (MemAt (((w.alloc (.cells m.cells 37)).alloc (.cells #[.int .i64 8, .int .i64 (i : Int), .int .i64 p] 71)).alloc (.cells zeroM.cells 37)) (w.heap.size + 1 + 1) zeroM) := by
    have := RowAt.new ((w.alloc (.cells m.cells 37)).alloc (.cells #[.int .i64 8, .int .i64 (i : Int), .int .i64 p] 71)) 37 136 zeroM.cell
    rw [show ((w.alloc (.cells m.cells 37)).alloc (.cells #[.int .i64 8, .int .i64 (i : Int), .int .i64 p] 71)).heap.size = w.heap.size + 1 + 1 by simp] at this
    exact this
  have a0 : World.cell? (((w.alloc (.cells m.cells 37)).alloc (.cells #[.int .i64 8, .int .i64 (i : Int), .int .i64 p] 71)).alloc (.cells zeroM.cells 37)) ⟨w.heap.size + 1, 0, none⟩ = some (.int .i64 8) := by simp [go_sem]
  have a1 : World.cell? (((w.alloc (.cells m.cells 37)).alloc (.cells #[.int .i64 8, .int .i64 (i : Int), .int .i64 p] 71)).alloc (.cells zeroM.cells 37)) ⟨w.heap.size + 1, 1, none⟩ = some (.int .i64 (i : Int)) := by simp [go_sem]
  have a2 : World.cell? (((w.alloc (.cells m.cells 37)).alloc (.cells #[.int .i64 8, .int .i64 (i : Int), .int .i64 p] 71)).alloc (.cells zeroM.cells 37)) ⟨w.heap.size + 1, 2, none⟩ = some (.int .i64 p) := by simp [go_sem]
  generalize (((w.alloc (.cells m.cells 37)).alloc (.cells #[.int .i64 8, .int .i64 (i : Int), .int .i64 p] 71)).alloc (.cells zeroM.cells 37)) = V at *
  clear hz
  go_wp2_with fail
  refine (HT1.out _).mono ?_
  rintro e w1 ⟨rfl, rfl⟩
  go_wp2_with fail
  refine (HT2.out _).mono ?_
  rintro e w1 ⟨rfl, rfl⟩
  go_wp2_with fail
  refine (HN.out _).mono ?_
  rintro e w1 ⟨rfl, rfl⟩
  clear HT1 HT2 HN
  go_wp2_with (first
    | (refine wpList_rowStore rfl 30 (.tmp 73) (.tmp 71) rfl w.heap.size (37 + i * 3) 3 (cnC dn la (cc : Int)) m'.cell rfl rfl HI.out (by omega) (fun j _ => cnC_one _ _ _ j) (fun j hj => HC.out j hj) (by kernel_rfl) ?_
       intro w4 HZ4 hz4 hk4 hb4
       have HS : Hid (MemAt w4 w.heap.size m') := HZ4
       have HR2 : Hid (MemAt w4 (w.heap.size + 1 + 1) zeroM) := HR.out.by (hk4 _ (by omega))
       have HB2 : Hid (Below w.heap.size w w4) := hb4 _ _ HB.out (Nat.le_refl _)
       clear HI HR HB a0 a1 a2 HZ4 hk4 hb4 HC)
    | refine wpList_rowLoad rfl 37 (.tmp 3) rfl _ 0 136 m'.cell rfl HS.out (by omega) (fun i _ => by rw [Nat.zero_add]) Tryz.underlying37 rfl (by kernel_rfl) ?_
    | (refine wpList_rowStore rfl 37 (.tmp 6) (.tmp 82) rfl _ 0 136 m'.cell m'.cell rfl rfl HR2.out (by omega) (fun i _ => cell_one m' i) (fun i hi => by rw [if_pos ⟨by omega, by omega⟩, Nat.sub_zero]) (by kernel_rfl) ?_; intro w2 HZ2 hz2 hk2 hb2))
  exact bodyPost_ret (v := .agg m'.cells) (resRow Tryz.results61 rfl HZ2 Tryz.underlying37 rfl (by kernel_rfl)) rfl ⟨rfl, hb2 _ _ HB2.out (by omega)⟩
set_option maxHeartbeats 1000000 in
set_option maxRecDepth 10000 in
theorem sval_9 (m : Mm) (i : Nat) (hi : i < 32) (p : Int) (s s1 s2 : ByteArray) (la dn : Bool) (v : Int) (w : World) (h1 : ∀ W, Calls Tryz.prog 105 #[.string s, .int .u8 43] W fun e w' => e = .returned (.tuple #[.string s1, .bool la]) ∧ w' = W) (h2 : ∀ W, Calls Tryz.prog 105 #[.string s1, .int .u8 33] W fun e w' => e = .returned (.tuple #[.string s2, .bool dn]) ∧ w' = W)
    (h3 : ∀ W, Calls Tryz.prog 59 #[.string s2] W fun e w' => e = .returned (.tuple #[.int .i64 v, .bool true]) ∧ w' = W) (hv : ¬ v < -32768) (hv' : ¬ 65535 < v) :
    Calls Tryz.prog 61 #[m.val, .agg #[.int .i64 9, .int .i64 (i : Int), .int .i64 p], .string s] w fun e w' => e = .returned (m.setD i (d16 v)).val ∧ Below w.heap.size w w' := by
  have hz : ∀ w, (zeroValue 37).run Tryz.prog w = .ok (.agg zeroM.cells) w := fun _ => by kernel_rfl
  have HT1 : Hid (∀ W, Calls Tryz.prog 105 #[.string s, .int .u8 43] W fun e w' => e = .returned (.tuple #[.string s1, .bool la]) ∧ w' = W) := h1
  have HT2 : Hid (∀ W, Calls Tryz.prog 105 #[.string s1, .int .u8 33] W fun e w' => e = .returned (.tuple #[.string s2, .bool dn]) ∧ w' = W) := h2
  have HN : Hid (∀ W, Calls Tryz.prog 59 #[.string s2] W fun e w' => e = .returned (.tuple #[.int .i64 v, .bool true]) ∧ w' = W) := h3
  clear h1 h2 h3
  have hi' : (i : Int) < 32 := by omega
  have HC : Hid (∀ j, j < 136 → (if j = 85 + i then Value.int .i16 (d16 v) else m.cell j) = (m.setD i (d16 v)).cell j) := setD_cell m hi (d16 v)
  have w16 : IntKind.i16.wrap v = d16 v := d16_wrap v
  unfold Mm.val
  generalize m.setD i (d16 v) = m' at *
  generalize d16 v = dd at *
  go_enter Tryz.func61, Tryz.ntmps61
  go_upto_region 1 with fail
  have HB : Hid (Below w.heap.size w (((w.alloc (.cells m.cells 37)).alloc (.cells #[.int .i64 9, .int .i64 (i : Int), .int .i64 p] 71)).alloc (.cells zeroM.cells 37))) := (((Below.refl _ _).alloc (Nat.le_refl _) _).alloc (by simp) _).alloc (by simp; omega) _
  have HI : Hid (MemAt (((w.alloc (.cells m.cells 37)).alloc (.cells #[.int .i64 9, .int .i64 (i : Int), .int .i64 p] 71)).alloc (.cells zeroM.cells 37)) w.heap.size m) := ((RowAt.new w 37 136 m.cell).alloc _).alloc _
  have HR : Hid (MemAt (((w.alloc (.cells m.cells 37)).alloc (.cells #[.int .i64 9, .int .i64 (i : Int), .int .i64 p] 71)).alloc (.cells zeroM.cells 37)) (w.heap.size + 1 + 1) zeroM) := by
    have := RowAt.new ((w.alloc (.cells m.cells 37)).alloc (.cells #[.int .i64 9, .int .i64 (i : Int), .int .i64 p] 71)) 37 136 zeroM.cell
    rw [show ((w.alloc (.cells m.cells 37)).alloc (.cells #[.int .i64 9, .int .i64 (i : Int), .int .i64 p] 71)).heap.size = w.heap.size + 1 + 1 by simp] at this
    exact this
  have a0 : World.cell? (((w.alloc (.cells m.cells 37)).alloc (.cells #[.int .i64 9, .int .i64 (i : Int), .int .i64 p] 71)).alloc (.cells zeroM.cells 37)) ⟨w.heap.size + 1, 0, none⟩ = some (.int .i64 9) := by simp [go_sem]
  have a1 : World.cell? (((w.alloc (.cells m.cells 37)).alloc (.cells #[.int .i64 9, .int .i64 (i : Int), .int .i64 p] 71)).alloc (.cells zeroM.cells 37)) ⟨w.heap.size + 1, 1, none⟩ = some (.int .i64 (i : Int)) := by simp [go_sem]
  have a2 : World.cell? (((w.alloc (.cells m.cells 37)).alloc (.cells #[.int .i64 9, .int .i64 (i : Int), .int .i64 p] 71)).alloc (.cells zeroM.cells 37)) ⟨w.heap.size + 1, 2, none⟩ = some (.int .i64 p) := by simp [go_sem]
  generalize (((w.alloc (.cells m.cells 37)).alloc (.cells #[.int .i64 9, .int .i64 (i : Int), .int .i64 p] 71)).alloc (.cells zeroM.cells 37)) = V at *
  clear hz
  go_wp2_with fail
  refine (HT1.out _).mono ?_
  rintro e w1 ⟨rfl, rfl⟩
  go_wp2_with fail
  refine (HT2.out _).mono ?_
  rintro e w1 ⟨rfl, rfl⟩
  go_wp2_with fail
  refine (HN.out _).mono ?_
  rintro e w1 ⟨rfl, rfl⟩
  clear HT1 HT2 HN
  have c0 := HI.out.cell (i := 85 + i) (by omega)
  have f0 := HI.out.frozen (85 + i)
  have HS : Hid (MemAt (w1.setCell ⟨w.heap.size, 85 + i, none⟩ (.int .i16 dd)) w.heap.size m') := (HI.out.set (85 + i) (.int .i16 dd)).ext HC.out
  have HR2 : Hid (MemAt (w1.setCell ⟨w.heap.size, 85 + i, none⟩ (.int .i16 dd)) (w.heap.size + 1 + 1) zeroM) := HR.out.other _ (by omega)
  have HB2 : Hid (Below w.heap.size w (w1.setCell ⟨w.heap.size, 85 + i, none⟩ (.int .i16 dd))) := HB.out.setCell (p := ⟨_, _, none⟩) (Nat.le_refl _) _
  clear HI HR HB HC
  go_wp2_with (first
    | refine wpList_rowLoad rfl 37 (.tmp 3) rfl _ 0 136 m'.cell rfl HS.out (by omega) (fun i _ => by rw [Nat.zero_add]) Tryz.underlying37 rfl (by kernel_rfl) ?_
    | (refine wpList_rowStore rfl 37 (.tmp 6) (.tmp 82) rfl _ 0 136 m'.cell m'.cell rfl rfl HR2.out (by omega) (fun i _ => cell_one m' i) (fun i hi => by rw [if_pos ⟨by omega, by omega⟩, Nat.sub_zero]) (by kernel_rfl) ?_; intro w2 HZ2 hz2 hk2 hb2))
  exact bodyPost_ret (v := .agg m'.cells) (resRow Tryz.results61 rfl HZ2 Tryz.underlying37 rfl (by kernel_rfl)) rfl ⟨rfl, hb2 _ _ HB2.out (by omega)⟩
theorem sval_num (m : Mm) (hm : m.Ok) (k n p : Int) (hk : k ≠ 10) (hn : 7 ≤ k → k ≤ 10 → 0 ≤ n ∧ n < rN (kz k)) (t : List UInt8) (w : World) (ht : t.length ≤ 6000) :
    Calls Tryz.prog 61 #[m.val, .agg #[.int .i64 k, .int .i64 n, .int .i64 p], .string ⟨t.toArray⟩] w fun e w' => ∃ m' : Mm, e = .returned m'.val ∧ m'.Ok ∧ (7 ≤ k → k ≤ 10 → VRes m k n.toNat t m') ∧ Below w.heap.size w w' := by
  have bz : ∀ l : List UInt8, (⟨l.toArray⟩ : ByteArray).size = l.length := fun l => by simp [ByteArray.size]
  have h1 : ∀ W, Calls Tryz.prog 105 #[.string ⟨t.toArray⟩, .int .u8 43] W fun e w' => e = .returned (.tuple #[.string ⟨(tailL 43 t).1.toArray⟩, .bool (tailL 43 t).2]) ∧ w' = W := fun W => by
    have h := tail_any ⟨t.toArray⟩ 43 W (by rw [bz]; omega)
    simpa using h
  have hl1 := tailL_len 43 t
  have hl2 := tailL_len 33 (tailL 43 t).1
  have h2 : ∀ W, Calls Tryz.prog 105 #[.string ⟨(tailL 43 t).1.toArray⟩, .int .u8 33] W fun e w' => e = .returned (.tuple #[.string ⟨(tailL 33 (tailL 43 t).1).1.toArray⟩, .bool (tailL 33 (tailL 43 t).1).2]) ∧ w' = W := fun W => by
    have h := tail_any ⟨(tailL 43 t).1.toArray⟩ 33 W (by rw [bz]; omega)
    simpa using h
  obtain ⟨v, ok, hN⟩ := numR_ex (tailL 33 (tailL 43 t).1).1
  have h3 : ∀ W, Calls Tryz.prog 59 #[.string ⟨(tailL 33 (tailL 43 t).1).1.toArray⟩] W fun e w' => e = .returned (.tuple #[.int .i64 v, .bool ok]) ∧ w' = W := fun W => by
    refine (l9num_any ⟨(tailL 33 (tailL 43 t).1).1.toArray⟩ W (by rw [bz]; omega)).mono ?_
    rintro e w' ⟨v', b', rfl, h, rfl⟩
    obtain ⟨rfl, rfl⟩ := NumR.one hN h
    exact ⟨rfl, rfl⟩
  by_cases hbad : ok = false ∨ v < -32768 ∨ 65535 < v
  · have HV : 7 ≤ k → k ≤ 10 → VRes m k n.toNat t m := fun _ _ => vres_no hk hN hbad
    cases ok with
    | false => exact (sval_none m k n hk p _ _ _ _ _ v w h1 h2 h3).mono fun _ _ ⟨h, h'⟩ => ⟨m, h, hm, HV, h'⟩
    | true =>
      by_cases hlo : v < -32768
      · exact (sval_low m k n hk p _ _ _ _ _ v w h1 h2 h3 hlo).mono fun _ _ ⟨h, h'⟩ => ⟨m, h, hm, HV, h'⟩
      · have hhi : 65535 < v := by
          rcases hbad with h | h | h
          · cases h
          · exact absurd h hlo
          · exact h
        exact (sval_high m k n hk p _ _ _ _ _ v w h1 h2 h3 hlo hhi).mono fun _ _ ⟨h, h'⟩ => ⟨m, h, hm, HV, h'⟩
  · obtain rfl : ok = true := by
      cases ok
      · exact absurd (.inl rfl) hbad
      · rfl
    have hlo : ¬ v < -32768 := fun h => hbad (.inr (.inl h))
    have hhi : ¬ 65535 < v := fun h => hbad (.inr (.inr h))
    have HV : VRes m k n.toNat t (numM m k n.toNat (tailL 33 (tailL 43 t).1).2 (tailL 43 t).2 v) := vres_yes hk hN
    have HO := numM_ok hm k n.toNat (tailL 33 (tailL 43 t).1).2 (tailL 43 t).2 v
    by_cases h7 : k = 7
    · subst h7
      obtain ⟨g1, g2⟩ := hn (by omega) (by omega)
      rw [show rN (kz 7) = 16 from rfl] at g2
      obtain ⟨i, rfl⟩ := Int.eq_ofNat_of_zero_le g1
      exact (sval_7 m i (by omega) p _ _ _ _ _ v w h1 h2 h3 hlo hhi).mono fun _ _ ⟨h, h'⟩ => ⟨_, h, HO, fun _ _ => HV, h'⟩
    · by_cases h8 : k = 8
      · subst h8
        obtain ⟨g1, g2⟩ := hn (by omega) (by omega)
        rw [show rN (kz 8) = 16 from rfl] at g2
        obtain ⟨i, rfl⟩ := Int.eq_ofNat_of_zero_le g1
        exact (sval_8 m i (by omega) p _ _ _ _ _ v w h1 h2 h3 hlo hhi).mono fun _ _ ⟨h, h'⟩ => ⟨_, h, HO, fun _ _ => HV, h'⟩
      · by_cases h9 : k = 9
        · subst h9
          obtain ⟨g1, g2⟩ := hn (by omega) (by omega)
          rw [show rN (kz 9) = 32 from rfl] at g2
          obtain ⟨i, rfl⟩ := Int.eq_ofNat_of_zero_le g1
          exact (sval_9 m i (by omega) p _ _ _ _ _ v w h1 h2 h3 hlo hhi).mono fun _ _ ⟨h, h'⟩ => ⟨_, h, HO, fun _ _ => HV, h'⟩
        · exact (sval_no m k n ⟨hk, h7, h8, h9⟩ p _ _ _ _ _ v w h1 h2 h3 hlo hhi).mono fun _ _ ⟨h, h'⟩ => ⟨m, h, hm, fun g1 g2 => absurd g1 (by omega), h'⟩
theorem sval_any (m : Mm) (hm : m.Ok) (k n p : Int) (hn : 7 ≤ k → k ≤ 10 → 0 ≤ n ∧ n < rN (kz k)) (t : List UInt8) (w : World) (ht : t.length ≤ 6000) :
    Calls Tryz.prog 61 #[m.val, .agg #[.int .i64 k, .int .i64 n, .int .i64 p], .string ⟨t.toArray⟩] w fun e w' => ∃ m' : Mm, e = .returned m'.val ∧ m'.Ok ∧ (7 ≤ k → k ≤ 10 → VRes m k n.toNat t m') ∧ Below w.heap.size w w' := by
  by_cases hk : k = 10
  · subst hk
    obtain ⟨h1, h2⟩ := hn (by omega) (by omega)
    rw [show rN (kz 10) = 16 from rfl] at h2
    obtain ⟨i, rfl⟩ := Int.eq_ofNat_of_zero_le h1
    exact (sval_real m hm i (by omega) p t w ht).mono fun _ _ ⟨m', h1, h2, h3, h4⟩ => ⟨m', h1, h2, fun _ _ => h3, h4⟩
  · exact sval_num m hm k n p hk hn t w ht
end Go.Proofs.YtjacgamgjjpllaaGreatDoor
