/- The document's l4Word. Helper text: no statement is claimed here. -/
import Derived.Test.YtjacgamgjjpllaaGreatDoorP16
import Derived.Test.YtjacgamgjjpllaaGreatDoorJw
namespace Go.Proofs.YtjacgamgjjpllaaGreatDoor
open Go.ChangeShapes Go.WideShapes Go.ChangeAt Go.RowKit Fl

theorem ba_size (t : List UInt8) : (⟨t.toArray⟩ : ByteArray).size = t.length := by simp [ByteArray.size]
theorem ba_list (t : List UInt8) : (⟨t.toArray⟩ : ByteArray).toList = t := by rw [ByteArray.toList_eq]
theorem ba_ext {s : ByteArray} {t : List UInt8} (h : s.data.toList = t) : s = ⟨t.toArray⟩ := by
  apply ByteArray.ext
  apply Array.ext'
  rw [h]
theorem findQ_no {t : List UInt8} (h : (61 : UInt8) ∉ t) (ht : t.length ≤ 6000) (W : World) : Calls Tryz.prog 58 #[.string ⟨t.toArray⟩, .int .u8 61] W fun e w' => e = .returned (.int .i64 (-1)) ∧ w' = W := by
  refine (findQ_any ⟨t.toArray⟩ W (by rw [ba_size]; omega)).mono ?_
  rintro e w' ⟨v, rfl, rfl, ⟨rfl, -⟩ | ⟨l1, l2, e, -, -⟩⟩
  · exact ⟨rfl, rfl⟩
  · exact absurd (show (61 : UInt8) ∈ t by rw [show t = l1 ++ 61 :: l2 from e]; simp) h
theorem findQ_at {a r : List UInt8} (h : (61 : UInt8) ∉ a) (ht : (a ++ 61 :: r).length ≤ 6000) (W : World) : Calls Tryz.prog 58 #[.string ⟨(a ++ 61 :: r).toArray⟩, .int .u8 61] W fun e w' => e = .returned (.int .i64 (a.length : Int)) ∧ w' = W := by
  refine (findQ_any ⟨(a ++ 61 :: r).toArray⟩ W (by rw [ba_size]; omega)).mono ?_
  rintro e w' ⟨v, rfl, rfl, ⟨rfl, hn⟩ | ⟨l1, l2, e, h1, rfl⟩⟩
  · exact absurd (show (61 : UInt8) ∈ a ++ 61 :: r by simp) hn
  · have hc : Cutd (a ++ 61 :: r) a r := ⟨h, .inr rfl⟩
    obtain ⟨e1, -⟩ := hc.at_ h1 e
    rw [e1]
    exact ⟨rfl, rfl⟩
theorem ran_head {k : Int} (h1 : 1 ≤ k) (h2 : k ≤ 10) (i : Nat) (r : List UInt8) {c : UInt8} {l : List UInt8} (hc : 97 ≤ c.toNat) (e : c :: l = dvT k i ++ r) : False := by
  rw [dvT_form h1 h2] at e
  have := lt_big h1 h2
  rw [← (List.cons.inj e).1] at this
  omega
theorem res_ran (m : Mm) : Res m ranT m.setRan := by
  refine res_cut (nm := ranT) (vl := []) ⟨by decide, .inl ⟨rfl, rfl⟩⟩ (fun _ => rfl) (fun e => absurd e (by decide)) (fun _ _ e => absurd e (by decide)) (fun k i h1 h2 _ e => ?_) (fun k i h1 h2 _ _ e => ?_) (fun e => absurd e (by decide))
  · exact absurd (by rw [List.append_nil]; exact e) (fun e' => ran_head h1 (by omega) i [] (c := 114) (l := [97, 110]) (by decide) e')
  · exact absurd (by rw [List.append_nil]; exact e) (fun e' => ran_head (by omega) h2 i [] (c := 114) (l := [97, 110]) (by decide) e')
theorem res_fault (m : Mm) : Res m faultT m.setFault := by
  refine res_cut (nm := faultT) (vl := []) ⟨by decide, .inl ⟨rfl, rfl⟩⟩ (fun e => absurd e (by decide)) (fun _ => rfl) (fun _ _ e => absurd e (by decide)) (fun k i h1 h2 _ e => ?_) (fun k i h1 h2 _ _ e => ?_) (fun e => absurd e (by decide))
  · exact absurd (by rw [List.append_nil]; exact e) (fun e' => ran_head h1 (by omega) i [] (c := 102) (l := [97, 117, 108, 116]) (by decide) e')
  · exact absurd (by rw [List.append_nil]; exact e) (fun e' => ran_head (by omega) h2 i [] (c := 102) (l := [97, 117, 108, 116]) (by decide) e')
theorem res_time {m m' : Mm} {r : List UInt8} (h : ∀ n : Nat, n < 2 ^ 32 → r = Lib.itoa (n : Int) → m' = m.setTime n) : Res m (timeN ++ 61 :: r) m' := by
  refine res_cut (nm := timeN) (vl := r) ⟨by decide, .inr rfl⟩ (fun e => absurd (List.cons.inj e).1 (by decide)) (fun e => absurd (List.cons.inj e).1 (by decide)) (fun n hn _ _ e => h n hn e) (fun k i h1 h2 _ e => ?_) (fun k i h1 h2 _ _ e => ?_) (fun e => absurd e (by simp))
  · exact absurd (by rw [List.append_nil]; exact e) (fun e' => ran_head h1 (by omega) i [] (c := 116) (l := [105, 109, 101] ++ 61 :: r) (by decide) e')
  · exact absurd (by rw [List.append_nil]; exact e) (fun e' => ran_head (by omega) h2 i [] (c := 116) (l := [105, 109, 101]) (by decide) e')
theorem res_dev {m m' : Mm} {a r : List UInt8} (h61 : (61 : UInt8) ∉ a) (hne : a ≠ timeN) {k n p : Int} {b : Bool} (hr : RdOk a k n p b) (h : 7 ≤ k → k ≤ 10 → VRes m k n.toNat r m') : Res m (a ++ 61 :: r) m' := by
  have hm : (61 : UInt8) ∈ a ++ 61 :: r := by simp
  refine res_cut (nm := a) (vl := r) ⟨h61, .inr rfl⟩ (fun e => absurd (e ▸ hm) (by decide)) (fun e => absurd (e ▸ hm) (by decide)) (fun _ _ e => absurd e hne) (fun k' i h1 h2 _ e _ => absurd (e ▸ hm) (dv_no h1 (by omega) i)) (fun k' i h1 h2 hi _ e => ?_) (fun e => absurd e (by simp))
  rw [e] at hr
  obtain ⟨rfl, rfl, -, -⟩ := rd_dv (by omega) h2 hi hr
  exact h h1 h2
theorem res_bare {m m' : Mm} {t nm vl : List UInt8} (hc : Cutd t nm vl) (h0 : t = nm ++ 61 :: vl → nm = []) (h1 : t ≠ ranT) (h2 : t ≠ faultT) {k n p : Int} {b : Bool} (hr : RdOk t k n p b) (h : 1 ≤ k → k ≤ 5 → m' = m.turn k n true) (hz : b = false → m' = m) : Res m t m' := by
  refine res_cut hc (fun e => absurd e h1) (fun e => absurd e h2) (fun _ _ e e' _ => absurd (h0 e') (by rw [e]; decide)) (fun k' i g1 g2 hi e _ => ?_) (fun k' i g1 g2 _ e' e => ?_) (fun e => ?_)
  · rw [e] at hr
    obtain ⟨rfl, rfl, -, -⟩ := rd_dv g1 (by omega) hi hr
    exact h g1 g2
  · have := h0 e'
    rw [e, dvT_form (by omega) g2] at this
    cases this
  · rw [e] at hr
    exact hz (hr.one read_empty).2.2.2
set_option maxHeartbeats 2000000 in
set_option maxRecDepth 20000 in
theorem sword_ran (m : Mm) (hm : m.Ok) (w : World) :
    Calls Tryz.prog 25 #[m.val, .string ⟨[114, 97, 110].toArray⟩] w fun e w' => ∃ m' : Mm, e = .returned m'.val ∧ m'.Ok ∧ Res m ranT m' ∧ Below w.heap.size w w' := by
  have hz : ∀ w, (zeroValue 37).run Tryz.prog w = .ok (.agg zeroM.cells) w := fun _ => by kernel_rfl
  have HF : Hid (∀ W, Calls Tryz.prog 58 #[.string ⟨[114, 97, 110].toArray⟩, .int .u8 61] W fun e w' => e = .returned (.int .i64 (-1)) ∧ w' = W) := fun W => findQ_no (t := [114, 97, 110]) (by decide) (by decide) W
  unfold Mm.val
  go_enter Tryz.func25, Tryz.ntmps25
  go_upto_region 1 with fail
  have HB : Hid (Below w.heap.size w ((w.alloc (.cells m.cells 37)).alloc (.cells zeroM.cells 37))) := ((Below.refl _ _).alloc (Nat.le_refl _) _).alloc (by simp) _
  have HI : Hid (MemAt ((w.alloc (.cells m.cells 37)).alloc (.cells zeroM.cells 37)) w.heap.size m) := (RowAt.new w 37 136 m.cell).alloc _
  have HR : Hid (MemAt ((w.alloc (.cells m.cells 37)).alloc (.cells zeroM.cells 37)) (w.heap.size + 1) zeroM) := by
    have := RowAt.new (w.alloc (.cells m.cells 37)) 37 136 zeroM.cell
    rw [show (w.alloc (.cells m.cells 37)).heap.size = w.heap.size + 1 by simp] at this
    exact this
  generalize ((w.alloc (.cells m.cells 37)).alloc (.cells zeroM.cells 37)) = V at *
  clear hz
  go_wp2_with fail
  refine (HF.out _).mono ?_
  rintro e w1 ⟨rfl, rfl⟩
  clear HF
  have HC : Hid (∀ i, i < 136 → (if i = 134 then Value.bool true else m.cell i) = m.setRan.cell i) := setRan_cell m
  have HE : Hid (Res m ranT m.setRan) := res_ran m
  have HO : Hid m.setRan.Ok := setRan_ok hm
  generalize m.setRan = m' at *
  have c0 := HI.out.cell (i := 134) (by omega)
  have f0 := HI.out.frozen 134
  have HS : Hid (MemAt (w1.setCell ⟨w.heap.size, 134, none⟩ (.bool true)) w.heap.size m') := (HI.out.set 134 (.bool true)).ext (HC.out)
  have HR2 : Hid (MemAt (w1.setCell ⟨w.heap.size, 134, none⟩ (.bool true)) (w.heap.size + 1) zeroM) := HR.out.other _ (by omega)
  have HB2 : Hid (Below w.heap.size w (w1.setCell ⟨w.heap.size, 134, none⟩ (.bool true))) := HB.out.setCell (p := ⟨_, _, none⟩) (Nat.le_refl _) _
  clear HI HR HB HC
  go_wp2_with (first
    | refine wpList_rowLoad rfl 37 (.tmp 2) rfl _ 0 136 m'.cell rfl HS.out (by omega) (fun i _ => by rw [Nat.zero_add]) Tryz.underlying37 rfl (by kernel_rfl) ?_
    | (refine wpList_rowStore rfl 37 (.tmp 4) (.tmp 89) rfl _ 0 136 m'.cell m'.cell rfl rfl HR2.out (by omega) (fun i _ => cell_one m' i) (fun i hi => by rw [if_pos ⟨by omega, by omega⟩, Nat.sub_zero]) (by kernel_rfl) ?_; intro w2 HZ2 hz2 hk2 hb2))
  exact bodyPost_ret (v := .agg m'.cells) (resRow Tryz.results25 rfl HZ2 Tryz.underlying37 rfl (by kernel_rfl)) rfl ⟨m', rfl, HO.out, HE.out, hb2 _ _ HB2.out (by omega)⟩
set_option maxHeartbeats 2000000 in
set_option maxRecDepth 20000 in
theorem sword_fault (m : Mm) (hm : m.Ok) (w : World) :
    Calls Tryz.prog 25 #[m.val, .string ⟨[102, 97, 117, 108, 116].toArray⟩] w fun e w' => ∃ m' : Mm, e = .returned m'.val ∧ m'.Ok ∧ Res m faultT m' ∧ Below w.heap.size w w' := by
  have hz : ∀ w, (zeroValue 37).run Tryz.prog w = .ok (.agg zeroM.cells) w := fun _ => by kernel_rfl
  have HF : Hid (∀ W, Calls Tryz.prog 58 #[.string ⟨[102, 97, 117, 108, 116].toArray⟩, .int .u8 61] W fun e w' => e = .returned (.int .i64 (-1)) ∧ w' = W) := fun W => findQ_no (t := [102, 97, 117, 108, 116]) (by decide) (by decide) W
  unfold Mm.val
  go_enter Tryz.func25, Tryz.ntmps25
  go_upto_region 1 with fail
  have HB : Hid (Below w.heap.size w ((w.alloc (.cells m.cells 37)).alloc (.cells zeroM.cells 37))) := ((Below.refl _ _).alloc (Nat.le_refl _) _).alloc (by simp) _
  have HI : Hid (MemAt ((w.alloc (.cells m.cells 37)).alloc (.cells zeroM.cells 37)) w.heap.size m) := (RowAt.new w 37 136 m.cell).alloc _
  have HR : Hid (MemAt ((w.alloc (.cells m.cells 37)).alloc (.cells zeroM.cells 37)) (w.heap.size + 1) zeroM) := by
    have := RowAt.new (w.alloc (.cells m.cells 37)) 37 136 zeroM.cell
    rw [show (w.alloc (.cells m.cells 37)).heap.size = w.heap.size + 1 by simp] at this
    exact this
  generalize ((w.alloc (.cells m.cells 37)).alloc (.cells zeroM.cells 37)) = V at *
  clear hz
  go_wp2_with fail
  refine (HF.out _).mono ?_
  rintro e w1 ⟨rfl, rfl⟩
  clear HF
  have HC : Hid (∀ i, i < 136 → (if i = 135 then Value.bool true else m.cell i) = m.setFault.cell i) := setFault_cell m
  have HE : Hid (Res m faultT m.setFault) := res_fault m
  have HO : Hid m.setFault.Ok := setFault_ok hm
  generalize m.setFault = m' at *
  have c0 := HI.out.cell (i := 135) (by omega)
  have f0 := HI.out.frozen 135
  have HS : Hid (MemAt (w1.setCell ⟨w.heap.size, 135, none⟩ (.bool true)) w.heap.size m') := (HI.out.set 135 (.bool true)).ext (HC.out)
  have HR2 : Hid (MemAt (w1.setCell ⟨w.heap.size, 135, none⟩ (.bool true)) (w.heap.size + 1) zeroM) := HR.out.other _ (by omega)
  have HB2 : Hid (Below w.heap.size w (w1.setCell ⟨w.heap.size, 135, none⟩ (.bool true))) := HB.out.setCell (p := ⟨_, _, none⟩) (Nat.le_refl _) _
  clear HI HR HB HC
  go_wp2_with (first
    | refine wpList_rowLoad rfl 37 (.tmp 2) rfl _ 0 136 m'.cell rfl HS.out (by omega) (fun i _ => by rw [Nat.zero_add]) Tryz.underlying37 rfl (by kernel_rfl) ?_
    | (refine wpList_rowStore rfl 37 (.tmp 4) (.tmp 89) rfl _ 0 136 m'.cell m'.cell rfl rfl HR2.out (by omega) (fun i _ => cell_one m' i) (fun i hi => by rw [if_pos ⟨by omega, by omega⟩, Nat.sub_zero]) (by kernel_rfl) ?_; intro w2 HZ2 hz2 hk2 hb2))
  exact bodyPost_ret (v := .agg m'.cells) (resRow Tryz.results25 rfl HZ2 Tryz.underlying37 rfl (by kernel_rfl)) rfl ⟨m', rfl, HO.out, HE.out, hb2 _ _ HB2.out (by omega)⟩
set_option maxHeartbeats 2000000 in
set_option maxRecDepth 20000 in
theorem time_put (m : Mm) (n : Nat) (hn : n < 4294967296) (s : ByteArray) (w : World) (h1 : ∀ W, Calls Tryz.prog 58 #[.string s, .int .u8 61] W fun e w' => e = .returned (.int .i64 4) ∧ w' = W) (b1 : (s.toList == [114, 97, 110]) = false) (b2 : (s.toList == [102, 97, 117, 108, 116]) = false) (b3 : ((s.extract 0 4).toList == [116, 105, 109, 101]) = true) (hs5 : 5 ≤ s.size) (_hs4 : 4 ≤ s.size)
    (h2 : ∀ W, Calls Tryz.prog 59 #[.string (s.extract 5 s.size)] W fun e w' => e = .returned (.tuple #[.int .i64 (n : Int), .bool true]) ∧ w' = W)  :
    Calls Tryz.prog 25 #[m.val, .string s] w fun e w' => e = .returned (m.setTime n).val ∧ Below w.heap.size w w' := by
  have hz : ∀ w, (zeroValue 37).run Tryz.prog w = .ok (.agg zeroM.cells) w := fun _ => by kernel_rfl
  have HF : Hid (∀ W, Calls Tryz.prog 58 #[.string s, .int .u8 61] W fun e w' => e = .returned (.int .i64 4) ∧ w' = W) := h1
  have HN : Hid (∀ W, Calls Tryz.prog 59 #[.string (s.extract 5 s.size)] W fun e w' => e = .returned (.tuple #[.int .i64 (n : Int), .bool true]) ∧ w' = W) := h2
  clear h1 h2
  have w32 : IntKind.u32.wrap (n : Int) = (n : Int) := wrap_u32n n hn
  have hv0 : (0 : Int) ≤ (n : Int) := by omega
  have hv1 : (n : Int) ≤ 4294967295 := by omega
  have HC : Hid (∀ i, i < 136 → (if i = 133 then Value.int .u32 (n : Int) else m.cell i) = (m.setTime n).cell i) := setTime_cell m n
  unfold Mm.val
  generalize m.setTime n = m' at *
  go_enter Tryz.func25, Tryz.ntmps25
  go_upto_region 1 with fail
  have HB : Hid (Below w.heap.size w ((w.alloc (.cells m.cells 37)).alloc (.cells zeroM.cells 37))) := ((Below.refl _ _).alloc (Nat.le_refl _) _).alloc (by simp) _
  have HI : Hid (MemAt ((w.alloc (.cells m.cells 37)).alloc (.cells zeroM.cells 37)) w.heap.size m) := (RowAt.new w 37 136 m.cell).alloc _
  have HR : Hid (MemAt ((w.alloc (.cells m.cells 37)).alloc (.cells zeroM.cells 37)) (w.heap.size + 1) zeroM) := by
    have := RowAt.new (w.alloc (.cells m.cells 37)) 37 136 zeroM.cell
    rw [show (w.alloc (.cells m.cells 37)).heap.size = w.heap.size + 1 by simp] at this
    exact this
  generalize ((w.alloc (.cells m.cells 37)).alloc (.cells zeroM.cells 37)) = V at *
  clear hz
  go_wp2_with fail
  refine (HF.out _).mono ?_
  rintro e w1 ⟨rfl, rfl⟩
  clear HF
  go_wp2_with fail
  refine (HN.out _).mono ?_
  rintro e w1 ⟨rfl, rfl⟩
  clear HN
  have c0 := HI.out.cell (i := 133) (by omega)
  have f0 := HI.out.frozen 133
  have HS : Hid (MemAt (w1.setCell ⟨w.heap.size, 133, none⟩ (.int .u32 (n : Int))) w.heap.size m') := (HI.out.set 133 (.int .u32 (n : Int))).ext (HC.out)
  have HR2 : Hid (MemAt (w1.setCell ⟨w.heap.size, 133, none⟩ (.int .u32 (n : Int))) (w.heap.size + 1) zeroM) := HR.out.other _ (by omega)
  have HB2 : Hid (Below w.heap.size w (w1.setCell ⟨w.heap.size, 133, none⟩ (.int .u32 (n : Int)))) := HB.out.setCell (p := ⟨_, _, none⟩) (Nat.le_refl _) _
  clear HI HR HB HC
  go_wp2_with (first
    | refine wpList_rowLoad rfl 37 (.tmp 2) rfl _ 0 136 m'.cell rfl HS.out (by omega) (fun i _ => by rw [Nat.zero_add]) Tryz.underlying37 rfl (by kernel_rfl) ?_
    | (refine wpList_rowStore rfl 37 (.tmp 4) (.tmp 89) rfl _ 0 136 m'.cell m'.cell rfl rfl HR2.out (by omega) (fun i _ => cell_one m' i) (fun i hi => by rw [if_pos ⟨by omega, by omega⟩, Nat.sub_zero]) (by kernel_rfl) ?_; intro w2 HZ2 hz2 hk2 hb2))
  exact bodyPost_ret (v := .agg m'.cells) (resRow Tryz.results25 rfl HZ2 Tryz.underlying37 rfl (by kernel_rfl)) rfl ⟨rfl, hb2 _ _ HB2.out (by omega)⟩
set_option maxHeartbeats 2000000 in
set_option maxRecDepth 20000 in
theorem time_none (m : Mm) (v : Int) (s : ByteArray) (w : World) (h1 : ∀ W, Calls Tryz.prog 58 #[.string s, .int .u8 61] W fun e w' => e = .returned (.int .i64 4) ∧ w' = W) (b1 : (s.toList == [114, 97, 110]) = false) (b2 : (s.toList == [102, 97, 117, 108, 116]) = false) (b3 : ((s.extract 0 4).toList == [116, 105, 109, 101]) = true) (hs5 : 5 ≤ s.size) (_hs4 : 4 ≤ s.size)
    (h2 : ∀ W, Calls Tryz.prog 59 #[.string (s.extract 5 s.size)] W fun e w' => e = .returned (.tuple #[.int .i64 v, .bool false]) ∧ w' = W)  :
    Calls Tryz.prog 25 #[m.val, .string s] w fun e w' => e = .returned (m).val ∧ Below w.heap.size w w' := by
  have hz : ∀ w, (zeroValue 37).run Tryz.prog w = .ok (.agg zeroM.cells) w := fun _ => by kernel_rfl
  have HF : Hid (∀ W, Calls Tryz.prog 58 #[.string s, .int .u8 61] W fun e w' => e = .returned (.int .i64 4) ∧ w' = W) := h1
  have HN : Hid (∀ W, Calls Tryz.prog 59 #[.string (s.extract 5 s.size)] W fun e w' => e = .returned (.tuple #[.int .i64 v, .bool false]) ∧ w' = W) := h2
  clear h1 h2
  unfold Mm.val
  go_enter Tryz.func25, Tryz.ntmps25
  go_upto_region 1 with fail
  have HB : Hid (Below w.heap.size w ((w.alloc (.cells m.cells 37)).alloc (.cells zeroM.cells 37))) := ((Below.refl _ _).alloc (Nat.le_refl _) _).alloc (by simp) _
  have HI : Hid (MemAt ((w.alloc (.cells m.cells 37)).alloc (.cells zeroM.cells 37)) w.heap.size m) := (RowAt.new w 37 136 m.cell).alloc _
  have HR : Hid (MemAt ((w.alloc (.cells m.cells 37)).alloc (.cells zeroM.cells 37)) (w.heap.size + 1) zeroM) := by
    have := RowAt.new (w.alloc (.cells m.cells 37)) 37 136 zeroM.cell
    rw [show (w.alloc (.cells m.cells 37)).heap.size = w.heap.size + 1 by simp] at this
    exact this
  generalize ((w.alloc (.cells m.cells 37)).alloc (.cells zeroM.cells 37)) = V at *
  clear hz
  go_wp2_with fail
  refine (HF.out _).mono ?_
  rintro e w1 ⟨rfl, rfl⟩
  clear HF
  go_wp2_with fail
  refine (HN.out _).mono ?_
  rintro e w1 ⟨rfl, rfl⟩
  clear HN
  go_wp2_with (first
    | refine wpList_rowLoad rfl 37 (.tmp 2) rfl _ 0 136 m.cell rfl HI.out (by omega) (fun i _ => by rw [Nat.zero_add]) Tryz.underlying37 rfl (by kernel_rfl) ?_
    | (refine wpList_rowStore rfl 37 (.tmp 4) (.tmp 89) rfl _ 0 136 m.cell m.cell rfl rfl HR.out (by omega) (fun i _ => cell_one m i) (fun i hi => by rw [if_pos ⟨by omega, by omega⟩, Nat.sub_zero]) (by kernel_rfl) ?_; intro w2 HZ2 hz2 hk2 hb2))
  exact bodyPost_ret (v := .agg m.cells) (resRow Tryz.results25 rfl HZ2 Tryz.underlying37 rfl (by kernel_rfl)) rfl ⟨rfl, hb2 _ _ HB.out (by omega)⟩
set_option maxHeartbeats 2000000 in
set_option maxRecDepth 20000 in
theorem time_low (m : Mm) (v : Int) (s : ByteArray) (w : World) (h1 : ∀ W, Calls Tryz.prog 58 #[.string s, .int .u8 61] W fun e w' => e = .returned (.int .i64 4) ∧ w' = W) (b1 : (s.toList == [114, 97, 110]) = false) (b2 : (s.toList == [102, 97, 117, 108, 116]) = false) (b3 : ((s.extract 0 4).toList == [116, 105, 109, 101]) = true) (hs5 : 5 ≤ s.size) (_hs4 : 4 ≤ s.size)
    (h2 : ∀ W, Calls Tryz.prog 59 #[.string (s.extract 5 s.size)] W fun e w' => e = .returned (.tuple #[.int .i64 v, .bool true]) ∧ w' = W) (hv : ¬ 0 ≤ v) :
    Calls Tryz.prog 25 #[m.val, .string s] w fun e w' => e = .returned (m).val ∧ Below w.heap.size w w' := by
  have hz : ∀ w, (zeroValue 37).run Tryz.prog w = .ok (.agg zeroM.cells) w := fun _ => by kernel_rfl
  have HF : Hid (∀ W, Calls Tryz.prog 58 #[.string s, .int .u8 61] W fun e w' => e = .returned (.int .i64 4) ∧ w' = W) := h1
  have HN : Hid (∀ W, Calls Tryz.prog 59 #[.string (s.extract 5 s.size)] W fun e w' => e = .returned (.tuple #[.int .i64 v, .bool true]) ∧ w' = W) := h2
  clear h1 h2
  unfold Mm.val
  go_enter Tryz.func25, Tryz.ntmps25
  go_upto_region 1 with fail
  have HB : Hid (Below w.heap.size w ((w.alloc (.cells m.cells 37)).alloc (.cells zeroM.cells 37))) := ((Below.refl _ _).alloc (Nat.le_refl _) _).alloc (by simp) _
  have HI : Hid (MemAt ((w.alloc (.cells m.cells 37)).alloc (.cells zeroM.cells 37)) w.heap.size m) := (RowAt.new w 37 136 m.cell).alloc _
  have HR : Hid (MemAt ((w.alloc (.cells m.cells 37)).alloc (.cells zeroM.cells 37)) (w.heap.size + 1) zeroM) := by
    have := RowAt.new (w.alloc (.cells m.cells 37)) 37 136 zeroM.cell
    rw [show (w.alloc (.cells m.cells 37)).heap.size = w.heap.size + 1 by simp] at this
    exact this
  generalize ((w.alloc (.cells m.cells 37)).alloc (.cells zeroM.cells 37)) = V at *
  clear hz
  go_wp2_with fail
  refine (HF.out _).mono ?_
  rintro e w1 ⟨rfl, rfl⟩
  clear HF
  go_wp2_with fail
  refine (HN.out _).mono ?_
  rintro e w1 ⟨rfl, rfl⟩
  clear HN
  go_wp2_with (first
    | refine wpList_rowLoad rfl 37 (.tmp 2) rfl _ 0 136 m.cell rfl HI.out (by omega) (fun i _ => by rw [Nat.zero_add]) Tryz.underlying37 rfl (by kernel_rfl) ?_
    | (refine wpList_rowStore rfl 37 (.tmp 4) (.tmp 89) rfl _ 0 136 m.cell m.cell rfl rfl HR.out (by omega) (fun i _ => cell_one m i) (fun i hi => by rw [if_pos ⟨by omega, by omega⟩, Nat.sub_zero]) (by kernel_rfl) ?_; intro w2 HZ2 hz2 hk2 hb2))
  exact bodyPost_ret (v := .agg m.cells) (resRow Tryz.results25 rfl HZ2 Tryz.underlying37 rfl (by kernel_rfl)) rfl ⟨rfl, hb2 _ _ HB.out (by omega)⟩
set_option maxHeartbeats 2000000 in
set_option maxRecDepth 20000 in
theorem time_high (m : Mm) (v : Int) (s : ByteArray) (w : World) (h1 : ∀ W, Calls Tryz.prog 58 #[.string s, .int .u8 61] W fun e w' => e = .returned (.int .i64 4) ∧ w' = W) (b1 : (s.toList == [114, 97, 110]) = false) (b2 : (s.toList == [102, 97, 117, 108, 116]) = false) (b3 : ((s.extract 0 4).toList == [116, 105, 109, 101]) = true) (hs5 : 5 ≤ s.size) (_hs4 : 4 ≤ s.size)
    (h2 : ∀ W, Calls Tryz.prog 59 #[.string (s.extract 5 s.size)] W fun e w' => e = .returned (.tuple #[.int .i64 v, .bool true]) ∧ w' = W) (hv : 0 ≤ v) (hv' : ¬ v ≤ 4294967295) :
    Calls Tryz.prog 25 #[m.val, .string s] w fun e w' => e = .returned (m).val ∧ Below w.heap.size w w' := by
  have hz : ∀ w, (zeroValue 37).run Tryz.prog w = .ok (.agg zeroM.cells) w := fun _ => by kernel_rfl
  have HF : Hid (∀ W, Calls Tryz.prog 58 #[.string s, .int .u8 61] W fun e w' => e = .returned (.int .i64 4) ∧ w' = W) := h1
  have HN : Hid (∀ W, Calls Tryz.prog 59 #[.string (s.extract 5 s.size)] W fun e w' => e = .returned (.tuple #[.int .i64 v, .bool true]) ∧ w' = W) := h2
  clear h1 h2
  unfold Mm.val
  go_enter Tryz.func25, Tryz.ntmps25
  go_upto_region 1 with fail
  have HB : Hid (Below w.heap.size w ((w.alloc (.cells m.cells 37)).alloc (.cells zeroM.cells 37))) := ((Below.refl _ _).alloc (Nat.le_refl _) _).alloc (by simp) _
  have HI : Hid (MemAt ((w.alloc (.cells m.cells 37)).alloc (.cells zeroM.cells 37)) w.heap.size m) := (RowAt.new w 37 136 m.cell).alloc _
  have HR : Hid (MemAt ((w.alloc (.cells m.cells 37)).alloc (.cells zeroM.cells 37)) (w.heap.size + 1) zeroM) := by
    have := RowAt.new (w.alloc (.cells m.cells 37)) 37 136 zeroM.cell
    rw [show (w.alloc (.cells m.cells 37)).heap.size = w.heap.size + 1 by simp] at this
    exact this
  generalize ((w.alloc (.cells m.cells 37)).alloc (.cells zeroM.cells 37)) = V at *
  clear hz
  go_wp2_with fail
  refine (HF.out _).mono ?_
  rintro e w1 ⟨rfl, rfl⟩
  clear HF
  go_wp2_with fail
  refine (HN.out _).mono ?_
  rintro e w1 ⟨rfl, rfl⟩
  clear HN
  go_wp2_with (first
    | refine wpList_rowLoad rfl 37 (.tmp 2) rfl _ 0 136 m.cell rfl HI.out (by omega) (fun i _ => by rw [Nat.zero_add]) Tryz.underlying37 rfl (by kernel_rfl) ?_
    | (refine wpList_rowStore rfl 37 (.tmp 4) (.tmp 89) rfl _ 0 136 m.cell m.cell rfl rfl HR.out (by omega) (fun i _ => cell_one m i) (fun i hi => by rw [if_pos ⟨by omega, by omega⟩, Nat.sub_zero]) (by kernel_rfl) ?_; intro w2 HZ2 hz2 hk2 hb2))
  exact bodyPost_ret (v := .agg m.cells) (resRow Tryz.results25 rfl HZ2 Tryz.underlying37 rfl (by kernel_rfl)) rfl ⟨rfl, hb2 _ _ HB.out (by omega)⟩
theorem sword_time (m : Mm) (hm : m.Ok) (r : List UInt8) (w : World) (ht : (timeN ++ 61 :: r).length ≤ 6000) :
    Calls Tryz.prog 25 #[m.val, .string ⟨(timeN ++ 61 :: r).toArray⟩] w fun e w' => ∃ m' : Mm, e = .returned m'.val ∧ m'.Ok ∧ Res m (timeN ++ 61 :: r) m' ∧ Below w.heap.size w w' := by
  have hlen : (timeN ++ 61 :: r).length = r.length + 5 := by simp [timeN]
  have hsz := ba_size (timeN ++ 61 :: r)
  have b1 : ((⟨(timeN ++ 61 :: r).toArray⟩ : ByteArray).toList == [114, 97, 110]) = false := by rw [ba_list]; rfl
  have b2 : ((⟨(timeN ++ 61 :: r).toArray⟩ : ByteArray).toList == [102, 97, 117, 108, 116]) = false := by rw [ba_list]; rfl
  have hx4 : ((⟨(timeN ++ 61 :: r).toArray⟩ : ByteArray).extract 0 4).data.toList = timeN := by rw [ext_toG]; rfl
  have b3 : (((⟨(timeN ++ 61 :: r).toArray⟩ : ByteArray).extract 0 4).toList == [116, 105, 109, 101]) = true := by rw [ByteArray.toList_eq, hx4]; rfl
  have hx5 : ((⟨(timeN ++ 61 :: r).toArray⟩ : ByteArray).extract 5 (⟨(timeN ++ 61 :: r).toArray⟩ : ByteArray).size) = ⟨r.toArray⟩ := ba_ext (by rw [ext_allG]; rfl)
  have h1 : ∀ W, Calls Tryz.prog 58 #[.string ⟨(timeN ++ 61 :: r).toArray⟩, .int .u8 61] W fun e w' => e = .returned (.int .i64 4) ∧ w' = W := fun W => findQ_at (a := timeN) (r := r) (by decide) ht W
  obtain ⟨v, ok, hN⟩ := numR_ex r
  have h2 : ∀ W, Calls Tryz.prog 59 #[.string ((⟨(timeN ++ 61 :: r).toArray⟩ : ByteArray).extract 5 (⟨(timeN ++ 61 :: r).toArray⟩ : ByteArray).size)] W fun e w' => e = .returned (.tuple #[.int .i64 v, .bool ok]) ∧ w' = W := fun W => by
    rw [hx5]
    refine (l9num_any ⟨r.toArray⟩ W (by rw [ba_size]; omega)).mono ?_
    rintro e w' ⟨v', b', rfl, h, rfl⟩
    obtain ⟨rfl, rfl⟩ := NumR.one hN h
    exact ⟨rfl, rfl⟩
  have hs5 : 5 ≤ (⟨(timeN ++ 61 :: r).toArray⟩ : ByteArray).size := by omega
  have hs4 : 4 ≤ (⟨(timeN ++ 61 :: r).toArray⟩ : ByteArray).size := by omega
  have HE : ∀ m' : Mm, (∀ n : Nat, n < 2 ^ 32 → r = Lib.itoa (n : Int) → m' = m.setTime n) → Res m (timeN ++ 61 :: r) m' := fun m' h => res_time h
  by_cases hgood : ok = true ∧ 0 ≤ v ∧ v ≤ 4294967295
  · obtain ⟨rfl, hv0, hv1⟩ := hgood
    obtain ⟨n, rfl⟩ := Int.eq_ofNat_of_zero_le hv0
    refine (time_put m n (by omega) _ w h1 b1 b2 b3 hs5 hs4 h2).mono fun _ _ ⟨h, h'⟩ => ⟨_, h, setTime_ok hm (by omega), HE _ (fun n' hn' e => ?_), h'⟩
    rw [e] at hN
    have := (numR_itoa (z := (n' : Int)) (by omega) hN).2
    rw [show n = n' by omega]
  · have HR' : Res m (timeN ++ 61 :: r) m := HE _ (fun n' hn' e => by
      rw [e] at hN
      obtain ⟨q1, q2⟩ := numR_itoa (z := (n' : Int)) (by omega) hN
      exact absurd ⟨q1, by omega, by omega⟩ hgood)
    cases ok with
    | false => exact (time_none m v _ w h1 b1 b2 b3 hs5 hs4 h2).mono fun _ _ ⟨h, h'⟩ => ⟨m, h, hm, HR', h'⟩
    | true =>
      by_cases hv0 : 0 ≤ v
      · exact (time_high m v _ w h1 b1 b2 b3 hs5 hs4 h2 hv0 (fun h => hgood ⟨rfl, hv0, h⟩)).mono fun _ _ ⟨h, h'⟩ => ⟨m, h, hm, HR', h'⟩
      · exact (time_low m v _ w h1 b1 b2 b3 hs5 hs4 h2 hv0).mono fun _ _ ⟨h, h'⟩ => ⟨m, h, hm, HR', h'⟩
end Go.Proofs.YtjacgamgjjpllaaGreatDoor

/- The document's l4Word at a device. Helper text: no statement is claimed here. -/
namespace Go.Proofs.YtjacgamgjjpllaaGreatDoor
open Go.ChangeShapes Go.WideShapes Go.ChangeAt Go.RowKit Fl

/-- A new operand. -/
def argW (w : World) (k n p : Int) : World := (w.alloc (.cells #[.int .i64 k, .int .i64 n, .int .i64 p] 71))
theorem argW_own (w : World) (k n p : Int) : Own (argW w k n p) w.heap.size (.int .i64 k) (.int .i64 n) (.int .i64 p) := Own.new w (.int .i64 k) (.int .i64 n) (.int .i64 p)
theorem argW_below (w : World) (k n p : Int) : Below w.heap.size w (argW w k n p) := (Below.refl _ _).alloc (Nat.le_refl _) _
/-- What comes of a device and its value. -/
def DevP (m : Mm) (a : List UInt8) (R : Int → Int → Mm → Prop) (w : World) (e : Ending) (w' : World) : Prop :=
  ∃ m' : Mm, e = .returned m'.val ∧ (∃ k n p b, RdOk a k n p b ∧ ((b = false ∧ m' = m) ∨ (b = true ∧ R k n m'))) ∧ Below w.heap.size w w'
set_option maxHeartbeats 2000000 in
set_option maxRecDepth 20000 in
theorem word_dev (m : Mm) (s : ByteArray) (a : List UInt8) (L : Nat) (b4 : ((L : Int) == 4) = false) (hL0 : (0 : Int) < (L : Int)) (R : Int → Int → Mm → Prop) (w : World) (h1 : ∀ W, Calls Tryz.prog 58 #[.string s, .int .u8 61] W fun e w' => e = .returned (.int .i64 (L : Int)) ∧ w' = W) (b1 : (s.toList == [114, 97, 110]) = false) (b2 : (s.toList == [102, 97, 117, 108, 116]) = false) (hL1 : L + 1 ≤ s.size) (hs : s.size ≤ 6000)
    (h2 : ∀ W, Calls Tryz.prog 60 #[.string (s.extract 0 L)] W (Read a W)) (h3 : ∀ k n p, RdOk a k n p true → ∀ W, Calls Tryz.prog 61 #[m.val, .agg #[.int .i64 k, .int .i64 n, .int .i64 p], .string (s.extract (L + 1) s.size)] W fun e w' => ∃ m' : Mm, e = .returned m'.val ∧ R k n m' ∧ Below W.heap.size W w') :
    Calls Tryz.prog 25 #[m.val, .string s] w (DevP m a R w) := by
  have hz : ∀ w, (zeroValue 37).run Tryz.prog w = .ok (.agg zeroM.cells) w := fun _ => by kernel_rfl
  have HF : Hid (∀ W, Calls Tryz.prog 58 #[.string s, .int .u8 61] W fun e w' => e = .returned (.int .i64 (L : Int)) ∧ w' = W) := h1
  have HD : Hid (∀ W, Calls Tryz.prog 60 #[.string (s.extract 0 L)] W (Read a W)) := h2
  have HV : Hid (∀ k n p, RdOk a k n p true → ∀ W, Calls Tryz.prog 61 #[m.val, .agg #[.int .i64 k, .int .i64 n, .int .i64 p], .string (s.extract (L + 1) s.size)] W fun e w' => ∃ m' : Mm, e = .returned m'.val ∧ R k n m' ∧ Below W.heap.size W w') := h3
  have hLs : L ≤ s.size := by omega
  clear h1 h2 h3
  have hval : ∀ x : Mm, x.val = .agg x.cells := fun _ => rfl
  rw [hval m]
  go_enter Tryz.func25, Tryz.ntmps25
  go_upto_region 1 with fail
  have HB : Hid (Below w.heap.size w ((w.alloc (.cells m.cells 37)).alloc (.cells zeroM.cells 37))) := ((Below.refl _ _).alloc (Nat.le_refl _) _).alloc (by simp) _
  have HI : Hid (MemAt ((w.alloc (.cells m.cells 37)).alloc (.cells zeroM.cells 37)) w.heap.size m) := (RowAt.new w 37 136 m.cell).alloc _
  have HR : Hid (MemAt ((w.alloc (.cells m.cells 37)).alloc (.cells zeroM.cells 37)) (w.heap.size + 1) zeroM) := by
    have := RowAt.new (w.alloc (.cells m.cells 37)) 37 136 zeroM.cell
    rw [show (w.alloc (.cells m.cells 37)).heap.size = w.heap.size + 1 by simp] at this
    exact this
  generalize ((w.alloc (.cells m.cells 37)).alloc (.cells zeroM.cells 37)) = V at *
  clear hz
  go_wp2_with fail
  refine (HF.out _).mono ?_
  rintro e w1 ⟨rfl, rfl⟩
  clear HF
  go_wp2_with fail
  refine (HD.out _).mono ?_
  rintro e w2 ⟨k, n, p, b, rfl, hr, hb⟩
  have HX : Hid (RdOk a k n p b) := hr
  have hI2 : MemAt w2 w.heap.size m := HI.out.to hb
  have hR2 : MemAt w2 (w.heap.size + 1) zeroM := HR.out.to hb
  have hB2 : Below w.heap.size w w2 := HB.out.trans (hb.mono HB.out.size)
  have hlt := hR2.lt
  have HI2 : Hid (MemAt (w2.alloc (.cells #[.int .i64 k, .int .i64 n, .int .i64 p] 71)) w.heap.size m) := hI2.to (argW_below w2 k n p)
  have HR2 : Hid (MemAt (w2.alloc (.cells #[.int .i64 k, .int .i64 n, .int .i64 p] 71)) (w.heap.size + 1) zeroM) := hR2.to (argW_below w2 k n p)
  have HB2 : Hid (Below w.heap.size w (w2.alloc (.cells #[.int .i64 k, .int .i64 n, .int .i64 p] 71))) := hB2.trans ((argW_below w2 k n p).mono hB2.size)
  have HO2 : Hid (Own (w2.alloc (.cells #[.int .i64 k, .int .i64 n, .int .i64 p] 71)) w2.heap.size (.int .i64 k) (.int .i64 n) (.int .i64 p)) := argW_own w2 k n p
  clear hr hI2 hR2 hB2 hb HI HR HB HD
  cases b with
  | false =>
    go_upto_region 17 with fail
    generalize (w2.alloc (.cells #[.int .i64 k, .int .i64 n, .int .i64 p] 71)) = W at *
    go_wp2_with (first
      | refine wpList_rowLoad rfl 37 (.tmp 2) rfl _ 0 136 m.cell rfl HI2.out (by omega) (fun i _ => by rw [Nat.zero_add]) Tryz.underlying37 rfl (by kernel_rfl) ?_
      | (refine wpList_rowStore rfl 37 (.tmp 4) (.tmp 89) rfl _ 0 136 m.cell m.cell rfl rfl HR2.out (by omega) (fun i _ => cell_one m i) (fun i hi => by rw [if_pos ⟨by omega, by omega⟩, Nat.sub_zero]) (by kernel_rfl) ?_; intro w9 HZ2 hz2 hk2 hb2))
    exact bodyPost_ret (v := .agg m.cells) (resRow Tryz.results25 rfl HZ2 Tryz.underlying37 rfl (by kernel_rfl)) rfl ⟨m, rfl, ⟨k, n, p, false, HX.out, .inl ⟨rfl, rfl⟩⟩, hb2 _ _ HB2.out (by omega)⟩
  | true =>
    go_upto_region 17 with fail
    generalize (w2.alloc (.cells #[.int .i64 k, .int .i64 n, .int .i64 p] 71)) = W at *
    go_upto_region 18 with fail
    refine word_region (m := m) (k := k) (n := n) (p := p) (bM := w.heap.size) (bE := w2.heap.size) (R := R k n) hs HI2.out HO2.out.1.1 HO2.out.1.2.1 HO2.out.1.2.2 (by omega) hL1 (fun W => HV.out k n p HX.out W) ?_
    intro u82 u83 u84 u85 u86 u87 u88 m' w3 hR3 hM3 hB3 hk3
    have HS : Hid (MemAt w3 w.heap.size m') := hM3
    have HR3 : Hid (MemAt w3 (w.heap.size + 1) zeroM) := HR2.out.by (hk3 _ HR2.out.lt (by omega))
    have HB3 : Hid (Below w.heap.size w w3) := hB3 _ _ HB2.out (Nat.le_refl _)
    have HY : Hid (R k n m') := hR3
    clear HI2 HR2 HB2 hR3 hM3 hB3 hk3 HV
    go_wp2_with (first
      | refine wpList_rowLoad rfl 37 (.tmp 2) rfl _ 0 136 m'.cell rfl HS.out (by omega) (fun i _ => by rw [Nat.zero_add]) Tryz.underlying37 rfl (by kernel_rfl) ?_
      | (refine wpList_rowStore rfl 37 (.tmp 4) (.tmp 89) rfl _ 0 136 m'.cell m'.cell rfl rfl HR3.out (by omega) (fun i _ => cell_one m' i) (fun i hi => by rw [if_pos ⟨by omega, by omega⟩, Nat.sub_zero]) (by kernel_rfl) ?_; intro w9 HZ2 hz2 hk2 hb2))
    exact bodyPost_ret (v := .agg m'.cells) (resRow Tryz.results25 rfl HZ2 Tryz.underlying37 rfl (by kernel_rfl)) rfl ⟨m', rfl, ⟨k, n, p, true, HX.out, .inr ⟨rfl, HY.out⟩⟩, hb2 _ _ HB3.out (by omega)⟩
set_option maxHeartbeats 2000000 in
set_option maxRecDepth 20000 in
theorem word_dev4 (m : Mm) (s : ByteArray) (a : List UInt8) (b3 : ((s.extract 0 4).toList == [116, 105, 109, 101]) = false) (R : Int → Int → Mm → Prop) (w : World) (h1 : ∀ W, Calls Tryz.prog 58 #[.string s, .int .u8 61] W fun e w' => e = .returned (.int .i64 4) ∧ w' = W) (b1 : (s.toList == [114, 97, 110]) = false) (b2 : (s.toList == [102, 97, 117, 108, 116]) = false) (hL1 : 4 + 1 ≤ s.size) (hs : s.size ≤ 6000)
    (h2 : ∀ W, Calls Tryz.prog 60 #[.string (s.extract 0 4)] W (Read a W)) (h3 : ∀ k n p, RdOk a k n p true → ∀ W, Calls Tryz.prog 61 #[m.val, .agg #[.int .i64 k, .int .i64 n, .int .i64 p], .string (s.extract (4 + 1) s.size)] W fun e w' => ∃ m' : Mm, e = .returned m'.val ∧ R k n m' ∧ Below W.heap.size W w') :
    Calls Tryz.prog 25 #[m.val, .string s] w (DevP m a R w) := by
  have hz : ∀ w, (zeroValue 37).run Tryz.prog w = .ok (.agg zeroM.cells) w := fun _ => by kernel_rfl
  have HF : Hid (∀ W, Calls Tryz.prog 58 #[.string s, .int .u8 61] W fun e w' => e = .returned (.int .i64 4) ∧ w' = W) := h1
  have HD : Hid (∀ W, Calls Tryz.prog 60 #[.string (s.extract 0 4)] W (Read a W)) := h2
  have HV : Hid (∀ k n p, RdOk a k n p true → ∀ W, Calls Tryz.prog 61 #[m.val, .agg #[.int .i64 k, .int .i64 n, .int .i64 p], .string (s.extract (4 + 1) s.size)] W fun e w' => ∃ m' : Mm, e = .returned m'.val ∧ R k n m' ∧ Below W.heap.size W w') := h3
  have hLs : 4 ≤ s.size := by omega
  clear h1 h2 h3
  have hval : ∀ x : Mm, x.val = .agg x.cells := fun _ => rfl
  rw [hval m]
  go_enter Tryz.func25, Tryz.ntmps25
  go_upto_region 1 with fail
  have HB : Hid (Below w.heap.size w ((w.alloc (.cells m.cells 37)).alloc (.cells zeroM.cells 37))) := ((Below.refl _ _).alloc (Nat.le_refl _) _).alloc (by simp) _
  have HI : Hid (MemAt ((w.alloc (.cells m.cells 37)).alloc (.cells zeroM.cells 37)) w.heap.size m) := (RowAt.new w 37 136 m.cell).alloc _
  have HR : Hid (MemAt ((w.alloc (.cells m.cells 37)).alloc (.cells zeroM.cells 37)) (w.heap.size + 1) zeroM) := by
    have := RowAt.new (w.alloc (.cells m.cells 37)) 37 136 zeroM.cell
    rw [show (w.alloc (.cells m.cells 37)).heap.size = w.heap.size + 1 by simp] at this
    exact this
  generalize ((w.alloc (.cells m.cells 37)).alloc (.cells zeroM.cells 37)) = V at *
  clear hz
  go_wp2_with fail
  refine (HF.out _).mono ?_
  rintro e w1 ⟨rfl, rfl⟩
  clear HF
  go_wp2_with fail
  refine (HD.out _).mono ?_
  rintro e w2 ⟨k, n, p, b, rfl, hr, hb⟩
  have HX : Hid (RdOk a k n p b) := hr
  have hI2 : MemAt w2 w.heap.size m := HI.out.to hb
  have hR2 : MemAt w2 (w.heap.size + 1) zeroM := HR.out.to hb
  have hB2 : Below w.heap.size w w2 := HB.out.trans (hb.mono HB.out.size)
  have hlt := hR2.lt
  have HI2 : Hid (MemAt (w2.alloc (.cells #[.int .i64 k, .int .i64 n, .int .i64 p] 71)) w.heap.size m) := hI2.to (argW_below w2 k n p)
  have HR2 : Hid (MemAt (w2.alloc (.cells #[.int .i64 k, .int .i64 n, .int .i64 p] 71)) (w.heap.size + 1) zeroM) := hR2.to (argW_below w2 k n p)
  have HB2 : Hid (Below w.heap.size w (w2.alloc (.cells #[.int .i64 k, .int .i64 n, .int .i64 p] 71))) := hB2.trans ((argW_below w2 k n p).mono hB2.size)
  have HO2 : Hid (Own (w2.alloc (.cells #[.int .i64 k, .int .i64 n, .int .i64 p] 71)) w2.heap.size (.int .i64 k) (.int .i64 n) (.int .i64 p)) := argW_own w2 k n p
  clear hr hI2 hR2 hB2 hb HI HR HB HD
  cases b with
  | false =>
    go_upto_region 17 with fail
    generalize (w2.alloc (.cells #[.int .i64 k, .int .i64 n, .int .i64 p] 71)) = W at *
    go_wp2_with (first
      | refine wpList_rowLoad rfl 37 (.tmp 2) rfl _ 0 136 m.cell rfl HI2.out (by omega) (fun i _ => by rw [Nat.zero_add]) Tryz.underlying37 rfl (by kernel_rfl) ?_
      | (refine wpList_rowStore rfl 37 (.tmp 4) (.tmp 89) rfl _ 0 136 m.cell m.cell rfl rfl HR2.out (by omega) (fun i _ => cell_one m i) (fun i hi => by rw [if_pos ⟨by omega, by omega⟩, Nat.sub_zero]) (by kernel_rfl) ?_; intro w9 HZ2 hz2 hk2 hb2))
    exact bodyPost_ret (v := .agg m.cells) (resRow Tryz.results25 rfl HZ2 Tryz.underlying37 rfl (by kernel_rfl)) rfl ⟨m, rfl, ⟨k, n, p, false, HX.out, .inl ⟨rfl, rfl⟩⟩, hb2 _ _ HB2.out (by omega)⟩
  | true =>
    go_upto_region 17 with fail
    generalize (w2.alloc (.cells #[.int .i64 k, .int .i64 n, .int .i64 p] 71)) = W at *
    go_upto_region 18 with fail
    refine word_region (m := m) (k := k) (n := n) (p := p) (bM := w.heap.size) (bE := w2.heap.size) (R := R k n) hs HI2.out HO2.out.1.1 HO2.out.1.2.1 HO2.out.1.2.2 (by omega) hL1 (fun W => HV.out k n p HX.out W) ?_
    intro u82 u83 u84 u85 u86 u87 u88 m' w3 hR3 hM3 hB3 hk3
    have HS : Hid (MemAt w3 w.heap.size m') := hM3
    have HR3 : Hid (MemAt w3 (w.heap.size + 1) zeroM) := HR2.out.by (hk3 _ HR2.out.lt (by omega))
    have HB3 : Hid (Below w.heap.size w w3) := hB3 _ _ HB2.out (Nat.le_refl _)
    have HY : Hid (R k n m') := hR3
    clear HI2 HR2 HB2 hR3 hM3 hB3 hk3 HV
    go_wp2_with (first
      | refine wpList_rowLoad rfl 37 (.tmp 2) rfl _ 0 136 m'.cell rfl HS.out (by omega) (fun i _ => by rw [Nat.zero_add]) Tryz.underlying37 rfl (by kernel_rfl) ?_
      | (refine wpList_rowStore rfl 37 (.tmp 4) (.tmp 89) rfl _ 0 136 m'.cell m'.cell rfl rfl HR3.out (by omega) (fun i _ => cell_one m' i) (fun i hi => by rw [if_pos ⟨by omega, by omega⟩, Nat.sub_zero]) (by kernel_rfl) ?_; intro w9 HZ2 hz2 hk2 hb2))
    exact bodyPost_ret (v := .agg m'.cells) (resRow Tryz.results25 rfl HZ2 Tryz.underlying37 rfl (by kernel_rfl)) rfl ⟨m', rfl, ⟨k, n, p, true, HX.out, .inr ⟨rfl, HY.out⟩⟩, hb2 _ _ HB3.out (by omega)⟩
theorem sword_dev (m : Mm) (hm : m.Ok) (a r : List UInt8) (h61 : (61 : UInt8) ∉ a) (h0 : a ≠ []) (hne : a ≠ timeN) (w : World) (ht : (a ++ 61 :: r).length ≤ 6000) :
    Calls Tryz.prog 25 #[m.val, .string ⟨(a ++ 61 :: r).toArray⟩] w fun e w' => ∃ m' : Mm, e = .returned m'.val ∧ m'.Ok ∧ Res m (a ++ 61 :: r) m' ∧ Below w.heap.size w w' := by
  have hlen : (a ++ 61 :: r).length = a.length + 1 + r.length := by rw [List.length_append, List.length_cons]; omega
  have hsz := ba_size (a ++ 61 :: r)
  have hmem : (61 : UInt8) ∈ a ++ 61 :: r := by simp
  have b1 : ((⟨(a ++ 61 :: r).toArray⟩ : ByteArray).toList == [114, 97, 110]) = false := by
    rw [ba_list, beq_eq_false_iff_ne]
    exact fun e => absurd (e ▸ hmem) (by decide)
  have b2 : ((⟨(a ++ 61 :: r).toArray⟩ : ByteArray).toList == [102, 97, 117, 108, 116]) = false := by
    rw [ba_list, beq_eq_false_iff_ne]
    exact fun e => absurd (e ▸ hmem) (by decide)
  have hxa : (⟨(a ++ 61 :: r).toArray⟩ : ByteArray).extract 0 a.length = ⟨a.toArray⟩ := ba_ext (by rw [ext_toG]; simp)
  have hxr : (⟨(a ++ 61 :: r).toArray⟩ : ByteArray).extract (a.length + 1) (⟨(a ++ 61 :: r).toArray⟩ : ByteArray).size = ⟨r.toArray⟩ := ba_ext (by rw [ext_allG]; simp)
  have h1 : ∀ W, Calls Tryz.prog 58 #[.string ⟨(a ++ 61 :: r).toArray⟩, .int .u8 61] W fun e w' => e = .returned (.int .i64 (a.length : Int)) ∧ w' = W := fun W => findQ_at h61 ht W
  have h2 : ∀ W, Calls Tryz.prog 60 #[.string ((⟨(a ++ 61 :: r).toArray⟩ : ByteArray).extract 0 a.length)] W (Read a W) := fun W => by
    rw [hxa]
    have h := sread_any ⟨a.toArray⟩ W (by rw [ba_size]; omega)
    simpa using h
  have h3 : ∀ k n p, RdOk a k n p true → ∀ W, Calls Tryz.prog 61 #[m.val, .agg #[.int .i64 k, .int .i64 n, .int .i64 p], .string ((⟨(a ++ 61 :: r).toArray⟩ : ByteArray).extract (a.length + 1) (⟨(a ++ 61 :: r).toArray⟩ : ByteArray).size)] W fun e w' => ∃ m' : Mm, e = .returned m'.val ∧ (m'.Ok ∧ (7 ≤ k → k ≤ 10 → VRes m k n.toNat r m')) ∧ Below W.heap.size W w' := fun k n p hr W => by
    rw [hxr]
    exact (sval_any m hm k n p (rd_range hr) r W (by omega)).mono fun _ _ ⟨m', h1, h2, h3, h4⟩ => ⟨m', h1, ⟨h2, h3⟩, h4⟩
  have fin : ∀ e w', DevP m a (fun k n m' => m'.Ok ∧ (7 ≤ k → k ≤ 10 → VRes m k n.toNat r m')) w e w' → ∃ m' : Mm, e = .returned m'.val ∧ m'.Ok ∧ Res m (a ++ 61 :: r) m' ∧ Below w.heap.size w w' := by
    rintro e w' ⟨m', he, ⟨k, n, p, b, hr, ⟨rfl, rfl⟩ | ⟨rfl, hok, hv⟩⟩, hb⟩
    · refine ⟨m', he, hm, res_dev h61 hne hr (fun g1 _ => ?_), hb⟩
      rcases hr with ⟨h, -⟩ | ⟨-, h, -⟩
      · cases h
      · omega
    · exact ⟨m', he, hok, res_dev h61 hne hr hv, hb⟩
  have hL : 0 < a.length := List.length_pos_iff.2 h0
  by_cases h4 : a.length = 4
  · have b3 : (((⟨(a ++ 61 :: r).toArray⟩ : ByteArray).extract 0 4).toList == [116, 105, 109, 101]) = false := by
      rw [ByteArray.toList_eq, ext_toG, beq_eq_false_iff_ne]
      intro e
      rw [← h4] at e
      exact hne (by simpa [timeN] using e)
    rw [h4] at h1 h2 h3
    exact (word_dev4 m _ a b3 _ w h1 b1 b2 (by omega) (by omega) h2 h3).mono fin
  · exact (word_dev m _ a a.length (by rw [beq_eq_false_iff_ne]; omega) (by omega) _ w h1 b1 b2 (by omega) (by omega) h2 h3).mono fin
end Go.Proofs.YtjacgamgjjpllaaGreatDoor
