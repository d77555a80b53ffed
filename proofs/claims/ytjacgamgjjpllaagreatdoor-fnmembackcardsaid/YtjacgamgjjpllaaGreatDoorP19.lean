/- The document's l4Word at a word without a value, and at any word. Helper text: no statement is claimed here. -/
import Derived.Test.YtjacgamgjjpllaaGreatDoorP18
namespace Go.Proofs.YtjacgamgjjpllaaGreatDoor
open Go.ChangeShapes Go.WideShapes Go.ChangeAt Go.RowKit Fl

theorem turn_ok {m : Mm} (h : m.Ok) (k n : Int) (b : Bool) : (m.turn k n b).Ok := by
  by_cases hk : k = 1
  · subst hk
    rw [turn_x]
    have hp : (plc 1 n).toNat < 32 := by
      have q := plc_range 1 n
      rw [show sz4 1 = 32 from rfl] at q
      omega
    exact ⟨putN_lt (n := 32) b hp h.hx, h.hy, h.hm, h.hs, h.he, h.htc, h.hcc, h.hd, h.hr, h.htime⟩
  · have := putB_ok (k := k) (n := n) (b := b) h
    rwa [show m.putB k n b = m.turn k n b from if_neg hk] at this
/-- What comes of a bare word. -/
def BareP (m : Mm) (a : List UInt8) (w : World) (e : Ending) (w' : World) : Prop :=
  ∃ m' : Mm, e = .returned m'.val ∧ (∃ k n p b, RdOk a k n p b ∧ ((b = false ∧ m' = m) ∨ (b = true ∧ m' = m.turn k n true))) ∧ Below w.heap.size w w'
set_option maxHeartbeats 2000000 in
set_option maxRecDepth 20000 in
theorem word_bare (m : Mm) (hm : m.Ok) (s : ByteArray) (a : List UInt8) (w : World) (h1 : ∀ W, Calls Tryz.prog 58 #[.string s, .int .u8 61] W fun e w' => e = .returned (.int .i64 (-1)) ∧ w' = W) (b1 : (s.toList == [114, 97, 110]) = false) (b2 : (s.toList == [102, 97, 117, 108, 116]) = false)
    (h2 : ∀ W, Calls Tryz.prog 60 #[.string s] W (Read a W)) :
    Calls Tryz.prog 25 #[m.val, .string s] w (BareP m a w) := by
  have hz : ∀ w, (zeroValue 37).run Tryz.prog w = .ok (.agg zeroM.cells) w := fun _ => by kernel_rfl
  have HF : Hid (∀ W, Calls Tryz.prog 58 #[.string s, .int .u8 61] W fun e w' => e = .returned (.int .i64 (-1)) ∧ w' = W) := h1
  have HD : Hid (∀ W, Calls Tryz.prog 60 #[.string s] W (Read a W)) := h2
  clear h1 h2
  have hval : ∀ x : Mm, x.val = .agg x.cells := fun _ => rfl
  rw [hval m]
  go_enter Tryz.func25, Tryz.ntmps25
  go_upto_region 1 with fail
  have HB : Hid (Below w.heap.size w ((w.alloc (.cells m.cells 37)).alloc (.cells zeroM.cells 37))) := ((Below.refl _ _).alloc (Nat.le_refl _) _).alloc (by simp) _
  have HI : Hid (MemAt ((w.alloc (.cells m.cells 37)).alloc (.cells zeroM.cells 37)) w.heap.size m) := (RowAt.new w 37 136 m.cell).alloc _
  have HR : Hid (MemAt ((w.alloc (.cells m.cells 37)).alloc (.cells zeroM.cells 37)) (w.heap.size + 1) zeroM) := by
    have := RowAt.new (w.alloc (.cells m.cells 37)) 37 136 zeroM.cell
    rw [show (w.alloc (.cells m.cells 37)).heap.size = w.heap.size + 1 by simp] at this
    exact this
  generalize ((w.alloc (.cells m.cells 37)).alloc (.cells zeroM.cells 37)) = V at *
  clear hz
  go_wp2_with fail
  refine (HF.out _).mono ?_
  rintro e w1 ⟨rfl, rfl⟩
  clear HF
  go_wp2_with fail
  refine (HD.out _).mono ?_
  rintro e w2 ⟨k, n, p, b, rfl, hr, hb⟩
  have HX : Hid (RdOk a k n p b) := hr
  have hI2 : MemAt w2 w.heap.size m := HI.out.to hb
  have hR2 : MemAt w2 (w.heap.size + 1) zeroM := HR.out.to hb
  have hB2 : Below w.heap.size w w2 := HB.out.trans (hb.mono HB.out.size)
  have hlt := hR2.lt
  have HI2 : Hid (MemAt (w2.alloc (.cells #[.int .i64 k, .int .i64 n, .int .i64 p] 71)) w.heap.size m) := hI2.to (argW_below w2 k n p)
  have HR2 : Hid (MemAt (w2.alloc (.cells #[.int .i64 k, .int .i64 n, .int .i64 p] 71)) (w.heap.size + 1) zeroM) := hR2.to (argW_below w2 k n p)
  have HB2 : Hid (Below w.heap.size w (w2.alloc (.cells #[.int .i64 k, .int .i64 n, .int .i64 p] 71))) := hB2.trans ((argW_below w2 k n p).mono hB2.size)
  have hO2 : Own (w2.alloc (.cells #[.int .i64 k, .int .i64 n, .int .i64 p] 71)) w2.heap.size (.int .i64 k) (.int .i64 n) (.int .i64 p) := argW_own w2 k n p
  obtain ⟨⟨o0, o1, o2⟩, -⟩ := hO2
  clear hI2 hR2 hB2 hb HI HR HB HD
  cases b with
  | false =>
    clear hr
    go_upto_region 3 with fail
    generalize (w2.alloc (.cells #[.int .i64 k, .int .i64 n, .int .i64 p] 71)) = W at *
    go_wp2_with (first
      | refine wpList_rowLoad rfl 37 (.tmp 2) rfl _ 0 136 m.cell rfl HI2.out (by omega) (fun i _ => by rw [Nat.zero_add]) Tryz.underlying37 rfl (by kernel_rfl) ?_
      | (refine wpList_rowStore rfl 37 (.tmp 4) (.tmp 89) rfl _ 0 136 m.cell m.cell rfl rfl HR2.out (by omega) (fun i _ => cell_one m i) (fun i hi => by rw [if_pos ⟨by omega, by omega⟩, Nat.sub_zero]) (by kernel_rfl) ?_; intro w9 HZ2 hz2 hk2 hb2))
    exact bodyPost_ret (v := .agg m.cells) (resRow Tryz.results25 rfl HZ2 Tryz.underlying37 rfl (by kernel_rfl)) rfl ⟨m, rfl, ⟨k, n, p, false, HX.out, .inl ⟨rfl, rfl⟩⟩, hb2 _ _ HB2.out (by omega)⟩
  | true =>
    by_cases hk : k = 1
    · subst hk
      have hn : 0 ≤ n ∧ n < 32 := by
        rcases hr with ⟨-, hok, -⟩ | ⟨h, -⟩
        · rw [okB_dev 1 n p (by omega) (by omega) (by omega), show rN (kz 1) = 32 from rfl] at hok
          simp at hok
          omega
        · cases h
      obtain ⟨j, rfl⟩ := Int.eq_ofNat_of_zero_le hn.1
      have hj : j < 32 := by omega
      have hpj : (plc 1 (j : Int)).toNat = j := by
        unfold plc sz4
        rw [if_neg (show ¬ (1 : Int) = 6 by omega), show rN (kz 1) = 32 from rfl, if_neg (by omega), Int.emod_eq_of_lt (by omega) (by omega)]
        omega
      have hX : m.x < 4294967296 := hm.hx
      have HC : Hid (∀ i, i < 136 → (if i = 0 then Value.int .u32 ((putN m.x j true : Nat) : Int) else m.cell i) = (m.turn 1 (j : Int) true).cell i) := fun i _ => by
        rw [turn_x, hpj]
        exact set_x m _ i
      have HQl : putN m.x j true < 4294967296 := putN_lt (n := 32) true hj hX
      have HQ : Hid (∀ W, Calls Tryz.prog 62 #[.int .u64 (m.x : Nat), .int .i64 j, .bool true] W fun e w' => e = .returned (.int .u64 (putN m.x j true : Nat)) ∧ w' = W) := fun W => sturn_any m.x j true W (by omega) (by omega)
      have wx1 : IntKind.u64.wrap (m.x : Int) = (m.x : Int) := wrap_u64n _ (by omega)
      have wx2 : IntKind.u32.wrap ((putN m.x j true : Nat) : Int) = ((putN m.x j true : Nat) : Int) := wrap_u32n _ HQl
      clear hr hn hpj HQl hX
      go_upto_region 3 with fail
      generalize (w2.alloc (.cells #[.int .i64 1, .int .i64 (j : Int), .int .i64 p] 71)) = W at *
      have c0 : W.cell? ⟨w.heap.size, 0, none⟩ = some (.int .u32 (m.x : Int)) := (HI2.out.cell (i := 0) (by omega)).trans rfl
      generalize hxx : m.x = xx at *
      generalize putN xx j true = q at *
      generalize hmm : m.turn 1 (j : Int) true = m' at *
      go_wp2_with fail
      refine (HQ.out _).mono ?_
      rintro e w3 ⟨rfl, rfl⟩
      have f0 := HI2.out.frozen 0
      have HS : Hid (MemAt (w3.setCell ⟨w.heap.size, 0, none⟩ (.int .u32 (q : Int))) w.heap.size m') := (HI2.out.set 0 (.int .u32 (q : Int))).ext HC.out
      have HR3 : Hid (MemAt (w3.setCell ⟨w.heap.size, 0, none⟩ (.int .u32 (q : Int))) (w.heap.size + 1) zeroM) := HR2.out.other _ (by omega)
      have HB3 : Hid (Below w.heap.size w (w3.setCell ⟨w.heap.size, 0, none⟩ (.int .u32 (q : Int)))) := HB2.out.setCell (p := ⟨_, _, none⟩) (Nat.le_refl _) _
      clear HI2 HR2 HB2 HC HQ o0 o1 o2
      go_wp2_with (first
        | refine wpList_rowLoad rfl 37 (.tmp 2) rfl _ 0 136 m'.cell rfl HS.out (by omega) (fun i _ => by rw [Nat.zero_add]) Tryz.underlying37 rfl (by kernel_rfl) ?_
        | (refine wpList_rowStore rfl 37 (.tmp 4) (.tmp 89) rfl _ 0 136 m'.cell m'.cell rfl rfl HR3.out (by omega) (fun i _ => cell_one m' i) (fun i hi => by rw [if_pos ⟨by omega, by omega⟩, Nat.sub_zero]) (by kernel_rfl) ?_; intro w9 HZ2 hz2 hk2 hb2))
      exact bodyPost_ret (v := .agg m'.cells) (resRow Tryz.results25 rfl HZ2 Tryz.underlying37 rfl (by kernel_rfl)) rfl ⟨m', rfl, ⟨1, (j : Int), p, true, HX.out, .inr ⟨rfl, hmm.symm⟩⟩, hb2 _ _ HB3.out (by omega)⟩
    · have k1 : (k == 1) = false := by simpa using hk
      have HP : Hid (∀ W, Calls Tryz.prog 63 #[.agg m.cells, .agg #[.int .i64 k, .int .i64 n, .int .i64 p], .bool true] W fun e w' => e = .returned (.agg (m.turn k n true).cells) ∧ Below W.heap.size W w') := fun W => by
        have h := sPut_any m hm k n p true W
        rw [show m.putB k n true = m.turn k n true from if_neg hk] at h
        exact h
      clear hr
      go_upto_region 3 with fail
      generalize (w2.alloc (.cells #[.int .i64 k, .int .i64 n, .int .i64 p] 71)) = W at *
      generalize hmm : m.turn k n true = m' at *
      go_wp2_with (refine wpList_rowLoad rfl 37 (.tmp 2) rfl _ 0 136 m.cell rfl HI2.out (by omega) (fun i _ => by rw [Nat.zero_add]) Tryz.underlying37 rfl (by kernel_rfl) ?_)
      refine (HP.out _).mono ?_
      rintro e w3 ⟨rfl, hb3⟩
      have HI3 : Hid (MemAt w3 w.heap.size m) := HI2.out.to hb3
      have HR3 : Hid (MemAt w3 (w.heap.size + 1) zeroM) := HR2.out.to hb3
      have HB3 : Hid (Below w.heap.size w w3) := HB2.out.trans (hb3.mono HB2.out.size)
      clear HI2 HR2 HB2 HP o0 o1 o2 hb3
      go_wp2_with (first
        | (refine wpList_rowStore rfl 37 (.tmp 2) (.tmp 36) rfl _ 0 136 m'.cell m'.cell rfl rfl HI3.out (by omega) (fun i _ => cell_one m' i) (fun i hi => by rw [if_pos ⟨by omega, by omega⟩, Nat.sub_zero]) (by kernel_rfl) ?_
           intro w4 HZ4 hz4 hk4 hb4
           have HS : Hid (MemAt w4 w.heap.size m') := HZ4
           have HR4 : Hid (MemAt w4 (w.heap.size + 1) zeroM) := HR3.out.by (hk4 _ (by omega))
           have HB4 : Hid (Below w.heap.size w w4) := hb4 _ _ HB3.out (Nat.le_refl _)
           clear HI3 HR3 HB3 HZ4 hk4 hb4)
        | refine wpList_rowLoad rfl 37 (.tmp 2) rfl _ 0 136 m'.cell rfl HS.out (by omega) (fun i _ => by rw [Nat.zero_add]) Tryz.underlying37 rfl (by kernel_rfl) ?_
        | (refine wpList_rowStore rfl 37 (.tmp 4) (.tmp 89) rfl _ 0 136 m'.cell m'.cell rfl rfl HR4.out (by omega) (fun i _ => cell_one m' i) (fun i hi => by rw [if_pos ⟨by omega, by omega⟩, Nat.sub_zero]) (by kernel_rfl) ?_; intro w9 HZ2 hz2 hk2 hb2))
      exact bodyPost_ret (v := .agg m'.cells) (resRow Tryz.results25 rfl HZ2 Tryz.underlying37 rfl (by kernel_rfl)) rfl ⟨m', rfl, ⟨k, n, p, true, HX.out, .inr ⟨rfl, hmm.symm⟩⟩, hb2 _ _ HB4.out (by omega)⟩
set_option maxHeartbeats 2000000 in
set_option maxRecDepth 20000 in
theorem word_bare0 (m : Mm) (hm : m.Ok) (s : ByteArray) (a : List UInt8) (w : World) (h1 : ∀ W, Calls Tryz.prog 58 #[.string s, .int .u8 61] W fun e w' => e = .returned (.int .i64 0) ∧ w' = W) (b1 : (s.toList == [114, 97, 110]) = false) (b2 : (s.toList == [102, 97, 117, 108, 116]) = false)
    (h2 : ∀ W, Calls Tryz.prog 60 #[.string s] W (Read a W)) :
    Calls Tryz.prog 25 #[m.val, .string s] w (BareP m a w) := by
  have hz : ∀ w, (zeroValue 37).run Tryz.prog w = .ok (.agg zeroM.cells) w := fun _ => by kernel_rfl
  have HF : Hid (∀ W, Calls Tryz.prog 58 #[.string s, .int .u8 61] W fun e w' => e = .returned (.int .i64 0) ∧ w' = W) := h1
  have HD : Hid (∀ W, Calls Tryz.prog 60 #[.string s] W (Read a W)) := h2
  clear h1 h2
  have hval : ∀ x : Mm, x.val = .agg x.cells := fun _ => rfl
  rw [hval m]
  go_enter Tryz.func25, Tryz.ntmps25
  go_upto_region 1 with fail
  have HB : Hid (Below w.heap.size w ((w.alloc (.cells m.cells 37)).alloc (.cells zeroM.cells 37))) := ((Below.refl _ _).alloc (Nat.le_refl _) _).alloc (by simp) _
  have HI : Hid (MemAt ((w.alloc (.cells m.cells 37)).alloc (.cells zeroM.cells 37)) w.heap.size m) := (RowAt.new w 37 136 m.cell).alloc _
  have HR : Hid (MemAt ((w.alloc (.cells m.cells 37)).alloc (.cells zeroM.cells 37)) (w.heap.size + 1) zeroM) := by
    have := RowAt.new (w.alloc (.cells m.cells 37)) 37 136 zeroM.cell
    rw [show (w.alloc (.cells m.cells 37)).heap.size = w.heap.size + 1 by simp] at this
    exact this
  generalize ((w.alloc (.cells m.cells 37)).alloc (.cells zeroM.cells 37)) = V at *
  clear hz
  go_wp2_with fail
  refine (HF.out _).mono ?_
  rintro e w1 ⟨rfl, rfl⟩
  clear HF
  go_wp2_with fail
  refine (HD.out _).mono ?_
  rintro e w2 ⟨k, n, p, b, rfl, hr, hb⟩
  have HX : Hid (RdOk a k n p b) := hr
  have hI2 : MemAt w2 w.heap.size m := HI.out.to hb
  have hR2 : MemAt w2 (w.heap.size + 1) zeroM := HR.out.to hb
  have hB2 : Below w.heap.size w w2 := HB.out.trans (hb.mono HB.out.size)
  have hlt := hR2.lt
  have HI2 : Hid (MemAt (w2.alloc (.cells #[.int .i64 k, .int .i64 n, .int .i64 p] 71)) w.heap.size m) := hI2.to (argW_below w2 k n p)
  have HR2 : Hid (MemAt (w2.alloc (.cells #[.int .i64 k, .int .i64 n, .int .i64 p] 71)) (w.heap.size + 1) zeroM) := hR2.to (argW_below w2 k n p)
  have HB2 : Hid (Below w.heap.size w (w2.alloc (.cells #[.int .i64 k, .int .i64 n, .int .i64 p] 71))) := hB2.trans ((argW_below w2 k n p).mono hB2.size)
  have hO2 : Own (w2.alloc (.cells #[.int .i64 k, .int .i64 n, .int .i64 p] 71)) w2.heap.size (.int .i64 k) (.int .i64 n) (.int .i64 p) := argW_own w2 k n p
  obtain ⟨⟨o0, o1, o2⟩, -⟩ := hO2
  clear hI2 hR2 hB2 hb HI HR HB HD
  cases b with
  | false =>
    clear hr
    go_upto_region 3 with fail
    generalize (w2.alloc (.cells #[.int .i64 k, .int .i64 n, .int .i64 p] 71)) = W at *
    go_wp2_with (first
      | refine wpList_rowLoad rfl 37 (.tmp 2) rfl _ 0 136 m.cell rfl HI2.out (by omega) (fun i _ => by rw [Nat.zero_add]) Tryz.underlying37 rfl (by kernel_rfl) ?_
      | (refine wpList_rowStore rfl 37 (.tmp 4) (.tmp 89) rfl _ 0 136 m.cell m.cell rfl rfl HR2.out (by omega) (fun i _ => cell_one m i) (fun i hi => by rw [if_pos ⟨by omega, by omega⟩, Nat.sub_zero]) (by kernel_rfl) ?_; intro w9 HZ2 hz2 hk2 hb2))
    exact bodyPost_ret (v := .agg m.cells) (resRow Tryz.results25 rfl HZ2 Tryz.underlying37 rfl (by kernel_rfl)) rfl ⟨m, rfl, ⟨k, n, p, false, HX.out, .inl ⟨rfl, rfl⟩⟩, hb2 _ _ HB2.out (by omega)⟩
  | true =>
    by_cases hk : k = 1
    · subst hk
      have hn : 0 ≤ n ∧ n < 32 := by
        rcases hr with ⟨-, hok, -⟩ | ⟨h, -⟩
        · rw [okB_dev 1 n p (by omega) (by omega) (by omega), show rN (kz 1) = 32 from rfl] at hok
          simp at hok
          omega
        · cases h
      obtain ⟨j, rfl⟩ := Int.eq_ofNat_of_zero_le hn.1
      have hj : j < 32 := by omega
      have hpj : (plc 1 (j : Int)).toNat = j := by
        unfold plc sz4
        rw [if_neg (show ¬ (1 : Int) = 6 by omega), show rN (kz 1) = 32 from rfl, if_neg (by omega), Int.emod_eq_of_lt (by omega) (by omega)]
        omega
      have hX : m.x < 4294967296 := hm.hx
      have HC : Hid (∀ i, i < 136 → (if i = 0 then Value.int .u32 ((putN m.x j true : Nat) : Int) else m.cell i) = (m.turn 1 (j : Int) true).cell i) := fun i _ => by
        rw [turn_x, hpj]
        exact set_x m _ i
      have HQl : putN m.x j true < 4294967296 := putN_lt (n := 32) true hj hX
      have HQ : Hid (∀ W, Calls Tryz.prog 62 #[.int .u64 (m.x : Nat), .int .i64 j, .bool true] W fun e w' => e = .returned (.int .u64 (putN m.x j true : Nat)) ∧ w' = W) := fun W => sturn_any m.x j true W (by omega) (by omega)
      have wx1 : IntKind.u64.wrap (m.x : Int) = (m.x : Int) := wrap_u64n _ (by omega)
      have wx2 : IntKind.u32.wrap ((putN m.x j true : Nat) : Int) = ((putN m.x j true : Nat) : Int) := wrap_u32n _ HQl
      clear hr hn hpj HQl hX
      go_upto_region 3 with fail
      generalize (w2.alloc (.cells #[.int .i64 1, .int .i64 (j : Int), .int .i64 p] 71)) = W at *
      have c0 : W.cell? ⟨w.heap.size, 0, none⟩ = some (.int .u32 (m.x : Int)) := (HI2.out.cell (i := 0) (by omega)).trans rfl
      generalize hxx : m.x = xx at *
      generalize putN xx j true = q at *
      generalize hmm : m.turn 1 (j : Int) true = m' at *
      go_wp2_with fail
      refine (HQ.out _).mono ?_
      rintro e w3 ⟨rfl, rfl⟩
      have f0 := HI2.out.frozen 0
      have HS : Hid (MemAt (w3.setCell ⟨w.heap.size, 0, none⟩ (.int .u32 (q : Int))) w.heap.size m') := (HI2.out.set 0 (.int .u32 (q : Int))).ext HC.out
      have HR3 : Hid (MemAt (w3.setCell ⟨w.heap.size, 0, none⟩ (.int .u32 (q : Int))) (w.heap.size + 1) zeroM) := HR2.out.other _ (by omega)
      have HB3 : Hid (Below w.heap.size w (w3.setCell ⟨w.heap.size, 0, none⟩ (.int .u32 (q : Int)))) := HB2.out.setCell (p := ⟨_, _, none⟩) (Nat.le_refl _) _
      clear HI2 HR2 HB2 HC HQ o0 o1 o2
      go_wp2_with (first
        | refine wpList_rowLoad rfl 37 (.tmp 2) rfl _ 0 136 m'.cell rfl HS.out (by omega) (fun i _ => by rw [Nat.zero_add]) Tryz.underlying37 rfl (by kernel_rfl) ?_
        | (refine wpList_rowStore rfl 37 (.tmp 4) (.tmp 89) rfl _ 0 136 m'.cell m'.cell rfl rfl HR3.out (by omega) (fun i _ => cell_one m' i) (fun i hi => by rw [if_pos ⟨by omega, by omega⟩, Nat.sub_zero]) (by kernel_rfl) ?_; intro w9 HZ2 hz2 hk2 hb2))
      exact bodyPost_ret (v := .agg m'.cells) (resRow Tryz.results25 rfl HZ2 Tryz.underlying37 rfl (by kernel_rfl)) rfl ⟨m', rfl, ⟨1, (j : Int), p, true, HX.out, .inr ⟨rfl, hmm.symm⟩⟩, hb2 _ _ HB3.out (by omega)⟩
    · have k1 : (k == 1) = false := by simpa using hk
      have HP : Hid (∀ W, Calls Tryz.prog 63 #[.agg m.cells, .agg #[.int .i64 k, .int .i64 n, .int .i64 p], .bool true] W fun e w' => e = .returned (.agg (m.turn k n true).cells) ∧ Below W.heap.size W w') := fun W => by
        have h := sPut_any m hm k n p true W
        rw [show m.putB k n true = m.turn k n true from if_neg hk] at h
        exact h
      clear hr
      go_upto_region 3 with fail
      generalize (w2.alloc (.cells #[.int .i64 k, .int .i64 n, .int .i64 p] 71)) = W at *
      generalize hmm : m.turn k n true = m' at *
      go_wp2_with (refine wpList_rowLoad rfl 37 (.tmp 2) rfl _ 0 136 m.cell rfl HI2.out (by omega) (fun i _ => by rw [Nat.zero_add]) Tryz.underlying37 rfl (by kernel_rfl) ?_)
      refine (HP.out _).mono ?_
      rintro e w3 ⟨rfl, hb3⟩
      have HI3 : Hid (MemAt w3 w.heap.size m) := HI2.out.to hb3
      have HR3 : Hid (MemAt w3 (w.heap.size + 1) zeroM) := HR2.out.to hb3
      have HB3 : Hid (Below w.heap.size w w3) := HB2.out.trans (hb3.mono HB2.out.size)
      clear HI2 HR2 HB2 HP o0 o1 o2 hb3
      go_wp2_with (first
        | (refine wpList_rowStore rfl 37 (.tmp 2) (.tmp 36) rfl _ 0 136 m'.cell m'.cell rfl rfl HI3.out (by omega) (fun i _ => cell_one m' i) (fun i hi => by rw [if_pos ⟨by omega, by omega⟩, Nat.sub_zero]) (by kernel_rfl) ?_
           intro w4 HZ4 hz4 hk4 hb4
           have HS : Hid (MemAt w4 w.heap.size m') := HZ4
           have HR4 : Hid (MemAt w4 (w.heap.size + 1) zeroM) := HR3.out.by (hk4 _ (by omega))
           have HB4 : Hid (Below w.heap.size w w4) := hb4 _ _ HB3.out (Nat.le_refl _)
           clear HI3 HR3 HB3 HZ4 hk4 hb4)
        | refine wpList_rowLoad rfl 37 (.tmp 2) rfl _ 0 136 m'.cell rfl HS.out (by omega) (fun i _ => by rw [Nat.zero_add]) Tryz.underlying37 rfl (by kernel_rfl) ?_
        | (refine wpList_rowStore rfl 37 (.tmp 4) (.tmp 89) rfl _ 0 136 m'.cell m'.cell rfl rfl HR4.out (by omega) (fun i _ => cell_one m' i) (fun i hi => by rw [if_pos ⟨by omega, by omega⟩, Nat.sub_zero]) (by kernel_rfl) ?_; intro w9 HZ2 hz2 hk2 hb2))
      exact bodyPost_ret (v := .agg m'.cells) (resRow Tryz.results25 rfl HZ2 Tryz.underlying37 rfl (by kernel_rfl)) rfl ⟨m', rfl, ⟨k, n, p, true, HX.out, .inr ⟨rfl, hmm.symm⟩⟩, hb2 _ _ HB4.out (by omega)⟩
/-- A step of the document's reading. -/
def WordP (m : Mm) (t : List UInt8) (w : World) (e : Ending) (w' : World) : Prop := ∃ m' : Mm, e = .returned m'.val ∧ m'.Ok ∧ Res m t m' ∧ Below w.heap.size w w'
theorem sword_bare (m : Mm) (hm : m.Ok) (t : List UInt8) (h : (61 : UInt8) ∉ t ∨ ∃ r, t = 61 :: r) (n1 : t ≠ ranT) (n2 : t ≠ faultT) (w : World) (ht : t.length ≤ 6000) : Calls Tryz.prog 25 #[m.val, .string ⟨t.toArray⟩] w (WordP m t w) := by
  have b1 : ((⟨t.toArray⟩ : ByteArray).toList == [114, 97, 110]) = false := by
    rw [ba_list, beq_eq_false_iff_ne]; exact n1
  have b2 : ((⟨t.toArray⟩ : ByteArray).toList == [102, 97, 117, 108, 116]) = false := by
    rw [ba_list, beq_eq_false_iff_ne]; exact n2
  have h2 : ∀ W, Calls Tryz.prog 60 #[.string ⟨t.toArray⟩] W (Read t W) := fun W => by
    have h := sread_any ⟨t.toArray⟩ W (by rw [ba_size]; omega)
    simpa using h
  have fin : ∀ (nm vl : List UInt8), Cutd t nm vl → (t = nm ++ 61 :: vl → nm = []) → ∀ e w', BareP m t w e w' → WordP m t w e w' := by
    rintro nm vl hc h0 e w' ⟨m', he, ⟨k, n, p, b, hr, ⟨rfl, rfl⟩ | ⟨rfl, rfl⟩⟩, hb⟩
    · refine ⟨m', he, hm, res_bare hc h0 n1 n2 hr (fun g1 _ => ?_) (fun _ => rfl), hb⟩
      rcases hr with ⟨h, -⟩ | ⟨-, h, -⟩
      · cases h
      · omega
    · exact ⟨_, he, turn_ok hm k n true, res_bare hc h0 n1 n2 hr (fun _ _ => rfl) (fun h => by cases h), hb⟩
  rcases h with h | ⟨r, rfl⟩
  · exact (word_bare m hm _ t w (fun W => findQ_no h ht W) b1 b2 h2).mono (fin t [] ⟨h, .inl ⟨rfl, rfl⟩⟩ (fun e => absurd (show (61 : UInt8) ∈ t by rw [e]; simp) h))
  · exact (word_bare0 m hm _ _ w (fun W => findQ_at (a := []) (r := r) (by simp) ht W) b1 b2 h2).mono (fin [] r ⟨by simp, .inr rfl⟩ (fun _ => rfl))
theorem sword_any (m : Mm) (hm : m.Ok) (t : List UInt8) (w : World) (ht : t.length ≤ 6000) : Calls Tryz.prog 25 #[m.val, .string ⟨t.toArray⟩] w (WordP m t w) := by
  by_cases n1 : t = ranT
  · subst n1; exact sword_ran m hm w
  by_cases n2 : t = faultT
  · subst n2; exact sword_fault m hm w
  rcases first_parts t 61 with h | ⟨a, r, rfl, h⟩
  · exact sword_bare m hm t (.inl h) n1 n2 w ht
  · by_cases h0 : a = []
    · subst h0; exact sword_bare m hm _ (.inr ⟨r, rfl⟩) n1 n2 w ht
    · by_cases hne : a = timeN
      · subst hne; exact sword_time m hm r w ht
      · exact sword_dev m hm a r h h0 hne w ht
end Go.Proofs.YtjacgamgjjpllaaGreatDoor

/- A word read: the drawn region of the document's MemRead. Helper text: no statement is claimed here. -/
namespace Go.Proofs.YtjacgamgjjpllaaGreatDoor
open Go.ChangeShapes Go.WideShapes Go.ChangeAt Go.RowKit Fl

theorem yields_strX {ops : Array Oper} {S : World → Prop} {op : Oper} {a : Act} {b o : Nat} {s : ByteArray} (hw : Region.wanted op (yielded ops a.tmps) = true) (x : Operand) (ho : op.op = .load 9 x) (hx : a.eval x = .pointer (some ⟨b, o, none⟩))
    (hS : ∀ w, S w → w.cell? ⟨b, o, none⟩ = some (.string s)) : YieldsIf Tryz.prog ops S op (.string s) a :=
  .inl ⟨hw, fun w h => by
    unfold execOp
    simp only [ho, hx, Instr.loadAt, Instr.sureAddr, Sem.run_bind, Sem.run_pure, Result.andThen_ok]
    simp [go_sem, hS w h]⟩
set_option maxHeartbeats 1000000 in
set_option maxRecDepth 100000 in
theorem read_region {id : Nat} {pos : String} {Q : Exit → Act → World → Prop} {V : World} {t0 t1 t2 t3 t7 t8 t9 t10 t11 t12 t13 t14 t15 t16 t17 t18 t19 t20 t21 t22 t23 t24 t25 t26 t27 t28 t29 t30 t31 : Value} {bM g len cap j : Nat} {s : ByteArray} {m : Mm} {D : List _} {R : Mm → Prop}
    (hM : MemAt V bM m) (h0 : V.cell? ⟨g, j, none⟩ = some (.string s)) (hne : g ≠ bM) (hj : j < len) (_hlen : len ≤ 10000)
    (hC : ∀ W, Calls Tryz.prog 25 #[m.val, .string s] W fun e w' => ∃ m' : Mm, e = .returned m'.val ∧ R m' ∧ Below W.heap.size W w')
    (hQ : ∀ (u20 u21 u22 u23 u24 u25 : Value) (m' : Mm) (w' : World), R m' → MemAt w' bM m' → (∀ B x, Below B x V → B ≤ bM → Below B x w') → (∀ b, b < V.heap.size → b ≠ bM → w'.heap[b]? = V.heap[b]?) → Q .normal { tmps := #[t0, t1, t2, t3, .pointer (some ⟨bM, 0, none⟩), .slice (some ⟨g, 0, none⟩) len cap, .int .i64 (j : Int), t7, t8, t9, t10, t11, t12, t13, t14, t15, t16, t17, t18, t19, u20, u21, u22, u23, u24, u25, t26, t27, t28, t29, t30, t31], defers := D } w') :
    (Code.region id #[{ dst := some 20, op := .load 37 (.tmp 4), type := 37, pos := pos, after := #[], guard := none }, { dst := some 21, op := .move (.tmp 5), type := 49, pos := pos, after := #[], guard := none }, { dst := some 22, op := .move (.tmp 6), type := 3, pos := pos, after := #[], guard := none }, { dst := some 23, op := .indexAddr 49 (.tmp 21) (.tmp 22), type := 0, pos := pos, after := #[{ on := 1, ground := .data }, { on := 2, ground := .data }], guard := none }, { dst := some 24, op := .load 9 (.tmp 23), type := 9, pos := pos, after := #[{ on := 3, ground := .data }], guard := none }, { dst := some 25, op := .call { callee := .value (.func 25), args := #[.tmp 20, .tmp 24], argTypes := #[37, 9] }, type := 37, pos := pos, after := #[{ on := 0, ground := .data }, { on := 4, ground := .data }], guard := none }, { dst := none, op := .store 37 (.tmp 4) (.tmp 25), type := 0, pos := pos, after := #[{ on := 5, ground := .data }, { on := 5, ground := .chain }, { on := 0, ground := .phase }, { on := 1, ground := .phase }, { on := 2, ground := .phase }, { on := 3, ground := .phase }, { on := 4, ground := .phase }, { on := 5, ground := .phase }], guard := none }] true).wp Tryz.prog Q { tmps := #[t0, t1, t2, t3, .pointer (some ⟨bM, 0, none⟩), .slice (some ⟨g, 0, none⟩) len cap, .int .i64 (j : Int), t7, t8, t9, t10, t11, t12, t13, t14, t15, t16, t17, t18, t19, t20, t21, t22, t23, t24, t25, t26, t27, t28, t29, t30, t31], defers := D } V := by
  have hj' : (j : Int) < (len : Int) := by omega
  refine wp_region_noPanic ?_
  refine wp_region_held_drew (S := fun W => W.cell? ⟨g, j, none⟩ = some (.string s)) (by kernel_rfl) h0 (fun hHeld => ?_)
  refine wpAnyH_take (i := 1) (oi := { dst := some 21, op := .move (.tmp 5), type := 49, pos := pos, after := #[], guard := none }) (v := .slice (some ⟨g, 0, none⟩) len cap) rfl (by kernel_rfl) (by kernel_rfl) (by kernel_rfl) (fun _ _ _ h => h) (.inl ⟨by rfl, fun _ _ => rfl⟩) hHeld ?_
  simp only [Act.put, List.setIfInBounds_toArray, List.set_cons_zero, List.set_cons_succ]
  refine wpAnyH_take (i := 2) (oi := { dst := some 22, op := .move (.tmp 6), type := 3, pos := pos, after := #[], guard := none }) (v := .int .i64 (j : Int)) rfl (by kernel_rfl) (by kernel_rfl) (by kernel_rfl) (fun _ _ _ h => h) (.inl ⟨by rfl, fun _ _ => rfl⟩) hHeld ?_
  simp only [Act.put, List.setIfInBounds_toArray, List.set_cons_zero, List.set_cons_succ]
  refine wpAnyH_take (i := 3) (oi := { dst := some 23, op := .indexAddr 49 (.tmp 21) (.tmp 22), type := 0, pos := pos, after := #[{ on := 1, ground := .data }, { on := 2, ground := .data }], guard := none }) (v := .pointer (some ⟨g, j, none⟩)) rfl (by kernel_rfl) (by kernel_rfl) (by kernel_rfl) (fun _ _ _ h => h) (.inl ⟨by rfl, fun _ _ => by simp [execOp, Act.eval, go_sem, Tryz.underlying49, hj']⟩) hHeld ?_
  simp only [Act.put, List.setIfInBounds_toArray, List.set_cons_zero, List.set_cons_succ]
  refine wpAnyH_take (i := 4) (oi := { dst := some 24, op := .load 9 (.tmp 23), type := 9, pos := pos, after := #[{ on := 3, ground := .data }], guard := none }) (v := .string s) rfl (by kernel_rfl) (by kernel_rfl) (by kernel_rfl) (fun _ _ _ h => h) (yields_strX (by rfl) (.tmp 23) rfl rfl (fun W h => h)) hHeld ?_
  simp only [Act.put, List.setIfInBounds_toArray, List.set_cons_zero, List.set_cons_succ]
  refine wpAnyH_ready (rs := [0]) (by kernel_rfl) (by simp) ?_
  refine AllReadyH.cons (o := { dst := some 20, op := .load 37 (.tmp 4), type := 37, pos := pos, after := #[], guard := none }) rfl (fun K hK => ?_) AllReadyH.nil
  rw [if_pos (by rfl)]
  refine wp_loadMemX (m := m) (b := bM) (.tmp 4) rfl (by simp [Act.eval]) hM ?_
  refine hK.out _ _ hHeld (fun hHeld => ?_)
  simp only [Act.put, List.setIfInBounds_toArray, List.set_cons_zero, List.set_cons_succ]
  refine wpAnyH_ready (rs := [5]) (by kernel_rfl) (by simp) ?_
  refine AllReadyH.cons (o := { dst := some 25, op := .call { callee := .value (.func 25), args := #[.tmp 20, .tmp 24], argTypes := #[37, 9] }, type := 37, pos := pos, after := #[{ on := 0, ground := .data }, { on := 4, ground := .data }], guard := none }) rfl (fun K hK => ?_) AllReadyH.nil
  rw [if_pos (by rfl)]
  refine wp_callEx (args := #[m.val, .string s]) (R := fun v w' => ∃ m' : Mm, v = m'.val ∧ R m' ∧ Below (World.heap V.drew).size V.drew w') Tryz.call25 rfl (by simp [Act.eval]) ((hC _).mono fun e w' ⟨m', he, hr, hb⟩ => ⟨m'.val, he, m', rfl, hr, hb⟩) ?_
  rintro _ w1 ⟨m', rfl, hR', hb1⟩
  have hl1 : Below V.heap.size V w1 := (Below.refl V.heap.size V).drew.trans (hb1.mono (Below.refl V.heap.size V).drew.size)
  have hlE : g < V.heap.size := World.block_lt_of_cell? V ⟨g, j, none⟩ h0
  have hA1 : w1.cell? ⟨g, j, none⟩ = some (.string s) := (hl1.cell (p := ⟨g, j, none⟩) hlE).trans h0
  refine hK.out _ _ hA1 (fun hHeld => ?_)
  simp only [Act.put, List.setIfInBounds_toArray, List.set_cons_zero, List.set_cons_succ]
  refine wpAnyH_ready (rs := [6]) (by kernel_rfl) (by simp) ?_
  refine AllReadyH.cons (o := { dst := none, op := .store 37 (.tmp 4) (.tmp 25), type := 0, pos := pos, after := #[{ on := 5, ground := .data }, { on := 5, ground := .chain }, { on := 0, ground := .phase }, { on := 1, ground := .phase }, { on := 2, ground := .phase }, { on := 3, ground := .phase }, { on := 4, ground := .phase }, { on := 5, ground := .phase }], guard := none }) rfl (fun K hK => ?_) AllReadyH.nil
  rw [if_pos (by rfl)]
  have hlt := hM.lt
  with_reducible refine wp_storeRowX (n := 136) (t := 37) (f := m.cell) 37 (.tmp 4) (.tmp 25) ?_ bM 0 136 m'.cell m'.cell ?_ ?_ (hM.to hl1) ?_ ?_ ?_ ?_ ?_
  · rfl
  · simp [Act.eval]
  · simp [Act.eval]; rfl
  · omega
  · exact fun i _ => cell_one m' i
  · exact fun i hi => by rw [if_pos ⟨by omega, by omega⟩, Nat.sub_zero]
  · kernel_rfl
  intro w2 HM2 hz2 hk2 hb2
  have hA2 : w2.cell? ⟨g, j, none⟩ = some (.string s) := (World.cell?_of_block (w := w1) (a := ⟨g, j, none⟩) (hk2 g hne)).trans hA1
  refine hK.out _ _ hA2 (fun hHeld => ?_)
  simp only [Act.put]
  have hd := fun u20 u21 u22 u23 u24 u25 => hQ u20 u21 u22 u23 u24 u25 m' w2 hR' HM2 (fun B x hx hB => hb2 _ _ (hx.trans (hl1.mono (by omega))) hB) (fun b hb hne => (hk2 b hne).trans (hl1.block b hb))
  refine wpAnyH_done ?_ ?_ _
  · kernel_rfl
  · exact NoPanic.normal (hd _ _ _ _ _ _)
end Go.Proofs.YtjacgamgjjpllaaGreatDoor
