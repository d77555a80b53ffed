/- The program's memWith. Helper text: no statement is claimed here. -/
import Derived.Test.YtjacgamgjjpllaaGreatDoorP22
import Derived.Test.YtjacgamgjjpllaaGreatDoorP23
import Derived.Test.YtjacgamgjjpllaaGreatDoorP06
import Derived.Test.YtjacgamgjjpllaaGreatDoorP14
import Derived.Test.YtjacgamgjjpllaaGreatDoorP16
namespace Go.Proofs.YtjacgamgjjpllaaGreatDoor
open Go.ChangeShapes Go.WideShapes Go.ChangeAt Go.RowKit Fl

set_option maxHeartbeats 2000000 in
set_option maxRecDepth 20000 in
theorem with_time (m : Mm) (R : Nat → Prop) (s n1 v1 : ByteArray) (fd : Bool) (w : World) (hL : LTab w) (h1 : ∀ W, LTab W → Calls Tryz.prog 48 #[.string s, .string ⟨#[61]⟩] W fun e w' => e = .returned (.tuple #[.string n1, .string v1, .bool fd]) ∧ Below W.heap.size W w') (b1 : (n1.toList == [116, 105, 109, 101]) = true) (h2 : ∀ W, LTab W → Calls Tryz.prog 49 #[.string v1, .int .i64 32] W fun e w' => ∃ v : Nat, e = .returned (.int .u64 (v : Int)) ∧ R v ∧ Below W.heap.size W w') :
    Calls Tryz.prog 19 #[m.val, .string s] w fun e w' => ∃ n : Nat, e = .returned (m.setTime n).val ∧ n < 4294967296 ∧ (∃ v : Nat, R v ∧ n = (v % 4294967296)) ∧ Below w.heap.size w w' := by
  have hz : ∀ w, (zeroValue 37).run Tryz.prog w = .ok (.agg zeroM.cells) w := fun _ => by kernel_rfl
  have HCut : Hid (∀ W, LTab W → Calls Tryz.prog 48 #[.string s, .string ⟨#[61]⟩] W fun e w' => e = .returned (.tuple #[.string n1, .string v1, .bool fd]) ∧ Below W.heap.size W w') := h1
  have HL : Hid (LTab w) := hL
  clear h1 hL
  have HU : Hid (∀ W, LTab W → Calls Tryz.prog 49 #[.string v1, .int .i64 32] W fun e w' => ∃ v : Nat, e = .returned (.int .u64 (v : Int)) ∧ R v ∧ Below W.heap.size W w') := h2
  clear h2
  have hval : ∀ x : Mm, x.val = .agg x.cells := fun _ => rfl
  rw [hval m]
  go_enter Tryz.func19, Tryz.ntmps19
  go_upto_region 1 with fail
  have hB0 : Below w.heap.size w ((w.alloc (.cells m.cells 37)).alloc (.cells zeroM.cells 37)) := ((Below.refl _ _).alloc (Nat.le_refl _) _).alloc (by simp) _
  have hI0 : MemAt ((w.alloc (.cells m.cells 37)).alloc (.cells zeroM.cells 37)) w.heap.size m := (RowAt.new w 37 136 m.cell).alloc _
  have hR0 : MemAt ((w.alloc (.cells m.cells 37)).alloc (.cells zeroM.cells 37)) (w.heap.size + 1) zeroM := by
    have := RowAt.new (w.alloc (.cells m.cells 37)) 37 136 zeroM.cell
    rw [show (w.alloc (.cells m.cells 37)).heap.size = w.heap.size + 1 by simp] at this
    exact this
  generalize ((w.alloc (.cells m.cells 37)).alloc (.cells zeroM.cells 37)) = V at *
  clear hz
  go_wp2_with fail
  refine (HCut.out _ (HL.out.to hB0)).mono ?_
  rintro e w1 ⟨rfl, hb1⟩
  have HI : Hid (MemAt w1 w.heap.size m) := hI0.to hb1
  have HR : Hid (MemAt w1 (w.heap.size + 1) zeroM) := hR0.to hb1
  have HB : Hid (Below w.heap.size w w1) := hB0.trans (hb1.mono hB0.size)
  clear HCut hB0 hI0 hR0 hb1
  go_wp2_with fail
  refine (HU.out _ (HL.out.to HB.out)).mono ?_
  rintro e w2 ⟨v, rfl, hv, hb2'⟩
  have HI' : Hid (MemAt w2 w.heap.size m) := HI.out.to hb2'
  have HR' : Hid (MemAt w2 (w.heap.size + 1) zeroM) := HR.out.to hb2'
  have HB' : Hid (Below w.heap.size w w2) := HB.out.trans (hb2'.mono HB.out.size)
  have w32 : IntKind.u32.wrap (v : Int) = ((v % 4294967296 : Nat) : Int) := by rw [IntKind.wrap_u32]; omega
  have hn : v % 4294967296 < 4294967296 := Nat.mod_lt _ (by omega)
  have HX : Hid (∃ v' : Nat, R v' ∧ v % 4294967296 = v' % 4294967296) := ⟨v, hv, rfl⟩
  clear HI HR HB hb2' hv HU HL
  generalize v % 4294967296 = n at *
  have HM : Hid (∀ i, i < 136 → (if i = 133 then Value.int .u32 (n : Int) else m.cell i) = (m.setTime n).cell i) := setTime_cell m n
  generalize hmm : m.setTime n = m' at *
  have c0 := HI'.out.cell (i := 133) (by omega)
  have f0 := HI'.out.frozen 133
  have HS : Hid (MemAt (w2.setCell ⟨w.heap.size, 133, none⟩ (.int .u32 (n : Int))) w.heap.size m') := (HI'.out.set 133 (.int .u32 (n : Int))).ext (HM.out)
  have HR2 : Hid (MemAt (w2.setCell ⟨w.heap.size, 133, none⟩ (.int .u32 (n : Int))) (w.heap.size + 1) zeroM) := HR'.out.other _ (by omega)
  have HB2 : Hid (Below w.heap.size w (w2.setCell ⟨w.heap.size, 133, none⟩ (.int .u32 (n : Int)))) := HB'.out.setCell (p := ⟨_, _, none⟩) (Nat.le_refl _) _
  clear HI' HR' HB' HM
  go_wp2_with (first
    | refine wpList_rowLoad rfl 37 (.tmp 2) rfl _ 0 136 m'.cell rfl HS.out (by omega) (fun i _ => by rw [Nat.zero_add]) Tryz.underlying37 rfl (by kernel_rfl) ?_
    | (refine wpList_rowStore rfl 37 (.tmp 4) (.tmp 38) rfl _ 0 136 m'.cell m'.cell rfl rfl HR2.out (by omega) (fun i _ => cell_one m' i) (fun i hi => by rw [if_pos ⟨by omega, by omega⟩, Nat.sub_zero]) (by kernel_rfl) ?_; intro w9 HZ2 hz2 hk2 hb2))
  exact bodyPost_ret (v := .agg m'.cells) (resRow Tryz.results19 rfl HZ2 Tryz.underlying37 rfl (by kernel_rfl)) rfl ⟨n, by rw [hmm]; rfl, hn, HX.out, hb2 _ _ HB2.out (by omega)⟩
set_option maxHeartbeats 2000000 in
set_option maxRecDepth 20000 in
theorem with_ran (m : Mm) (s n1 v1 : ByteArray) (fd : Bool) (w : World) (hL : LTab w) (h1 : ∀ W, LTab W → Calls Tryz.prog 48 #[.string s, .string ⟨#[61]⟩] W fun e w' => e = .returned (.tuple #[.string n1, .string v1, .bool fd]) ∧ Below W.heap.size W w') (b1 : (n1.toList == [116, 105, 109, 101]) = false) (b2 : (n1.toList == [114, 97, 110]) = true) :
    Calls Tryz.prog 19 #[m.val, .string s] w fun e w' => e = .returned (m.setRan).val ∧ Below w.heap.size w w' := by
  have hz : ∀ w, (zeroValue 37).run Tryz.prog w = .ok (.agg zeroM.cells) w := fun _ => by kernel_rfl
  have HCut : Hid (∀ W, LTab W → Calls Tryz.prog 48 #[.string s, .string ⟨#[61]⟩] W fun e w' => e = .returned (.tuple #[.string n1, .string v1, .bool fd]) ∧ Below W.heap.size W w') := h1
  have HL : Hid (LTab w) := hL
  clear h1 hL
  have HM : Hid (∀ i, i < 136 → (if i = 134 then Value.bool true else m.cell i) = m.setRan.cell i) := setRan_cell m
  unfold Mm.val
  generalize m.setRan = m' at *
  go_enter Tryz.func19, Tryz.ntmps19
  go_upto_region 1 with fail
  have hB0 : Below w.heap.size w ((w.alloc (.cells m.cells 37)).alloc (.cells zeroM.cells 37)) := ((Below.refl _ _).alloc (Nat.le_refl _) _).alloc (by simp) _
  have hI0 : MemAt ((w.alloc (.cells m.cells 37)).alloc (.cells zeroM.cells 37)) w.heap.size m := (RowAt.new w 37 136 m.cell).alloc _
  have hR0 : MemAt ((w.alloc (.cells m.cells 37)).alloc (.cells zeroM.cells 37)) (w.heap.size + 1) zeroM := by
    have := RowAt.new (w.alloc (.cells m.cells 37)) 37 136 zeroM.cell
    rw [show (w.alloc (.cells m.cells 37)).heap.size = w.heap.size + 1 by simp] at this
    exact this
  generalize ((w.alloc (.cells m.cells 37)).alloc (.cells zeroM.cells 37)) = V at *
  clear hz
  go_wp2_with fail
  refine (HCut.out _ (HL.out.to hB0)).mono ?_
  rintro e w1 ⟨rfl, hb1⟩
  have HI : Hid (MemAt w1 w.heap.size m) := hI0.to hb1
  have HR : Hid (MemAt w1 (w.heap.size + 1) zeroM) := hR0.to hb1
  have HB : Hid (Below w.heap.size w w1) := hB0.trans (hb1.mono hB0.size)
  clear HCut hB0 hI0 hR0 hb1
  clear HL
  have c0 := HI.out.cell (i := 134) (by omega)
  have f0 := HI.out.frozen 134
  have HS : Hid (MemAt (w1.setCell ⟨w.heap.size, 134, none⟩ (.bool true)) w.heap.size m') := (HI.out.set 134 (.bool true)).ext (HM.out)
  have HR2 : Hid (MemAt (w1.setCell ⟨w.heap.size, 134, none⟩ (.bool true)) (w.heap.size + 1) zeroM) := HR.out.other _ (by omega)
  have HB2 : Hid (Below w.heap.size w (w1.setCell ⟨w.heap.size, 134, none⟩ (.bool true))) := HB.out.setCell (p := ⟨_, _, none⟩) (Nat.le_refl _) _
  clear HI HR HB HM
  go_wp2_with (first
    | refine wpList_rowLoad rfl 37 (.tmp 2) rfl _ 0 136 m'.cell rfl HS.out (by omega) (fun i _ => by rw [Nat.zero_add]) Tryz.underlying37 rfl (by kernel_rfl) ?_
    | (refine wpList_rowStore rfl 37 (.tmp 4) (.tmp 38) rfl _ 0 136 m'.cell m'.cell rfl rfl HR2.out (by omega) (fun i _ => cell_one m' i) (fun i hi => by rw [if_pos ⟨by omega, by omega⟩, Nat.sub_zero]) (by kernel_rfl) ?_; intro w9 HZ2 hz2 hk2 hb2))
  exact bodyPost_ret (v := .agg m'.cells) (resRow Tryz.results19 rfl HZ2 Tryz.underlying37 rfl (by kernel_rfl)) rfl ⟨rfl, hb2 _ _ HB2.out (by omega)⟩
set_option maxHeartbeats 2000000 in
set_option maxRecDepth 20000 in
theorem with_fault (m : Mm) (s n1 v1 : ByteArray) (fd : Bool) (w : World) (hL : LTab w) (h1 : ∀ W, LTab W → Calls Tryz.prog 48 #[.string s, .string ⟨#[61]⟩] W fun e w' => e = .returned (.tuple #[.string n1, .string v1, .bool fd]) ∧ Below W.heap.size W w') (b1 : (n1.toList == [116, 105, 109, 101]) = false) (b2 : (n1.toList == [114, 97, 110]) = false) (b3 : (n1.toList == [102, 97, 117, 108, 116]) = true) :
    Calls Tryz.prog 19 #[m.val, .string s] w fun e w' => e = .returned (m.setFault).val ∧ Below w.heap.size w w' := by
  have hz : ∀ w, (zeroValue 37).run Tryz.prog w = .ok (.agg zeroM.cells) w := fun _ => by kernel_rfl
  have HCut : Hid (∀ W, LTab W → Calls Tryz.prog 48 #[.string s, .string ⟨#[61]⟩] W fun e w' => e = .returned (.tuple #[.string n1, .string v1, .bool fd]) ∧ Below W.heap.size W w') := h1
  have HL : Hid (LTab w) := hL
  clear h1 hL
  have HM : Hid (∀ i, i < 136 → (if i = 135 then Value.bool true else m.cell i) = m.setFault.cell i) := setFault_cell m
  unfold Mm.val
  generalize m.setFault = m' at *
  go_enter Tryz.func19, Tryz.ntmps19
  go_upto_region 1 with fail
  have hB0 : Below w.heap.size w ((w.alloc (.cells m.cells 37)).alloc (.cells zeroM.cells 37)) := ((Below.refl _ _).alloc (Nat.le_refl _) _).alloc (by simp) _
  have hI0 : MemAt ((w.alloc (.cells m.cells 37)).alloc (.cells zeroM.cells 37)) w.heap.size m := (RowAt.new w 37 136 m.cell).alloc _
  have hR0 : MemAt ((w.alloc (.cells m.cells 37)).alloc (.cells zeroM.cells 37)) (w.heap.size + 1) zeroM := by
    have := RowAt.new (w.alloc (.cells m.cells 37)) 37 136 zeroM.cell
    rw [show (w.alloc (.cells m.cells 37)).heap.size = w.heap.size + 1 by simp] at this
    exact this
  generalize ((w.alloc (.cells m.cells 37)).alloc (.cells zeroM.cells 37)) = V at *
  clear hz
  go_wp2_with fail
  refine (HCut.out _ (HL.out.to hB0)).mono ?_
  rintro e w1 ⟨rfl, hb1⟩
  have HI : Hid (MemAt w1 w.heap.size m) := hI0.to hb1
  have HR : Hid (MemAt w1 (w.heap.size + 1) zeroM) := hR0.to hb1
  have HB : Hid (Below w.heap.size w w1) := hB0.trans (hb1.mono hB0.size)
  clear HCut hB0 hI0 hR0 hb1
  clear HL
  have c0 := HI.out.cell (i := 135) (by omega)
  have f0 := HI.out.frozen 135
  have HS : Hid (MemAt (w1.setCell ⟨w.heap.size, 135, none⟩ (.bool true)) w.heap.size m') := (HI.out.set 135 (.bool true)).ext (HM.out)
  have HR2 : Hid (MemAt (w1.setCell ⟨w.heap.size, 135, none⟩ (.bool true)) (w.heap.size + 1) zeroM) := HR.out.other _ (by omega)
  have HB2 : Hid (Below w.heap.size w (w1.setCell ⟨w.heap.size, 135, none⟩ (.bool true))) := HB.out.setCell (p := ⟨_, _, none⟩) (Nat.le_refl _) _
  clear HI HR HB HM
  go_wp2_with (first
    | refine wpList_rowLoad rfl 37 (.tmp 2) rfl _ 0 136 m'.cell rfl HS.out (by omega) (fun i _ => by rw [Nat.zero_add]) Tryz.underlying37 rfl (by kernel_rfl) ?_
    | (refine wpList_rowStore rfl 37 (.tmp 4) (.tmp 38) rfl _ 0 136 m'.cell m'.cell rfl rfl HR2.out (by omega) (fun i _ => cell_one m' i) (fun i hi => by rw [if_pos ⟨by omega, by omega⟩, Nat.sub_zero]) (by kernel_rfl) ?_; intro w9 HZ2 hz2 hk2 hb2))
  exact bodyPost_ret (v := .agg m'.cells) (resRow Tryz.results19 rfl HZ2 Tryz.underlying37 rfl (by kernel_rfl)) rfl ⟨rfl, hb2 _ _ HB2.out (by omega)⟩
set_option maxHeartbeats 2000000 in
set_option maxRecDepth 20000 in
theorem with_dev (m : Mm) (s n1 v1 : ByteArray) (fd : Bool) (w : World) (hL : LTab w) (h1 : ∀ W, LTab W → Calls Tryz.prog 48 #[.string s, .string ⟨#[61]⟩] W fun e w' => e = .returned (.tuple #[.string n1, .string v1, .bool fd]) ∧ Below W.heap.size W w') (hT : Tabs w) (a : List UInt8) (R : Int → Int → Int → Mm → Prop) (b1 : (n1.toList == [116, 105, 109, 101]) = false) (b2 : (n1.toList == [114, 97, 110]) = false) (b3 : (n1.toList == [102, 97, 117, 108, 116]) = false) (h2 : ∀ W, Tabs W → Calls Tryz.prog 50 #[.string n1] W (Read a W))
    (h3 : ∀ k n p b, RdOk a k n p b → ∀ W, LTab W → Tabs W → Calls Tryz.prog 51 #[m.val, .agg #[.int .i64 k, .int .i64 n, .int .i64 p], .string v1] W fun e w' => ∃ m' : Mm, e = .returned m'.val ∧ R k n p m' ∧ Below W.heap.size W w') :
    Calls Tryz.prog 19 #[m.val, .string s] w fun e w' => ∃ m' : Mm, e = .returned m'.val ∧ (∃ k n p b, RdOk a k n p b ∧ R k n p m') ∧ Below w.heap.size w w' := by
  have hz : ∀ w, (zeroValue 37).run Tryz.prog w = .ok (.agg zeroM.cells) w := fun _ => by kernel_rfl
  have HCut : Hid (∀ W, LTab W → Calls Tryz.prog 48 #[.string s, .string ⟨#[61]⟩] W fun e w' => e = .returned (.tuple #[.string n1, .string v1, .bool fd]) ∧ Below W.heap.size W w') := h1
  have HL : Hid (LTab w) := hL
  clear h1 hL
  have HT : Hid (Tabs w) := hT
  have HD : Hid (∀ W, Tabs W → Calls Tryz.prog 50 #[.string n1] W (Read a W)) := h2
  have HV : Hid (∀ k n p b, RdOk a k n p b → ∀ W, LTab W → Tabs W → Calls Tryz.prog 51 #[.agg m.cells, .agg #[.int .i64 k, .int .i64 n, .int .i64 p], .string v1] W fun e w' => ∃ m' : Mm, e = .returned (.agg m'.cells) ∧ R k n p m' ∧ Below W.heap.size W w') := h3
  clear hT h2 h3
  have hval : ∀ x : Mm, x.val = .agg x.cells := fun _ => rfl
  rw [hval m]
  go_enter Tryz.func19, Tryz.ntmps19
  go_upto_region 1 with fail
  have hB0 : Below w.heap.size w ((w.alloc (.cells m.cells 37)).alloc (.cells zeroM.cells 37)) := ((Below.refl _ _).alloc (Nat.le_refl _) _).alloc (by simp) _
  have hI0 : MemAt ((w.alloc (.cells m.cells 37)).alloc (.cells zeroM.cells 37)) w.heap.size m := (RowAt.new w 37 136 m.cell).alloc _
  have hR0 : MemAt ((w.alloc (.cells m.cells 37)).alloc (.cells zeroM.cells 37)) (w.heap.size + 1) zeroM := by
    have := RowAt.new (w.alloc (.cells m.cells 37)) 37 136 zeroM.cell
    rw [show (w.alloc (.cells m.cells 37)).heap.size = w.heap.size + 1 by simp] at this
    exact this
  generalize ((w.alloc (.cells m.cells 37)).alloc (.cells zeroM.cells 37)) = V at *
  clear hz
  go_wp2_with fail
  refine (HCut.out _ (HL.out.to hB0)).mono ?_
  rintro e w1 ⟨rfl, hb1⟩
  have HI : Hid (MemAt w1 w.heap.size m) := hI0.to hb1
  have HR : Hid (MemAt w1 (w.heap.size + 1) zeroM) := hR0.to hb1
  have HB : Hid (Below w.heap.size w w1) := hB0.trans (hb1.mono hB0.size)
  clear HCut hB0 hI0 hR0 hb1
  go_wp2_with fail
  refine (HD.out _ (HT.out.to HB.out)).mono ?_
  rintro e w2 ⟨k, n, p, b, rfl, hr, hb⟩
  have HX : Hid (RdOk a k n p b) := hr
  have hI2 : MemAt w2 w.heap.size m := HI.out.to hb
  have hR2 : MemAt w2 (w.heap.size + 1) zeroM := HR.out.to hb
  have hB2 : Below w.heap.size w w2 := HB.out.trans (hb.mono HB.out.size)
  have hlt := hR2.lt
  have HI2 : Hid (MemAt (w2.alloc (.cells #[.int .i64 k, .int .i64 n, .int .i64 p] 71)) w.heap.size m) := hI2.to (argW_below w2 k n p)
  have HR2 : Hid (MemAt (w2.alloc (.cells #[.int .i64 k, .int .i64 n, .int .i64 p] 71)) (w.heap.size + 1) zeroM) := hR2.to (argW_below w2 k n p)
  have HB2 : Hid (Below w.heap.size w (w2.alloc (.cells #[.int .i64 k, .int .i64 n, .int .i64 p] 71))) := hB2.trans ((argW_below w2 k n p).mono hB2.size)
  have hO2 : Own (w2.alloc (.cells #[.int .i64 k, .int .i64 n, .int .i64 p] 71)) w2.heap.size (.int .i64 k) (.int .i64 n) (.int .i64 p) := argW_own w2 k n p
  obtain ⟨⟨o0, o1, o2⟩, -⟩ := hO2
  clear hr hI2 hR2 hB2 hb HI HR HB HD
  go_upto_region 4 with fail
  generalize (w2.alloc (.cells #[.int .i64 k, .int .i64 n, .int .i64 p] 71)) = W at *
  go_wp2_with (refine wpList_rowLoad rfl 37 (.tmp 2) rfl _ 0 136 m.cell rfl HI2.out (by omega) (fun i _ => by rw [Nat.zero_add]) Tryz.underlying37 rfl (by kernel_rfl) ?_)
  refine (HV.out k n p b HX.out _ (HL.out.to HB2.out) (HT.out.to HB2.out)).mono ?_
  rintro e w3 ⟨m', rfl, hR3, hb3⟩
  have HI3 : Hid (MemAt w3 w.heap.size m) := HI2.out.to hb3
  have HR3 : Hid (MemAt w3 (w.heap.size + 1) zeroM) := HR2.out.to hb3
  have HB3 : Hid (Below w.heap.size w w3) := HB2.out.trans (hb3.mono HB2.out.size)
  have HY : Hid (R k n p m') := hR3
  clear HI2 HR2 HB2 HV HL HT o0 o1 o2 hb3 hR3
  go_wp2_with (first
    | (refine wpList_rowStore rfl 37 (.tmp 2) (.tmp 25) rfl _ 0 136 m'.cell m'.cell rfl rfl HI3.out (by omega) (fun i _ => cell_one m' i) (fun i hi => by rw [if_pos ⟨by omega, by omega⟩, Nat.sub_zero]) (by kernel_rfl) ?_
       intro w4 HZ4 hz4 hk4 hb4
       have HS : Hid (MemAt w4 w.heap.size m') := HZ4
       have HR4 : Hid (MemAt w4 (w.heap.size + 1) zeroM) := HR3.out.by (hk4 _ (by omega))
       have HB4 : Hid (Below w.heap.size w w4) := hb4 _ _ HB3.out (Nat.le_refl _)
       clear HI3 HR3 HB3 HZ4 hk4 hb4)
    | refine wpList_rowLoad rfl 37 (.tmp 2) rfl _ 0 136 m'.cell rfl HS.out (by omega) (fun i _ => by rw [Nat.zero_add]) Tryz.underlying37 rfl (by kernel_rfl) ?_
    | (refine wpList_rowStore rfl 37 (.tmp 4) (.tmp 38) rfl _ 0 136 m'.cell m'.cell rfl rfl HR4.out (by omega) (fun i _ => cell_one m' i) (fun i hi => by rw [if_pos ⟨by omega, by omega⟩, Nat.sub_zero]) (by kernel_rfl) ?_; intro w9 HZ2 hz2 hk2 hb2))
  exact bodyPost_ret (v := .agg m'.cells) (resRow Tryz.results19 rfl HZ2 Tryz.underlying37 rfl (by kernel_rfl)) rfl ⟨m', rfl, ⟨k, n, p, b, HX.out, HY.out⟩, hb2 _ _ HB4.out (by omega)⟩
/-- A step of the program's reading. -/
theorem iwith_any (m : Mm) (hm : m.Ok) (t : List UInt8) (w : World) (ht : t.length ≤ 6000) (hL : LTab w) (hT : Tabs w) : Calls Tryz.prog 19 #[m.val, .string ⟨t.toArray⟩] w (WordP m t w) := by
  have hc := cut_cutd t
  obtain ⟨hl1, hl2⟩ := cut_len t
  have h1 : ∀ W, LTab W → Calls Tryz.prog 48 #[.string ⟨t.toArray⟩, .string ⟨#[61]⟩] W fun e w' => e = .returned (.tuple #[.string ⟨(Lib.cut t [61]).1.toArray⟩, .string ⟨(Lib.cut t [61]).2.1.toArray⟩, .bool (Lib.cut t [61]).2.2]) ∧ Below W.heap.size W w' := fun W hW => by
    obtain ⟨mx, hmx⟩ := hW.max
    have h := Any.strings_Cut Tryz.lays145 ⟨t.toArray⟩ ⟨#[61]⟩ mx W (by rw [ba_size]; omega) hmx
    refine h.mono fun _ _ ⟨he, n, hw⟩ => ⟨?_, by rw [hw]; exact below_drewN (Below.refl _ _) n⟩
    rw [he]
  generalize (Lib.cut t [61]).1 = nm at *
  generalize (Lib.cut t [61]).2.1 = vl at *
  generalize (Lib.cut t [61]).2.2 = fd at *
  have e1 : ∀ l : List UInt8, ((⟨nm.toArray⟩ : ByteArray).toList == l) = decide (nm = l) := fun l => by rw [ba_list]; by_cases h : nm = l <;> simp [h]
  have nob : ∀ {a r : List UInt8} {c : UInt8} {l : List UInt8} (k : Int) (i : Nat), 1 ≤ k → k ≤ 10 → 97 ≤ c.toNat → nm = c :: l → nm = dvT k i → False := fun {a r c l} k i g1 g2 hc e e' => ran_head g1 g2 i [] hc (by rw [List.append_nil, ← e', e])
  by_cases n1 : nm = timeN
  · refine (with_time m (fun v => ∀ n : Nat, n < 2 ^ 32 → vl = Lib.itoa (n : Int) → v = n) _ _ _ fd w hL h1 (by rw [e1, n1]; rfl) (fun W hW => ?_)).mono ?_
    · have h := unsig32 ⟨vl.toArray⟩ W (by rw [ba_size]; omega) hW
      exact h.mono fun _ _ ⟨v, a, b, c, d⟩ => ⟨v, a, by simpa using c, d⟩
    · rintro e w' ⟨n, he, hn, ⟨v, hv, rfl⟩, hb⟩
      refine ⟨_, he, setTime_ok hm hn, res_cut hc (fun e => ?_) (fun e => ?_) (fun n' hn' _ _ e => ?_) (fun k i g1 g2 _ _ e => ?_) (fun k i g1 g2 _ _ e => ?_) (fun e => ?_), hb⟩
      · have := (hc.bare (by rw [e]; decide)).1
        rw [n1, e] at this
        exact absurd this (by decide)
      · have := (hc.bare (by rw [e]; decide)).1
        rw [n1, e] at this
        exact absurd this (by decide)
      · rw [hv n' hn' e, Nat.mod_eq_of_lt (by omega)]
      · exact (nob (a := []) (r := []) k i g1 (by omega) (c := 116) (l := [105, 109, 101]) (by decide) n1 e).elim
      · exact (nob (a := []) (r := []) k i (by omega) g2 (c := 116) (l := [105, 109, 101]) (by decide) n1 e).elim
      · have := (hc.bare (by rw [e]; simp)).1
        rw [n1, e] at this
        exact absurd this (by decide)
  by_cases n2 : nm = ranT
  · refine (with_ran m _ _ _ fd w hL h1 (by rw [e1]; exact decide_eq_false n1) (by rw [e1, n2]; rfl)).mono ?_
    rintro e w' ⟨he, hb⟩
    refine ⟨_, he, setRan_ok hm, res_cut hc (fun _ => rfl) (fun e => ?_) (fun _ _ e => absurd e n1) (fun k i g1 g2 _ _ e => ?_) (fun k i g1 g2 _ _ e => ?_) (fun e => ?_), hb⟩
    · have := (hc.bare (by rw [e]; decide)).1
      rw [n2, e] at this
      exact absurd this (by decide)
    · exact (nob (a := []) (r := []) k i g1 (by omega) (c := 114) (l := [97, 110]) (by decide) n2 e).elim
    · exact (nob (a := []) (r := []) k i (by omega) g2 (c := 114) (l := [97, 110]) (by decide) n2 e).elim
    · have := (hc.bare (by rw [e]; simp)).1
      rw [n2, e] at this
      exact absurd this (by decide)
  by_cases n3 : nm = faultT
  · refine (with_fault m _ _ _ fd w hL h1 (by rw [e1]; exact decide_eq_false n1) (by rw [e1]; exact decide_eq_false n2) (by rw [e1, n3]; rfl)).mono ?_
    rintro e w' ⟨he, hb⟩
    refine ⟨_, he, setFault_ok hm, res_cut hc (fun e => ?_) (fun _ => rfl) (fun _ _ e => absurd e n1) (fun k i g1 g2 _ _ e => ?_) (fun k i g1 g2 _ _ e => ?_) (fun e => ?_), hb⟩
    · have := (hc.bare (by rw [e]; decide)).1
      rw [n3, e] at this
      exact absurd this (by decide)
    · exact (nob (a := []) (r := []) k i g1 (by omega) (c := 102) (l := [97, 117, 108, 116]) (by decide) n3 e).elim
    · exact (nob (a := []) (r := []) k i (by omega) g2 (c := 102) (l := [97, 117, 108, 116]) (by decide) n3 e).elim
    · have := (hc.bare (by rw [e]; simp)).1
      rw [n3, e] at this
      exact absurd this (by decide)
  refine (with_dev m _ _ _ fd w hL h1 hT nm (fun k n p m' => m'.Ok ∧ (7 ≤ k → k ≤ 10 → VRes m k n.toNat vl m') ∧ (¬ (7 ≤ k ∧ k ≤ 10) → m' = m.turn k n true)) (by rw [e1]; exact decide_eq_false n1) (by rw [e1]; exact decide_eq_false n2) (by rw [e1]; exact decide_eq_false n3) (fun W hW => ?_) (fun k n p b hr W hW hW' => ?_)).mono ?_
  · have h := iread_any ⟨nm.toArray⟩ W (by rw [ba_size]; omega) hW
    simpa using h
  · exact (withDev_any m hm k n p (rd_range hr) vl W (by omega) hW hW').mono fun _ _ ⟨m', a, b, c, d, e⟩ => ⟨m', a, ⟨b, c, d⟩, e⟩
  · rintro e w' ⟨m', he, ⟨k, n, p, b, hr, hok, hv, hz⟩, hb⟩
    refine ⟨m', he, hok, res_cut hc (fun e => ?_) (fun e => ?_) (fun _ _ e => absurd e n1) (fun k' i g1 g2 hi _ e => ?_) (fun k' i g1 g2 hi _ e => ?_) (fun e => ?_), hb⟩
    · exact absurd ((hc.bare (by rw [e]; decide)).1.trans e) n2
    · exact absurd ((hc.bare (by rw [e]; decide)).1.trans e) n3
    · rw [e] at hr
      obtain ⟨rfl, rfl, -, -⟩ := rd_dv g1 (by omega) hi hr
      exact hz (by omega)
    · rw [e] at hr
      obtain ⟨rfl, rfl, -, -⟩ := rd_dv (by omega) g2 hi hr
      exact hv g1 g2
    · have e2 := (hc.bare (by rw [e]; simp)).1
      rw [e2, e] at hr
      obtain ⟨rfl, rfl, -, -⟩ := hr.one read_empty
      rw [hz (by omega)]
      exact turn_no m 0 0 true (by omega)
end Go.Proofs.YtjacgamgjjpllaaGreatDoor

/- The bits that are given, of the document. Helper text: no statement is claimed here. -/
namespace Go.Proofs.YtjacgamgjjpllaaGreatDoor
open Go.ChangeShapes Go.WideShapes Go.ChangeAt Go.RowKit

set_option maxHeartbeats 1000000 in
theorem sgiven_any (m : Mm) (_hok : m.Ok) (q : Nat) (w : World) (hq : q < 8) :
    Calls Tryz.prog 131 #[m.val, .int .i64 q] w fun e w' => e = .returned (.bool (m.given q)) ∧ Below w.heap.size w w' := by
  have c1 := m.at_time
  have c2 := m.at_ran
  have c3 := m.at_fault
  have hb : Below w.heap.size w (w.alloc (.cells m.cells 37)) := (Below.refl _ _).alloc (Nat.le_refl _) _
  obtain ⟨r, hr⟩ : ∃ r : Nat, r = m.time % 1000 := ⟨_, rfl⟩
  have h1 : (m.time : Int).tmod 1000 = (r : Int) := by rw [Int.tmod_eq_emod_of_nonneg (by omega)]; omega
  have h2 : IntKind.u32.wrap (r : Int) = (r : Int) := wrap_u32m r (by omega)
  have HD : Hid (decide (500 ≤ (r : Int)) = decide (500 ≤ m.time % 1000)) := by
    show _ = _
    rw [← hr]
    by_cases h : 500 ≤ r
    · have : (500 : Int) ≤ (r : Int) := by omega
      simp [h, this]
    · have : ¬ (500 : Int) ≤ (r : Int) := by omega
      simp [h, this]
  have HG4 : Hid (m.given 4 = decide (500 ≤ m.time % 1000)) := rfl
  clear hr _hok
  have : q = 0 ∨ q = 2 ∨ q = 3 ∨ q = 4 ∨ (q ≠ 0 ∧ q ≠ 2 ∧ q ≠ 3 ∧ q ≠ 4) := by omega
  unfold Mm.val
  generalize m.time = tm at *
  rcases this with rfl | rfl | rfl | rfl | ⟨n0, n2, n3, n4⟩
  · go_enter Tryz.func131, Tryz.ntmps131
    go_wp2
    go_ret
    exact ⟨rfl, hb⟩
  · go_enter Tryz.func131, Tryz.ntmps131
    go_wp2
    go_ret
    exact ⟨rfl, hb⟩
  · go_enter Tryz.func131, Tryz.ntmps131
    go_wp2
    go_ret
    exact ⟨rfl, hb⟩
  · go_enter Tryz.func131, Tryz.ntmps131
    go_wp2
    go_ret
    exact ⟨ret_bool4 (HD.out.trans HG4.out.symm), hb⟩
  · have HG : Hid (m.given q = false) := by
      show m.given q = false
      unfold Mm.given
      rw [if_neg n0, if_neg n2, if_neg n3, if_neg n4]
    have k0 : ((q : Int) == 0) = false := by simp only [beq_eq_false_iff_ne, ne_eq]; omega
    have k2 : ((q : Int) == 2) = false := by simp only [beq_eq_false_iff_ne, ne_eq]; omega
    have k3 : ((q : Int) == 3) = false := by simp only [beq_eq_false_iff_ne, ne_eq]; omega
    have k4 : ((q : Int) == 4) = false := by simp only [beq_eq_false_iff_ne, ne_eq]; omega
    clear n0 n2 n3 n4
    go_enter Tryz.func131, Tryz.ntmps131
    go_wp2
    go_ret
    exact ⟨ret_bool4 HG.out.symm, hb⟩
end Go.Proofs.YtjacgamgjjpllaaGreatDoor
