/- The walk of FnElemKinds: whatever the bytes, it answers true, and nothing that was there has turned. Helper text: no statement is claimed here. -/
import Derived.Test.YtleopmhllbaalabDoorMf
import Derived.Test.YtleopmhllbaalabDoorMg
import Derived.Test.YtleopmhllbaalabDoorLh
namespace Go.Proofs.YtleopmhllbaalabDoor
open Go.ChangeShapes Go.WideShapes Go.ChangeAt Go.RowKit

/-- The three ways: neither, a contact, a coil. -/
theorem ways3 (op : Int) (ys : List Ar) : (conB op ys = false ∧ coilB op ys = false ∧ okA (ez op) ys = false) ∨
    (conB op ys = true ∧ coilB op ys = false ∧ okA (ez op) ys = true ∧ nm (ez op) = []) ∨ (conB op ys = false ∧ coilB op ys = true ∧ okA (ez op) ys = true ∧ nm (ez op) ≠ []) := by
  unfold conB coilB
  by_cases h : nm (ez op) = [] <;> cases hk : okA (ez op) ys <;> simp [h]

theorem grownArity {op : Int} {w : World} {n : Nat} (hn : (fm0 (ez op)).length = n) (d : Nat) (os : Array Obj) :
    Calls Tryd.prog 18 #[.int .i64 op] (Sort.grow (redrawn w d) os) fun e w'' => e = .returned (.int .i64 (n : Nat)) ∧ ∃ p' : Regrown, w'' = Sort.grow (redrawn w p'.d) p'.os := by
  subst hn; exact Calls.regrown_of (arity_any op _)
theorem grownNameI {op : Int} {w : World} {l : List UInt8} (hn : nm (ez op) = l) (d : Nat) (os : Array Obj) :
    Calls Tryd.prog 19 #[.int .i64 op] (Sort.grow (redrawn w d) os) fun e w'' => e = .returned (.string ⟨l.toArray⟩) ∧ ∃ p' : Regrown, w'' = Sort.grow (redrawn w p'.d) p'.os := by
  subst hn; exact Calls.regrown_of (name_any op _)

set_option maxHeartbeats 4000000 in
theorem ekinds_walk (a : Option Addr) (len cap : Nat) (w : World) (h : IsRow w a len) (hlc : len ≤ cap) (hT : DevTab w) :
    Calls Tryd.prog 4 #[.slice a len cap] w fun e w' => e = .returned (.bool true) ∧ Below w.heap.size w w' := by
  by_cases hl : 1048576 < len
  · have hl1 : (1048576 : Int) < len := by omega
    clear h
    go_enter Tryd.func4, Tryd.ntmps4
    go_wp2
    go_ret
    exact ⟨rfl, Below.refl _ _⟩
  have hl1 : ¬ (1048576 : Int) < len := by omega
  have hH : Hid (IsRow w a len) := h
  clear h
  go_enter Tryd.func4, Tryd.ntmps4
  go_wp2_with fail
  refine (drawCoil_any a len cap _ hH.out hlc).mono ?_
  rintro e w1 ⟨op, ys, p, cp, rfl, hop, hys, hly, hlc2, hel, hb1⟩
  clear hop hys
  have o1 := Own2.new w1 (.int .i64 op) (.slice p ys.length cp)
  have HT1 : Hid (DevTab (w1.alloc (.cells #[.int .i64 op, .slice p ys.length cp] 34))) := (hT.to hb1).alloc (.cells #[.int .i64 op, .slice p ys.length cp] 34)
  have HB1 : Hid (Below w.heap.size w (w1.alloc (.cells #[.int .i64 op, .slice p ys.length cp] 34))) := hb1.alloc hb1.size _
  have HA1 : Hid (ArgsIs (w1.alloc (.cells #[.int .i64 op, .slice p ys.length cp] 34)) p ys) := hel.is.to (one _ _)
  clear hel hb1
  rcases ways3 op ys with ⟨iC, iK, iO⟩ | ⟨iC, iK, iO, iN⟩ | ⟨iC, iK, iO, iN⟩
  all_goals
    have HC : Hid (conB op ys = _) := iC
    have HK : Hid (coilB op ys = _) := iK
    have HO : Hid (okA (ez op) ys = _) := iO
    clear iC iK iO
    go_wp2_with fail
    refine (isContact_any op ys p cp _ HT1.out HA1.out hlc2 (by omega)).mono ?_
    rintro e w2 ⟨rfl, hb2⟩
    rw [HC.out]
    have o2 := o1.below hb2
    have HT2 : Hid (DevTab w2) := HT1.out.to hb2
    have HB2 : Hid (Below w.heap.size w w2) := HB1.out.trans (hb2.mono HB1.out.size)
    have HA2 : Hid (ArgsIs w2 p ys) := HA1.out.to hb2
    clear hb2
    have o2c := o2
    obtain ⟨⟨c20, c21⟩, -⟩ := o2c
    go_wp2_with fail
    refine (isCoil_any op ys p cp _ HT2.out HA2.out hlc2 (by omega)).mono ?_
    rintro e w3 ⟨rfl, hb3⟩
    rw [HK.out]
    have o3 := o2.below hb3
    have HT3 : Hid (DevTab w3) := HT2.out.to hb3
    have HB3 : Hid (Below w.heap.size w w3) := HB2.out.trans (hb3.mono HB2.out.size)
    have HA3 : Hid (ArgsIs w3 p ys) := HA2.out.to hb3
    clear hb3 c20 c21
    have o3c := o3
    obtain ⟨⟨c30, c31⟩, -⟩ := o3c
    go_wp2_with fail
    refine (sCon_any op ys p cp _ HA3.out hlc2).mono ?_
    rintro e w4 ⟨rfl, hb4⟩
    rw [HC.out]
    have o4 := o3.below hb4
    have HT4 : Hid (DevTab w4) := HT3.out.to hb4
    have HB4 : Hid (Below w.heap.size w w4) := HB3.out.trans (hb4.mono HB3.out.size)
    have HA4 : Hid (ArgsIs w4 p ys) := HA3.out.to hb4
    clear hb4 c30 c31
    have o4c := o4
    obtain ⟨⟨c40, c41⟩, -⟩ := o4c
    go_wp2_with fail
    refine (sCoil_any op ys p cp _ HA4.out hlc2).mono ?_
    rintro e w5 ⟨rfl, hb5⟩
    rw [HK.out]
    have o5 := o4.below hb5
    have HT5 : Hid (DevTab w5) := HT4.out.to hb5
    have HB5 : Hid (Below w.heap.size w w5) := HB4.out.trans (hb5.mono HB4.out.size)
    have HA5 : Hid (ArgsIs w5 p ys) := HA4.out.to hb5
    clear hb5 c40 c41 o1 o2 o3 o4 HT1 HT2 HT3 HT4 HB1 HB2 HB3 HB4 HA1 HA2 HA3 HA4 HC HK
    have o5c := o5
    obtain ⟨⟨c50, c51⟩, -⟩ := o5c
  · go_wp2_with fail
    refine (ielem_no op ys p cp _ HT5.out HA5.out hlc2 (by omega) HO.out).mono ?_
    rintro e w6 ⟨rfl, hb6⟩
    go_wp2
    go_ret
    exact ⟨rfl, HB5.out.trans (hb6.mono HB5.out.size)⟩
  all_goals
    have HN : Hid _ := iN
    clear iN
    have HL : Hid ((fm0 (ez op)).length = ys.length) := (okA_len HO.out).symm
    have HOk : Hid (∀ j, j < ys.length → okB (at3 ys j).1 (at3 ys j).2.1 (at3 ys j).2.2 = true) := fun j hj => okA_ok HO.out hj
    go_wp2
    go_loopw [6] (fun c w' => ∃ j : Nat, j ≤ ys.length ∧ c = .int .i64 (j : Int) ∧ Hid (Below w5.heap.size w5 w')) (fun c _ => ys.length - (intOf c).toNat)
    case atStart => exact ⟨0, by omega, rfl, Below.refl _ _⟩
    case round =>
      obtain ⟨j, hj, rfl, HBr⟩ := hrel
      rename_i wr
      have oR := o5.below HBr.out
      have HTr : Hid (DevTab wr) := HT5.out.to HBr.out
      have HAr : Hid (ArgsIs wr p ys) := HA5.out.to HBr.out
      have HBw : Hid (Below w.heap.size w wr) := HB5.out.trans (HBr.out.mono HB5.out.size)
      obtain ⟨⟨r0, r1⟩, -⟩ := oR
      clear c50 c51
      by_cases hlt : j < ys.length
      · have hlt' : (j : Int) < (ys.length : Int) := by omega
        rcases HAr.out with hnil | ⟨b, rfl, hbl, hAt⟩
        · rw [hnil] at hlt; simp at hlt
        obtain ⟨a0, a1, a2⟩ := hAt j hlt
        have HJ : Hid _ := HOk.out j hlt
        clear hAt
        generalize (at3 ys j).1 = k at *
        generalize (at3 ys j).2.1 = n at *
        generalize (at3 ys j).2.2 = q at *
        go_wp2_with fail
        refine (devOk_any k n q _ HTr.out).mono ?_
        rintro e w7 ⟨rfl, hb7⟩
        rw [HJ.out]
        have HB7 : Hid (Below w5.heap.size w5 w7) := HBr.out.trans (hb7.mono HBr.out.size)
        go_wp2
        exact ⟨⟨j + 1, by omega, by go_num, HB7⟩, by simp [intOf]; omega⟩
      · obtain rfl : j = ys.length := by omega
        have k0 := cell_regrown r0
        have k1 := cell_regrown r1
        by_cases hnl : nm (ez op) = []
        · first
            | exact absurd hnl HN.out
            | (have HNm : Hid (nm (ez op) = _) := hnl
               clear hnl
               go_wp2
               refine wp_region_quiet_below (by kernel_rfl) (by kernel_rfl) ?_
               repeat (first | go_big_quiet_step ((first | exact grownArity HL.out _ _ | exact grownNameI HNm.out _ _)) | quiet_step ((first | exact grownArity HL.out _ _ | exact grownNameI HNm.out _ _)))
               refine wpQuiet_nil ?_
               intro _ hw'
               obtain ⟨⟨dq, osq⟩, hw''⟩ := hw'
               subst hw''
               go_wp2
               go_ret
               exact ⟨rfl, HBw.out.trans ((below_regrown _ dq osq).mono HBw.out.size)⟩)
        · first
            | exact absurd HN.out hnl
            | (obtain ⟨c, l, hnl⟩ := List.exists_cons_of_ne_nil hnl
               have HNm : Hid (nm (ez op) = _) := hnl
               clear hnl
               go_wp2
               refine wp_region_quiet_below (by kernel_rfl) (by kernel_rfl) ?_
               repeat (first | go_big_quiet_step ((first | exact grownArity HL.out _ _ | exact grownNameI HNm.out _ _)) | quiet_step ((first | exact grownArity HL.out _ _ | exact grownNameI HNm.out _ _)))
               refine wpQuiet_nil ?_
               intro _ hw'
               obtain ⟨⟨dq, osq⟩, hw''⟩ := hw'
               subst hw''
               go_wp2
               go_ret
               exact ⟨rfl, HBw.out.trans ((below_regrown _ dq osq).mono HBw.out.size)⟩)
end Go.Proofs.YtleopmhllbaalabDoor
