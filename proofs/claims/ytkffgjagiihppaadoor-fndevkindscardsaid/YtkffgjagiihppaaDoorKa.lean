/- The walk of FnDevKinds: whatever the bytes, it answers true, and nothing that was there has turned. Helper text: no statement is claimed here. -/
import Derived.Test.YtkffgjagiihppaaDoorRc
namespace Go.Proofs.YtkffgjagiihppaaDoor
open Go.ChangeShapes Go.WideShapes Go.ChangeAt Go.RowKit

/-- How many of -1, 0, 1, .. (m of them) are ok as the number of a device of kind k. -/
def cnt (k : Int) : Nat → Int
  | 0 => 0
  | m + 1 => cnt k m + if okB k ((m : Int) - 1) 0 then 1 else 0
theorem cnt_bd (k : Int) : ∀ m : Nat, 0 ≤ cnt k m ∧ cnt k m ≤ m
  | 0 => by simp [cnt]
  | m + 1 => by
    have := cnt_bd k m
    unfold cnt
    split <;> omega
theorem cnt_dev {k : Int} (h1 : 1 ≤ k) (h2 : k ≤ 10) : cnt k 71 = rN (kz k) := by
  have : k = 1 ∨ k = 2 ∨ k = 3 ∨ k = 4 ∨ k = 5 ∨ k = 6 ∨ k = 7 ∨ k = 8 ∨ k = 9 ∨ k = 10 := by omega
  rcases this with rfl | rfl | rfl | rfl | rfl | rfl | rfl | rfl | rfl | rfl <;> decide +kernel
theorem letter_one {k : Int} (h1 : 1 ≤ k) (h2 : k ≤ 10) : (rL (kz k)).length = 1 := by
  have : k = 1 ∨ k = 2 ∨ k = 3 ∨ k = 4 ∨ k = 5 ∨ k = 6 ∨ k = 7 ∨ k = 8 ∨ k = 9 ∨ k = 10 := by omega
  rcases this with rfl | rfl | rfl | rfl | rfl | rfl | rfl | rfl | rfl | rfl <;> decide +kernel

/-- The ways that an operand can be asked. -/
def Asked (k n p : Int) : Prop :=
  (isB k n p = false ∧ isW k n p = false ∧ isR k n p = false ∧ okB k n p = false) ∨
  (isB k n p = false ∧ isW k n p = false ∧ isR k n p = false ∧ okB k n p = true ∧ (k == 5) = true ∧ (k == 7) = false ∧ (k == 8) = false) ∨
  (isB k n p = true ∧ isW k n p = true ∧ isR k n p = false ∧ okB k n p = true ∧ (k == 5) = false ∧ (k == 7) = true) ∨
  (isB k n p = true ∧ isW k n p = true ∧ isR k n p = false ∧ okB k n p = true ∧ (k == 5) = false ∧ (k == 7) = false ∧ (k == 8) = true) ∨
  (isB k n p = true ∧ isW k n p = false ∧ isR k n p = false ∧ okB k n p = true ∧ (k == 5) = false ∧ (k == 7) = false ∧ (k == 8) = false) ∨
  (isB k n p = false ∧ isW k n p = true ∧ isR k n p = false ∧ okB k n p = true ∧ (k == 5) = false ∧ (k == 7) = false ∧ (k == 8) = false) ∨
  (isB k n p = false ∧ isW k n p = false ∧ isR k n p = true ∧ okB k n p = true ∧ (k == 5) = false ∧ (k == 7) = false ∧ (k == 8) = false)
theorem asked (k n p : Int) : Asked k n p := by
  unfold Asked
  cases h : okB k n p
  · left; simp [isB, isW, isR, h]
  · right
    rcases kinds (okB_kind h) with rfl | rfl | rfl | rfl | rfl | rfl | rfl | rfl | rfl | rfl | rfl | rfl | rfl <;> simp [isB, isW, isR, h, kz, rB, rW, rR]

theorem grownB {W : World} {k n p : Int} {b : Bool} (hT : DevTab W) (hB : isB k n p = b) (d : Nat) (os : Array Obj) :
    Calls Tryd.prog 13 #[.agg #[.int .i64 k, .int .i64 n, .int .i64 p]] (Sort.grow (redrawn W d) os) fun e w'' => e = .returned (.bool b) ∧ ∃ q : Regrown, w'' = Sort.grow (redrawn W q.d) q.os := by
  subst hB; exact Calls.regrown_of (isBit_any _ _ _ _ (hT.to (below_regrown _ d os)))
theorem grownW {W : World} {k n p : Int} {b : Bool} (hT : DevTab W) (hB : isW k n p = b) (d : Nat) (os : Array Obj) :
    Calls Tryd.prog 14 #[.agg #[.int .i64 k, .int .i64 n, .int .i64 p]] (Sort.grow (redrawn W d) os) fun e w'' => e = .returned (.bool b) ∧ ∃ q : Regrown, w'' = Sort.grow (redrawn W q.d) q.os := by
  subst hB; exact Calls.regrown_of (isWhole_any _ _ _ _ (hT.to (below_regrown _ d os)))
theorem grownSB {W : World} {k n p : Int} {b : Bool} (hB : isB k n p = b) (d : Nat) (os : Array Obj) :
    Calls Tryd.prog 17 #[.agg #[.int .i64 k, .int .i64 n, .int .i64 p]] (Sort.grow (redrawn W d) os) fun e w'' => e = .returned (.bool b) ∧ ∃ q : Regrown, w'' = Sort.grow (redrawn W q.d) q.os := by
  subst hB; exact Calls.regrown_of (sIsBit_any _ _ _ _)
theorem grownSW {W : World} {k n p : Int} {b : Bool} (hB : isW k n p = b) (d : Nat) (os : Array Obj) :
    Calls Tryd.prog 18 #[.agg #[.int .i64 k, .int .i64 n, .int .i64 p]] (Sort.grow (redrawn W d) os) fun e w'' => e = .returned (.bool b) ∧ ∃ q : Regrown, w'' = Sort.grow (redrawn W q.d) q.os := by
  subst hB; exact Calls.regrown_of (sIsWhole_any _ _ _ _)

theorem Own.below {w w' : World} {b : Nat} {x y z : Value} (h : Own w b x y z) (hb : Below w.heap.size w w') : Own w' b x y z := h.step (Step.of (rb := b + 1) hb) (by omega)

set_option maxHeartbeats 4000000 in
theorem kinds_walk (a : Option Addr) (len cap : Nat) (w : World) (h : IsRow w a len) (hlc : len ≤ cap) (hT : DevTab w) :
    Calls Tryd.prog 4 #[.slice a len cap] w fun e w' => e = .returned (.bool true) ∧ Below w.heap.size w w' := by
  by_cases hl : 1048576 < len
  · have hl1 : (1048576 : Int) < len := by omega
    clear h
    go_enter Tryd.func4, Tryd.ntmps4
    go_wp2
    go_ret
    exact ⟨rfl, Below.refl _ _⟩
  have hl1 : ¬ (1048576 : Int) < len := by omega
  have hH : Hid (IsRow w a len) := h
  clear h
  go_enter Tryd.func4, Tryd.ntmps4
  go_wp2_with fail
  refine (drawOk_any a len cap _ hH.out hlc).mono ?_
  rintro e w1 ⟨k, n, p, rfl, hk, hn, hp, hb1⟩
  clear hn hp
  have on1 := Own.new w1 (.int .i64 k) (.int .i64 n) (.int .i64 p)
  have hT1 := (hT.to hb1).alloc (.cells #[.int .i64 k, .int .i64 n, .int .i64 p] 24)
  have hB1 : Below w.heap.size w (w1.alloc (.cells #[.int .i64 k, .int .i64 n, .int .i64 p] 24)) := hb1.alloc hb1.size _
  rcases asked k n p with ⟨iB, iW, iR, iO⟩ | ⟨iB, iW, iR, iO, i5, i7, i8⟩ | ⟨iB, iW, iR, iO, i5, i7⟩ | ⟨iB, iW, iR, iO, i5, i7, i8⟩ | ⟨iB, iW, iR, iO, i5, i7, i8⟩ | ⟨iB, iW, iR, iO, i5, i7, i8⟩ | ⟨iB, iW, iR, iO, i5, i7, i8⟩
  all_goals
    have hB : Hid (isB k n p = _) := iB
    have hW : Hid (isW k n p = _) := iW
    have hR : Hid (isR k n p = _) := iR
    have hO : Hid (okB k n p = _) := iO
    clear iB iW iR iO
    go_wp2_with fail
    refine (isBit_any _ _ _ _ hT1).mono ?_
    rintro e w2 ⟨rfl, hb2⟩
    rw [hB.out]
    have on2 := on1.below hb2
    have hT2 := hT1.to hb2
    have hB2 := hB1.trans (hb2.mono hB1.size)
    obtain ⟨⟨c20, c21, c22⟩, -⟩ := on2
    go_wp2_with fail
    refine (isWhole_any _ _ _ _ hT2).mono ?_
    rintro e w3 ⟨rfl, hb3⟩
    rw [hW.out]
    have on3 := (on1.below hb2).below hb3
    have hT3 := hT2.to hb3
    have hB3 := hB2.trans (hb3.mono hB2.size)
    obtain ⟨⟨c30, c31, c32⟩, -⟩ := on3
    go_wp2_with fail
    refine (isReal_any _ _ _ _ hT3).mono ?_
    rintro e w4 ⟨rfl, hb4⟩
    rw [hR.out]
    have on4 := ((on1.below hb2).below hb3).below hb4
    have hT4 := hT3.to hb4
    have hB4 := hB3.trans (hb4.mono hB3.size)
    obtain ⟨⟨c40, c41, c42⟩, -⟩ := on4
    go_wp2_with fail
    refine (sOk_any _ _ _ _).mono ?_
    rintro e w5 ⟨rfl, hb5⟩
    rw [hO.out]
    have on5 := (((on1.below hb2).below hb3).below hb4).below hb5
    have hT5 := hT4.to hb5
    have hB5 := hB4.trans (hb5.mono hB4.size)
    have on6 := on5
    obtain ⟨⟨c50, c51, c52⟩, -⟩ := on6
    go_wp2_with fail
    have k0 := cell_regrown c50
    have k1 := cell_regrown c51
    have k2 := cell_regrown c52
    clear c20 c21 c22 c30 c31 c32 c40 c41 c42
    refine wp_region_quiet_below (by kernel_rfl) (by kernel_rfl) ?_
    repeat (first | go_big_quiet_step ((first | exact grownB hT5 hB.out _ _ | exact grownSB hB.out _ _ | exact grownW hT5 hW.out _ _ | exact grownSW hW.out _ _)) | quiet_step ((first | exact grownB hT5 hB.out _ _ | exact grownSB hB.out _ _ | exact grownW hT5 hW.out _ _ | exact grownSW hW.out _ _)))
    refine wpQuiet_nil ?_
    intro _ hw'
    obtain ⟨⟨dq, osq⟩, hw''⟩ := hw'
    subst hw''
    have on7 := on5.below (below_regrown w5 dq osq)
    have hT7 := hT5.to (below_regrown w5 dq osq)
    have hB7 := hB5.trans ((below_regrown w5 dq osq).mono hB5.size)
    clear on1 on5 hT hT1 hT2 hT3 hT4 hT5 hB1 hB2 hB3 hB4 hB5 hb1 hb2 hb3 hb4 hb5 k0 k1 k2 c50 c51 c52 hB hW hR hO
    generalize hw7 : Sort.grow (redrawn w5 dq) osq = w7 at *
    clear hw7
    go_wp2
    go_loopw [6, 7] (fun c i w' => ∃ m : Nat, m ≤ 71 ∧ i = .int .i64 ((m : Int) - 1) ∧ c = .int .i64 (cnt k m) ∧ Own w' w1.heap.size (.int .i64 k) (.int .i64 n) (.int .i64 p) ∧ DevTab w' ∧ Below w.heap.size w w') (fun _ i _ => (70 - intOf i).toNat)
    case atStart => exact ⟨0, by omega, rfl, rfl, on7, hT7, hB7⟩
    case round =>
      obtain ⟨m, hm, rfl, rfl, hO, hT, hB⟩ := hrel
      rename_i wr
      have hcb := cnt_bd k m
      have hO' := hO
      obtain ⟨⟨c0, c1, c2⟩, -⟩ := hO'
      clear on7 hT7 hB7
      by_cases hlt : m < 71
      · cases hok : okB k ((m : Int) - 1) 0
        · have hk' : Hid (okB k ((m : Int) - 1) 0 = false) := hok
          have hc' : Hid (cnt k (m + 1) = cnt k m) := by show cnt k (m + 1) = cnt k m; simp [cnt, hok]
          clear hok
          go_wp2_with fail
          refine (devOk_any _ _ _ _ hT).mono ?_
          rintro e w2 ⟨rfl, hb⟩
          rw [hk'.out]
          go_wp2
          go_roundw
          case rel => exact ⟨m + 1, by omega, by go_num, by rw [hc'.out], hO.below hb, hT.to hb, hB.trans (hb.mono hB.size)⟩
          case measure => simp [intOf]; omega
        · have hk' : Hid (okB k ((m : Int) - 1) 0 = true) := hok
          have hc' : Hid (cnt k (m + 1) = cnt k m + 1) := by show cnt k (m + 1) = cnt k m + 1; simp [cnt, hok]
          clear hok
          go_wp2_with fail
          refine (devOk_any _ _ _ _ hT).mono ?_
          rintro e w2 ⟨rfl, hb⟩
          rw [hk'.out]
          go_wp2
          go_roundw
          case rel => exact ⟨m + 1, by omega, by go_num, by rw [hc'.out], hO.below hb, hT.to hb, hB.trans (hb.mono hB.size)⟩
          case measure => simp [intOf]; omega
      · obtain rfl : m = 71 := by omega
        by_cases h1 : k < 1
        · go_wp2
          go_ret
          exact ⟨rfl, hB⟩
        by_cases h2 : 10 < k
        · go_wp2
          go_ret
          exact ⟨rfl, hB⟩
        have hz := cnt_dev (show 1 ≤ k by omega) (show k ≤ 10 by omega)
        have hl := letter_one (show 1 ≤ k by omega) (show k ≤ 10 by omega)
        have he : (cnt k 71 == rN (kz k)) = true := by rw [hz]; simp
        have hl' : Hid ((rL (kz k)).length = 1) := hl
        clear hz hl hcb
        go_wp2_with fail
        refine (size_any _ _ hT).mono ?_
        rintro e w2 ⟨rfl, hb⟩
        have o2 := hO.below hb
        obtain ⟨⟨d0, d1, d2⟩, -⟩ := o2
        go_wp2_with fail
        refine (letter_any _ _ (hT.to hb)).mono ?_
        rintro e w3 ⟨rfl, hb3⟩
        go_wp2
        go_ret
        exact ⟨ret_bool (by simp [hl'.out]), hB.trans ((hb.trans (hb3.mono hb.size)).mono hB.size)⟩
end Go.Proofs.YtkffgjagiihppaaDoor
