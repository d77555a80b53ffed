/- The document's ElemText. Helper text: no statement is claimed here. -/
import Derived.Test.YtlddkhhaclfmiaaGreatDoorP07
import Derived.Test.YtlddkhhaclfmiaaGreatDoorLh
import Derived.Test.YtlddkhhaclfmiaaGreatDoorLg
import Derived.Test.YtlddkhhaclfmiaaGreatDoorP02
namespace Go.Proofs.YtlddkhhaclfmiaaGreatDoor
open Go.ChangeShapes Go.WideShapes Go.ChangeAt Go.RowKit

set_option maxHeartbeats 4000000 in
theorem sName_any (i : Nat) (w : World) (h1 : 21 ≤ i) (h2 : i ≤ 37) :
    Calls Tryz.prog 26 #[.int .i64 (i : Int)] w fun e w' => e = .returned (.string ⟨(nm i).toArray⟩) ∧ Below w.heap.size w w' := by
  have : i = 21 ∨ i = 22 ∨ i = 23 ∨ i = 24 ∨ i = 25 ∨ i = 26 ∨ i = 27 ∨ i = 28 ∨ i = 29 ∨ i = 30 ∨ i = 31 ∨ i = 32 ∨ i = 33 ∨ i = 34 ∨ i = 35 ∨ i = 36 ∨ i = 37 := by omega
  rcases this with rfl | rfl | rfl | rfl | rfl | rfl | rfl | rfl | rfl | rfl | rfl | rfl | rfl | rfl | rfl | rfl | rfl
  all_goals
    go_enter Tryz.func26, Tryz.ntmps26
    go_wp2
    go_ret
    exact ⟨rfl, one _ _⟩

set_option maxHeartbeats 4000000 in
theorem sSign_any (i : Nat) (w : World) (h1 : 5 ≤ i) (h2 : i ≤ 10) :
    Calls Tryz.prog 29 #[.int .i64 (i : Int)] w fun e w' => e = .returned (.string ⟨(bt i).toArray⟩) ∧ Below w.heap.size w w' := by
  have : i = 5 ∨ i = 6 ∨ i = 7 ∨ i = 8 ∨ i = 9 ∨ i = 10 := by omega
  rcases this with rfl | rfl | rfl | rfl | rfl | rfl
  all_goals
    go_enter Tryz.func29, Tryz.ntmps29
    go_wp2
    go_ret
    exact ⟨rfl, one _ _⟩

theorem grownName {i : Nat} {w : World} (h1 : 21 ≤ i) (h2 : i ≤ 37) (d : Nat) (os : Array Obj) :
    Calls Tryz.prog 26 #[.int .i64 (i : Int)] (Sort.grow (redrawn w d) os) fun e w'' => e = .returned (.string ⟨(nm i).toArray⟩) ∧ ∃ p' : Regrown, w'' = Sort.grow (redrawn w p'.d) p'.os :=
  Calls.regrown_of (sName_any i _ h1 h2)
theorem grownText {k n p : Int} {w : World} (d : Nat) (os : Array Obj) :
    Calls Tryz.prog 27 #[.agg #[.int .i64 k, .int .i64 n, .int .i64 p]] (Sort.grow (redrawn w d) os) fun e w'' => e = .returned (.string ⟨(txt k n p).toArray⟩) ∧ ∃ p' : Regrown, w'' = Sort.grow (redrawn w p'.d) p'.os :=
  Calls.regrown_of (stext_any k n p _)
theorem grownSign {i : Nat} {w : World} (h1 : 5 ≤ i) (h2 : i ≤ 10) (d : Nat) (os : Array Obj) :
    Calls Tryz.prog 29 #[.int .i64 (i : Int)] (Sort.grow (redrawn w d) os) fun e w'' => e = .returned (.string ⟨(bt i).toArray⟩) ∧ ∃ p' : Regrown, w'' = Sort.grow (redrawn w p'.d) p'.os :=
  Calls.regrown_of (sSign_any i _ h1 h2)

theorem okA_split (op : Int) (ys : List Ar) : okA (ez op) ys = (coilB op ys || conB op ys) := by
  unfold coilB conB
  by_cases h : nm (ez op) = [] <;> simp [h]
theorem eT_no {op : Int} {ys : List Ar} (h1 : coilB op ys = false) (h2 : conB op ys = false) : eT op ys = [] := by
  simp [eT, okA_split, h1, h2]
/-- The first j operands of a coil, written. -/
def jn (ys : List Ar) (j : Nat) : List UInt8 := Lib.join ((ys.take j).map tx) [44]
theorem join_snoc (sep : List UInt8) (x : List UInt8) : ∀ l : List (List UInt8), l ≠ [] → Lib.join (l ++ [x]) sep = Lib.join l sep ++ (sep ++ x)
  | [], h => absurd rfl h
  | [a], _ => by simp [Lib.join, List.intercalate]
  | a :: b :: l, _ => by
    have ih := join_snoc sep x (b :: l) (by simp)
    have e1 : Lib.join (a :: b :: l ++ [x]) sep = a ++ sep ++ Lib.join (b :: l ++ [x]) sep := by simp [Lib.join, List.intercalate]
    have e2 : Lib.join (a :: b :: l) sep = a ++ sep ++ Lib.join (b :: l) sep := by simp [Lib.join, List.intercalate]
    rw [e1, e2, ih]
    simp
theorem jn_one {ys : List Ar} (h : 1 ≤ ys.length) : jn ys 1 = tx (at3 ys 0) := by
  match ys, h with
  | a :: l, _ => simp [jn, Lib.join, at3]
theorem jn_succ {ys : List Ar} {j : Nat} (h1 : 1 ≤ j) (hj : j < ys.length) : jn ys (j + 1) = jn ys j ++ ([44] ++ tx (at3 ys j)) := by
  unfold jn
  rw [List.take_add_one, List.map_append]
  have e : ys[j]? = some (at3 ys j) := by simp [at3, List.getD, hj]
  rw [e]
  simp only [Option.toList_some, List.map_cons, List.map_nil]
  exact join_snoc _ _ _ (by intro h; have := congrArg List.length h; rw [List.length_map, List.length_take] at this; simp only [List.length_nil] at this; omega)
theorem jn_len (ys : List Ar) (j : Nat) (h : ys.length ≤ 3) : (jn ys j).length ≤ 306 := by
  have := join_len [44] (by simp) (ys.take j)
  have h2 : (ys.take j).length ≤ 3 := by simp; omega
  unfold jn
  omega
theorem eT_coil {i : Nat} {ys : List Ar} (h1 : 21 ≤ i) (h2 : i ≤ 37) (h : coilB (i : Int) ys = true) : eT (i : Int) ys = nm i ++ ([58] ++ jn ys ys.length) ∧ 1 ≤ ys.length ∧ ys.length ≤ 3 := by
  have hn := nm_yes i h1 h2
  rw [coilB_eq i (by omega) hn] at h
  refine ⟨?_, ?_, ?_⟩
  · simp [eT, ez_nat i (show i < 38 by omega), h, ah, bt, hn, jn]
  · simp only [okA, Bool.or_eq_true] at h
    rcases h with h | h <;> (have := takeB_len h; omega)
  · have := okA_len h; have := (fm0_ok i).1; omega

theorem cat3 (a b c : List UInt8) : (⟨a.toArray⟩ : ByteArray) ++ ⟨b.toArray⟩ ++ ⟨c.toArray⟩ = ⟨(a ++ (b ++ c)).toArray⟩ := by
  rw [cat', cat', List.append_assoc]
/-- The box of a contact or coil. -/
def Lw (w : World) (b i bk n cap : Nat) : Prop := w.cell? ⟨b, 0, none⟩ = some (.int .i64 i) ∧ w.cell? ⟨b, 1, none⟩ = some (.slice (some ⟨bk, 0, none⟩) n cap)
theorem Lw.to {w w' : World} {b i bk n cap : Nat} (h : Lw w b i bk n cap) (hb : Below w.heap.size w w') : Lw w' b i bk n cap := ⟨keepc hb h.1, keepc hb h.2⟩

set_option maxHeartbeats 2000000 in
theorem selem_coil (i : Nat) (ys : List Ar) (bk cap : Nat) (w : World) (hA : ArgsAt w bk ys) (hbl : bk < w.heap.size) (hlc : ys.length ≤ cap) (h1 : 21 ≤ i) (h2 : i ≤ 37) (hc : coilB (i : Int) ys = true) :
    Calls Tryz.prog 7 #[elemV i (some ⟨bk, 0, none⟩) ys.length cap] w fun e w' => e = .returned (.string ⟨(eT i ys).toArray⟩) ∧ Below w.heap.size w w' := by
  obtain ⟨ht, hl1, hl3⟩ := eT_coil h1 h2 hc
  rw [ht]
  have HA : Hid (ArgsAt w bk ys) := hA
  have HK : Hid (∀ W, ArgsIs W (some ⟨bk, 0, none⟩) ys → Calls Tryz.prog 25 #[elemV i (some ⟨bk, 0, none⟩) ys.length cap] W fun e w' => e = .returned (.bool true) ∧ Below W.heap.size W w') := fun W h => by
    have := sCoil_any i ys (some ⟨bk, 0, none⟩) cap W h hlc
    rwa [hc] at this
  have q1 : (0 : Int) < (ys.length : Int) := by omega
  clear hA hc ht
  go_enter Tryz.func7, Tryz.ntmps7
  go_wp2_with fail
  refine (HK.out _ (.inr ⟨bk, rfl, by simp; omega, HA.out.to hbl (one _ _)⟩)).mono ?_
  rintro e w1 ⟨rfl, hb1⟩
  have HB1 : Hid (Below w.heap.size w w1) := of_one hb1
  have e0 : w1.cell? ⟨w.heap.size, 0, none⟩ = some (.int .i64 i) := (hb1.cell (p := ⟨w.heap.size, 0, none⟩) (by simp)).trans (by rw [World.cell?_alloc_mark]; rfl)
  have e1 : w1.cell? ⟨w.heap.size, 1, none⟩ = some (.slice (some ⟨bk, 0, none⟩) ys.length cap) := (hb1.cell (p := ⟨w.heap.size, 1, none⟩) (by simp)).trans (by rw [World.cell?_alloc_mark]; rfl)
  have hw1 : w.heap.size < w1.heap.size := World.block_lt_of_cell? w1 ⟨w.heap.size, 0, none⟩ e0
  clear hb1 HK
  obtain ⟨a0, a1, a2⟩ := (HA.out.to hbl HB1.out) 0 (by omega)
  simp only [Nat.zero_mul, Nat.zero_add] at a0 a1 a2
  have HJ : Hid (jn ys 1 = txt (at3 ys 0).1 (at3 ys 0).2.1 (at3 ys 0).2.2) := jn_one hl1
  have hlt := txt_len (at3 ys 0).1 (at3 ys 0).2.1 (at3 ys 0).2.2
  have hln := nm_len i
  generalize (at3 ys 0).1 = k at *
  generalize (at3 ys 0).2.1 = n at *
  generalize (at3 ys 0).2.2 = q at *
  have g0 := cell_regrown e0
  have g1 := cell_regrown e1
  have g2 := cell_regrown a0
  have g3 := cell_regrown a1
  have g4 := cell_regrown a2
  go_wp2
  refine wp_region_quiet_below (by kernel_rfl) (by kernel_rfl) ?_
  repeat (first | go_big_quiet_step ((first | exact grownName h1 h2 _ _ | exact grownText _ _)) | quiet_step ((first | exact grownName h1 h2 _ _ | exact grownText _ _)))
  refine wpQuiet_nil ?_
  intro _ hw'
  obtain ⟨⟨dq, osq⟩, hw''⟩ := hw'
  subst hw''
  have HB2 : Hid (Below w1.heap.size w1 (Sort.grow (redrawn w1 dq) osq)) := below_regrown _ dq osq
  have e0' := g0 dq osq
  have e1' := g1 dq osq
  generalize Sort.grow (redrawn w1 dq) osq = w2 at *
  clear g0 g1 g2 g3 g4 a0 a1 a2 e0 e1
  have HE0 : Hid (w2.cell? ⟨w.heap.size, 0, none⟩ = some (.int .i64 i)) := e0'
  have HE1 : Hid (w2.cell? ⟨w.heap.size, 1, none⟩ = some (.slice (some ⟨bk, 0, none⟩) ys.length cap)) := e1'
  have HB3 : Hid (Below w.heap.size w w2) := HB1.out.trans (HB2.out.mono HB1.out.size)
  rw [← HJ.out]
  have HNm : Hid (Lw w2 w.heap.size i bk ys.length cap) := ⟨HE0.out, HE1.out⟩
  clear e0' e1' HB2 HE0 HE1
  go_wp2
  go_loopw [3, 4] (fun o c w' => ∃ j : Nat, 1 ≤ j ∧ j ≤ ys.length ∧ c = .int .i64 (j : Int) ∧ o = .string ⟨(nm i ++ ([58] ++ jn ys j)).toArray⟩ ∧ Hid (Below w2.heap.size w2 w')) (fun _ c _ => ys.length - (intOf c).toNat)
  case atStart => exact ⟨1, by omega, hl1, rfl, by rw [cat3], Below.refl _ _⟩
  case round =>
    obtain ⟨j, hj1, hj, rfl, rfl, HBr⟩ := hrel
    rename_i wr
    obtain ⟨r0, r1⟩ := HNm.out.to HBr.out
    have HBw : Hid (Below w.heap.size w wr) := HB3.out.trans (HBr.out.mono HB3.out.size)
    have hjl := jn_len ys j hl3
    by_cases hlt : j < ys.length
    · have hlt' : (j : Int) < (ys.length : Int) := by omega
      obtain ⟨a0, a1, a2⟩ := (HA.out.to hbl HBw.out) j hlt
      have HJ2 : Hid (jn ys (j + 1) = jn ys j ++ ([44] ++ txt (at3 ys j).1 (at3 ys j).2.1 (at3 ys j).2.2)) := jn_succ hj1 hlt
      have hl2 := txt_len (at3 ys j).1 (at3 ys j).2.1 (at3 ys j).2.2
      generalize (at3 ys j).1 = k2 at *
      generalize (at3 ys j).2.1 = n2 at *
      generalize (at3 ys j).2.2 = q2 at *
      generalize jn ys j = jl at *
      have hlen : (nm i ++ ([58] ++ jl)).length ≤ 320 := by simp; omega
      generalize hgl : nm i ++ ([58] ++ jl) = ol at *
      have HGL : Hid (nm i ++ ([58] ++ jl) = ol) := hgl
      clear hgl
      go_wp2_with fail
      refine (stext_any k2 n2 q2 _).mono ?_
      rintro e w7 ⟨rfl, hb7⟩
      have HB7 : Hid (Below w2.heap.size w2 w7) := HBr.out.trans (hb7.mono HBr.out.size)
      go_wp2
      go_roundw
      case rel => exact ⟨j + 1, by omega, by omega, by go_num, by rw [HJ2.out, cat3, ← HGL.out]; simp, HB7⟩
      case measure => simp [intOf]; omega
    · obtain rfl : j = ys.length := by omega
      go_wp2
      go_ret
      exact ⟨rfl, HBw.out⟩
end Go.Proofs.YtlddkhhaclfmiaaGreatDoor
