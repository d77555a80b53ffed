/- The document's guess of a contact or coil: l3Guess. Helper text: no statement is claimed here. -/
import Derived.Test.YtlddkhhaclfmiaaGreatDoorP12
import Derived.Deep.LoopGhost
import Derived.Deep.CutRange
import Derived.Deep.RegionHeld3
namespace Go.Proofs.YtlddkhhaclfmiaaGreatDoor
open Go.ChangeShapes Go.WideShapes Go.ChangeAt Go.RowKit

/-- What the guess of a text ends in. -/
def GuessEnd (t : List UInt8) (w : World) (e : Ending) (w' : World) : Prop := ∃ (op : Int) (ys : List Ar) (p : Option Addr) (cap : Nat), e = .returned (elemV op p ys.length cap) ∧ EGuess t op ys ∧
  ((p = none ∧ ys = [] ∧ cap = 0) ∨ ∃ g, p = some ⟨g, 0, none⟩ ∧ w.heap.size ≤ g ∧ ARow w' g cap ys ∧ ys.length ≤ 8) ∧ Below w.heap.size w w'
theorem sgn3_60 {x : UInt8} (h : x = 60) : sgn3 x = true := by subst h; decide
theorem u8_is {x : UInt8} {n : Nat} (hn : n < 256) : (((x.toNat : Int) == (n : Int)) = true) ↔ x = UInt8.ofNat n := by
  rw [beq_iff_eq]
  constructor
  · intro h
    apply UInt8.toNat_inj.1
    rw [UInt8.toNat_ofNat']
    omega
  · intro h
    rw [h, UInt8.toNat_ofNat']
    omega
theorem b60 (x : UInt8) : ((x.toNat : Int) == 60) = (x == 60) := by
  rw [Bool.eq_iff_iff]; have := u8_is (x := x) (n := 60) (by omega); simpa using this
theorem b61 (x : UInt8) : ((x.toNat : Int) == 61) = (x == 61) := by
  rw [Bool.eq_iff_iff]; have := u8_is (x := x) (n := 61) (by omega); simpa using this
theorem b62 (x : UInt8) : ((x.toNat : Int) == 62) = (x == 62) := by
  rw [Bool.eq_iff_iff]; have := u8_is (x := x) (n := 62) (by omega); simpa using this

theorem no_sign_snoc (s : ByteArray) {j : Nat} (hj : j < s.size) (h : ∀ x ∈ s.data.toList.take j, sgn3 x = false) (hs : sgn3 s[j] = false) : ∀ x ∈ s.data.toList.take (j + 1), sgn3 x = false := by
  have hl : j < s.data.toList.length := by simpa using hj
  rw [List.take_succ_eq_append_getElem hl]
  intro x hx
  rcases List.mem_append.1 hx with hx | hx
  · exact h x hx
  · rw [List.mem_singleton.1 hx]; exact hs

theorem drop_two (s : ByteArray) {j : Nat} (h : j + 1 < s.size) : s.data.toList.drop j = s[j] :: s[j + 1] :: s.data.toList.drop (j + 1 + 1) := by
  have h1 : j < s.data.toList.length := by simp; omega
  have h2 : j + 1 < s.data.toList.length := by simpa using h
  rw [List.drop_eq_getElem_cons h1, List.drop_eq_getElem_cons h2]; rfl
theorem nS_in (s : ByteArray) {j : Nat} (h : j + 1 < s.size) : nS (s.data.toList.drop j) = if s[j + 1] = 61 ∨ s[j + 1] = 62 then 2 else 1 := by
  rw [drop_two s h]; rfl
theorem nS_end (s : ByteArray) {j : Nat} (h : j < s.size) (h2 : ¬ j + 1 < s.size) : nS (s.data.toList.drop j) = 1 := by
  have h1 : j < s.data.toList.length := by simpa using h
  rw [List.drop_eq_getElem_cons h1, List.drop_of_length_le (by simp; omega)]; rfl
theorem nS_12 (l : List UInt8) : nS l = 1 ∨ nS l = 2 := by
  unfold nS
  split
  · split <;> simp
  · simp
theorem nS_le (s : ByteArray) {j : Nat} (h : j < s.size) : j + nS (s.data.toList.drop j) ≤ s.size := by
  by_cases h2 : j + 1 < s.size
  · rcases nS_12 (s.data.toList.drop j) with e | e <;> rw [e] <;> omega
  · rw [nS_end s h h2]; omega

theorem ext_list (s : ByteArray) (a b : Nat) : (s.extract a b).data.toList = (s.data.toList.drop a).take (b - a) := by
  rw [ByteArray.data_extract, Array.toList_extract, List.extract_eq_take_drop]
theorem ext_end (s : ByteArray) (a : Nat) : (s.extract a s.size).data.toList = s.data.toList.drop a := by
  rw [ext_list, List.take_of_length_le]
  simp
theorem at_byte (s : ByteArray) {j : Nat} (hj : j < s.size) : s.data.toList.drop j = s[j] :: s.data.toList.drop (j + 1) := by
  have h1 : j < s.data.toList.length := by simpa using hj
  rw [List.drop_eq_getElem_cons h1]; rfl
theorem parted (s : ByteArray) {j : Nat} (hj : j < s.size) : s.data.toList = s.data.toList.take j ++ s[j] :: s.data.toList.drop (j + 1) := by
  rw [← at_byte s hj]; exact (List.take_append_drop _ _).symm
theorem sign_end {s : ByteArray} {j m nn : Nat} (hj : j < s.size) (hN : ∀ x ∈ s.data.toList.take j, sgn3 x = false) (hS : sgn3 s[j] = true) (hnn : nn = nS (s.data.toList.drop j)) (h5 : 5 ≤ m) (h10 : m ≤ 10) (hb : (s.extract j (j + nn)).toList = bt m)
    {ys1 ys2 : List Ar} (h1 : ReadsAs (cutL 32 (s.extract 0 j).data.toList) ys1) (l1 : ys1.length = min 4 (cutL 32 (s.extract 0 j).data.toList).length) (h2 : ReadsAs (cutL 32 (s.extract (j + nn) s.size).data.toList) ys2) (l2 : ys2.length = min 4 (cutL 32 (s.extract (j + nn) s.size).data.toList).length) :
    EGuess s.data.toList (m : Int) (ys1 ++ ys2) := by
  rw [ByteArray.toList_eq, ext_list, show j + nn - j = nn by omega] at hb
  rw [ext_list, List.drop_zero, Nat.sub_zero] at h1 l1
  rw [ext_end, ← List.drop_drop] at h2 l2
  subst hnn
  rw [at_byte s hj] at hb h2 l2
  exact guess_sign (parted s hj) hN hS h5 h10 hb h1 l1 h2 l2
theorem row_news {W : World} {g cap : Nat} {ys : List Ar} (h : ARow W g cap ys) : ∀ j u, (arCells ys)[j]? = some u → W.cell? (Addr.add ⟨g, 0, none⟩ j) = some u := by
  obtain ⟨cur, h1, h2, h3, h4, h5⟩ := h
  intro j u hu
  rw [← h5, List.getElem?_take] at hu
  split at hu
  · rw [show Addr.add ⟨g, 0, none⟩ j = ⟨g, j, none⟩ by simp [Addr.add]; omega]
    exact (cell_of_row _ _ _ _ _ _ h1).trans (by simpa using hu)
  · cases hu
theorem row_one (ys : List Ar) : ∀ u ∈ arCells ys, u.oneCell' = true := by
  intro u hu
  simp only [arCells, List.mem_flatMap] at hu
  obtain ⟨a, -, ha⟩ := hu
  simp at ha
  rcases ha with rfl | rfl | rfl <;> rfl
theorem arCells_app (a b : List Ar) : arCells a ++ arCells b = arCells (a ++ b) := by simp [arCells]
theorem guess_put {t : List UInt8} {w W : World} {op : Int} {ys : List Ar} {g cap : Nat} (hE : EGuess t op ys) (hr : ARow W g cap ys) (hg : w.heap.size < g) (hl : ys.length ≤ 8) (hb : Below w.heap.size w W) (v0 v1 : Value) :
    GuessEnd t w (.returned (elemV op (some ⟨g, 0, none⟩) ys.length cap)) ((W.setCell ⟨w.heap.size, 0, none⟩ v0).setCell ⟨w.heap.size, 1, none⟩ v1) :=
  ⟨op, ys, _, cap, rfl, hE, .inr ⟨g, rfl, Nat.le_of_lt hg, (hr.set (Nat.ne_of_gt hg)).set (Nat.ne_of_gt hg), hl⟩, (hb.setCell (p := ⟨w.heap.size, 0, none⟩) (Nat.le_refl _) _).setCell (p := ⟨w.heap.size, 1, none⟩) (Nat.le_refl _) _⟩
theorem guess_nil {t : List UInt8} {w W : World} (hE : EGuess t 0 []) (hb : Below w.heap.size w W) (v0 v1 : Value) :
    GuessEnd t w (.returned (elemV 0 none 0 0)) ((W.setCell ⟨w.heap.size, 0, none⟩ v0).setCell ⟨w.heap.size, 1, none⟩ v1) :=
  ⟨0, [], none, 0, rfl, hE, .inl ⟨rfl, rfl, rfl⟩, (hb.setCell (p := ⟨w.heap.size, 0, none⟩) (Nat.le_refl _) _).setCell (p := ⟨w.heap.size, 1, none⟩) (Nat.le_refl _) _⟩
theorem sign_none {s : ByteArray} {j nn : Nat} (hj : j < s.size) (hN : ∀ x ∈ s.data.toList.take j, sgn3 x = false) (hS : sgn3 s[j] = true) (hnn : nn = nS (s.data.toList.drop j)) (hb : ∀ i, 5 ≤ i → i < 11 → (s.data.toList.drop j).take nn ≠ bt i) : EGuess s.data.toList 0 [] := by
  subst hnn
  rw [at_byte s hj] at hb
  exact guess_no (parted s hj) hN hS (fun i h1 h2 => hb i h1 (by omega)) 0 []
theorem name_is {s : ByteArray} {l : List UInt8} (hl : l.length < s.size) (h : (s.extract 0 l.length).toList = l) (h58 : s[l.length] = 58) : s.data.toList = l ++ 58 :: s.data.toList.drop (l.length + 1) := by
  rw [ByteArray.toList_eq, ext_list, List.drop_zero, Nat.sub_zero] at h
  have := parted s hl
  rwa [h, h58] at this
theorem name_short {s : ByteArray} {l : List UInt8} (hl : ¬ l.length < s.size) : ∀ r, s.data.toList ≠ l ++ 58 :: r := fun r e => by
  have := congrArg List.length e
  simp at this
  omega
theorem name_not {s : ByteArray} {l : List UInt8} (h : (s.extract 0 l.length).toList ≠ l) : ∀ r, s.data.toList ≠ l ++ 58 :: r := fun r e => by
  apply h
  rw [ByteArray.toList_eq, ext_list, List.drop_zero, Nat.sub_zero, e]
  simp
theorem name_else {s : ByteArray} {l : List UInt8} (hl : l.length < s.size) (h : (s.extract 0 l.length).toList = l) (h58 : s[l.length] ≠ 58) : ∀ r, s.data.toList ≠ l ++ 58 :: r := fun r e => by
  rw [ByteArray.toList_eq, ext_list, List.drop_zero, Nat.sub_zero] at h
  have hp := parted s hl
  rw [h, e] at hp
  exact h58 (List.cons.inj (List.append_cancel_left hp)).1.symm
theorem b58 (x : UInt8) : ((x.toNat : Int) == 58) = (x == 58) := by
  rw [Bool.eq_iff_iff]; have := u8_is (x := x) (n := 58) (by omega); simpa using this
theorem b43 (x : UInt8) : ((x.toNat : Int) == 43) = (x == 43) := by
  rw [Bool.eq_iff_iff]; have := u8_is (x := x) (n := 43) (by omega); simpa using this
theorem b45 (x : UInt8) : ((x.toNat : Int) == 45) = (x == 45) := by
  rw [Bool.eq_iff_iff]; have := u8_is (x := x) (n := 45) (by omega); simpa using this
theorem b47 (x : UInt8) : ((x.toNat : Int) == 47) = (x == 47) := by
  rw [Bool.eq_iff_iff]; have := u8_is (x := x) (n := 47) (by omega); simpa using this
theorem nm_pos {i : Nat} (h1 : 21 ≤ i) (h2 : i ≤ 37) : 0 < (nm i).length := List.length_pos_iff.2 (nm_yes i h1 h2)
theorem cut_some (c : UInt8) (l : List UInt8) : 0 < min 4 (cutL c l).length := by
  have : 0 < (cutL c l).length := List.length_pos_iff.2 (cutL_ne c l)
  omega

set_option maxRecDepth 100000 in
set_option maxHeartbeats 4000000 in
theorem guess_any (s : ByteArray) (w : World) (hs : s.size ≤ 100) :
    Calls Tryz.prog 34 #[.string s] w (GuessEnd s.data.toList w) := by
  have A32 : Hid (∀ (t : ByteArray) (W : World), t.size ≤ 2000000 → Calls Tryz.prog 81 #[.string t, .int .u8 32] W fun e w' => ∃ (ys : List Ar) (g cap : Nat), e = .returned (.slice (some ⟨g, 0, none⟩) ys.length cap) ∧ ARow w' g cap ys ∧ W.heap.size ≤ g ∧ Below W.heap.size W w' ∧ ys.length = min 4 (cutL 32 t.data.toList).length ∧ ReadsAs (cutL 32 t.data.toList) ys) := fun t W h => args_any t 32 W h
  have A44 : Hid (∀ (t : ByteArray) (W : World), t.size ≤ 2000000 → Calls Tryz.prog 81 #[.string t, .int .u8 44] W fun e w' => ∃ (ys : List Ar) (g cap : Nat), e = .returned (.slice (some ⟨g, 0, none⟩) ys.length cap) ∧ ARow w' g cap ys ∧ W.heap.size ≤ g ∧ Below W.heap.size W w' ∧ ys.length = min 4 (cutL 44 t.data.toList).length ∧ ReadsAs (cutL 44 t.data.toList) ys) := fun t W h => args_any t 44 W h
  have A58 : Hid (∀ (t : ByteArray) (W : World), t.size ≤ 2000000 → Calls Tryz.prog 81 #[.string t, .int .u8 58] W fun e w' => ∃ (ys : List Ar) (g cap : Nat), e = .returned (.slice (some ⟨g, 0, none⟩) ys.length cap) ∧ ARow w' g cap ys ∧ W.heap.size ≤ g ∧ Below W.heap.size W w' ∧ ys.length = min 4 (cutL 58 t.data.toList).length ∧ ReadsAs (cutL 58 t.data.toList) ys) := fun t W h => args_any t 58 W h
  go_enter Tryz.func34, Tryz.ntmps34
  go_wp2
  go_loopg [3] 101 (fun gh i w' => ∃ j : Nat, j ≤ s.size ∧ j + gh = 101 ∧ i = .int .i64 (j : Int) ∧ w' = w.alloc (.cells #[.int .i64 0, .slice none 0 0] 25) ∧ Hid (∀ x ∈ s.data.toList.take j, sgn3 x = false))
  case atStart => exact ⟨0, by omega, by omega, rfl, rfl, fun x hx => by simp at hx⟩
  case round =>
    obtain ⟨j, hj, hgh, rfl, rfl, HN⟩ := hrel
    by_cases hlt : j < s.size
    · have hlt' : (j : Int) < (s.size : Int) := by omega
      have c60 := b60 s[j]
      have c61 := b61 s[j]
      have c62 := b62 s[j]
      have HC0 : Hid (((s[j].toNat : Int) == 60) = (s[j] == 60)) := c60
      have HC1 : Hid (((s[j].toNat : Int) == 61) = (s[j] == 61)) := c61
      have HC2 : Hid (((s[j].toNat : Int) == 62) = (s[j] == 62)) := c62
      clear c60 c61 c62
      go_upto_region 4 with fail
      go_cut [29] from 14 to 28 (fun c wx => c = .bool (sgn3 s[j]) ∧ wx = w.alloc (.cells #[.int .i64 0, .slice none 0 0] 25))
      case first =>
        cases h0 : s[j] == 60
        · cases h1 : s[j] == 61
          · have d0 := HC0.out.trans h0
            have d1 := HC1.out.trans h1
            have HS : Hid (sgn3 s[j] = (s[j] == 62)) := by show _ = _; simp [sgn3, h0, h1]
            have d2 := HC2.out
            clear h0 h1
            go_wp2_with fail
            go_meet
            exact ⟨by rw [HS.out], rfl⟩
          · have d0 := HC0.out.trans h0
            have d1 := HC1.out.trans h1
            have HS : Hid (sgn3 s[j] = true) := by show _ = _; simp [sgn3, h1]
            clear h0 h1
            go_wp2_with fail
            go_meet
            exact ⟨by rw [HS.out], rfl⟩
        · have d0 := HC0.out.trans h0
          have HS : Hid (sgn3 s[j] = true) := by show _ = _; simp [sgn3, h0]
          clear h0
          go_wp2_with fail
          go_meet
          exact ⟨by rw [HS.out], rfl⟩
      case rest =>
      obtain ⟨rfl, rfl⟩ := hcut
      cases hsg : sgn3 s[j]
      · have HSg : Hid (sgn3 s[j] = false) := hsg
        clear hsg HC0 HC1 HC2
        go_wp2
        go_roundg (gk - 1)
        case measure => omega
        case rel => exact ⟨j + 1, by omega, by omega, by go_num, rfl, no_sign_snoc s hlt HN.out HSg.out⟩
      · have HSg : Hid (sgn3 s[j] = true) := hsg
        clear hsg HC0 HC1 HC2
        go_upto_region 6 with fail
        go_cut [48] from 30 to 47 (fun c wx => ∃ bb : Bool, c = .bool bb ∧ Hid ((bb = true ∧ nS (s.data.toList.drop j) = 2) ∨ (bb = false ∧ nS (s.data.toList.drop j) = 1)) ∧ wx = w.alloc (.cells #[.int .i64 0, .slice none 0 0] 25))
        case first =>
          by_cases hlt2 : j + 1 < s.size
          · have hlt2' : (j : Int) + 1 < (s.size : Int) := by omega
            have HNS : Hid (nS (s.data.toList.drop j) = if s[j + 1] = 61 ∨ s[j + 1] = 62 then 2 else 1) := nS_in s hlt2
            have HC1 : Hid (((s[j + 1].toNat : Int) == 61) = (s[j + 1] == 61)) := b61 _
            have HC2 : Hid (((s[j + 1].toNat : Int) == 62) = (s[j + 1] == 62)) := b62 _
            by_cases h1 : s[j + 1] = 61
            · have d1 : ((s[j + 1].toNat : Int) == 61) = true := by rw [HC1.out]; simp [h1]
              have HS : Hid (nS (s.data.toList.drop j) = 2) := by show _ = _; rw [HNS.out]; simp [h1]
              clear h1 HC1 HC2 HNS
              go_wp2_with fail
              go_meet
              exact ⟨_, rfl, .inl ⟨rfl, HS.out⟩, rfl⟩
            · have d1 : ((s[j + 1].toNat : Int) == 61) = false := by rw [HC1.out]; simp [h1]
              by_cases h2 : s[j + 1] = 62
              · have d2 : ((s[j + 1].toNat : Int) == 62) = true := by rw [HC2.out]; simp [h2]
                have HS : Hid (nS (s.data.toList.drop j) = 2) := by show _ = _; rw [HNS.out]; simp [h2]
                clear h1 h2 HC1 HC2 HNS
                go_wp2_with fail
                go_meet
                exact ⟨_, rfl, .inl ⟨rfl, HS.out⟩, rfl⟩
              · have d2 : ((s[j + 1].toNat : Int) == 62) = false := by rw [HC2.out]; simp [h2]
                have HS : Hid (nS (s.data.toList.drop j) = 1) := by show _ = _; rw [HNS.out]; simp [h1, h2]
                clear h1 h2 HC1 HC2 HNS
                go_wp2_with fail
                go_meet
                exact ⟨_, rfl, .inr ⟨rfl, HS.out⟩, rfl⟩
          · have hlt2' : ¬ (j : Int) + 1 < (s.size : Int) := by omega
            have HS : Hid (nS (s.data.toList.drop j) = 1) := nS_end s hlt hlt2
            go_wp2_with fail
            go_meet
            exact ⟨_, rfl, .inr ⟨rfl, HS.out⟩, rfl⟩
        case rest =>
        obtain ⟨bb, rfl, HX, rfl⟩ := hcut
        have hn12 := nS_12 (s.data.toList.drop j)
        have HNL : Hid (j + nS (s.data.toList.drop j) ≤ s.size) := nS_le s hlt
        go_upto_if 48 with fail
        go_cut [4] from 30 to 48 (fun c wx => ∃ nn : Nat, c = .int .i64 (nn : Int) ∧ Hid (nn = nS (s.data.toList.drop j)) ∧ wx = w.alloc (.cells #[.int .i64 0, .slice none 0 0] 25))
        case first =>
          cases bb
          · have HS : Hid (nS (s.data.toList.drop j) = 1) := by
              rcases HX.out with ⟨h, -⟩ | ⟨-, h⟩
              · cases h
              · exact h
            clear HX hn12
            go_wp2_with fail
            go_meet
            exact ⟨1, rfl, HS.out.symm, rfl⟩
          · have HS : Hid (nS (s.data.toList.drop j) = 2) := by
              rcases HX.out with ⟨-, h⟩ | ⟨h, -⟩
              · exact h
              · cases h
            clear HX hn12
            go_wp2_with fail
            go_meet
            exact ⟨2, rfl, HS.out.symm, rfl⟩
        case rest =>
        obtain ⟨nn, rfl, HNN, rfl⟩ := hcut
        have hle : j + nn ≤ s.size := by rw [HNN.out]; exact HNL.out
        have hn2 : nn ≤ 2 := by rw [HNN.out]; omega
        have hn1 : 1 ≤ nn := by rw [HNN.out]; omega
        clear hn12 HX
        have hz : w.heap.size < (w.alloc (.cells #[.int .i64 0, .slice none 0 0] 25)).heap.size := by simp
        have HO : Hid (Own2 (w.alloc (.cells #[.int .i64 0, .slice none 0 0] 25)) w.heap.size (.int .i64 0) (.slice none 0 0)) := Own2.new w _ _
        have HB0 : Hid (Below w.heap.size w (w.alloc (.cells #[.int .i64 0, .slice none 0 0] 25))) := one _ _
        go_wp2
        generalize w.alloc (.cells #[.int .i64 0, .slice none 0 0] 25) = V at *
        go_loopg [5] 6 (fun gh2 k w' => ∃ m : Nat, 5 ≤ m ∧ m ≤ 11 ∧ m + gh2 = 11 ∧ k = .int .i64 (m : Int) ∧ Hid (∀ i, 5 ≤ i → i < m → (s.data.toList.drop j).take nn ≠ bt i) ∧ Hid (Below V.heap.size V w'))
        case atStart => exact ⟨5, by omega, by omega, by omega, rfl, fun i h1 h2 => by omega, Below.refl _ _⟩
        case round =>
          obtain ⟨m, hm5, hm11, hmg, rfl, HNo, HBm⟩ := hrel
          by_cases hm : m ≤ 10
          · have hm' : (m : Int) ≤ 10 := by omega
            have hw1 : IntKind.i64.wrap ((j : Int) + (nn : Int)) = (j : Int) + (nn : Int) := by rw [IntKind.wrap_i64]; omega
            have hw2 : (j : Int) ≤ (j : Int) + (nn : Int) := by omega
            have hw3 : (j : Int) + (nn : Int) ≤ (s.size : Int) := by omega
            go_wp2
            refine wp_region_quiet_below (by kernel_rfl) (by kernel_rfl) ?_
            repeat (first | go_big_quiet_step ((exact grownSign hm5 hm _ _)) | quiet_step ((exact grownSign hm5 hm _ _)))
            refine wpQuiet_nil ?_
            intro _ hw'
            obtain ⟨⟨dq, osq⟩, hw''⟩ := hw'
            subst hw''
            go_upto_if 61 with fail
            have HBq : Hid (Below V.heap.size V (Sort.grow (redrawn wr dq) osq)) := HBm.out.trans ((below_regrown _ dq osq).mono HBm.out.size)
            generalize Sort.grow (redrawn wr dq) osq = W2 at *
            cases hbq : ((s.extract j (j + nn)).toList == bt m)
            · have HF : Hid ((s.extract j (j + nn)).toList ≠ bt m) := fun e => by rw [e] at hbq; simp at hbq
              go_wp2
              go_roundg (gk - 1)
              case measure => omega
              case rel => exact ⟨m + 1, by omega, by omega, by omega, by go_num, fun i h1 h2 => by
                by_cases e : i = m
                · subst e
                  have := HF.out
                  rw [ByteArray.toList_eq, ext_list, show j + nn - j = nn by omega] at this
                  exact this
                · exact HNo.out i h1 (by omega), HBq⟩
            · have HF : Hid ((s.extract j (j + nn)).toList = bt m) := by show _ = _; simpa using hbq
              have HG : Hid _ := @sign_end s j m nn hlt HN.out HSg.out HNN.out hm5 hm HF.out
              have hzq := HBq.out.size
              have HM1 : True := trivial
              have hw4 : (0 : Int) ≤ (j : Int) + (nn : Int) := by omega
              have hj0 : (0 : Int) ≤ (j : Int) := by omega
              have hj1 : (j : Int) ≤ (s.size : Int) := by omega
              have HO2 : Hid (Own2 W2 w.heap.size (.int .i64 0) (.slice none 0 0)) := HO.out.in HBq.out hz
              go_wp2
              go_region_held3 (fun _ => True) (trivial)
                (first
                  | (go_at_call 81; have hk1 := HM1; clear HM1; refine (A32.out (s.extract 0 j) _ (by simp; omega)).mono ?_; rintro e wa ⟨ys1, g1, cap1, rfl, hr1, hg1, hb1, hl1, hR1⟩; have HA1 : Hid (ARow wa g1 cap1 ys1) := hr1; have HBa : Hid (Below W2.heap.size W2 wa) := (Below.refl _ W2).drew.trans hb1; have HR1 : Hid (ReadsAs _ ys1 ∧ ys1.length = _) := ⟨hR1, hl1⟩; have hg1' : W2.heap.size ≤ g1 := hg1; clear hr1 hb1 hR1 hg1 hk1; have hy1 : ys1.length ≤ 4 := (by omega); clear hl1)
                  | (go_at_call 81; refine (A32.out (s.extract (j + nn) s.size) _ (by simp; omega)).mono ?_; rintro e wb ⟨ys2, g2, cap2, rfl, hr2, hg2, hb2, hl2, hR2⟩; have HA2 : Hid (ARow wb g2 cap2 ys2) := hr2; have HA1b : Hid (ARow wb g1 cap1 ys1) := HA1.out.to hb2; have HBb : Hid (Below W2.heap.size W2 wb) := HBa.out.trans (hb2.mono HBa.out.size); have HR2 : Hid (ReadsAs _ ys2 ∧ ys2.length = _) := ⟨hR2, hl2⟩; have hy0 : 0 < ys2.length := (by rw [hl2]; exact cut_some _ _); have hy2 : ys2.length ≤ 4 := (by omega); clear hr2 hb2 hR2 hl2; have hzb := HBb.out.size)
                  | (refine step_app _ (by rfl) (.tmp 66) (.tmp 72) (by rfl) W2.heap.size _ ys1.length (arCells ys1) (by rfl) (HA1b.out.owns hg1') ⟨g2, 0, none⟩ ys2.length cap2 (arCells ys2) (by rfl) (arCells_len ys2) (row_news HA2.out) (row_one ys2) hy0 (by omega) hzb ?_; intro g4 cp4 w4 HW4 HG4 hl4; have HB4 : Hid (Below W2.heap.size wb w4) := (Below.refl _ _).grown HG4.out hzb (fun k e => by cases e; exact hg1'); have HO4 : Hid (Own2 w4 w.heap.size (.int .i64 0) (.slice none 0 0)) := (HO2.out.in HBb.out (by omega)).in HB4.out (by omega); have HO4c := HO4.out; obtain ⟨⟨o40, o41⟩, z40, z41⟩ := HO4c))
              all_goals (try go_wp2)
              obtain ⟨g5, cp5, e5, hg5, row5⟩ := arow_of (ys := ys1 ++ ys2) (n := ys1.length + ys2.length) (by rw [← arCells_app]; exact HW4.out) (by simp) (by simp)
              simp only [Value.slice.injEq, Option.some.injEq, Addr.mk.injEq] at e5
              obtain ⟨⟨rfl, -, -⟩, -, rfl⟩ := e5
              have hF := guess_put (op := (m : Int)) (HG.out HR1.out.1 HR1.out.2 HR2.out.1 HR2.out.2) row5 (show w.heap.size < g4 by omega) (by simp; omega) ((HB0.out.trans (HBq.out.mono (by omega))).trans ((HBb.out.mono (by omega)).trans (HB4.out.mono (by omega)))) (.int .i64 (m : Int)) (.slice (some ⟨g4, 0, none⟩) (ys1.length + ys2.length) cp4)
              rw [show (ys1 ++ ys2).length = ys1.length + ys2.length by simp] at hF
              exact bodyPost_ret (v := .agg #[.int .i64 (m : Int), .slice (some ⟨g4, 0, none⟩) (ys1.length + ys2.length) cp4]) (resElem (b := w.heap.size) Tryz.results34 rfl (HO4.out.put _ _).1) rfl hF
          · obtain rfl : m = 11 := by omega
            have HO2 : Hid (Own2 wr w.heap.size (.int .i64 0) (.slice none 0 0)) := HO.out.in HBm.out hz
            have HO2c := HO2.out
            obtain ⟨⟨o40, o41⟩, z40, z41⟩ := HO2c
            have HE : Hid (EGuess s.data.toList 0 []) := sign_none hlt HN.out HSg.out HNN.out HNo.out
            go_wp2
            exact bodyPost_ret (v := .agg #[.int .i64 0, .slice none 0 0]) (resElem (b := w.heap.size) Tryz.results34 rfl (HO2.out.put _ _).1) rfl (guess_nil HE.out (HB0.out.trans (HBm.out.mono (by omega))) _ _)
    · obtain rfl : j = s.size := by omega
      have hlt' : ¬ (s.size : Int) < (s.size : Int) := by omega
      have HNa : Hid (∀ x ∈ s.data.toList, sgn3 x = false) := by
        have := HN.out
        rwa [List.take_of_length_le (by simp)] at this
      have hz : w.heap.size < (w.alloc (.cells #[.int .i64 0, .slice none 0 0] 25)).heap.size := by simp
      have HO : Hid (Own2 (w.alloc (.cells #[.int .i64 0, .slice none 0 0] 25)) w.heap.size (.int .i64 0) (.slice none 0 0)) := Own2.new w _ _
      have HB0 : Hid (Below w.heap.size w (w.alloc (.cells #[.int .i64 0, .slice none 0 0] 25))) := one _ _
      clear HN hlt
      go_wp2
      generalize w.alloc (.cells #[.int .i64 0, .slice none 0 0] 25) = V at *
      go_loopg [6] 17 (fun gh2 k w' => ∃ m : Nat, 21 ≤ m ∧ m ≤ 38 ∧ m + gh2 = 38 ∧ k = .int .i64 (m : Int) ∧ Hid (∀ i, 21 ≤ i → i < m → ∀ r, s.data.toList ≠ nm i ++ 58 :: r) ∧ Hid (Below V.heap.size V w'))
      case atStart => exact ⟨21, by omega, by omega, by omega, rfl, fun i h1 h2 => by omega, Below.refl _ _⟩
      case round =>
        obtain ⟨m, hm1, hm38, hmg, rfl, HNm, HBm⟩ := hrel
        by_cases hm : m ≤ 37
        · have hm' : (m : Int) ≤ 37 := by omega
          have hml := nm_len m
          have hmp := nm_pos hm1 hm
          go_wp2_with fail
          refine (sName_any m _ hm1 hm).mono ?_
          rintro e w1 ⟨rfl, hb1⟩
          have HB1 : Hid (Below V.heap.size V w1) := HBm.out.trans (hb1.mono HBm.out.size)
          clear hb1
          go_upto_region 18 with fail
          go_cut [100] from 83 to 99 (fun c wx => ∃ bb : Bool, c = .bool bb ∧ Hid ((bb = true ∧ ∃ h : (nm m).length < s.size, s.data.toList = nm m ++ 58 :: s.data.toList.drop ((nm m).length + 1)) ∨ (bb = false ∧ ∀ r, s.data.toList ≠ nm m ++ 58 :: r)) ∧ Hid (Below V.heap.size V wx))
          case first =>
            by_cases hL : (nm m).length < s.size
            · have hL1 : ((nm m).length : Int) < (s.size : Int) := by omega
              have hL2 : ((nm m).length : Int) ≤ (s.size : Int) := by omega
              have hL0 : (0 : Int) ≤ ((nm m).length : Int) := by omega
              cases hq : ((s.extract 0 (nm m).length).toList == nm m)
              · have HX : Hid (∀ r, s.data.toList ≠ nm m ++ 58 :: r) := name_not (fun e => by rw [e] at hq; simp at hq)
                refine wp_region_quiet_below (by kernel_rfl) (by kernel_rfl) ?_
                repeat (first | go_big_quiet_step ((exact grownName hm1 hm _ _)) | quiet_step ((exact grownName hm1 hm _ _)))
                refine wpQuiet_nil ?_
                intro _ hw'
                obtain ⟨⟨dq, osq⟩, hw''⟩ := hw'
                subst hw''
                go_wp2_with fail
                go_meet
                exact ⟨_, rfl, .inr ⟨rfl, HX.out⟩, HB1.out.trans ((below_regrown _ dq osq).mono HB1.out.size)⟩
              · have HE : Hid ((s.extract 0 (nm m).length).toList = nm m) := by show _ = _; simpa using hq
                by_cases h58 : s[(nm m).length] = 58
                · have d58 : ((s[(nm m).length].toNat : Int) == 58) = true := by rw [b58, h58]; rfl
                  have HX : Hid (s.data.toList = nm m ++ 58 :: s.data.toList.drop ((nm m).length + 1)) := name_is hL HE.out h58
                  clear h58
                  refine wp_region_quiet_below (by kernel_rfl) (by kernel_rfl) ?_
                  repeat (first | go_big_quiet_step ((exact grownName hm1 hm _ _)) | quiet_step ((exact grownName hm1 hm _ _)))
                  refine wpQuiet_nil ?_
                  intro _ hw'
                  obtain ⟨⟨dq, osq⟩, hw''⟩ := hw'
                  subst hw''
                  go_wp2_with fail
                  go_meet
                  exact ⟨_, rfl, .inl ⟨rfl, hL, HX.out⟩, HB1.out.trans ((below_regrown _ dq osq).mono HB1.out.size)⟩
                · have d58 : ((s[(nm m).length].toNat : Int) == 58) = false := by rw [b58]; simpa using h58
                  have HX : Hid (∀ r, s.data.toList ≠ nm m ++ 58 :: r) := name_else hL HE.out h58
                  clear h58
                  refine wp_region_quiet_below (by kernel_rfl) (by kernel_rfl) ?_
                  repeat (first | go_big_quiet_step ((exact grownName hm1 hm _ _)) | quiet_step ((exact grownName hm1 hm _ _)))
                  refine wpQuiet_nil ?_
                  intro _ hw'
                  obtain ⟨⟨dq, osq⟩, hw''⟩ := hw'
                  subst hw''
                  go_wp2_with fail
                  go_meet
                  exact ⟨_, rfl, .inr ⟨rfl, HX.out⟩, HB1.out.trans ((below_regrown _ dq osq).mono HB1.out.size)⟩
            · have hL1 : ¬ ((nm m).length : Int) < (s.size : Int) := by omega
              have HX : Hid (∀ r, s.data.toList ≠ nm m ++ 58 :: r) := name_short hL
              refine wp_region_quiet_below (by kernel_rfl) (by kernel_rfl) ?_
              repeat (first | go_big_quiet_step ((exact grownName hm1 hm _ _)) | quiet_step ((exact grownName hm1 hm _ _)))
              refine wpQuiet_nil ?_
              intro _ hw'
              obtain ⟨⟨dq, osq⟩, hw''⟩ := hw'
              subst hw''
              go_wp2_with fail
              go_meet
              exact ⟨_, rfl, .inr ⟨rfl, HX.out⟩, HB1.out.trans ((below_regrown _ dq osq).mono HB1.out.size)⟩
          case rest =>
          obtain ⟨bb, rfl, HX, HBc⟩ := hcut
          rename_i wc
          cases bb
          · have HN1 : Hid (∀ r, s.data.toList ≠ nm m ++ 58 :: r) := by
              rcases HX.out with ⟨h, -⟩ | ⟨-, h⟩
              · cases h
              · exact h
            clear HX
            go_wp2
            go_roundg (gk - 1)
            case measure => omega
            case rel => exact ⟨m + 1, by omega, by omega, by omega, by go_num, fun i h1 h2 => by
              by_cases e : i = m
              · subst e; exact HN1.out
              · exact HNm.out i h1 (by omega), HBc⟩
          · have HN1 : Hid (∃ h : (nm m).length < s.size, s.data.toList = nm m ++ 58 :: s.data.toList.drop ((nm m).length + 1)) := by
              rcases HX.out with ⟨-, h⟩ | ⟨h, -⟩
              · exact h
              · cases h
            clear HX
            obtain ⟨hL, -⟩ := HN1.out
            have hw1 : IntKind.i64.wrap (((nm m).length : Int) + 1) = ((nm m).length : Int) + 1 := by rw [IntKind.wrap_i64]; omega
            have hw2 : (0 : Int) ≤ ((nm m).length : Int) + 1 := by omega
            have hw3 : ((nm m).length : Int) + 1 ≤ (s.size : Int) := by omega
            have HOc : Hid (Own2 wc w.heap.size (.int .i64 0) (.slice none 0 0)) := HO.out.in HBc.out hz
            have HBw : Hid (Below w.heap.size w wc) := HB0.out.trans (HBc.out.mono (by omega))
            go_wp2_with fail
            refine (A44.out (s.extract ((nm m).length + 1) s.size) _ (by simp; omega)).mono ?_
            rintro e w3 ⟨ys, g, cap, rfl, hr, hg, hb3, hl, hR⟩
            have HR : Hid (ARow w3 g cap ys) := hr
            have HO3 : Hid (Own2 w3 w.heap.size (.int .i64 0) (.slice none 0 0)) := HOc.out.below hb3
            have HB3 : Hid (Below w.heap.size w w3) := HBw.out.trans (hb3.mono HBw.out.size)
            have HE : Hid (EGuess s.data.toList (m : Int) ys) := by
              rw [ext_end] at hl hR
              exact guess_name hm1 hm HN1.out.2 hR hl
            have hy : ys.length ≤ 4 := by omega
            have hgw : w.heap.size < g := Nat.lt_of_lt_of_le HOc.out.lt hg
            have HO3c := HO3.out
            obtain ⟨⟨o40, o41⟩, z40, z41⟩ := HO3c
            clear hr hb3 hl hR
            go_wp2
            exact bodyPost_ret (v := .agg #[.int .i64 (m : Int), .slice (some ⟨g, 0, none⟩) ys.length cap]) (resElem (b := w.heap.size) Tryz.results34 rfl (HO3.out.put _ _).1) rfl (guess_put HE.out HR.out hgw (by omega) HB3.out _ _)
        · obtain rfl : m = 38 := by omega
          have hm' : ¬ ((38 : Nat) : Int) ≤ 37 := by omega
          have HOc : Hid (Own2 wr w.heap.size (.int .i64 0) (.slice none 0 0)) := HO.out.in HBm.out hz
          have HBw : Hid (Below w.heap.size w wr) := HB0.out.trans (HBm.out.mono (by omega))
          have HNm2 : Hid (∀ i, 21 ≤ i → i ≤ 37 → ∀ r, s.data.toList ≠ nm i ++ 58 :: r) := fun i h1 h2 => HNm.out i h1 (by omega)
          by_cases hE : s.toList = []
          · have hE' : (s.toList == []) = true := by simp [hE]
            have HEm : Hid (s.data.toList = []) := by rw [← ByteArray.toList_eq]; exact hE
            clear hE
            go_wp2_with fail
            refine (A32.out s _ (by omega)).mono ?_
            rintro e w3 ⟨ys, g, cap, rfl, hr, hg, hb3, hl, hR⟩
            have HR : Hid (ARow w3 g cap ys) := hr
            have HO3 : Hid (Own2 w3 w.heap.size (.int .i64 0) (.slice none 0 0)) := HOc.out.below hb3
            have HB3 : Hid (Below w.heap.size w w3) := HBw.out.trans (hb3.mono HBw.out.size)
            have HE : Hid (EGuess s.data.toList 1 ys) := by
              refine guess_open HNa.out HNm2.out ?_ ?_ ?_ hR hl <;> (intro r e; rw [HEm.out] at e; cases e)
            have hy : ys.length ≤ 4 := by omega
            have hgw : w.heap.size < g := Nat.lt_of_lt_of_le HOc.out.lt hg
            have HO3c := HO3.out
            obtain ⟨⟨o40, o41⟩, z40, z41⟩ := HO3c
            clear hr hb3 hl hR
            go_wp2
            exact bodyPost_ret (v := .agg #[.int .i64 1, .slice (some ⟨g, 0, none⟩) ys.length cap]) (resElem (b := w.heap.size) Tryz.results34 rfl (HO3.out.put _ _).1) rfl (guess_put HE.out HR.out hgw (by omega) HB3.out _ _)
          · have hE' : (s.toList == []) = false := by simp [hE]
            have h0 : 0 < s.size := by
              have h1 : s.data.toList ≠ [] := by rw [← ByteArray.toList_eq]; exact hE
              have h2 := List.length_pos_iff.2 h1
              simpa using h2
            have h0' : (0 : Int) < (s.size : Int) := by omega
            have hw3 : (1 : Int) ≤ (s.size : Int) := by omega
            have HD : Hid (s.data.toList = s[0] :: s.data.toList.drop 1) := by
              have := at_byte s h0
              rwa [List.drop_zero] at this
            clear hE
            by_cases h47 : s[0] = 47
            · have d47 : ((s[0].toNat : Int) == 47) = true := by rw [b47, h47]; rfl
              have HD2 : Hid (s.data.toList = 47 :: s.data.toList.drop 1) := by
                have := HD.out
                rwa [h47] at this
              clear h47
              go_wp2_with fail
              refine (A32.out (s.extract 1 s.size) _ (by simp; omega)).mono ?_
              rintro e w3 ⟨ys, g, cap, rfl, hr, hg, hb3, hl, hR⟩
              have HR : Hid (ARow w3 g cap ys) := hr
              have HO3 : Hid (Own2 w3 w.heap.size (.int .i64 0) (.slice none 0 0)) := HOc.out.below hb3
              have HB3 : Hid (Below w.heap.size w w3) := HBw.out.trans (hb3.mono HBw.out.size)
              have HE : Hid (EGuess s.data.toList 2 ys) := by
                rw [ext_end] at hl hR
                exact guess_mark (.inl ⟨rfl, rfl, rfl⟩) HD2.out HNa.out HNm2.out hR hl
              have hy : ys.length ≤ 4 := by omega
              have hgw : w.heap.size < g := Nat.lt_of_lt_of_le HOc.out.lt hg
              have HO3c := HO3.out
              obtain ⟨⟨o40, o41⟩, z40, z41⟩ := HO3c
              clear hr hb3 hl hR
              go_wp2
              exact bodyPost_ret (v := .agg #[.int .i64 2, .slice (some ⟨g, 0, none⟩) ys.length cap]) (resElem (b := w.heap.size) Tryz.results34 rfl (HO3.out.put _ _).1) rfl (guess_put HE.out HR.out hgw (by omega) HB3.out _ _)
            · have d47 : ((s[0].toNat : Int) == 47) = false := by rw [b47]; simpa using h47
              by_cases h43 : s[0] = 43
              · have d43 : ((s[0].toNat : Int) == 43) = true := by rw [b43, h43]; rfl
                have HD2 : Hid (s.data.toList = 43 :: s.data.toList.drop 1) := by
                  have := HD.out
                  rwa [h43] at this
                clear h43 h47
                go_wp2_with fail
                refine (A58.out (s.extract 1 s.size) _ (by simp; omega)).mono ?_
                rintro e w3 ⟨ys, g, cap, rfl, hr, hg, hb3, hl, hR⟩
                have HR : Hid (ARow w3 g cap ys) := hr
                have HO3 : Hid (Own2 w3 w.heap.size (.int .i64 0) (.slice none 0 0)) := HOc.out.below hb3
                have HB3 : Hid (Below w.heap.size w w3) := HBw.out.trans (hb3.mono HBw.out.size)
                have HE : Hid (EGuess s.data.toList 3 ys) := by
                  rw [ext_end] at hl hR
                  exact guess_mark (.inr (.inl ⟨rfl, rfl, rfl⟩)) HD2.out HNa.out HNm2.out hR hl
                have hy : ys.length ≤ 4 := by omega
                have hgw : w.heap.size < g := Nat.lt_of_lt_of_le HOc.out.lt hg
                have HO3c := HO3.out
                obtain ⟨⟨o40, o41⟩, z40, z41⟩ := HO3c
                clear hr hb3 hl hR
                go_wp2
                exact bodyPost_ret (v := .agg #[.int .i64 3, .slice (some ⟨g, 0, none⟩) ys.length cap]) (resElem (b := w.heap.size) Tryz.results34 rfl (HO3.out.put _ _).1) rfl (guess_put HE.out HR.out hgw (by omega) HB3.out _ _)
              · have d43 : ((s[0].toNat : Int) == 43) = false := by rw [b43]; simpa using h43
                by_cases h45 : s[0] = 45
                · have d45 : ((s[0].toNat : Int) == 45) = true := by rw [b45, h45]; rfl
                  have HD2 : Hid (s.data.toList = 45 :: s.data.toList.drop 1) := by
                    have := HD.out
                    rwa [h45] at this
                  clear h43 h47 h45
                  go_wp2_with fail
                  refine (A58.out (s.extract 1 s.size) _ (by simp; omega)).mono ?_
                  rintro e w3 ⟨ys, g, cap, rfl, hr, hg, hb3, hl, hR⟩
                  have HR : Hid (ARow w3 g cap ys) := hr
                  have HO3 : Hid (Own2 w3 w.heap.size (.int .i64 0) (.slice none 0 0)) := HOc.out.below hb3
                  have HB3 : Hid (Below w.heap.size w w3) := HBw.out.trans (hb3.mono HBw.out.size)
                  have HE : Hid (EGuess s.data.toList 4 ys) := by
                    rw [ext_end] at hl hR
                    exact guess_mark (.inr (.inr ⟨rfl, rfl, rfl⟩)) HD2.out HNa.out HNm2.out hR hl
                  have hy : ys.length ≤ 4 := by omega
                  have hgw : w.heap.size < g := Nat.lt_of_lt_of_le HOc.out.lt hg
                  have HO3c := HO3.out
                  obtain ⟨⟨o40, o41⟩, z40, z41⟩ := HO3c
                  clear hr hb3 hl hR
                  go_wp2
                  exact bodyPost_ret (v := .agg #[.int .i64 4, .slice (some ⟨g, 0, none⟩) ys.length cap]) (resElem (b := w.heap.size) Tryz.results34 rfl (HO3.out.put _ _).1) rfl (guess_put HE.out HR.out hgw (by omega) HB3.out _ _)
                · have d45 : ((s[0].toNat : Int) == 45) = false := by rw [b45]; simpa using h45
                  have HNo : Hid (s[0] ≠ 47 ∧ s[0] ≠ 43 ∧ s[0] ≠ 45) := ⟨h47, h43, h45⟩
                  clear h43 h47 h45
                  go_wp2_with fail
                  refine (A32.out s _ (by omega)).mono ?_
                  rintro e w3 ⟨ys, g, cap, rfl, hr, hg, hb3, hl, hR⟩
                  have HR : Hid (ARow w3 g cap ys) := hr
                  have HO3 : Hid (Own2 w3 w.heap.size (.int .i64 0) (.slice none 0 0)) := HOc.out.below hb3
                  have HB3 : Hid (Below w.heap.size w w3) := HBw.out.trans (hb3.mono HBw.out.size)
                  have HE : Hid (EGuess s.data.toList 1 ys) := by
                    refine guess_open HNa.out HNm2.out ?_ ?_ ?_ hR hl <;> (intro r e; rw [HD.out] at e)
                    · exact HNo.out.1 (List.cons.inj e).1
                    · exact HNo.out.2.1 (List.cons.inj e).1
                    · exact HNo.out.2.2 (List.cons.inj e).1
                  have hy : ys.length ≤ 4 := by omega
                  have hgw : w.heap.size < g := Nat.lt_of_lt_of_le HOc.out.lt hg
                  have HO3c := HO3.out
                  obtain ⟨⟨o40, o41⟩, z40, z41⟩ := HO3c
                  clear hr hb3 hl hR
                  go_wp2
                  exact bodyPost_ret (v := .agg #[.int .i64 1, .slice (some ⟨g, 0, none⟩) ys.length cap]) (resElem (b := w.heap.size) Tryz.results34 rfl (HO3.out.put _ _).1) rfl (guess_put HE.out HR.out hgw (by omega) HB3.out _ _)
end Go.Proofs.YtlddkhhaclfmiaaGreatDoor
