/- The program's readers of numbers and marks. Helper text: no statement is claimed here. -/
import Derived.Test.YtjacgamgjjpllaaGreatDoorP13
import Derived.Test.YtjacgamgjjpllaaGreatDoorP03
import Derived.Test.YtjacgamgjjpllaaGreatDoorP09
import Derived.Test.YtjacgamgjjpllaaGreatDoorP06
import Derived.Test.YtjacgamgjjpllaaGreatDoorP12
import Derived.Deep.Cut
namespace Go.Proofs.YtjacgamgjjpllaaGreatDoor
open Go.ChangeShapes Go.WideShapes Go.ChangeAt Go.RowKit Fl

/-- What a reading of a count makes: some number, and the number where it is written as one. -/
def Counted (B : Nat) (t : List UInt8) (w : World) (e : Ending) (w' : World) : Prop :=
  ∃ (v : Nat) (err : Value), e = .returned (.tuple #[.int .u64 (v : Int), err]) ∧ v < 2 ^ 64 ∧ (∀ n : Nat, n < 2 ^ B → t = Lib.itoa (n : Int) → v = n) ∧ Below w.heap.size w w'
theorem bytes_belowX {w w' : World} {e : TypeId} {t : ByteArray} (h : w' = w ∨ w' = Lib.bytesWorld w e t) : Below w.heap.size w w' := by
  rcases h with rfl | rfl
  · exact Below.refl _ _
  · exact Lib.bytesWorld_below w e t
set_option maxHeartbeats 1000000 in
theorem puint_walk (B M : Nat) (hB : B ≤ 64) (hM : M < 2 ^ 64) (s : ByteArray) (w : World) (hs : s.size ≤ 6000) (hL : LTab w)
    (hI : ∀ W, Calls Tryz.prog 124 #[.string s, .int .i64 10, .int .i64 (B : Int)] W fun e w' => e = .returned (Lib.uintTupleM 169 (M : Int) (Lib.parseUintB B s.data.toList)) ∧ (w' = W ∨ w' = Lib.bytesWorld W 5 s)) :
    Calls Tryz.prog 89 #[.string s, .int .i64 10, .int .i64 (B : Int)] w (Counted B s.data.toList w) := by
  obtain ⟨⟨ta, pa, h1⟩, ⟨tc, pc, h2⟩, -⟩ := hL
  have HI : Hid (∀ W, Calls Tryz.prog 124 #[.string s, .int .i64 10, .int .i64 (B : Int)] W fun e w' => e = .returned (Lib.uintTupleM 169 (M : Int) (Lib.parseUintB B s.data.toList)) ∧ Below W.heap.size W w') := fun W => (hI W).mono fun _ _ ⟨a, b⟩ => ⟨a, bytes_belowX b⟩
  clear hI
  rcases h : Lib.parseUintB B s.data.toList with v | _ | _
  · have hv : v ≤ 2 ^ B - 1 := uint_le h
    have h64 : 2 ^ B ≤ 2 ^ 64 := Nat.pow_le_pow_right (n := 2) (by omega) hB
    have HV : Hid (v < 2 ^ 64) := by show v < 2 ^ 64; have : 0 < 2 ^ B := Nat.pow_pos (by omega); omega
    have HE : Hid (∀ n : Nat, n < 2 ^ B → s.data.toList = Lib.itoa (n : Int) → v = n) := fun n hn e => by
      rw [e, uint_itoa hB hn] at h
      cases h; rfl
    rw [h] at HI
    have HI' : Hid (∀ W, Calls Tryz.prog 124 #[.string s, .int .i64 10, .int .i64 (B : Int)] W fun e w' => e = .returned (.tuple #[.int .u64 (v : Int), .nilIface]) ∧ Below W.heap.size W w') := HI.out
    clear h hv h64 HI
    go_enter Tryz.func89, Tryz.ntmps89
    go_wp2_with fail
    refine (HI'.out _).mono ?_
    rintro e w1 ⟨rfl, hb⟩
    go_wp2
    go_ret2
    exact ⟨v, _, rfl, HV.out, HE.out, hb⟩
  · have HE : Hid (∀ n : Nat, n < 2 ^ B → s.data.toList = Lib.itoa (n : Int) → 0 = n) := fun n hn e => by
      rw [e, uint_itoa hB hn] at h
      cases h
    rw [h] at HI
    have HI' : Hid (∀ W, Calls Tryz.prog 124 #[.string s, .int .i64 10, .int .i64 (B : Int)] W fun e w' => e = .returned (.tuple #[.int .u64 0, .iface 169 (.int .i64 2)]) ∧ Below W.heap.size W w') := HI.out
    clear h HI
    go_enter Tryz.func89, Tryz.ntmps89
    go_wp2_with fail
    refine (HI'.out _).mono ?_
    rintro e w1 ⟨rfl, hb⟩
    go_wp2_with fail
    refine (Any.strconv_toError_syntax Tryz.laysC245 _ s 10 (B : Int) (.iface ta pa) w1 (by omega) ((hb.cell (p := ⟨_, 0, none⟩) (World.block_lt_of_cell? w _ h1)).trans h1) (.inr ⟨_, _, rfl⟩)).mono ?_
    rintro e w2 ⟨N, rfl, -, -, hb2⟩
    go_wp2
    go_ret2
    exact ⟨0, _, rfl, by decide, HE.out, hb.trans (hb2.mono hb.size)⟩
  · have HE : Hid (∀ n : Nat, n < 2 ^ B → s.data.toList = Lib.itoa (n : Int) → M = n) := fun n hn e => by
      rw [e, uint_itoa hB hn] at h
      cases h
    rw [h] at HI
    have HI' : Hid (∀ W, Calls Tryz.prog 124 #[.string s, .int .i64 10, .int .i64 (B : Int)] W fun e w' => e = .returned (.tuple #[.int .u64 (M : Int), .iface 169 (.int .i64 1)]) ∧ Below W.heap.size W w') := HI.out
    clear h HI
    go_enter Tryz.func89, Tryz.ntmps89
    go_wp2_with fail
    refine (HI'.out _).mono ?_
    rintro e w1 ⟨rfl, hb⟩
    go_wp2_with fail
    refine (Any.strconv_toError_range Tryz.laysC245 _ s 10 (B : Int) (.iface tc pc) w1 (by omega) ((hb.cell (p := ⟨_, 0, none⟩) (World.block_lt_of_cell? w _ h2)).trans h2) (.inr ⟨_, _, rfl⟩)).mono ?_
    rintro e w2 ⟨N, rfl, -, -, hb2⟩
    go_wp2
    go_ret2
    exact ⟨M, _, rfl, hM, HE.out, hb.trans (hb2.mono hb.size)⟩
theorem puint16 (s : ByteArray) (w : World) (hs : s.size ≤ 6000) (hL : LTab w) : Calls Tryz.prog 89 #[.string s, .int .i64 10, .int .i64 16] w (Counted 16 s.data.toList w) :=
  puint_walk 16 65535 (by omega) (by decide) s w hs hL fun W => Any.internal_strconv_ParseUint_10_at16 Tryz.lays287 s (by omega) W
theorem puint32 (s : ByteArray) (w : World) (hs : s.size ≤ 6000) (hL : LTab w) : Calls Tryz.prog 89 #[.string s, .int .i64 10, .int .i64 32] w (Counted 32 s.data.toList w) :=
  puint_walk 32 4294967295 (by omega) (by decide) s w hs hL fun W => Any.internal_strconv_ParseUint_10_at32 Tryz.lays287 s (by omega) W
/-- memUnsigned. -/
def Unsig (B : Nat) (t : List UInt8) (w : World) (e : Ending) (w' : World) : Prop :=
  ∃ v : Nat, e = .returned (.int .u64 (v : Int)) ∧ v < 2 ^ 64 ∧ (∀ n : Nat, n < 2 ^ B → t = Lib.itoa (n : Int) → v = n) ∧ Below w.heap.size w w'
theorem unsig_walk (B : Nat) (s : ByteArray) (w : World) (hC : Calls Tryz.prog 89 #[.string s, .int .i64 10, .int .i64 (B : Int)] w (Counted B s.data.toList w)) :
    Calls Tryz.prog 49 #[.string s, .int .i64 (B : Int)] w (Unsig B s.data.toList w) := by
  have HC : Hid (Calls Tryz.prog 89 #[.string s, .int .i64 10, .int .i64 (B : Int)] w (Counted B s.data.toList w)) := hC
  clear hC
  go_enter Tryz.func49, Tryz.ntmps49
  go_wp2_with fail
  refine HC.out.mono ?_
  rintro e w1 ⟨v, err, rfl, hv, he, hb⟩
  have HE : Hid (∀ n : Nat, n < 2 ^ B → s.data.toList = Lib.itoa (n : Int) → v = n) := he
  clear he
  go_wp2
  go_ret
  exact ⟨v, rfl, hv, HE.out, hb⟩
theorem unsig16 (s : ByteArray) (w : World) (hs : s.size ≤ 6000) (hL : LTab w) : Calls Tryz.prog 49 #[.string s, .int .i64 16] w (Unsig 16 s.data.toList w) := unsig_walk 16 s w (puint16 s w hs hL)
theorem unsig32 (s : ByteArray) (w : World) (hs : s.size ≤ 6000) (hL : LTab w) : Calls Tryz.prog 49 #[.string s, .int .i64 32] w (Unsig 32 s.data.toList w) := unsig_walk 32 s w (puint32 s w hs hL)
theorem csuffix (t : List UInt8) (c : UInt8) (w : World) (ht : t.length ≤ 6000) : Calls Tryz.prog 126 #[.string ⟨t.toArray⟩, .string ⟨#[c]⟩] w fun e w' => e = .returned (.tuple #[.string ⟨(tailL c t).1.toArray⟩, .bool (tailL c t).2]) ∧ w' = w := by
  have h := Any.strings_CutSuffix Tryz.lays104 ⟨t.toArray⟩ ⟨#[c]⟩ w (by rw [show (⟨t.toArray⟩ : ByteArray).size = t.length by simp [ByteArray.size]]; omega)
  have e1 : (⟨t.toArray⟩ : ByteArray).data.toList = t := by simp
  have e2 : (⟨#[c]⟩ : ByteArray).data.toList = [c] := rfl
  rw [e1, e2, (suffix_one t c).1, (suffix_one t c).2] at h
  exact h
/-- A row of the call's own, as a result. -/
theorem resRowX {fn : Func} {W : World} {b p n : Nat} {ty : TypeId} {f : Nat → Value} {d : TypeDesc} {tmps : Array Value} (h : fn.results = #[.cell p ty]) (hp : tmps.getD p undef = .pointer (some ⟨b, 0, none⟩)) (hR : ∀ i, i < n → W.cell? ⟨b, i, none⟩ = some (f i))
    (hu : Tryz.prog.underlying ty = some d) (hd : d.isRow = true) (hi : (Tryz.prog.info? ty).map (·.size) = some n) : (results fn tmps).run Tryz.prog W = .ok (.agg (cellsOf n f)) W := by
  have hr : W.rangeAt b 0 (cellsOf n f).toList := fun j v hv => by
    have hj : j < n := by
      have := (List.getElem?_eq_some_iff.1 hv).1
      simpa [cellsOf_size] using this
    rw [Nat.zero_add, hR j hj]
    rw [Array.getElem?_toList, cellsOf_at _ hj] at hv
    exact hv
  have hl := run_loadVar_mid (P := Tryz.prog) W b 0 ty (cellsOf n f).toList _ hr hu hd (by rw [Array.length_toList, cellsOf_size]; exact hi)
  rw [Array.toArray_toList] at hl
  have hp' : tmps[p]?.getD undef = .pointer (some ⟨b, 0, none⟩) := by simpa [Array.getD_eq_getD_getElem?] using hp
  simp [results, h, hp', asAddr, hl]
/-- A timer and a counter, as they are made. -/
theorem timer_any (t : List UInt8) (w : World) (ht : t.length ≤ 6000) (hL : LTab w) :
    Calls Tryz.prog 92 #[.string ⟨t.toArray⟩] w fun e w' => ∃ v, e = .returned v ∧ ∃ c : Nat, v = .agg (cellsOf 2 (tmC (tailL 33 t).2 (c : Int))) ∧ c < 65536 ∧ (∀ n : Nat, n < 65536 → (tailL 33 t).1 = Lib.itoa (n : Int) → c = n) ∧ Below w.heap.size w w' := by
  have HS : Hid (∀ W, Calls Tryz.prog 126 #[.string ⟨t.toArray⟩, .string ⟨#[33]⟩] W fun e w' => e = .returned (.tuple #[.string ⟨(tailL 33 t).1.toArray⟩, .bool (tailL 33 t).2]) ∧ w' = W) := fun W => csuffix t 33 W ht
  have hl := tailL_len 33 t
  have HU : Hid (∀ W, LTab W → Calls Tryz.prog 49 #[.string ⟨(tailL 33 t).1.toArray⟩, .int .i64 16] W (Unsig 16 (tailL 33 t).1 W)) := fun W hW => by
    have h := unsig16 ⟨(tailL 33 t).1.toArray⟩ W (by rw [show (⟨(tailL 33 t).1.toArray⟩ : ByteArray).size = (tailL 33 t).1.length by simp [ByteArray.size]]; omega) hW
    simpa using h
  have HL : Hid (LTab w) := hL
  clear hL
  generalize (tailL 33 t).1 = l at *
  generalize (tailL 33 t).2 = d at *
  generalize (⟨t.toArray⟩ : ByteArray) = s at *
  generalize (⟨l.toArray⟩ : ByteArray) = s1 at *
  go_enter Tryz.func92, Tryz.ntmps92
  go_wp2_with fail
  refine (HS.out _).mono ?_
  rintro e w1 ⟨rfl, rfl⟩
  have hb0 : Below w.heap.size w (w.alloc (.cells #[.bool false, .int .u16 0] 27)) := (Below.refl _ _).alloc (Nat.le_refl _) _
  go_wp2_with fail
  refine (HU.out _ (HL.out.to hb0)).mono ?_
  rintro e w1 ⟨v, rfl, hv, he, hb⟩
  have w16 : IntKind.u16.wrap (v : Int) = (c16 (v : Int) : Int) := c16_wrap _
  have HE : Hid (∀ n : Nat, n < 65536 → l = Lib.itoa (n : Int) → c16 (v : Int) = n) := fun n hn e => by
    rw [he n hn e]; exact c16_nat hn
  have hc := c16_lt (v : Int)
  generalize c16 (v : Int) = c at *
  have hbw : Below w.heap.size w w1 := hb0.trans (hb.mono hb0.size)
  have d0 : w1.cell? ⟨w.heap.size, 0, none⟩ = some (.bool false) := (hb.cell (p := ⟨w.heap.size, 0, none⟩) (by simp)).trans (by simp [go_sem])
  have d1 : w1.cell? ⟨w.heap.size, 1, none⟩ = some (.int .u16 0) := (hb.cell (p := ⟨w.heap.size, 1, none⟩) (by simp)).trans (by simp [go_sem])
  have f0 : w1.frozen? ⟨w.heap.size, 0, none⟩ = false := (hb.frozen (p := ⟨w.heap.size, 0, none⟩) (by simp)).trans (by simp [go_sem])
  have f1 : w1.frozen? ⟨w.heap.size, 1, none⟩ = false := (hb.frozen (p := ⟨w.heap.size, 1, none⟩) (by simp)).trans (by simp [go_sem])
  have HB : Hid (Below w.heap.size w w1) := hbw
  clear hb hb0 he hbw HU HS
  have HC : Hid (∀ i, i < 2 → World.cell? ((w1.setCell ⟨w.heap.size, 0, none⟩ (.bool d)).setCell ⟨w.heap.size, 1, none⟩ (.int .u16 (c : Int))) ⟨w.heap.size, i, none⟩ = some (tmC d (c : Int) i)) := fun i hi => by
    have : i = 0 ∨ i = 1 := by omega
    rcases this with rfl | rfl
    · simp [go_sem, d0, tmC]
    · simp [go_sem, d1, tmC]
  go_wp2
  exact bodyPost_ret (v := .agg (cellsOf 2 (tmC d (c : Int)))) (resRowX Tryz.results92 rfl HC.out Tryz.underlying27 rfl (by kernel_rfl)) rfl ⟨_, rfl, c, rfl, hc, HE.out, (HB.out.setCell (p := ⟨_, _, none⟩) (Nat.le_refl _) _).setCell (p := ⟨_, _, none⟩) (Nat.le_refl _) _⟩
theorem count_any (t : List UInt8) (w : World) (ht : t.length ≤ 6000) (hL : LTab w) :
    Calls Tryz.prog 93 #[.string ⟨t.toArray⟩] w fun e w' => ∃ v, e = .returned v ∧ ∃ c : Nat, v = .agg (cellsOf 3 (cnC (tailL 33 (tailL 43 t).1).2 (tailL 43 t).2 (c : Int))) ∧ c < 65536 ∧ (∀ n : Nat, n < 65536 → (tailL 33 (tailL 43 t).1).1 = Lib.itoa (n : Int) → c = n) ∧ Below w.heap.size w w' := by
  have hl1 := tailL_len 43 t
  have hl := tailL_len 33 (tailL 43 t).1
  have HS1 : Hid (∀ W, Calls Tryz.prog 126 #[.string ⟨t.toArray⟩, .string ⟨#[43]⟩] W fun e w' => e = .returned (.tuple #[.string ⟨(tailL 43 t).1.toArray⟩, .bool (tailL 43 t).2]) ∧ w' = W) := fun W => csuffix t 43 W ht
  have HS : Hid (∀ W, Calls Tryz.prog 126 #[.string ⟨(tailL 43 t).1.toArray⟩, .string ⟨#[33]⟩] W fun e w' => e = .returned (.tuple #[.string ⟨(tailL 33 (tailL 43 t).1).1.toArray⟩, .bool (tailL 33 (tailL 43 t).1).2]) ∧ w' = W) := fun W => csuffix (tailL 43 t).1 33 W (by omega)
  have HU : Hid (∀ W, LTab W → Calls Tryz.prog 49 #[.string ⟨(tailL 33 (tailL 43 t).1).1.toArray⟩, .int .i64 16] W (Unsig 16 (tailL 33 (tailL 43 t).1).1 W)) := fun W hW => by
    have h := unsig16 ⟨(tailL 33 (tailL 43 t).1).1.toArray⟩ W (by rw [show (⟨(tailL 33 (tailL 43 t).1).1.toArray⟩ : ByteArray).size = (tailL 33 (tailL 43 t).1).1.length by simp [ByteArray.size]]; omega) hW
    simpa using h
  have HL : Hid (LTab w) := hL
  clear hL
  generalize (tailL 33 (tailL 43 t).1).1 = l at *
  generalize (tailL 33 (tailL 43 t).1).2 = d at *
  generalize (tailL 43 t).2 = la at *
  generalize (tailL 43 t).1 = l1 at *
  generalize (⟨t.toArray⟩ : ByteArray) = s at *
  generalize (⟨l.toArray⟩ : ByteArray) = s2 at *
  generalize (⟨l1.toArray⟩ : ByteArray) = s1 at *
  go_enter Tryz.func93, Tryz.ntmps93
  go_wp2_with fail
  refine (HS1.out _).mono ?_
  rintro e w1 ⟨rfl, rfl⟩
  go_wp2_with fail
  refine (HS.out _).mono ?_
  rintro e w1 ⟨rfl, rfl⟩
  have hb0 : Below w.heap.size w (w.alloc (.cells #[.bool false, .bool false, .int .u16 0] 30)) := (Below.refl _ _).alloc (Nat.le_refl _) _
  go_wp2_with fail
  refine (HU.out _ (HL.out.to hb0)).mono ?_
  rintro e w1 ⟨v, rfl, hv, he, hb⟩
  have w16 : IntKind.u16.wrap (v : Int) = (c16 (v : Int) : Int) := c16_wrap _
  have HE : Hid (∀ n : Nat, n < 65536 → l = Lib.itoa (n : Int) → c16 (v : Int) = n) := fun n hn e => by
    rw [he n hn e]; exact c16_nat hn
  have hc := c16_lt (v : Int)
  generalize c16 (v : Int) = c at *
  have hbw : Below w.heap.size w w1 := hb0.trans (hb.mono hb0.size)
  have d0 : w1.cell? ⟨w.heap.size, 0, none⟩ = some (.bool false) := (hb.cell (p := ⟨w.heap.size, 0, none⟩) (by simp)).trans (by simp [go_sem])
  have d1 : w1.cell? ⟨w.heap.size, 1, none⟩ = some (.bool false) := (hb.cell (p := ⟨w.heap.size, 1, none⟩) (by simp)).trans (by simp [go_sem])
  have d2 : w1.cell? ⟨w.heap.size, 2, none⟩ = some (.int .u16 0) := (hb.cell (p := ⟨w.heap.size, 2, none⟩) (by simp)).trans (by simp [go_sem])
  have f0 : w1.frozen? ⟨w.heap.size, 0, none⟩ = false := (hb.frozen (p := ⟨w.heap.size, 0, none⟩) (by simp)).trans (by simp [go_sem])
  have f1 : w1.frozen? ⟨w.heap.size, 1, none⟩ = false := (hb.frozen (p := ⟨w.heap.size, 1, none⟩) (by simp)).trans (by simp [go_sem])
  have f2 : w1.frozen? ⟨w.heap.size, 2, none⟩ = false := (hb.frozen (p := ⟨w.heap.size, 2, none⟩) (by simp)).trans (by simp [go_sem])
  have HB : Hid (Below w.heap.size w w1) := hbw
  clear hb hb0 he hbw HU HS HS1
  have HC : Hid (∀ i, i < 3 → World.cell? (((w1.setCell ⟨w.heap.size, 0, none⟩ (.bool d)).setCell ⟨w.heap.size, 1, none⟩ (.bool la)).setCell ⟨w.heap.size, 2, none⟩ (.int .u16 (c : Int))) ⟨w.heap.size, i, none⟩ = some (cnC d la (c : Int) i)) := fun i hi => by
    have : i = 0 ∨ i = 1 ∨ i = 2 := by omega
    rcases this with rfl | rfl | rfl
    · simp [go_sem, d0, cnC]
    · simp [go_sem, d1, cnC]
    · simp [go_sem, d2, cnC]
  go_wp2
  exact bodyPost_ret (v := .agg (cellsOf 3 (cnC d la (c : Int)))) (resRowX Tryz.results93 rfl HC.out Tryz.underlying30 rfl (by kernel_rfl)) rfl ⟨_, rfl, c, rfl, hc, HE.out, ((HB.out.setCell (p := ⟨_, _, none⟩) (Nat.le_refl _) _).setCell (p := ⟨_, _, none⟩) (Nat.le_refl _) _).setCell (p := ⟨_, _, none⟩) (Nat.le_refl _) _⟩
end Go.Proofs.YtjacgamgjjpllaaGreatDoor

/- The place of an operand, counted round: the document's side. Helper text: no statement is claimed here. -/
namespace Go.Proofs.YtjacgamgjjpllaaGreatDoor
open Go.ChangeShapes Go.WideShapes Go.ChangeAt Go.RowKit

set_option maxHeartbeats 1000000 in
theorem at_any (k n p : Int) (w : World) :
    Calls Tryz.prog 107 #[.agg #[.int .i64 k, .int .i64 n, .int .i64 p]] w fun e w' => e = .returned (.int .i64 (plc k n)) ∧ Below w.heap.size w w' := by
  go_enter Tryz.func107, Tryz.ntmps107
  go_wp2_with fail
  refine (ssize_any k _).mono ?_
  rintro e w1 ⟨rfl, rfl⟩
  have HB1 : Hid (Below w.heap.size w (w.alloc (.cells #[.int .i64 k, .int .i64 n, .int .i64 p] 71))) := one w _
  by_cases h6 : k = 6
  · subst h6
    have hs : (0 : Int) < 8 := by decide
    have hsm := tmod_small (n := n) hs
    have hwr : IntKind.i64.wrap (n.tmod 8) = n.tmod 8 := wrap_small (by omega) (by omega)
    by_cases hn : n.tmod 8 < 0
    · have hw2 : IntKind.i64.wrap (n.tmod 8 + 8) = n.tmod 8 + 8 := wrap_small (by omega) (by omega)
      have HE : Hid (n.tmod 8 + 8 = n % 8) := tmod_neg hs hn
      go_wp2
      go_ret
      refine ⟨?_, HB1.out⟩
      rw [show plc 6 n = n % 8 from rfl, ← HE.out]
      rfl
    · have HE : Hid (n.tmod 8 = n % 8) := tmod_pos hs hn
      go_wp2
      go_ret
      refine ⟨?_, HB1.out⟩
      rw [show plc 6 n = n % 8 from rfl, ← HE.out]
      rfl
  · have hk : (k == 6) = false := by simpa using h6
    have hr : sz4 k = rN (kz k) := if_neg h6
    have HP : Hid (plc k n = if sz4 k = 0 then 0 else n % sz4 k) := rfl
    rw [hr] at HP
    rcases plc_s k h6 with h | h | h | h
    · rw [h] at HP ⊢
      clear hr h
      go_wp2
      go_ret
      exact ⟨by rw [show plc k n = 0 from HP.out]; rfl, HB1.out⟩
    · rw [h] at HP ⊢
      clear hr h
      have hs : (0 : Int) < 16 := by decide
      have hsm := tmod_small (n := n) hs
      have hwr : IntKind.i64.wrap (n.tmod 16) = n.tmod 16 := wrap_small (by omega) (by omega)
      by_cases hn : n.tmod 16 < 0
      · have hw2 : IntKind.i64.wrap (n.tmod 16 + 16) = n.tmod 16 + 16 := wrap_small (by omega) (by omega)
        have HE : Hid (n.tmod 16 + 16 = n % 16) := tmod_neg hs hn
        go_wp2
        go_ret
        refine ⟨?_, HB1.out⟩
        rw [show plc k n = n % 16 from HP.out, ← HE.out]
        rfl
      · have HE : Hid (n.tmod 16 = n % 16) := tmod_pos hs hn
        go_wp2
        go_ret
        refine ⟨?_, HB1.out⟩
        rw [show plc k n = n % 16 from HP.out, ← HE.out]
        rfl
    · rw [h] at HP ⊢
      clear hr h
      have hs : (0 : Int) < 32 := by decide
      have hsm := tmod_small (n := n) hs
      have hwr : IntKind.i64.wrap (n.tmod 32) = n.tmod 32 := wrap_small (by omega) (by omega)
      by_cases hn : n.tmod 32 < 0
      · have hw2 : IntKind.i64.wrap (n.tmod 32 + 32) = n.tmod 32 + 32 := wrap_small (by omega) (by omega)
        have HE : Hid (n.tmod 32 + 32 = n % 32) := tmod_neg hs hn
        go_wp2
        go_ret
        refine ⟨?_, HB1.out⟩
        rw [show plc k n = n % 32 from HP.out, ← HE.out]
        rfl
      · have HE : Hid (n.tmod 32 = n % 32) := tmod_pos hs hn
        go_wp2
        go_ret
        refine ⟨?_, HB1.out⟩
        rw [show plc k n = n % 32 from HP.out, ← HE.out]
        rfl
    · rw [h] at HP ⊢
      clear hr h
      have hs : (0 : Int) < 64 := by decide
      have hsm := tmod_small (n := n) hs
      have hwr : IntKind.i64.wrap (n.tmod 64) = n.tmod 64 := wrap_small (by omega) (by omega)
      by_cases hn : n.tmod 64 < 0
      · have hw2 : IntKind.i64.wrap (n.tmod 64 + 64) = n.tmod 64 + 64 := wrap_small (by omega) (by omega)
        have HE : Hid (n.tmod 64 + 64 = n % 64) := tmod_neg hs hn
        go_wp2
        go_ret
        refine ⟨?_, HB1.out⟩
        rw [show plc k n = n % 64 from HP.out, ← HE.out]
        rfl
      · have HE : Hid (n.tmod 64 = n % 64) := tmod_pos hs hn
        go_wp2
        go_ret
        refine ⟨?_, HB1.out⟩
        rw [show plc k n = n % 64 from HP.out, ← HE.out]
        rfl
end Go.Proofs.YtjacgamgjjpllaaGreatDoor

/- MemPutReal of the document. Helper text: no statement is claimed here. -/
namespace Go.Proofs.YtjacgamgjjpllaaGreatDoor
open Go.ChangeShapes Go.WideShapes Go.ChangeAt Go.RowKit

attribute [local go_sem] store_float2
set_option maxHeartbeats 1000000 in
set_option maxRecDepth 10000 in
theorem sPutR_any (m : Mm) (k n p : Int) (v : Nat) (w : World) :
    Calls Tryz.prog 104 #[m.val, .agg #[.int .i64 k, .int .i64 n, .int .i64 p], .float .f64 v] w fun e w' => e = .returned (m.putR k n v).val ∧ Below w.heap.size w w' := by
  have hz : ∀ w, (zeroValue 37).run Tryz.prog w = .ok (.agg zeroM.cells) w := fun _ => by kernel_rfl
  unfold Mm.val
  by_cases hk : k = 10
  case neg =>
    rw [show m.putR k n v = m from if_neg hk]
    have hk' : (k == 10) = false := by simpa using hk
    clear hk
    go_enter Tryz.func104, Tryz.ntmps104
    go_upto_region 1 with fail
    have HB : Hid (Below w.heap.size w (((w.alloc (.cells m.cells 37)).alloc (.cells #[.int .i64 k, .int .i64 n, .int .i64 p] 71)).alloc (.cells zeroM.cells 37))) := (((Below.refl _ _).alloc (Nat.le_refl _) _).alloc (by simp) _).alloc (by simp; omega) _
    have HI : Hid (MemAt (((w.alloc (.cells m.cells 37)).alloc (.cells #[.int .i64 k, .int .i64 n, .int .i64 p] 71)).alloc (.cells zeroM.cells 37)) w.heap.size m) := ((RowAt.new w 37 136 m.cell).alloc _).alloc _
    have HR : Hid (MemAt (((w.alloc (.cells m.cells 37)).alloc (.cells #[.int .i64 k, .int .i64 n, .int .i64 p] 71)).alloc (.cells zeroM.cells 37)) (w.heap.size + 1 + 1) zeroM) := by
      have := RowAt.new ((w.alloc (.cells m.cells 37)).alloc (.cells #[.int .i64 k, .int .i64 n, .int .i64 p] 71)) 37 136 zeroM.cell
      rw [show ((w.alloc (.cells m.cells 37)).alloc (.cells #[.int .i64 k, .int .i64 n, .int .i64 p] 71)).heap.size = w.heap.size + 1 + 1 by simp] at this
      exact this
    have a0 : World.cell? (((w.alloc (.cells m.cells 37)).alloc (.cells #[.int .i64 k, .int .i64 n, .int .i64 p] 71)).alloc (.cells zeroM.cells 37)) ⟨w.heap.size + 1, 0, none⟩ = some (.int .i64 k) := by simp [go_sem]
    have a1 : World.cell? (((w.alloc (.cells m.cells 37)).alloc (.cells #[.int .i64 k, .int .i64 n, .int .i64 p] 71)).alloc (.cells zeroM.cells 37)) ⟨w.heap.size + 1, 1, none⟩ = some (.int .i64 n) := by simp [go_sem]
    have a2 : World.cell? (((w.alloc (.cells m.cells 37)).alloc (.cells #[.int .i64 k, .int .i64 n, .int .i64 p] 71)).alloc (.cells zeroM.cells 37)) ⟨w.heap.size + 1, 2, none⟩ = some (.int .i64 p) := by simp [go_sem]
    generalize (((w.alloc (.cells m.cells 37)).alloc (.cells #[.int .i64 k, .int .i64 n, .int .i64 p] 71)).alloc (.cells zeroM.cells 37)) = V at *
    clear hz
    go_wp2_with (first
      | refine wpList_rowLoad rfl 37 (.tmp 3) rfl _ 0 136 m.cell rfl HI.out (by omega) (fun i _ => by rw [Nat.zero_add]) Tryz.underlying37 rfl (by kernel_rfl) ?_
      | (refine wpList_rowStore rfl 37 (.tmp 6) (.tmp 15) rfl _ 0 136 m.cell m.cell rfl rfl HR.out (by omega) (fun i _ => cell_one m i) (fun i hi => by rw [if_pos ⟨by omega, by omega⟩, Nat.sub_zero]) (by kernel_rfl) ?_; intro w2 HZ2 hz2 hk2 hb2))
    exact bodyPost_ret (v := .agg m.cells) (resRow Tryz.results104 rfl HZ2 Tryz.underlying37 rfl (by kernel_rfl)) rfl ⟨rfl, hb2 _ _ HB.out (by omega)⟩
  case pos =>
    subst hk
    obtain ⟨q, hq⟩ := Int.eq_ofNat_of_zero_le (plc_range 10 n).1
    have hlt : q < 16 := by
      have := (plc_range 10 n).2
      rw [hq, show sz4 10 = 16 from rfl] at this
      omega
    have hlt' : (q : Int) < 16 := by omega
    have HC : Hid (∀ i, i < 136 → (if i = 117 + q then .float .f64 v else m.cell i) = (m.putR 10 n v).cell i) := putR_cell m n v q hq hlt
    generalize m.putR 10 n v = m' at *
    go_enter Tryz.func104, Tryz.ntmps104
    go_upto_region 1 with fail
    have HB : Hid (Below w.heap.size w (((w.alloc (.cells m.cells 37)).alloc (.cells #[.int .i64 10, .int .i64 n, .int .i64 p] 71)).alloc (.cells zeroM.cells 37))) := (((Below.refl _ _).alloc (Nat.le_refl _) _).alloc (by simp) _).alloc (by simp; omega) _
    have HI : Hid (MemAt (((w.alloc (.cells m.cells 37)).alloc (.cells #[.int .i64 10, .int .i64 n, .int .i64 p] 71)).alloc (.cells zeroM.cells 37)) w.heap.size m) := ((RowAt.new w 37 136 m.cell).alloc _).alloc _
    have HR : Hid (MemAt (((w.alloc (.cells m.cells 37)).alloc (.cells #[.int .i64 10, .int .i64 n, .int .i64 p] 71)).alloc (.cells zeroM.cells 37)) (w.heap.size + 1 + 1) zeroM) := by
      have := RowAt.new ((w.alloc (.cells m.cells 37)).alloc (.cells #[.int .i64 10, .int .i64 n, .int .i64 p] 71)) 37 136 zeroM.cell
      rw [show ((w.alloc (.cells m.cells 37)).alloc (.cells #[.int .i64 10, .int .i64 n, .int .i64 p] 71)).heap.size = w.heap.size + 1 + 1 by simp] at this
      exact this
    have a0 : World.cell? (((w.alloc (.cells m.cells 37)).alloc (.cells #[.int .i64 10, .int .i64 n, .int .i64 p] 71)).alloc (.cells zeroM.cells 37)) ⟨w.heap.size + 1, 0, none⟩ = some (.int .i64 10) := by simp [go_sem]
    have a1 : World.cell? (((w.alloc (.cells m.cells 37)).alloc (.cells #[.int .i64 10, .int .i64 n, .int .i64 p] 71)).alloc (.cells zeroM.cells 37)) ⟨w.heap.size + 1, 1, none⟩ = some (.int .i64 n) := by simp [go_sem]
    have a2 : World.cell? (((w.alloc (.cells m.cells 37)).alloc (.cells #[.int .i64 10, .int .i64 n, .int .i64 p] 71)).alloc (.cells zeroM.cells 37)) ⟨w.heap.size + 1, 2, none⟩ = some (.int .i64 p) := by simp [go_sem]
    generalize (((w.alloc (.cells m.cells 37)).alloc (.cells #[.int .i64 10, .int .i64 n, .int .i64 p] 71)).alloc (.cells zeroM.cells 37)) = V at *
    clear hz
    go_wp2_with fail
    refine (at_any 10 n p _).mono ?_
    rw [hq]
    rintro e w1 ⟨rfl, hb1⟩
    have HB1 : Hid (Below w.heap.size w w1) := HB.out.trans (hb1.mono HB.out.size)
    have HI1 : Hid (MemAt w1 w.heap.size m) := HI.out.to hb1
    have HR1 : Hid (MemAt w1 (w.heap.size + 1 + 1) zeroM) := HR.out.to hb1
    have c0 := HI1.out.cell (i := 117 + q) (by omega)
    have f0 := HI1.out.frozen (117 + q)
    have HS : Hid (MemAt (w1.setCell ⟨w.heap.size, 117 + q, none⟩ (.float .f64 v)) w.heap.size m') := (HI1.out.set (117 + q) (.float .f64 v)).ext HC.out
    have HR2 : Hid (MemAt (w1.setCell ⟨w.heap.size, 117 + q, none⟩ (.float .f64 v)) (w.heap.size + 1 + 1) zeroM) := HR1.out.other _ (by omega)
    have HB2 : Hid (Below w.heap.size w (w1.setCell ⟨w.heap.size, 117 + q, none⟩ (.float .f64 v))) := HB1.out.setCell (p := ⟨_, _, none⟩) (Nat.le_refl _) _
    clear hb1 HB HI HR HB1 HI1 HR1 HC hq a0 a1 a2
    go_wp2_with (first
      | refine wpList_rowLoad rfl 37 (.tmp 3) rfl _ 0 136 m'.cell rfl HS.out (by omega) (fun i _ => by rw [Nat.zero_add]) Tryz.underlying37 rfl (by kernel_rfl) ?_
      | (refine wpList_rowStore rfl 37 (.tmp 6) (.tmp 15) rfl _ 0 136 m'.cell m'.cell rfl rfl HR2.out (by omega) (fun i _ => cell_one m' i) (fun i hi => by rw [if_pos ⟨by omega, by omega⟩, Nat.sub_zero]) (by kernel_rfl) ?_; intro w2 HZ2 hz2 hk2 hb2))
    exact bodyPost_ret (v := .agg m'.cells) (resRow Tryz.results104 rfl HZ2 Tryz.underlying37 rfl (by kernel_rfl)) rfl ⟨rfl, hb2 _ _ HB2.out (by omega)⟩
end Go.Proofs.YtjacgamgjjpllaaGreatDoor
