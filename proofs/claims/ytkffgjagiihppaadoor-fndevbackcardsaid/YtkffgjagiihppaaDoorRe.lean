/- The drawing of texts: of, DrawDevText, DrawDevRead. Helper text: no statement is claimed here. -/
import Derived.Test.YtkffgjagiihppaaDoorRc
import Derived.Test.YtkffgjagiihppaaDoorSd
namespace Go.Proofs.YtkffgjagiihppaaDoor
open Go.ChangeShapes Go.WideShapes Go.ChangeAt Go.RowKit

/-- A list of n texts lies in block lb, each of at most 100 bytes. -/
def Strs (w : World) (lb n : Nat) : Prop := ∀ i, i < n → ∃ s : ByteArray, w.cell? ⟨lb, i, none⟩ = some (.string s) ∧ s.size ≤ 100
def shortB : Value → Bool | .string s => decide (s.size ≤ 100) | _ => false
theorem strs_all (w : World) (cs : Array Value) (t : TypeId) (n : Nat) (hn : cs.size = n) (h : cs.toList.all shortB = true) : Strs (w.alloc (.cells cs t)) w.heap.size n := by
  intro i hi
  have hi' : i < cs.size := by omega
  have hs := List.all_eq_true.1 h cs[i] (by simp)
  rw [World.cell?_alloc_new, Array.getElem?_eq_getElem hi']
  generalize cs[i] = v at *
  cases v <;> simp [shortB] at hs
  exact ⟨_, rfl, hs⟩

set_option maxHeartbeats 400000 in
theorem of_any (rb m lb n : Nat) (w : World) (hn : 1 ≤ n) (hn2 : n ≤ 100) (hr : Rd w rb m) (hm : m ≤ 1000000) (hl : Strs w lb n) (hlr : lb ≠ rb) :
    Calls Tryd.prog 33 #[.pointer (some ⟨rb, 0, none⟩), .slice (some ⟨lb, 0, none⟩) n n] w fun e w' => ∃ s : ByteArray, e = .returned (.string s) ∧ s.size ≤ 100 ∧ Rd w' rb (m + 1) ∧ Step rb w w' := by
  go_enter Tryd.func33, Tryd.ntmps33
  go_wp2_with fail
  refine (pick_any rb m n _ (by omega) hr hm).mono ?_
  rintro e w' ⟨v, rfl, v0, v1, -, hr', st⟩
  obtain ⟨k, rfl⟩ := Int.eq_ofNat_of_zero_le v0
  have hk : (k : Int) < n := v1 (by omega)
  obtain ⟨z, hz, z0⟩ := hl k (by omega)
  have hz' : w'.cell? ⟨lb, k, none⟩ = some (.string z) := by
    rw [st.cell lb k (World.block_lt_of_cell? w ⟨lb, k, none⟩ hz) hlr]; exact hz
  clear v1 hl
  go_wp2
  go_ret
  exact ⟨z, rfl, z0, hr', st⟩

set_option maxHeartbeats 400000 in
theorem drawText_any (a : Option Addr) (len cap : Nat) (w : World) (h : IsRow w a len) (hlc : len ≤ cap) :
    Calls Tryd.prog 5 #[.slice a len cap] w (DrawnNew w) := by
  have hH : Hid (IsRow w a len) := h
  clear h
  go_enter Tryd.func5, Tryd.ntmps5
  go_wp2_with fail
  refine (open_any a len cap _ (hH.out.alloc _) hlc).mono ?_
  rintro e w1 ⟨rfl, hr1, hb1⟩
  have hrb : (w.alloc (.cells #[.int .i64 0, .int .i64 0, .int .i64 0] 24)).heap.size = w.heap.size + 1 := by simp
  rw [hrb] at hr1
  have oa : Own w1 w.heap.size (.int .i64 0) (.int .i64 0) (.int .i64 0) := (Own.new w (.int .i64 0) (.int .i64 0) (.int .i64 0)).below hb1
  have sw : Below w.heap.size w w1 := of_one hb1
  clear hb1
  go_wp2_with fail
  refine (argAny_any (w.heap.size + 1) 0 _ hr1 (by omega)).mono ?_
  rintro e w2 ⟨k, n, p, rfl, hk, hn, hp, hr2, st2⟩
  have oa2 := oa.step st2 (by omega)
  have sw2 : Below w.heap.size w w2 := sw.trans (st2.below (by omega) sw.size)
  obtain ⟨⟨r0, r1, r2⟩, y0, y1, y2⟩ := oa2
  go_wp2
  exact bodyPost_ret (v := .agg #[.int .i64 k, .int .i64 n, .int .i64 p]) (resArg Tryd.results5 rfl (put3 ⟨r0, r1, r2⟩)) rfl ⟨k, n, p, rfl, hk, hn, hp, put3_below sw2 (Nat.le_refl _)⟩

theorem txt_len (k n p : Int) : (txt k n p).length ≤ 100 := by
  unfold txt
  split
  · rename_i h
    split
    · rename_i h1; subst h1
      have := okB_int h
      have := Lib.itoa_length_le n (by omega) (by omega)
      omega
    split
    · rename_i h2; subst h2
      have := okB_dec h
      have := decT_len n p.toNat (by omega) (by omega) (by omega)
      omega
    split
    · unfold wordL; split <;> simp
    · rename_i h1 h2 h3
      have := okB_device h1 h2 h3 h
      have a := Lib.itoa_length_le n (by omega) (by omega)
      have b := rL_len (kz k)
      simp; omega
  · simp

theorem sz_of (t : List UInt8) : (⟨t.toArray⟩ : ByteArray).size = t.length := by simp [ByteArray.size]
def DrawnStr (w : World) (e : Ending) (w' : World) : Prop := ∃ s : ByteArray, e = .returned (.string s) ∧ s.size ≤ 1000 ∧ Below w.heap.size w w'

set_option maxHeartbeats 2000000 in
theorem drawRead_any (a : Option Addr) (len cap : Nat) (w : World) (h : IsRow w a len) (hlc : len ≤ cap) :
    Calls Tryd.prog 10 #[.slice a len cap] w (DrawnStr w) := by
  have hH : Hid (IsRow w a len) := h
  clear h
  go_enter Tryd.func10, Tryd.ntmps10
  go_wp2_with fail
  refine (open_any a len cap _ hH.out hlc).mono ?_
  rintro e w1 ⟨rfl, hr1, hb1⟩
  go_wp2_with fail
  refine (argAny_any w.heap.size 0 _ hr1 (by omega)).mono ?_
  rintro e w2 ⟨k, n, p, rfl, hk, hn, hp, hr2, st2⟩
  have sw2 : Below w.heap.size w w2 := hb1.trans (st2.below (by omega) hb1.size)
  clear hb1 hr1 st2
  go_wp2_with fail
  refine (stext_any _ _ _ _).mono ?_
  rintro e w3 ⟨rfl, hb3⟩
  have hr3 := hr2.to hb3
  have sw3 : Below w.heap.size w w3 := sw2.trans (hb3.mono sw2.size)
  have htl := txt_len k n p
  generalize hgt : txt k n p = t at *
  clear hgt hb3 hr2 sw2
  go_wp2_with fail
  refine (pick_any w.heap.size 8 9 _ (by omega) hr3 (by omega)).mono ?_
  rintro e w4 ⟨u, rfl, u0, u1, -, hr4, st4⟩
  have sw4 : Below w.heap.size w w4 := sw3.trans (st4.below (by omega) sw3.size)
  have hlt4 := hr4.lt
  clear st4 sw3 hr3 u1
  by_cases h0 : u = 0
  · subst h0
    go_wp2_with fail
    refine (of_any w.heap.size 9 w4.heap.size 43 _ (by omega) (by omega) (hr4.alloc _) (by omega) (strs_all _ _ _ _ rfl rfl) (by omega)).mono ?_
    rintro e w5 ⟨z, rfl, hz, hr5, st5⟩
    have sw5 : Below w.heap.size w w5 := (sw4.alloc sw4.size _).trans (st5.below (by omega) (by have := sw4.size; simp; omega))
    go_wp2
    go_ret
    exact ⟨_, rfl, by omega, sw5⟩
  have h0' : (u == 0) = false := by simpa using h0
  by_cases h1 : u = 1
  · subst h1
    go_wp2_with fail
    refine (of_any w.heap.size 9 w4.heap.size 5 _ (by omega) (by omega) (hr4.alloc _) (by omega) (strs_all _ _ _ _ rfl rfl) (by omega)).mono ?_
    rintro e w5 ⟨z, rfl, hz, hr5, st5⟩
    have sw5 : Below w.heap.size w w5 := (sw4.alloc sw4.size _).trans (st5.below (by omega) (by have := sw4.size; simp; omega))
    go_wp2
    go_ret
    exact ⟨_, rfl, by have := sz_of t; rw [ByteArray.size_append]; omega, sw5⟩
  have h1' : (u == 1) = false := by simpa using h1
  by_cases h2 : u = 2
  · subst h2
    go_wp2_with fail
    refine (of_any w.heap.size 9 w4.heap.size 5 _ (by omega) (by omega) (hr4.alloc _) (by omega) (strs_all _ _ _ _ rfl rfl) (by omega)).mono ?_
    rintro e w5 ⟨z, rfl, hz, hr5, st5⟩
    have sw5 : Below w.heap.size w w5 := (sw4.alloc sw4.size _).trans (st5.below (by omega) (by have := sw4.size; simp; omega))
    go_wp2
    go_ret
    exact ⟨_, rfl, by have := sz_of t; rw [ByteArray.size_append]; omega, sw5⟩
  have h2' : (u == 2) = false := by simpa using h2
  clear h0 h1 h2
  go_wp2
  go_ret
  exact ⟨_, rfl, by show t.toArray.size ≤ 1000; simp; omega, sw4⟩
end Go.Proofs.YtkffgjagiihppaaDoor
