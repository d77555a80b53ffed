/- The drawing of contacts and coils: where their operands lie. Helper text: no statement is claimed here. -/
import Derived.Test.YtlddkhhaclfmiaaGreatDoorP18
import Derived.Test.YtlddkhhaclfmiaaGreatDoorP19
import Derived.Test.YtlddkhhaclfmiaaGreatDoorP17
import Derived.Test.YtlddkhhaclfmiaaGreatDoorP11
import Derived.Test.YtlddkhhaclfmiaaGreatDoorP06
namespace Go.Proofs.YtlddkhhaclfmiaaGreatDoor
open Go.ChangeShapes Go.WideShapes Go.ChangeAt Go.RowKit

/-- Operands of a contact or coil in memory made behind w, not in block E. -/
def Far (b E : Nat) (W : World) (p : Option Addr) (ys : List Ar) (cap : Nat) : Prop := (p = none ∧ ys = [] ∧ cap = 0) ∨ ∃ B, p = some ⟨B, 0, none⟩ ∧ b < B ∧ B ≠ E ∧ B < W.heap.size ∧ ArgsAt W B ys
theorem Far.of {b E : Nat} {W : World} {p : Option Addr} {ys : List Ar} {cap base : Nat} (h : Els base W p ys cap) (hb : b < base) (hE : E < base ∨ W.heap.size ≤ E) : Far b E W p ys cap := by
  rcases h with h | ⟨B, rfl, h1, h2, h3⟩
  · exact .inl h
  · exact .inr ⟨B, rfl, by omega, by omega, h2, h3⟩
theorem Far.step {rb b E : Nat} {W W' : World} {p : Option Addr} {ys : List Ar} {cap : Nat} (h : Far b E W p ys cap) (st : Step rb W W') (hr : rb ≤ b) : Far b E W' p ys cap := by
  rcases h with h | ⟨B, rfl, h1, h2, h3, h4⟩
  · exact .inl h
  · exact .inr ⟨B, rfl, h1, h2, Nat.lt_of_lt_of_le h3 st.size, h4.step st h3 (by omega)⟩
theorem Far.setE {b E i : Nat} {v : Value} {W : World} {p : Option Addr} {ys : List Ar} {cap : Nat} (h : Far b E W p ys cap) : Far b E (W.setCell ⟨E, i, none⟩ v) p ys cap := by
  rcases h with h | ⟨B, rfl, h1, h2, h3, h4⟩
  · exact .inl h
  · exact .inr ⟨B, rfl, h1, h2, by simpa using h3, h4.set (by omega)⟩
theorem Far.elsB {rb b E : Nat} {W : World} {p : Option Addr} {ys : List Ar} {cap : Nat} (h : Far b E W p ys cap) (hr : rb ≤ b) : ElsB rb W p ys cap := by
  rcases h with h | ⟨B, rfl, h1, h2, h3, h4⟩
  · exact .inl h
  · exact .inr ⟨B, rfl, by omega, h3, h4⟩
theorem Far.els {b E c i j base : Nat} {x y : Value} {W : World} {p : Option Addr} {ys : List Ar} {cap : Nat} (h : Far b E W p ys cap) (hc : c ≤ b) (hb : base ≤ b) : Els base ((W.setCell ⟨c, i, none⟩ x).setCell ⟨c, j, none⟩ y) p ys cap := by
  rcases h with h | ⟨B, rfl, h1, h2, h3, h4⟩
  · exact .inl h
  · exact .inr ⟨B, rfl, by omega, by simpa using h3, (h4.set (by omega)).set (by omega)⟩

/-- A drawn contact or coil in a variable of the call's own. -/
def EBox (w : World) (L rb m E : Nat) (W : World) : Prop := ∃ (op : Int) (ys : List Ar) (p : Option Addr) (cap : Nat), Sm op ∧ (∀ a ∈ ys, Sm a.1 ∧ Sm a.2.1 ∧ Sm a.2.2) ∧ ys.length ≤ L ∧ ys.length ≤ cap ∧
  Own2 W E (.int .i64 op) (.slice p ys.length cap) ∧ Far w.heap.size E W p ys cap ∧ Own2 W w.heap.size (.int .i64 0) (.slice none 0 0) ∧ Rd W rb m ∧ Step rb w W

/-- What the drawing of a contact or coil out of bytes ends in. -/
def EDrawnNew (L : Nat) (w : World) (e : Ending) (w' : World) : Prop := ∃ (op : Int) (ys : List Ar) (p : Option Addr) (cap : Nat), e = .returned (elemV op p ys.length cap) ∧
  Sm op ∧ (∀ a ∈ ys, Sm a.1 ∧ Sm a.2.1 ∧ Sm a.2.2) ∧ ys.length ≤ L ∧ ys.length ≤ cap ∧ Els w.heap.size w' p ys cap ∧ Below w.heap.size w w'
theorem Els.is {base : Nat} {W : World} {p : Option Addr} {ys : List Ar} {cap : Nat} (h : Els base W p ys cap) : ArgsIs W p ys := by
  rcases h with ⟨-, h, -⟩ | ⟨B, rfl, -, h2, h3⟩
  · exact .inl h
  · exact .inr ⟨B, rfl, h2, h3⟩
theorem Els.mono {base base' : Nat} {W : World} {p : Option Addr} {ys : List Ar} {cap : Nat} (h : Els base W p ys cap) (hb : base' ≤ base) : Els base' W p ys cap := by
  rcases h with h | ⟨B, rfl, h1, h2⟩
  · exact .inl h
  · exact .inr ⟨B, rfl, by omega, h2⟩
end Go.Proofs.YtlddkhhaclfmiaaGreatDoor

/- The drawing of contacts and coils: l3Any. Helper text: no statement is claimed here. -/
namespace Go.Proofs.YtlddkhhaclfmiaaGreatDoor
open Go.ChangeShapes Go.WideShapes Go.ChangeAt Go.RowKit

set_option maxHeartbeats 1000000 in
theorem l3Any_any (rb m : Nat) (w : World) (hr : Rd w rb m) (hm : m ≤ 500) :
    Calls Tryz.prog 17 #[.pointer (some ⟨rb, 0, none⟩)] w (EDrawn 4 rb (m + 100) w) := by
  have hlt := hr.lt
  have hne : w.heap.size ≠ rb := by omega
  go_enter Tryz.func17, Tryz.ntmps17
  go_wp2_with fail
  refine (l3Coil_any rb m _ (hr.alloc _) (by omega)).mono ?_
  rintro e w1 ⟨op, ys, p, cap, rfl, hop, hys, hl, hlc, hel, hr1, st1⟩
  have o1 := (Own2.new w (.int .i64 0) (.slice none 0 0)).step st1 hne
  have sw1 : Step rb w w1 := (Step.alloc rb w _).trans st1
  have hz1 := o1.lt
  have f1 : Far w.heap.size w1.heap.size w1 p ys cap := Far.of hel (by simp) (.inr (Nat.le_refl _))
  clear hel st1
  go_wp2_with fail
  refine (pick_any rb (m + 40) 2 _ (by omega) (hr1.alloc _) (by omega)).mono ?_
  rintro e w2 ⟨u, rfl, u0, u1, -, hr2, st2⟩
  have e2 := (Own2.new w1 (.int .i64 op) (.slice p ys.length cap)).step st2 (by omega)
  have o2 := (o1.alloc _).step st2 hne
  have f2 := (f1.step (Step.alloc rb w1 _) (by omega)).step st2 (by omega)
  have sw2 := (sw1.trans (Step.alloc rb w1 _)).trans st2
  have hz2 := e2.lt
  clear o1 f1 sw1 st2 hr1 u1
  go_upto_if 8 with fail
  go_cut [] from 7 to 10 (fun wx => EBox w 3 rb (m + 71) w1.heap.size wx)
  case first =>
    by_cases hu : u = 0
    · subst hu
      go_wp2_with fail
      refine (l3Contact_any rb (m + 41) _ hr2 (by omega)).mono ?_
      rintro e w3 ⟨op', ys', p', cap', rfl, hop', hys', hl', hlc', hel', hr3, st3⟩
      have e3 := e2.step st3 (by omega)
      have o3 := o2.step st3 hne
      have HT : Hid (EBox w 3 rb (m + 71) w1.heap.size ((w3.setCell ⟨w1.heap.size, 0, none⟩ (.int .i64 op')).setCell ⟨w1.heap.size, 1, none⟩ (.slice p' ys'.length cap'))) :=
        ⟨op', ys', p', cap', hop', hys', hl', hlc', e3.put _ _, ((Far.of (b := w.heap.size) (E := w1.heap.size) hel' (by omega) (.inl hz2)).setE).setE, (o3.set (by omega)).set (by omega), (hr3.set _ _ _ (by omega)).set _ _ _ (by omega), ((sw2.trans st3).setNew _ _ _ (by omega)).setNew _ _ _ (by omega)⟩
      obtain ⟨⟨c0, c1⟩, z0, z1⟩ := e3
      go_wp2_with fail
      go_meet
      exact HT.out
    · have hu' : (u == 0) = false := by simpa using hu
      clear hu
      have HT : Hid (EBox w 3 rb (m + 71) w1.heap.size w2) := ⟨op, ys, p, cap, hop, hys, hl, hlc, e2, f2, o2, hr2.mono (by omega), sw2⟩
      go_wp2_with fail
      go_meet
      exact HT.out
  case rest =>
  clear e2 o2 f2 sw2 hop hys hl hlc
  obtain ⟨op3, ys3, p3, cap3, hop, hys, hl, hlc, e3, f3, o3, hr3, sw3⟩ := hcut
  go_wp2_with fail
  refine (pick_any rb (m + 71) 16 _ (by omega) hr3 (by omega)).mono ?_
  rintro e w5 ⟨v, rfl, v0, v1, -, hr5, st5⟩
  have e5 := e3.step st5 (by omega)
  have o5 := o3.step st5 hne
  have f5 := f3.step st5 (by omega)
  have sw5 := sw3.trans st5
  clear e3 f3 o3 sw3 st5 v1
  have e5c := e5
  obtain ⟨⟨c0, c1⟩, -, -⟩ := e5c
  by_cases hv : v = 0
  · subst hv
    go_wp2_with fail
    refine (spoilE_any 3 rb (m + 72) op3 ys3 p3 cap3 _ hr5 (by omega) (f5.elsB (by omega)) hop hys hl (by omega)).mono ?_
    rintro e w6 ⟨op6, ys6, p6, cap6, rfl, hop6, hys6, hl6, hlc6, hel6, hr6, st6⟩
    have o6 := o5.step st6 hne
    have hz5 := o5.lt
    have f6 : Far w.heap.size w.heap.size w6 p6 ys6 cap6 := Far.of hel6 (by omega) (.inl hz5)
    have o6c := o6
    obtain ⟨⟨d0, d1⟩, z0, z1⟩ := o6c
    go_wp2
    exact bodyPost_ret (v := elemV op6 p6 ys6.length cap6) (resElem (b := w.heap.size) Tryz.results17 rfl (o6.put _ _).1) rfl ⟨op6, ys6, p6, cap6, rfl, hop6, hys6, hl6, hlc6, f6.els (Nat.le_refl _) (Nat.le_refl _), ((hr6.mono (by omega)).set _ _ _ (by omega)).set _ _ _ (by omega), ((sw5.trans st6).setNew _ _ _ (by omega)).setNew _ _ _ (by omega)⟩
  · have hv' : (v == 0) = false := by simpa using hv
    clear hv
    have o5c := o5
    obtain ⟨⟨d0, d1⟩, z0, z1⟩ := o5c
    go_wp2
    exact bodyPost_ret (v := elemV op3 p3 ys3.length cap3) (resElem (b := w.heap.size) Tryz.results17 rfl (o5.put _ _).1) rfl ⟨op3, ys3, p3, cap3, rfl, hop, hys, by omega, hlc, f5.els (Nat.le_refl _) (Nat.le_refl _), ((hr5.mono (by omega)).set _ _ _ (by omega)).set _ _ _ (by omega), (sw5.setNew _ _ _ (by omega)).setNew _ _ _ (by omega)⟩
end Go.Proofs.YtlddkhhaclfmiaaGreatDoor

/- The drawing of one text out of a list. Helper text: no statement is claimed here. -/
namespace Go.Proofs.YtlddkhhaclfmiaaGreatDoor
open Go.ChangeShapes Go.WideShapes Go.ChangeAt Go.RowKit

/-- A list of n texts lies in block lb, each of at most 100 bytes. -/
def Strs (w : World) (lb n : Nat) : Prop := ∀ i, i < n → ∃ s : ByteArray, w.cell? ⟨lb, i, none⟩ = some (.string s) ∧ s.size ≤ 100
def shortB : Value → Bool | .string s => decide (s.size ≤ 100) | _ => false
theorem strs_all (w : World) (cs : Array Value) (t : TypeId) (n : Nat) (hn : cs.size = n) (h : cs.toList.all shortB = true) : Strs (w.alloc (.cells cs t)) w.heap.size n := by
  intro i hi
  have hi' : i < cs.size := by omega
  have hs := List.all_eq_true.1 h cs[i] (by simp)
  rw [World.cell?_alloc_new, Array.getElem?_eq_getElem hi']
  generalize cs[i] = v at *
  cases v <;> simp [shortB] at hs
  exact ⟨_, rfl, hs⟩

set_option maxHeartbeats 400000 in
theorem of_any (rb m lb n : Nat) (w : World) (hn : 1 ≤ n) (hn2 : n ≤ 100) (hr : Rd w rb m) (hm : m ≤ 1000000) (hl : Strs w lb n) (hlr : lb ≠ rb) :
    Calls Tryz.prog 33 #[.pointer (some ⟨rb, 0, none⟩), .slice (some ⟨lb, 0, none⟩) n n] w fun e w' => ∃ s : ByteArray, e = .returned (.string s) ∧ s.size ≤ 100 ∧ Rd w' rb (m + 1) ∧ Step rb w w' := by
  go_enter Tryz.func33, Tryz.ntmps33
  go_wp2_with fail
  refine (pick_any rb m n _ (by omega) hr hm).mono ?_
  rintro e w' ⟨v, rfl, v0, v1, -, hr', st⟩
  obtain ⟨k, rfl⟩ := Int.eq_ofNat_of_zero_le v0
  have hk : (k : Int) < n := v1 (by omega)
  obtain ⟨z, hz, z0⟩ := hl k (by omega)
  have hz' : w'.cell? ⟨lb, k, none⟩ = some (.string z) := by
    rw [st.cell lb k (World.block_lt_of_cell? w ⟨lb, k, none⟩ hz) hlr]; exact hz
  clear v1 hl
  go_wp2
  go_ret
  exact ⟨z, rfl, z0, hr', st⟩

end Go.Proofs.YtlddkhhaclfmiaaGreatDoor

/- The drawing of contacts and coils, and of their texts, out of bytes: DrawElemText, DrawElemRead. Helper text: no statement is claimed here. -/
namespace Go.Proofs.YtlddkhhaclfmiaaGreatDoor
open Go.ChangeShapes Go.WideShapes Go.ChangeAt Go.RowKit

set_option maxHeartbeats 400000 in
theorem drawEText_any (a : Option Addr) (len cap : Nat) (w : World) (h : IsRow w a len) (hlc : len ≤ cap) :
    Calls Tryz.prog 5 #[.slice a len cap] w (EDrawnNew 4 w) := by
  have hH : Hid (IsRow w a len) := h
  clear h
  go_enter Tryz.func5, Tryz.ntmps5
  go_wp2_with fail
  refine (open_any a len cap _ (hH.out.alloc _) hlc).mono ?_
  rintro e w1 ⟨rfl, hr1, hb1⟩
  have hrb : (w.alloc (.cells #[.int .i64 0, .slice none 0 0] 25)).heap.size = w.heap.size + 1 := by simp
  rw [hrb] at hr1
  have o1 : Own2 w1 w.heap.size (.int .i64 0) (.slice none 0 0) := (Own2.new w (.int .i64 0) (.slice none 0 0)).below hb1
  have sw1 : Below w.heap.size w w1 := of_one hb1
  have hz1 := hr1.lt
  clear hb1
  go_wp2_with fail
  refine (l3Any_any (w.heap.size + 1) 0 _ hr1 (by omega)).mono ?_
  rintro e w2 ⟨op, ys, p, cp, rfl, hop, hys, hl, hlc2, hel, hr2, st2⟩
  have o2 := o1.step st2 (by omega)
  have sw2 : Below w.heap.size w w2 := sw1.trans (st2.below (by omega) sw1.size)
  have f2 : Far w.heap.size w.heap.size w2 p ys cp := Far.of hel (by omega) (.inl (by omega))
  have o2c := o2
  obtain ⟨⟨d0, d1⟩, z0, z1⟩ := o2c
  go_wp2
  exact bodyPost_ret (v := elemV op p ys.length cp) (resElem (b := w.heap.size) Tryz.results5 rfl (o2.put _ _).1) rfl ⟨op, ys, p, cp, rfl, hop, hys, hl, hlc2, f2.els (Nat.le_refl _) (Nat.le_refl _), (sw2.setCell (p := ⟨w.heap.size, 0, none⟩) (Nat.le_refl _) _).setCell (p := ⟨w.heap.size, 1, none⟩) (Nat.le_refl _) _⟩

theorem eT_len (op : Int) (ys : List Ar) : (eT op ys).length ≤ 400 := by
  unfold eT
  split
  · rename_i h
    have h1 := okA_len h
    have h2 := (fm0_ok (ez op)).1
    have h3 := join_len (bt (ez op)) (bt_len _) ys
    have h4 := ah_len (ez op)
    simp only [List.length_append]
    omega
  · simp
theorem size_text (t : List UInt8) : (⟨t.toArray⟩ : ByteArray).size = t.length := by simp [ByteArray.size]
/-- A drawn text. -/
def DrawnTx (w : World) (e : Ending) (w' : World) : Prop := ∃ s : ByteArray, e = .returned (.string s) ∧ s.size ≤ 1000 ∧ Below w.heap.size w w'

set_option maxHeartbeats 2000000 in
theorem drawERead_any (a : Option Addr) (len cap : Nat) (w : World) (h : IsRow w a len) (hlc : len ≤ cap) :
    Calls Tryz.prog 12 #[.slice a len cap] w (DrawnTx w) := by
  have hH : Hid (IsRow w a len) := h
  clear h
  go_enter Tryz.func12, Tryz.ntmps12
  go_wp2_with fail
  refine (open_any a len cap _ hH.out hlc).mono ?_
  rintro e w1 ⟨rfl, hr1, hb1⟩
  go_wp2_with fail
  refine (l3Any_any w.heap.size 0 _ hr1 (by omega)).mono ?_
  rintro e w2 ⟨op, ys, p, cp, rfl, hop, hys, hl, hlc2, hel, hr2, st2⟩
  have sw2 : Below w.heap.size w w2 := hb1.trans (st2.below (by omega) hb1.size)
  have hA := hel.is
  clear hb1 hr1 st2 hel hop hys
  go_wp2_with fail
  refine (selem_any op ys p cp _ hA hlc2).mono ?_
  rintro e w3 ⟨rfl, hb3⟩
  have hr3 := hr2.to hb3
  have sw3 : Below w.heap.size w w3 := sw2.trans (hb3.mono sw2.size)
  have htl := eT_len op ys
  generalize hgt : eT op ys = t at *
  clear hgt hb3 hr2 sw2 hA
  go_wp2_with fail
  refine (pick_any w.heap.size 100 9 _ (by omega) hr3 (by omega)).mono ?_
  rintro e w4 ⟨u, rfl, u0, u1, -, hr4, st4⟩
  have sw4 : Below w.heap.size w w4 := sw3.trans (st4.below (by omega) sw3.size)
  have hlt4 := hr4.lt
  clear st4 sw3 hr3 u1
  by_cases h0 : u = 0
  · subst h0
    go_wp2_with fail
    refine (of_any w.heap.size 101 w4.heap.size 43 _ (by omega) (by omega) (hr4.alloc _) (by omega) (strs_all _ _ _ _ rfl rfl) (by omega)).mono ?_
    rintro e w5 ⟨z, rfl, hz, hr5, st5⟩
    have sw5 : Below w.heap.size w w5 := (sw4.alloc sw4.size _).trans (st5.below (by omega) (by have := sw4.size; simp; omega))
    go_wp2
    go_ret
    exact ⟨_, rfl, by omega, sw5⟩
  have h0' : (u == 0) = false := by simpa using h0
  by_cases h1 : u = 1
  · subst h1
    go_wp2_with fail
    refine (of_any w.heap.size 101 w4.heap.size 6 _ (by omega) (by omega) (hr4.alloc _) (by omega) (strs_all _ _ _ _ rfl rfl) (by omega)).mono ?_
    rintro e w5 ⟨z, rfl, hz, hr5, st5⟩
    have sw5 : Below w.heap.size w w5 := (sw4.alloc sw4.size _).trans (st5.below (by omega) (by have := sw4.size; simp; omega))
    go_wp2
    go_ret
    exact ⟨_, rfl, by have := size_text t; rw [ByteArray.size_append]; omega, sw5⟩
  have h1' : (u == 1) = false := by simpa using h1
  by_cases h2 : u = 2
  · subst h2
    go_wp2_with fail
    refine (of_any w.heap.size 101 w4.heap.size 5 _ (by omega) (by omega) (hr4.alloc _) (by omega) (strs_all _ _ _ _ rfl rfl) (by omega)).mono ?_
    rintro e w5 ⟨z, rfl, hz, hr5, st5⟩
    have sw5 : Below w.heap.size w w5 := (sw4.alloc sw4.size _).trans (st5.below (by omega) (by have := sw4.size; simp; omega))
    go_wp2
    go_ret
    exact ⟨_, rfl, by have := size_text t; rw [ByteArray.size_append]; omega, sw5⟩
  have h2' : (u == 2) = false := by simpa using h2
  clear h0 h1 h2
  go_wp2
  go_ret
  exact ⟨_, rfl, by have := size_text t; omega, sw4⟩
end Go.Proofs.YtlddkhhaclfmiaaGreatDoor

/- ElemIsContact: the program's. Helper text: no statement is claimed here. -/
namespace Go.Proofs.YtlddkhhaclfmiaaGreatDoor
open Go.ChangeShapes Go.WideShapes Go.ChangeAt Go.RowKit
attribute [local go_sem] fv_store

set_option maxHeartbeats 1000000 in
theorem isContact_any (op : Int) (ys : List Ar) (p : Option Addr) (cap : Nat) (w : World) (hT : DevTab w) (hA : ArgsIs w p ys) (hlc : ys.length ≤ cap) (hbd : ys.length ≤ 2000000) :
    Calls Tryz.prog 8 #[elemV op p ys.length cap] w fun e w' => e = .returned (.bool (conB op ys)) ∧ Below w.heap.size w w' := by
  have HA : Hid (ArgsIs w p ys) := hA
  have HT : Hid (DevTab w) := hT
  have HR : Hid (∀ W, DevTab W → ArgsIs W p ys → Calls Tryz.prog 20 #[erowV (ez op), .slice p ys.length cap] W fun e w' => e = .returned (.bool (okA (ez op) ys)) ∧ Below W.heap.size W w') :=
    fun W h1 h2 => rowTakes_any (ez op) ys p cap W h1 h2 hlc hbd
  have HE : Hid (∀ W, Calls Tryz.prog 19 #[.int .i64 op] W fun e w' => e = .returned (erowV (ez op)) ∧ Below W.heap.size W w') := fun W => erowV_any op W
  have HC : Hid (conB op ys = (decide (nm (ez op) = []) && okA (ez op) ys)) := rfl
  clear hA hT
  generalize conB op ys = res at *
  generalize ez op = i at *
  unfold erowV at HR HE
  generalize (fm0 i).getD 0 0 = g0 at *
  generalize (fm0 i).getD 1 0 = g1 at *
  generalize (fm0 i).getD 2 0 = g2 at *
  generalize (fm1 i).getD 0 0 = g3 at *
  generalize (fm1 i).getD 1 0 = g4 at *
  generalize (fm1 i).getD 2 0 = g5 at *
  generalize okA i ys = t0 at *
  by_cases hn : nm i = []
  · have HN : Hid (nm i = []) := hn
    rw [hn] at HR HE
    clear hn
    go_enter Tryz.func8, Tryz.ntmps8
    go_wp2_with fail
    refine (HE.out _).mono ?_
    rintro e w1 ⟨rfl, hb1⟩
    have HB1 : Hid (Below w.heap.size w w1) := of_one hb1
    have hce := elem_at hb1
    clear hb1
    go_wp2_with fail
    refine (HR.out _ ((HT.out.to HB1.out).alloc _) ((HA.out.to HB1.out).to (one _ _))).mono ?_
    rintro e w2 ⟨rfl, hb2⟩
    go_wp2
    go_ret
    exact ⟨by rw [HC.out, HN.out]; simp, HB1.out.trans ((of_one hb2).mono HB1.out.size)⟩
  · have HN : Hid (nm i ≠ []) := hn
    obtain ⟨c, l, hl⟩ := List.exists_cons_of_ne_nil hn
    rw [hl] at HR HE
    clear hn hl
    go_enter Tryz.func8, Tryz.ntmps8
    go_wp2_with fail
    refine (HE.out _).mono ?_
    rintro e w1 ⟨rfl, hb1⟩
    have HB1 : Hid (Below w.heap.size w w1) := of_one hb1
    have hce := elem_at hb1
    clear hb1
    go_wp2
    go_ret
    exact ⟨by rw [HC.out]; simp [HN.out], HB1.out.alloc HB1.out.size _⟩


end Go.Proofs.YtlddkhhaclfmiaaGreatDoor

/- ElemIsCoil: the program's. Helper text: no statement is claimed here. -/
namespace Go.Proofs.YtlddkhhaclfmiaaGreatDoor
open Go.ChangeShapes Go.WideShapes Go.ChangeAt Go.RowKit
attribute [local go_sem] fv_store

set_option maxHeartbeats 1000000 in
theorem isCoil_any (op : Int) (ys : List Ar) (p : Option Addr) (cap : Nat) (w : World) (hT : DevTab w) (hA : ArgsIs w p ys) (hlc : ys.length ≤ cap) (hbd : ys.length ≤ 2000000) :
    Calls Tryz.prog 9 #[elemV op p ys.length cap] w fun e w' => e = .returned (.bool (coilB op ys)) ∧ Below w.heap.size w w' := by
  have HA : Hid (ArgsIs w p ys) := hA
  have HT : Hid (DevTab w) := hT
  have HR : Hid (∀ W, DevTab W → ArgsIs W p ys → Calls Tryz.prog 20 #[erowV (ez op), .slice p ys.length cap] W fun e w' => e = .returned (.bool (okA (ez op) ys)) ∧ Below W.heap.size W w') :=
    fun W h1 h2 => rowTakes_any (ez op) ys p cap W h1 h2 hlc hbd
  have HE : Hid (∀ W, Calls Tryz.prog 19 #[.int .i64 op] W fun e w' => e = .returned (erowV (ez op)) ∧ Below W.heap.size W w') := fun W => erowV_any op W
  have HC : Hid (coilB op ys = (decide (nm (ez op) ≠ []) && okA (ez op) ys)) := rfl
  clear hA hT
  generalize coilB op ys = res at *
  generalize ez op = i at *
  unfold erowV at HR HE
  generalize (fm0 i).getD 0 0 = g0 at *
  generalize (fm0 i).getD 1 0 = g1 at *
  generalize (fm0 i).getD 2 0 = g2 at *
  generalize (fm1 i).getD 0 0 = g3 at *
  generalize (fm1 i).getD 1 0 = g4 at *
  generalize (fm1 i).getD 2 0 = g5 at *
  generalize okA i ys = t0 at *
  by_cases hn : nm i = []
  · have HN : Hid (nm i = []) := hn
    rw [hn] at HR HE
    clear hn
    go_enter Tryz.func9, Tryz.ntmps9
    go_wp2_with fail
    refine (HE.out _).mono ?_
    rintro e w1 ⟨rfl, hb1⟩
    have HB1 : Hid (Below w.heap.size w w1) := of_one hb1
    have hce := elem_at hb1
    clear hb1
    go_wp2
    go_ret
    exact ⟨by rw [HC.out]; simp [HN.out], HB1.out.alloc HB1.out.size _⟩
  · have HN : Hid (nm i ≠ []) := hn
    obtain ⟨c, l, hl⟩ := List.exists_cons_of_ne_nil hn
    rw [hl] at HR HE
    clear hn hl
    go_enter Tryz.func9, Tryz.ntmps9
    go_wp2_with fail
    refine (HE.out _).mono ?_
    rintro e w1 ⟨rfl, hb1⟩
    have HB1 : Hid (Below w.heap.size w w1) := of_one hb1
    have hce := elem_at hb1
    clear hb1
    go_wp2_with fail
    refine (HR.out _ ((HT.out.to HB1.out).alloc _) ((HA.out.to HB1.out).to (one _ _))).mono ?_
    rintro e w2 ⟨rfl, hb2⟩
    go_wp2
    go_ret
    exact ⟨by rw [HC.out]; simp [HN.out], HB1.out.trans ((of_one hb2).mono HB1.out.size)⟩

end Go.Proofs.YtlddkhhaclfmiaaGreatDoor
