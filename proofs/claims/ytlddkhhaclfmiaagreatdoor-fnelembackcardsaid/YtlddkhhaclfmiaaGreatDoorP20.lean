/- The drawing of contacts and coils: l3Any. Helper text: no statement is claimed here. -/
import Derived.Test.YtlddkhhaclfmiaaGreatDoorP19
import Derived.Test.YtlddkhhaclfmiaaGreatDoorP17
import Derived.Test.YtlddkhhaclfmiaaGreatDoorP11
import Derived.Test.YtlddkhhaclfmiaaGreatDoorP06
import Derived.Test.YtlddkhhaclfmiaaGreatDoorP14
namespace Go.Proofs.YtlddkhhaclfmiaaGreatDoor
open Go.ChangeShapes Go.WideShapes Go.ChangeAt Go.RowKit

set_option maxHeartbeats 1000000 in
theorem l3Any_any (rb m : Nat) (w : World) (hr : Rd w rb m) (hm : m ≤ 500) :
    Calls Tryz.prog 17 #[.pointer (some ⟨rb, 0, none⟩)] w (EDrawn 4 rb (m + 100) w) := by
  have hlt := hr.lt
  have hne : w.heap.size ≠ rb := by omega
  go_enter Tryz.func17, Tryz.ntmps17
  go_wp2_with fail
  refine (l3Coil_any rb m _ (hr.alloc _) (by omega)).mono ?_
  rintro e w1 ⟨op, ys, p, cap, rfl, hop, hys, hl, hlc, hel, hr1, st1⟩
  have o1 := (Own2.new w (.int .i64 0) (.slice none 0 0)).step st1 hne
  have sw1 : Step rb w w1 := (Step.alloc rb w _).trans st1
  have hz1 := o1.lt
  have f1 : Far w.heap.size w1.heap.size w1 p ys cap := Far.of hel (by simp) (.inr (Nat.le_refl _))
  clear hel st1
  go_wp2_with fail
  refine (pick_any rb (m + 40) 2 _ (by omega) (hr1.alloc _) (by omega)).mono ?_
  rintro e w2 ⟨u, rfl, u0, u1, -, hr2, st2⟩
  have e2 := (Own2.new w1 (.int .i64 op) (.slice p ys.length cap)).step st2 (by omega)
  have o2 := (o1.alloc _).step st2 hne
  have f2 := (f1.step (Step.alloc rb w1 _) (by omega)).step st2 (by omega)
  have sw2 := (sw1.trans (Step.alloc rb w1 _)).trans st2
  have hz2 := e2.lt
  clear o1 f1 sw1 st2 hr1 u1
  go_upto_if 8 with fail
  go_cut [] from 7 to 10 (fun wx => EBox w 3 rb (m + 71) w1.heap.size wx)
  case first =>
    by_cases hu : u = 0
    · subst hu
      go_wp2_with fail
      refine (l3Contact_any rb (m + 41) _ hr2 (by omega)).mono ?_
      rintro e w3 ⟨op', ys', p', cap', rfl, hop', hys', hl', hlc', hel', hr3, st3⟩
      have e3 := e2.step st3 (by omega)
      have o3 := o2.step st3 hne
      have HT : Hid (EBox w 3 rb (m + 71) w1.heap.size ((w3.setCell ⟨w1.heap.size, 0, none⟩ (.int .i64 op')).setCell ⟨w1.heap.size, 1, none⟩ (.slice p' ys'.length cap'))) :=
        ⟨op', ys', p', cap', hop', hys', hl', hlc', e3.put _ _, ((Far.of (b := w.heap.size) (E := w1.heap.size) hel' (by omega) (.inl hz2)).setE).setE, (o3.set (by omega)).set (by omega), (hr3.set _ _ _ (by omega)).set _ _ _ (by omega), ((sw2.trans st3).setNew _ _ _ (by omega)).setNew _ _ _ (by omega)⟩
      obtain ⟨⟨c0, c1⟩, z0, z1⟩ := e3
      go_wp2_with fail
      go_meet
      exact HT.out
    · have hu' : (u == 0) = false := by simpa using hu
      clear hu
      have HT : Hid (EBox w 3 rb (m + 71) w1.heap.size w2) := ⟨op, ys, p, cap, hop, hys, hl, hlc, e2, f2, o2, hr2.mono (by omega), sw2⟩
      go_wp2_with fail
      go_meet
      exact HT.out
  case rest =>
  clear e2 o2 f2 sw2 hop hys hl hlc
  obtain ⟨op3, ys3, p3, cap3, hop, hys, hl, hlc, e3, f3, o3, hr3, sw3⟩ := hcut
  go_wp2_with fail
  refine (pick_any rb (m + 71) 16 _ (by omega) hr3 (by omega)).mono ?_
  rintro e w5 ⟨v, rfl, v0, v1, -, hr5, st5⟩
  have e5 := e3.step st5 (by omega)
  have o5 := o3.step st5 hne
  have f5 := f3.step st5 (by omega)
  have sw5 := sw3.trans st5
  clear e3 f3 o3 sw3 st5 v1
  have e5c := e5
  obtain ⟨⟨c0, c1⟩, -, -⟩ := e5c
  by_cases hv : v = 0
  · subst hv
    go_wp2_with fail
    refine (spoilE_any 3 rb (m + 72) op3 ys3 p3 cap3 _ hr5 (by omega) (f5.elsB (by omega)) hop hys hl (by omega)).mono ?_
    rintro e w6 ⟨op6, ys6, p6, cap6, rfl, hop6, hys6, hl6, hlc6, hel6, hr6, st6⟩
    have o6 := o5.step st6 hne
    have hz5 := o5.lt
    have f6 : Far w.heap.size w.heap.size w6 p6 ys6 cap6 := Far.of hel6 (by omega) (.inl hz5)
    have o6c := o6
    obtain ⟨⟨d0, d1⟩, z0, z1⟩ := o6c
    go_wp2
    exact bodyPost_ret (v := elemV op6 p6 ys6.length cap6) (resElem (b := w.heap.size) Tryz.results17 rfl (o6.put _ _).1) rfl ⟨op6, ys6, p6, cap6, rfl, hop6, hys6, hl6, hlc6, f6.els (Nat.le_refl _) (Nat.le_refl _), ((hr6.mono (by omega)).set _ _ _ (by omega)).set _ _ _ (by omega), ((sw5.trans st6).setNew _ _ _ (by omega)).setNew _ _ _ (by omega)⟩
  · have hv' : (v == 0) = false := by simpa using hv
    clear hv
    have o5c := o5
    obtain ⟨⟨d0, d1⟩, z0, z1⟩ := o5c
    go_wp2
    exact bodyPost_ret (v := elemV op3 p3 ys3.length cap3) (resElem (b := w.heap.size) Tryz.results17 rfl (o5.put _ _).1) rfl ⟨op3, ys3, p3, cap3, rfl, hop, hys, by omega, hlc, f5.els (Nat.le_refl _) (Nat.le_refl _), ((hr5.mono (by omega)).set _ _ _ (by omega)).set _ _ _ (by omega), (sw5.setNew _ _ _ (by omega)).setNew _ _ _ (by omega)⟩
end Go.Proofs.YtlddkhhaclfmiaaGreatDoor

/- The drawing of one text out of a list. Helper text: no statement is claimed here. -/
namespace Go.Proofs.YtlddkhhaclfmiaaGreatDoor
open Go.ChangeShapes Go.WideShapes Go.ChangeAt Go.RowKit

/-- A list of n texts lies in block lb, each of at most 100 bytes. -/
def Strs (w : World) (lb n : Nat) : Prop := ∀ i, i < n → ∃ s : ByteArray, w.cell? ⟨lb, i, none⟩ = some (.string s) ∧ s.size ≤ 100
def shortB : Value → Bool | .string s => decide (s.size ≤ 100) | _ => false
theorem strs_all (w : World) (cs : Array Value) (t : TypeId) (n : Nat) (hn : cs.size = n) (h : cs.toList.all shortB = true) : Strs (w.alloc (.cells cs t)) w.heap.size n := by
  intro i hi
  have hi' : i < cs.size := by omega
  have hs := List.all_eq_true.1 h cs[i] (by simp)
  rw [World.cell?_alloc_new, Array.getElem?_eq_getElem hi']
  generalize cs[i] = v at *
  cases v <;> simp [shortB] at hs
  exact ⟨_, rfl, hs⟩

set_option maxHeartbeats 400000 in
theorem of_any (rb m lb n : Nat) (w : World) (hn : 1 ≤ n) (hn2 : n ≤ 100) (hr : Rd w rb m) (hm : m ≤ 1000000) (hl : Strs w lb n) (hlr : lb ≠ rb) :
    Calls Tryz.prog 33 #[.pointer (some ⟨rb, 0, none⟩), .slice (some ⟨lb, 0, none⟩) n n] w fun e w' => ∃ s : ByteArray, e = .returned (.string s) ∧ s.size ≤ 100 ∧ Rd w' rb (m + 1) ∧ Step rb w w' := by
  go_enter Tryz.func33, Tryz.ntmps33
  go_wp2_with fail
  refine (pick_any rb m n _ (by omega) hr hm).mono ?_
  rintro e w' ⟨v, rfl, v0, v1, -, hr', st⟩
  obtain ⟨k, rfl⟩ := Int.eq_ofNat_of_zero_le v0
  have hk : (k : Int) < n := v1 (by omega)
  obtain ⟨z, hz, z0⟩ := hl k (by omega)
  have hz' : w'.cell? ⟨lb, k, none⟩ = some (.string z) := by
    rw [st.cell lb k (World.block_lt_of_cell? w ⟨lb, k, none⟩ hz) hlr]; exact hz
  clear v1 hl
  go_wp2
  go_ret
  exact ⟨z, rfl, z0, hr', st⟩

end Go.Proofs.YtlddkhhaclfmiaaGreatDoor

/- The drawing of contacts and coils, and of their texts, out of bytes: DrawElemText, DrawElemRead. Helper text: no statement is claimed here. -/
namespace Go.Proofs.YtlddkhhaclfmiaaGreatDoor
open Go.ChangeShapes Go.WideShapes Go.ChangeAt Go.RowKit

set_option maxHeartbeats 400000 in
theorem drawEText_any (a : Option Addr) (len cap : Nat) (w : World) (h : IsRow w a len) (hlc : len ≤ cap) :
    Calls Tryz.prog 5 #[.slice a len cap] w (EDrawnNew 4 w) := by
  have hH : Hid (IsRow w a len) := h
  clear h
  go_enter Tryz.func5, Tryz.ntmps5
  go_wp2_with fail
  refine (open_any a len cap _ (hH.out.alloc _) hlc).mono ?_
  rintro e w1 ⟨rfl, hr1, hb1⟩
  have hrb : (w.alloc (.cells #[.int .i64 0, .slice none 0 0] 25)).heap.size = w.heap.size + 1 := by simp
  rw [hrb] at hr1
  have o1 : Own2 w1 w.heap.size (.int .i64 0) (.slice none 0 0) := (Own2.new w (.int .i64 0) (.slice none 0 0)).below hb1
  have sw1 : Below w.heap.size w w1 := of_one hb1
  have hz1 := hr1.lt
  clear hb1
  go_wp2_with fail
  refine (l3Any_any (w.heap.size + 1) 0 _ hr1 (by omega)).mono ?_
  rintro e w2 ⟨op, ys, p, cp, rfl, hop, hys, hl, hlc2, hel, hr2, st2⟩
  have o2 := o1.step st2 (by omega)
  have sw2 : Below w.heap.size w w2 := sw1.trans (st2.below (by omega) sw1.size)
  have f2 : Far w.heap.size w.heap.size w2 p ys cp := Far.of hel (by omega) (.inl (by omega))
  have o2c := o2
  obtain ⟨⟨d0, d1⟩, z0, z1⟩ := o2c
  go_wp2
  exact bodyPost_ret (v := elemV op p ys.length cp) (resElem (b := w.heap.size) Tryz.results5 rfl (o2.put _ _).1) rfl ⟨op, ys, p, cp, rfl, hop, hys, hl, hlc2, f2.els (Nat.le_refl _) (Nat.le_refl _), (sw2.setCell (p := ⟨w.heap.size, 0, none⟩) (Nat.le_refl _) _).setCell (p := ⟨w.heap.size, 1, none⟩) (Nat.le_refl _) _⟩

theorem eT_len (op : Int) (ys : List Ar) : (eT op ys).length ≤ 400 := by
  unfold eT
  split
  · rename_i h
    have h1 := okA_len h
    have h2 := (fm0_ok (ez op)).1
    have h3 := join_len (bt (ez op)) (bt_len _) ys
    have h4 := ah_len (ez op)
    simp only [List.length_append]
    omega
  · simp
theorem size_text (t : List UInt8) : (⟨t.toArray⟩ : ByteArray).size = t.length := by simp [ByteArray.size]
/-- A drawn text. -/
def DrawnTx (w : World) (e : Ending) (w' : World) : Prop := ∃ s : ByteArray, e = .returned (.string s) ∧ s.size ≤ 1000 ∧ Below w.heap.size w w'

set_option maxHeartbeats 2000000 in
theorem drawERead_any (a : Option Addr) (len cap : Nat) (w : World) (h : IsRow w a len) (hlc : len ≤ cap) :
    Calls Tryz.prog 12 #[.slice a len cap] w (DrawnTx w) := by
  have hH : Hid (IsRow w a len) := h
  clear h
  go_enter Tryz.func12, Tryz.ntmps12
  go_wp2_with fail
  refine (open_any a len cap _ hH.out hlc).mono ?_
  rintro e w1 ⟨rfl, hr1, hb1⟩
  go_wp2_with fail
  refine (l3Any_any w.heap.size 0 _ hr1 (by omega)).mono ?_
  rintro e w2 ⟨op, ys, p, cp, rfl, hop, hys, hl, hlc2, hel, hr2, st2⟩
  have sw2 : Below w.heap.size w w2 := hb1.trans (st2.below (by omega) hb1.size)
  have hA := hel.is
  clear hb1 hr1 st2 hel hop hys
  go_wp2_with fail
  refine (selem_any op ys p cp _ hA hlc2).mono ?_
  rintro e w3 ⟨rfl, hb3⟩
  have hr3 := hr2.to hb3
  have sw3 : Below w.heap.size w w3 := sw2.trans (hb3.mono sw2.size)
  have htl := eT_len op ys
  generalize hgt : eT op ys = t at *
  clear hgt hb3 hr2 sw2 hA
  go_wp2_with fail
  refine (pick_any w.heap.size 100 9 _ (by omega) hr3 (by omega)).mono ?_
  rintro e w4 ⟨u, rfl, u0, u1, -, hr4, st4⟩
  have sw4 : Below w.heap.size w w4 := sw3.trans (st4.below (by omega) sw3.size)
  have hlt4 := hr4.lt
  clear st4 sw3 hr3 u1
  by_cases h0 : u = 0
  · subst h0
    go_wp2_with fail
    refine (of_any w.heap.size 101 w4.heap.size 43 _ (by omega) (by omega) (hr4.alloc _) (by omega) (strs_all _ _ _ _ rfl rfl) (by omega)).mono ?_
    rintro e w5 ⟨z, rfl, hz, hr5, st5⟩
    have sw5 : Below w.heap.size w w5 := (sw4.alloc sw4.size _).trans (st5.below (by omega) (by have := sw4.size; simp; omega))
    go_wp2
    go_ret
    exact ⟨_, rfl, by omega, sw5⟩
  have h0' : (u == 0) = false := by simpa using h0
  by_cases h1 : u = 1
  · subst h1
    go_wp2_with fail
    refine (of_any w.heap.size 101 w4.heap.size 6 _ (by omega) (by omega) (hr4.alloc _) (by omega) (strs_all _ _ _ _ rfl rfl) (by omega)).mono ?_
    rintro e w5 ⟨z, rfl, hz, hr5, st5⟩
    have sw5 : Below w.heap.size w w5 := (sw4.alloc sw4.size _).trans (st5.below (by omega) (by have := sw4.size; simp; omega))
    go_wp2
    go_ret
    exact ⟨_, rfl, by have := size_text t; rw [ByteArray.size_append]; omega, sw5⟩
  have h1' : (u == 1) = false := by simpa using h1
  by_cases h2 : u = 2
  · subst h2
    go_wp2_with fail
    refine (of_any w.heap.size 101 w4.heap.size 5 _ (by omega) (by omega) (hr4.alloc _) (by omega) (strs_all _ _ _ _ rfl rfl) (by omega)).mono ?_
    rintro e w5 ⟨z, rfl, hz, hr5, st5⟩
    have sw5 : Below w.heap.size w w5 := (sw4.alloc sw4.size _).trans (st5.below (by omega) (by have := sw4.size; simp; omega))
    go_wp2
    go_ret
    exact ⟨_, rfl, by have := size_text t; rw [ByteArray.size_append]; omega, sw5⟩
  have h2' : (u == 2) = false := by simpa using h2
  clear h0 h1 h2
  go_wp2
  go_ret
  exact ⟨_, rfl, by have := size_text t; omega, sw4⟩
end Go.Proofs.YtlddkhhaclfmiaaGreatDoor

/- ElemIsContact: the program's. Helper text: no statement is claimed here. -/
namespace Go.Proofs.YtlddkhhaclfmiaaGreatDoor
open Go.ChangeShapes Go.WideShapes Go.ChangeAt Go.RowKit
attribute [local go_sem] fv_store

set_option maxHeartbeats 1000000 in
theorem isContact_any (op : Int) (ys : List Ar) (p : Option Addr) (cap : Nat) (w : World) (hT : DevTab w) (hA : ArgsIs w p ys) (hlc : ys.length ≤ cap) (hbd : ys.length ≤ 2000000) :
    Calls Tryz.prog 8 #[elemV op p ys.length cap] w fun e w' => e = .returned (.bool (conB op ys)) ∧ Below w.heap.size w w' := by
  have HA : Hid (ArgsIs w p ys) := hA
  have HT : Hid (DevTab w) := hT
  have HR : Hid (∀ W, DevTab W → ArgsIs W p ys → Calls Tryz.prog 20 #[erowV (ez op), .slice p ys.length cap] W fun e w' => e = .returned (.bool (okA (ez op) ys)) ∧ Below W.heap.size W w') :=
    fun W h1 h2 => rowTakes_any (ez op) ys p cap W h1 h2 hlc hbd
  have HE : Hid (∀ W, Calls Tryz.prog 19 #[.int .i64 op] W fun e w' => e = .returned (erowV (ez op)) ∧ Below W.heap.size W w') := fun W => erowV_any op W
  have HC : Hid (conB op ys = (decide (nm (ez op) = []) && okA (ez op) ys)) := rfl
  clear hA hT
  generalize conB op ys = res at *
  generalize ez op = i at *
  unfold erowV at HR HE
  generalize (fm0 i).getD 0 0 = g0 at *
  generalize (fm0 i).getD 1 0 = g1 at *
  generalize (fm0 i).getD 2 0 = g2 at *
  generalize (fm1 i).getD 0 0 = g3 at *
  generalize (fm1 i).getD 1 0 = g4 at *
  generalize (fm1 i).getD 2 0 = g5 at *
  generalize okA i ys = t0 at *
  by_cases hn : nm i = []
  · have HN : Hid (nm i = []) := hn
    rw [hn] at HR HE
    clear hn
    go_enter Tryz.func8, Tryz.ntmps8
    go_wp2_with fail
    refine (HE.out _).mono ?_
    rintro e w1 ⟨rfl, hb1⟩
    have HB1 : Hid (Below w.heap.size w w1) := of_one hb1
    have hce := elem_at hb1
    clear hb1
    go_wp2_with fail
    refine (HR.out _ ((HT.out.to HB1.out).alloc _) ((HA.out.to HB1.out).to (one _ _))).mono ?_
    rintro e w2 ⟨rfl, hb2⟩
    go_wp2
    go_ret
    exact ⟨by rw [HC.out, HN.out]; simp, HB1.out.trans ((of_one hb2).mono HB1.out.size)⟩
  · have HN : Hid (nm i ≠ []) := hn
    obtain ⟨c, l, hl⟩ := List.exists_cons_of_ne_nil hn
    rw [hl] at HR HE
    clear hn hl
    go_enter Tryz.func8, Tryz.ntmps8
    go_wp2_with fail
    refine (HE.out _).mono ?_
    rintro e w1 ⟨rfl, hb1⟩
    have HB1 : Hid (Below w.heap.size w w1) := of_one hb1
    have hce := elem_at hb1
    clear hb1
    go_wp2
    go_ret
    exact ⟨by rw [HC.out]; simp [HN.out], HB1.out.alloc HB1.out.size _⟩


end Go.Proofs.YtlddkhhaclfmiaaGreatDoor

/- ElemIsCoil: the program's. Helper text: no statement is claimed here. -/
namespace Go.Proofs.YtlddkhhaclfmiaaGreatDoor
open Go.ChangeShapes Go.WideShapes Go.ChangeAt Go.RowKit
attribute [local go_sem] fv_store

set_option maxHeartbeats 1000000 in
theorem isCoil_any (op : Int) (ys : List Ar) (p : Option Addr) (cap : Nat) (w : World) (hT : DevTab w) (hA : ArgsIs w p ys) (hlc : ys.length ≤ cap) (hbd : ys.length ≤ 2000000) :
    Calls Tryz.prog 9 #[elemV op p ys.length cap] w fun e w' => e = .returned (.bool (coilB op ys)) ∧ Below w.heap.size w w' := by
  have HA : Hid (ArgsIs w p ys) := hA
  have HT : Hid (DevTab w) := hT
  have HR : Hid (∀ W, DevTab W → ArgsIs W p ys → Calls Tryz.prog 20 #[erowV (ez op), .slice p ys.length cap] W fun e w' => e = .returned (.bool (okA (ez op) ys)) ∧ Below W.heap.size W w') :=
    fun W h1 h2 => rowTakes_any (ez op) ys p cap W h1 h2 hlc hbd
  have HE : Hid (∀ W, Calls Tryz.prog 19 #[.int .i64 op] W fun e w' => e = .returned (erowV (ez op)) ∧ Below W.heap.size W w') := fun W => erowV_any op W
  have HC : Hid (coilB op ys = (decide (nm (ez op) ≠ []) && okA (ez op) ys)) := rfl
  clear hA hT
  generalize coilB op ys = res at *
  generalize ez op = i at *
  unfold erowV at HR HE
  generalize (fm0 i).getD 0 0 = g0 at *
  generalize (fm0 i).getD 1 0 = g1 at *
  generalize (fm0 i).getD 2 0 = g2 at *
  generalize (fm1 i).getD 0 0 = g3 at *
  generalize (fm1 i).getD 1 0 = g4 at *
  generalize (fm1 i).getD 2 0 = g5 at *
  generalize okA i ys = t0 at *
  by_cases hn : nm i = []
  · have HN : Hid (nm i = []) := hn
    rw [hn] at HR HE
    clear hn
    go_enter Tryz.func9, Tryz.ntmps9
    go_wp2_with fail
    refine (HE.out _).mono ?_
    rintro e w1 ⟨rfl, hb1⟩
    have HB1 : Hid (Below w.heap.size w w1) := of_one hb1
    have hce := elem_at hb1
    clear hb1
    go_wp2
    go_ret
    exact ⟨by rw [HC.out]; simp [HN.out], HB1.out.alloc HB1.out.size _⟩
  · have HN : Hid (nm i ≠ []) := hn
    obtain ⟨c, l, hl⟩ := List.exists_cons_of_ne_nil hn
    rw [hl] at HR HE
    clear hn hl
    go_enter Tryz.func9, Tryz.ntmps9
    go_wp2_with fail
    refine (HE.out _).mono ?_
    rintro e w1 ⟨rfl, hb1⟩
    have HB1 : Hid (Below w.heap.size w w1) := of_one hb1
    have hce := elem_at hb1
    clear hb1
    go_wp2_with fail
    refine (HR.out _ ((HT.out.to HB1.out).alloc _) ((HA.out.to HB1.out).to (one _ _))).mono ?_
    rintro e w2 ⟨rfl, hb2⟩
    go_wp2
    go_ret
    exact ⟨by rw [HC.out]; simp [HN.out], HB1.out.trans ((of_one hb2).mono HB1.out.size)⟩

end Go.Proofs.YtlddkhhaclfmiaaGreatDoor

/- The walk of FnElemBack: whatever the bytes, it answers true, and nothing that was there has turned. Helper text: no statement is claimed here. -/
namespace Go.Proofs.YtlddkhhaclfmiaaGreatDoor
open Go.ChangeShapes Go.WideShapes Go.ChangeAt Go.RowKit

theorem isRow_on {w w' : World} {a : Option Addr} {len : Nat} (h : IsRow w a len) (hb : Below w.heap.size w w') : IsRow w' a len := by
  rcases h with h | ⟨b, off, f, rfl, hc⟩
  · exact .inl h
  · refine .inr ⟨b, off, f, rfl, fun i hi => ?_⟩
    have := hc i hi
    rw [hb.cell (p := ⟨b, off + i, none⟩) (World.block_lt_of_cell? w ⟨b, off + i, none⟩ this.1)]
    exact this
/-- A text is that of one contact or coil at most: the reading says so. -/
theorem oneE_all (t : List UInt8) (w : World) : OneE t := by
  obtain ⟨e, w', fr, h, -⟩ := sreadE_any ⟨t.toArray⟩ w []
  simpa using h.2
theorem text_data (t : List UInt8) : (⟨t.toArray⟩ : ByteArray).data.toList = t := by simp
theorem text_size {t : List UInt8} {n : Nat} (h : t.length ≤ n) : (⟨t.toArray⟩ : ByteArray).size ≤ n := by simpa [ByteArray.size] using h
theorem text_list (s : ByteArray) : s.toList = s.data.toList := ByteArray.toList_eq s

set_option maxRecDepth 100000 in
set_option maxHeartbeats 8000000 in
theorem eback_walk (a0 : Option Addr) (len0 cap0 : Nat) (a1 : Option Addr) (len1 cap1 : Nat) (w : World) (h0 : IsRow w a0 len0) (hlc0 : len0 ≤ cap0) (h1 : IsRow w a1 len1) (hlc1 : len1 ≤ cap1) (hT : Tabs w) (hC : CmpTab w) (hM : MaxT w) (hE : ErrT w) :
    Calls Tryz.prog 3 #[.slice a0 len0 cap0, .slice a1 len1 cap1] w fun e w' => e = .returned (.bool true) ∧ Below w.heap.size w w' := by
  have H0 : Hid (IsRow w a0 len0) := h0
  have H1 : Hid (∀ W, Below w.heap.size w W → IsRow W a1 len1) := fun W hb => isRow_on h1 hb
  clear h0 h1
  by_cases hl : 1048576 < len0
  · have hl1 : (1048576 : Int) < len0 := by omega
    go_enter Tryz.func3, Tryz.ntmps3
    go_wp2
    go_ret
    exact ⟨rfl, Below.refl _ _⟩
  have hl1 : ¬ (1048576 : Int) < len0 := by omega
  by_cases hm : 1048576 < len1
  · have hm1 : (1048576 : Int) < len1 := by omega
    go_enter Tryz.func3, Tryz.ntmps3
    go_wp2
    go_ret
    exact ⟨rfl, Below.refl _ _⟩
  have hm1 : ¬ (1048576 : Int) < len1 := by omega
  have HI : Hid (∀ (s : ByteArray) W, s.size ≤ 1000 → Below w.heap.size w W → Calls Tryz.prog 10 #[.string s] W (ReadE s.data.toList W)) := fun s W hs hb =>
    ireadE_any s W (by omega) (hT.to hb) (hC.to hb) (hM.to hb) (hE.to hb)
  have HX : Hid (∀ op ys p cap W, Below w.heap.size w W → ArgsIs W p ys → ys.length ≤ cap → ys.length ≤ 4 → Calls Tryz.prog 6 #[elemV op p ys.length cap] W fun e w' => e = .returned (.string ⟨(eT op ys).toArray⟩) ∧ Below W.heap.size W w') := fun op ys p cap W hb hA hc hl =>
    ielem_any op ys p cap W (hT.to hb) (hC.to hb) hA hc (by omega)
  have HD : Hid (∀ W, Below w.heap.size w W → DevTab W) := fun W hb => hT.dev.to hb
  clear hT hC hM hE
  go_enter Tryz.func3, Tryz.ntmps3
  go_wp2_with fail
  refine (drawEText_any a0 len0 cap0 _ H0.out hlc0).mono ?_
  rintro e w1 ⟨op, ys, p, cap, rfl, -, -, hy4, hyc, hEls, hb1⟩
  have HB1 : Hid (Below w.heap.size w w1) := hb1
  have HA1 : Hid (ArgsIs w1 p ys) := hEls.is
  clear hEls hb1
  have HBa : Hid (∀ o, Below w.heap.size w (w1.alloc o) ∧ ArgsIs (w1.alloc o) p ys) := fun o => ⟨HB1.out.alloc HB1.out.size o, HA1.out.to (one _ _)⟩
  have HOa : Hid (Own2 (w1.alloc (.cells #[.int .i64 op, .slice p ys.length cap] 25)) w1.heap.size (.int .i64 op) (.slice p ys.length cap)) := Own2.new w1 _ _
  have HTl := eT_short op ys
  unfold elemV
  go_wp2_with fail
  refine (HX.out op ys p cap _ (HBa.out _).1 (HBa.out _).2 hyc hy4).mono ?_
  rintro e w2 ⟨rfl, hb2⟩
  have HB2 : Hid (Below w.heap.size w w2) := (HBa.out _).1.trans (hb2.mono (HBa.out _).1.size)
  have HA2 : Hid (ArgsIs w2 p ys) := (HBa.out _).2.to hb2
  have HO2 : Hid (Own2 w2 w1.heap.size (.int .i64 op) (.slice p ys.length cap)) := HOa.out.below hb2
  clear hb2 HBa HOa
  have o2 := HO2.out
  obtain ⟨⟨r0, r1⟩, -, -⟩ := o2
  go_wp2_with fail
  refine (selem_any op ys p cap _ HA2.out hyc).mono ?_
  rintro e w3 ⟨rfl, hb3⟩
  have HB3 : Hid (Below w.heap.size w w3) := HB2.out.trans (hb3.mono HB2.out.size)
  have HA3 : Hid (ArgsIs w3 p ys) := HA2.out.to hb3
  have HO3 : Hid (Own2 w3 w1.heap.size (.int .i64 op) (.slice p ys.length cap)) := HO2.out.below hb3
  clear hb3 r0 r1 HA2 HO2
  have o3 := HO3.out
  obtain ⟨⟨r0, r1⟩, -, -⟩ := o3
  have HSp : Hid (okA (ez op) ys = (coilB op ys || conB op ys)) := okA_split op ys
  have HOne : Hid (OneE (eT op ys)) := oneE_all _ w
  have heq : (eT op ys == eT op ys) = true := by simp
  cases hk : okA (ez op) ys
  · have HZ : Hid (eT op ys = []) := by show _ = _; unfold eT; rw [hk]; rfl
    have hz : (eT op ys == []) = true := by rw [HZ.out]; rfl
    have HC1 : Hid (conB op ys = false) := by
      have := HSp.out
      rw [hk] at this
      show _ = _
      cases h : conB op ys
      · rfl
      · rw [h] at this; simp at this
    have HC2 : Hid (coilB op ys = false) := by
      have := HSp.out
      rw [hk] at this
      show _ = _
      cases h : coilB op ys
      · rfl
      · rw [h] at this; simp at this
    clear hk HSp
    go_wp2_with fail
    refine (isContact_any op ys p cap _ (HD.out _ HB3.out) HA3.out hyc (by omega)).mono ?_
    rintro e w4 ⟨rfl, hb4⟩
    rw [HC1.out]
    have HB4 : Hid (Below w.heap.size w w4) := HB3.out.trans (hb4.mono HB3.out.size)
    have HA4 : Hid (ArgsIs w4 p ys) := HA3.out.to hb4
    have HO4 : Hid (Own2 w4 w1.heap.size (.int .i64 op) (.slice p ys.length cap)) := HO3.out.below hb4
    clear hb4 r0 r1
    have o4 := HO4.out
    obtain ⟨⟨r0, r1⟩, -, -⟩ := o4

    go_wp2_with fail
    refine (isCoil_any op ys p cap _ (HD.out _ HB4.out) HA4.out hyc (by omega)).mono ?_
    rintro e w5 ⟨rfl, hb5⟩
    rw [HC2.out]
    have HB5 : Hid (Below w.heap.size w w5) := HB4.out.trans (hb5.mono HB4.out.size)
    have HA5 : Hid (ArgsIs w5 p ys) := HA4.out.to hb5
    have HO5 : Hid (Own2 w5 w1.heap.size (.int .i64 op) (.slice p ys.length cap)) := HO4.out.below hb5
    clear hb5 r0 r1

    go_wp2_with fail
    refine (HI.out ⟨(eT op ys).toArray⟩ _ (text_size (by omega)) HB5.out).mono ?_
    rw [text_data]
    rintro e w6 ⟨hb6, h6⟩
    have HB6 : Hid (Below w.heap.size w w6) := HB5.out.trans (hb6.mono HB5.out.size)
    have HA6 : Hid (ArgsIs w6 p ys) := HA5.out.to hb6
    have HO6 : Hid (Own2 w6 w1.heap.size (.int .i64 op) (.slice p ys.length cap)) := HO5.out.below hb6
    clear hb6

    obtain ⟨op', ys', g', cap', rfl, hok', ht', -, -⟩ | ⟨rfl, -⟩ := h6
    · exact absurd ht'.symm (by rw [HZ.out]; exact fun h => eT_some hok' h)
    have HRr : Hid (∀ o, Below w.heap.size w (w6.alloc o)) := fun o => HB6.out.alloc HB6.out.size o
    unfold elemV
    go_wp2_with fail
    refine (weNil_any _).mono ?_
    rintro e w7 ⟨rfl, hb7⟩
    have HB7 : Hid (Below w.heap.size w w7) := (HRr.out _).trans (hb7.mono (HRr.out _).size)
    clear hb7 HRr

    go_wp2_with fail
    refine (drawERead_any a1 len1 cap1 _ (H1.out _ HB7.out) hlc1).mono ?_
    rintro e w8 ⟨tx2, rfl, hs2, hb8⟩
    have HB8 : Hid (Below w.heap.size w w8) := HB7.out.trans (hb8.mono HB7.out.size)
    clear hb8
    go_wp2_with fail
    refine (HI.out tx2 _ hs2 HB8.out).mono ?_
    rintro e w9 ⟨hb9, h9⟩
    have HB9 : Hid (Below w.heap.size w w9) := HB8.out.trans (hb9.mono HB8.out.size)
    clear hb9
    have HOne2 : Hid (OneE tx2.data.toList) := oneE_all _ w
    obtain ⟨op2, ys2, g2, cap2, rfl, hok2, ht2, hrow2, -⟩ | ⟨rfl, hno2⟩ := h9
    · have HK2 : Hid (okA (ez op2) ys2 = true ∧ tx2.data.toList = eT op2 ys2) := ⟨hok2, ht2⟩
      have hy3 : ys2.length ≤ 3 := by have := okA_len hok2; have := (fm0_ok (ez op2)).1; omega
      have HR9 : Hid (∀ o, ARow (w9.alloc o) g2 cap2 ys2 ∧ Below w.heap.size w (w9.alloc o)) := fun o => ⟨hrow2.to (one _ _), HB9.out.alloc HB9.out.size o⟩
      have HO9 : Hid (Own2 (w9.alloc (.cells #[.int .i64 op2, .slice (some ⟨g2, 0, none⟩) ys2.length cap2] 25)) w9.heap.size (.int .i64 op2) (.slice (some ⟨g2, 0, none⟩) ys2.length cap2)) := Own2.new w9 _ _
      have HRm := hrow2.room
      clear hok2 ht2 hrow2
      unfold elemV
      go_wp2_with fail
      refine (sreadE_any tx2 _).mono ?_
      rintro e w10 ⟨⟨hb10, h10⟩, -⟩
      obtain ⟨op3, ys3, g3, cap3, rfl, hok3, ht3, hrow3, -⟩ | ⟨rfl, hno3⟩ := h10
      rotate_left
      · exact absurd HK2.out.2 (hno3 op2 ys2 HK2.out.1)
      obtain ⟨rfl, rfl⟩ := HOne2.out op2 ys2 op3 ys3 HK2.out.1 HK2.out.2 hok3 ht3
      have HO10 : Hid (Own2 w10 w9.heap.size (.int .i64 op2) (.slice (some ⟨g2, 0, none⟩) ys2.length cap2)) := HO9.out.below hb10
      have HB10 : Hid (Below w.heap.size w w10) := (HR9.out _).2.trans (hb10.mono (HR9.out _).2.size)
      have HR10 : Hid (∀ o, ARow (w10.alloc o) g2 cap2 ys2 ∧ ARow (w10.alloc o) g3 cap3 ys2 ∧ Below w.heap.size w (w10.alloc o) ∧ Own2 (w10.alloc o) w9.heap.size (.int .i64 op2) (.slice (some ⟨g2, 0, none⟩) ys2.length cap2)) := fun o => ⟨((HR9.out _).1.to hb10).to (one _ _), hrow3.to (one _ _), HB10.out.alloc HB10.out.size o, HO10.out.alloc o⟩
      clear hok3 ht3 hrow3 hb10 HR9 HO9
      have o10 := HO10.out
      obtain ⟨⟨r0, r1⟩, -, -⟩ := o10
      have hz10 := HO10.out.lt
      unfold elemV
      go_wp2_with fail
      refine (weSame_any op2 ys2 g2 g3 cap2 cap3 _ (HR10.out _).1.args (HR10.out _).1.lt (HR10.out _).2.1.args (HR10.out _).2.1.lt (by omega)).mono ?_
      rintro e w11 ⟨rfl, hb11⟩
      have HB11 : Hid (Below w.heap.size w w11) := (HR10.out _).2.2.1.trans (hb11.mono (HR10.out _).2.2.1.size)
      have HR11 : Hid (ARow w11 g2 cap2 ys2) := (HR10.out _).1.to hb11
      have HO11 : Hid (Own2 w11 w9.heap.size (.int .i64 op2) (.slice (some ⟨g2, 0, none⟩) ys2.length cap2)) := (HR10.out _).2.2.2.below hb11
      clear hb11 r0 r1 HR10
      have o11 := HO11.out
      obtain ⟨⟨r0, r1⟩, -, -⟩ := o11
      go_wp2_with fail
      refine (HX.out op2 ys2 (some ⟨g2, 0, none⟩) cap2 _ HB11.out (.inr ⟨g2, rfl, HR11.out.lt, HR11.out.args⟩) HRm (by omega)).mono ?_
      rintro e w12 ⟨rfl, hb12⟩
      have HB12 : Hid (Below w.heap.size w w12) := HB11.out.trans (hb12.mono HB11.out.size)
      have heq2 : (eT op2 ys2 == tx2.toList) = true := by rw [text_list, HK2.out.2]; simp
      clear hb12
      go_wp2
      go_ret
      exact ⟨rfl, HB12.out⟩
    · have HN2 : Hid (∀ op ys, okA (ez op) ys = true → tx2.data.toList ≠ eT op ys) := hno2
      have HR9 : Hid (∀ o, Below w.heap.size w (w9.alloc o)) := fun o => HB9.out.alloc HB9.out.size o
      have HO9 : Hid (Own2 (w9.alloc (.cells #[.int .i64 0, .slice none 0 0] 25)) w9.heap.size (.int .i64 0) (.slice none 0 0)) := Own2.new w9 _ _
      clear hno2
      unfold elemV
      go_wp2_with fail
      refine (sreadE_any tx2 _).mono ?_
      rintro e w10 ⟨⟨hb10, h10⟩, -⟩
      obtain ⟨op3, ys3, g3, cap3, rfl, hok3, ht3, -, -⟩ | ⟨rfl, -⟩ := h10
      · exact absurd ht3 (HN2.out op3 ys3 hok3)
      have HO10 : Hid (Own2 w10 w9.heap.size (.int .i64 0) (.slice none 0 0)) := HO9.out.below hb10
      have HB10 : Hid (Below w.heap.size w w10) := (HR9.out _).trans (hb10.mono (HR9.out _).size)
      have HR10 : Hid (∀ o, Below w.heap.size w (w10.alloc o)) := fun o => HB10.out.alloc HB10.out.size o
      clear hb10 HR9 HO9
      have o10 := HO10.out
      obtain ⟨⟨r0, r1⟩, -, -⟩ := o10
      have hz10 := HO10.out.lt
      unfold elemV
      go_wp2_with fail
      refine (weNil_any _).mono ?_
      rintro e w11 ⟨rfl, hb11⟩
      have HB11 : Hid (Below w.heap.size w w11) := (HR10.out _).trans (hb11.mono (HR10.out _).size)
      clear hb11 r0 r1 HR10
      go_wp2
      go_ret
      exact ⟨rfl, HB11.out⟩
  · have HK : Hid (okA (ez op) ys = true) := hk
    have hz : (eT op ys == []) = false := by
      rw [beq_eq_false_iff_ne]
      exact eT_some hk
    clear hk
    cases hc : conB op ys
    · have HC1 : Hid (conB op ys = false) := hc
      have HC2 : Hid (coilB op ys = true) := by
        have := HSp.out
        rw [HK.out, hc] at this
        show _ = _
        simpa using this.symm
      clear hc HSp
      go_wp2_with fail
      refine (isContact_any op ys p cap _ (HD.out _ HB3.out) HA3.out hyc (by omega)).mono ?_
      rintro e w4 ⟨rfl, hb4⟩
      rw [HC1.out]
      have HB4 : Hid (Below w.heap.size w w4) := HB3.out.trans (hb4.mono HB3.out.size)
      have HA4 : Hid (ArgsIs w4 p ys) := HA3.out.to hb4
      have HO4 : Hid (Own2 w4 w1.heap.size (.int .i64 op) (.slice p ys.length cap)) := HO3.out.below hb4
      clear hb4 r0 r1
      have o4 := HO4.out
      obtain ⟨⟨r0, r1⟩, -, -⟩ := o4

      go_wp2_with fail
      refine (isCoil_any op ys p cap _ (HD.out _ HB4.out) HA4.out hyc (by omega)).mono ?_
      rintro e w5 ⟨rfl, hb5⟩
      rw [HC2.out]
      have HB5 : Hid (Below w.heap.size w w5) := HB4.out.trans (hb5.mono HB4.out.size)
      have HA5 : Hid (ArgsIs w5 p ys) := HA4.out.to hb5
      have HO5 : Hid (Own2 w5 w1.heap.size (.int .i64 op) (.slice p ys.length cap)) := HO4.out.below hb5
      clear hb5 r0 r1

      go_wp2_with fail
      refine (HI.out ⟨(eT op ys).toArray⟩ _ (text_size (by omega)) HB5.out).mono ?_
      rw [text_data]
      rintro e w6 ⟨hb6, h6⟩
      have HB6 : Hid (Below w.heap.size w w6) := HB5.out.trans (hb6.mono HB5.out.size)
      have HA6 : Hid (ArgsIs w6 p ys) := HA5.out.to hb6
      have HO6 : Hid (Own2 w6 w1.heap.size (.int .i64 op) (.slice p ys.length cap)) := HO5.out.below hb6
      clear hb6

      obtain ⟨op', ys', g', cap', rfl, hok', ht', hrow', -⟩ | ⟨rfl, hno⟩ := h6
      rotate_left
      · exact absurd rfl (hno op ys HK.out)
      obtain ⟨rfl, rfl⟩ := HOne.out op ys op' ys' HK.out rfl hok' ht'
      clear hok' ht'
      obtain ⟨B, rfl, hB, hAt⟩ : ∃ B, p = some ⟨B, 0, none⟩ ∧ B < w6.heap.size ∧ ArgsAt w6 B ys := by
        rcases HA6.out with h | ⟨B, h1, h2, h3⟩
        · exact absurd h (okA_ne HK.out)
        · exact ⟨B, h1, h2, h3⟩
      have HRr : Hid (∀ o, ArgsAt (w6.alloc o) g' ys ∧ g' < (w6.alloc o).heap.size ∧ ArgsAt (w6.alloc o) B ys ∧ B < (w6.alloc o).heap.size ∧ Below w.heap.size w (w6.alloc o)) := fun o => ⟨(hrow'.to (one _ _)).args, (hrow'.to (one _ _)).lt, hAt.to hB (one _ _), by simp; omega, HB6.out.alloc HB6.out.size o⟩
      clear hrow' hAt
      have o6 := HO6.out
      obtain ⟨⟨r0, r1⟩, -, -⟩ := o6
      have hz6 := HO6.out.lt
      unfold elemV
      go_wp2_with fail
      refine (weSame_any op ys g' B cap' cap _ (HRr.out _).1 (HRr.out _).2.1 (HRr.out _).2.2.1 (HRr.out _).2.2.2.1 (by omega)).mono ?_
      rintro e w7 ⟨rfl, hb7⟩
      have HB7 : Hid (Below w.heap.size w w7) := (HRr.out _).2.2.2.2.trans (hb7.mono (HRr.out _).2.2.2.2.size)
      clear hb7 r0 r1 HRr

      go_wp2_with fail
      refine (drawERead_any a1 len1 cap1 _ (H1.out _ HB7.out) hlc1).mono ?_
      rintro e w8 ⟨tx2, rfl, hs2, hb8⟩
      have HB8 : Hid (Below w.heap.size w w8) := HB7.out.trans (hb8.mono HB7.out.size)
      clear hb8
      go_wp2_with fail
      refine (HI.out tx2 _ hs2 HB8.out).mono ?_
      rintro e w9 ⟨hb9, h9⟩
      have HB9 : Hid (Below w.heap.size w w9) := HB8.out.trans (hb9.mono HB8.out.size)
      clear hb9
      have HOne2 : Hid (OneE tx2.data.toList) := oneE_all _ w
      obtain ⟨op2, ys2, g2, cap2, rfl, hok2, ht2, hrow2, -⟩ | ⟨rfl, hno2⟩ := h9
      · have HK2 : Hid (okA (ez op2) ys2 = true ∧ tx2.data.toList = eT op2 ys2) := ⟨hok2, ht2⟩
        have hy3 : ys2.length ≤ 3 := by have := okA_len hok2; have := (fm0_ok (ez op2)).1; omega
        have HR9 : Hid (∀ o, ARow (w9.alloc o) g2 cap2 ys2 ∧ Below w.heap.size w (w9.alloc o)) := fun o => ⟨hrow2.to (one _ _), HB9.out.alloc HB9.out.size o⟩
        have HO9 : Hid (Own2 (w9.alloc (.cells #[.int .i64 op2, .slice (some ⟨g2, 0, none⟩) ys2.length cap2] 25)) w9.heap.size (.int .i64 op2) (.slice (some ⟨g2, 0, none⟩) ys2.length cap2)) := Own2.new w9 _ _
        have HRm := hrow2.room
        clear hok2 ht2 hrow2
        unfold elemV
        go_wp2_with fail
        refine (sreadE_any tx2 _).mono ?_
        rintro e w10 ⟨⟨hb10, h10⟩, -⟩
        obtain ⟨op3, ys3, g3, cap3, rfl, hok3, ht3, hrow3, -⟩ | ⟨rfl, hno3⟩ := h10
        rotate_left
        · exact absurd HK2.out.2 (hno3 op2 ys2 HK2.out.1)
        obtain ⟨rfl, rfl⟩ := HOne2.out op2 ys2 op3 ys3 HK2.out.1 HK2.out.2 hok3 ht3
        have HO10 : Hid (Own2 w10 w9.heap.size (.int .i64 op2) (.slice (some ⟨g2, 0, none⟩) ys2.length cap2)) := HO9.out.below hb10
        have HB10 : Hid (Below w.heap.size w w10) := (HR9.out _).2.trans (hb10.mono (HR9.out _).2.size)
        have HR10 : Hid (∀ o, ARow (w10.alloc o) g2 cap2 ys2 ∧ ARow (w10.alloc o) g3 cap3 ys2 ∧ Below w.heap.size w (w10.alloc o) ∧ Own2 (w10.alloc o) w9.heap.size (.int .i64 op2) (.slice (some ⟨g2, 0, none⟩) ys2.length cap2)) := fun o => ⟨((HR9.out _).1.to hb10).to (one _ _), hrow3.to (one _ _), HB10.out.alloc HB10.out.size o, HO10.out.alloc o⟩
        clear hok3 ht3 hrow3 hb10 HR9 HO9
        have o10 := HO10.out
        obtain ⟨⟨r0, r1⟩, -, -⟩ := o10
        have hz10 := HO10.out.lt
        unfold elemV
        go_wp2_with fail
        refine (weSame_any op2 ys2 g2 g3 cap2 cap3 _ (HR10.out _).1.args (HR10.out _).1.lt (HR10.out _).2.1.args (HR10.out _).2.1.lt (by omega)).mono ?_
        rintro e w11 ⟨rfl, hb11⟩
        have HB11 : Hid (Below w.heap.size w w11) := (HR10.out _).2.2.1.trans (hb11.mono (HR10.out _).2.2.1.size)
        have HR11 : Hid (ARow w11 g2 cap2 ys2) := (HR10.out _).1.to hb11
        have HO11 : Hid (Own2 w11 w9.heap.size (.int .i64 op2) (.slice (some ⟨g2, 0, none⟩) ys2.length cap2)) := (HR10.out _).2.2.2.below hb11
        clear hb11 r0 r1 HR10
        have o11 := HO11.out
        obtain ⟨⟨r0, r1⟩, -, -⟩ := o11
        go_wp2_with fail
        refine (HX.out op2 ys2 (some ⟨g2, 0, none⟩) cap2 _ HB11.out (.inr ⟨g2, rfl, HR11.out.lt, HR11.out.args⟩) HRm (by omega)).mono ?_
        rintro e w12 ⟨rfl, hb12⟩
        have HB12 : Hid (Below w.heap.size w w12) := HB11.out.trans (hb12.mono HB11.out.size)
        have heq2 : (eT op2 ys2 == tx2.toList) = true := by rw [text_list, HK2.out.2]; simp
        clear hb12
        go_wp2
        go_ret
        exact ⟨rfl, HB12.out⟩
      · have HN2 : Hid (∀ op ys, okA (ez op) ys = true → tx2.data.toList ≠ eT op ys) := hno2
        have HR9 : Hid (∀ o, Below w.heap.size w (w9.alloc o)) := fun o => HB9.out.alloc HB9.out.size o
        have HO9 : Hid (Own2 (w9.alloc (.cells #[.int .i64 0, .slice none 0 0] 25)) w9.heap.size (.int .i64 0) (.slice none 0 0)) := Own2.new w9 _ _
        clear hno2
        unfold elemV
        go_wp2_with fail
        refine (sreadE_any tx2 _).mono ?_
        rintro e w10 ⟨⟨hb10, h10⟩, -⟩
        obtain ⟨op3, ys3, g3, cap3, rfl, hok3, ht3, -, -⟩ | ⟨rfl, -⟩ := h10
        · exact absurd ht3 (HN2.out op3 ys3 hok3)
        have HO10 : Hid (Own2 w10 w9.heap.size (.int .i64 0) (.slice none 0 0)) := HO9.out.below hb10
        have HB10 : Hid (Below w.heap.size w w10) := (HR9.out _).trans (hb10.mono (HR9.out _).size)
        have HR10 : Hid (∀ o, Below w.heap.size w (w10.alloc o)) := fun o => HB10.out.alloc HB10.out.size o
        clear hb10 HR9 HO9
        have o10 := HO10.out
        obtain ⟨⟨r0, r1⟩, -, -⟩ := o10
        have hz10 := HO10.out.lt
        unfold elemV
        go_wp2_with fail
        refine (weNil_any _).mono ?_
        rintro e w11 ⟨rfl, hb11⟩
        have HB11 : Hid (Below w.heap.size w w11) := (HR10.out _).trans (hb11.mono (HR10.out _).size)
        clear hb11 r0 r1 HR10
        go_wp2
        go_ret
        exact ⟨rfl, HB11.out⟩
    · have HC1 : Hid (conB op ys = true) := hc
      clear hc HSp
      go_wp2_with fail
      refine (isContact_any op ys p cap _ (HD.out _ HB3.out) HA3.out hyc (by omega)).mono ?_
      rintro e w4 ⟨rfl, hb4⟩
      rw [HC1.out]
      have HB4 : Hid (Below w.heap.size w w4) := HB3.out.trans (hb4.mono HB3.out.size)
      have HA4 : Hid (ArgsIs w4 p ys) := HA3.out.to hb4
      have HO4 : Hid (Own2 w4 w1.heap.size (.int .i64 op) (.slice p ys.length cap)) := HO3.out.below hb4
      clear hb4 r0 r1
      have o4 := HO4.out
      obtain ⟨⟨r0, r1⟩, -, -⟩ := o4

      have HB5 : Hid (Below w.heap.size w w4) := HB4
      have HA5 : Hid (ArgsIs w4 p ys) := HA4
      have HO5 : Hid (Own2 w4 w1.heap.size (.int .i64 op) (.slice p ys.length cap)) := HO4
      clear r0 r1

      go_wp2_with fail
      refine (HI.out ⟨(eT op ys).toArray⟩ _ (text_size (by omega)) HB5.out).mono ?_
      rw [text_data]
      rintro e w6 ⟨hb6, h6⟩
      have HB6 : Hid (Below w.heap.size w w6) := HB5.out.trans (hb6.mono HB5.out.size)
      have HA6 : Hid (ArgsIs w6 p ys) := HA5.out.to hb6
      have HO6 : Hid (Own2 w6 w1.heap.size (.int .i64 op) (.slice p ys.length cap)) := HO5.out.below hb6
      clear hb6

      obtain ⟨op', ys', g', cap', rfl, hok', ht', hrow', -⟩ | ⟨rfl, hno⟩ := h6
      rotate_left
      · exact absurd rfl (hno op ys HK.out)
      obtain ⟨rfl, rfl⟩ := HOne.out op ys op' ys' HK.out rfl hok' ht'
      clear hok' ht'
      obtain ⟨B, rfl, hB, hAt⟩ : ∃ B, p = some ⟨B, 0, none⟩ ∧ B < w6.heap.size ∧ ArgsAt w6 B ys := by
        rcases HA6.out with h | ⟨B, h1, h2, h3⟩
        · exact absurd h (okA_ne HK.out)
        · exact ⟨B, h1, h2, h3⟩
      have HRr : Hid (∀ o, ArgsAt (w6.alloc o) g' ys ∧ g' < (w6.alloc o).heap.size ∧ ArgsAt (w6.alloc o) B ys ∧ B < (w6.alloc o).heap.size ∧ Below w.heap.size w (w6.alloc o)) := fun o => ⟨(hrow'.to (one _ _)).args, (hrow'.to (one _ _)).lt, hAt.to hB (one _ _), by simp; omega, HB6.out.alloc HB6.out.size o⟩
      clear hrow' hAt
      have o6 := HO6.out
      obtain ⟨⟨r0, r1⟩, -, -⟩ := o6
      have hz6 := HO6.out.lt
      unfold elemV
      go_wp2_with fail
      refine (weSame_any op ys g' B cap' cap _ (HRr.out _).1 (HRr.out _).2.1 (HRr.out _).2.2.1 (HRr.out _).2.2.2.1 (by omega)).mono ?_
      rintro e w7 ⟨rfl, hb7⟩
      have HB7 : Hid (Below w.heap.size w w7) := (HRr.out _).2.2.2.2.trans (hb7.mono (HRr.out _).2.2.2.2.size)
      clear hb7 r0 r1 HRr

      go_wp2_with fail
      refine (drawERead_any a1 len1 cap1 _ (H1.out _ HB7.out) hlc1).mono ?_
      rintro e w8 ⟨tx2, rfl, hs2, hb8⟩
      have HB8 : Hid (Below w.heap.size w w8) := HB7.out.trans (hb8.mono HB7.out.size)
      clear hb8
      go_wp2_with fail
      refine (HI.out tx2 _ hs2 HB8.out).mono ?_
      rintro e w9 ⟨hb9, h9⟩
      have HB9 : Hid (Below w.heap.size w w9) := HB8.out.trans (hb9.mono HB8.out.size)
      clear hb9
      have HOne2 : Hid (OneE tx2.data.toList) := oneE_all _ w
      obtain ⟨op2, ys2, g2, cap2, rfl, hok2, ht2, hrow2, -⟩ | ⟨rfl, hno2⟩ := h9
      · have HK2 : Hid (okA (ez op2) ys2 = true ∧ tx2.data.toList = eT op2 ys2) := ⟨hok2, ht2⟩
        have hy3 : ys2.length ≤ 3 := by have := okA_len hok2; have := (fm0_ok (ez op2)).1; omega
        have HR9 : Hid (∀ o, ARow (w9.alloc o) g2 cap2 ys2 ∧ Below w.heap.size w (w9.alloc o)) := fun o => ⟨hrow2.to (one _ _), HB9.out.alloc HB9.out.size o⟩
        have HO9 : Hid (Own2 (w9.alloc (.cells #[.int .i64 op2, .slice (some ⟨g2, 0, none⟩) ys2.length cap2] 25)) w9.heap.size (.int .i64 op2) (.slice (some ⟨g2, 0, none⟩) ys2.length cap2)) := Own2.new w9 _ _
        have HRm := hrow2.room
        clear hok2 ht2 hrow2
        unfold elemV
        go_wp2_with fail
        refine (sreadE_any tx2 _).mono ?_
        rintro e w10 ⟨⟨hb10, h10⟩, -⟩
        obtain ⟨op3, ys3, g3, cap3, rfl, hok3, ht3, hrow3, -⟩ | ⟨rfl, hno3⟩ := h10
        rotate_left
        · exact absurd HK2.out.2 (hno3 op2 ys2 HK2.out.1)
        obtain ⟨rfl, rfl⟩ := HOne2.out op2 ys2 op3 ys3 HK2.out.1 HK2.out.2 hok3 ht3
        have HO10 : Hid (Own2 w10 w9.heap.size (.int .i64 op2) (.slice (some ⟨g2, 0, none⟩) ys2.length cap2)) := HO9.out.below hb10
        have HB10 : Hid (Below w.heap.size w w10) := (HR9.out _).2.trans (hb10.mono (HR9.out _).2.size)
        have HR10 : Hid (∀ o, ARow (w10.alloc o) g2 cap2 ys2 ∧ ARow (w10.alloc o) g3 cap3 ys2 ∧ Below w.heap.size w (w10.alloc o) ∧ Own2 (w10.alloc o) w9.heap.size (.int .i64 op2) (.slice (some ⟨g2, 0, none⟩) ys2.length cap2)) := fun o => ⟨((HR9.out _).1.to hb10).to (one _ _), hrow3.to (one _ _), HB10.out.alloc HB10.out.size o, HO10.out.alloc o⟩
        clear hok3 ht3 hrow3 hb10 HR9 HO9
        have o10 := HO10.out
        obtain ⟨⟨r0, r1⟩, -, -⟩ := o10
        have hz10 := HO10.out.lt
        unfold elemV
        go_wp2_with fail
        refine (weSame_any op2 ys2 g2 g3 cap2 cap3 _ (HR10.out _).1.args (HR10.out _).1.lt (HR10.out _).2.1.args (HR10.out _).2.1.lt (by omega)).mono ?_
        rintro e w11 ⟨rfl, hb11⟩
        have HB11 : Hid (Below w.heap.size w w11) := (HR10.out _).2.2.1.trans (hb11.mono (HR10.out _).2.2.1.size)
        have HR11 : Hid (ARow w11 g2 cap2 ys2) := (HR10.out _).1.to hb11
        have HO11 : Hid (Own2 w11 w9.heap.size (.int .i64 op2) (.slice (some ⟨g2, 0, none⟩) ys2.length cap2)) := (HR10.out _).2.2.2.below hb11
        clear hb11 r0 r1 HR10
        have o11 := HO11.out
        obtain ⟨⟨r0, r1⟩, -, -⟩ := o11
        go_wp2_with fail
        refine (HX.out op2 ys2 (some ⟨g2, 0, none⟩) cap2 _ HB11.out (.inr ⟨g2, rfl, HR11.out.lt, HR11.out.args⟩) HRm (by omega)).mono ?_
        rintro e w12 ⟨rfl, hb12⟩
        have HB12 : Hid (Below w.heap.size w w12) := HB11.out.trans (hb12.mono HB11.out.size)
        have heq2 : (eT op2 ys2 == tx2.toList) = true := by rw [text_list, HK2.out.2]; simp
        clear hb12
        go_wp2
        go_ret
        exact ⟨rfl, HB12.out⟩
      · have HN2 : Hid (∀ op ys, okA (ez op) ys = true → tx2.data.toList ≠ eT op ys) := hno2
        have HR9 : Hid (∀ o, Below w.heap.size w (w9.alloc o)) := fun o => HB9.out.alloc HB9.out.size o
        have HO9 : Hid (Own2 (w9.alloc (.cells #[.int .i64 0, .slice none 0 0] 25)) w9.heap.size (.int .i64 0) (.slice none 0 0)) := Own2.new w9 _ _
        clear hno2
        unfold elemV
        go_wp2_with fail
        refine (sreadE_any tx2 _).mono ?_
        rintro e w10 ⟨⟨hb10, h10⟩, -⟩
        obtain ⟨op3, ys3, g3, cap3, rfl, hok3, ht3, -, -⟩ | ⟨rfl, -⟩ := h10
        · exact absurd ht3 (HN2.out op3 ys3 hok3)
        have HO10 : Hid (Own2 w10 w9.heap.size (.int .i64 0) (.slice none 0 0)) := HO9.out.below hb10
        have HB10 : Hid (Below w.heap.size w w10) := (HR9.out _).trans (hb10.mono (HR9.out _).size)
        have HR10 : Hid (∀ o, Below w.heap.size w (w10.alloc o)) := fun o => HB10.out.alloc HB10.out.size o
        clear hb10 HR9 HO9
        have o10 := HO10.out
        obtain ⟨⟨r0, r1⟩, -, -⟩ := o10
        have hz10 := HO10.out.lt
        unfold elemV
        go_wp2_with fail
        refine (weNil_any _).mono ?_
        rintro e w11 ⟨rfl, hb11⟩
        have HB11 : Hid (Below w.heap.size w w11) := (HR10.out _).trans (hb11.mono (HR10.out _).size)
        clear hb11 r0 r1 HR10
        go_wp2
        go_ret
        exact ⟨rfl, HB11.out⟩
end Go.Proofs.YtlddkhhaclfmiaaGreatDoor
