/- The spoiling of nets: l6SpoilNet. Helper text: no statement is claimed here. -/
import Derived.Test.YtjkpingdokkkcaaGreatDoorCz
import Derived.Laws.IdiomCopy
namespace Go.Proofs.YtjkpingdokkkcaaGreatDoor.Tr
open Go.ChangeShapes Go.WideShapes Go.ChangeAt Go.RowKit

def SpoilN (n : Nat) : Prop := ∀ (O : Nat → Prop) (L z rb m : Nat) (w : World) (v : Value) (t : NT n) (_ : Rd w rb m) (_ : m + 100 + 2 * n ≤ 600000) (_ : ∀ b, O b → b < w.heap.size ∧ b ≠ rb) (_ : NtV O w n v t) (_ : okN L n t) (_ : zN n t ≤ z) (_ : z ≤ 90000) (_ : 3 ≤ L) (_ : L ≤ 9),
  Calls Tryz.prog 57 #[.pointer (some ⟨rb, 0, none⟩), v] w (SNr O (L + 1) n (z + 12) rb (m + 100 + 2 * n) w)
/-- The box, the result, and what is read. -/
def SB (rb M : Nat) (w : World) (x0 x1 x2 x3 : Value) (wx : World) : Prop := Own4 wx w.heap.size x0 x1 x2 x3 ∧ Own4 wx (w.heap.size + 1) (.int .i64 0) (.int .i64 0) (.slice none 0 0) (.slice none 0 0) ∧ Rd wx rb M ∧ Step rb w wx
theorem SB.step {rb M M' : Nat} {w wx wy : World} {x0 x1 x2 x3 : Value} (h : SB rb M' w x0 x1 x2 x3 wx) (st : Step rb wx wy) (hr : Rd wy rb M) (hrb : rb < w.heap.size) : SB rb M w x0 x1 x2 x3 wy := ⟨h.1.step st (by omega), h.2.1.step st (by omega), hr, h.2.2.2.trans st⟩
theorem kids_up {O S : Nat → Prop} {n : Nat} {w X : World} {pk : Option Addr} {ck : Nat} {ks : List (NT n)} (h : SlOf O (NtE O w n) 4 pk ck ks) (hk : Keep O w X) (hS : ∀ b, O b → S b) : SlOf S (NtE S X (n + 1)) 4 pk ck (ks.map (upN n)) := (nets_to hk hS h).map (upN n) fun _ _ _ h => upN_E n h
theorem kids_z {n : Nat} (ks : List (NT n)) : tot (zN (n + 1)) (ks.map (upN n)) = tot (zN n) ks := tot_map (upN n) _ (zN n) (upN_z n) ks
theorem kids_ok {L n : Nat} {ks : List (NT n)} (h : ∀ u ∈ ks, okN L n u) : ∀ u ∈ ks.map (upN n), okN L (n + 1) u := fun u hu => by
  obtain ⟨x, hx, rfl⟩ := List.mem_map.1 hu
  exact upN_ok n (h x hx)
theorem rowN_sl {O : Nat → Prop} {n base : Nat} {W : World} {p : Option Addr} {cap : Nat} {us : List (NT n)} (h : RowN O n base W (.slice p us.length cap) us) : SlOf (Frs O base W) (NtE (Frs O base W) W n) 4 p cap us := by
  obtain ⟨xs, hx⟩ := h
  obtain ⟨p', cap', he, hS⟩ := hx.sl (keptN _) (madeN _)
  simp only [Value.slice.injEq] at he
  obtain ⟨rfl, -, rfl⟩ := he
  exact hS
theorem gbelow {α : Type} {T : TypeId} {O : Nat → Prop} {sz base : Nat} {V : (Nat → Prop) → World → Value → α → Prop} {W W' : World} {v : Value} {ts : List α} (h : ∃ xs, GRow O T sz V base W v xs ts) (g : W.grownBy W' v.ownBlock) (hb : base ≤ W.heap.size) : Below base W W' := by
  obtain ⟨xs, h⟩ := h
  exact grow_below h.1 g hb
theorem rowN_al {O : Nat → Prop} {n base : Nat} {W : World} {v : Value} {ts : List (NT n)} (h : RowN O n base W v ts) (hO : ∀ b, O b → b < base) (hb : base ≤ W.heap.size) (o : Obj) : RowN O n base (W.alloc o) v ts := by
  obtain ⟨xs, h⟩ := h
  exact ⟨xs, h.to (keptN _) (Out.of (one _ _) (fun b hb' => Nat.lt_of_lt_of_le (hO b hb') hb))⟩
theorem SB.in {rb M B : Nat} {w wx wy : World} {x0 x1 x2 x3 : Value} (h : SB rb M w x0 x1 x2 x3 wx) (hb : Below B wx wy) (hB : w.heap.size + 1 < B) (hrb : rb < w.heap.size) : SB rb M w x0 x1 x2 x3 wy := ⟨h.1.to (hb.block _ (by omega)), h.2.1.to (hb.block _ (by omega)), h.2.2.1.in hb (by omega), h.2.2.2.in hb (by omega)⟩
theorem tot_set {α : Type} (f : α → Nat) : ∀ (ts : List α) (k : Nat) (t u : α), ts[k]? = some t → tot f (ts.set k u) + f t = tot f ts + f u
  | [], k, t, u, h => by simp at h
  | x :: ts, 0, t, u, h => by
    obtain rfl : x = t := by simpa using h
    simp only [List.set_cons_zero, tot_cons]
    omega
  | x :: ts, k + 1, t, u, h => by
    have := tot_set f ts k t u (by simpa using h)
    simp only [List.set_cons_succ, tot_cons]
    omega
theorem setCells_far {g b : Nat} (hb : b ≠ g) : ∀ (vs : List Value) (o : Nat) (w : World), (w.setCells g o vs).heap[b]? = w.heap[b]?
  | [], _, _ => rfl
  | v :: vs, o, w => (setCells_far hb vs (o + 1) (w.setCell ⟨g, o, none⟩ v)).trans (Below.heap_setCell _ _ _ _ hb)
theorem setCells_size {g : Nat} : ∀ (vs : List Value) (o : Nat) (w : World), (w.setCells g o vs).heap.size = w.heap.size
  | [], _, _ => rfl
  | v :: vs, o, w => (setCells_size vs (o + 1) (w.setCell ⟨g, o, none⟩ v)).trans (World.size_setCell ..)
theorem Rd.setCells {rb m g : Nat} (hg : rb < g) : ∀ (vs : List Value) (o : Nat) (w : World), Rd w rb m → Rd (w.setCells g o vs) rb m
  | [], _, _, h => h
  | _ :: vs, o, _, h => Rd.setCells hg vs (o + 1) _ (h.set _ _ _ hg)
theorem Step.setCells {rb g : Nat} {w0 : World} (hg : w0.heap.size ≤ g) : ∀ (vs : List Value) (o : Nat) (w : World), Step rb w0 w → Step rb w0 (w.setCells g o vs)
  | [], _, _, h => h
  | _ :: vs, o, _, h => Step.setCells hg vs (o + 1) _ (h.setNew _ _ _ hg)
section
variable {α β : Type} {T : TypeId} {O : Nat → Prop} {sz base : Nat} {V : (Nat → Prop) → World → Value → α → Prop} {V' : (Nat → Prop) → World → Value → β → Prop} {E' : (Nat → Prop) → World → Nat → Nat → β → Prop}
/-- What a call gave is put into the row in its place. -/
theorem kid_put (hV : KeptV V') (hE : MadeE V' E') (f : α → β) (hf : ∀ S W v t, V S W v t → V' S W v (f t)) {w4 w6 : World} {g cap kk : Nat} {xs : List Value} {ts : List α} (h : GRow O T sz V base w6 (.slice (some ⟨g, 0, none⟩) ts.length cap) xs ts) (hg : base ≤ g) (hO0 : ∀ b, O b → b < base) (hg4 : g < w4.heap.size) (hs : w4.heap.size ≤ w6.heap.size) (cs' : List Value) (hl : cs'.length = sz)
    (hx : ∀ j, j < sz → (w6.cell? ⟨g, kk * sz + j, none⟩).isSome = true) (t' : β) (ht' : V' (Frs (Inn O base w4 (.slice (some ⟨g, 0, none⟩) ts.length cap)) w4.heap.size w6) w6 (.agg cs'.toArray) t') :
    SlOf (Frs O base (w6.setCells g (kk * sz) cs')) (E' (Frs O base (w6.setCells g (kk * sz) cs')) (w6.setCells g (kk * sz) cs')) sz (some ⟨g, 0, none⟩) cap ((ts.map f).set kk t') := by
  refine row_set hV hE f hf h hg (fun b hb hb' => by have := hO0 b hb; omega) (fun b hb => setCells_far hb cs' _ w6) (setCells_size cs' _ w6) (fun o ho => World.cell?_setCells_out g cs' _ w6 _ (fun _ _ => by rw [hl]; exact ho)) cs' (fun j u hj => ?_) t' (hV _ _ _ _ _ _ (fun b hb => setCells_far ?_ cs' _ w6) (fun b hb => ?_) ht')
  · obtain ⟨hj1, hj2⟩ := List.getElem?_eq_some_iff.1 hj
    rw [World.cell?_setCells_in g cs' (kk * sz) w6 (fun j hj => hx j (by omega)) j hj1, hj2]
  · rcases hb with hb | hb
    · rcases hb with hb | hb
      · have := hO0 b hb; omega
      · exact fun e => hb.2.2 (by rw [e]; rfl)
    · omega
  · rw [show (Frs O base (w6.setCells g (kk * sz) cs') b) = (O b ∨ (base ≤ b ∧ b < (w6.setCells g (kk * sz) cs').heap.size)) from rfl, setCells_size]
    rcases hb with hb | hb
    · rcases hb with hb | hb
      · exact .inl hb
      · exact .inr ⟨hb.1, by have := hb.2.1; omega⟩
    · exact .inr ⟨by omega, hb.2⟩
end
set_option maxHeartbeats 2000000 in
set_option maxRecDepth 100000 in
theorem spoilN_next (n : Nat) (IH : SpoilN n) : SpoilN (n + 1) := by
  intro O L z rb m w v t hr hm hO hV hokt hzt hz9 hL3 hL9
  have hlt := hr.lt
  have HI : Hid (SpoilN n) := IH
  have HO : Hid (∀ b, O b → b < w.heap.size ∧ b ≠ rb) := hO
  clear IH hO
  obtain ⟨pa, ca, pk, ck, rfl, hA, hK⟩ := hV
  obtain ⟨kd, ⟨op, ys⟩, ks⟩ := t
  have HA : Hid (SlOf O (ArE w) 3 pa ca ys) := hA
  have HK : Hid (SlOf O (NtE O w n) 4 pk ck ks) := hK
  have HOKE : Hid (okEl L (op, ys)) := hokt.1
  have HOKK : Hid (∀ u ∈ ks, okN L n u) := hokt.2
  have HZ : Hid (ys.length + (ks.length + tot (zN n) ks) ≤ z) := hzt
  clear hA hK hokt hzt
  simp only [NT.kind, NT.el, NT.kids]
  go_enter Tryz.func57, Tryz.ntmps57
  go_upto_region 1 with fail
  have HS0 : Hid (SB rb m w (.int .i64 kd) (.int .i64 op) (.slice pa ys.length ca) (.slice pk ks.length ck) ((w.alloc (.cells #[.int .i64 kd, .int .i64 op, .slice pa ys.length ca, .slice pk ks.length ck] 49)).alloc (.cells #[.int .i64 0, .int .i64 0, .slice none 0 0, .slice none 0 0] 49))) := ⟨(Own4.new w _ _ _ _).alloc _, by have := Own4.new (w.alloc (.cells #[.int .i64 kd, .int .i64 op, .slice pa ys.length ca, .slice pk ks.length ck] 49)) (.int .i64 0) (.int .i64 0) (.slice none 0 0) (.slice none 0 0); simpa using this, (hr.alloc _).alloc _, (Step.alloc rb w _).trans (Step.alloc rb _ _)⟩
  clear hr
  go_cut [15] from 7 (fun s wx => ∃ b : Bool, s = .bool b ∧ Hid (b = true → ks ≠ []) ∧ Hid (SB rb (m + 1) w (.int .i64 kd) (.int .i64 op) (.slice pa ys.length ca) (.slice pk ks.length ck) wx))
  case first =>
    obtain ⟨hbx, hrs, hrd, hst⟩ := HS0.out
    obtain ⟨c0, c1, c2, c3⟩ := hbx.cells
    by_cases hk0 : ks = []
    · subst hk0
      go_wp2
      go_meet
      exact ⟨false, rfl, fun h => (by cases h), hbx, hrs, hrd.mono (by omega), hst⟩
    · have hl0 : 0 < ks.length := List.length_pos_iff.2 hk0
      have hl0' : (0 : Int) < (ks.length : Int) := by omega
      have HNE : Hid (ks ≠ []) := hk0
      clear hk0
      go_wp2_with fail
      refine (pick_any rb m 3 _ (by omega) hrd (by omega)).mono ?_
      rintro e wy ⟨k, rfl, k0, k1, -, hry, sty⟩
      go_wp2
      go_meet
      exact ⟨_, rfl, fun _ => HNE.out, HS0.out.step sty hry hlt⟩
  case rest =>
    obtain ⟨b, rfl, HB, HS1⟩ := hcut
    clear HS0
    obtain ⟨hbx, hrs, hrd, hst⟩ := HS1.out
    obtain ⟨c0, c1, c2, c3⟩ := hbx.cells
    obtain ⟨f0, f1, f2, f3⟩ := hbx.free
    cases b with
    | true =>
      have hne : ks ≠ [] := HB.out rfl
      have hl0 : 0 < ks.length := List.length_pos_iff.2 hne
      have hlk : ks.length ≤ 100000 := by have := HZ.out; omega
      have hlc : w.heap.size + 1 < wc.heap.size := hrs.lt
      have hlc0 : w.heap.size < wc.heap.size := hbx.lt
      have HKW : Hid (SlOf O (NtE O (wc.alloc (.cells #[] 49)) n) 4 pk ck ks) := nets_to (Keep.trans0 (Keep.ofStep hst HO.out) (Keep.of (one wc _) (fun b h => by have := (HO.out b h).1; omega))) (fun _ h => h) HK.out
      have HOB : Hid (∀ b, O b → b < wc.heap.size) := fun b h => by have := (HO.out b h).1; omega
      clear HB hne
      go_wp2_with (refine wl_copy tyN (keptN n) (readN n) (O := O) (base := wc.heap.size) _ (by rfl) (.tmp 16) (.tmp 18) (by rfl) wc.heap.size (by rfl) (last _ _) (Nat.le_refl _) HOB.out (by rfl) HKW.out hlk ?_; intro g cap5 w3 HR3 HG3 hg3 hl3)
      have hbw3 : Below wc.heap.size (wc.alloc (.cells #[] 49)) w3 := ⟨HG3.out.os, HG3.out.tape, HG3.out.output, HG3.out.size, fun b hb => HG3.out.block b (by simp; omega) (by simp; omega)⟩
      have HB13 : Hid (Below wc.heap.size wc w3) := (one wc _).trans hbw3
      have HS3 : Hid (SB rb (m + 1) w (.int .i64 kd) (.int .i64 op) (.slice pa ys.length ca) (.slice pk ks.length ck) w3) := HS1.out.step (.of HB13.out) (hrd.to HB13.out) hlt
      have hs3 := HB13.out.size
      clear hbw3 HG3 c0 c1 c2 c3 f0 f1 f2 f3 hbx hrs hrd hst HS1
      refine (pick_any rb (m + 1) (ks.length : Int) _ (by omega) HS3.out.2.2.1 (by omega)).mono ?_
      rintro e w4 ⟨k, rfl, k0, k1, -, hr4, st4⟩
      obtain ⟨kk, rfl⟩ := Int.eq_ofNat_of_zero_le k0
      have hkk : kk < ks.length := by have := k1 (by omega); omega
      have hkk' : (kk : Int) < (ks.length : Int) := by omega
      have HS4 : Hid (SB rb (m + 2) w (.int .i64 kd) (.int .i64 op) (.slice pa ys.length ca) (.slice pk ks.length ck) w4) := HS3.out.step st4 hr4 hlt
      obtain ⟨xs, HR4⟩ : ∃ xs, Hid (GRow O 49 4 (fun S W v (t : NT n) => NtV S W n v t) wc.heap.size w4 (.slice (some ⟨g, 0, none⟩) ks.length cap5) xs ks) := by
        obtain ⟨xs, hx⟩ := HR3.out
        exact ⟨xs, hx.to (keptN n) (out_step st4 (by omega) (fun b h => ⟨by have := HOB.out b h; omega, (HO.out b h).2⟩))⟩
      have hs4 := st4.size
      obtain ⟨tk, htk⟩ := get_lt hkk
      obtain ⟨cs, hcl, hcs, hcv⟩ := HR4.out.at htk
      obtain ⟨kd1, op1, pa1, la1, ca1, pk1, lk1, ck1, he⟩ := NtV.parts hcv
      have hce : cs = [.int .i64 kd1, .int .i64 op1, .slice pa1 la1 ca1, .slice pk1 lk1 ck1] := by
        simp only [Value.agg.injEq] at he
        simpa using congrArg Array.toList he
      subst hce
      have x0 := hcs 0 _ rfl
      rw [Nat.add_zero] at x0
      have x1 := hcs 1 _ rfl
      have x2 := hcs 2 _ rfl
      have x3 := hcs 3 _ rfl
      have HCV : Hid (NtV (Inn O wc.heap.size w4 (.slice (some ⟨g, 0, none⟩) ks.length cap5)) w4 n (.agg #[.int .i64 kd1, .int .i64 op1, .slice pa1 la1 ca1, .slice pk1 lk1 ck1]) tk) := hcv
      clear hcs hcv he hcl k0 k1 st4 HR3 HS3
      go_wp2_with fail
      refine (HI.out (Inn O wc.heap.size w4 (.slice (some ⟨g, 0, none⟩) ks.length cap5)) L (zN n tk) rb (m + 2) w4 _ tk hr4 (by omega) (fun b hb => ?_) HCV.out (HOKK.out tk (List.mem_of_getElem? htk)) (Nat.le_refl _) (by have h1 := HZ.out; have h2 := tot_get (zN n) htk; omega) hL3 hL9).mono ?_
      · rcases hb with hb | hb
        · exact ⟨by have := HOB.out b hb; omega, (HO.out b hb).2⟩
        · exact ⟨hb.2.1, by omega⟩
      rintro e w6 ⟨v6, t6, rfl, hV6, hok6, hz6, hr6, st6⟩
      obtain ⟨kd6, op6, pa6, la6, ca6, pk6, lk6, ck6, rfl⟩ := hV6.parts
      have HS6 : Hid (SB rb (m + 2 + 100 + 2 * n) w (.int .i64 kd) (.int .i64 op) (.slice pa ys.length ca) (.slice pk ks.length ck) w6) := HS4.out.step st6 hr6 hlt
      have hs6 := st6.size
      have HR6 : Hid (GRow O 49 4 (fun S W v (t : NT n) => NtV S W n v t) wc.heap.size w6 (.slice (some ⟨g, 0, none⟩) ks.length cap5) xs ks) := HR4.out.to (keptN n) (out_step st6 (by omega) (fun b h => ⟨by have := HOB.out b h; omega, (HO.out b h).2⟩))
      obtain ⟨cur, hcur, hcsz, hg4⟩ : ∃ cur, w6.heap[g]? = some (.cells cur 49 (0, 0)) ∧ ks.length * 4 ≤ cur.size ∧ g < w4.heap.size := by
        rcases HR4.out.1.2 with ⟨h', -⟩ | ⟨g', cap', cur, hv, hb, hg, hn, hc, hsz, -⟩
        · simp at h'
        · simp only [Value.slice.injEq, Option.some.injEq, Addr.mk.injEq] at hv
          obtain ⟨⟨rfl, -⟩, -, rfl⟩ := hv
          have hgl := (Array.getElem?_eq_some_iff.1 hg).1
          exact ⟨cur, (st6.block g hgl (by omega)).trans hg, by rw [hsz]; exact Nat.mul_le_mul_right _ hn, hgl⟩
      have y0 := (st6.cell g (kk * 4) hg4 (by omega)).trans x0
      have y1 := (st6.cell g (kk * 4 + 1) hg4 (by omega)).trans x1
      have y2 := (st6.cell g (kk * 4 + 2) hg4 (by omega)).trans x2
      have y3 := (st6.cell g (kk * 4 + 3) hg4 (by omega)).trans x3
      have z0 := frozen_of_row w6 g (kk * 4) _ _ hcur
      have z1 := frozen_of_row w6 g (kk * 4 + 1) _ _ hcur
      have z2 := frozen_of_row w6 g (kk * 4 + 2) _ _ hcur
      have z3 := frozen_of_row w6 g (kk * 4 + 3) _ _ hcur
      have HV6 : Hid (NtV (Frs (Inn O wc.heap.size w4 (.slice (some ⟨g, 0, none⟩) ks.length cap5)) w4.heap.size w6) w6 (n + 1) (.agg #[.int .i64 kd6, .int .i64 op6, .slice pa6 la6 ca6, .slice pk6 lk6 ck6]) t6) := hV6
      have HOK6 : Hid (okN (L + 1) (n + 1) t6) := hok6
      have HZ6 : Hid (zN (n + 1) t6 ≤ zN n tk + 12) := hz6
      clear x0 x1 x2 x3 HCV hV6 hok6 hz6 hr6 st6 HR4 HS4 hr4 hcsz
      obtain ⟨hbx, hrs, hrd, hst⟩ := HS6.out
      obtain ⟨c0, c1, c2, c3⟩ := hbx.cells
      obtain ⟨f0, f1, f2, f3⟩ := hbx.free
      obtain ⟨d0, d1, d2, d3⟩ := hrs.cells
      obtain ⟨e0, e1, e2, e3⟩ := hrs.free
      have hgn : g ≠ w.heap.size := by omega
      have hgn1 : g ≠ w.heap.size + 1 := by omega
      go_wp2
      have hput := kid_put (keptN (n + 1)) (madeN (n + 1)) (upN n) (fun S W v t h => upN_V n h) HR6.out hg3 HOB.out hg4 hs6 [.int .i64 kd6, .int .i64 op6, .slice pa6 la6 ca6, .slice pk6 lk6 ck6] rfl (kk := kk) (fun j hj => by
        match j, hj with
        | 0, _ => simp [y0]
        | 1, _ => simp [y1]
        | 2, _ => simp [y2]
        | 3, _ => simp [y3]) t6 HV6.out
      have hrW := Rd.setCells (show rb < g by omega) [.int .i64 kd6, .int .i64 op6, .slice pa6 la6 ca6, .slice pk6 lk6 ck6] (kk * 4) w6 hrd
      have hsW := Step.setCells (show w.heap.size ≤ g by omega) [.int .i64 kd6, .int .i64 op6, .slice pa6 la6 ca6, .slice pk6 lk6 ck6] (kk * 4) w6 hst
      have hrsW : Own4 (w6.setCells g (kk * 4) [.int .i64 kd6, .int .i64 op6, .slice pa6 la6 ca6, .slice pk6 lk6 ck6]) (w.heap.size + 1) (.int .i64 0) (.int .i64 0) (.slice none 0 0) (.slice none 0 0) := hrs.to (setCells_far (by omega) _ _ _)
      have hln : ((ks.map (upN n)).set kk t6).length = ks.length := by simp
      have hmem : ∀ u ∈ (ks.map (upN n)).set kk t6, okN (L + 1) (n + 1) u := fun u hu => by
        rcases List.mem_or_eq_of_mem_set hu with h | h
        · exact okN_mono (by omega) _ (kids_ok HOKK.out u h)
        · rw [h]; exact HOK6.out
      have hzz : ys.length + (((ks.map (upN n)).set kk t6).length + tot (zN (n + 1)) ((ks.map (upN n)).set kk t6)) ≤ z + 12 := by
        have h1 := tot_set (zN (n + 1)) (ks.map (upN n)) kk (upN n tk) t6 (by rw [List.getElem?_map, htk]; rfl)
        rw [kids_z, upN_z] at h1
        have h2 := HZ.out
        have h3 := HZ6.out
        rw [hln]
        omega
      generalize hqs : (ks.map (upN n)).set kk t6 = qs at hput hln hmem hzz
      clear hqs
      show bodyPost _ _ _ _ _ (((((w6.setCells g (kk * 4) [.int .i64 kd6, .int .i64 op6, .slice pa6 la6 ca6, .slice pk6 lk6 ck6]).setCell ⟨w.heap.size, 3, none⟩ (.slice (some ⟨g, 0, none⟩) ks.length cap5)).setCell ⟨w.heap.size + 1, 0, none⟩ (.int .i64 kd)).setCell ⟨w.heap.size + 1, 1, none⟩ (.int .i64 op)).setCell ⟨w.heap.size + 1, 2, none⟩ (.slice pa ys.length ca) |>.setCell ⟨w.heap.size + 1, 3, none⟩ (.slice (some ⟨g, 0, none⟩) ks.length cap5))
      generalize w6.setCells g (kk * 4) [.int .i64 kd6, .int .i64 op6, .slice pa6 la6 ca6, .slice pk6 lk6 ck6] = W7 at *
      refine bodyPost_ret (v := .agg #[.int .i64 kd, .int .i64 op, .slice pa ys.length ca, .slice (some ⟨g, 0, none⟩) ks.length cap5]) (resNet (b := w.heap.size + 1) Tryz.results57 rfl ((hrsW.set (by omega)).put _ _ _ _).cells) rfl ?_
      have stW : Step rb w (W7.setCell ⟨w.heap.size, 3, none⟩ (.slice (some ⟨g, 0, none⟩) ks.length cap5)) := hsW.setNew _ _ _ (Nat.le_refl _)
      have hkp := Keep.ofStep stW HO.out
      have oS : Out O wc.heap.size W7 (W7.setCell ⟨w.heap.size, 3, none⟩ (.slice (some ⟨g, 0, none⟩) ks.length cap5)) := (Out.refl _ _ _).set hlc0 (fun h => by have := (HO.out _ h).1; omega)
      exact snet_done (t := ((kd, (op, ys), qs) : NT (n + 2))) HO.out ⟨pa, ca, _, cap5, by show _ = Value.agg #[.int .i64 kd, .int .i64 op, .slice pa ys.length ca, .slice (some ⟨g, 0, none⟩) qs.length cap5]; rw [hln], args_to hkp (fun b h => .inl h) HA.out, nets_to oS.keep (Frs.mono (by omega) oS.size) hput⟩ ⟨okEl_mono (by omega) HOKE.out, hmem⟩ hzz ((hrW.set _ _ _ hlt).mono (by omega)) stW hlt
    | false =>
      clear HB
      go_wp2_with fail
      refine (pick_any rb (m + 1) 6 _ (by omega) hrd (by omega)).mono ?_
      rintro e w4 ⟨k, rfl, k0, k1, -, hr4, st4⟩
      have k1 : k < 6 := k1 (by omega)
      have HS4 : Hid (SB rb (m + 2) w (.int .i64 kd) (.int .i64 op) (.slice pa ys.length ca) (.slice pk ks.length ck) w4) := HS1.out.step st4 hr4 hlt
      clear c0 c1 c2 c3 f0 f1 f2 f3 hbx hrs hrd hst HS1 st4 hr4
      obtain ⟨hbx, hrs, hrd, hst⟩ := HS4.out
      obtain ⟨c0, c1, c2, c3⟩ := hbx.cells
      obtain ⟨f0, f1, f2, f3⟩ := hbx.free
      obtain ⟨d0, d1, d2, d3⟩ := hrs.cells
      obtain ⟨e0, e1, e2, e3⟩ := hrs.free
      have hlw : w.heap.size + 1 < w4.heap.size := hrs.lt
      have hlw0 : w.heap.size < w4.heap.size := hbx.lt
      have hk : k = 0 ∨ k = 1 ∨ k = 2 ∨ k = 3 ∨ k = 4 ∨ k = 5 := by omega
      clear k0 k1
      rcases hk with rfl | rfl | rfl | rfl | rfl | rfl
      · have HN7 : Hid (Nums (w4.alloc (.cells #[.int .i64 (-1), .int .i64 0, .int .i64 1, .int .i64 2, .int .i64 3, .int .i64 4, .int .i64 5] 3)) w4.heap.size 7) := by
          have := nums_mk w4 [-1, 0, 1, 2, 3, 4, 5] 3 (by simp)
          exact this
        go_wp2_with fail
        refine (num_any rb (m + 2) w4.heap.size 7 _ (by omega) (by omega) (hrd.alloc _) (by omega) HN7.out (by omega)).mono ?_
        rintro e w5 ⟨kv, rfl, v0, v1, hr5, st5⟩
        have HS5 : Hid (SB rb (m + 3) w (.int .i64 kd) (.int .i64 op) (.slice pa ys.length ca) (.slice pk ks.length ck) w5) := HS4.out.step ((Step.alloc rb w4 _).trans st5) hr5 hlt
        clear c0 c1 c2 c3 f0 f1 f2 f3 d0 d1 d2 d3 e0 e1 e2 e3 hbx hrs hrd hst HS4 hr5 st5
        obtain ⟨hbx, hrs, hrd, hst⟩ := HS5.out
        obtain ⟨c0, c1, c2, c3⟩ := hbx.cells
        obtain ⟨f0, f1, f2, f3⟩ := hbx.free
        obtain ⟨d0, d1, d2, d3⟩ := hrs.cells
        obtain ⟨e0, e1, e2, e3⟩ := hrs.free
        go_wp2
        refine bodyPost_ret (v := .agg #[.int .i64 kv, .int .i64 op, .slice pa ys.length ca, .slice pk ks.length ck]) (resNet (b := w.heap.size + 1) Tryz.results57 rfl ((hrs.set (by omega)).put _ _ _ _).cells) rfl ?_
        have stW : Step rb w (w5.setCell ⟨w.heap.size, 0, none⟩ (.int .i64 kv)) := hst.setNew _ _ _ (Nat.le_refl _)
        have hkp := Keep.ofStep stW HO.out
        refine snet_done (t := ((kv, (op, ys), ks.map (upN n)) : NT (n + 2))) HO.out ⟨pa, ca, pk, ck, by show _ = Value.agg #[.int .i64 kv, .int .i64 op, .slice pa ys.length ca, .slice pk (ks.map (upN n)).length ck]; rw [List.length_map], args_to hkp (fun b h => .inl h) HA.out, kids_up HK.out hkp (fun b h => .inl h)⟩ ⟨okEl_mono (by omega) HOKE.out, fun u hu => okN_mono (by omega) _ (kids_ok HOKK.out u hu)⟩ ?_ ((hrd.set _ _ _ hlt).mono (by omega)) stW hlt
        show ys.length + ((ks.map (upN n)).length + tot (zN (n + 1)) (ks.map (upN n))) ≤ z + 12
        rw [List.length_map, kids_z]
        have := HZ.out
        omega
      · obtain ⟨ks1, hks1⟩ : ∃ ks1, ks1 = ks.map (upN n) := ⟨_, rfl⟩
        have hl1 : ks.length = ks1.length := by rw [hks1, List.length_map]
        have HK1 : Hid (SlOf O (NtE O w (n + 1)) 4 pk ck ks1) := by rw [hks1]; exact kids_up HK.out (fun _ _ => rfl) (fun _ h => h)
        have HOKK1 : Hid (∀ u ∈ ks1, okN L (n + 1) u) := by rw [hks1]; exact kids_ok HOKK.out
        have HZ1 : Hid (ys.length + (ks1.length + tot (zN (n + 1)) ks1) ≤ z) := by rw [hks1, List.length_map, kids_z]; exact HZ.out
        have hlk : ks1.length ≤ 100000 := by have := HZ1.out; omega
        clear hks1 HK HOKK HZ
        rw [hl1] at c3 HS4 hbx ⊢
        clear hl1
        have HKW : Hid (SlOf O (NtE O (w4.alloc (.cells #[] 49)) (n + 1)) 4 pk ck ks1) := nets_to (Keep.trans0 (Keep.ofStep hst HO.out) (Keep.of (one w4 _) (fun b h => by have := (HO.out b h).1; omega))) (fun _ h => h) HK1.out
        have HOB : Hid (∀ b, O b → b < w4.heap.size) := fun b h => by have := (HO.out b h).1; omega
        go_wp2_with (refine wl_copy tyN (keptN (n + 1)) (readN (n + 1)) (O := O) (base := w4.heap.size) _ (by rfl) (.tmp 54) (.tmp 56) (by rfl) w4.heap.size (by rfl) (last _ _) (Nat.le_refl _) HOB.out (by rfl) HKW.out hlk ?_; intro g5 cap5 w5 HR5 HG5 hg5 hl5)
        have hbw5 : Below w4.heap.size (w4.alloc (.cells #[] 49)) w5 := ⟨HG5.out.os, HG5.out.tape, HG5.out.output, HG5.out.size, fun b hb => HG5.out.block b (by simp; omega) (by simp; omega)⟩
        have HB45 : Hid (Below w4.heap.size w4 w5) := (one w4 _).trans hbw5
        have HS5 : Hid (SB rb (m + 2) w (.int .i64 kd) (.int .i64 op) (.slice pa ys.length ca) (.slice pk ks1.length ck) w5) := HS4.out.step (.of HB45.out) (hrd.to HB45.out) hlt
        clear hbw5 HG5
        refine (contact_dr rb (m + 2) _ HS5.out.2.2.1 (by omega)).mono ?_
        rintro e w6 ⟨op', ys', p', cap', rfl, hA6, hok6, hr6, st6⟩
        have HS6 : Hid (SB rb (m + 32) w (.int .i64 kd) (.int .i64 op) (.slice pa ys.length ca) (.slice pk ks1.length ck) w6) := HS5.out.step st6 hr6 hlt
        have HST6 : Hid (Step rb w5 w6) := st6
        have HA6 : Hid (SlOf (Frs Non w5.heap.size w6) (ArE w6) 3 p' cap' ys') := hA6
        have hs6 := st6.size
        have hs5 := HB45.out.size
        have hl60 : w.heap.size < w6.heap.size := by omega
        have hl61 : w.heap.size + 1 < w6.heap.size := by omega
        have HO5 : Hid (∀ b, O b → b < w5.heap.size ∧ b ≠ rb) := fun b h => ⟨by have := HOB.out b h; omega, (HO.out b h).2⟩
        have HR6 : Hid (∃ xs, GRow O 49 4 (fun S W v (t : NT (n + 1)) => NtV S W (n + 1) v t) w4.heap.size (w6.alloc (.cells #[.int .i64 1, .int .i64 op', .slice p' ys'.length cap', .slice none 0 0] 49)) (.slice (some ⟨g5, 0, none⟩) ks1.length cap5) xs ks1) := by
          obtain ⟨xs, hx⟩ := HR5.out
          exact ⟨xs, row_in (keptN _) hx HST6.out (by omega) HO5.out _⟩
        obtain ⟨tt, htt⟩ : ∃ tt : NT (n + 1), tt = ((1, (op', ys'), []) : NT (n + 1)) := ⟨_, rfl⟩
        have HOKT : Hid (okN (L + 1) (n + 1) tt) := by rw [htt]; exact okN_mono (by omega) _ (contact_ok hok6)
        have HZT : Hid (zN (n + 1) tt ≤ 3) := by rw [htt]; exact contact_z (n := n) hok6
        have HV6 : Hid (NtV (Inn O w4.heap.size (w6.alloc (.cells #[.int .i64 1, .int .i64 op', .slice p' ys'.length cap', .slice none 0 0] 49)) (.slice (some ⟨g5, 0, none⟩) ks1.length cap5)) (w6.alloc (.cells #[.int .i64 1, .int .i64 op', .slice p' ys'.length cap', .slice none 0 0] 49)) (n + 1) (.agg #[.int .i64 1, .int .i64 op', .slice p' ys'.length cap', .slice none 0 0]) tt) := by
          obtain ⟨xs, hx⟩ := HR5.out
          rw [htt]
          exact new_in (keptN (n + 1)) (contactV HA6.out) hx hs5 _
        clear hA6 st6 hr6 HA6 htt
        go_wp2_with (refine wl_one tyN (keptN (n + 1)) (O := O) (base := w4.heap.size) _ (by rfl) (.tmp 57) (.tmp 61) (by rfl) (.slice (some ⟨g5, 0, none⟩) ks1.length cap5) ks1 (by rfl) HR6.out [.int .i64 1, .int .i64 op', .slice p' ys'.length cap', .slice none 0 0] rfl (by simp [Value.oneCell']) w6.heap.size (by rfl) (last _ _) tt HV6.out hlk (by simp; omega) HOB.out ?_; intro g7 cap7 w7 HR7 HG7 hg7 hl7; have hbw7 : Below w4.heap.size (w6.alloc (.cells #[.int .i64 1, .int .i64 op', .slice p' ys'.length cap', .slice none 0 0] 49)) w7 := gbelow HR6.out HG7.out (by simp; omega); have HB67 : Hid (Below w4.heap.size w6 w7) := ((one w6 _).mono (by omega)).trans hbw7; have HS7 : Hid (SB rb (m + 32) w (.int .i64 kd) (.int .i64 op) (.slice pa ys.length ca) (.slice pk ks1.length ck) w7) := HS6.out.in HB67.out (by omega) hlt; obtain ⟨hbx7, hrs7, hrd7, hst7⟩ := HS7.out; obtain ⟨a0, a1, a2, a3⟩ := hbx7.cells; obtain ⟨b0, b1, b2, b3⟩ := hbx7.free; obtain ⟨p0, p1, p2, p3⟩ := hrs7.cells; obtain ⟨q0, q1, q2, q3⟩ := hrs7.free)
        refine bodyPost_ret (v := .agg #[.int .i64 kd, .int .i64 op, .slice pa ys.length ca, .slice (some ⟨g7, 0, none⟩) (ks1.length + 1) cap7]) (resNet (b := w.heap.size + 1) Tryz.results57 rfl ((hrs7.set (by omega)).put _ _ _ _).cells) rfl ?_
        have stW : Step rb w (w7.setCell ⟨w.heap.size, 3, none⟩ (.slice (some ⟨g7, 0, none⟩) (ks1.length + 1) cap7)) := hst7.setNew _ _ _ (Nat.le_refl _)
        have hkp := Keep.ofStep stW HO.out
        have hln : (ks1 ++ [tt]).length = ks1.length + 1 := by simp
        have oS : Out O w4.heap.size w7 (w7.setCell ⟨w.heap.size, 3, none⟩ (.slice (some ⟨g7, 0, none⟩) (ks1.length + 1) cap7)) := (Out.refl _ _ _).set hlw0 (fun h => by have := (HO.out _ h).1; omega)
        have hrow : RowN O (n + 1) w4.heap.size w7 (.slice (some ⟨g7, 0, none⟩) (ks1 ++ [tt]).length cap7) (ks1 ++ [tt]) := by rw [hln]; exact HR7.out
        refine snet_done (t := ((kd, (op, ys), ks1 ++ [tt]) : NT (n + 2))) HO.out ⟨pa, ca, _, cap7, by show _ = Value.agg #[.int .i64 kd, .int .i64 op, .slice pa ys.length ca, .slice (some ⟨g7, 0, none⟩) (ks1 ++ [tt]).length cap7]; rw [hln], args_to hkp (fun b h => .inl h) HA.out, nets_to oS.keep (Frs.mono (by omega) oS.size) (rowN_sl hrow)⟩ ⟨okEl_mono (by omega) HOKE.out, fun u hu => ?_⟩ ?_ ((hrd7.set _ _ _ hlt).mono (by omega)) stW hlt
        · rcases List.mem_append.1 (show u ∈ ks1 ++ [tt] from hu) with h | h
          · exact okN_mono (by omega) _ (HOKK1.out u h)
          · rw [List.mem_singleton.1 h]; exact HOKT.out
        · show ys.length + ((ks1 ++ [tt]).length + tot (zN (n + 1)) (ks1 ++ [tt])) ≤ z + 12
          rw [hln, tot_app]
          have h1 := HZ1.out
          have h2 : tot (zN (n + 1)) [tt] ≤ 3 := by simpa [tot] using HZT.out
          omega
      · go_wp2
        refine bodyPost_ret (v := .agg #[.int .i64 kd, .int .i64 op, .slice pa ys.length ca, .slice none 0 0]) (resNet (b := w.heap.size + 1) Tryz.results57 rfl ((hrs.set (by omega)).put _ _ _ _).cells) rfl ?_
        have stW : Step rb w (w4.setCell ⟨w.heap.size, 3, none⟩ (.slice none 0 0)) := hst.setNew _ _ _ (Nat.le_refl _)
        have hkp := Keep.ofStep stW HO.out
        refine snet_done (t := ((kd, (op, ys), []) : NT (n + 2))) HO.out ⟨pa, ca, none, 0, rfl, args_to hkp (fun b h => .inl h) HA.out, sl_nil⟩ ⟨okEl_mono (by omega) HOKE.out, fun u hu => (by cases hu)⟩ ?_ ((hrd.set _ _ _ hlt).mono (by omega)) stW hlt
        show ys.length + (0 + 0) ≤ z + 12
        have := HZ.out
        omega
      · go_wp2_with fail
        refine (coil_dr rb (m + 2) _ hrd (by omega)).mono ?_
        rintro e w5 ⟨op', ys', p', cap', rfl, hA5, hok5, hr5, st5⟩
        have HS5 : Hid (SB rb (m + 42) w (.int .i64 kd) (.int .i64 op) (.slice pa ys.length ca) (.slice pk ks.length ck) w5) := HS4.out.step st5 hr5 hlt
        have HA5 : Hid (SlOf (Frs Non w4.heap.size w5) (ArE w5) 3 p' cap' ys') := hA5
        have hs5 := st5.size
        clear c0 c1 c2 c3 f0 f1 f2 f3 d0 d1 d2 d3 e0 e1 e2 e3 hbx hrs hrd hst HS4 hr5 st5 hA5
        obtain ⟨hbx, hrs, hrd, hst⟩ := HS5.out
        obtain ⟨c0, c1, c2, c3⟩ := hbx.cells
        obtain ⟨f0, f1, f2, f3⟩ := hbx.free
        obtain ⟨d0, d1, d2, d3⟩ := hrs.cells
        obtain ⟨e0, e1, e2, e3⟩ := hrs.free
        go_wp2
        refine bodyPost_ret (v := .agg #[.int .i64 kd, .int .i64 op', .slice p' ys'.length cap', .slice pk ks.length ck]) (resNet (b := w.heap.size + 1) Tryz.results57 rfl (((hrs.set (by omega)).set (by omega)).put _ _ _ _).cells) rfl ?_
        have stW : Step rb w ((w5.setCell ⟨w.heap.size, 1, none⟩ (.int .i64 op')).setCell ⟨w.heap.size, 2, none⟩ (.slice p' ys'.length cap')) := (hst.setNew _ _ _ (Nat.le_refl _)).setNew _ _ _ (Nat.le_refl _)
        have hkp := Keep.ofStep stW HO.out
        have oC : Out Non w4.heap.size w5 ((w5.setCell ⟨w.heap.size, 1, none⟩ (.int .i64 op')).setCell ⟨w.heap.size, 2, none⟩ (.slice p' ys'.length cap')) := ((Out.refl _ _ _).set hlw0 (fun h => h.elim)).set hlw0 (fun h => h.elim)
        refine snet_done (t := ((kd, (op', ys'), ks.map (upN n)) : NT (n + 2))) HO.out ⟨p', cap', pk, ck, by show _ = Value.agg #[.int .i64 kd, .int .i64 op', .slice p' ys'.length cap', .slice pk (ks.map (upN n)).length ck]; rw [List.length_map], args_to oC.keep (frs_non (by omega) oC.size) HA5.out, kids_up HK.out hkp (fun b h => .inl h)⟩ ⟨okEl_mono (by omega) hok5, fun u hu => okN_mono (by omega) _ (kids_ok HOKK.out u hu)⟩ ?_ (((hrd.set _ _ _ hlt).set _ _ _ hlt).mono (by omega)) stW hlt
        show ys'.length + ((ks.map (upN n)).length + tot (zN (n + 1)) (ks.map (upN n))) ≤ z + 12
        rw [List.length_map, kids_z]
        have := HZ.out
        have h5 : ys'.length ≤ 3 := hok5.1
        omega
      · go_wp2_with fail
        refine Calls.mono (show Calls Tryz.prog 56 #[.pointer (some ⟨rb, 0, none⟩), .agg #[.int .i64 op, .slice pa ys.length ca]] w4 (EDrawn (L + 1) rb (m + 2 + 20) w4) from spoilG_any L rb (m + 2) op ys pa ca w4 hrd (by omega) (args_g (args_to (Keep.ofStep hst HO.out) (fun _ h => h) HA.out) (fun b h => by have := (HO.out b h).1; omega)) HOKE.out.2.1 HOKE.out.2.2 HOKE.out.1 (by omega)) ?_
        intro e w5 he
        obtain ⟨op', ys', p', cap', rfl, hA5, hok5, hr5, st5⟩ := edr_of he (by omega)
        have HS5 : Hid (SB rb (m + 22) w (.int .i64 kd) (.int .i64 op) (.slice pa ys.length ca) (.slice pk ks.length ck) w5) := HS4.out.step st5 hr5 hlt
        have HA5 : Hid (SlOf (Frs Non w4.heap.size w5) (ArE w5) 3 p' cap' ys') := hA5
        have hs5 := st5.size
        clear c0 c1 c2 c3 f0 f1 f2 f3 d0 d1 d2 d3 e0 e1 e2 e3 hbx hrs hrd hst HS4 hr5 st5 hA5 he
        obtain ⟨hbx, hrs, hrd, hst⟩ := HS5.out
        obtain ⟨c0, c1, c2, c3⟩ := hbx.cells
        obtain ⟨f0, f1, f2, f3⟩ := hbx.free
        obtain ⟨d0, d1, d2, d3⟩ := hrs.cells
        obtain ⟨e0, e1, e2, e3⟩ := hrs.free
        go_wp2
        refine bodyPost_ret (v := .agg #[.int .i64 kd, .int .i64 op', .slice p' ys'.length cap', .slice pk ks.length ck]) (resNet (b := w.heap.size + 1) Tryz.results57 rfl (((hrs.set (by omega)).set (by omega)).put _ _ _ _).cells) rfl ?_
        have stW : Step rb w ((w5.setCell ⟨w.heap.size, 1, none⟩ (.int .i64 op')).setCell ⟨w.heap.size, 2, none⟩ (.slice p' ys'.length cap')) := (hst.setNew _ _ _ (Nat.le_refl _)).setNew _ _ _ (Nat.le_refl _)
        have hkp := Keep.ofStep stW HO.out
        have oC : Out Non w4.heap.size w5 ((w5.setCell ⟨w.heap.size, 1, none⟩ (.int .i64 op')).setCell ⟨w.heap.size, 2, none⟩ (.slice p' ys'.length cap')) := ((Out.refl _ _ _).set hlw0 (fun h => h.elim)).set hlw0 (fun h => h.elim)
        refine snet_done (t := ((kd, (op', ys'), ks.map (upN n)) : NT (n + 2))) HO.out ⟨p', cap', pk, ck, by show _ = Value.agg #[.int .i64 kd, .int .i64 op', .slice p' ys'.length cap', .slice pk (ks.map (upN n)).length ck]; rw [List.length_map], args_to oC.keep (frs_non (by omega) oC.size) HA5.out, kids_up HK.out hkp (fun b h => .inl h)⟩ ⟨hok5, fun u hu => okN_mono (by omega) _ (kids_ok HOKK.out u hu)⟩ ?_ (((hrd.set _ _ _ hlt).set _ _ _ hlt).mono (by omega)) stW hlt
        show ys'.length + ((ks.map (upN n)).length + tot (zN (n + 1)) (ks.map (upN n))) ≤ z + 12
        rw [List.length_map, kids_z]
        have := HZ.out
        have h5 : ys'.length ≤ L + 1 := hok5.1
        omega
      · obtain ⟨ks1, hks1⟩ : ∃ ks1, ks1 = ks.map (upN n) := ⟨_, rfl⟩
        have hl1 : ks.length = ks1.length := by rw [hks1, List.length_map]
        have HK1 : Hid (SlOf O (NtE O w (n + 1)) 4 pk ck ks1) := by rw [hks1]; exact kids_up HK.out (fun _ _ => rfl) (fun _ h => h)
        have HOKK1 : Hid (∀ u ∈ ks1, okN L (n + 1) u) := by rw [hks1]; exact kids_ok HOKK.out
        have HZ1 : Hid (ys.length + (ks1.length + tot (zN (n + 1)) ks1) ≤ z) := by rw [hks1, List.length_map, kids_z]; exact HZ.out
        have hlk : ks1.length ≤ 100000 := by have := HZ1.out; omega
        clear hks1 HK HOKK HZ
        rw [hl1] at c3 HS4 hbx ⊢
        clear hl1
        have HKW : Hid (SlOf O (NtE O (w4.alloc (.cells #[] 49)) (n + 1)) 4 pk ck ks1) := nets_to (Keep.trans0 (Keep.ofStep hst HO.out) (Keep.of (one w4 _) (fun b h => by have := (HO.out b h).1; omega))) (fun _ h => h) HK1.out
        have HOB : Hid (∀ b, O b → b < w4.heap.size) := fun b h => by have := (HO.out b h).1; omega
        obtain ⟨tt, htt⟩ : ∃ tt : NT (n + 1), tt = ((0, (0, []), []) : NT (n + 1)) := ⟨_, rfl⟩
        have HOKT : Hid (okN (L + 1) (n + 1) tt) := by rw [htt]; exact none_ok
        have HZT : Hid (zN (n + 1) tt ≤ 3) := by rw [htt]; show 0 + (0 + 0) ≤ 3; omega
        have HVT : Hid (∀ (S : Nat → Prop) (W : World), NtV S W (n + 1) (.agg #[.int .i64 0, .int .i64 0, .slice none 0 0, .slice none 0 0]) tt) := by rw [htt]; exact fun S W => ⟨none, 0, none, 0, rfl, sl_nil, sl_nil⟩
        clear htt
        go_wp2_with (first | (refine wl_copy tyN (keptN (n + 1)) (readN (n + 1)) (O := O) (base := w4.heap.size) _ (by rfl) (.tmp 38) (.tmp 40) (by rfl) w4.heap.size (by rfl) (last _ _) (Nat.le_refl _) HOB.out (by rfl) HKW.out hlk ?_; intro g5 cap5 w5 HR5 HG5 hg5 hl5; have hbw5 : Below w4.heap.size (w4.alloc (.cells #[] 49)) w5 := ⟨HG5.out.os, HG5.out.tape, HG5.out.output, HG5.out.size, fun b hb => HG5.out.block b (by simp; omega) (by simp; omega)⟩; have HB45 : Hid (Below w4.heap.size w4 w5) := (one w4 _).trans hbw5; have HS6 : Hid (SB rb (m + 2) w (.int .i64 kd) (.int .i64 op) (.slice pa ys.length ca) (.slice pk ks1.length ck) w5) := HS4.out.step (.of HB45.out) (hrd.to HB45.out) hlt; have hs5 := HB45.out.size; have HRA : Hid (∀ o, ∃ xs, GRow O 49 4 (fun S W v (t : NT (n + 1)) => NtV S W (n + 1) v t) w4.heap.size (w5.alloc o) (.slice (some ⟨g5, 0, none⟩) ks1.length cap5) xs ks1) := (fun o => rowN_al HR5.out HOB.out hs5 o); clear hbw5 HG5) | (refine wl_one tyN (keptN (n + 1)) (O := O) (base := w4.heap.size) _ (by rfl) (.tmp 41) (.tmp 43) (by rfl) (.slice (some ⟨g5, 0, none⟩) ks1.length cap5) ks1 (by rfl) (HRA.out _) [.int .i64 0, .int .i64 0, .slice none 0 0, .slice none 0 0] rfl (by simp [Value.oneCell']) w5.heap.size (by rfl) (last _ _) tt (HVT.out _ _) hlk (by simp; omega) HOB.out ?_; intro g7 cap7 w7 HR7 HG7 hg7 hl7; have hbw7 : Below w4.heap.size (w5.alloc (.cells #[.int .i64 0, .int .i64 0, .slice none 0 0, .slice none 0 0] 49)) w7 := gbelow (HRA.out _) HG7.out (by simp; omega); have HB67 : Hid (Below w4.heap.size w5 w7) := ((one w5 _).mono (by omega)).trans hbw7; have HS7 : Hid (SB rb (m + 2) w (.int .i64 kd) (.int .i64 op) (.slice pa ys.length ca) (.slice pk ks1.length ck) w7) := HS6.out.in HB67.out (by omega) hlt; obtain ⟨hbx7, hrs7, hrd7, hst7⟩ := HS7.out; obtain ⟨a0, a1, a2, a3⟩ := hbx7.cells; obtain ⟨b0, b1, b2, b3⟩ := hbx7.free; obtain ⟨p0, p1, p2, p3⟩ := hrs7.cells; obtain ⟨q0, q1, q2, q3⟩ := hrs7.free))
        refine bodyPost_ret (v := .agg #[.int .i64 kd, .int .i64 op, .slice pa ys.length ca, .slice (some ⟨g7, 0, none⟩) (ks1.length + 1) cap7]) (resNet (b := w.heap.size + 1) Tryz.results57 rfl ((hrs7.set (by omega)).put _ _ _ _).cells) rfl ?_
        have stW : Step rb w (w7.setCell ⟨w.heap.size, 3, none⟩ (.slice (some ⟨g7, 0, none⟩) (ks1.length + 1) cap7)) := hst7.setNew _ _ _ (Nat.le_refl _)
        have hkp := Keep.ofStep stW HO.out
        have hln : (ks1 ++ [tt]).length = ks1.length + 1 := by simp
        have oS : Out O w4.heap.size w7 (w7.setCell ⟨w.heap.size, 3, none⟩ (.slice (some ⟨g7, 0, none⟩) (ks1.length + 1) cap7)) := (Out.refl _ _ _).set hlw0 (fun h => by have := (HO.out _ h).1; omega)
        have hrow : RowN O (n + 1) w4.heap.size w7 (.slice (some ⟨g7, 0, none⟩) (ks1 ++ [tt]).length cap7) (ks1 ++ [tt]) := by rw [hln]; exact HR7.out
        refine snet_done (t := ((kd, (op, ys), ks1 ++ [tt]) : NT (n + 2))) HO.out ⟨pa, ca, _, cap7, by show _ = Value.agg #[.int .i64 kd, .int .i64 op, .slice pa ys.length ca, .slice (some ⟨g7, 0, none⟩) (ks1 ++ [tt]).length cap7]; rw [hln], args_to hkp (fun b h => .inl h) HA.out, nets_to oS.keep (Frs.mono (by omega) oS.size) (rowN_sl hrow)⟩ ⟨okEl_mono (by omega) HOKE.out, fun u hu => ?_⟩ ?_ ((hrd7.set _ _ _ hlt).mono (by omega)) stW hlt
        · rcases List.mem_append.1 (show u ∈ ks1 ++ [tt] from hu) with h | h
          · exact okN_mono (by omega) _ (HOKK1.out u h)
          · rw [List.mem_singleton.1 h]; exact HOKT.out
        · show ys.length + ((ks1 ++ [tt]).length + tot (zN (n + 1)) (ks1 ++ [tt])) ≤ z + 12
          rw [hln, tot_app]
          have h1 := HZ1.out
          have h2 : tot (zN (n + 1)) [tt] ≤ 3 := by simpa [tot] using HZT.out
          omega
end Go.Proofs.YtjkpingdokkkcaaGreatDoor.Tr
