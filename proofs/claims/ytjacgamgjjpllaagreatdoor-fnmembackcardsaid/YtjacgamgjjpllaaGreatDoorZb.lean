/- The drawing of a memory: l4Draw. Helper text: no statement is claimed here. -/
import Derived.Test.YtjacgamgjjpllaaGreatDoorZa
import Derived.Deep.Cut
namespace Go.Proofs.YtjacgamgjjpllaaGreatDoor
open Go.ChangeShapes Go.WideShapes Go.ChangeAt Go.RowKit

/-- A whole row of the call's own was written: the reader reads on. -/
theorem Rd.setRow {w w2 : World} {rb m b : Nat} (h : Rd w rb m) (hk : ∀ j, j ≠ b → w2.heap[j]? = w.heap[j]?) (_hz : w2.heap.size = w.heap.size) (hb : rb < b) : Rd w2 rb m := by
  obtain ⟨a, len, cap, p, h0, h1, h2, h3, h4, h5⟩ := h.rd
  have e : ∀ c i, c < b → w2.cell? ⟨c, i, none⟩ = w.cell? ⟨c, i, none⟩ := fun c i hc => World.cell?_of_block (w := w) (hk c (by omega))
  refine ⟨a, len, cap, p, (e rb 0 hb).trans h0, (e rb 1 hb).trans h1, (World.frozen?_of_block (w := w) (hk rb (by omega))).trans h2, h3, h4, ?_⟩
  rcases h5 with h5 | ⟨c, off, f, h5, h6, h7⟩
  · exact .inl h5
  · exact .inr ⟨c, off, f, h5, h6, fun i hi => ⟨(e c (off + i) (by omega)).trans (h7 i hi).1, (h7 i hi).2⟩⟩
theorem Step.setRow {w w1 w2 : World} {rb b : Nat} (h : Step rb w w1) (hk : ∀ j, j ≠ b → w2.heap[j]? = w1.heap[j]?) (hz : w2.heap.size = w1.heap.size) (hb : w.heap.size ≤ b) (ho : w2.os = w1.os ∧ w2.tape = w1.tape ∧ w2.output = w1.output) : Step rb w w2 :=
  ⟨ho.1.trans h.os, ho.2.1.trans h.tape, ho.2.2.trans h.output, by rw [hz]; exact h.size, fun k hl hr => (hk k (by omega)).trans (h.block k hl hr)⟩
theorem same_of {w w2 : World} {b : Nat} (h : ∀ B a, Below B a w → B ≤ b → Below B a w2) : w2.os = w.os ∧ w2.tape = w.tape ∧ w2.output = w.output := by
  have := h 0 w (Below.refl _ _) (Nat.zero_le _)
  exact ⟨this.os, this.tape, this.output⟩
/-- What the drawing of a memory ends in. -/
def DrawnM (rb m : Nat) (w : World) (e : Ending) (w' : World) : Prop := ∃ mm : Mm, e = .returned mm.val ∧ mm.Ok ∧ Rd w' rb m ∧ Step rb w w'
theorem store_floatZ (P : Program) (w : World) (a : Addr) (k : FloatKind) (x : Nat) (m : Mode) : (store a (.float k x) m).run P w = stored P w a (.float k x) m := run_store P w a _ m rfl
theorem build_zero (w : World) : (Instr.build 37 #[]).run Tryz.prog w = .ok (.agg zeroM.cells) w := by kernel_rfl
section
attribute [local go_sem] store_floatZ
set_option maxHeartbeats 4000000 in
set_option maxRecDepth 100000 in
theorem draw_any (rb m : Nat) (w : World) (hr : Rd w rb m) (hm : m ≤ 8000) :
    Calls Tryz.prog 12 #[.pointer (some ⟨rb, 0, none⟩)] w (DrawnM rb (m + 720) w) := by
  have hlt := hr.lt
  have hne : w.heap.size ≠ rb := by omega
  have hne1 : w.heap.size + 1 ≠ rb := by omega
  have hgt : rb < w.heap.size + 1 := by omega
  have hz : ∀ w, (zeroValue 37).run Tryz.prog w = .ok (.agg zeroM.cells) w := fun _ => by kernel_rfl
  have hbz := build_zero
  have Hr : Hid (Rd w rb m) := hr
  clear hr
  go_enter Tryz.func12, Tryz.ntmps12
  go_wp2_with (refine wpList_rowStore rfl 37 (.tmp 3) (.tmp 6) rfl _ 0 136 zeroM.cell zeroM.cell rfl rfl (by have := RowAt.new (w.alloc (.cells zeroM.cells 37)) 37 136 zeroM.cell; rw [show (w.alloc (.cells zeroM.cells 37)).heap.size = w.heap.size + 1 by simp] at this; exact this) (by omega) (fun i _ => cell_one zeroM i) (fun i hi => by rw [if_pos ⟨by omega, by omega⟩, Nat.sub_zero]) (by kernel_rfl) ?_; intro v0 HZ0 hz0 hk0 hb0)
  have hB0 : Below w.heap.size w v0 := hb0 _ _ (((Below.refl _ _).alloc (Nat.le_refl _) _).alloc (by simp) _) (by omega)
  have HF0 : Hid (MemF v0 (w.heap.size + 1)) := MemF.of HZ0 zeroM_ok
  have HR0 : Hid (RowF v0 w.heap.size) := ⟨_, ((RowAt.new w 37 136 zeroM.cell).alloc _).by (hk0 w.heap.size (by omega))⟩
  have Hr0 : Hid (Rd v0 rb m) := Hr.out.to hB0
  have HS0 : Hid (Step rb w v0) := Step.of hB0
  clear HZ0 hz0 hk0 hb0 hB0 Hr hz hbz
  go_wp2_with fail
  refine (pick_any rb m 16 _ (by omega) Hr0.out (by omega)).mono ?_
  rintro e v1 ⟨t, rfl, t0, t1, -, hr1, st1⟩
  have HF1 : Hid (MemF v1 (w.heap.size + 1)) := HF0.out.step st1 hne1
  have HR1 : Hid (RowF v1 w.heap.size) := HR0.out.step st1 hne
  have Hr1 : Hid (Rd v1 rb (m + 1)) := hr1
  have HS1 : Hid (Step rb w v1) := HS0.out.trans st1
  clear hr1 st1 HF0 HR0 Hr0 HS0
  by_cases ht : t = 0
  · subst ht
    obtain ⟨mm, hmm, hat⟩ := HF1.out.mem
    obtain ⟨g, hg⟩ := HR1.out
    have HA : Hid (MemAt v1 (w.heap.size + 1) mm) := hat
    have HG : Hid (RowAt v1 w.heap.size 37 136 g) := hg
    clear hat hg
    go_wp2_with (first
      | refine wpList_rowLoad rfl 37 (.tmp 3) rfl _ 0 136 mm.cell rfl HA.out (by omega) (fun i _ => by rw [Nat.zero_add]) Tryz.underlying37 rfl (by kernel_rfl) ?_
      | (refine wpList_rowStore rfl 37 (.tmp 2) (.tmp 10) rfl _ 0 136 mm.cell mm.cell rfl rfl HG.out (by omega) (fun i _ => cell_one mm i) (fun i hi => by rw [if_pos ⟨by omega, by omega⟩, Nat.sub_zero]) (by kernel_rfl) ?_; intro w2 HZ2 hz2 hk2 hb2))
    exact bodyPost_ret (v := .agg mm.cells) (resRow Tryz.results12 rfl HZ2 Tryz.underlying37 rfl (by kernel_rfl)) rfl ⟨mm, rfl, hmm, (Hr1.out.setRow hk2 hz2 hlt).mono (by omega), HS1.out.setRow hk2 hz2 (Nat.le_refl _) (same_of hb2)⟩
  have ht' : (t == 0) = false := by simpa using ht
  clear ht t0 t1
  go_wp2_with fail
  refine (word_any rb (m + 1) _ Hr1.out (by omega)).mono ?_
  rintro e v2 ⟨a2, rfl, a2a, a2b, hr2, st2⟩
  have HF2 : Hid (MemF v2 (w.heap.size + 1)) := HF1.out.step st2 hne1
  have HR2 : Hid (RowF v2 w.heap.size) := HR1.out.step st2 hne
  have Hr2 : Hid (Rd v2 rb (m + 9)) := hr2
  have HS2 : Hid (Step rb w v2) := HS1.out.trans st2
  clear hr2 st2 HF1 HR1 Hr1 HS1
  obtain ⟨q2, h2l, h2e⟩ := u32_nat a2
  obtain ⟨us20, cus20, fus20⟩ := HF2.out.some (0) (by omega)
  have HFs2 : Hid (MemF (World.setCell v2 ⟨w.heap.size + 1, 0, none⟩ (.int .u32 (q2 : Int))) (w.heap.size + 1)) := (MemF.set HF2.out (0) (.int .u32 (q2 : Int)) (⟨q2, h2l, rfl⟩))
  have HRs2 : Hid (RowF (World.setCell v2 ⟨w.heap.size + 1, 0, none⟩ (.int .u32 (q2 : Int))) w.heap.size) := (RowF.other (c := w.heap.size + 1) (k := 0) HR2.out (.int .u32 (q2 : Int)) (by omega))
  have Hrs2 : Hid (Rd (World.setCell v2 ⟨w.heap.size + 1, 0, none⟩ (.int .u32 (q2 : Int))) rb _) := (Rd.set Hr2.out (w.heap.size + 1) (0) (.int .u32 (q2 : Int)) hgt)
  have HSs2 : Hid (Step rb w (World.setCell v2 ⟨w.heap.size + 1, 0, none⟩ (.int .u32 (q2 : Int)))) := (Step.setNew HS2.out (w.heap.size + 1) (0) (.int .u32 (q2 : Int)) (by omega))
  clear HF2 HR2 Hr2 HS2
  go_wp2_with fail
  generalize (World.setCell v2 ⟨w.heap.size + 1, 0, none⟩ (.int .u32 (q2 : Int))) = x2 at *
  refine (word_any rb (m + 9) _ Hrs2.out (by omega)).mono ?_
  rintro e v3 ⟨a3, rfl, a3a, a3b, hr3, st3⟩
  have HF3 : Hid (MemF v3 (w.heap.size + 1)) := HFs2.out.step st3 hne1
  have HR3 : Hid (RowF v3 w.heap.size) := HRs2.out.step st3 hne
  have Hr3 : Hid (Rd v3 rb (m + 17)) := hr3
  have HS3 : Hid (Step rb w v3) := HSs2.out.trans st3
  clear hr3 st3 HFs2 HRs2 Hrs2 HSs2
  obtain ⟨q3, h3l, h3e⟩ := u32_nat a3
  obtain ⟨us30, cus30, fus30⟩ := HF3.out.some (1) (by omega)
  have HFs3 : Hid (MemF (World.setCell v3 ⟨w.heap.size + 1, 1, none⟩ (.int .u32 (q3 : Int))) (w.heap.size + 1)) := (MemF.set HF3.out (1) (.int .u32 (q3 : Int)) (⟨q3, h3l, rfl⟩))
  have HRs3 : Hid (RowF (World.setCell v3 ⟨w.heap.size + 1, 1, none⟩ (.int .u32 (q3 : Int))) w.heap.size) := (RowF.other (c := w.heap.size + 1) (k := 1) HR3.out (.int .u32 (q3 : Int)) (by omega))
  have Hrs3 : Hid (Rd (World.setCell v3 ⟨w.heap.size + 1, 1, none⟩ (.int .u32 (q3 : Int))) rb _) := (Rd.set Hr3.out (w.heap.size + 1) (1) (.int .u32 (q3 : Int)) hgt)
  have HSs3 : Hid (Step rb w (World.setCell v3 ⟨w.heap.size + 1, 1, none⟩ (.int .u32 (q3 : Int)))) := (Step.setNew HS3.out (w.heap.size + 1) (1) (.int .u32 (q3 : Int)) (by omega))
  clear HF3 HR3 Hr3 HS3
  go_wp2_with fail
  generalize (World.setCell v3 ⟨w.heap.size + 1, 1, none⟩ (.int .u32 (q3 : Int))) = x3 at *
  refine (word_any rb (m + 17) _ Hrs3.out (by omega)).mono ?_
  rintro e v4 ⟨a4, rfl, a4a, a4b, hr4, st4⟩
  have HF4 : Hid (MemF v4 (w.heap.size + 1)) := HFs3.out.step st4 hne1
  have HR4 : Hid (RowF v4 w.heap.size) := HRs3.out.step st4 hne
  have Hr4 : Hid (Rd v4 rb (m + 25)) := hr4
  have HS4 : Hid (Step rb w v4) := HSs3.out.trans st4
  clear hr4 st4 HFs3 HRs3 Hrs3 HSs3
  obtain ⟨q4, rfl⟩ := Int.eq_ofNat_of_zero_le a4a
  have h4l : q4 < 2 ^ 64 := by omega
  obtain ⟨us40, cus40, fus40⟩ := HF4.out.some (2) (by omega)
  have HFs4 : Hid (MemF (World.setCell v4 ⟨w.heap.size + 1, 2, none⟩ (.int .u64 (q4 : Int))) (w.heap.size + 1)) := (MemF.set HF4.out (2) (.int .u64 (q4 : Int)) (⟨q4, h4l, rfl⟩))
  have HRs4 : Hid (RowF (World.setCell v4 ⟨w.heap.size + 1, 2, none⟩ (.int .u64 (q4 : Int))) w.heap.size) := (RowF.other (c := w.heap.size + 1) (k := 2) HR4.out (.int .u64 (q4 : Int)) (by omega))
  have Hrs4 : Hid (Rd (World.setCell v4 ⟨w.heap.size + 1, 2, none⟩ (.int .u64 (q4 : Int))) rb _) := (Rd.set Hr4.out (w.heap.size + 1) (2) (.int .u64 (q4 : Int)) hgt)
  have HSs4 : Hid (Step rb w (World.setCell v4 ⟨w.heap.size + 1, 2, none⟩ (.int .u64 (q4 : Int)))) := (Step.setNew HS4.out (w.heap.size + 1) (2) (.int .u64 (q4 : Int)) (by omega))
  clear HF4 HR4 Hr4 HS4
  go_wp2_with fail
  generalize (World.setCell v4 ⟨w.heap.size + 1, 2, none⟩ (.int .u64 (q4 : Int))) = x4 at *
  refine (word_any rb (m + 25) _ Hrs4.out (by omega)).mono ?_
  rintro e v5 ⟨a5, rfl, a5a, a5b, hr5, st5⟩
  have HF5 : Hid (MemF v5 (w.heap.size + 1)) := HFs4.out.step st5 hne1
  have HR5 : Hid (RowF v5 w.heap.size) := HRs4.out.step st5 hne
  have Hr5 : Hid (Rd v5 rb (m + 33)) := hr5
  have HS5 : Hid (Step rb w v5) := HSs4.out.trans st5
  clear hr5 st5 HFs4 HRs4 Hrs4 HSs4
  obtain ⟨q5, h5l, h5e⟩ := u16_nat a5
  obtain ⟨us50, cus50, fus50⟩ := HF5.out.some (3) (by omega)
  have HFs5 : Hid (MemF (World.setCell v5 ⟨w.heap.size + 1, 3, none⟩ (.int .u16 (q5 : Int))) (w.heap.size + 1)) := (MemF.set HF5.out (3) (.int .u16 (q5 : Int)) (⟨q5, h5l, rfl⟩))
  have HRs5 : Hid (RowF (World.setCell v5 ⟨w.heap.size + 1, 3, none⟩ (.int .u16 (q5 : Int))) w.heap.size) := (RowF.other (c := w.heap.size + 1) (k := 3) HR5.out (.int .u16 (q5 : Int)) (by omega))
  have Hrs5 : Hid (Rd (World.setCell v5 ⟨w.heap.size + 1, 3, none⟩ (.int .u16 (q5 : Int))) rb _) := (Rd.set Hr5.out (w.heap.size + 1) (3) (.int .u16 (q5 : Int)) hgt)
  have HSs5 : Hid (Step rb w (World.setCell v5 ⟨w.heap.size + 1, 3, none⟩ (.int .u16 (q5 : Int)))) := (Step.setNew HS5.out (w.heap.size + 1) (3) (.int .u16 (q5 : Int)) (by omega))
  clear HF5 HR5 Hr5 HS5
  go_wp2_with fail
  generalize (World.setCell v5 ⟨w.heap.size + 1, 3, none⟩ (.int .u16 (q5 : Int))) = x5 at *
  refine (word_any rb (m + 33) _ Hrs5.out (by omega)).mono ?_
  rintro e v6 ⟨a6, rfl, a6a, a6b, hr6, st6⟩
  have HF6 : Hid (MemF v6 (w.heap.size + 1)) := HFs5.out.step st6 hne1
  have HR6 : Hid (RowF v6 w.heap.size) := HRs5.out.step st6 hne
  have Hr6 : Hid (Rd v6 rb (m + 41)) := hr6
  have HS6 : Hid (Step rb w v6) := HSs5.out.trans st6
  clear hr6 st6 HFs5 HRs5 Hrs5 HSs5
  obtain ⟨q6, h6l, h6e⟩ := u32_nat a6
  obtain ⟨us60, cus60, fus60⟩ := HF6.out.some (4) (by omega)
  have HFs6 : Hid (MemF (World.setCell v6 ⟨w.heap.size + 1, 4, none⟩ (.int .u32 (q6 : Int))) (w.heap.size + 1)) := (MemF.set HF6.out (4) (.int .u32 (q6 : Int)) (⟨q6, h6l, rfl⟩))
  have HRs6 : Hid (RowF (World.setCell v6 ⟨w.heap.size + 1, 4, none⟩ (.int .u32 (q6 : Int))) w.heap.size) := (RowF.other (c := w.heap.size + 1) (k := 4) HR6.out (.int .u32 (q6 : Int)) (by omega))
  have Hrs6 : Hid (Rd (World.setCell v6 ⟨w.heap.size + 1, 4, none⟩ (.int .u32 (q6 : Int))) rb _) := (Rd.set Hr6.out (w.heap.size + 1) (4) (.int .u32 (q6 : Int)) hgt)
  have HSs6 : Hid (Step rb w (World.setCell v6 ⟨w.heap.size + 1, 4, none⟩ (.int .u32 (q6 : Int)))) := (Step.setNew HS6.out (w.heap.size + 1) (4) (.int .u32 (q6 : Int)) (by omega))
  clear HF6 HR6 Hr6 HS6
  go_wp2_with fail
  generalize (World.setCell v6 ⟨w.heap.size + 1, 4, none⟩ (.int .u32 (q6 : Int))) = x6 at *
  go_loopw [4] (fun c w' => ∃ i : Nat, i ≤ 4 ∧ c = .int .i64 (i : Int) ∧ Hid (MemF w' (w.heap.size + 1)) ∧ Hid (RowF w' w.heap.size) ∧ Hid (Rd w' rb (m + 41 + i * 135)) ∧ Hid (Step rb w w')) (fun c _ => 4 - (intOf c).toNat)
  case atStart => exact ⟨0, by omega, rfl, HFs6, HRs6, Hrs6.out.mono (by omega), HSs6⟩
  case round =>
    obtain ⟨i, hi, rfl, HFr, HRr, Hrr, HSr⟩ := hrel
    rename_i wr
    clear HFs6 HRs6 Hrs6 HSs6
    by_cases hl4 : i < 4
    · have hl4' : (i : Int) < 4 := by omega
      go_wp2_with fail
      refine (pick_any rb (m + 41 + i * 135) 4 _ (by omega) Hrr.out (by omega)).mono ?_
      rintro e v20 ⟨kk, rfl, k0, k1, -, hr20, st20⟩
      have HF20 : Hid (MemF v20 (w.heap.size + 1)) := HFr.out.step st20 hne1
      have HR20 : Hid (RowF v20 w.heap.size) := HRr.out.step st20 hne
      have Hr20 : Hid (Rd v20 rb (m + 41 + i * 135 + 1)) := hr20
      have HS20 : Hid (Step rb w v20) := HSr.out.trans st20
      clear hr20 st20 HFr HRr Hrr HSr
      have hrest : ∃ (kb : Nat), True := ⟨0, trivial⟩
      clear hrest
      by_cases hi3 : i = 3
      · subst hi3
        go_wp2_with fail
        refine (pick_any rb (m + 41 + 3 * 135 + 1) 16 _ (by omega) Hr20.out (by omega)).mono ?_
        rintro e v21 ⟨k2, rfl, k20, k21, -, hr21, st21⟩
        have HF21 : Hid (MemF v21 (w.heap.size + 1)) := HF20.out.step st21 hne1
        have HR21 : Hid (RowF v21 w.heap.size) := HR20.out.step st21 hne
        have Hr21 : Hid (Rd v21 rb (m + 41 + 3 * 135 + 2)) := hr21
        have HS21 : Hid (Step rb w v21) := HS20.out.trans st21
        clear hr21 st21 HF20 HR20 Hr20 HS20
        obtain ⟨kn, rfl⟩ := Int.eq_ofNat_of_zero_le k20
        have hkn : kn < 16 := by have := k21 (by omega); omega
        have hkn' : (kn : Int) < 16 := by omega
        have hkn2 : (kn : Int) < 32 := by omega
        clear k0 k1 k20 k21 hi hl4
        go_wp2_with fail
        refine (pick_any rb (m + 41 + 3 * 135 + 2) 2 _ (by omega) Hr21.out (by omega)).mono ?_
        rintro e v31 ⟨b31, rfl, -, -, -, hr31, st31⟩
        have HF31 : Hid (MemF v31 (w.heap.size + 1)) := HF21.out.step st31 hne1
        have HR31 : Hid (RowF v31 w.heap.size) := HR21.out.step st31 hne
        have Hr31 : Hid (Rd v31 rb (m + 41 + 3 * 135 + 3)) := hr31
        have HS31 : Hid (Step rb w v31) := HS21.out.trans st31
        clear hr31 st31 HF21 HR21 Hr21 HS21
        go_wp2_with fail
        refine (num_any rb (m + 41 + 3 * 135 + 3) v31.heap.size 7 _ (by omega) (by omega) (Hr31.out.alloc _) (by omega) ?_ (by have := Hr31.out.lt; omega)).mono ?_
        · have := nums_of v31 [0, 1, 5, 99, 32767, 32768, 65535] 3 (by simp)
          simpa using this
        rintro e v32 ⟨c32, rfl, -, -, hr32, st32⟩
        have HF32 : Hid (MemF v32 (w.heap.size + 1)) := HF31.out.step ((Step.alloc rb v31 _).trans st32) hne1
        have HR32 : Hid (RowF v32 w.heap.size) := HR31.out.step ((Step.alloc rb v31 _).trans st32) hne
        have Hr32 : Hid (Rd v32 rb (m + 41 + 3 * 135 + 4)) := hr32
        have HS32 : Hid (Step rb w v32) := HS31.out.trans ((Step.alloc rb v31 _).trans st32)
        clear hr32 st32 HF31 HR31 Hr31 HS31
        obtain ⟨q32, h32l, h32e⟩ := u16_nat c32
        obtain ⟨us320, cus320, fus320⟩ := HF32.out.some (5 + kn * 2) (by omega)
        obtain ⟨us321, cus321, fus321⟩ := HF32.out.some (5 + kn * 2 + 1) (by omega)
        have HFs32 : Hid (MemF (World.setCell (World.setCell v32 ⟨w.heap.size + 1, 5 + kn * 2, none⟩ (.bool (b31 == 1))) ⟨w.heap.size + 1, 5 + kn * 2 + 1, none⟩ (.int .u16 (q32 : Int))) (w.heap.size + 1)) := (MemF.set (MemF.set HF32.out (5 + kn * 2) (.bool (b31 == 1)) (fit_td hkn _)) (5 + kn * 2 + 1) (.int .u16 (q32 : Int)) (fit_tc hkn h32l))
        have HRs32 : Hid (RowF (World.setCell (World.setCell v32 ⟨w.heap.size + 1, 5 + kn * 2, none⟩ (.bool (b31 == 1))) ⟨w.heap.size + 1, 5 + kn * 2 + 1, none⟩ (.int .u16 (q32 : Int))) w.heap.size) := (RowF.other (c := w.heap.size + 1) (k := 5 + kn * 2 + 1) (RowF.other (c := w.heap.size + 1) (k := 5 + kn * 2) HR32.out (.bool (b31 == 1)) (by omega)) (.int .u16 (q32 : Int)) (by omega))
        have Hrs32 : Hid (Rd (World.setCell (World.setCell v32 ⟨w.heap.size + 1, 5 + kn * 2, none⟩ (.bool (b31 == 1))) ⟨w.heap.size + 1, 5 + kn * 2 + 1, none⟩ (.int .u16 (q32 : Int))) rb _) := (Rd.set (Rd.set Hr32.out (w.heap.size + 1) (5 + kn * 2) (.bool (b31 == 1)) hgt) (w.heap.size + 1) (5 + kn * 2 + 1) (.int .u16 (q32 : Int)) hgt)
        have HSs32 : Hid (Step rb w (World.setCell (World.setCell v32 ⟨w.heap.size + 1, 5 + kn * 2, none⟩ (.bool (b31 == 1))) ⟨w.heap.size + 1, 5 + kn * 2 + 1, none⟩ (.int .u16 (q32 : Int)))) := (Step.setNew (Step.setNew HS32.out (w.heap.size + 1) (5 + kn * 2) (.bool (b31 == 1)) (by omega)) (w.heap.size + 1) (5 + kn * 2 + 1) (.int .u16 (q32 : Int)) (by omega))
        clear HF32 HR32 Hr32 HS32
        go_wp2_with fail
        generalize (World.setCell (World.setCell v32 ⟨w.heap.size + 1, 5 + kn * 2, none⟩ (.bool (b31 == 1))) ⟨w.heap.size + 1, 5 + kn * 2 + 1, none⟩ (.int .u16 (q32 : Int))) = x32 at *
        refine (pick_any rb (m + 41 + 3 * 135 + 4) 2 _ (by omega) Hrs32.out (by omega)).mono ?_
        rintro e v33 ⟨b33, rfl, -, -, -, hr33, st33⟩
        have HF33 : Hid (MemF v33 (w.heap.size + 1)) := HFs32.out.step st33 hne1
        have HR33 : Hid (RowF v33 w.heap.size) := HRs32.out.step st33 hne
        have Hr33 : Hid (Rd v33 rb (m + 41 + 3 * 135 + 5)) := hr33
        have HS33 : Hid (Step rb w v33) := HSs32.out.trans st33
        clear hr33 st33 HFs32 HRs32 Hrs32 HSs32
        go_wp2_with fail
        refine (pick_any rb (m + 41 + 3 * 135 + 5) 2 _ (by omega) Hr33.out (by omega)).mono ?_
        rintro e v34 ⟨b34, rfl, -, -, -, hr34, st34⟩
        have HF34 : Hid (MemF v34 (w.heap.size + 1)) := HF33.out.step st34 hne1
        have HR34 : Hid (RowF v34 w.heap.size) := HR33.out.step st34 hne
        have Hr34 : Hid (Rd v34 rb (m + 41 + 3 * 135 + 6)) := hr34
        have HS34 : Hid (Step rb w v34) := HS33.out.trans st34
        clear hr34 st34 HF33 HR33 Hr33 HS33
        go_wp2_with fail
        refine (num_any rb (m + 41 + 3 * 135 + 6) v34.heap.size 7 _ (by omega) (by omega) (Hr34.out.alloc _) (by omega) ?_ (by have := Hr34.out.lt; omega)).mono ?_
        · have := nums_of v34 [0, 1, 4, 9, 32767, 32768, 65535] 3 (by simp)
          simpa using this
        rintro e v35 ⟨c35, rfl, -, -, hr35, st35⟩
        have HF35 : Hid (MemF v35 (w.heap.size + 1)) := HF34.out.step ((Step.alloc rb v34 _).trans st35) hne1
        have HR35 : Hid (RowF v35 w.heap.size) := HR34.out.step ((Step.alloc rb v34 _).trans st35) hne
        have Hr35 : Hid (Rd v35 rb (m + 41 + 3 * 135 + 7)) := hr35
        have HS35 : Hid (Step rb w v35) := HS34.out.trans ((Step.alloc rb v34 _).trans st35)
        clear hr35 st35 HF34 HR34 Hr34 HS34
        obtain ⟨q35, h35l, h35e⟩ := u16_nat c35
        obtain ⟨us350, cus350, fus350⟩ := HF35.out.some (37 + kn * 3) (by omega)
        obtain ⟨us351, cus351, fus351⟩ := HF35.out.some (37 + kn * 3 + 1) (by omega)
        obtain ⟨us352, cus352, fus352⟩ := HF35.out.some (37 + kn * 3 + 2) (by omega)
        have HFs35 : Hid (MemF (World.setCell (World.setCell (World.setCell v35 ⟨w.heap.size + 1, 37 + kn * 3, none⟩ (.bool (b33 == 1))) ⟨w.heap.size + 1, 37 + kn * 3 + 1, none⟩ (.bool (b34 == 1))) ⟨w.heap.size + 1, 37 + kn * 3 + 2, none⟩ (.int .u16 (q35 : Int))) (w.heap.size + 1)) := (MemF.set (MemF.set (MemF.set HF35.out (37 + kn * 3) (.bool (b33 == 1)) (fit_cd hkn _)) (37 + kn * 3 + 1) (.bool (b34 == 1)) (fit_cl hkn _)) (37 + kn * 3 + 2) (.int .u16 (q35 : Int)) (fit_cc hkn h35l))
        have HRs35 : Hid (RowF (World.setCell (World.setCell (World.setCell v35 ⟨w.heap.size + 1, 37 + kn * 3, none⟩ (.bool (b33 == 1))) ⟨w.heap.size + 1, 37 + kn * 3 + 1, none⟩ (.bool (b34 == 1))) ⟨w.heap.size + 1, 37 + kn * 3 + 2, none⟩ (.int .u16 (q35 : Int))) w.heap.size) := (RowF.other (c := w.heap.size + 1) (k := 37 + kn * 3 + 2) (RowF.other (c := w.heap.size + 1) (k := 37 + kn * 3 + 1) (RowF.other (c := w.heap.size + 1) (k := 37 + kn * 3) HR35.out (.bool (b33 == 1)) (by omega)) (.bool (b34 == 1)) (by omega)) (.int .u16 (q35 : Int)) (by omega))
        have Hrs35 : Hid (Rd (World.setCell (World.setCell (World.setCell v35 ⟨w.heap.size + 1, 37 + kn * 3, none⟩ (.bool (b33 == 1))) ⟨w.heap.size + 1, 37 + kn * 3 + 1, none⟩ (.bool (b34 == 1))) ⟨w.heap.size + 1, 37 + kn * 3 + 2, none⟩ (.int .u16 (q35 : Int))) rb _) := (Rd.set (Rd.set (Rd.set Hr35.out (w.heap.size + 1) (37 + kn * 3) (.bool (b33 == 1)) hgt) (w.heap.size + 1) (37 + kn * 3 + 1) (.bool (b34 == 1)) hgt) (w.heap.size + 1) (37 + kn * 3 + 2) (.int .u16 (q35 : Int)) hgt)
        have HSs35 : Hid (Step rb w (World.setCell (World.setCell (World.setCell v35 ⟨w.heap.size + 1, 37 + kn * 3, none⟩ (.bool (b33 == 1))) ⟨w.heap.size + 1, 37 + kn * 3 + 1, none⟩ (.bool (b34 == 1))) ⟨w.heap.size + 1, 37 + kn * 3 + 2, none⟩ (.int .u16 (q35 : Int)))) := (Step.setNew (Step.setNew (Step.setNew HS35.out (w.heap.size + 1) (37 + kn * 3) (.bool (b33 == 1)) (by omega)) (w.heap.size + 1) (37 + kn * 3 + 1) (.bool (b34 == 1)) (by omega)) (w.heap.size + 1) (37 + kn * 3 + 2) (.int .u16 (q35 : Int)) (by omega))
        clear HF35 HR35 Hr35 HS35
        go_wp2_with fail
        generalize (World.setCell (World.setCell (World.setCell v35 ⟨w.heap.size + 1, 37 + kn * 3, none⟩ (.bool (b33 == 1))) ⟨w.heap.size + 1, 37 + kn * 3 + 1, none⟩ (.bool (b34 == 1))) ⟨w.heap.size + 1, 37 + kn * 3 + 2, none⟩ (.int .u16 (q35 : Int))) = x35 at *
        refine (whole_any rb (m + 41 + 3 * 135 + 7) _ Hrs35.out (by omega)).mono ?_
        rintro e v36 ⟨z36, rfl, z36a, z36b, hr36, st36⟩
        have HF36 : Hid (MemF v36 (w.heap.size + 1)) := HFs35.out.step st36 hne1
        have HR36 : Hid (RowF v36 w.heap.size) := HRs35.out.step st36 hne
        have Hr36 : Hid (Rd v36 rb (m + 41 + 3 * 135 + 7 + 2)) := hr36
        have HS36 : Hid (Step rb w v36) := HSs35.out.trans st36
        clear hr36 st36 HFs35 HRs35 Hrs35 HSs35
        obtain ⟨us360, cus360, fus360⟩ := HF36.out.some (85 + kn) (by omega)
        have HFs36 : Hid (MemF (World.setCell v36 ⟨w.heap.size + 1, 85 + kn, none⟩ (.int .i16 z36)) (w.heap.size + 1)) := (MemF.set HF36.out (85 + kn) (.int .i16 z36) (fit_d (by omega) z36a z36b))
        have HRs36 : Hid (RowF (World.setCell v36 ⟨w.heap.size + 1, 85 + kn, none⟩ (.int .i16 z36)) w.heap.size) := (RowF.other (c := w.heap.size + 1) (k := 85 + kn) HR36.out (.int .i16 z36) (by omega))
        have Hrs36 : Hid (Rd (World.setCell v36 ⟨w.heap.size + 1, 85 + kn, none⟩ (.int .i16 z36)) rb _) := (Rd.set Hr36.out (w.heap.size + 1) (85 + kn) (.int .i16 z36) hgt)
        have HSs36 : Hid (Step rb w (World.setCell v36 ⟨w.heap.size + 1, 85 + kn, none⟩ (.int .i16 z36))) := (Step.setNew HS36.out (w.heap.size + 1) (85 + kn) (.int .i16 z36) (by omega))
        clear HF36 HR36 Hr36 HS36
        go_wp2_with fail
        generalize (World.setCell v36 ⟨w.heap.size + 1, 85 + kn, none⟩ (.int .i16 z36)) = x36 at *
        refine (real_any rb (m + 41 + 3 * 135 + 7 + 2) _ Hrs36.out (by omega)).mono ?_
        rintro e v37 ⟨z37, rfl, z37a, hr37, st37⟩
        have HF37 : Hid (MemF v37 (w.heap.size + 1)) := HFs36.out.step st37 hne1
        have HR37 : Hid (RowF v37 w.heap.size) := HRs36.out.step st37 hne
        have Hr37 : Hid (Rd v37 rb (m + 41 + 3 * 135 + 7 + 2 + 120)) := hr37
        have HS37 : Hid (Step rb w v37) := HSs36.out.trans st37
        clear hr37 st37 HFs36 HRs36 Hrs36 HSs36
        obtain ⟨us370, cus370, fus370⟩ := HF37.out.some (117 + kn) (by omega)
        have HFs37 : Hid (MemF (World.setCell v37 ⟨w.heap.size + 1, 117 + kn, none⟩ (.float .f64 z37)) (w.heap.size + 1)) := (MemF.set HF37.out (117 + kn) (.float .f64 z37) (fit_r hkn z37a))
        have HRs37 : Hid (RowF (World.setCell v37 ⟨w.heap.size + 1, 117 + kn, none⟩ (.float .f64 z37)) w.heap.size) := (RowF.other (c := w.heap.size + 1) (k := 117 + kn) HR37.out (.float .f64 z37) (by omega))
        have Hrs37 : Hid (Rd (World.setCell v37 ⟨w.heap.size + 1, 117 + kn, none⟩ (.float .f64 z37)) rb _) := (Rd.set Hr37.out (w.heap.size + 1) (117 + kn) (.float .f64 z37) hgt)
        have HSs37 : Hid (Step rb w (World.setCell v37 ⟨w.heap.size + 1, 117 + kn, none⟩ (.float .f64 z37))) := (Step.setNew HS37.out (w.heap.size + 1) (117 + kn) (.float .f64 z37) (by omega))
        clear HF37 HR37 Hr37 HS37
        go_wp2
        exact ⟨⟨3 + 1, by omega, by go_num, HFs37, HRs37, Hrs37.out.mono (by omega), HSs37⟩, by first | (simp [intOf]; done) | (simp [intOf]; omega)⟩
      · have hi3' : ((i : Int) == 3) = false := by simp only [beq_eq_false_iff_ne, ne_eq]; omega
        obtain ⟨kn, rfl⟩ := Int.eq_ofNat_of_zero_le k0
        have hkn : kn < 16 := by have := k1 (by omega); omega
        have hkn' : (kn : Int) < 16 := by omega
        have hkn2 : (kn : Int) < 32 := by omega
        have Hr21 : Hid (Rd v20 rb (m + 41 + i * 135 + 2)) := Hr20.out.mono (by omega)
        have HF21 := HF20
        have HR21 := HR20
        have HS21 := HS20
        clear k0 k1 hi hi3 Hr20 HF20 HR20 HS20
        go_wp2_with fail
        refine (pick_any rb (m + 41 + i * 135 + 2) 2 _ (by omega) Hr21.out (by omega)).mono ?_
        rintro e v31 ⟨b31, rfl, -, -, -, hr31, st31⟩
        have HF31 : Hid (MemF v31 (w.heap.size + 1)) := HF21.out.step st31 hne1
        have HR31 : Hid (RowF v31 w.heap.size) := HR21.out.step st31 hne
        have Hr31 : Hid (Rd v31 rb (m + 41 + i * 135 + 3)) := hr31
        have HS31 : Hid (Step rb w v31) := HS21.out.trans st31
        clear hr31 st31 HF21 HR21 Hr21 HS21
        go_wp2_with fail
        refine (num_any rb (m + 41 + i * 135 + 3) v31.heap.size 7 _ (by omega) (by omega) (Hr31.out.alloc _) (by omega) ?_ (by have := Hr31.out.lt; omega)).mono ?_
        · have := nums_of v31 [0, 1, 5, 99, 32767, 32768, 65535] 3 (by simp)
          simpa using this
        rintro e v32 ⟨c32, rfl, -, -, hr32, st32⟩
        have HF32 : Hid (MemF v32 (w.heap.size + 1)) := HF31.out.step ((Step.alloc rb v31 _).trans st32) hne1
        have HR32 : Hid (RowF v32 w.heap.size) := HR31.out.step ((Step.alloc rb v31 _).trans st32) hne
        have Hr32 : Hid (Rd v32 rb (m + 41 + i * 135 + 4)) := hr32
        have HS32 : Hid (Step rb w v32) := HS31.out.trans ((Step.alloc rb v31 _).trans st32)
        clear hr32 st32 HF31 HR31 Hr31 HS31
        obtain ⟨q32, h32l, h32e⟩ := u16_nat c32
        obtain ⟨us320, cus320, fus320⟩ := HF32.out.some (5 + kn * 2) (by omega)
        obtain ⟨us321, cus321, fus321⟩ := HF32.out.some (5 + kn * 2 + 1) (by omega)
        have HFs32 : Hid (MemF (World.setCell (World.setCell v32 ⟨w.heap.size + 1, 5 + kn * 2, none⟩ (.bool (b31 == 1))) ⟨w.heap.size + 1, 5 + kn * 2 + 1, none⟩ (.int .u16 (q32 : Int))) (w.heap.size + 1)) := (MemF.set (MemF.set HF32.out (5 + kn * 2) (.bool (b31 == 1)) (fit_td hkn _)) (5 + kn * 2 + 1) (.int .u16 (q32 : Int)) (fit_tc hkn h32l))
        have HRs32 : Hid (RowF (World.setCell (World.setCell v32 ⟨w.heap.size + 1, 5 + kn * 2, none⟩ (.bool (b31 == 1))) ⟨w.heap.size + 1, 5 + kn * 2 + 1, none⟩ (.int .u16 (q32 : Int))) w.heap.size) := (RowF.other (c := w.heap.size + 1) (k := 5 + kn * 2 + 1) (RowF.other (c := w.heap.size + 1) (k := 5 + kn * 2) HR32.out (.bool (b31 == 1)) (by omega)) (.int .u16 (q32 : Int)) (by omega))
        have Hrs32 : Hid (Rd (World.setCell (World.setCell v32 ⟨w.heap.size + 1, 5 + kn * 2, none⟩ (.bool (b31 == 1))) ⟨w.heap.size + 1, 5 + kn * 2 + 1, none⟩ (.int .u16 (q32 : Int))) rb _) := (Rd.set (Rd.set Hr32.out (w.heap.size + 1) (5 + kn * 2) (.bool (b31 == 1)) hgt) (w.heap.size + 1) (5 + kn * 2 + 1) (.int .u16 (q32 : Int)) hgt)
        have HSs32 : Hid (Step rb w (World.setCell (World.setCell v32 ⟨w.heap.size + 1, 5 + kn * 2, none⟩ (.bool (b31 == 1))) ⟨w.heap.size + 1, 5 + kn * 2 + 1, none⟩ (.int .u16 (q32 : Int)))) := (Step.setNew (Step.setNew HS32.out (w.heap.size + 1) (5 + kn * 2) (.bool (b31 == 1)) (by omega)) (w.heap.size + 1) (5 + kn * 2 + 1) (.int .u16 (q32 : Int)) (by omega))
        clear HF32 HR32 Hr32 HS32
        go_wp2_with fail
        generalize (World.setCell (World.setCell v32 ⟨w.heap.size + 1, 5 + kn * 2, none⟩ (.bool (b31 == 1))) ⟨w.heap.size + 1, 5 + kn * 2 + 1, none⟩ (.int .u16 (q32 : Int))) = x32 at *
        refine (pick_any rb (m + 41 + i * 135 + 4) 2 _ (by omega) Hrs32.out (by omega)).mono ?_
        rintro e v33 ⟨b33, rfl, -, -, -, hr33, st33⟩
        have HF33 : Hid (MemF v33 (w.heap.size + 1)) := HFs32.out.step st33 hne1
        have HR33 : Hid (RowF v33 w.heap.size) := HRs32.out.step st33 hne
        have Hr33 : Hid (Rd v33 rb (m + 41 + i * 135 + 5)) := hr33
        have HS33 : Hid (Step rb w v33) := HSs32.out.trans st33
        clear hr33 st33 HFs32 HRs32 Hrs32 HSs32
        go_wp2_with fail
        refine (pick_any rb (m + 41 + i * 135 + 5) 2 _ (by omega) Hr33.out (by omega)).mono ?_
        rintro e v34 ⟨b34, rfl, -, -, -, hr34, st34⟩
        have HF34 : Hid (MemF v34 (w.heap.size + 1)) := HF33.out.step st34 hne1
        have HR34 : Hid (RowF v34 w.heap.size) := HR33.out.step st34 hne
        have Hr34 : Hid (Rd v34 rb (m + 41 + i * 135 + 6)) := hr34
        have HS34 : Hid (Step rb w v34) := HS33.out.trans st34
        clear hr34 st34 HF33 HR33 Hr33 HS33
        go_wp2_with fail
        refine (num_any rb (m + 41 + i * 135 + 6) v34.heap.size 7 _ (by omega) (by omega) (Hr34.out.alloc _) (by omega) ?_ (by have := Hr34.out.lt; omega)).mono ?_
        · have := nums_of v34 [0, 1, 4, 9, 32767, 32768, 65535] 3 (by simp)
          simpa using this
        rintro e v35 ⟨c35, rfl, -, -, hr35, st35⟩
        have HF35 : Hid (MemF v35 (w.heap.size + 1)) := HF34.out.step ((Step.alloc rb v34 _).trans st35) hne1
        have HR35 : Hid (RowF v35 w.heap.size) := HR34.out.step ((Step.alloc rb v34 _).trans st35) hne
        have Hr35 : Hid (Rd v35 rb (m + 41 + i * 135 + 7)) := hr35
        have HS35 : Hid (Step rb w v35) := HS34.out.trans ((Step.alloc rb v34 _).trans st35)
        clear hr35 st35 HF34 HR34 Hr34 HS34
        obtain ⟨q35, h35l, h35e⟩ := u16_nat c35
        obtain ⟨us350, cus350, fus350⟩ := HF35.out.some (37 + kn * 3) (by omega)
        obtain ⟨us351, cus351, fus351⟩ := HF35.out.some (37 + kn * 3 + 1) (by omega)
        obtain ⟨us352, cus352, fus352⟩ := HF35.out.some (37 + kn * 3 + 2) (by omega)
        have HFs35 : Hid (MemF (World.setCell (World.setCell (World.setCell v35 ⟨w.heap.size + 1, 37 + kn * 3, none⟩ (.bool (b33 == 1))) ⟨w.heap.size + 1, 37 + kn * 3 + 1, none⟩ (.bool (b34 == 1))) ⟨w.heap.size + 1, 37 + kn * 3 + 2, none⟩ (.int .u16 (q35 : Int))) (w.heap.size + 1)) := (MemF.set (MemF.set (MemF.set HF35.out (37 + kn * 3) (.bool (b33 == 1)) (fit_cd hkn _)) (37 + kn * 3 + 1) (.bool (b34 == 1)) (fit_cl hkn _)) (37 + kn * 3 + 2) (.int .u16 (q35 : Int)) (fit_cc hkn h35l))
        have HRs35 : Hid (RowF (World.setCell (World.setCell (World.setCell v35 ⟨w.heap.size + 1, 37 + kn * 3, none⟩ (.bool (b33 == 1))) ⟨w.heap.size + 1, 37 + kn * 3 + 1, none⟩ (.bool (b34 == 1))) ⟨w.heap.size + 1, 37 + kn * 3 + 2, none⟩ (.int .u16 (q35 : Int))) w.heap.size) := (RowF.other (c := w.heap.size + 1) (k := 37 + kn * 3 + 2) (RowF.other (c := w.heap.size + 1) (k := 37 + kn * 3 + 1) (RowF.other (c := w.heap.size + 1) (k := 37 + kn * 3) HR35.out (.bool (b33 == 1)) (by omega)) (.bool (b34 == 1)) (by omega)) (.int .u16 (q35 : Int)) (by omega))
        have Hrs35 : Hid (Rd (World.setCell (World.setCell (World.setCell v35 ⟨w.heap.size + 1, 37 + kn * 3, none⟩ (.bool (b33 == 1))) ⟨w.heap.size + 1, 37 + kn * 3 + 1, none⟩ (.bool (b34 == 1))) ⟨w.heap.size + 1, 37 + kn * 3 + 2, none⟩ (.int .u16 (q35 : Int))) rb _) := (Rd.set (Rd.set (Rd.set Hr35.out (w.heap.size + 1) (37 + kn * 3) (.bool (b33 == 1)) hgt) (w.heap.size + 1) (37 + kn * 3 + 1) (.bool (b34 == 1)) hgt) (w.heap.size + 1) (37 + kn * 3 + 2) (.int .u16 (q35 : Int)) hgt)
        have HSs35 : Hid (Step rb w (World.setCell (World.setCell (World.setCell v35 ⟨w.heap.size + 1, 37 + kn * 3, none⟩ (.bool (b33 == 1))) ⟨w.heap.size + 1, 37 + kn * 3 + 1, none⟩ (.bool (b34 == 1))) ⟨w.heap.size + 1, 37 + kn * 3 + 2, none⟩ (.int .u16 (q35 : Int)))) := (Step.setNew (Step.setNew (Step.setNew HS35.out (w.heap.size + 1) (37 + kn * 3) (.bool (b33 == 1)) (by omega)) (w.heap.size + 1) (37 + kn * 3 + 1) (.bool (b34 == 1)) (by omega)) (w.heap.size + 1) (37 + kn * 3 + 2) (.int .u16 (q35 : Int)) (by omega))
        clear HF35 HR35 Hr35 HS35
        go_wp2_with fail
        generalize (World.setCell (World.setCell (World.setCell v35 ⟨w.heap.size + 1, 37 + kn * 3, none⟩ (.bool (b33 == 1))) ⟨w.heap.size + 1, 37 + kn * 3 + 1, none⟩ (.bool (b34 == 1))) ⟨w.heap.size + 1, 37 + kn * 3 + 2, none⟩ (.int .u16 (q35 : Int))) = x35 at *
        refine (whole_any rb (m + 41 + i * 135 + 7) _ Hrs35.out (by omega)).mono ?_
        rintro e v36 ⟨z36, rfl, z36a, z36b, hr36, st36⟩
        have HF36 : Hid (MemF v36 (w.heap.size + 1)) := HFs35.out.step st36 hne1
        have HR36 : Hid (RowF v36 w.heap.size) := HRs35.out.step st36 hne
        have Hr36 : Hid (Rd v36 rb (m + 41 + i * 135 + 7 + 2)) := hr36
        have HS36 : Hid (Step rb w v36) := HSs35.out.trans st36
        clear hr36 st36 HFs35 HRs35 Hrs35 HSs35
        obtain ⟨us360, cus360, fus360⟩ := HF36.out.some (85 + kn) (by omega)
        have HFs36 : Hid (MemF (World.setCell v36 ⟨w.heap.size + 1, 85 + kn, none⟩ (.int .i16 z36)) (w.heap.size + 1)) := (MemF.set HF36.out (85 + kn) (.int .i16 z36) (fit_d (by omega) z36a z36b))
        have HRs36 : Hid (RowF (World.setCell v36 ⟨w.heap.size + 1, 85 + kn, none⟩ (.int .i16 z36)) w.heap.size) := (RowF.other (c := w.heap.size + 1) (k := 85 + kn) HR36.out (.int .i16 z36) (by omega))
        have Hrs36 : Hid (Rd (World.setCell v36 ⟨w.heap.size + 1, 85 + kn, none⟩ (.int .i16 z36)) rb _) := (Rd.set Hr36.out (w.heap.size + 1) (85 + kn) (.int .i16 z36) hgt)
        have HSs36 : Hid (Step rb w (World.setCell v36 ⟨w.heap.size + 1, 85 + kn, none⟩ (.int .i16 z36))) := (Step.setNew HS36.out (w.heap.size + 1) (85 + kn) (.int .i16 z36) (by omega))
        clear HF36 HR36 Hr36 HS36
        go_wp2_with fail
        generalize (World.setCell v36 ⟨w.heap.size + 1, 85 + kn, none⟩ (.int .i16 z36)) = x36 at *
        refine (real_any rb (m + 41 + i * 135 + 7 + 2) _ Hrs36.out (by omega)).mono ?_
        rintro e v37 ⟨z37, rfl, z37a, hr37, st37⟩
        have HF37 : Hid (MemF v37 (w.heap.size + 1)) := HFs36.out.step st37 hne1
        have HR37 : Hid (RowF v37 w.heap.size) := HRs36.out.step st37 hne
        have Hr37 : Hid (Rd v37 rb (m + 41 + i * 135 + 7 + 2 + 120)) := hr37
        have HS37 : Hid (Step rb w v37) := HSs36.out.trans st37
        clear hr37 st37 HFs36 HRs36 Hrs36 HSs36
        obtain ⟨us370, cus370, fus370⟩ := HF37.out.some (117 + kn) (by omega)
        have HFs37 : Hid (MemF (World.setCell v37 ⟨w.heap.size + 1, 117 + kn, none⟩ (.float .f64 z37)) (w.heap.size + 1)) := (MemF.set HF37.out (117 + kn) (.float .f64 z37) (fit_r hkn z37a))
        have HRs37 : Hid (RowF (World.setCell v37 ⟨w.heap.size + 1, 117 + kn, none⟩ (.float .f64 z37)) w.heap.size) := (RowF.other (c := w.heap.size + 1) (k := 117 + kn) HR37.out (.float .f64 z37) (by omega))
        have Hrs37 : Hid (Rd (World.setCell v37 ⟨w.heap.size + 1, 117 + kn, none⟩ (.float .f64 z37)) rb _) := (Rd.set Hr37.out (w.heap.size + 1) (117 + kn) (.float .f64 z37) hgt)
        have HSs37 : Hid (Step rb w (World.setCell v37 ⟨w.heap.size + 1, 117 + kn, none⟩ (.float .f64 z37))) := (Step.setNew HS37.out (w.heap.size + 1) (117 + kn) (.float .f64 z37) (by omega))
        clear HF37 HR37 Hr37 HS37
        go_wp2
        exact ⟨⟨i + 1, by omega, by go_num, HFs37, HRs37, Hrs37.out.mono (by omega), HSs37⟩, by first | (simp [intOf]; done) | (simp [intOf]; omega)⟩
    · obtain rfl : i = 4 := by omega
      have Hr40 : Hid (Rd wr rb (m + 581)) := Hrr.out
      have HF40 := HFr
      have HR40 := HRr
      have HS40 := HSr
      clear hi hl4 HFr HRr Hrr HSr
      go_wp2_with fail
      refine (pick_any rb (m + 581) 32 _ (by omega) Hr40.out (by omega)).mono ?_
      rintro e v41 ⟨k41, rfl, k41a, k41b, -, hr41, st41⟩
      have HF41 : Hid (MemF v41 (w.heap.size + 1)) := HF40.out.step st41 hne1
      have HR41 : Hid (RowF v41 w.heap.size) := HR40.out.step st41 hne
      have Hr41 : Hid (Rd v41 rb (m + 582)) := hr41
      have HS41 : Hid (Step rb w v41) := HS40.out.trans st41
      clear hr41 st41 HF40 HR40 Hr40 HS40
      obtain ⟨kn, rfl⟩ := Int.eq_ofNat_of_zero_le k41a
      have hkn : kn < 32 := by have := k41b (by omega); omega
      have hkn' : (kn : Int) < 32 := by omega
      clear k41a k41b
      go_wp2_with fail
      refine (whole_any rb (m + 582) _ Hr41.out (by omega)).mono ?_
      rintro e v42 ⟨z42, rfl, z42a, z42b, hr42, st42⟩
      have HF42 : Hid (MemF v42 (w.heap.size + 1)) := HF41.out.step st42 hne1
      have HR42 : Hid (RowF v42 w.heap.size) := HR41.out.step st42 hne
      have Hr42 : Hid (Rd v42 rb (m + 582 + 2)) := hr42
      have HS42 : Hid (Step rb w v42) := HS41.out.trans st42
      clear hr42 st42 HF41 HR41 Hr41 HS41
      obtain ⟨us420, cus420, fus420⟩ := HF42.out.some (85 + kn) (by omega)
      have HFs42 : Hid (MemF (World.setCell v42 ⟨w.heap.size + 1, 85 + kn, none⟩ (.int .i16 z42)) (w.heap.size + 1)) := (MemF.set HF42.out (85 + kn) (.int .i16 z42) (fit_d hkn z42a z42b))
      have HRs42 : Hid (RowF (World.setCell v42 ⟨w.heap.size + 1, 85 + kn, none⟩ (.int .i16 z42)) w.heap.size) := (RowF.other (c := w.heap.size + 1) (k := 85 + kn) HR42.out (.int .i16 z42) (by omega))
      have Hrs42 : Hid (Rd (World.setCell v42 ⟨w.heap.size + 1, 85 + kn, none⟩ (.int .i16 z42)) rb _) := (Rd.set Hr42.out (w.heap.size + 1) (85 + kn) (.int .i16 z42) hgt)
      have HSs42 : Hid (Step rb w (World.setCell v42 ⟨w.heap.size + 1, 85 + kn, none⟩ (.int .i16 z42))) := (Step.setNew HS42.out (w.heap.size + 1) (85 + kn) (.int .i16 z42) (by omega))
      clear HF42 HR42 Hr42 HS42
      go_wp2_with fail
      generalize (World.setCell v42 ⟨w.heap.size + 1, 85 + kn, none⟩ (.int .i16 z42)) = x42 at *
      refine (pick_any rb (m + 582 + 2) 16 _ (by omega) Hrs42.out (by omega)).mono ?_
      rintro e v43 ⟨k43, rfl, k43a, k43b, -, hr43, st43⟩
      have HF43 : Hid (MemF v43 (w.heap.size + 1)) := HFs42.out.step st43 hne1
      have HR43 : Hid (RowF v43 w.heap.size) := HRs42.out.step st43 hne
      have Hr43 : Hid (Rd v43 rb (m + 585)) := hr43
      have HS43 : Hid (Step rb w v43) := HSs42.out.trans st43
      clear hr43 st43 HFs42 HRs42 Hrs42 HSs42
      obtain ⟨kr, rfl⟩ := Int.eq_ofNat_of_zero_le k43a
      have hkr : kr < 16 := by have := k43b (by omega); omega
      have hkr' : (kr : Int) < 16 := by omega
      clear k43a k43b hkn hkn'
      go_wp2_with fail
      refine (real_any rb (m + 585) _ Hr43.out (by omega)).mono ?_
      rintro e v44 ⟨z44, rfl, z44a, hr44, st44⟩
      have HF44 : Hid (MemF v44 (w.heap.size + 1)) := HF43.out.step st44 hne1
      have HR44 : Hid (RowF v44 w.heap.size) := HR43.out.step st44 hne
      have Hr44 : Hid (Rd v44 rb (m + 585 + 120)) := hr44
      have HS44 : Hid (Step rb w v44) := HS43.out.trans st44
      clear hr44 st44 HF43 HR43 Hr43 HS43
      obtain ⟨us440, cus440, fus440⟩ := HF44.out.some (117 + kr) (by omega)
      have HFs44 : Hid (MemF (World.setCell v44 ⟨w.heap.size + 1, 117 + kr, none⟩ (.float .f64 z44)) (w.heap.size + 1)) := (MemF.set HF44.out (117 + kr) (.float .f64 z44) (fit_r hkr z44a))
      have HRs44 : Hid (RowF (World.setCell v44 ⟨w.heap.size + 1, 117 + kr, none⟩ (.float .f64 z44)) w.heap.size) := (RowF.other (c := w.heap.size + 1) (k := 117 + kr) HR44.out (.float .f64 z44) (by omega))
      have Hrs44 : Hid (Rd (World.setCell v44 ⟨w.heap.size + 1, 117 + kr, none⟩ (.float .f64 z44)) rb _) := (Rd.set Hr44.out (w.heap.size + 1) (117 + kr) (.float .f64 z44) hgt)
      have HSs44 : Hid (Step rb w (World.setCell v44 ⟨w.heap.size + 1, 117 + kr, none⟩ (.float .f64 z44))) := (Step.setNew HS44.out (w.heap.size + 1) (117 + kr) (.float .f64 z44) (by omega))
      clear HF44 HR44 Hr44 HS44
      have hsz44 : (World.heap (World.setCell v44 ⟨w.heap.size + 1, 117 + kr, none⟩ (.float .f64 z44))).size = v44.heap.size := by simp
      go_wp2_with fail
      generalize (World.setCell v44 ⟨w.heap.size + 1, 117 + kr, none⟩ (.float .f64 z44)) = x44 at *
      rw [← hsz44]
      refine (numW_any rb (m + 585 + 120) x44.heap.size 8 _ (by omega) (by omega) (Hrs44.out.alloc _) (by omega) ?_ (by have := Hrs44.out.lt; omega)).mono ?_
      · have := numsW_of x44 [0, 499, 500, 999, 1000, 4294967295, 4294967000, 77] 3
        simpa using this
      rintro e v45 ⟨c45, rfl, hr45, st45⟩
      have HF45 : Hid (MemF v45 (w.heap.size + 1)) := HFs44.out.step ((Step.alloc rb x44 _).trans st45) hne1
      have HR45 : Hid (RowF v45 w.heap.size) := HRs44.out.step ((Step.alloc rb x44 _).trans st45) hne
      have Hr45 : Hid (Rd v45 rb (m + 706)) := hr45
      have HS45 : Hid (Step rb w v45) := HSs44.out.trans ((Step.alloc rb x44 _).trans st45)
      clear hr45 st45 HFs44 HRs44 Hrs44 HSs44
      obtain ⟨q45, h45l, h45e⟩ := u32_nat c45
      obtain ⟨us450, cus450, fus450⟩ := HF45.out.some (133) (by omega)
      have HFs45 : Hid (MemF (World.setCell v45 ⟨w.heap.size + 1, 133, none⟩ (.int .u32 (q45 : Int))) (w.heap.size + 1)) := (MemF.set HF45.out (133) (.int .u32 (q45 : Int)) (⟨q45, h45l, rfl⟩))
      have HRs45 : Hid (RowF (World.setCell v45 ⟨w.heap.size + 1, 133, none⟩ (.int .u32 (q45 : Int))) w.heap.size) := (RowF.other (c := w.heap.size + 1) (k := 133) HR45.out (.int .u32 (q45 : Int)) (by omega))
      have Hrs45 : Hid (Rd (World.setCell v45 ⟨w.heap.size + 1, 133, none⟩ (.int .u32 (q45 : Int))) rb _) := (Rd.set Hr45.out (w.heap.size + 1) (133) (.int .u32 (q45 : Int)) hgt)
      have HSs45 : Hid (Step rb w (World.setCell v45 ⟨w.heap.size + 1, 133, none⟩ (.int .u32 (q45 : Int)))) := (Step.setNew HS45.out (w.heap.size + 1) (133) (.int .u32 (q45 : Int)) (by omega))
      clear HF45 HR45 Hr45 HS45
      go_wp2_with fail
      generalize (World.setCell v45 ⟨w.heap.size + 1, 133, none⟩ (.int .u32 (q45 : Int))) = x45 at *
      refine (pick_any rb (m + 706) 3 _ (by omega) Hrs45.out (by omega)).mono ?_
      rintro e v46 ⟨b46, rfl, -, -, -, hr46, st46⟩
      have HF46 : Hid (MemF v46 (w.heap.size + 1)) := HFs45.out.step st46 hne1
      have HR46 : Hid (RowF v46 w.heap.size) := HRs45.out.step st46 hne
      have Hr46 : Hid (Rd v46 rb (m + 707)) := hr46
      have HS46 : Hid (Step rb w v46) := HSs45.out.trans st46
      clear hr46 st46 HFs45 HRs45 Hrs45 HSs45
      obtain ⟨us460, cus460, fus460⟩ := HF46.out.some (134) (by omega)
      have HFs46 : Hid (MemF (World.setCell v46 ⟨w.heap.size + 1, 134, none⟩ (.bool (decide (0 < b46)))) (w.heap.size + 1)) := (MemF.set HF46.out (134) (.bool (decide (0 < b46))) (⟨_, rfl⟩))
      have HRs46 : Hid (RowF (World.setCell v46 ⟨w.heap.size + 1, 134, none⟩ (.bool (decide (0 < b46)))) w.heap.size) := (RowF.other (c := w.heap.size + 1) (k := 134) HR46.out (.bool (decide (0 < b46))) (by omega))
      have Hrs46 : Hid (Rd (World.setCell v46 ⟨w.heap.size + 1, 134, none⟩ (.bool (decide (0 < b46)))) rb _) := (Rd.set Hr46.out (w.heap.size + 1) (134) (.bool (decide (0 < b46))) hgt)
      have HSs46 : Hid (Step rb w (World.setCell v46 ⟨w.heap.size + 1, 134, none⟩ (.bool (decide (0 < b46))))) := (Step.setNew HS46.out (w.heap.size + 1) (134) (.bool (decide (0 < b46))) (by omega))
      clear HF46 HR46 Hr46 HS46
      go_wp2_with fail
      generalize (World.setCell v46 ⟨w.heap.size + 1, 134, none⟩ (.bool (decide (0 < b46)))) = x46 at *
      refine (pick_any rb (m + 707) 4 _ (by omega) Hrs46.out (by omega)).mono ?_
      rintro e v47 ⟨b47, rfl, -, -, -, hr47, st47⟩
      have HF47 : Hid (MemF v47 (w.heap.size + 1)) := HFs46.out.step st47 hne1
      have HR47 : Hid (RowF v47 w.heap.size) := HRs46.out.step st47 hne
      have Hr47 : Hid (Rd v47 rb (m + 708)) := hr47
      have HS47 : Hid (Step rb w v47) := HSs46.out.trans st47
      clear hr47 st47 HFs46 HRs46 Hrs46 HSs46
      obtain ⟨us470, cus470, fus470⟩ := HF47.out.some (135) (by omega)
      have HFs47 : Hid (MemF (World.setCell v47 ⟨w.heap.size + 1, 135, none⟩ (.bool (b47 == 0))) (w.heap.size + 1)) := (MemF.set HF47.out (135) (.bool (b47 == 0)) (⟨_, rfl⟩))
      have HRs47 : Hid (RowF (World.setCell v47 ⟨w.heap.size + 1, 135, none⟩ (.bool (b47 == 0))) w.heap.size) := (RowF.other (c := w.heap.size + 1) (k := 135) HR47.out (.bool (b47 == 0)) (by omega))
      have Hrs47 : Hid (Rd (World.setCell v47 ⟨w.heap.size + 1, 135, none⟩ (.bool (b47 == 0))) rb _) := (Rd.set Hr47.out (w.heap.size + 1) (135) (.bool (b47 == 0)) hgt)
      have HSs47 : Hid (Step rb w (World.setCell v47 ⟨w.heap.size + 1, 135, none⟩ (.bool (b47 == 0)))) := (Step.setNew HS47.out (w.heap.size + 1) (135) (.bool (b47 == 0)) (by omega))
      clear HF47 HR47 Hr47 HS47
      go_upto_region 24 with fail
      generalize (World.setCell v47 ⟨w.heap.size + 1, 135, none⟩ (.bool (b47 == 0))) = x47 at *
      obtain ⟨mm, hmm, hat⟩ := HFs47.out.mem
      obtain ⟨g, hg⟩ := HRs47.out
      have HA : Hid (MemAt x47 (w.heap.size + 1) mm) := hat
      have HG : Hid (RowAt x47 w.heap.size 37 136 g) := hg
      clear hat hg
      go_wp2_with (first
        | refine wpList_rowLoad rfl 37 (.tmp 3) rfl _ 0 136 mm.cell rfl HA.out (by omega) (fun i _ => by rw [Nat.zero_add]) Tryz.underlying37 rfl (by kernel_rfl) ?_
        | (refine wpList_rowStore rfl 37 (.tmp 2) (.tmp 100) rfl _ 0 136 mm.cell mm.cell rfl rfl HG.out (by omega) (fun i _ => cell_one mm i) (fun i hi => by rw [if_pos ⟨by omega, by omega⟩, Nat.sub_zero]) (by kernel_rfl) ?_; intro w2 HZ2 hz2 hk2 hb2))
      exact bodyPost_ret (v := .agg mm.cells) (resRow Tryz.results12 rfl HZ2 Tryz.underlying37 rfl (by kernel_rfl)) rfl ⟨mm, rfl, hmm, (Hrs47.out.setRow hk2 hz2 hlt).mono (by omega), HSs47.out.setRow hk2 hz2 (Nat.le_refl _) (same_of hb2)⟩
end
end Go.Proofs.YtjacgamgjjpllaaGreatDoor
