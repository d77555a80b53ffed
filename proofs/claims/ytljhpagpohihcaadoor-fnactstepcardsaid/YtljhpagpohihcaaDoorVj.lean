/- The bits behind a step, and the drawing of a memory. Helper text: no statement is claimed here. -/
import Derived.Test.YtljhpagpohihcaaDoorVg
import Derived.Test.YtljhpagpohihcaaDoorZd
namespace Go.Proofs.YtljhpagpohihcaaDoor
open Go.ChangeShapes Go.WideShapes Go.ChangeAt Go.RowKit

theorem plc4 {n : Int} (h0 : 0 ≤ n) (h1 : n < 16) : plc 4 n = n := by
  unfold plc
  rw [show sz4 4 = 16 from rfl, if_neg (by omega)]
  omega
theorem offs_bit (m : Mm) (f : Int) (i : Int) (h0 : 0 ≤ i) (h1 : i < 16) (hf : 0 ≤ f) : ∀ j : Nat, f + j ≤ 16 → (m.offs f j).bit 4 i = if f ≤ i ∧ i < f + j then false else m.bit 4 i
  | 0, _ => by rw [if_neg (by omega)]; rfl
  | j + 1, h => by
    show ((m.offs f j).putB 4 (f + j) false).bit 4 i = _
    by_cases e : i = f + j
    · rw [e, putB_bit _ 4 _ _ (by omega) (by omega), if_pos (by omega)]
    · rw [putB_far _ 4 _ _ 4 i (fun _ => by rw [plc4 (by omega) (by omega), plc4 h0 h1]; omega), offs_bit m f i h0 h1 hf j (by omega)]
      by_cases c : f ≤ i ∧ i < f + j
      · rw [if_pos c, if_pos (by omega)]
      · rw [if_neg c, if_neg (by omega)]
theorem step_bit (m : Mm) (k i : Int) (k0 : 0 ≤ k) (k1 : k < 16) (h0 : 0 ≤ i) (h1 : i < 16) : (m.step k).bit 4 i = if i / 8 = k / 8 then decide (i = k) else m.bit 4 i := by
  unfold Mm.step
  rw [plc4 k0 k1]
  by_cases e : i = k
  · rw [e, putB_bit _ 4 _ _ (by omega) (by omega), if_pos rfl, decide_eq_true rfl]
  · rw [putB_far _ 4 _ _ 4 i (fun _ => by rw [plc4 k0 k1, plc4 h0 h1]; omega), offs_bit m _ i h0 h1 (by omega) 8 (by omega), decide_eq_false e]
    by_cases c : i / 8 = k / 8
    · rw [if_pos (by omega), if_pos c]
    · rw [if_neg (by omega), if_neg c]
theorem step_ok {m : Mm} (h : m.Ok) (k : Int) : (m.step k).Ok := putB_ok (offs_ok h _ 8)

/-- What the drawing of a memory ends in. -/
def DrawnMem (w : World) (e : Ending) (w' : World) : Prop := ∃ mm : Mm, e = .returned mm.val ∧ mm.Ok ∧ Below w.heap.size w w'
set_option maxHeartbeats 1000000 in
set_option maxRecDepth 100000 in
theorem drawEnd_any (a : Option Addr) (len cap : Nat) (w : World) (h : IsRow w a len) (hlc : len ≤ cap) :
    Calls Tryd.prog 25 #[.slice a len cap] w (DrawnMem w) := by
  have hz : ∀ w, (zeroValue 37).run Tryd.prog w = .ok (.agg zeroM.cells) w := fun _ => by kernel_rfl
  have HH : Hid (IsRow w a len) := h
  clear h
  go_enter Tryd.func25, Tryd.ntmps25
  go_upto_region 1 with fail
  have HB : Hid (Below w.heap.size w (w.alloc (.cells zeroM.cells 37))) := (Below.refl _ _).alloc (Nat.le_refl _) _
  have HI : Hid (IsRow (w.alloc (.cells zeroM.cells 37)) a len) := HH.out.alloc _
  have HR : Hid (MemAt (w.alloc (.cells zeroM.cells 37)) w.heap.size zeroM) := RowAt.new w 37 136 zeroM.cell
  have hs : (World.heap (w.alloc (.cells zeroM.cells 37))).size = w.heap.size + 1 := by simp
  generalize (w.alloc (.cells zeroM.cells 37)) = V at *
  clear hz HH
  have HOp : Hid (∃ rb, w.heap.size < rb ∧ V.heap.size ≤ rb ∧ Calls Tryd.prog 32 #[.slice a len cap] V fun e w' => e = .returned (.pointer (some ⟨rb, 0, none⟩)) ∧ Rd w' rb 0 ∧ Below V.heap.size V w') := ⟨_, by omega, Nat.le_refl _, open_any a len cap V HI.out hlc⟩
  obtain ⟨rb, hrb, hrv, hcall⟩ := HOp.out
  have HCall : Hid _ := hcall
  clear HOp hcall
  go_wp2_with fail
  refine Calls.mono HCall.out ?_
  rintro e w1 ⟨rfl, hr1, hb1⟩
  have HB1 : Hid (Below w.heap.size w w1) := HB.out.trans (hb1.mono HB.out.size)
  have HR1 : Hid (MemAt w1 w.heap.size zeroM) := HR.out.to hb1
  have Hr1 : Hid (Rd w1 rb 0) := hr1
  clear hb1 hr1 HB HI HR HCall
  go_wp2_with fail
  have hD : Calls Tryd.prog 36 #[.pointer (some ⟨rb, 0, none⟩)] w1 (DrawnM rb 720 w1) := draw_any rb 0 w1 Hr1.out (by omega)
  refine Calls.mono hD ?_
  clear hD
  rintro e w2 ⟨mm, rfl, hmm, hr2, st2⟩
  have HB2 : Hid (Below w.heap.size w w2) := HB1.out.trans (st2.below (by omega) HB1.out.size)
  have HR2 : Hid (RowF w2 w.heap.size) := RowF.step ⟨_, HR1.out⟩ st2 (by omega)
  clear hr2 st2 HB1 HR1 Hr1
  obtain ⟨g, HG⟩ := HR2.out
  have HG2 : Hid (RowAt w2 w.heap.size 37 136 g) := HG
  clear HG
  go_wp2_with (refine wpList_rowStore rfl 37 (.tmp 2) (.tmp 5) rfl _ 0 136 mm.cell mm.cell rfl rfl HG2.out (by omega) (fun i _ => cell_one mm i) (fun i hi => by rw [if_pos ⟨by omega, by omega⟩, Nat.sub_zero]) (by kernel_rfl) ?_; intro w3 HZ3 hz3 hk3 hb3)
  exact bodyPost_ret (v := .agg mm.cells) (resRow Tryd.results25 rfl HZ3 Tryd.underlying37 rfl (by kernel_rfl)) rfl ⟨mm, rfl, hmm, hb3 _ _ HB2.out (Nat.le_refl _)⟩
end Go.Proofs.YtljhpagpohihcaaDoor
