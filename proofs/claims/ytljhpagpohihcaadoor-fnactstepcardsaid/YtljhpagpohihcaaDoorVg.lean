/- The coil 'step' done: through two interfaces, and ActDo. Helper text: no statement is claimed here. -/
import Derived.Test.YtljhpagpohihcaaDoorVc
import Derived.Test.YtljhpagpohihcaaDoorVi
import Derived.Recover
namespace Go.Proofs.YtljhpagpohihcaaDoor
open Go.ChangeShapes Go.WideShapes Go.ChangeAt Go.RowKit

set_option maxHeartbeats 1000000 in
set_option maxRecDepth 100000 in
theorem drivenDoes_any (x : Nat → Int) (h0 : x 0 = 4) (m : Mm) (hm : m.Ok) (dt : Int) (w : World) (hT : DevTab w) :
    Calls Tryd.prog 124 #[.agg #[.iface 146 (lit9 x)], m.val, .bool true, .int .u16 dt] w fun e w' => e = .returned (m.step (x 1)).val ∧ Below w.heap.size w w' := by
  have HT : Hid (DevTab w) := hT
  have hz : ∀ w, (zeroValue 37).run Tryd.prog w = .ok (.agg zeroM.cells) w := fun _ => by kernel_rfl
  have HS : Hid (∀ W, DevTab W → Calls Tryd.prog 126 #[lit9 x, m.val, .bool true, .int .u16 dt] W fun e w' => e = .returned (m.step (x 1)).val ∧ Below W.heap.size W w') := fun W hW => lit9_eq x ▸ stepDoes_any (fun i => .int .i64 (x i)) (x 1) (x 2) (by rw [h0]) rfl rfl m hm dt W hW
  generalize m.step (x 1) = m' at *
  clear hT hm h0
  have hu : m.val = .agg m.cells := rfl
  rw [hu]
  clear hu
  go_enter Tryd.func124, Tryd.ntmps124
  go_upto_region 1 with fail
  have HB : Hid (Below w.heap.size w (((w.alloc (.cells #[.iface 146 (lit9 x)] 132)).alloc (.cells m.cells 37)).alloc (.cells zeroM.cells 37))) := (((Below.refl _ _).alloc (Nat.le_refl _) _).alloc (by simp) _).alloc (by simp; omega) _
  have HI : Hid (MemAt (((w.alloc (.cells #[.iface 146 (lit9 x)] 132)).alloc (.cells m.cells 37)).alloc (.cells zeroM.cells 37)) (w.heap.size + 1) m) := by
    have := (RowAt.new (w.alloc (.cells #[.iface 146 (lit9 x)] 132)) 37 136 m.cell).alloc (.cells zeroM.cells 37)
    rw [show (w.alloc (.cells #[.iface 146 (lit9 x)] 132)).heap.size = w.heap.size + 1 by simp] at this
    exact this
  have HR : Hid (MemAt (((w.alloc (.cells #[.iface 146 (lit9 x)] 132)).alloc (.cells m.cells 37)).alloc (.cells zeroM.cells 37)) (w.heap.size + 1 + 1) zeroM) := by
    have := RowAt.new ((w.alloc (.cells #[.iface 146 (lit9 x)] 132)).alloc (.cells m.cells 37)) 37 136 zeroM.cell
    rw [show ((w.alloc (.cells #[.iface 146 (lit9 x)] 132)).alloc (.cells m.cells 37)).heap.size = w.heap.size + 1 + 1 by simp] at this
    exact this
  have c0 : ((((w.alloc (.cells #[.iface 146 (lit9 x)] 132)).alloc (.cells m.cells 37)).alloc (.cells zeroM.cells 37))).cell? ⟨w.heap.size, 0, none⟩ = some (.iface 146 (lit9 x)) := by simp [go_sem]
  generalize (((w.alloc (.cells #[.iface 146 (lit9 x)] 132)).alloc (.cells m.cells 37)).alloc (.cells zeroM.cells 37)) = V at *
  clear hz
  go_wp2_with (refine wpList_rowLoad rfl 37 (.tmp 5) rfl _ 0 136 m.cell rfl HI.out (by omega) (fun i _ => by rw [Nat.zero_add]) Tryd.underlying37 rfl (by kernel_rfl) ?_)
  refine upon_invoke (f := 126) (r := lit9 x) (g := fun z => #[z, .agg (cellsOf 136 m.cell), .bool true, .int .u16 dt]) (by kernel_rfl) Tryd.call126 (HS.out _ (HT.out.to HB.out)) ?_
  intro w1 hb1
  have HB1 : Hid (Below w.heap.size w w1) := HB.out.trans (hb1.mono HB.out.size)
  have HR1 : Hid (MemAt w1 (w.heap.size + 1 + 1) zeroM) := HR.out.to hb1
  clear hb1 HB HI HR c0 HS
  go_wp2_with (refine wpList_rowStore rfl 37 (.tmp 8) (.tmp 17) rfl _ 0 136 m'.cell m'.cell rfl rfl HR1.out (by omega) (fun i _ => cell_one m' i) (fun i hi => by rw [if_pos ⟨by omega, by omega⟩, Nat.sub_zero]) (by kernel_rfl) ?_; intro w2 HZ2 hz2 hk2 hb2)
  exact bodyPost_ret (v := .agg m'.cells) (resRow Tryd.results124 rfl HZ2 Tryd.underlying37 rfl (by kernel_rfl)) rfl ⟨rfl, hb2 _ _ HB1.out (by omega)⟩

theorem rescue_idle (p q : Addr) (w : World) :
    CallsD Tryd.prog 51 #[.pointer (some p), .pointer (some q)] .returning w fun e u' w' => e = .returned (.tuple #[]) ∧ u' = .returning ∧ w' = w := by
  refine callsD_of_wpS Tryd.func51 rfl fun c₀ cs hu => ?_
  apply wpS_seq
  apply wpS_region
  simp [wpOpsS, go_sem, recoverD, hu, Tryd.ntmps51, Exit.thenS]
  refine wpS_cond (t := false) (by simp [Act.eval, Array.replicate]) ?_
  simp only [Bool.false_eq_true, if_false]
  refine wpS_of_wp (wp_skip ?_)
  cases c₀
  simp_all [bodyPostS, results, Tryd.results51]

set_option maxHeartbeats 1000000 in
set_option maxRecDepth 100000 in
theorem actDo_25 (p : Option Addr) (n cap : Nat) (c : Nat → Int) (hc : anum n c 0 = 4) (m : Mm) (hm : m.Ok) (dt : Int) (w : World) (h : ListAt w p n c) (hT : DevTab w) :
    Calls Tryd.prog 26 #[m.val, .agg #[.int .i64 25, .slice p n cap], .bool true, .int .u16 dt] w fun e w' => e = .returned (m.step (anum n c 1)).val ∧ Below w.heap.size w w' := by
  have HT : Hid (DevTab w) := hT
  have HL : Hid (ListAt w p n c) := h
  have hz : ∀ w, (zeroValue 37).run Tryd.prog w = .ok (.agg zeroM.cells) w := fun _ => by kernel_rfl
  have hmf : ∀ (fn : Fn) (first cap : Array Value) (w : World), (Instr.makeFunc fn first cap).run Tryd.prog w = .ok (.func fn first cap) w := fun _ _ _ _ => rfl
  obtain ⟨x, hx⟩ : ∃ x, x = anum n c := ⟨_, rfl⟩
  have HP : Hid (∀ W, ListAt W p n c → Calls Tryd.prog 52 #[.agg #[.int .i64 25, .slice p n cap]] W fun e w' => e = .returned (stepV x) ∧ Below W.heap.size W w') := fun W hW => hx ▸ partOf_25 p n cap c W hW
  rw [← hx] at hc ⊢
  clear hx
  have HS : Hid (∀ W, DevTab W → Calls Tryd.prog 124 #[.agg #[.iface 146 (lit9 x)], m.val, .bool true, .int .u16 dt] W fun e w' => e = .returned (m.step (x 1)).val ∧ Below W.heap.size W w') := fun W hW => drivenDoes_any x hc m hm dt W hW
  generalize m.step (x 1) = m' at *
  clear hT hm hc h
  have hu : m.val = .agg m.cells := rfl
  rw [hu]
  clear hu
  go_enter_defers Tryd.func26, Tryd.ntmps26
  go_upto_region 1 with fail
  have HB : Hid (Below w.heap.size w (((w.alloc (.cells m.cells 37)).alloc (.cells #[.int .i64 25, .slice p n cap] 64)).alloc (.cells zeroM.cells 37))) := (((Below.refl _ _).alloc (Nat.le_refl _) _).alloc (by simp) _).alloc (by simp; omega) _
  have HI : Hid (MemAt (((w.alloc (.cells m.cells 37)).alloc (.cells #[.int .i64 25, .slice p n cap] 64)).alloc (.cells zeroM.cells 37)) w.heap.size m) := ((RowAt.new w 37 136 m.cell).alloc _).alloc _
  have HR : Hid (MemAt (((w.alloc (.cells m.cells 37)).alloc (.cells #[.int .i64 25, .slice p n cap] 64)).alloc (.cells zeroM.cells 37)) (w.heap.size + 1 + 1) zeroM) := by
    have := RowAt.new ((w.alloc (.cells m.cells 37)).alloc (.cells #[.int .i64 25, .slice p n cap] 64)) 37 136 zeroM.cell
    rw [show ((w.alloc (.cells m.cells 37)).alloc (.cells #[.int .i64 25, .slice p n cap] 64)).heap.size = w.heap.size + 1 + 1 by simp] at this
    exact this
  have c0 : ((((w.alloc (.cells m.cells 37)).alloc (.cells #[.int .i64 25, .slice p n cap] 64)).alloc (.cells zeroM.cells 37))).cell? ⟨w.heap.size + 1, 0, none⟩ = some (.int .i64 25) := by simp [go_sem]
  have c1 : ((((w.alloc (.cells m.cells 37)).alloc (.cells #[.int .i64 25, .slice p n cap] 64)).alloc (.cells zeroM.cells 37))).cell? ⟨w.heap.size + 1, 1, none⟩ = some (.slice p n cap) := by simp [go_sem]
  have HLV : Hid (ListAt (((w.alloc (.cells m.cells 37)).alloc (.cells #[.int .i64 25, .slice p n cap] 64)).alloc (.cells zeroM.cells 37)) p n c) := HL.out.to HB.out
  have hs3 : (World.heap (((w.alloc (.cells m.cells 37)).alloc (.cells #[.int .i64 25, .slice p n cap] 64)).alloc (.cells zeroM.cells 37))).size = w.heap.size + 1 + 1 + 1 := by simp
  generalize (((w.alloc (.cells m.cells 37)).alloc (.cells #[.int .i64 25, .slice p n cap] 64)).alloc (.cells zeroM.cells 37)) = V at *
  clear hz HL
  go_wp2_with fail
  refine do_region (m := m) (m' := m') (op := 25) (p := p) (n := n) (cap := cap) Tryd.call52 Tryd.call124 (fun _ => by kernel_rfl) HI.out (fun j v hv => ?_) (by omega) HR.out (by omega) (by omega) (fun W hW => HP.out W (HLV.out.to hW)) (fun W hW => HS.out W (HT.out.to (HB.out.trans (hW.mono HB.out.size)))) ?_
  · rw [Nat.zero_add]
    match j, hv with
    | 0, hv => simp at hv; rw [c0, hv]
    | 1, hv => simp at hv; rw [c1, hv]
  intro w3 HM3 h4 hb3
  have HM3' : Hid (MemAt w3 (w.heap.size + 1 + 1) m') := HM3
  have HB3 : Hid (Below w.heap.size w w3) := hb3 _ _ HB.out (by omega) (by omega)
  clear HM3 h4 hb3 HB HI HR c0 c1 HP HS HLV
  go_wp2_with fail
  refine leaves_cons (f := 51) (args := #[.pointer (some ⟨w.heap.size, 0, none⟩), .pointer (some ⟨w.heap.size + 1 + 1, 0, none⟩)]) (by simp) (by simp [go_sem]) ?_
  refine (rescue_idle _ _ _).mono ?_
  rintro e u' w'' ⟨rfl, rfl, rfl⟩
  exact ⟨m'.val, resRow Tryd.results26 rfl HM3'.out Tryd.underlying37 rfl (by kernel_rfl), rfl, HB3.out⟩
end Go.Proofs.YtljhpagpohihcaaDoor
