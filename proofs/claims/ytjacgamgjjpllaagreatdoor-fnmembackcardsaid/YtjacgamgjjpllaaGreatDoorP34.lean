/- The drawing of one text out of a list. Helper text: no statement is claimed here. -/
import Derived.Test.YtjacgamgjjpllaaGreatDoorP31
import Derived.Test.YtjacgamgjjpllaaGreatDoorP27
import Derived.Test.YtjacgamgjjpllaaGreatDoorP30
import Derived.Test.YtjacgamgjjpllaaGreatDoorZb
namespace Go.Proofs.YtjacgamgjjpllaaGreatDoor
open Go.ChangeShapes Go.WideShapes Go.ChangeAt Go.RowKit

/-- A list of n texts lies in block lb, each of at most 100 bytes. -/
def Strs (w : World) (lb n : Nat) : Prop := ∀ i, i < n → ∃ s : ByteArray, w.cell? ⟨lb, i, none⟩ = some (.string s) ∧ s.size ≤ 100
def shortB : Value → Bool | .string s => decide (s.size ≤ 100) | _ => false
theorem strs_all (w : World) (cs : Array Value) (t : TypeId) (n : Nat) (hn : cs.size = n) (h : cs.toList.all shortB = true) : Strs (w.alloc (.cells cs t)) w.heap.size n := by
  intro i hi
  have hi' : i < cs.size := by omega
  have hs := List.all_eq_true.1 h cs[i] (by simp)
  rw [World.cell?_alloc_new, Array.getElem?_eq_getElem hi']
  generalize cs[i] = v at *
  cases v <;> simp [shortB] at hs
  exact ⟨_, rfl, hs⟩

set_option maxHeartbeats 400000 in
theorem of_any (rb m lb n : Nat) (w : World) (hn : 1 ≤ n) (hn2 : n ≤ 100) (hr : Rd w rb m) (hm : m ≤ 1000000) (hl : Strs w lb n) (hlr : lb ≠ rb) :
    Calls Tryz.prog 23 #[.pointer (some ⟨rb, 0, none⟩), .slice (some ⟨lb, 0, none⟩) n n] w fun e w' => ∃ s : ByteArray, e = .returned (.string s) ∧ s.size ≤ 100 ∧ Rd w' rb (m + 1) ∧ Step rb w w' := by
  go_enter Tryz.func23, Tryz.ntmps23
  go_wp2_with fail
  refine (pick_any rb m n _ (by omega) hr hm).mono ?_
  rintro e w' ⟨v, rfl, v0, v1, -, hr', st⟩
  obtain ⟨k, rfl⟩ := Int.eq_ofNat_of_zero_le v0
  have hk : (k : Int) < n := v1 (by omega)
  obtain ⟨z, hz, z0⟩ := hl k (by omega)
  have hz' : w'.cell? ⟨lb, k, none⟩ = some (.string z) := by
    rw [st.cell lb k (World.block_lt_of_cell? w ⟨lb, k, none⟩ hz) hlr]; exact hz
  clear v1 hl
  go_wp2
  go_ret
  exact ⟨z, rfl, z0, hr', st⟩

end Go.Proofs.YtjacgamgjjpllaaGreatDoor

/- The drawing of a memory and of a memory's text: DrawMemText, DrawMemRead. Helper text: no statement is claimed here. -/
namespace Go.Proofs.YtjacgamgjjpllaaGreatDoor
open Go.ChangeShapes Go.WideShapes Go.ChangeAt Go.RowKit Fl

set_option maxHeartbeats 1000000 in
set_option maxRecDepth 20000 in
theorem drawMT_any (a : Option Addr) (len cap : Nat) (w : World) (h : IsRow w a len) (hlc : len ≤ cap) :
    Calls Tryz.prog 5 #[.slice a len cap] w fun e w' => ∃ m : Mm, e = .returned m.val ∧ m.Ok ∧ Below w.heap.size w w' := by
  have hz : ∀ w, (zeroValue 37).run Tryz.prog w = .ok (.agg zeroM.cells) w := fun _ => by kernel_rfl
  have HH0 : Hid (IsRow w a len) := h
  clear h
  go_enter Tryz.func5, Tryz.ntmps5
  go_upto_region 1 with fail
  have hb0 : Below w.heap.size w (w.alloc (.cells zeroM.cells 37)) := (Below.refl _ _).alloc (Nat.le_refl _) _
  have hR0 : MemAt (w.alloc (.cells zeroM.cells 37)) w.heap.size zeroM := RowAt.new w 37 136 zeroM.cell
  generalize w.alloc (.cells zeroM.cells 37) = V at *
  have HH : Hid (IsRow V a len) := by
    rcases HH0.out with h | ⟨b, off, f, rfl, hc⟩
    · exact .inl h
    · refine .inr ⟨b, off, f, rfl, fun i hi => ?_⟩
      have := hc i hi
      rw [hb0.cell (p := ⟨b, off + i, none⟩) (World.block_lt_of_cell? w ⟨b, off + i, none⟩ this.1)]
      exact this
  have hlt : w.heap.size < V.heap.size := hR0.lt
  clear HH0 hz
  go_wp2_with fail
  refine (open_any a len cap _ HH.out hlc).mono ?_
  rintro e w1 ⟨rfl, hr1, hb1⟩
  go_wp2_with fail
  refine (draw_any _ 0 _ hr1 (by omega)).mono ?_
  rintro e w2 ⟨m, rfl, hm, hr2, st2⟩
  have hR1 : MemAt w1 w.heap.size zeroM := hR0.to hb1
  have hR2 : MemAt w2 w.heap.size zeroM := hR1.by (st2.block _ hR1.lt (by omega))
  have hB1 : Below w.heap.size w w1 := hb0.trans (hb1.mono hb0.size)
  have HB2 : Hid (Below w.heap.size w w2) := hB1.trans (st2.below (by omega) hB1.size)
  have HR2 : Hid (MemAt w2 w.heap.size zeroM) := hR2
  clear hR0 hR1 hR2 hB1 hb0 hb1 hr1 hr2 st2 HH hlt
  go_wp2_with (refine wpList_rowStore rfl 37 (.tmp 2) (.tmp 5) rfl _ 0 136 m.cell m.cell rfl rfl HR2.out (by omega) (fun i _ => cell_one m i) (fun i hi => by rw [if_pos ⟨by omega, by omega⟩, Nat.sub_zero]) (by kernel_rfl) ?_; intro w9 HZ2 hz2 hk2 hb2)
  exact bodyPost_ret (v := .agg m.cells) (resRow Tryz.results5 rfl HZ2 Tryz.underlying37 rfl (by kernel_rfl)) rfl ⟨m, rfl, hm, hb2 _ _ HB2.out (Nat.le_refl _)⟩
theorem slice_toX (s : ByteArray) (k : Nat) (h : k ≤ s.size) (w : World) : (Instr.sliceAt 9 (.string s) none (some (.int .i64 (k : Int))) none).run Tryz.prog w = .ok (.string (s.extract 0 k)) w := by
  have := slice_to s k h w
  simpa [Instr.sliceAt] using this
theorem slice_fromX (s : ByteArray) (k : Nat) (h : k ≤ s.size) (w : World) : (Instr.sliceAt 9 (.string s) (some (.int .i64 (k : Int))) none none).run Tryz.prog w = .ok (.string (s.extract k s.size)) w := by
  have := slice_from s k h w
  simpa [Instr.sliceAt] using this
theorem build4 (w : World) : (Instr.buildSlice 49 4 #[(0, .string ⟨#[]⟩), (1, .string ⟨#[32]⟩), (2, .string ⟨#[88]⟩), (3, .string ⟨#[49]⟩)]).run Tryz.prog w = .ok (.slice (some ⟨w.heap.size, 0, none⟩) 4 4) (w.alloc (.cells #[.string ⟨#[]⟩, .string ⟨#[32]⟩, .string ⟨#[88]⟩, .string ⟨#[49]⟩] 9)) := by kernel_rfl
theorem wp_build4 {o : Oper} {a : Act} {w : World} {K : Act → World → Prop} {Q : Exit → Act → World → Prop} (ho : o.op = .buildSlice 49 4 #[(0, .const (.string { data := #[] })), (1, .const (.string { data := #[32] })), (2, .const (.string { data := #[88] })), (3, .const (.string { data := #[49] }))])
    (hk : K (a.put o.dst (.slice (some ⟨w.heap.size, 0, none⟩) 4 4)) (w.alloc (.cells #[.string ⟨#[]⟩, .string ⟨#[32]⟩, .string ⟨#[88]⟩, .string ⟨#[49]⟩] 9))) : o.wp Tryz.prog a w K Q := by
  unfold Oper.wp execOp
  rw [ho]
  have hm : (#[(0, Operand.const (.string { data := #[] })), (1, .const (.string { data := #[32] })), (2, .const (.string { data := #[88] })), (3, .const (.string { data := #[49] }))] : Array (Nat × Operand)).map (fun (i, x) => (i, a.eval x)) = #[(0, .string ⟨#[]⟩), (1, .string ⟨#[32]⟩), (2, .string ⟨#[88]⟩), (3, .string ⟨#[49]⟩)] := by simp [Act.eval]
  simp only [Sem.run_bind]
  rw [hm, build4]
  simp only [Result.andThen_ok]
  exact hk
theorem add_len (a b : ByteArray) : (a ++ b).size = a.size + b.size := by simp
set_option maxHeartbeats 1000000 in
set_option maxRecDepth 100000 in
theorem ins_region {id : Nat} {pos : String} {Q : Exit → Act → World → Prop} {V : World} {t0 t1 t2 t6 t7 t8 t9 t10 t11 t12 t13 t14 t15 t16 t17 t18 t19 t20 t21 t22 t23 t24 t25 t26 t27 t28 t29 t30 t31 t32 t33 t34 t35 t36 t37 t38 t39 t40 t41 t42 t43 : Value} {rb m k : Nat} {s : ByteArray} {D : List _} (hs : s.size ≤ 6000) (hk : k ≤ s.size) (hr : Rd V rb m) (hm : m ≤ 900000)
    (hQ : ∀ (u32 u33 u34 u35 u36 u37 u38 u39 u40 u41 u42 : Value) (y : ByteArray) (w' : World), y.size ≤ 6100 → Step rb V w' → Q .normal { tmps := #[t0, t1, .string y, .pointer (some ⟨rb, 0, none⟩), .string s, .int .i64 (k : Int), t6, t7, t8, t9, t10, t11, t12, t13, t14, t15, t16, t17, t18, t19, t20, t21, t22, t23, t24, t25, t26, t27, t28, t29, t30, t31, u32, u33, u34, u35, u36, u37, u38, u39, u40, u41, u42, t43], defers := D } w') :
    (Code.region id #[{ dst := some 32, op := .move (.tmp 4), type := 9, pos := pos, after := #[], guard := none }, { dst := some 33, op := .move (.tmp 5), type := 3, pos := pos, after := #[], guard := none }, { dst := some 34, op := .slice 9 (.tmp 32) none (some (.tmp 33)) none, type := 9, pos := pos, after := #[{ on := 0, ground := .data }, { on := 1, ground := .data }], guard := none }, { dst := some 35, op := .move (.tmp 3), type := 47, pos := pos, after := #[], guard := none }, { dst := some 36, op := .buildSlice 49 4 #[(0, .const (.string { data := #[] })), (1, .const (.string { data := #[32] })), (2, .const (.string { data := #[88] })), (3, .const (.string { data := #[49] }))], type := 49, pos := pos, after := #[], guard := none }, { dst := some 37, op := .call { callee := .value (.func 23), args := #[.tmp 35, .tmp 36], argTypes := #[47, 49] }, type := 9, pos := pos, after := #[{ on := 3, ground := .data }, { on := 4, ground := .data }], guard := none }, { dst := some 38, op := .binOp .add 9 (.tmp 34) (.tmp 37) 9, type := 9, pos := pos, after := #[{ on := 2, ground := .data }, { on := 5, ground := .data }], guard := none }, { dst := some 39, op := .move (.tmp 4), type := 9, pos := pos, after := #[], guard := none }, { dst := some 40, op := .move (.tmp 5), type := 3, pos := pos, after := #[], guard := none }, { dst := some 41, op := .slice 9 (.tmp 39) (some (.tmp 40)) none none, type := 9, pos := pos, after := #[{ on := 7, ground := .data }, { on := 8, ground := .data }], guard := none }, { dst := some 42, op := .binOp .add 9 (.tmp 38) (.tmp 41) 9, type := 9, pos := pos, after := #[{ on := 6, ground := .data }, { on := 9, ground := .data }], guard := none }, { dst := some 2, op := .assign (.tmp 42), type := 9, pos := pos, after := #[{ on := 10, ground := .data }, { on := 5, ground := .chain }, { on := 0, ground := .phase }, { on := 1, ground := .phase }, { on := 2, ground := .phase }, { on := 3, ground := .phase }, { on := 4, ground := .phase }, { on := 5, ground := .phase }, { on := 6, ground := .phase }, { on := 7, ground := .phase }, { on := 8, ground := .phase }, { on := 9, ground := .phase }, { on := 10, ground := .phase }], guard := none }] true).wp Tryz.prog Q { tmps := #[t0, t1, t2, .pointer (some ⟨rb, 0, none⟩), .string s, .int .i64 (k : Int), t6, t7, t8, t9, t10, t11, t12, t13, t14, t15, t16, t17, t18, t19, t20, t21, t22, t23, t24, t25, t26, t27, t28, t29, t30, t31, t32, t33, t34, t35, t36, t37, t38, t39, t40, t41, t42, t43], defers := D } V := by
  have hx1 : (s.extract 0 k).size ≤ 6000 := by simp; omega
  have hx2 : (s.extract 0 k).size + (s.extract k s.size).size ≤ 6000 := by simp; omega
  refine wp_region_noPanic ?_
  refine wp_region_held_drew (S := fun _ => True) (by kernel_rfl) trivial (fun hHeld => ?_)
  refine wpAnyH_take (i := 0) (oi := { dst := some 32, op := .move (.tmp 4), type := 9, pos := pos, after := #[], guard := none }) (v := .string s) rfl (by kernel_rfl) (by kernel_rfl) (by kernel_rfl) (fun _ _ _ h => h) (.inl ⟨by rfl, fun _ _ => rfl⟩) hHeld ?_
  simp only [Act.put, List.setIfInBounds_toArray, List.set_cons_zero, List.set_cons_succ]
  refine wpAnyH_take (i := 1) (oi := { dst := some 33, op := .move (.tmp 5), type := 3, pos := pos, after := #[], guard := none }) (v := .int .i64 (k : Int)) rfl (by kernel_rfl) (by kernel_rfl) (by kernel_rfl) (fun _ _ _ h => h) (.inl ⟨by rfl, fun _ _ => rfl⟩) hHeld ?_
  simp only [Act.put, List.setIfInBounds_toArray, List.set_cons_zero, List.set_cons_succ]
  refine wpAnyH_take (i := 2) (oi := { dst := some 34, op := .slice 9 (.tmp 32) none (some (.tmp 33)) none, type := 9, pos := pos, after := #[{ on := 0, ground := .data }, { on := 1, ground := .data }], guard := none }) (v := .string (s.extract 0 k)) rfl (by kernel_rfl) (by kernel_rfl) (by kernel_rfl) (fun _ _ _ h => h) (.inl ⟨by rfl, fun W _ => by simp [execOp, Act.eval, slice_toX s k hk W]⟩) hHeld ?_
  simp only [Act.put, List.setIfInBounds_toArray, List.set_cons_zero, List.set_cons_succ]
  refine wpAnyH_take (i := 3) (oi := { dst := some 35, op := .move (.tmp 3), type := 47, pos := pos, after := #[], guard := none }) (v := .pointer (some ⟨rb, 0, none⟩)) rfl (by kernel_rfl) (by kernel_rfl) (by kernel_rfl) (fun _ _ _ h => h) (.inl ⟨by rfl, fun _ _ => rfl⟩) hHeld ?_
  simp only [Act.put, List.setIfInBounds_toArray, List.set_cons_zero, List.set_cons_succ]
  refine wpAnyH_take (i := 7) (oi := { dst := some 39, op := .move (.tmp 4), type := 9, pos := pos, after := #[], guard := none }) (v := .string s) rfl (by kernel_rfl) (by kernel_rfl) (by kernel_rfl) (fun _ _ _ h => h) (.inl ⟨by rfl, fun _ _ => rfl⟩) hHeld ?_
  simp only [Act.put, List.setIfInBounds_toArray, List.set_cons_zero, List.set_cons_succ]
  refine wpAnyH_take (i := 8) (oi := { dst := some 40, op := .move (.tmp 5), type := 3, pos := pos, after := #[], guard := none }) (v := .int .i64 (k : Int)) rfl (by kernel_rfl) (by kernel_rfl) (by kernel_rfl) (fun _ _ _ h => h) (.inl ⟨by rfl, fun _ _ => rfl⟩) hHeld ?_
  simp only [Act.put, List.setIfInBounds_toArray, List.set_cons_zero, List.set_cons_succ]
  refine wpAnyH_take (i := 9) (oi := { dst := some 41, op := .slice 9 (.tmp 39) (some (.tmp 40)) none none, type := 9, pos := pos, after := #[{ on := 7, ground := .data }, { on := 8, ground := .data }], guard := none }) (v := .string (s.extract k s.size)) rfl (by kernel_rfl) (by kernel_rfl) (by kernel_rfl) (fun _ _ _ h => h) (.inl ⟨by rfl, fun W _ => by simp [execOp, Act.eval, slice_fromX s k hk W]⟩) hHeld ?_
  simp only [Act.put, List.setIfInBounds_toArray, List.set_cons_zero, List.set_cons_succ]
  refine wpAnyH_ready (rs := [4]) (by kernel_rfl) (by simp) ?_
  refine AllReadyH.cons (o := { dst := some 36, op := .buildSlice 49 4 #[(0, .const (.string { data := #[] })), (1, .const (.string { data := #[32] })), (2, .const (.string { data := #[88] })), (3, .const (.string { data := #[49] }))], type := 49, pos := pos, after := #[], guard := none }) rfl (fun K hK => ?_) AllReadyH.nil
  rw [if_pos (by rfl)]
  refine wp_build4 rfl ?_
  have hr1 : Rd (World.alloc V.drew (.cells #[.string ⟨#[]⟩, .string ⟨#[32]⟩, .string ⟨#[88]⟩, .string ⟨#[49]⟩] 9)) rb m := (hr.to ((Below.refl _ _).drew)).alloc _
  have hst1 : Step rb V (World.alloc V.drew (.cells #[.string ⟨#[]⟩, .string ⟨#[32]⟩, .string ⟨#[88]⟩, .string ⟨#[49]⟩] 9)) := (Step.of (Below.refl V.heap.size V).drew).trans (Step.alloc rb _ _)
  have hne : (World.heap V.drew).size ≠ rb := by
    have h1 := hr.lt
    have h2 := (Below.refl V.heap.size V).drew.size
    omega
  refine hK.out _ _ trivial (fun hHeld => ?_)
  simp only [Act.put, List.setIfInBounds_toArray, List.set_cons_zero, List.set_cons_succ]
  refine wpAnyH_ready (rs := [5]) (by kernel_rfl) (by simp) ?_
  refine AllReadyH.cons (o := { dst := some 37, op := .call { callee := .value (.func 23), args := #[.tmp 35, .tmp 36], argTypes := #[47, 49] }, type := 9, pos := pos, after := #[{ on := 3, ground := .data }, { on := 4, ground := .data }], guard := none }) rfl (fun K hK => ?_) AllReadyH.nil
  rw [if_pos (by rfl)]
  refine wp_callEx (args := #[.pointer (some ⟨rb, 0, none⟩), .slice (some ⟨(World.heap V.drew).size, 0, none⟩) 4 4]) (R := fun v w' => ∃ z : ByteArray, v = .string z ∧ z.size ≤ 100 ∧ Step rb (World.alloc V.drew (.cells #[.string ⟨#[]⟩, .string ⟨#[32]⟩, .string ⟨#[88]⟩, .string ⟨#[49]⟩] 9)) w') Tryz.call23 rfl (by simp [Act.eval]) ((of_any rb m _ 4 _ (by omega) (by omega) hr1 (by omega) (strs_all _ _ _ _ rfl rfl) hne).mono fun e w' ⟨z, he, h1, h2, h3⟩ => ⟨_, he, z, rfl, h1, h3⟩) ?_
  rintro _ w1 ⟨z, rfl, hz, st1⟩
  have st : Step rb V w1 := hst1.trans st1
  refine hK.out _ _ trivial (fun hHeld => ?_)
  simp only [Act.put, List.setIfInBounds_toArray, List.set_cons_zero, List.set_cons_succ]
  have hl1 : (s.extract 0 k ++ z).size ≤ 6100 := by rw [add_len]; omega
  have hl2 : (s.extract 0 k ++ z ++ s.extract k s.size).size ≤ 6100 := by rw [add_len, add_len]; omega
  refine wpAnyH_take (i := 6) (oi := { dst := some 38, op := .binOp .add 9 (.tmp 34) (.tmp 37) 9, type := 9, pos := pos, after := #[{ on := 2, ground := .data }, { on := 5, ground := .data }], guard := none }) (v := .string (s.extract 0 k ++ z)) rfl (by kernel_rfl) (by kernel_rfl) (by kernel_rfl) (fun _ _ _ h => h) (.inl ⟨by rfl, fun _ _ => by simp [execOp, Act.eval, go_sem]; omega⟩) hHeld ?_
  simp only [Act.put, List.setIfInBounds_toArray, List.set_cons_zero, List.set_cons_succ]
  refine wpAnyH_take (i := 10) (oi := { dst := some 42, op := .binOp .add 9 (.tmp 38) (.tmp 41) 9, type := 9, pos := pos, after := #[{ on := 6, ground := .data }, { on := 9, ground := .data }], guard := none }) (v := .string (s.extract 0 k ++ z ++ s.extract k s.size)) rfl (by kernel_rfl) (by kernel_rfl) (by kernel_rfl) (fun _ _ _ h => h) (.inl ⟨by rfl, fun _ _ => by simp [execOp, Act.eval, go_sem]; omega⟩) hHeld ?_
  simp only [Act.put, List.setIfInBounds_toArray, List.set_cons_zero, List.set_cons_succ]
  refine wpAnyH_take (i := 11) (oi := { dst := some 2, op := .assign (.tmp 42), type := 9, pos := pos, after := #[{ on := 10, ground := .data }, { on := 5, ground := .chain }, { on := 0, ground := .phase }, { on := 1, ground := .phase }, { on := 2, ground := .phase }, { on := 3, ground := .phase }, { on := 4, ground := .phase }, { on := 5, ground := .phase }, { on := 6, ground := .phase }, { on := 7, ground := .phase }, { on := 8, ground := .phase }, { on := 9, ground := .phase }, { on := 10, ground := .phase }], guard := none }) (v := .string (s.extract 0 k ++ z ++ s.extract k s.size)) rfl (by kernel_rfl) (by kernel_rfl) (by kernel_rfl) (fun _ _ _ h => h) (.inl ⟨by rfl, fun _ _ => rfl⟩) hHeld ?_
  simp only [Act.put, List.setIfInBounds_toArray, List.set_cons_zero, List.set_cons_succ]
  have hd := fun u32 u33 u34 u35 u36 u37 u38 u39 u40 u41 u42 => hQ u32 u33 u34 u35 u36 u37 u38 u39 u40 u41 u42 _ w1 hl2 st
  refine wpAnyH_done ?_ ?_ _
  · kernel_rfl
  · exact NoPanic.normal (hd _ _ _ _ _ _ _ _ _ _ _)
def DrawnTm (w : World) (e : Ending) (w' : World) : Prop := ∃ t : List UInt8, e = .returned (.string ⟨t.toArray⟩) ∧ t.length ≤ 7000 ∧ Below w.heap.size w w'
theorem as_listM (s : ByteArray) : ∃ t : List UInt8, s = ⟨t.toArray⟩ ∧ t.length = s.size := ⟨s.data.toList, by simp, by simp⟩
set_option maxHeartbeats 4000000 in
set_option maxRecDepth 20000 in
theorem drawMR_any (a : Option Addr) (len cap : Nat) (w : World) (h : IsRow w a len) (hlc : len ≤ cap) :
    Calls Tryz.prog 9 #[.slice a len cap] w (DrawnTm w) := by
  have hH : Hid (IsRow w a len) := h
  clear h
  go_enter Tryz.func9, Tryz.ntmps9
  go_wp2_with fail
  refine (open_any a len cap _ hH.out hlc).mono ?_
  rintro e w1 ⟨rfl, hr1, hb1⟩
  go_wp2_with fail
  refine (draw_any w.heap.size 0 _ hr1 (by omega)).mono ?_
  rintro e w2 ⟨x, rfl, hx, hr2, st2⟩
  have sw2 : Below w.heap.size w w2 := hb1.trans (st2.below (by omega) hb1.size)
  clear hb1 hr1 st2
  go_wp2_with fail
  refine (stextM_any x hx _).mono ?_
  rintro e w3 ⟨rfl, hb3⟩
  have htl := memT_short hx
  have hr3 := hr2.to hb3
  have sw3 : Below w.heap.size w w3 := sw2.trans (hb3.mono sw2.size)
  clear hb3 hr2 sw2
  generalize memT x = t at *
  clear hx
  go_wp2_with fail
  refine (pick_any w.heap.size 720 9 _ (by omega) hr3 (by omega)).mono ?_
  rintro e w4 ⟨u, rfl, u0, u1, -, hr4, st4⟩
  have sw4 : Below w.heap.size w w4 := sw3.trans (st4.below (by omega) sw3.size)
  have hlt4 := hr4.lt
  clear st4 sw3 hr3 u1
  by_cases h0 : u = 0
  · subst h0
    go_wp2_with fail
    refine (of_any w.heap.size 721 w4.heap.size 35 _ (by omega) (by omega) (hr4.alloc _) (by omega) (strs_all _ _ _ _ rfl rfl) (by omega)).mono ?_
    rintro e w5 ⟨z, rfl, hz, hr5, st5⟩
    have sw5 : Below w.heap.size w w5 := (sw4.alloc sw4.size _).trans (st5.below (by omega) (by have := sw4.size; simp; omega))
    obtain ⟨tz, rfl, hzl⟩ := as_listM z
    go_wp2
    go_ret
    exact ⟨tz, rfl, by omega, sw5⟩
  have h0' : (u == 0) = false := by simpa using h0
  by_cases h1 : u = 1
  · subst h1
    go_wp2_with fail
    refine (of_any w.heap.size 721 w4.heap.size 5 _ (by omega) (by omega) (hr4.alloc _) (by omega) (strs_all _ _ _ _ rfl rfl) (by omega)).mono ?_
    rintro e w5 ⟨z, rfl, hz, hr5, st5⟩
    have sw5 : Below w.heap.size w w5 := (sw4.alloc sw4.size _).trans (st5.below (by omega) (by have := sw4.size; simp; omega))
    obtain ⟨tz, rfl, hzl⟩ := as_listM z
    have hz2 : tz.length ≤ 100 := by omega
    clear hz hzl
    go_wp2
    go_ret
    exact ⟨t ++ tz, ret_str (cat t tz), by simp; omega, sw5⟩
  have h1' : (u == 1) = false := by simpa using h1
  by_cases h2 : u = 2
  · subst h2
    have HP : Hid (∀ W, Rd W w.heap.size 721 → Calls Tryz.prog 22 #[.pointer (some ⟨w.heap.size, 0, none⟩), .int .i64 ((t.length : Int) + 1)] W fun e w' => ∃ j : Nat, e = .returned (.int .i64 (j : Int)) ∧ j ≤ t.length ∧ Rd w' w.heap.size 722 ∧ Step w.heap.size W w') := fun W hW => by
      have h := pick_any w.heap.size 721 (t.length + 1) W (by omega) hW (by omega)
      refine h.mono ?_
      rintro e w' ⟨v, rfl, v0, v1, -, g1, g2⟩
      obtain ⟨j, rfl⟩ := Int.eq_ofNat_of_zero_le v0
      have := v1 (by omega)
      exact ⟨j, rfl, by omega, g1, g2⟩
    go_wp2_with fail
    refine (HP.out _ hr4).mono ?_
    rintro e w5 ⟨j, rfl, hj, hr5, st5⟩
    have sw5 : Below w.heap.size w w5 := sw4.trans (st5.below (by omega) sw4.size)
    clear HP hr4 st5 sw4 hlt4
    go_upto_region 10 with fail
    refine ins_region (s := ⟨t.toArray⟩) (k := j) (rb := w.heap.size) (m := 722) (by rw [ba_size]; omega) (by rw [ba_size]; omega) hr5 (by omega) ?_
    intro u32 u33 u34 u35 u36 u37 u38 u39 u40 u41 u42 y w6 hy st6
    have sw6 : Below w.heap.size w w6 := sw5.trans (st6.below (by omega) sw5.size)
    obtain ⟨ty, rfl, hyl⟩ := as_listM y
    clear st6 sw5 hr5
    go_wp2
    go_ret
    exact ⟨ty, rfl, by omega, sw6⟩
  have h2' : (u == 2) = false := by simpa using h2
  clear h0 h1 h2
  go_wp2
  go_ret
  exact ⟨t, rfl, by omega, sw4⟩
end Go.Proofs.YtjacgamgjjpllaaGreatDoor
