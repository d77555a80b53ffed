/- The walk of FnRealArg. Helper text: no statement is claimed here. -/
import Derived.Test.YtceepaboaoffkaaDoorQa
import Derived.Test.YtceepaboaoffkaaDoorFj
namespace Go.Proofs.YtceepaboaoffkaaDoor
open Go.ChangeShapes Go.WideShapes Go.ChangeAt Go.RowKit Fl

theorem IsRow.below {w w' : World} {a : Option Addr} {len : Nat} (h : IsRow w a len) (hb : Below w.heap.size w w') : IsRow w' a len := by
  rcases h with h | ⟨b, off, f, rfl, hc⟩
  · exact .inl h
  · refine .inr ⟨b, off, f, rfl, fun i hi => ?_⟩
    have := hc i hi
    rw [hb.cell (p := ⟨b, off + i, none⟩) (World.block_lt_of_cell? w ⟨b, off + i, none⟩ this.1)]
    exact this

theorem argR_dec {n p : Int} {r : Nat} (h : ArgR 12 n p r) (ho : okB 12 n p = true) : floatBits .quo .f64 (floatOfInt .f64 n) (floatOfInt .f64 ((10 ^ p.toNat : Nat) : Int)) = some r := by
  rcases h.2 with ⟨_, _, h⟩ | ⟨_, h, _⟩ | ⟨h, _⟩
  · exact h
  · omega
  · exact absurd ⟨ho, .inl rfl⟩ h
theorem decOk_tail {n : Int} {p : Nat} (h : okB 12 n (p : Int) = true) : p = 1 ∨ n.tmod 10 ≠ 0 := by
  rw [okB_12] at h
  simp [decOk] at h
  rcases h.2.2.2.2 with h | h
  · left; omega
  · right; exact h
theorem dec_ord {n n' : Int} {p p' x y : Nat} (ho : okB 12 n (p : Int) = true) (ho' : okB 12 n' (p' : Int) = true) (hx : ArgR 12 n (p : Int) x) (hy : ArgR 12 n' (p' : Int) y) :
    (ord x y == some .lt) = decide (decV n p < decV n' p') ∧ (ord x y == some .eq) = decide (decV n p = decV n' p') := by
  obtain ⟨n1, n2, p1, p2⟩ := decOk_in ho
  obtain ⟨n1', n2', p1', p2'⟩ := decOk_in ho'
  have ex := argR_dec hx ho
  have ey := argR_dec hy ho'
  rw [Int.toNat_natCast] at ex ey
  unfold decV
  exact dec_order (by omega) (by omega) (by omega) (by omega) (by omega) (by omega) (decOk_tail ho) (decOk_tail ho') ex ey

set_option maxHeartbeats 4000000 in
theorem rarg_walk (s t : Option Addr) (len cap len' cap' : Nat) (w : World) (h : IsRow w s len) (hlc : len ≤ cap) (h' : IsRow w t len') (hlc' : len' ≤ cap') (hT : DevTab w) :
    Calls Tryd.prog 6 #[.slice s len cap, .slice t len' cap'] w fun e w' => e = .returned (.bool true) ∧ Below w.heap.size w w' := by
  by_cases hl : 1048576 < len
  · have hl1 : (1048576 : Int) < len := by omega
    clear h h'
    go_enter Tryd.func6, Tryd.ntmps6
    go_wp2
    go_ret
    exact ⟨rfl, Below.refl _ _⟩
  have hl1 : ¬ (1048576 : Int) < len := by omega
  by_cases hl' : 1048576 < len'
  · have hl1' : (1048576 : Int) < len' := by omega
    clear h h'
    go_enter Tryd.func6, Tryd.ntmps6
    go_wp2
    go_ret
    exact ⟨rfl, Below.refl _ _⟩
  have hl1' : ¬ (1048576 : Int) < len' := by omega
  have hH : Hid (IsRow w s len) := h
  have hH' : Hid (IsRow w t len') := h'
  clear h h'
  go_enter Tryd.func6, Tryd.ntmps6
  go_wp2_with fail
  refine (drawArg_any s len cap _ hH.out hlc).mono ?_
  rintro e w1 ⟨k, n, p, rfl, hk, hn, hp, hb1⟩
  have on1 := Own.new w1 (.int .i64 k) (.int .i64 n) (.int .i64 p)
  have hB1 : Below w.heap.size w (w1.alloc (.cells #[.int .i64 k, .int .i64 n, .int .i64 p] 41)) := hb1.alloc hb1.size _
  clear hk hn hp
  go_wp2_with fail
  refine (drawArg_any t len' cap' _ (hH'.out.below hB1) hlc').mono ?_
  rintro e w2 ⟨k', n', p', rfl, hk', hn', hp', hb2⟩
  clear hk' hn' hp'
  have on2 := on1.below hb2
  have hB2 := hB1.trans (hb2.mono hB1.size)
  have hT1 := hT.to hB1
  have hT2 := hT1.to hb2
  have hlt12 := on2.lt
  obtain ⟨⟨c20, c21, c22⟩, -⟩ := on2
  have on2' := Own.new w2 (.int .i64 k') (.int .i64 n') (.int .i64 p')
  have hB2' : Below w.heap.size w (w2.alloc (.cells #[.int .i64 k', .int .i64 n', .int .i64 p'] 41)) := hB2.alloc hB2.size _
  have ona := on1.below (hb2.trans (((Below.refl _ _).alloc (Nat.le_refl _) _).mono hb2.size) : Below _ _ (w2.alloc (.cells #[.int .i64 k', .int .i64 n', .int .i64 p'] 41)))
  go_wp2_with fail
  refine (iarg_any k n p _ (hT2.alloc _)).mono ?_
  rintro e w3 ⟨x, rfl, hx, hb3⟩
  have H3 : Hid (ArgR k n p x) := hx
  clear hx
  have on3 := ona.below hb3
  have on3' := on2'.below hb3
  have hB3 := hB2'.trans (hb3.mono hB2'.size)
  have hT3 := hT.to hB3
  obtain ⟨⟨c30, c31, c32⟩, -⟩ := on3
  obtain ⟨⟨d30, d31, d32⟩, -⟩ := on3'
  go_wp2_with fail
  refine (iarg_any k' n' p' _ hT3).mono ?_
  rintro e w4 ⟨y, rfl, hy, hb4⟩
  have H4 : Hid (ArgR k' n' p' y) := hy
  clear hy
  have on4 := (ona.below hb3).below hb4
  have on4' := (on2'.below hb3).below hb4
  have hB4 := hB3.trans (hb4.mono hB3.size)
  obtain ⟨⟨c40, c41, c42⟩, -⟩ := on4
  obtain ⟨⟨d40, d41, d42⟩, -⟩ := on4'
  go_wp2_with fail
  refine (sarg_any k n p _).mono ?_
  rintro e w5 ⟨z, rfl, hz, hb5⟩
  have H5 : Hid (SameV x z) := H3.out.one hz
  clear hz
  have on5 := ((ona.below hb3).below hb4).below hb5
  have on5' := ((on2'.below hb3).below hb4).below hb5
  have hB5 := hB4.trans (hb5.mono hB4.size)
  obtain ⟨⟨c50, c51, c52⟩, -⟩ := on5
  obtain ⟨⟨d50, d51, d52⟩, -⟩ := on5'
  go_wp2_with fail
  refine (wrSame_any x z _ H5.out H3.out.1).mono ?_
  rintro e w6 ⟨rfl, rfl⟩
  clear c20 c21 c22 c30 c31 c32 d30 d31 d32 c40 c41 c42 d40 d41 d42 hT1 hT2 hT3 hT
  by_cases h1 : k = 12
  case neg =>
    have h1' : (k != 12) = true := by simpa using h1
    clear h1
    go_wp2
    go_ret
    exact ⟨rfl, hB5⟩
  subst h1
  by_cases h2 : k' = 12
  case neg =>
    have h2' : (k' != 12) = true := by simpa using h2
    clear h2
    go_wp2
    go_ret
    exact ⟨rfl, hB5⟩
  subst h2
  go_wp2_with fail
  refine (sOk_any 12 n p _).mono ?_
  rintro e w7 ⟨rfl, hb7⟩
  have on7' := (((on2'.below hb3).below hb4).below hb5).below hb7
  have on7 := (((ona.below hb3).below hb4).below hb5).below hb7
  have hB7 := hB5.trans (hb7.mono hB5.size)
  cases hok : okB 12 n p
  case false =>
    clear hok
    go_wp2
    go_ret
    exact ⟨rfl, hB7⟩
  obtain ⟨⟨c70, c71, c72⟩, -⟩ := on7
  obtain ⟨⟨d70, d71, d72⟩, -⟩ := on7'
  have HO : Hid (okB 12 n p = true) := hok
  clear hok
  go_wp2_with fail
  refine (sOk_any 12 n' p' _).mono ?_
  rintro e w8 ⟨rfl, hb8⟩
  have on8' := ((((on2'.below hb3).below hb4).below hb5).below hb7).below hb8
  have on8 := ((((ona.below hb3).below hb4).below hb5).below hb7).below hb8
  have hB8 := hB7.trans (hb8.mono hB7.size)
  cases hok' : okB 12 n' p'
  case false =>
    clear hok'
    go_wp2
    go_ret
    exact ⟨rfl, hB8⟩
  obtain ⟨⟨c80, c81, c82⟩, -⟩ := on8
  obtain ⟨⟨d80, d81, d82⟩, -⟩ := on8'
  have HO' : Hid (okB 12 n' p' = true) := hok'
  clear hok'
  obtain ⟨n1, n2, p1, p2⟩ := decOk_in HO.out
  obtain ⟨n1', n2', p1', p2'⟩ := decOk_in HO'.out
  obtain ⟨q, rfl⟩ := Int.eq_ofNat_of_zero_le (show 0 ≤ p by omega)
  obtain ⟨q', rfl⟩ := Int.eq_ofNat_of_zero_le (show 0 ≤ p' by omega)
  obtain ⟨olt, oeq⟩ := dec_ord HO.out HO'.out H3.out H4.out
  clear c50 c51 c52 d50 d51 d52 c70 c71 c72 d70 d71 d72
  have e0 := cell_regrown c80
  have e1 := cell_regrown c81
  have e2 := cell_regrown c82
  have f0 := cell_regrown d80
  have f1 := cell_regrown d81
  have f2 := cell_regrown d82
  have hg1 : ∀ (d : Nat) (os : Array Obj), Calls Tryd.prog 25 #[.agg #[.int .i64 12, .int .i64 n, .int .i64 (q : Int)]] (Sort.grow (redrawn w8 d) os) fun e w'' => e = .returned (.int .i64 (decV n q)) ∧ ∃ p' : Regrown, w'' = Sort.grow (redrawn w8 p'.d) p'.os :=
    fun d os => Calls.regrown_of (wrDec_any 12 n q _ n1 n2 (by omega))
  have hg2 : ∀ (d : Nat) (os : Array Obj), Calls Tryd.prog 25 #[.agg #[.int .i64 12, .int .i64 n', .int .i64 (q' : Int)]] (Sort.grow (redrawn w8 d) os) fun e w'' => e = .returned (.int .i64 (decV n' q')) ∧ ∃ p' : Regrown, w'' = Sort.grow (redrawn w8 p'.d) p'.os :=
    fun d os => Calls.regrown_of (wrDec_any 12 n' q' _ n1' n2' (by omega))
  clear c80 c81 c82 d80 d81 d82
  generalize decV n q = A at *
  generalize decV n' q' = B at *
  have oeq' : (ord x y == some .eq) = (A == B) := by rw [oeq]; rw [Bool.eq_iff_iff]; simp
  clear oeq
  go_wp2
  refine wp_region_quiet_below (by kernel_rfl) (by kernel_rfl) ?_
  repeat (first | go_big_quiet_step (first | with_reducible exact hg1 _ _ | with_reducible exact hg2 _ _) | quiet_step (first | with_reducible exact hg1 _ _ | with_reducible exact hg2 _ _))
  refine wpQuiet_nil ?_
  intro _ hw'
  obtain ⟨⟨dq, osq⟩, hw''⟩ := hw'
  subst hw''
  go_wp2
  go_ret
  exact ⟨rfl, hB8.trans ((below_regrown _ dq osq).mono hB8.size)⟩
end Go.Proofs.YtceepaboaoffkaaDoor
