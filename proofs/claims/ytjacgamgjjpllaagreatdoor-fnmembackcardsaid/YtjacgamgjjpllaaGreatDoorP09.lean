/- What the words of a memory's text ask of a reading, and that this is enough. Helper text: no statement is claimed here. -/
import Derived.Test.YtjacgamgjjpllaaGreatDoorP08
import Derived.Test.YtjacgamgjjpllaaGreatDoorP05
import Derived.Test.YtjacgamgjjpllaaGreatDoorP01
import Derived.Deep.AppendLies
import Derived.OwnWalk
import Derived.Deep.WholeRow
import Derived.Below
import Derived.Test.YtjacgamgjjpllaaGreatDoorRows
import Derived.WalkKit
import Derived.ProofKit
import Derived.OpenShut
import Derived.Laws.AppendOwnNone
namespace Go.Proofs.YtjacgamgjjpllaaGreatDoor
open Go.ChangeShapes Go.WideShapes Go.ChangeAt Go.RowKit Fl

def upd {α : Type} (f : Nat → α) (i : Nat) (v : α) : Nat → α := fun j => if j = i then v else f j
theorem upd_at {α : Type} (f : Nat → α) (i : Nat) (v : α) : upd f i v i = v := if_pos rfl
theorem upd_far {α : Type} (f : Nat → α) {i j : Nat} (v : α) (h : j ≠ i) : upd f i v j = f j := if_neg h
def Mm.setT (m : Mm) (i : Nat) (d : Bool) (c : Nat) : Mm := { m with td := upd m.td i d, tc := upd m.tc i c }
def Mm.setC (m : Mm) (i : Nat) (d l : Bool) (c : Nat) : Mm := { m with cd := upd m.cd i d, cl := upd m.cl i l, cc := upd m.cc i c }
def Mm.setD (m : Mm) (i : Nat) (v : Int) : Mm := { m with d := upd m.d i v }
def Mm.setR (m : Mm) (i : Nat) (x : Nat) : Mm := { m with r := upd m.r i x }
def Mm.setTime (m : Mm) (n : Nat) : Mm := { m with time := n }
def Mm.setRan (m : Mm) : Mm := { m with ran := true }
def Mm.setFault (m : Mm) : Mm := { m with fault := true }

/-- What is made of the words that a memory may write. -/
structure Res (m : Mm) (t : List UInt8) (m' : Mm) : Prop where
  ran : t = ranT → m' = m.setRan
  fault : t = faultT → m' = m.setFault
  time : ∀ n : Nat, n < 2 ^ 32 → t = [116, 105, 109, 101, 61] ++ Lib.itoa (n : Int) → m' = m.setTime n
  bit : ∀ j i : Nat, j < 5 → i < bits5 j → t = dvT ((j : Int) + 1) i → m' = m.turn ((j : Int) + 1) (i : Int) true
  timer : ∀ (i c : Nat) (d : Bool), i < 16 → c < 65536 → t = dvT 7 i ++ ([61] ++ Lib.itoa (c : Int) ++ mkT d [33]) → m' = m.setT i d c
  count : ∀ (i c : Nat) (d l : Bool), i < 16 → c < 65536 → t = dvT 8 i ++ ([61] ++ Lib.itoa (c : Int) ++ mkT d [33] ++ mkT l [43]) → m' = m.setC i d l c
  whole : ∀ (i : Nat) (v : Int), i < 32 → -32768 ≤ v → v ≤ 32767 → t = dvT 9 i ++ ([61] ++ Lib.itoa v) → m' = m.setD i v
  real : ∀ i x : Nat, i < 16 → x < 2 ^ 64 → t = dvT 10 i ++ ([61] ++ rlT x) → ∃ y, rlT y = rlT x ∧ m' = m.setR i y
  none : t = [] → m' = m

theorem place_cases {q : Nat × Nat} (h : q ∈ placesM) : (∃ j i, j < 5 ∧ i < bits5 j ∧ q = (j + 1, i)) ∨ (∃ i, i < 16 ∧ q = (7, i)) ∨ (∃ i, i < 16 ∧ q = (8, i)) ∨ (∃ i, i < 32 ∧ q = (9, i)) ∨ (∃ i, i < 16 ∧ q = (10, i)) ∨ q = (11, 0) ∨ q = (12, 0) ∨ q = (13, 0) := by
  unfold placesM bitPl at h
  simp only [List.mem_append, List.mem_flatMap, List.mem_map, List.mem_range, List.mem_cons, List.not_mem_nil, or_false] at h
  rcases h with (⟨j, hj, i, hi, rfl⟩ | ((⟨i, hi, rfl⟩ | ⟨i, hi, rfl⟩) | ⟨i, hi, rfl⟩) | ⟨i, hi, rfl⟩) | h | h | h
  · exact .inl ⟨j, i, hj, hi, rfl⟩
  · exact .inr (.inl ⟨i, hi, rfl⟩)
  · exact .inr (.inr (.inl ⟨i, hi, rfl⟩))
  · exact .inr (.inr (.inr (.inl ⟨i, hi, rfl⟩)))
  · exact .inr (.inr (.inr (.inr (.inl ⟨i, hi, rfl⟩))))
  · exact .inr (.inr (.inr (.inr (.inr (.inl h)))))
  · exact .inr (.inr (.inr (.inr (.inr (.inr (.inl h))))))
  · exact .inr (.inr (.inr (.inr (.inr (.inr (.inr h))))))
theorem only_one {q : Nat × Nat} (h : q ∈ placesM) (h1 : q.1 = 11 ∨ q.1 = 12 ∨ q.1 = 13) : q.2 = 0 := by
  rcases place_cases h with ⟨j, i, hj, hi, rfl⟩ | ⟨i, hi, rfl⟩ | ⟨i, hi, rfl⟩ | ⟨i, hi, rfl⟩ | ⟨i, hi, rfl⟩ | rfl | rfl | rfl
  · have h2 : j + 1 = 11 ∨ j + 1 = 12 ∨ j + 1 = 13 := h1
    omega
  · have h2 : 7 = 11 ∨ 7 = 12 ∨ 7 = 13 := h1
    omega
  · have h2 : 8 = 11 ∨ 8 = 12 ∨ 8 = 13 := h1
    omega
  · have h2 : 9 = 11 ∨ 9 = 12 ∨ 9 = 13 := h1
    omega
  · have h2 : 10 = 11 ∨ 10 = 12 ∨ 10 = 13 := h1
    omega
  · rfl
  · rfl
  · rfl
theorem Wq_bit (m : Mm) (j i : Nat) (hj : j < 5) : Wq m (j + 1, i) = bitW m ((j : Int) + 1) i := by
  unfold Wq
  rw [if_neg (by show ¬ j + 1 = 7; omega), if_neg (by show ¬ j + 1 = 8; omega), if_neg (by show ¬ j + 1 = 9; omega), if_neg (by show ¬ j + 1 = 10; omega), if_neg (by show ¬ j + 1 = 11; omega), if_neg (by show ¬ j + 1 = 12; omega), if_neg (by show ¬ j + 1 = 13; omega)]
  rfl
/-- The words of a place hang on what lies there alone. -/
theorem Wq_ext {m n : Mm} {q : Nat × Nat} (hq : q ∈ placesM) (hb : ∀ j, j < 5 → q.2 < bits5 j → q.1 = j + 1 → m.bit ((j : Int) + 1) (q.2 : Int) = n.bit ((j : Int) + 1) (q.2 : Int)) (ht : q.1 = 7 → m.td q.2 = n.td q.2 ∧ m.tc q.2 = n.tc q.2)
    (hc : q.1 = 8 → m.cd q.2 = n.cd q.2 ∧ m.cl q.2 = n.cl q.2 ∧ m.cc q.2 = n.cc q.2) (hd : q.1 = 9 → m.d q.2 = n.d q.2) (hr : q.1 = 10 → rlT (m.r q.2) = rlT (n.r q.2)) (h11 : q.1 = 11 → m.time = n.time) (h12 : q.1 = 12 → m.ran = n.ran) (h13 : q.1 = 13 → m.fault = n.fault) : Wq m q = Wq n q := by
  rcases place_cases hq with ⟨j, i, hj, hi, rfl⟩ | ⟨i, hi, rfl⟩ | ⟨i, hi, rfl⟩ | ⟨i, hi, rfl⟩ | ⟨i, hi, rfl⟩ | rfl | rfl | rfl
  · rw [Wq_bit _ _ _ hj, Wq_bit _ _ _ hj]
    unfold bitW
    rw [hb j hj hi rfl]
  · obtain ⟨h1, h2⟩ := ht rfl
    show tmW m i = tmW n i
    unfold tmW tmT
    rw [h1, h2]
  · obtain ⟨h1, h2, h3⟩ := hc rfl
    show cnW m i = cnW n i
    unfold cnW cnT
    rw [h1, h2, h3]
  · show whW m i = whW n i
    unfold whW whT
    rw [show m.d i = n.d i from hd rfl]
  · show reW m i = reW n i
    unfold reW reT
    rw [show rlT (m.r i) = rlT (n.r i) from hr rfl]
  · show (if 0 < m.time then [timeT m] else []) = (if 0 < n.time then [timeT n] else [])
    unfold timeT
    rw [h11 rfl]
  · show (if m.ran = true then [ranT] else []) = (if n.ran = true then [ranT] else [])
    rw [h12 rfl]
  · show (if m.fault = true then [faultT] else []) = (if n.fault = true then [faultT] else [])
    rw [h13 rfl]
theorem turn_packed (m : Mm) {j i : Nat} (hj : j < 5) (hi : i < bits5 j) {j' : Nat} (hj' : j' < 5) : (m.turn ((j : Int) + 1) (i : Int) true).packed ((j' : Int) + 1) = if j' = j then putN (m.packed ((j : Int) + 1)) i true else m.packed ((j' : Int) + 1) := by
  have hp : (plc ((j : Int) + 1) (i : Int)).toNat = i := by
    have h6 : ¬ (j : Int) + 1 = 6 := by omega
    unfold bits5 at hi
    unfold plc sz4
    rw [if_neg h6, if_neg (by omega), Int.emod_eq_of_lt (by omega) (by omega)]
    omega
  have h5 : j = 0 ∨ j = 1 ∨ j = 2 ∨ j = 3 ∨ j = 4 := by omega
  by_cases hjj : j' = j
  · subst hjj
    rw [if_pos rfl]
    rcases h5 with rfl | rfl | rfl | rfl | rfl
    · show putN m.x (plc 1 (i : Int)).toNat true = putN m.x i true
      rw [show (plc 1 (i : Int)).toNat = i from hp]
    · show putN m.y (plc 2 (i : Int)).toNat true = putN m.y i true
      rw [show (plc 2 (i : Int)).toNat = i from hp]
    · show putN m.m (plc 3 (i : Int)).toNat true = putN m.m i true
      rw [show (plc 3 (i : Int)).toNat = i from hp]
    · show putN m.s (plc 4 (i : Int)).toNat true = putN m.s i true
      rw [show (plc 4 (i : Int)).toNat = i from hp]
    · show putN m.e (plc 5 (i : Int)).toNat true = putN m.e i true
      rw [show (plc 5 (i : Int)).toNat = i from hp]
  · rw [if_neg hjj]
    have h5' : j' = 0 ∨ j' = 1 ∨ j' = 2 ∨ j' = 3 ∨ j' = 4 := by omega
    rcases h5 with rfl | rfl | rfl | rfl | rfl <;> rcases h5' with rfl | rfl | rfl | rfl | rfl <;> first | exact absurd rfl hjj | rfl
theorem turn_bit (m : Mm) {j i : Nat} (hj : j < 5) (hi : i < bits5 j) {j' i' : Nat} (hj' : j' < 5) (hi' : i' < bits5 j') : (m.turn ((j : Int) + 1) (i : Int) true).bit ((j' : Int) + 1) (i' : Int) = if j' = j ∧ i' = i then true else m.bit ((j' : Int) + 1) (i' : Int) := by
  rw [bit_at hj' hi', bit_at hj' hi', turn_packed m hj hi hj']
  by_cases h1 : j' = j
  · subst h1
    rw [if_pos rfl]
    by_cases h2 : i' = i
    · subst h2
      rw [putN_same, if_pos ⟨rfl, rfl⟩]
    · rw [putN_other _ _ _ _ h2, if_neg (fun h => h2 h.2)]
  · rw [if_neg h1, if_neg (fun h => h1 h.1)]
theorem turn_rest (m : Mm) (k n : Int) (b : Bool) : (m.turn k n b).td = m.td ∧ (m.turn k n b).tc = m.tc ∧ (m.turn k n b).cd = m.cd ∧ (m.turn k n b).cl = m.cl ∧ (m.turn k n b).cc = m.cc ∧ (m.turn k n b).d = m.d ∧ (m.turn k n b).r = m.r ∧ (m.turn k n b).time = m.time ∧ (m.turn k n b).ran = m.ran ∧ (m.turn k n b).fault = m.fault := by
  unfold Mm.turn
  split
  · exact ⟨rfl, rfl, rfl, rfl, rfl, rfl, rfl, rfl, rfl, rfl⟩
  · split
    · exact ⟨rfl, rfl, rfl, rfl, rfl, rfl, rfl, rfl, rfl, rfl⟩
    · split
      · exact ⟨rfl, rfl, rfl, rfl, rfl, rfl, rfl, rfl, rfl, rfl⟩
      · split
        · exact ⟨rfl, rfl, rfl, rfl, rfl, rfl, rfl, rfl, rfl, rfl⟩
        · split
          · exact ⟨rfl, rfl, rfl, rfl, rfl, rfl, rfl, rfl, rfl, rfl⟩
          · exact ⟨rfl, rfl, rfl, rfl, rfl, rfl, rfl, rfl, rfl, rfl⟩
theorem bit_same {m n : Mm} (hx : m.x = n.x) (hy : m.y = n.y) (hm : m.m = n.m) (hs : m.s = n.s) (he : m.e = n.e) {j i : Nat} (hj : j < 5) (hi : i < bits5 j) : m.bit ((j : Int) + 1) (i : Int) = n.bit ((j : Int) + 1) (i : Int) := by
  rw [bit_at hj hi, bit_at hj hi]
  unfold Mm.packed
  rw [hx, hy, hm, hs, he]
theorem res_step {m : Mm} {t : List UInt8} {m' : Mm} (h : Res m t m') : StepW m t m' := by
  refine ⟨fun m0 q hm0 hq hw => ?_, h.none⟩
  rcases place_cases hq with ⟨j, i, hj, hi, rfl⟩ | ⟨i, hi, rfl⟩ | ⟨i, hi, rfl⟩ | ⟨i, hi, rfl⟩ | ⟨i, hi, rfl⟩ | rfl | rfl | rfl
  · have hw' := hw
    rw [Wq_bit _ _ _ hj] at hw'
    have ht := in_bit (show t ∈ bitW m0 ((j : Int) + 1) i by rw [hw']; simp)
    have hbit : m0.bit ((j : Int) + 1) (i : Int) = true := by
      unfold bitW at hw'
      by_cases hb : m0.bit ((j : Int) + 1) (i : Int) = true
      · exact hb
      · rw [if_neg hb] at hw'; cases hw'
    obtain rfl := h.bit j i hj hi ht
    obtain ⟨r1, r2, r3, r4, r5, r6, r7, r8, r9, r10⟩ := turn_rest m ((j : Int) + 1) (i : Int) true
    refine ⟨?_, fun q' hq' hne => ?_⟩
    · rw [Wq_bit _ _ _ hj]
      unfold bitW
      have hb : (m.turn ((j : Int) + 1) (i : Int) true).bit ((j : Int) + 1) (i : Int) = true := by
        rw [turn_bit m hj hi hj hi]
        exact if_pos ⟨rfl, rfl⟩
      rw [if_pos hb, ht]
    · refine Wq_ext hq' (fun j' hj' hi' he => ?_) (fun _ => ⟨by rw [r1], by rw [r2]⟩) (fun _ => ⟨by rw [r3], by rw [r4], by rw [r5]⟩) (fun _ => by rw [r6]) (fun _ => by rw [r7]) (fun _ => r8) (fun _ => r9) (fun _ => r10)
      rw [turn_bit m hj hi hj' hi', if_neg]
      rintro ⟨rfl, hii⟩
      exact hne (Prod.ext he hii)
  · have ht := in_tm (show t ∈ tmW m0 i by rw [show tmW m0 i = [t] from hw]; simp)
    obtain rfl := h.timer i (m0.tc i) (m0.td i) hi (hm0.htc i) ht
    refine ⟨?_, fun q' hq' hne => Wq_ext hq' (fun j' hj' hi' _ => bit_same (m := m.setT i (m0.td i) (m0.tc i)) (n := m) rfl rfl rfl rfl rfl hj' hi') (fun he => ?_) (fun _ => ⟨rfl, rfl, rfl⟩) (fun _ => rfl) (fun _ => rfl) (fun _ => rfl) (fun _ => rfl) (fun _ => rfl)⟩
    · rw [← hw]
      exact Wq_ext hq (fun j' hj' _ he => absurd he (by show ¬ 7 = j' + 1; omega)) (fun _ => ⟨upd_at _ _ _, upd_at _ _ _⟩) (fun he => absurd (show (7 : Nat) = 8 from he) (by decide)) (fun he => absurd (show (7 : Nat) = 9 from he) (by decide)) (fun he => absurd (show (7 : Nat) = 10 from he) (by decide)) (fun he => absurd (show (7 : Nat) = 11 from he) (by decide)) (fun he => absurd (show (7 : Nat) = 12 from he) (by decide)) (fun he => absurd (show (7 : Nat) = 13 from he) (by decide))
    · have hni : q'.2 ≠ i := fun e => hne (Prod.ext he e)
      exact ⟨upd_far _ _ hni, upd_far _ _ hni⟩
  · have ht := in_cn (show t ∈ cnW m0 i by rw [show cnW m0 i = [t] from hw]; simp)
    obtain rfl := h.count i (m0.cc i) (m0.cd i) (m0.cl i) hi (hm0.hcc i) ht
    refine ⟨?_, fun q' hq' hne => Wq_ext hq' (fun j' hj' hi' _ => bit_same (m := m.setC i (m0.cd i) (m0.cl i) (m0.cc i)) (n := m) rfl rfl rfl rfl rfl hj' hi') (fun _ => ⟨rfl, rfl⟩) (fun he => ?_) (fun _ => rfl) (fun _ => rfl) (fun _ => rfl) (fun _ => rfl) (fun _ => rfl)⟩
    · rw [← hw]
      exact Wq_ext hq (fun j' hj' _ he => absurd he (by show ¬ 8 = j' + 1; omega)) (fun he => absurd (show (8 : Nat) = 7 from he) (by decide)) (fun _ => ⟨upd_at _ _ _, upd_at _ _ _, upd_at _ _ _⟩) (fun he => absurd (show (8 : Nat) = 9 from he) (by decide)) (fun he => absurd (show (8 : Nat) = 10 from he) (by decide)) (fun he => absurd (show (8 : Nat) = 11 from he) (by decide)) (fun he => absurd (show (8 : Nat) = 12 from he) (by decide)) (fun he => absurd (show (8 : Nat) = 13 from he) (by decide))
    · have hni : q'.2 ≠ i := fun e => hne (Prod.ext he e)
      exact ⟨upd_far _ _ hni, upd_far _ _ hni, upd_far _ _ hni⟩
  · have ht := in_wh (show t ∈ whW m0 i by rw [show whW m0 i = [t] from hw]; simp)
    obtain rfl := h.whole i (m0.d i) hi (hm0.hd i).1 (hm0.hd i).2 ht
    refine ⟨?_, fun q' hq' hne => Wq_ext hq' (fun j' hj' hi' _ => bit_same (m := m.setD i (m0.d i)) (n := m) rfl rfl rfl rfl rfl hj' hi') (fun _ => ⟨rfl, rfl⟩) (fun _ => ⟨rfl, rfl, rfl⟩) (fun he => ?_) (fun _ => rfl) (fun _ => rfl) (fun _ => rfl) (fun _ => rfl)⟩
    · rw [← hw]
      exact Wq_ext hq (fun j' hj' _ he => absurd he (by show ¬ 9 = j' + 1; omega)) (fun he => absurd (show (9 : Nat) = 7 from he) (by decide)) (fun he => absurd (show (9 : Nat) = 8 from he) (by decide)) (fun _ => upd_at _ _ _) (fun he => absurd (show (9 : Nat) = 10 from he) (by decide)) (fun he => absurd (show (9 : Nat) = 11 from he) (by decide)) (fun he => absurd (show (9 : Nat) = 12 from he) (by decide)) (fun he => absurd (show (9 : Nat) = 13 from he) (by decide))
    · exact upd_far _ _ (fun e => hne (Prod.ext he e))
  · have ht := in_re (show t ∈ reW m0 i by rw [show reW m0 i = [t] from hw]; simp)
    obtain ⟨y, hy, rfl⟩ := h.real i (m0.r i) hi (hm0.hr i) ht
    refine ⟨?_, fun q' hq' hne => Wq_ext hq' (fun j' hj' hi' _ => bit_same (m := m.setR i y) (n := m) rfl rfl rfl rfl rfl hj' hi') (fun _ => ⟨rfl, rfl⟩) (fun _ => ⟨rfl, rfl, rfl⟩) (fun _ => rfl) (fun he => ?_) (fun _ => rfl) (fun _ => rfl) (fun _ => rfl)⟩
    · rw [← hw]
      exact Wq_ext hq (fun j' hj' _ he => absurd he (by show ¬ 10 = j' + 1; omega)) (fun he => absurd (show (10 : Nat) = 7 from he) (by decide)) (fun he => absurd (show (10 : Nat) = 8 from he) (by decide)) (fun he => absurd (show (10 : Nat) = 9 from he) (by decide)) (fun _ => by show rlT (upd m.r i y i) = _; rw [upd_at, hy]) (fun he => absurd (show (10 : Nat) = 11 from he) (by decide)) (fun he => absurd (show (10 : Nat) = 12 from he) (by decide)) (fun he => absurd (show (10 : Nat) = 13 from he) (by decide))
    · show rlT (upd m.r i y q'.2) = _
      rw [upd_far _ _ (fun e => hne (Prod.ext he e))]
  · have hw' : (if 0 < m0.time then [timeT m0] else []) = [t] := hw
    have h0 : 0 < m0.time := by
      by_cases h0 : 0 < m0.time
      · exact h0
      · rw [if_neg h0] at hw'; cases hw'
    rw [if_pos h0] at hw'
    have ht : t = timeT m0 := (List.cons.inj hw').1.symm
    obtain rfl := h.time m0.time hm0.htime ht
    refine ⟨?_, fun q' hq' hne => Wq_ext hq' (fun j' hj' hi' _ => bit_same (m := m.setTime m0.time) (n := m) rfl rfl rfl rfl rfl hj' hi') (fun _ => ⟨rfl, rfl⟩) (fun _ => ⟨rfl, rfl, rfl⟩) (fun _ => rfl) (fun _ => rfl) (fun he => ?_) (fun _ => rfl) (fun _ => rfl)⟩
    · rw [← hw]
      exact Wq_ext hq (fun j' hj' _ he => absurd he (by show ¬ 11 = j' + 1; omega)) (fun he => absurd (show (11 : Nat) = 7 from he) (by decide)) (fun he => absurd (show (11 : Nat) = 8 from he) (by decide)) (fun he => absurd (show (11 : Nat) = 9 from he) (by decide)) (fun he => absurd (show (11 : Nat) = 10 from he) (by decide)) (fun _ => rfl) (fun he => absurd (show (11 : Nat) = 12 from he) (by decide)) (fun he => absurd (show (11 : Nat) = 13 from he) (by decide))
    · exact absurd (only_one hq' (.inl he)) (fun e => hne (Prod.ext he e))
  · have hw' : (if m0.ran = true then [ranT] else []) = [t] := hw
    have h0 : m0.ran = true := by
      by_cases h0 : m0.ran = true
      · exact h0
      · rw [if_neg h0] at hw'; cases hw'
    rw [if_pos h0] at hw'
    have ht : t = ranT := (List.cons.inj hw').1.symm
    obtain rfl := h.ran ht
    refine ⟨?_, fun q' hq' hne => Wq_ext hq' (fun j' hj' hi' _ => bit_same (m := m.setRan) (n := m) rfl rfl rfl rfl rfl hj' hi') (fun _ => ⟨rfl, rfl⟩) (fun _ => ⟨rfl, rfl, rfl⟩) (fun _ => rfl) (fun _ => rfl) (fun _ => rfl) (fun he => ?_) (fun _ => rfl)⟩
    · rw [ht]; rfl
    · exact absurd (only_one hq' (.inr (.inl he))) (fun e => hne (Prod.ext he e))
  · have hw' : (if m0.fault = true then [faultT] else []) = [t] := hw
    have h0 : m0.fault = true := by
      by_cases h0 : m0.fault = true
      · exact h0
      · rw [if_neg h0] at hw'; cases hw'
    rw [if_pos h0] at hw'
    have ht : t = faultT := (List.cons.inj hw').1.symm
    obtain rfl := h.fault ht
    refine ⟨?_, fun q' hq' hne => Wq_ext hq' (fun j' hj' hi' _ => bit_same (m := m.setFault) (n := m) rfl rfl rfl rfl rfl hj' hi') (fun _ => ⟨rfl, rfl⟩) (fun _ => ⟨rfl, rfl, rfl⟩) (fun _ => rfl) (fun _ => rfl) (fun _ => rfl) (fun _ => rfl) (fun he => ?_)⟩
    · rw [ht]; rfl
    · exact absurd (only_one hq' (.inr (.inr he))) (fun e => hne (Prod.ext he e))
end Go.Proofs.YtjacgamgjjpllaaGreatDoor

/- The document's l9Find at a sign of equality, and l4Tail. Helper text: no statement is claimed here. -/
namespace Go.Proofs.YtjacgamgjjpllaaGreatDoor
open Go.ChangeShapes Go.WideShapes Go.ChangeAt Go.RowKit Fl

def FoundQ (l : List UInt8) (v : Int) : Prop := (v = -1 ∧ (61 : UInt8) ∉ l) ∨ ∃ l1 l2, l = l1 ++ 61 :: l2 ∧ (61 : UInt8) ∉ l1 ∧ v = l1.length
theorem u8_61 {c : UInt8} (h : (c.toNat : Int) = 61) : c = 61 := by
  apply UInt8.toNat.inj
  have : c.toNat = 61 := by omega
  rw [this]; rfl
set_option maxHeartbeats 400000 in
theorem findQ_any (s : ByteArray) (w : World) (hs : s.size ≤ 2000000) :
    Calls Tryz.prog 58 #[.string s, .int .u8 61] w fun e w' => ∃ v : Int, e = .returned (.int .i64 v) ∧ w' = w ∧ FoundQ s.data.toList v := by
  go_enter Tryz.func58, Tryz.ntmps58
  go_wp2
  go_loop [5] (fun i => ∃ k : Nat, k ≤ s.size ∧ i = .int .i64 k ∧ (61 : UInt8) ∉ s.data.toList.take k) (fun i => s.size - (intOf i).toNat)
  case atStart => exact ⟨0, Nat.zero_le _, rfl, by simp⟩
  case round =>
    obtain ⟨k, hk, rfl, hn⟩ := hrel
    have HN : Hid ((61 : UInt8) ∉ s.data.toList.take k) := hn
    clear hn
    by_cases hlt : k < s.size
    · by_cases h46 : s[k] = 61
      · have h1 : ((s[k].toNat : Int) == 61) = true := by rw [h46]; rfl
        have H46 : Hid (s[k] = 61) := h46
        clear h46
        go_wp2
        go_ret
        exact ⟨k, rfl, rfl, .inr ⟨s.data.toList.take k, s.data.toList.drop (k + 1), by have e := split_atG s k hlt; rw [H46.out] at e; exact e, HN.out, by simp; omega⟩⟩
      · have h1 : ((s[k].toNat : Int) == 61) = false := by
          rw [beq_eq_false_iff_ne]; intro e; exact h46 (u8_61 e)
        have H46 : Hid (s[k] ≠ 61) := h46
        clear h46
        go_wp2
        go_round
        case rel =>
          refine ⟨k + 1, by omega, by go_num, ?_⟩
          rw [take_snocG s k hlt]
          have a1 := HN.out
          have a2 := H46.out
          simp only [List.mem_append, List.mem_singleton, not_or]
          exact ⟨a1, fun e => a2 e.symm⟩
        case measure => simp [intOf]; omega
    · go_wp2
      go_ret
      refine ⟨-1, rfl, rfl, .inl ⟨rfl, ?_⟩⟩
      have a1 := HN.out
      rwa [List.take_of_length_le (by simp; omega)] at a1


/-- A text without its last byte, if that is c; and whether it was. -/
def tailL (c : UInt8) (l : List UInt8) : List UInt8 × Bool := if l.getLast? = some c then (l.dropLast, true) else (l, false)
theorem tailL_yes (c : UInt8) (l : List UInt8) : tailL c (l ++ [c]) = (l, true) := by simp [tailL]
theorem tailL_mk {c : UInt8} {l : List UInt8} (h : c ∉ l) (b : Bool) : tailL c (l ++ mkT b [c]) = (l, b) := by
  cases b
  · have hn : l.getLast? ≠ some c := fun e => h (List.mem_of_getLast? e)
    simp [tailL, mkT, hn]
  · simp [mkT, tailL]
theorem tailL_len (c : UInt8) (l : List UInt8) : (tailL c l).1.length ≤ l.length := by
  unfold tailL
  split
  · simp
  · exact Nat.le_refl _
theorem last_at (s : ByteArray) (h : 0 < s.size) : s.data.toList.getLast? = some (s[s.size - 1]'(by omega)) := by
  rw [List.getLast?_eq_getElem?]
  have hl : s.data.toList.length = s.size := by simp
  rw [hl, List.getElem?_eq_getElem (by omega)]
  rfl
set_option maxHeartbeats 400000 in
theorem tail_any (s : ByteArray) (c : UInt8) (w : World) (hs : s.size ≤ 2000000) :
    Calls Tryz.prog 105 #[.string s, .int .u8 (c.toNat : Int)] w fun e w' => e = .returned (.tuple #[.string ⟨(tailL c s.data.toList).1.toArray⟩, .bool (tailL c s.data.toList).2]) ∧ w' = w := by
  by_cases h0 : 0 < s.size
  · have h0' : (0 : Int) < (s.size : Int) := by omega
    have hi1 : (0 : Int) ≤ (s.size : Int) - 1 := by omega
    have hi2 : (s.size : Int) - 1 < (s.size : Int) := by omega
    have hla := last_at s h0
    by_cases hc : s[s.size - 1]'(by omega) = c
    · have hb : (((s[s.size - 1]'(by omega)).toNat : Int) == (c.toNat : Int)) = true := by rw [hc]; simp
      have ht : tailL c s.data.toList = (s.data.toList.dropLast, true) := by unfold tailL; rw [hla, hc, if_pos rfl]
      have hx : (s.extract 0 (s.size - 1)).data.toList = s.data.toList.dropLast := by
        rw [ext_toG, List.dropLast_eq_take]; simp
      have HX : Hid (s.extract 0 (s.size - 1) = ⟨s.data.toList.dropLast.toArray⟩) := by
        show _ = _
        apply ByteArray.ext
        apply Array.ext'
        rw [hx]
      rw [ht]
      clear ht hx hla hc
      go_enter Tryz.func105, Tryz.ntmps105
      go_wp2
      go_ret2
      exact ⟨by rw [← HX.out]; rfl, rfl⟩
    · have hb : (((s[s.size - 1]'(by omega)).toNat : Int) == (c.toNat : Int)) = false := by
        rw [beq_eq_false_iff_ne]
        intro e
        exact hc (UInt8.toNat.inj (by omega))
      have ht : tailL c s.data.toList = (s.data.toList, false) := by
        unfold tailL
        rw [hla, if_neg (fun e => hc (Option.some.inj e))]
      rw [ht]
      clear ht hla hc
      go_enter Tryz.func105, Tryz.ntmps105
      go_wp2
      go_ret2
      exact ⟨rfl, rfl⟩
  · have h0' : ¬ (0 : Int) < (s.size : Int) := by omega
    have hln : s.data.toList.length = s.size := by simp
    have hnil : s.data.toList = [] := List.length_eq_zero_iff.1 (by omega)
    have ht : tailL c s.data.toList = (s.data.toList, false) := by rw [hnil]; simp [tailL]
    rw [ht]
    clear ht hnil hln
    go_enter Tryz.func105, Tryz.ntmps105
    go_wp2
    go_ret2
    exact ⟨rfl, rfl⟩
end Go.Proofs.YtjacgamgjjpllaaGreatDoor

/- The document's cutting of a text at a byte: l9Cut. Helper text: no statement is claimed here. -/
namespace Go.Proofs.YtjacgamgjjpllaaGreatDoor
open Go.ChangeShapes Go.WideShapes Go.ChangeAt Go.RowKit

/-- The pieces of a list between bytes c. -/
def cutL (c : UInt8) : List UInt8 → List (List UInt8)
  | [] => [[]]
  | x :: l => if x = c then [] :: cutL c l else match cutL c l with
    | [] => [[x]]
    | p :: ps => (x :: p) :: ps
theorem cutL_none {c : UInt8} : ∀ {l : List UInt8}, (∀ x ∈ l, x ≠ c) → cutL c l = [l]
  | [], _ => rfl
  | x :: l, h => by
    have ih := cutL_none (c := c) (l := l) (fun y hy => h y (List.mem_cons_of_mem _ hy))
    simp [cutL, h x (List.mem_cons_self ..), ih]
theorem cutL_hit {c : UInt8} {b : List UInt8} : ∀ {a : List UInt8}, (∀ x ∈ a, x ≠ c) → cutL c (a ++ c :: b) = a :: cutL c b
  | [], _ => by simp [cutL]
  | x :: l, h => by
    have ih := cutL_hit (c := c) (b := b) (a := l) (fun y hy => h y (List.mem_cons_of_mem _ hy))
    simp [cutL, h x (List.mem_cons_self ..), ih]
theorem cutL_ne (c : UInt8) (l : List UInt8) : cutL c l ≠ [] := by
  cases l with
  | nil => simp [cutL]
  | cons x l =>
    unfold cutL
    split
    · simp
    · split <;> simp
theorem cutL_len (c : UInt8) : ∀ l : List UInt8, (cutL c l).length ≤ l.length + 1
  | [] => by simp [cutL]
  | x :: l => by
    have ih := cutL_len c l
    unfold cutL
    split
    · simp; omega
    · split
      · simp
      · rename_i p ps hp
        rw [hp] at ih
        simp at ih ⊢; omega

/-- Texts as cells. -/
def strV (p : List UInt8) : Value := .string ⟨p.toArray⟩
theorem iStr2 : (Tryz.prog.info? 9).map (fun i => (i.zero, i.size, i.bytes)) = some (some (.string ⟨#[]⟩), 1, 16) := by kernel_rfl
/-- append of one text to a row of texts that is the call's own. -/
theorem wpList_apps {ops : Array Oper} {rest : List Oper} {o : Oper} {a : Act} {Q : Exit → Act → World → Prop} (w : World) (hgd : o.guard = none) (s x : Operand)
    (ho : o.op = .call { callee := .builtin .append, args := #[s, x], argTypes := #[49, 49] }) (base : Nat)
    (v : Value) (n : Nat) (xs : List Value) (hs : a.eval s = v) (hown : w.ownsRow base 9 1 v n xs)
    (B : Nat) (sv : ByteArray) (hx : a.eval x = .slice (some ⟨B, 0, none⟩) 1 1) (hB : w.heap[B]? = some (.cells #[.string sv] 9 (0, 0)))
    (hb : n ≤ 3000000) (hbase : base ≤ w.heap.size)
    (h : ∀ g cap w', Hid (w'.ownsRow base 9 1 (.slice (some ⟨g, 0, none⟩) (n + 1) cap) (n + 1) (xs ++ [.string sv])) → Hid (w.grownBy w' v.ownBlock) → g < w'.heap.size → wpList Tryz.prog ops Q rest (a.put o.dst (.slice (some ⟨g, 0, none⟩) (n + 1) cap)) w') : wpList Tryz.prog ops Q (o :: rest) a w := by
  obtain ⟨i0, hi, hz0, hz1, hz2⟩ := info_parts iStr2
  exact wpList_append_lies w hgd s x _ ho base _ i0 _ 1 16 Tryz.underlying49 hi hz0 hz1 hz2 rfl (by decide) v n xs hs hown ⟨B, 0, none⟩ 1 1 [.string sv] hx rfl (World.news_of_block (cs := #[.string sv]) (t := 9) (fr := (0, 0)) hB) (by simp [Value.oneCell']) (by decide) (by unfold maxLen; omega) (by omega) hbase _ rfl (fun g cap w' a b _ d => h g cap w' a b d)

/-- Between two rounds of the cutting: what has been cut, and that the piece under way bears no c. -/
structure Cutting (c : UInt8) (l : List UInt8) (f j : Nat) (ps : List (List UInt8)) : Prop where
  le : f ≤ j
  end_ : j ≤ l.length
  no : ∀ x ∈ (l.drop f).take (j - f), x ≠ c
  whole : ps ++ cutL c (l.drop f) = cutL c l
  few : ps.length ≤ f

def piece (l : List UInt8) (f j : Nat) : List UInt8 := (l.drop f).take (j - f)
theorem drop_at {l : List UInt8} {f j : Nat} (hf : f ≤ j) (hj : j < l.length) : l.drop f = piece l f j ++ l[j] :: l.drop (j + 1) := by
  have h1 : l.drop f = (l.drop f).take (j - f) ++ (l.drop f).drop (j - f) := (List.take_append_drop _ _).symm
  rw [List.drop_drop, show f + (j - f) = j by omega, List.drop_eq_getElem_cons hj] at h1
  exact h1
theorem Cutting.last {c : UInt8} {l : List UInt8} {f j : Nat} {ps : List (List UInt8)} (h : Cutting c l f j ps) (hj : j = l.length) : ps ++ [piece l f j] = cutL c l := by
  have hn := h.no
  have hw := h.whole
  have hp : (l.drop f).take (j - f) = l.drop f := List.take_of_length_le (by simp; omega)
  rw [hp] at hn
  rw [cutL_none hn] at hw
  unfold piece
  rw [hp]; exact hw
theorem Cutting.hit {c : UInt8} {l : List UInt8} {f j : Nat} {ps : List (List UInt8)} (h : Cutting c l f j ps) (hj : j < l.length) (hc : l[j] = c) : Cutting c l (j + 1) (j + 1) (ps ++ [piece l f j]) := by
  have hw := h.whole
  rw [drop_at h.le hj, hc, cutL_hit (a := piece l f j) h.no] at hw
  exact ⟨Nat.le_refl _, by omega, by simp, by simpa using hw, by have := h.few; have := h.le; simp; omega⟩
theorem Cutting.skip {c : UInt8} {l : List UInt8} {f j : Nat} {ps : List (List UInt8)} (h : Cutting c l f j ps) (hj : j < l.length) (hc : l[j] ≠ c) : Cutting c l f (j + 1) ps := by
  refine ⟨by have := h.le; omega, by omega, ?_, h.whole, h.few⟩
  have hf := h.le
  have hn := h.no
  rw [show j + 1 - f = (j - f) + 1 by omega, List.take_add_one]
  intro x hx
  rcases List.mem_append.1 hx with hx | hx
  · exact hn x hx
  · rw [List.getElem?_drop, show f + (j - f) = j by omega, List.getElem?_eq_getElem hj] at hx
    simp at hx
    rw [hx]; exact hc
theorem extract_piece (s : ByteArray) (f j : Nat) : Value.string (s.extract f j) = strV (piece s.data.toList f j) := by
  unfold strV piece
  congr 1
  apply ByteArray.ext
  rw [ByteArray.data_extract]
  apply Array.ext'
  simp [List.extract_eq_take_drop]
theorem row_snoc {W : World} {base g cap f j : Nat} {ps : List (List UInt8)} {s : ByteArray} (h : W.ownsRow base 9 1 (.slice (some ⟨g, 0, none⟩) (ps.length + 1) cap) (ps.length + 1) (ps.map strV ++ [.string (s.extract f j)])) :
    W.ownsRow base 9 1 (.slice (some ⟨g, 0, none⟩) (ps ++ [piece s.data.toList f j]).length cap) (ps ++ [piece s.data.toList f j]).length ((ps ++ [piece s.data.toList f j]).map strV) := by
  rw [extract_piece] at h
  simpa using h

set_option maxHeartbeats 1000000 in
theorem cutw_any (s : ByteArray) (c : UInt8) (w : World) (hs : s.size ≤ 2000000) :
    Calls Tryz.prog 57 #[.string s, .int .u8 (c.toNat : Int)] w fun e w' => ∃ g cap, e = .returned (.slice (some ⟨g, 0, none⟩) (cutL c s.data.toList).length cap) ∧
      w'.ownsRow w.heap.size 9 1 (.slice (some ⟨g, 0, none⟩) (cutL c s.data.toList).length cap) (cutL c s.data.toList).length ((cutL c s.data.toList).map strV) ∧ Below w.heap.size w w' := by
  have HO : Hid ((w.alloc (.cells #[] 9)).ownsRow w.heap.size 9 1 (.slice (some ⟨w.heap.size, 0, none⟩) 0 0) 0 []) :=
    ⟨rfl, .inr ⟨w.heap.size, 0, #[], rfl, Nat.le_refl _, heap_alloc_last _ _, Nat.le_refl _, by unfold maxLen; omega, rfl, rfl⟩⟩
  go_enter Tryz.func57, Tryz.ntmps57
  go_wp2
  go_loopw [5, 6, 7] (fun o f i w' => ∃ (j fr : Nat) (ps : List (List UInt8)) (g cap : Nat), i = .int .i64 (j : Int) ∧ f = .int .i64 (fr : Int) ∧ o = .slice (some ⟨g, 0, none⟩) ps.length cap ∧ Hid (w'.ownsRow w.heap.size 9 1 (.slice (some ⟨g, 0, none⟩) ps.length cap) ps.length (ps.map strV)) ∧ w.heap.size ≤ w'.heap.size ∧
      Hid (Below w.heap.size w w') ∧ j ≤ s.size + 1 ∧ fr ≤ s.size + 1 ∧ Hid ((j ≤ s.size ∧ Cutting c s.data.toList fr j ps) ∨ (j = s.size + 1 ∧ ps = cutL c s.data.toList)))
    (fun _ _ i _ => s.size + 1 - (intOf i).toNat)
  case atStart => exact ⟨0, 0, [], w.heap.size, 0, rfl, rfl, rfl, HO, by simp, one _ _, by omega, by omega, .inl ⟨by omega, by omega, by omega, by simp, by simp, by simp⟩⟩
  case round =>
    obtain ⟨j, fr, ps, g, cap, rfl, rfl, rfl, HR, hsz, HB, hj, hfr, HC⟩ := hrel
    rename_i wr
    by_cases hend : j = s.size + 1
    · subst hend
      have hps : ps = cutL c s.data.toList := by
        rcases HC.out with ⟨h, -⟩ | ⟨-, h⟩
        · omega
        · exact h
      have h' : ¬ ((s.size + 1 : Nat) : Int) ≤ (s.size : Int) := by omega
      have HP : Hid (ps = cutL c s.data.toList) := hps
      clear hps
      go_wp2
      go_ret
      rw [← HP.out]
      exact ⟨g, cap, rfl, HR.out, HB.out⟩
    have hle : (j : Int) ≤ (s.size : Int) := by omega
    have hjs : j ≤ s.size := by omega
    have HK : Hid (Cutting c s.data.toList fr j ps) := by
      show Cutting c s.data.toList fr j ps
      rcases HC.out with ⟨-, h⟩ | ⟨h, -⟩
      · exact h
      · omega
    have hf1 := HK.out.le
    have hfi : (fr : Int) ≤ (j : Int) := by omega
    have hfew := HK.out.few
    have hgw : w.heap.size ≤ g := by
      rcases HR.out.2 with ⟨h, -⟩ | ⟨g', cp', cur, e, hb, -⟩
      · simp at h
      · simp only [Value.slice.injEq, Option.some.injEq, Addr.mk.injEq] at e
        omega
    clear HC hend
    by_cases hl : j = s.size
    · have hl' : ((j : Int) == (s.size : Int)) = true := by rw [hl]; simp
      have HL : Hid (j = s.size) := hl
      clear hl
      have HO1 : Hid (∀ o, (wr.alloc o).ownsRow w.heap.size 9 1 (.slice (some ⟨g, 0, none⟩) ps.length cap) ps.length (ps.map strV)) := fun o => HR.out.alloc o
      have HN1 : Hid (∀ o, (wr.alloc o).heap[wr.heap.size]? = some o) := fun o => heap_alloc_last wr o
      go_wp2_with (at_builtin; refine wpList_apps _ rfl (.tmp 26) (.tmp 31) rfl w.heap.size _ ps.length (ps.map strV) rfl (HO1.out _) wr.heap.size _ rfl (HN1.out _) (by omega) (by simp; omega) ?_; intro g2 cap2 w2 HW2 HG2 hg2)
      have bel : Below w.heap.size _ w2 := (HB.out.alloc HB.out.size (.cells #[.string (s.extract fr j)] 9)).trans ((Below.refl _ _).grown HG2.out (by simp; omega) (fun k e => by cases e; exact hgw))
      go_roundw
      case rel => exact ⟨j + 1, j + 1, ps ++ [piece s.data.toList fr j], g2, cap2, by go_num, by go_num, by simp, row_snoc HW2.out, bel.size, bel, by omega, by omega, .inr ⟨by rw [HL.out], HK.out.last (by rw [HL.out]; simp)⟩⟩
      case measure => simp [intOf]; omega
    · have hlt : j < s.size := by omega
      have hl' : ((j : Int) == (s.size : Int)) = false := by simp; omega
      by_cases hc : s[j] = c
      · have hcb : ((s[j].toNat : Int) == (c.toNat : Int)) = true := by rw [hc]; simp
        have HCc : Hid (s[j] = c) := hc
        clear hc hl
        have HO1 : Hid (∀ o, (wr.alloc o).ownsRow w.heap.size 9 1 (.slice (some ⟨g, 0, none⟩) ps.length cap) ps.length (ps.map strV)) := fun o => HR.out.alloc o
        have HN1 : Hid (∀ o, (wr.alloc o).heap[wr.heap.size]? = some o) := fun o => heap_alloc_last wr o
        go_wp2_with (at_builtin; refine wpList_apps _ rfl (.tmp 26) (.tmp 31) rfl w.heap.size _ ps.length (ps.map strV) rfl (HO1.out _) wr.heap.size _ rfl (HN1.out _) (by omega) (by simp; omega) ?_; intro g2 cap2 w2 HW2 HG2 hg2)
        have bel : Below w.heap.size _ w2 := (HB.out.alloc HB.out.size (.cells #[.string (s.extract fr j)] 9)).trans ((Below.refl _ _).grown HG2.out (by simp; omega) (fun k e => by cases e; exact hgw))
        go_roundw
        case rel => exact ⟨j + 1, j + 1, ps ++ [piece s.data.toList fr j], g2, cap2, by go_num, by go_num, by simp, row_snoc HW2.out, bel.size, bel, by omega, by omega, .inl ⟨by omega, HK.out.hit (by simpa using hlt) HCc.out⟩⟩
        case measure => simp [intOf]; omega
      · have hcb : ((s[j].toNat : Int) == (c.toNat : Int)) = false := by
          rw [beq_eq_false_iff_ne]
          intro e
          exact hc (UInt8.toNat_inj.1 (by exact_mod_cast e))
        have HCc : Hid (s[j] ≠ c) := hc
        clear hc hl
        go_wp2
        go_roundw
        case rel => exact ⟨j + 1, fr, ps, g, cap, by go_num, rfl, rfl, HR, hsz, HB, by omega, by omega, .inl ⟨by omega, HK.out.skip (by simpa using hlt) HCc.out⟩⟩
        case measure => simp [intOf]; omega
end Go.Proofs.YtjacgamgjjpllaaGreatDoor

/- A row of texts of the call's own, appended to. Helper text: no statement is claimed here. -/
namespace Go.Proofs.YtjacgamgjjpllaaGreatDoor
open Go.ChangeShapes Go.WideShapes Go.ChangeAt Go.RowKit

/-- The cells of a row of texts. -/
def stCells (ws : List (List UInt8)) : List Value := ws.map fun l => .string ⟨l.toArray⟩
theorem stCells_len (ws : List (List UInt8)) : (stCells ws).length = ws.length := by simp [stCells]
theorem stCells_app (a b : List (List UInt8)) : stCells a ++ stCells b = stCells (a ++ b) := by simp [stCells]
theorem stCells_one (ws : List (List UInt8)) : ∀ u ∈ stCells ws, u.oneCell' = true := by
  intro u hu
  simp only [stCells, List.mem_map] at hu
  obtain ⟨a, -, rfl⟩ := hu
  rfl
theorem iStrR : (Tryz.prog.info? 9).map (fun i => (i.zero, i.size, i.bytes)) = some (some (.string ⟨#[]⟩), 1, 16) := by kernel_rfl
/-- A row of texts that is the call's own. -/
def SRow (w : World) (base : Nat) (v : Value) (ws : List (List UInt8)) : Prop := w.ownsRow base 9 1 v ws.length (stCells ws)
theorem SRow.nil (w : World) (base : Nat) : SRow w base (.slice none 0 0) [] := World.ownsRow_nil w base _ _
theorem SRow.to {w w' : World} {base : Nat} {v : Value} {ws : List (List UInt8)} (h : SRow w base v ws) (hb : Below w.heap.size w w') : SRow w' base v ws := by
  refine ⟨h.1, ?_⟩
  rcases h.2 with hn | ⟨g, cap, cur, rfl, hb', hgg, rest⟩
  · exact .inl hn
  · exact .inr ⟨g, cap, cur, rfl, hb', (hb.block g (Array.getElem?_eq_some_iff.1 hgg).1).trans hgg, rest⟩
theorem SRow.low {w : World} {base base' : Nat} {v : Value} {ws : List (List UInt8)} (h : SRow w base v ws) (hb : base' ≤ base) : SRow w base' v ws := by
  refine ⟨h.1, ?_⟩
  rcases h.2 with hn | ⟨g, cap, cur, rfl, hb', rest⟩
  · exact .inl hn
  · exact .inr ⟨g, cap, cur, rfl, Nat.le_trans hb hb', rest⟩
/-- The slice that stands for it, and where its texts lie. -/
theorem SRow.form {w : World} {base : Nat} {v : Value} {ws : List (List UInt8)} (h : SRow w base v ws) : (v = .slice none 0 0 ∧ ws = []) ∨ ∃ g cap, v = .slice (some ⟨g, 0, none⟩) ws.length cap ∧ base ≤ g ∧ g < w.heap.size ∧ ws.length ≤ cap ∧ cap ≤ maxLen ∧ ∀ j l, ws[j]? = some l → w.cell? ⟨g, j, none⟩ = some (.string ⟨l.toArray⟩) := by
  have hc : ∀ g, v.ownBlock = some g → ∀ j l, ws[j]? = some l → w.cell? ⟨g, j, none⟩ = some (.string ⟨l.toArray⟩) := fun g hg j l hl => by
    have := World.ownsRow.cells h hg j (.string ⟨l.toArray⟩) (by simp [stCells, hl])
    have hadd : (⟨g, 0, none⟩ : Addr).add j = ⟨g, j, none⟩ := by unfold Addr.add; split <;> simp_all
    rwa [hadd] at this
  rcases h.2 with ⟨h1, h2⟩ | ⟨g, cap, cur, rfl, hb', hgg, h2, h3, -⟩
  · exact .inl ⟨h1, List.eq_nil_of_length_eq_zero h2⟩
  · exact .inr ⟨g, cap, rfl, hb', (Array.getElem?_eq_some_iff.1 hgg).1, h2, h3, hc g rfl⟩
theorem SRow.lt {w : World} {base : Nat} {v : Value} {ws : List (List UInt8)} (h : SRow w base v ws) : ∀ k, v.ownBlock = some k → base ≤ k ∧ k < w.heap.size := World.ownsRow.lt h

/-- append to a row of texts that is the call's own. -/
theorem wpList_sapp {ops : Array Oper} {rest : List Oper} {o : Oper} {a : Act} {Q : Exit → Act → World → Prop} (w : World) (hgd : o.guard = none) (s x : Operand)
    (ho : o.op = .call { callee := .builtin .append, args := #[s, x], argTypes := #[49, 49] }) (base : Nat)
    (v : Value) (ws news : List (List UInt8)) (hs : a.eval s = v) (hown : SRow w base v ws)
    (g c : Nat) (hx : a.eval x = .slice (some ⟨g, 0, none⟩) news.length c) (hnews : ∀ j l, news[j]? = some l → w.cell? ⟨g, j, none⟩ = some (.string ⟨l.toArray⟩))
    (hb : ws.length + news.length ≤ 10000) (hbase : base ≤ w.heap.size)
    (h : ∀ v' w', Hid (SRow w' base v' (ws ++ news)) → Hid (Below base w w') → wpList Tryz.prog ops Q rest (a.put o.dst v') w') : wpList Tryz.prog ops Q (o :: rest) a w := by
  obtain ⟨i0, hi, hz0, hz1, hz2⟩ := info_parts iStrR
  refine wpList_append_own w hgd s x _ ho base _ i0 _ 1 16 Tryz.underlying49 hi hz0 hz1 hz2 rfl (by decide) v _ _ hs hown ⟨g, 0, none⟩ news.length c (stCells news) hx (by rw [stCells_len, Nat.mul_one]) (fun j u hu => ?_) (stCells_one news) (by unfold maxLen; omega) (by omega) hbase (fun v' w' h1 h2 _ => h v' w' ?_ ((Below.refl _ _).grown h2 hbase fun k hk => (hown.lt k hk).1))
  · have hadd : (⟨g, 0, none⟩ : Addr).add j = ⟨g, j, none⟩ := by unfold Addr.add; split <;> simp_all
    rw [hadd]
    simp only [stCells, List.getElem?_map] at hu
    obtain ⟨l, hl, rfl⟩ := Option.map_eq_some_iff.1 hu
    exact hnews j l hl
  · show World.ownsRow _ _ _ _ _ _ _
    rw [List.length_append, ← stCells_app]
    exact h1
theorem sone_cell (w : World) (l : List UInt8) : ∀ j t, [l][j]? = some t → (w.alloc (.cells #[.string ⟨l.toArray⟩] 9)).cell? ⟨w.heap.size, j, none⟩ = some (.string ⟨t.toArray⟩) := by
  intro j t h
  have hj : j = 0 := by
    have := (List.getElem?_eq_some_iff.1 h).1
    simpa using this
  subst hj
  obtain rfl : l = t := by simpa using h
  rw [World.cell?_alloc_new]
  rfl
end Go.Proofs.YtjacgamgjjpllaaGreatDoor

/- What DevLetter answers. Helper text: no statement is claimed here. -/
namespace Go.Proofs.YtjacgamgjjpllaaGreatDoor
open Go.ChangeShapes Go.WideShapes Go.ChangeAt Go.RowKit
attribute [local go_sem] field_0 field_1 field_2 field_3 field_4

set_option maxHeartbeats 400000 in
theorem letter_any (k : Int) (w : World) (hT : DevTab w) :
    Calls Tryz.prog 75 #[.int .i64 k] w fun e w' => e = .returned (.string ⟨(rL (kz k)).toArray⟩) ∧ Below w.heap.size w w' := by
  go_enter Tryz.func75, Tryz.ntmps75
  go_wp2_with fail
  refine (rowOf_any _ _ hT).mono ?_
  rintro e w' ⟨rfl, hb⟩
  go_wp2
  go_ret
  exact ⟨rfl, hb⟩

end Go.Proofs.YtjacgamgjjpllaaGreatDoor

/- The document's DevSize. Helper text: no statement is claimed here. -/
namespace Go.Proofs.YtjacgamgjjpllaaGreatDoor
open Go.ChangeShapes Go.WideShapes Go.ChangeAt Go.RowKit

/-! The document's own. -/
theorem kind_cases (k : Int) : k = 1 ∨ k = 2 ∨ k = 3 ∨ k = 4 ∨ k = 5 ∨ k = 6 ∨ k = 7 ∨ k = 8 ∨ k = 9 ∨ k = 10 ∨ ((k == 1) = false ∧ (k == 2) = false ∧ (k == 3) = false ∧ (k == 4) = false ∧ (k == 5) = false ∧ (k == 6) = false ∧ (k == 7) = false ∧ (k == 8) = false ∧ (k == 9) = false ∧ (k == 10) = false ∧ rN (kz k) = 0) := by
  by_cases h : 1 ≤ k ∧ k ≤ 10
  · omega
  · right; right; right; right; right; right; right; right; right; right
    simp only [beq_eq_false_iff_ne, ne_eq]
    refine ⟨by omega, by omega, by omega, by omega, by omega, by omega, by omega, by omega, by omega, by omega, ?_⟩
    by_cases h2 : 1 ≤ k ∧ k ≤ 13
    · have : k = 11 ∨ k = 12 ∨ k = 13 := by omega
      rcases this with rfl | rfl | rfl <;> rfl
    · unfold kz; rw [if_neg h2]; rfl

set_option maxHeartbeats 400000 in
theorem ssize_any (k : Int) (w : World) :
    Calls Tryz.prog 98 #[.int .i64 k] w fun e w' => e = .returned (.int .i64 (rN (kz k))) ∧ w' = w := by
  rcases kind_cases k with rfl | rfl | rfl | rfl | rfl | rfl | rfl | rfl | rfl | rfl | ⟨h1, h2, h3, h4, h5, h6, h7, h8, h9, h10, h0⟩
  case inr.inr.inr.inr.inr.inr.inr.inr.inr.inr =>
    rw [h0]
    clear h0
    go_enter Tryz.func98, Tryz.ntmps98
    go_wp2
    go_ret
    exact ⟨rfl, rfl⟩
  all_goals
    go_enter Tryz.func98, Tryz.ntmps98
    go_wp2
    go_ret
    exact ⟨rfl, rfl⟩
end Go.Proofs.YtjacgamgjjpllaaGreatDoor
