/- The document's TreeSize. Helper text: no statement is claimed here. -/
import Derived.Test.YtkkkjhlbkmcjiaaQd
namespace Go.Proofs.Ytkkkjhlbkmcjiaa.Tr
open Go.ChangeShapes Go.WideShapes Go.ChangeAt Go.RowKit

/-- How many nets there are, from one on. -/
def pN : (n : Nat) → NT n → Nat
  | 0, _ => 0
  | n + 1, t => 1 + tot (pN n) t.kids
/-- A net is none. -/
def isNone {n : Nat} (t : NT (n + 1)) : Bool := decide (t.kind = 0) && decide (t.el.1 = 0) && decide (t.el.2.length = 0) && decide (t.kids.length = 0)
/-- How many parts an arm has. -/
def pA (k : Nat) : (n : Nat) → AT k n → Nat
  | 0, _ => 0
  | n + 1, a => 1 + a.coils.length + (if isNone a.net then 0 else pN (k + 1) a.net) + tot (pA k n) a.kids
theorem tot_one {α : Type} (f : α → Nat) : ∀ ts : List α, tot (fun t => 1 + f t) ts = ts.length + tot f ts
  | [] => rfl
  | t :: ts => by rw [tot_cons, tot_cons, tot_one f ts, List.length_cons]; omega
theorem tot_two {α : Type} (f : α → Nat) : ∀ ts : List α, tot (fun t => 2 + 2 * f t) ts = 2 * ts.length + 2 * tot f ts
  | [] => rfl
  | t :: ts => by rw [tot_cons, tot_cons, tot_two f ts, List.length_cons]; omega
theorem pN_le : ∀ (n : Nat) (t : NT n), pN n t ≤ 1 + zN n t
  | 0, t => Empty.elim t
  | n + 1, t => by
    have h := tot_mono t.kids (f := pN n) (g := fun u => 1 + zN n u) (fun u _ => pN_le n u)
    rw [tot_one] at h
    show 1 + tot (pN n) t.kids ≤ 1 + (zEl t.el + (t.kids.length + tot (zN n) t.kids))
    omega
theorem pA_le (k : Nat) : ∀ (n : Nat) (a : AT k n), pA k n a ≤ 2 + 2 * zA k n a
  | 0, t => Empty.elim t
  | n + 1, a => by
    have h := tot_mono a.kids (f := pA k n) (g := fun u => 2 + 2 * zA k n u) (fun u _ => pA_le k n u)
    rw [tot_two] at h
    have h2 := pN_le (k + 1) a.net
    show 1 + a.coils.length + (if isNone a.net then 0 else pN (k + 1) a.net) + tot (pA k n) a.kids ≤ 2 + 2 * (zN (k + 1) a.net + (a.coils.length + tot zEl a.coils) + (a.kids.length + tot (zA k n) a.kids))
    split <;> omega
theorem pN_succ (n : Nat) (t : NT (n + 1)) : pN (n + 1) t = 1 + tot (pN n) t.kids := rfl
theorem pA_succ (k n : Nat) (a : AT k (n + 1)) : pA k (n + 1) a = 1 + a.coils.length + (if isNone a.net then 0 else pN (k + 1) a.net) + tot (pA k n) a.kids := rfl

set_option maxHeartbeats 1000000 in
theorem sNone_any (kd op : Int) (pa : Option Addr) (la ca : Nat) (pk : Option Addr) (lk ck : Nat) (w : World) :
    Calls Try.prog 31 #[.agg #[.int .i64 kd, .int .i64 op, .slice pa la ca, .slice pk lk ck]] w fun r w' => r = .returned (.bool (decide (kd = 0) && decide (op = 0) && decide (la = 0) && decide (lk = 0))) ∧ Below w.heap.size w w' := by
  by_cases h1 : kd = 0
  · by_cases h2 : op = 0
    · by_cases h3 : la = 0
      · by_cases h4 : lk = 0
        · subst h1 h2 h3 h4
          go_enter Try.func31, Try.ntmps31
          go_wp2
          go_ret
          exact ⟨rfl, one _ _⟩
        · subst h1 h2 h3
          rw [decide_eq_false h4]
          have h4' : ((lk : Int) == 0) = false := by simpa using h4
          go_enter Try.func31, Try.ntmps31
          go_wp2
          go_ret
          exact ⟨rfl, one _ _⟩
      · subst h1 h2
        rw [decide_eq_false h3]
        have h3' : ¬ (la : Int) = 0 := by omega
        go_enter Try.func31, Try.ntmps31
        go_wp2
        go_ret
        exact ⟨rfl, one _ _⟩
    · subst h1
      rw [decide_eq_false h2]
      go_enter Try.func31, Try.ntmps31
      go_wp2
      go_ret
      exact ⟨rfl, one _ _⟩
  · rw [decide_eq_false h1]
    go_enter Try.func31, Try.ntmps31
    go_wp2
    go_ret
    exact ⟨rfl, one _ _⟩

/-- The document's count of nets of a depth below n. -/
def SpN (n : Nat) : Prop := ∀ (S : Nat → Prop) (w : World) (_ : ∀ b, S b → b < w.heap.size) (v : Value) (t : NT n) (_ : NtV S w n v t) (_ : zN n t ≤ 1048576),
    Calls Try.prog 32 #[v] w fun r w' => r = .returned (.int .i64 (pN n t)) ∧ Below w.heap.size w w'
set_option maxHeartbeats 1000000 in
theorem sNet_next (n : Nat) (IH : SpN n) : SpN (n + 1) := by
  intro S w hSw v t hV hbd
  obtain ⟨pa, ca, pk, ck, rfl, hA, hK⟩ := hV
  rw [zN_succ] at hbd
  rw [pN_succ]
  have HSw : Hid (∀ b, S b → b < w.heap.size) := hSw
  have HV : Hid (SlOf S (NtE S w n) 4 pk ck t.kids) := hK
  have HI : Hid (SpN n) := IH
  obtain ⟨⟨hl1, hl2⟩, -⟩ := hK
  have HZ : Hid (zNs n t.kids ≤ 1048576) := Nat.le_trans (by omega) hbd
  have hpn : tot (pN n) t.kids ≤ 1048576 := by
    have h := tot_mono t.kids (f := pN n) (g := fun u => 1 + zN n u) (fun u _ => pN_le n u)
    rw [tot_one] at h
    have := HZ.out
    unfold zNs at this
    omega
  generalize t.kids = es at *
  generalize t.kind = kd at *
  generalize t.el.1 = op at *
  generalize t.el.2.length = la at *
  clear hSw hA hbd IH
  obtain ⟨R, hR⟩ : ∃ R : Int, R = ((1 + tot (pN n) es : Nat) : Int) := ⟨_, rfl⟩
  rw [← hR]
  have HR : Hid (R = ((1 + tot (pN n) es : Nat) : Int)) := hR
  clear hR
  go_enter Try.func32, Try.ntmps32
  go_wp2
  have HBa : Hid (Below w.heap.size w (w.alloc (.cells #[.int .i64 kd, .int .i64 op, .slice pa la ca, .slice pk es.length ck] 52))) := one _ _
  have HLa : Hid ((w.alloc (.cells #[.int .i64 kd, .int .i64 op, .slice pa la ca, .slice pk es.length ck] 52)).cell? ⟨w.heap.size, 3, none⟩ = some (.slice pk es.length ck)) := by
    show _ = _
    rw [World.cell?_alloc_mark]; rfl
  generalize w.alloc (.cells #[.int .i64 kd, .int .i64 op, .slice pa la ca, .slice pk es.length ck] 52) = V at *
  go_loopw [3, 4] (fun c d w' => ∃ j : Nat, j ≤ es.length ∧ c = .int .i64 ((1 + tot (pN n) (es.take j) : Nat) : Int) ∧ d = .int .i64 (j : Int) ∧ Hid (Below V.heap.size V w')) (fun _ d _ => es.length - (intOf d).toNat)
  case atStart => exact ⟨0, by omega, rfl, rfl, Below.refl _ _⟩
  case round =>
    obtain ⟨j, hj, rfl, rfl, HB⟩ := hrel
    rename_i wr
    have c3 := keep2 HB.out HLa.out
    have HBw : Hid (Below w.heap.size w wr) := HBa.out.trans (HB.out.mono HBa.out.size)
    by_cases hlt : j < es.length
    · have hlt' : (j : Int) < (es.length : Int) := by omega
      obtain ⟨u, hu⟩ := get_lt hlt
      have hbd := tot_next (pN n) hu
      have hle := tot_le (pN n) es (j + 1)
      obtain ⟨b, off, rfl, hb, hE⟩ := (nets_to (Keep.of HBw.out HSw.out) (fun _ h => h) HV.out).get hu
      obtain ⟨kd', op', pa', la', ca', pk', lk', ck', e0, e1, e2, e3, hN⟩ := hE.out
      have HC : Hid (Calls Try.prog 32 #[.agg #[.int .i64 kd', .int .i64 op', .slice pa' la' ca', .slice pk' lk' ck']] wr fun r w' => r = .returned (.int .i64 (pN n u)) ∧ Below wr.heap.size wr w') :=
        HI.out S wr (fun b hb => Nat.lt_of_lt_of_le (HSw.out b hb) HBw.out.size) _ u hN (by have := tot_get (zN n) hu; have := HZ.out; unfold zNs at this; omega)
      clear hN hE HR
      generalize hZ : pN n u = z at *
      generalize hT : tot (pN n) (es.take j) = T at *
      go_wp2_with fail
      refine HC.out.mono ?_
      rintro e w1 ⟨rfl, hb1⟩
      have HB1 : Hid (Below V.heap.size V w1) := HB.out.trans (hb1.mono HB.out.size)
      clear hb1
      go_wp2
      exact ⟨⟨j + 1, by omega, by congr 1; omega, by go_num, HB1⟩, by simp [intOf]; omega⟩
    · obtain rfl : j = es.length := by omega
      have HR1 : Hid (R = ((1 + tot (pN n) (es.take es.length) : Nat) : Int)) := by
        rw [List.take_length]
        exact HR.out
      generalize ((1 + tot (pN n) (es.take es.length) : Nat) : Int) = L at *
      go_wp2
      go_ret
      exact ⟨by rw [HR1.out]; rfl, HBw.out⟩
theorem sNet_any : ∀ n, SpN n
  | 0 => fun _ _ _ _ _ h => h.elim
  | n + 1 => sNet_next n (sNet_any n)
end Go.Proofs.Ytkkkjhlbkmcjiaa.Tr
