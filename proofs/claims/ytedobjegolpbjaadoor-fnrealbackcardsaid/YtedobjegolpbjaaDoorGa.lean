/- Reading a real number: the library's Cut, ParseInt and Atoi, as they are asked. Helper text: no statement is claimed here. -/
import Derived.Test.YtedobjegolpbjaaDoorSn
import Derived.Test.YtedobjegolpbjaaDoorVf
import Derived.Lib.SmallJoins
namespace Go.Proofs.YtedobjegolpbjaaDoor
open Go.ChangeShapes Go.WideShapes Go.ChangeAt Go.RowKit Fl

/-- What the library's functions look up: two errors and a number. -/
structure LTab (w : World) : Prop where
  syn : ∃ t p, w.cell? ⟨4, 0, none⟩ = some (.iface t p)
  rng : ∃ t p, w.cell? ⟨5, 0, none⟩ = some (.iface t p)
  max : ∃ m, w.cell? ⟨3, 0, none⟩ = some (.int .i64 m)
theorem LTab.to {w w' : World} (h : LTab w) (hb : Below w.heap.size w w') : LTab w' := by
  obtain ⟨⟨a, b, h1⟩, ⟨c, d, h2⟩, ⟨m, h3⟩⟩ := h
  refine ⟨⟨a, b, ?_⟩, ⟨c, d, ?_⟩, ⟨m, ?_⟩⟩
  · rw [hb.cell (p := ⟨4, 0, none⟩) (World.block_lt_of_cell? w ⟨_, 0, none⟩ h1)]; exact h1
  · rw [hb.cell (p := ⟨5, 0, none⟩) (World.block_lt_of_cell? w ⟨_, 0, none⟩ h2)]; exact h2
  · rw [hb.cell (p := ⟨3, 0, none⟩) (World.block_lt_of_cell? w ⟨_, 0, none⟩ h3)]; exact h3

theorem cut_any (s : ByteArray) (w : World) (hs : s.size ≤ 2000000) (hL : LTab w) :
    Calls Tryd.prog 51 #[.string s, .string ⟨#[42, 50, 94]⟩] w fun e w' => e = .returned (.tuple #[.string ⟨(Lib.cut s.data.toList [42, 50, 94]).1.toArray⟩, .string ⟨(Lib.cut s.data.toList [42, 50, 94]).2.1.toArray⟩, .bool (Lib.cut s.data.toList [42, 50, 94]).2.2]) ∧ Below w.heap.size w w' := by
  obtain ⟨m, hm⟩ := hL.max
  exact (Any.strings_Cut Tryd.lays145 s ⟨#[42, 50, 94]⟩ m w (by omega) hm).mono fun _ _ ⟨he, n, hw⟩ => ⟨he, by rw [hw]; exact below_drewN (Below.refl _ _) n⟩

/-- What a reading of a numeral ends in. -/
def Numbered (good : Lib.NumEnd Int) (w : World) (e : Ending) (w' : World) : Prop :=
  ∃ (v : Int) (err : Value), e = .returned (.tuple #[.int .i64 v, err]) ∧ -9223372036854775808 ≤ v ∧ v ≤ 9223372036854775807 ∧ ((err = .nilIface ∧ good = .ok v) ∨ ((∃ t p, err = .iface t p) ∧ ∀ u, good ≠ .ok u)) ∧ Below w.heap.size w w'
theorem same_below {w w' : World} {e : TypeId} (h : w' = w ∨ ∃ t, w' = Lib.bytesWorld w e t) : Below w.heap.size w w' := by
  rcases h with rfl | ⟨t, rfl⟩
  · exact Below.refl _ _
  · exact Lib.bytesWorld_below w e t
theorem end_in {neg : Bool} {u : Nat} {v : Int} (h : (if ¬ (neg = true) ∧ 9223372036854775808 ≤ u then Lib.NumEnd.range else if neg = true ∧ 9223372036854775808 < u then Lib.NumEnd.range else Lib.NumEnd.ok (if neg = true then -(u : Int) else u)) = .ok v) : -9223372036854775808 ≤ v ∧ v ≤ 9223372036854775807 := by
  cases neg
  · by_cases h1 : 9223372036854775808 ≤ u
    · simp [h1] at h
    · simp [h1] at h; omega
  · by_cases h1 : 9223372036854775808 < u
    · simp [h1] at h
    · simp [h1] at h; omega
theorem ok_in64 {l : List UInt8} {v : Int} (h : Lib.parseIntB 64 l = .ok v) : -9223372036854775808 ≤ v ∧ v ≤ 9223372036854775807 := by
  have h63 : (2 ^ (64 - 1) : Nat) = 9223372036854775808 := rfl
  cases l with
  | nil => simp [Lib.parseIntB] at h
  | cons c r =>
    simp only [Lib.parseIntB, h63] at h
    generalize Lib.parseUintB 64 (if c.toNat = 43 ∨ c.toNat = 45 then r else c :: r) = q at h
    rcases q with u | _ | _
    · exact end_in (neg := decide (c.toNat = 45)) (u := u) (by simpa using h)
    · cases h
    · cases h
theorem ok_inAtoi {l : List UInt8} {v : Int} (h : Lib.atoiAll l = .ok v) : -9223372036854775808 ≤ v ∧ v ≤ 9223372036854775807 := by
  cases l with
  | nil => simp [Lib.atoiAll] at h
  | cons c r =>
    simp only [Lib.atoiAll] at h
    generalize Lib.parseMag (if c.toNat = 43 ∨ c.toNat = 45 then r else c :: r) = q at h
    rcases q with u | _ | _
    · exact end_in (neg := decide (c.toNat = 45)) (u := u) (by simpa using h)
    · cases h
    · cases h
theorem sat_in (l : List UInt8) : -9223372036854775808 ≤ Lib.intSat 64 l ∧ Lib.intSat 64 l ≤ 9223372036854775807 := by
  have h63 : (2 ^ (64 - 1) : Nat) = 9223372036854775808 := rfl
  unfold Lib.intSat
  rw [h63]
  split <;> omega
theorem sat_inAtoi (l : List UInt8) : -9223372036854775808 ≤ Lib.atoiSat l ∧ Lib.atoiSat l ≤ 9223372036854775807 := by
  unfold Lib.atoiSat
  split <;> omega

theorem parse_any (s : ByteArray) (w : World) (hs : s.size ≤ 2000000) (hL : LTab w) :
    Calls Tryd.prog 52 #[.string s, .int .i64 10, .int .i64 64] w (Numbered (Lib.parseIntB 64 s.data.toList) w) := by
  obtain ⟨⟨a, b, h1⟩, ⟨c, d, h2⟩, -⟩ := hL
  rcases h : Lib.parseIntB 64 s.data.toList with v | _ | _
  · have := ok_in64 h
    exact (Any.strconv_ParseInt_10_at64_ok Tryd.laysC174 s (by omega) v h w).mono fun _ _ ⟨he, hw⟩ => ⟨v, _, he, this.1, this.2, .inl ⟨rfl, rfl⟩, same_below hw⟩
  · exact (Any.strconv_ParseInt_10_at64_syntax Tryd.laysC174 s (by omega) h (.iface a b) w h1 (.inr ⟨a, b, rfl⟩)).mono fun _ _ ⟨N, he, _, _, hb⟩ => ⟨0, _, he, by omega, by omega, .inr ⟨⟨_, _, rfl⟩, fun _ h => by cases h⟩, hb⟩
  · have := sat_in s.data.toList
    exact (Any.strconv_ParseInt_10_at64_range Tryd.laysC174 s (by omega) h (.iface c d) w h2 (.inr ⟨c, d, rfl⟩)).mono fun _ _ ⟨N, he, _, _, hb⟩ => ⟨_, _, he, this.1, this.2, .inr ⟨⟨_, _, rfl⟩, fun _ h => by cases h⟩, hb⟩
theorem atoi_any (s : ByteArray) (w : World) (hs : s.size ≤ 2000000) (hL : LTab w) :
    Calls Tryd.prog 53 #[.string s] w (Numbered (Lib.atoiAll s.data.toList) w) := by
  obtain ⟨⟨a, b, h1⟩, ⟨c, d, h2⟩, -⟩ := hL
  rcases h : Lib.atoiAll s.data.toList with v | _ | _
  · have := ok_inAtoi h
    exact (Any.strconv_Atoi_ok Tryd.laysC172 s (by omega) v h w).mono fun _ _ ⟨he, hw⟩ => ⟨v, _, he, this.1, this.2, .inl ⟨rfl, rfl⟩, same_below hw⟩
  · exact (Any.strconv_Atoi_syntax Tryd.laysC172 s (by omega) h (.iface a b) w h1 (.inr ⟨a, b, rfl⟩)).mono fun _ _ ⟨N, he, _, _, hb⟩ => ⟨0, _, he, by omega, by omega, .inr ⟨⟨_, _, rfl⟩, fun _ h => by cases h⟩, hb⟩
  · have := sat_inAtoi s.data.toList
    exact (Any.strconv_Atoi_range Tryd.laysC172 s (by omega) h (.iface c d) w h2 (.inr ⟨c, d, rfl⟩)).mono fun _ _ ⟨N, he, _, _, hb⟩ => ⟨_, _, he, this.1, this.2, .inr ⟨⟨_, _, rfl⟩, fun _ h => by cases h⟩, hb⟩
end Go.Proofs.YtedobjegolpbjaaDoor
