/- Package date as plain functions on numbers, and what follows from them: days, years, seconds. No program is named here. -/
import Derived.Lib.ItoaNum
namespace Go.Proofs.YtgkibkophoikoaaDoor.Dt
set_option linter.unusedVariables false
set_option linter.unusedSimpArgs false
set_option maxRecDepth 100000

/-! ## the calendar -/
def leap (y : Nat) : Bool := y % 4 == 0 && (y % 100 != 0 || y % 400 == 0)
def dm (y m : Nat) : Nat := if m = 2 then (if leap y then 29 else 28) else if m = 4 ∨ m = 6 ∨ m = 9 ∨ m = 11 then 30 else 31
theorem ahead_ex : ∃ f : Nat → Nat, ∀ y, f y = 365 * (y - 1) + (y - 1) / 4 - (y - 1) / 100 + (y - 1) / 400 - 719162 := ⟨_, fun _ => rfl⟩
/-- The days ahead of a year, since 1970. -/
noncomputable def ahead : Nat → Nat := Classical.choose ahead_ex
theorem ahead_is (y : Nat) : ahead y = 365 * (y - 1) + (y - 1) / 4 - (y - 1) / 100 + (y - 1) / 400 - 719162 := Classical.choose_spec ahead_ex y
def ylen (y : Nat) : Nat := if leap y then 366 else 365
/-- The days of a year's first k months. -/
def ms (y : Nat) : Nat → Nat
  | 0 => 0
  | k + 1 => ms y k + dm y (k + 1)
noncomputable def num (y m k : Nat) : Nat := ahead y + ms y (m - 1) + (k - 1)

theorem leap_iff (y : Nat) : leap y = true ↔ y % 4 = 0 ∧ (y % 100 ≠ 0 ∨ y % 400 = 0) := by simp [leap]
theorem dm_pos (y m : Nat) : 28 ≤ dm y m ∧ dm y m ≤ 31 := by
  unfold dm
  split
  · split <;> omega
  · split <;> omega
/-- The days ahead, by the year's predecessor. -/
def bef (z : Nat) : Nat := 365 * z + z / 4 - z / 100 + z / 400
theorem bef_next (z : Nat) : bef (z + 1) = bef z + ylen (z + 1) := by
  unfold bef ylen
  have d4 : (z + 1) / 4 = z / 4 + (if (z + 1) % 4 = 0 then 1 else 0) := by split <;> omega
  have d100 : (z + 1) / 100 = z / 100 + (if (z + 1) % 100 = 0 then 1 else 0) := by split <;> omega
  have d400 : (z + 1) / 400 = z / 400 + (if (z + 1) % 400 = 0 then 1 else 0) := by split <;> omega
  have k1 : (z + 1) % 400 = 0 → (z + 1) % 100 = 0 := by omega
  have k2 : (z + 1) % 100 = 0 → (z + 1) % 4 = 0 := by omega
  have k3 : z / 100 ≤ z / 4 := by omega
  have hl := leap_iff (z + 1)
  rw [d4, d100, d400]
  generalize z / 4 = a at *
  generalize z / 100 = b at *
  generalize z / 400 = c at *
  by_cases h4 : (z + 1) % 4 = 0
  · by_cases h100 : (z + 1) % 100 = 0
    · by_cases h400 : (z + 1) % 400 = 0
      · rw [if_pos h4, if_pos h100, if_pos h400, if_pos (hl.2 ⟨h4, .inr h400⟩)]; omega
      · rw [if_pos h4, if_pos h100, if_neg h400, if_neg (fun h => (hl.1 h).2.elim (fun g => g h100) h400)]; omega
    · have h400 : ¬ (z + 1) % 400 = 0 := fun h => h100 (k1 h)
      rw [if_pos h4, if_neg h100, if_neg h400, if_pos (hl.2 ⟨h4, .inl h100⟩)]; omega
  · have h100 : ¬ (z + 1) % 100 = 0 := fun h => h4 (k2 h)
    have h400 : ¬ (z + 1) % 400 = 0 := fun h => h100 (k1 h)
    rw [if_neg h4, if_neg h100, if_neg h400, if_neg (fun h => h4 (hl.1 h).1)]; omega
theorem bef_ge (k : Nat) : 719162 ≤ bef (1969 + k) := by
  induction k with
  | zero => decide
  | succ k ih =>
    have := bef_next (1969 + k)
    rw [← Nat.add_assoc, this]
    exact Nat.le_trans ih (Nat.le_add_right _ _)
theorem ahead_bef (y : Nat) : ahead y = bef (y - 1) - 719162 := ahead_is y
theorem ahead_next (y : Nat) (h : 1970 ≤ y) : ahead (y + 1) = ahead y + ylen y := by
  rw [ahead_bef, ahead_bef]
  obtain ⟨k, rfl⟩ : ∃ k, y = 1969 + k + 1 := ⟨y - 1970, by omega⟩
  have h1 := bef_next (1969 + k)
  have h2 := bef_ge k
  simp only [Nat.add_sub_cancel]
  generalize 1969 + k = q at *
  generalize bef (q + 1) = u at *
  generalize bef q = v at *
  generalize ylen (q + 1) = l at *
  omega
theorem ahead_1970 : ahead 1970 = 0 := by rw [ahead_is]
theorem ahead_10000 : ahead 10000 = 2932897 := by rw [ahead_is]
theorem ylen_pos (y : Nat) : 365 ≤ ylen y ∧ ylen y ≤ 366 := by unfold ylen; split <;> omega
theorem ahead_mono (y k : Nat) (h : 1970 ≤ y) : ahead y + 365 * k ≤ ahead (y + k) ∧ ahead (y + k) ≤ ahead y + 366 * k := by
  induction k with
  | zero => exact ⟨Nat.le_refl _, Nat.le_refl _⟩
  | succ k ih =>
    have h1 := ahead_next (y + k) (by omega)
    have h2 := ylen_pos (y + k)
    rw [← Nat.add_assoc, h1]
    clear h1
    generalize ahead (y + k) = a at *
    generalize ahead y = b at *
    generalize ylen (y + k) = c at *
    omega
theorem ahead_le {y z : Nat} (h : 1970 ≤ y) (hz : y ≤ z) : ahead y ≤ ahead z := by
  have := ahead_mono y (z - y) h
  rw [show y + (z - y) = z by omega] at this
  omega
theorem ahead_top (y : Nat) (h : 1970 ≤ y) (h2 : y ≤ 10000) : ahead y ≤ 2932897 := by
  have := ahead_le h h2
  rw [ahead_10000] at this
  exact this
/-- Where dayOf begins. -/
theorem ahead_first (n : Nat) : ahead (1970 + n / 366) ≤ n := by
  have := (ahead_mono 1970 (n / 366) (Nat.le_refl _)).2
  rw [ahead_1970] at this
  omega
theorem ms_next (y k : Nat) : ms y (k + 1) = ms y k + dm y (k + 1) := rfl
theorem ms_12 (y : Nat) : ms y 12 = ylen y := by
  cases h : leap y <;> simp [ms, dm, ylen, h]
theorem ms_mono (y k j : Nat) : ms y k ≤ ms y (k + j) := by
  induction j with
  | zero => exact Nat.le_refl _
  | succ j ih => rw [← Nat.add_assoc, ms_next]; omega
theorem ms_le (y : Nat) {k j : Nat} (h : k ≤ j) : ms y k ≤ ms y j := by
  have := ms_mono y k (j - k)
  rwa [show k + (j - k) = j by omega] at this
theorem ms_year (y : Nat) {k : Nat} (h : k ≤ 12) : ms y k ≤ ylen y := by rw [← ms_12]; exact ms_le y h

/-! ## a date -/
structure D where
  year : Int
  month : Int
  day : Int
  hour : Int
  min : Int
  sec : Int
  zone : Int
def zero : D := ⟨0, 0, 0, 0, 0, 0, 0⟩
def GDay (y m k : Int) : Prop := 1970 ≤ y ∧ y ≤ 9999 ∧ 1 ≤ m ∧ m ≤ 12 ∧ 1 ≤ k ∧ k ≤ (dm y.toNat m.toNat : Int)
def GZone (z : Int) : Prop := -1439 ≤ z ∧ z ≤ 1439
def Good (d : D) : Prop := GDay d.year d.month d.day ∧ (0 ≤ d.hour ∧ d.hour ≤ 23) ∧ (0 ≤ d.min ∧ d.min ≤ 59) ∧ (0 ≤ d.sec ∧ d.sec ≤ 59) ∧ GZone d.zone
instance (y m k : Int) : Decidable (GDay y m k) := by unfold GDay; infer_instance
instance (z : Int) : Decidable (GZone z) := by unfold GZone; infer_instance
instance (d : D) : Decidable (Good d) := by unfold Good; infer_instance
noncomputable def dnum (y m k : Int) : Int := (num y.toNat m.toNat k.toNat : Int)
noncomputable def unix (d : D) : Int := 86400 * dnum d.year d.month d.day + (d.hour * 3600 + d.min * 60 + d.sec) - d.zone * 60

/-- A good date in Nats. -/
theorem Good.nat {d : D} (h : Good d) : ∃ y m k hh mi s : Nat, d = ⟨y, m, k, hh, mi, s, d.zone⟩ ∧ 1970 ≤ y ∧ y ≤ 9999 ∧ 1 ≤ m ∧ m ≤ 12 ∧ 1 ≤ k ∧ k ≤ dm y m ∧ hh ≤ 23 ∧ mi ≤ 59 ∧ s ≤ 59 ∧ -1439 ≤ d.zone ∧ d.zone ≤ 1439 := by
  obtain ⟨⟨a1, a2, a3, a4, a5, a6⟩, ⟨b1, b2⟩, ⟨c1, c2⟩, ⟨e1, e2⟩, f1, f2⟩ := h
  obtain ⟨y, m, k, hh, mi, s, z⟩ := d
  simp only at *
  refine ⟨y.toNat, m.toNat, k.toNat, hh.toNat, mi.toNat, s.toNat, ?_, by omega, by omega, by omega, by omega, by omega, by omega, by omega, by omega, by omega, f1, f2⟩
  congr 1 <;> omega
theorem good_of {y m k hh mi s : Nat} {z : Int} (h1 : 1970 ≤ y) (h2 : y ≤ 9999) (h3 : 1 ≤ m) (h4 : m ≤ 12) (h5 : 1 ≤ k) (h6 : k ≤ dm y m) (h7 : hh ≤ 23) (h8 : mi ≤ 59) (h9 : s ≤ 59) (h10 : -1439 ≤ z) (h11 : z ≤ 1439) : Good ⟨y, m, k, hh, mi, s, z⟩ := by
  refine ⟨⟨?_, ?_, ?_, ?_, ?_, ?_⟩, ⟨?_, ?_⟩, ⟨?_, ?_⟩, ⟨?_, ?_⟩, h10, h11⟩ <;> simp only [Int.toNat_natCast] <;> omega
theorem num_year {y m k : Nat} (h1 : 1970 ≤ y) (h3 : 1 ≤ m) (h4 : m ≤ 12) (h5 : 1 ≤ k) (h6 : k ≤ dm y m) : ahead y ≤ num y m k ∧ num y m k < ahead (y + 1) := by
  have e1 := ahead_next y h1
  have e2 := ms_next y (m - 1)
  rw [show m - 1 + 1 = m by omega] at e2
  have e3 := ms_year y h4
  unfold num
  omega
theorem num_lt_top {y m k : Nat} (h1 : 1970 ≤ y) (h2 : y ≤ 9999) (h3 : 1 ≤ m) (h4 : m ≤ 12) (h5 : 1 ≤ k) (h6 : k ≤ dm y m) : num y m k < 2932897 := by
  have e1 := (num_year h1 h3 h4 h5 h6).2
  have e2 := ahead_top (y + 1) (by omega) (by omega)
  omega
theorem num_lt_year {y m k y' m' k' : Nat} (h1 : 1970 ≤ y) (h3 : 1 ≤ m) (h4 : m ≤ 12) (h5 : 1 ≤ k) (h6 : k ≤ dm y m) (h3' : 1 ≤ m') (h4' : m' ≤ 12) (h5' : 1 ≤ k') (h6' : k' ≤ dm y' m') (h : y < y') : num y m k < num y' m' k' := by
  have e1 := (num_year h1 h3 h4 h5 h6).2
  have e2 := (num_year (y := y') (by omega) h3' h4' h5' h6').1
  have e3 := ahead_le (y := y + 1) (z := y') (by omega) h
  omega
theorem num_lt_month {y m k m' k' : Nat} (h3 : 1 ≤ m) (h5 : 1 ≤ k) (h6 : k ≤ dm y m) (h5' : 1 ≤ k') (h : m < m') : num y m k < num y m' k' := by
  have e2 := ms_next y (m - 1)
  rw [show m - 1 + 1 = m by omega] at e2
  have e3 := ms_le y (k := m) (j := m' - 1) (by omega)
  unfold num
  omega
theorem num_lt_day {y m k k' : Nat} (h5 : 1 ≤ k) (h : k < k') : num y m k < num y m k' := by unfold num; omega

/-- The earlier one by its fields, from the year to the second. -/
def Lex (a b : D) : Prop := a.year < b.year ∨ a.year = b.year ∧ (a.month < b.month ∨ a.month = b.month ∧ (a.day < b.day ∨ a.day = b.day ∧ (a.hour < b.hour ∨ a.hour = b.hour ∧ (a.min < b.min ∨ a.min = b.min ∧ a.sec < b.sec))))
theorem unix_lt {a b : D} (ha : Good a) (hb : Good b) (hz : a.zone = b.zone) (h : Lex a b) : unix a < unix b := by
  obtain ⟨y, m, k, hh, mi, s, ea, a1, a2, a3, a4, a5, a6, a7, a8, a9, _, _⟩ := ha.nat
  obtain ⟨y', m', k', hh', mi', s', eb, b1, b2, b3, b4, b5, b6, b7, b8, b9, _, _⟩ := hb.nat
  rw [hz] at ea
  generalize b.zone = z at ea eb
  subst ea eb
  simp only [Lex] at h
  simp only [unix, dnum, Int.toNat_natCast]
  have hday : num y m k < num y' m' k' → 86400 * (num y m k : Int) + ((hh : Int) * 3600 + (mi : Int) * 60 + (s : Int)) - z * 60 < 86400 * (num y' m' k' : Int) + ((hh' : Int) * 3600 + (mi' : Int) * 60 + (s' : Int)) - z * 60 := fun h => by omega
  rcases h with h | ⟨h0, h | ⟨h1, h | ⟨h2, h⟩⟩⟩
  · exact hday (num_lt_year a1 a3 a4 a5 a6 b3 b4 b5 b6 (by omega))
  · obtain rfl : y = y' := by omega
    exact hday (num_lt_month a3 a5 a6 b5 (by omega))
  · obtain rfl : y = y' := by omega
    obtain rfl : m = m' := by omega
    exact hday (num_lt_day a5 (by omega))
  · obtain rfl : y = y' := by omega
    obtain rfl : m = m' := by omega
    obtain rfl : k = k' := by omega
    omega
theorem lex_or (a b : D) : Lex a b ∨ Lex b a ∨ (a.year = b.year ∧ a.month = b.month ∧ a.day = b.day ∧ a.hour = b.hour ∧ a.min = b.min ∧ a.sec = b.sec) := by
  unfold Lex
  omega
theorem unix_inj {a b : D} (ha : Good a) (hb : Good b) (hz : a.zone = b.zone) (h : unix a = unix b) : a = b := by
  rcases lex_or a b with hl | hl | ⟨h1, h2, h3, h4, h5, h6⟩
  · have := unix_lt ha hb hz hl; omega
  · have := unix_lt hb ha hz.symm hl; omega
  · cases a; cases b; simp only at *; subst_vars; rfl
theorem unix_ge {d : D} (h : Good d) : 0 ≤ unix d + d.zone * 60 ∧ unix d + d.zone * 60 < 253402300800 := by
  obtain ⟨y, m, k, hh, mi, s, ea, a1, a2, a3, a4, a5, a6, a7, a8, a9, _, _⟩ := h.nat
  generalize d.zone = z at ea
  subst ea
  have := num_lt_top a1 a2 a3 a4 a5 a6
  simp only [unix, dnum, Int.toNat_natCast]
  omega

/-! ## Of -/
/-- What Of hands back: the date at that place, at that moment; nothing, where there is none. -/
def OfR (u z : Int) : Option D → Prop
  | none => ∀ d, Good d → d.zone = z → unix d ≠ u
  | some d => Good d ∧ d.zone = z ∧ unix d = u
theorem OfR.one {u z : Int} {r r' : Option D} (h : OfR u z r) (h' : OfR u z r') : r = r' := by
  cases r with
  | none =>
    cases r' with
    | none => rfl
    | some d => exact absurd h'.2.2 (h d h'.1 h'.2.1)
  | some d =>
    cases r' with
    | none => exact absurd h.2.2 (h' d h.1 h.2.1)
    | some d' => rw [unix_inj h.1 h'.1 (h.2.1.trans h'.2.1.symm) (h.2.2.trans h'.2.2.symm)]
theorem OfR.zone {u z : Int} (h : ¬ GZone z) : OfR u z none := fun d hd hz _ => h (by rw [← hz]; exact hd.2.2.2.2)
theorem OfR.far {u z : Int} (h : u + z * 60 < 0 ∨ 253402300800 ≤ u + z * 60) : OfR u z none := fun d hd hz e => by
  have := unix_ge hd
  rw [hz, e] at this
  omega
/-- The day's number, the seconds of the day. -/
theorem OfR.at {n y m k t : Nat} {u z : Int} (hz : GZone z) (hu : u + z * 60 = 86400 * (n : Int) + (t : Int)) (ht : t < 86400) (h1 : 1970 ≤ y) (h2 : y ≤ 9999) (h3 : 1 ≤ m) (h4 : m ≤ 12) (h5 : 1 ≤ k) (h6 : k ≤ dm y m) (hn : num y m k = n) :
    OfR u z (some ⟨y, m, k, ((t / 3600 : Nat) : Int), ((t % 3600 / 60 : Nat) : Int), ((t % 60 : Nat) : Int), z⟩) := by
  refine ⟨good_of h1 h2 h3 h4 h5 h6 (by omega) (by omega) (by omega) hz.1 hz.2, rfl, ?_⟩
  simp only [unix, dnum, Int.toNat_natCast]
  rw [hn]
  omega
/-- The month's and the day's place in the year. -/
theorem place {y n : Nat} (h1 : 1970 ≤ y) (ha : ahead y ≤ n) (hb : n < ahead (y + 1)) {k l : Nat} (hk : k ≤ 11) (hl : ms y k + l = n - ahead y) (hlt : l < dm y (k + 1)) : 1 ≤ k + 1 ∧ k + 1 ≤ 12 ∧ 1 ≤ l + 1 ∧ l + 1 ≤ dm y (k + 1) ∧ num y (k + 1) (l + 1) = n := by
  refine ⟨by omega, by omega, by omega, by omega, ?_⟩
  unfold num
  simp only [Nat.add_sub_cancel]
  omega
/-- While the months are passed there is a month left. -/
theorem left_lt {y n : Nat} (h1 : 1970 ≤ y) (ha : ahead y ≤ n) (hb : n < ahead (y + 1)) {k l : Nat} (hk : k ≤ 12) (hl : ms y k + l = n - ahead y) : k ≤ 11 := by
  have e := ahead_next y h1
  by_cases h : k = 12
  · subst h
    rw [ms_12] at hl
    omega
  · omega
end Go.Proofs.YtgkibkophoikoaaDoor.Dt
