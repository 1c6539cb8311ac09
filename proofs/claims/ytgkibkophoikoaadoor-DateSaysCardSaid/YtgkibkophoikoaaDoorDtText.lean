/- Dates as text, as plain functions on bytes: what Show writes, what Parse and Day read. No program is named here. -/
import Derived.Test.YtgkibkophoikoaaDoorDtPure
import Derived.Test.YtgkibkophoikoaaDoorNumPure
import Derived.Test.YtgkibkophoikoaaDoorSqPure
import Derived.Lib.Fold
namespace Go.Proofs.YtgkibkophoikoaaDoor.Dt
open Oct
set_option linter.unusedVariables false
set_option linter.unusedSimpArgs false
set_option maxRecDepth 100000

def dg (k : Nat) : UInt8 := UInt8.ofNat (48 + k)
theorem dg_nat (k : Nat) (h : k < 208) : (dg k).toNat = 48 + k := by unfold dg; rw [UInt8.toNat_ofNat', Nat.mod_eq_of_lt (by omega)]
def two (n : Nat) : List UInt8 := [dg (n / 10), dg (n % 10)]
def four (y : Nat) : List UInt8 := [dg (y / 1000), dg (y / 100 % 10), dg (y / 10 % 10), dg (y % 10)]
theorem four_dec (y : Nat) (h : 1000 ≤ y) (h2 : y ≤ 9999) : Lib.decDigits y = four y := by
  rw [Lib.decDigits, dif_neg (by omega), Lib.decDigits, dif_neg (by omega), Lib.decDigits, dif_neg (by omega), Lib.decDigits_one (by omega)]
  unfold four dg
  have e1 : y / 10 / 10 / 10 = y / 1000 := by omega
  have e2 : y / 10 / 10 % 10 = y / 100 % 10 := by omega
  rw [e1, e2]
  rfl
def mname (m : Nat) : List UInt8 :=
  if m = 1 then [74, 97, 110] else if m = 2 then [70, 101, 98] else if m = 3 then [77, 97, 114] else if m = 4 then [65, 112, 114] else if m = 5 then [77, 97, 121] else if m = 6 then [74, 117, 110]
  else if m = 7 then [74, 117, 108] else if m = 8 then [65, 117, 103] else if m = 9 then [83, 101, 112] else if m = 10 then [79, 99, 116] else if m = 11 then [78, 111, 118] else [68, 101, 99]
def mnames : List UInt8 := [74, 97, 110, 70, 101, 98, 77, 97, 114, 65, 112, 114, 77, 97, 121, 74, 117, 110, 74, 117, 108, 65, 117, 103, 83, 101, 112, 79, 99, 116, 78, 111, 118, 68, 101, 99]
theorem mname_at : ∀ m : Fin 13, 1 ≤ m.val → (mnames.drop ((m.val - 1) * 3)).take 3 = mname m.val := by decide
theorem mname_len (m : Nat) : (mname m).length = 3 := by
  unfold mname
  repeat' split
  all_goals rfl

/-! ## Show -/
def shownN (y m k hh mi s : Nat) (neg : Bool) (z : Nat) : List UInt8 :=
  (if k < 10 then 32 else dg (k / 10)) :: dg (k % 10) :: 45 :: (mname m ++ (45 :: (four y ++ (32 :: (two hh ++ (58 :: (two mi ++ (58 :: (two s ++ (32 :: (if neg then 45 else 43) :: (two (z / 60) ++ two (z % 60))))))))))))
def text (d : D) : List UInt8 := shownN d.year.toNat d.month.toNat d.day.toNat d.hour.toNat d.min.toNat d.sec.toNat (decide (d.zone < 0)) d.zone.natAbs
def shown (d : D) : List UInt8 := if Good d then text d else []
theorem mname_cases (m : Nat) : ∃ a b c, mname m = [a, b, c] := by
  have := mname_len m
  match h : mname m, this with
  | [a, b, c], _ => exact ⟨a, b, c, rfl⟩
theorem text_len (d : D) : (text d).length = 26 := by
  unfold text shownN
  obtain ⟨a, b, c, e⟩ := mname_cases d.month.toNat
  rw [e]
  rfl
theorem shown_good {d : D} (h : Good d) : shown d = text d := if_pos h
theorem shown_bad {d : D} (h : ¬ Good d) : shown d = [] := if_neg h

/-! ## numbers -/
def number (l : List UInt8) : Int := if l.all digB then (numTo l : Int) else -1
theorem number_yes {l : List UInt8} (h : l.all digB = true) : number l = (numTo l : Int) := by unfold number; rw [if_pos h]
theorem number_no {l : List UInt8} (h : l.all digB = false) : number l = -1 := by unfold number; rw [h]; rfl
theorem number_le (l : List UInt8) (h : l.length ≤ 4) : -1 ≤ number l ∧ number l ≤ 9999 := by
  unfold number
  split
  · rename_i h1
    have := numTo_lt l.length l rfl h1
    have h2 : 10 ^ l.length ≤ 10 ^ 4 := Nat.pow_le_pow_right (by decide) h
    have h3 : (10 : Nat) ^ 4 = 10000 := by decide
    omega
  · omega
theorem digB_dg (k : Nat) (h : k < 10) : digB (dg k) = true := by unfold digB; rw [dg_nat k (by omega)]; simp; omega
theorem all_two (n : Nat) (h : n < 100) : (two n).all digB = true := by
  simp only [two, List.all_cons, List.all_nil, Bool.and_true, digB_dg (n / 10) (by omega), digB_dg (n % 10) (by omega)]
theorem numTo_two (n : Nat) (h : n < 100) : numTo (two n) = n := by
  simp only [two, numTo, List.foldl_cons, List.foldl_nil, dg_nat (n / 10) (by omega), dg_nat (n % 10) (by omega)]
  omega
theorem all_four (n : Nat) (h : n < 10000) : (four n).all digB = true := by
  simp only [four, List.all_cons, List.all_nil, Bool.and_true, digB_dg (n / 1000) (by omega), digB_dg (n / 100 % 10) (by omega), digB_dg (n / 10 % 10) (by omega), digB_dg (n % 10) (by omega)]
theorem numTo_four (n : Nat) (h : n < 10000) : numTo (four n) = n := by
  simp only [four, numTo, List.foldl_cons, List.foldl_nil, dg_nat (n / 1000) (by omega), dg_nat (n / 100 % 10) (by omega), dg_nat (n / 10 % 10) (by omega), dg_nat (n % 10) (by omega)]
  omega
def trim (l : List UInt8) : List UInt8 := if l.head? = some 32 then l.tail else l
def day2 (k : Nat) : List UInt8 := [if k < 10 then 32 else dg (k / 10), dg (k % 10)]
theorem trim_day (k : Nat) (h : k ≤ 31) : (trim (day2 k)).all digB = true ∧ numTo (trim (day2 k)) = k := by
  unfold day2 trim
  by_cases h1 : k < 10
  · rw [if_pos h1]
    simp only [List.head?_cons, if_true, List.tail_cons]
    refine ⟨?_, ?_⟩
    · simp only [List.all_cons, List.all_nil, Bool.and_true, digB_dg (k % 10) (by omega)]
    · simp only [numTo, List.foldl_cons, List.foldl_nil, dg_nat (k % 10) (by omega)]; omega
  · rw [if_neg h1]
    have hne : dg (k / 10) ≠ 32 := fun e => by
      have := congrArg UInt8.toNat e
      rw [dg_nat (k / 10) (by omega)] at this
      have h32 : (32 : UInt8).toNat = 32 := rfl
      omega
    rw [if_neg (by simpa using hne)]
    refine ⟨?_, ?_⟩
    · simp only [List.all_cons, List.all_nil, Bool.and_true, digB_dg (k / 10) (by omega), digB_dg (k % 10) (by omega)]
    · simp only [numTo, List.foldl_cons, List.foldl_nil, dg_nat (k / 10) (by omega), dg_nat (k % 10) (by omega)]; omega

/-! ## months -/
def fits (m : Nat) (t : List UInt8) : Bool := fold (mname m) == fold t
def mon (t : List UInt8) : Nat := match (List.range 12).find? (fun j => fits (j + 1) t) with | some j => j + 1 | none => 0
def rmon (t : List UInt8) : Nat := match (List.range 12).find? (fun j => mname (j + 1) == t) with | some j => j + 1 | none => 0
theorem folds_apart : ∀ a b : Fin 12, fold (mname (a.val + 1)) = fold (mname (b.val + 1)) → a = b := by decide
theorem mon_of {t : List UInt8} {m : Nat} (h1 : 1 ≤ m) (h2 : m ≤ 12) (h : fits m t = true) : mon t = m := by
  unfold mon
  cases hf : (List.range 12).find? (fun j => fits (j + 1) t) with
  | none =>
    have := List.find?_eq_none.1 hf (m - 1) (List.mem_range.2 (by omega))
    rw [show m - 1 + 1 = m by omega] at this
    exact absurd h this
  | some j =>
    have h3 := List.find?_some hf
    have h4 : j < 12 := List.mem_range.1 (List.mem_of_find?_eq_some hf)
    have h5 := (beq_iff_eq.1 h3).trans (beq_iff_eq.1 h).symm
    have h6 := folds_apart ⟨j, h4⟩ ⟨m - 1, by omega⟩ (by simpa only [show m - 1 + 1 = m by omega] using h5)
    have h7 := congrArg Fin.val h6
    simp only at h7 ⊢
    omega
theorem mon_none {t : List UInt8} (h : ∀ m, 1 ≤ m → m ≤ 12 → fits m t = false) : mon t = 0 := by
  unfold mon
  have : (List.range 12).find? (fun j => fits (j + 1) t) = none := List.find?_eq_none.2 fun j hj => by
    have := List.mem_range.1 hj
    rw [h (j + 1) (by omega) (by omega)]; simp
  rw [this]
theorem mon_le (t : List UInt8) : mon t ≤ 12 := by
  unfold mon
  split
  · rename_i j h
    have := List.mem_range.1 (List.mem_of_find?_eq_some h)
    omega
  · omega
theorem mon_fits {t : List UInt8} {m : Nat} (h1 : 1 ≤ m) (h : mon t = m) : m ≤ 12 ∧ fits m t = true := by
  unfold mon at h
  split at h
  · rename_i j hf
    subst h
    have h2 := List.find?_some (p := fun j => fits (j + 1) t) hf
    exact ⟨by have := List.mem_range.1 (List.mem_of_find?_eq_some hf); omega, h2⟩
  · omega
theorem fits_self (m : Nat) : fits m (mname m) = true := beq_iff_eq.2 rfl
theorem mon_mname (m : Nat) (h1 : 1 ≤ m) (h2 : m ≤ 12) : mon (mname m) = m := mon_of h1 h2 (fits_self m)
theorem rmon_of {t : List UInt8} {m : Nat} (h1 : 1 ≤ m) (h2 : m ≤ 12) (h : mname m = t) : rmon t = m := by
  subst h
  unfold rmon
  cases hf : (List.range 12).find? (fun j => mname (j + 1) == mname m) with
  | none =>
    have := List.find?_eq_none.1 hf (m - 1) (List.mem_range.2 (by omega))
    rw [show m - 1 + 1 = m by omega] at this
    exact absurd (beq_iff_eq.2 rfl) this
  | some j =>
    have h3 := List.find?_some hf
    have h4 : j < 12 := List.mem_range.1 (List.mem_of_find?_eq_some hf)
    have h5 := beq_iff_eq.1 h3
    have h6 := folds_apart ⟨j, h4⟩ ⟨m - 1, by omega⟩ (by
      simp only [show m - 1 + 1 = m by omega]
      rw [h5])
    have h7 := congrArg Fin.val h6
    simp only at h7 ⊢
    omega
theorem rmon_none {t : List UInt8} (h : ∀ m, 1 ≤ m → m ≤ 12 → mname m ≠ t) : rmon t = 0 := by
  unfold rmon
  have : (List.range 12).find? (fun j => mname (j + 1) == t) = none := List.find?_eq_none.2 fun j hj => by
    have := List.mem_range.1 hj
    have := h (j + 1) (by omega) (by omega)
    simpa using this
  rw [this]
theorem fits_len {m : Nat} {t : List UInt8} (h : fits m t = true) : t.length = 3 := by
  have := congrArg List.length (beq_iff_eq.1 h)
  rw [fold_length, fold_length, mname_len] at this
  exact this.symm
/-- The letters of the months. -/
theorem low_letters : ∀ m : Fin 12, ∀ b ∈ fold (mname (m.val + 1)), 97 ≤ b.toNat ∧ b.toNat ≤ 122 := by decide
theorem foldB_letter (b : UInt8) (h : 97 ≤ (foldB b).toNat ∧ (foldB b).toNat ≤ 122) : 65 ≤ b.toNat ∧ b.toNat ≤ 122 := by
  unfold foldB at h
  split at h
  · omega
  · omega
theorem fits_letters {m : Nat} {t : List UInt8} (h1 : 1 ≤ m) (h2 : m ≤ 12) (h : fits m t = true) : ∀ b ∈ t, 65 ≤ b.toNat ∧ b.toNat ≤ 122 := fun b hb => by
  have e := beq_iff_eq.1 h
  have := low_letters ⟨m - 1, by omega⟩ (foldB b) (by
    simp only [show m - 1 + 1 = m by omega]
    rw [e]
    exact List.mem_map.2 ⟨b, hb, rfl⟩)
  exact foldB_letter b this
theorem fits_high {m : Nat} {t : List UInt8} (h1 : 1 ≤ m) (h2 : m ≤ 12) {b : UInt8} (hb : b ∈ t) (h : 128 ≤ b.toNat) : fits m t = false := by
  cases hf : fits m t with
  | false => rfl
  | true => have := fits_letters h1 h2 hf b hb; omega
theorem foldEq_fold (x y : UInt8) : Lib.foldEq x y = (foldB x == foldB y) := by
  have h32 : (32 : UInt8).toNat = 32 := rfl
  have hx := x.toNat_lt
  have hy := y.toNat_lt
  have key : foldB x = foldB y ↔ (x.toNat = y.toNat ∨ (65 ≤ x.toNat ∧ x.toNat ≤ 90 ∧ y.toNat = x.toNat + 32) ∨ (65 ≤ y.toNat ∧ y.toNat ≤ 90 ∧ x.toNat = y.toNat + 32)) := by
    rw [← UInt8.toNat_inj]
    unfold foldB
    by_cases h1 : 65 ≤ x.toNat ∧ x.toNat ≤ 90
    · by_cases h2 : 65 ≤ y.toNat ∧ y.toNat ≤ 90
      · rw [if_pos h1, if_pos h2, UInt8.toNat_add, UInt8.toNat_add]; omega
      · rw [if_pos h1, if_neg h2, UInt8.toNat_add]; omega
    · by_cases h2 : 65 ≤ y.toNat ∧ y.toNat ≤ 90
      · rw [if_neg h1, if_pos h2, UInt8.toNat_add]; omega
      · rw [if_neg h1, if_neg h2]; omega
  unfold Lib.foldEq
  rw [Bool.eq_iff_iff, decide_eq_true_iff, beq_iff_eq]
  exact key.symm
theorem equalFold_fold : ∀ s t : List UInt8, Lib.equalFold s t = (fold s == fold t)
  | [], [] => rfl
  | [], y :: t => rfl
  | x :: s, [] => rfl
  | x :: s, y :: t => by
    show (Lib.foldEq x y && Lib.equalFold s t) = ((foldB x :: fold s) == (foldB y :: fold t))
    rw [equalFold_fold s t, foldEq_fold]; rfl

/-! ## Parse -/
def signed (neg : Bool) (z : Int) : Int := if neg then -z else z
def cand (s : List UInt8) : D :=
  { day := number (trim (s.take 2)), month := (mon ((s.drop 3).take 3) : Int), year := number ((s.drop 7).take 4), hour := number ((s.drop 12).take 2), min := number ((s.drop 15).take 2), sec := number ((s.drop 18).take 2)
    zone := signed (s[21]? == some 45) (number ((s.drop 22).take 2) * 60 + number (s.drop 24)) }
def pieces (s : List UInt8) : List (List UInt8) := [trim (s.take 2), (s.drop 7).take 4, (s.drop 12).take 2, (s.drop 15).take 2, (s.drop 18).take 2, (s.drop 22).take 2, s.drop 24]
def rcand (s : List UInt8) : D :=
  { day := (numTo (trim (s.take 2)) : Int), month := (rmon ((s.drop 3).take 3) : Int), year := (numTo ((s.drop 7).take 4) : Int), hour := (numTo ((s.drop 12).take 2) : Int), min := (numTo ((s.drop 15).take 2) : Int), sec := (numTo ((s.drop 18).take 2) : Int)
    zone := signed (s[21]? == some 45) ((numTo ((s.drop 22).take 2) : Int) * 60 + (numTo (s.drop 24) : Int)) }
/-- A good date's text in its pieces. -/
theorem text_parts {y m k hh mi s : Nat} {neg : Bool} {z : Nat} : ∃ S, S = shownN y m k hh mi s neg z ∧ S.take 2 = day2 k ∧ (S.drop 3).take 3 = mname m ∧ (S.drop 7).take 4 = four y ∧ (S.drop 12).take 2 = two hh ∧ (S.drop 15).take 2 = two mi ∧ (S.drop 18).take 2 = two s ∧ (S.drop 22).take 2 = two (z / 60) ∧ S.drop 24 = two (z % 60) ∧ (S[21]? == some 45) = neg := by
  refine ⟨_, rfl, ?_⟩
  unfold shownN
  obtain ⟨a, b, c, e⟩ := mname_cases m
  rw [e]
  refine ⟨rfl, rfl, rfl, rfl, rfl, rfl, rfl, rfl, ?_⟩
  cases neg <;> rfl
theorem signed_abs (z : Int) : signed (decide (z < 0)) (((z.natAbs / 60 : Nat) : Int) * 60 + ((z.natAbs % 60 : Nat) : Int)) = z := by
  unfold signed
  by_cases h : z < 0
  · rw [decide_eq_true h, if_pos rfl]; omega
  · rw [decide_eq_false h, if_neg (by decide)]; omega
theorem cand_text {d : D} (h : Good d) : cand (text d) = d := by
  obtain ⟨y, m, k, hh, mi, s, e, a1, a2, a3, a4, a5, a6, a7, a8, a9, a10, a11⟩ := h.nat
  generalize hz : d.zone = z at e a10 a11
  subst e
  have hk := (dm_pos y m).2
  obtain ⟨S, eS, p1, p2, p3, p4, p5, p6, p7, p8, p9⟩ := text_parts (y := y) (m := m) (k := k) (hh := hh) (mi := mi) (s := s) (neg := decide (z < 0)) (z := z.natAbs)
  have e2 : text ⟨y, m, k, hh, mi, s, z⟩ = S := by rw [eS]; rfl
  obtain ⟨t1, t2⟩ := trim_day k (by omega)
  rw [e2]
  unfold cand
  rw [p1, p2, p3, p4, p5, p6, p7, p8, p9, mon_mname m a3 a4, number_yes t1, t2, number_yes (all_four y (by omega)), numTo_four y (by omega), number_yes (all_two hh (by omega)), numTo_two hh (by omega), number_yes (all_two mi (by omega)), numTo_two mi (by omega), number_yes (all_two s (by omega)), numTo_two s (by omega),
    number_yes (all_two (z.natAbs / 60) (by omega)), numTo_two (z.natAbs / 60) (by omega), number_yes (all_two (z.natAbs % 60) (by omega)), numTo_two (z.natAbs % 60) (by omega), signed_abs]
theorem numOk_of {l : List UInt8} (h : l.all digB = true) (h1 : 1 ≤ l.length) (h2 : l.length ≤ 10) : numOk l = true := by unfold numOk; rw [h, decide_eq_true h1, decide_eq_true h2]; rfl
theorem rcand_text {d : D} (h : Good d) : (pieces (text d)).all numOk = true ∧ rcand (text d) = d := by
  obtain ⟨y, m, k, hh, mi, s, e, a1, a2, a3, a4, a5, a6, a7, a8, a9, a10, a11⟩ := h.nat
  generalize hz : d.zone = z at e a10 a11
  subst e
  have hk := (dm_pos y m).2
  obtain ⟨S, eS, p1, p2, p3, p4, p5, p6, p7, p8, p9⟩ := text_parts (y := y) (m := m) (k := k) (hh := hh) (mi := mi) (s := s) (neg := decide (z < 0)) (z := z.natAbs)
  have e2 : text ⟨y, m, k, hh, mi, s, z⟩ = S := by rw [eS]; rfl
  obtain ⟨t1, t2⟩ := trim_day k (by omega)
  rw [e2]
  have ht : 1 ≤ (trim (day2 k)).length ∧ (trim (day2 k)).length ≤ 10 := by
    unfold trim
    split
    · exact ⟨Nat.le_refl 1, by show 1 ≤ 10; decide⟩
    · exact ⟨by show 1 ≤ 2; decide, by show 2 ≤ 10; decide⟩
  refine ⟨?_, ?_⟩
  · unfold pieces
    rw [p1, p3, p4, p5, p6, p7, p8]
    simp only [List.all_cons, List.all_nil, Bool.and_true, numOk_of t1 ht.1 ht.2, numOk_of (all_four y (by omega)) (by show 1 ≤ 4; decide) (by show 4 ≤ 10; decide), numOk_of (all_two hh (by omega)) (by show 1 ≤ 2; decide) (by show 2 ≤ 10; decide), numOk_of (all_two mi (by omega)) (by show 1 ≤ 2; decide) (by show 2 ≤ 10; decide), numOk_of (all_two s (by omega)) (by show 1 ≤ 2; decide) (by show 2 ≤ 10; decide), numOk_of (all_two (z.natAbs / 60) (by omega)) (by show 1 ≤ 2; decide) (by show 2 ≤ 10; decide), numOk_of (all_two (z.natAbs % 60) (by omega)) (by show 1 ≤ 2; decide) (by show 2 ≤ 10; decide)]
  · unfold rcand
    rw [p1, p2, p3, p4, p5, p6, p7, p8, p9, rmon_of a3 a4 rfl, t2, numTo_four y (by omega), numTo_two hh (by omega), numTo_two mi (by omega), numTo_two s (by omega), numTo_two (z.natAbs / 60) (by omega), numTo_two (z.natAbs % 60) (by omega), signed_abs]
theorem text_inj {a b : D} (ha : Good a) (hb : Good b) (h : text a = text b) : a = b := by rw [← cand_text ha, ← cand_text hb, h]
/-- What Parse hands back: the date of which this is the text; nothing, where there is none. -/
def ParseR (s : List UInt8) : Option D → Prop
  | none => ∀ d, Good d → text d ≠ s
  | some d => Good d ∧ text d = s
theorem ParseR.one {s : List UInt8} {r r' : Option D} (h : ParseR s r) (h' : ParseR s r') : r = r' := by
  cases r with
  | none =>
    cases r' with
    | none => rfl
    | some d => exact absurd h'.2 (h d h'.1)
  | some d =>
    cases r' with
    | none => exact absurd h.2 (h' d h.1)
    | some d' => rw [text_inj h.1 h'.1 (h.2.trans h'.2.symm)]
theorem ParseR.len {s : List UInt8} (h : s.length ≠ 26) : ParseR s none := fun d hd e => h (by rw [← e, text_len])
theorem ParseR.yes {s : List UInt8} (hl : s.length = 26) {c : D} (h : shown c = s) : ParseR s (some c) := by
  by_cases hg : Good c
  · exact ⟨hg, by rw [← shown_good hg]; exact h⟩
  · rw [shown_bad hg] at h
    subst h
    simp at hl
theorem ParseR.no {s : List UInt8} {c : D} (h : shown c ≠ s) (hc : ∀ d, Good d → text d = s → c = d) : ParseR s none := fun d hd e => by
  obtain rfl := hc d hd e
  exact h (by rw [shown_good hd, e])
theorem ParseR.cand_no {s : List UInt8} (h : shown (cand s) ≠ s) : ParseR s none := ParseR.no h fun d hd e => by rw [← e, cand_text hd]
theorem ParseR.rcand_no {s : List UInt8} (h : shown (rcand s) ≠ s) : ParseR s none := ParseR.no h fun d hd e => by rw [← e, (rcand_text hd).2]
theorem ParseR.piece {s : List UInt8} {p : List UInt8} (hp : p ∈ pieces s) (h : numOk p = false) : ParseR s none := fun d hd e => by
  have := (rcand_text hd).1
  rw [e, List.all_eq_true] at this
  rw [this p hp] at h
  cases h
theorem ParseR.text {d : D} (h : Good d) : ParseR (text d) (some d) := ⟨h, rfl⟩
end Go.Proofs.YtgkibkophoikoaaDoor.Dt
