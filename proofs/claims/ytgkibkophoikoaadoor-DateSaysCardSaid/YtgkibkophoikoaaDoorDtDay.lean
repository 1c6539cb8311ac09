/- What Day reads, as plain functions on bytes. No program is named here. -/
import Derived.Test.YtgkibkophoikoaaDoorDtText
namespace Go.Proofs.YtgkibkophoikoaaDoor.Dt
open Oct
set_option linter.unusedVariables false
set_option linter.unusedSimpArgs false
set_option maxRecDepth 100000

/-- The text s tells the day n. -/
def DayIs (s : List UInt8) (n : Nat) : Prop := ∃ (a b c : List UInt8) (m : Nat), s = a ++ 45 :: (b ++ 45 :: c) ∧ 1 ≤ a.length ∧ a.length ≤ 2 ∧ a.all digB = true ∧ 1 ≤ m ∧ m ≤ 12 ∧ fits m b = true ∧ c.length = 4 ∧ c.all digB = true ∧ 1970 ≤ numTo c ∧ 1 ≤ numTo a ∧ numTo a ≤ dm (numTo c) m ∧ n = num (numTo c) m (numTo a)
def DayR (s : List UInt8) : Option Nat → Prop
  | none => ∀ n, ¬ DayIs s n
  | some n => DayIs s n
def Pad (s p : List UInt8) : Prop := (s.length = 10 ∧ p = 48 :: s) ∨ (s.length ≠ 10 ∧ p = s)
def DayC (p : List UInt8) : Prop := p.length = 11 ∧ p[2]? = some 45 ∧ p[6]? = some 45 ∧ GDay (number (p.drop 7)) (mon ((p.drop 3).take 3) : Int) (number (p.take 2))

theorem eleven (p : List UInt8) (h : p.length = 11) : ∃ x0 x1 x2 x3 x4 x5 x6 x7 x8 x9 x10, p = [x0, x1, x2, x3, x4, x5, x6, x7, x8, x9, x10] := by
  match p, h with
  | [x0, x1, x2, x3, x4, x5, x6, x7, x8, x9, x10], _ => exact ⟨x0, x1, x2, x3, x4, x5, x6, x7, x8, x9, x10, rfl⟩
theorem number_pos {l : List UInt8} (h : 1 ≤ number l) : l.all digB = true ∧ number l = (numTo l : Int) := by
  by_cases h1 : l.all digB = true
  · exact ⟨h1, number_yes h1⟩
  · rw [number_no (by simpa using h1)] at h; omega
theorem numTo_zero (l : List UInt8) : numTo (48 :: l) = numTo l := rfl
theorem day_of {s p : List UInt8} (hp : Pad s p) (h : DayC p) : DayIs s (num (numTo (p.drop 7)) (mon ((p.drop 3).take 3)) (numTo (p.take 2))) ∧ number (p.drop 7) = (numTo (p.drop 7) : Int) ∧ number (p.take 2) = (numTo (p.take 2) : Int) := by
  obtain ⟨h11, h2, h6, g1, g2, g3, g4, g5, g6⟩ := h
  obtain ⟨c1, c2⟩ := number_pos (l := p.drop 7) (by omega)
  obtain ⟨a1, a2⟩ := number_pos (l := p.take 2) g5
  refine ⟨?_, c2, a2⟩
  rw [c2] at g1 g2 g6
  rw [a2] at g5 g6
  simp only [Int.toNat_natCast] at g6
  obtain ⟨_, hf⟩ := mon_fits (m := mon ((p.drop 3).take 3)) (by omega) rfl
  obtain ⟨x0, x1, x2, x3, x4, x5, x6, x7, x8, x9, x10, rfl⟩ := eleven p h11
  obtain rfl : x2 = 45 := by simpa using h2
  obtain rfl : x6 = 45 := by simpa using h6
  rcases hp with ⟨hl, e⟩ | ⟨hl, e⟩
  · injection e with e0 e1
    subst e0 e1
    refine ⟨[x1], [x3, x4, x5], [x7, x8, x9, x10], _, rfl, by simp, by simp, ?_, by omega, by omega, hf, rfl, c1, by exact_mod_cast g1, ?_, ?_, rfl⟩
    · simp only [List.take_succ_cons, List.take_zero, List.all_cons, List.all_nil, Bool.and_true, Bool.and_eq_true] at a1 ⊢
      exact a1.2
    · exact_mod_cast g5
    · exact_mod_cast g6
  · subst e
    refine ⟨[x0, x1], [x3, x4, x5], [x7, x8, x9, x10], _, rfl, by simp, by simp, a1, by omega, by omega, hf, rfl, c1, by exact_mod_cast g1, ?_, ?_, rfl⟩
    · exact_mod_cast g5
    · exact_mod_cast g6
theorem four_le {l : List UInt8} (h : l.length = 4) (hd : l.all digB = true) : numTo l ≤ 9999 := by
  have := numTo_lt 4 l h hd
  have h3 : (10 : Nat) ^ 4 = 10000 := by decide
  omega
theorem day_to {s p : List UInt8} {n : Nat} (hp : Pad s p) (h : DayIs s n) : DayC p := by
  obtain ⟨a, b, c, m, rfl, h1, h2, h3, h4, h5, h6, h7, h8, h9, h10, h11, rfl⟩ := h
  have hb := fits_len h6
  have hm := mon_of h4 h5 h6
  have hy := four_le h7 h8
  have key : ∀ x0 x1, [x0, x1].all digB = true → numTo [x0, x1] = numTo a → p = [x0, x1] ++ 45 :: (b ++ 45 :: c) → DayC p := fun x0 x1 k1 k2 e => by
    subst e
    match b, c, hb, h7 with
    | [b0, b1, b2], [c0, c1, c2, c3], _, _ =>
    refine ⟨rfl, rfl, rfl, ?_⟩
    have e1 : number (([x0, x1] ++ 45 :: ([b0, b1, b2] ++ 45 :: [c0, c1, c2, c3])).drop 7) = (numTo [c0, c1, c2, c3] : Int) := number_yes h8
    have e2 : number (([x0, x1] ++ 45 :: ([b0, b1, b2] ++ 45 :: [c0, c1, c2, c3])).take 2) = (numTo a : Int) := by
      rw [show ([x0, x1] ++ 45 :: ([b0, b1, b2] ++ 45 :: [c0, c1, c2, c3])).take 2 = [x0, x1] from rfl, number_yes k1, k2]
    have e3 : mon ((([x0, x1] ++ 45 :: ([b0, b1, b2] ++ 45 :: [c0, c1, c2, c3])).drop 3).take 3) = m := hm
    rw [e1, e2, e3]
    refine ⟨by exact_mod_cast h9, by exact_mod_cast hy, by exact_mod_cast h4, by exact_mod_cast h5, by exact_mod_cast h10, ?_⟩
    simp only [Int.toNat_natCast]
    exact_mod_cast h11
  match a, h1, h2 with
  | [x], _, _ =>
    refine key 48 x ?_ rfl ?_
    · simp only [List.all_cons, List.all_nil, Bool.and_true] at h3 ⊢
      rw [h3]; rfl
    · rcases hp with ⟨hl, e⟩ | ⟨hl, e⟩
      · exact e
      · exfalso; apply hl; simp; omega
  | [x0, x1], _, _ =>
    refine key x0 x1 h3 rfl ?_
    rcases hp with ⟨hl, e⟩ | ⟨hl, e⟩
    · simp at hl; omega
    · exact e
theorem DayR.no {s p : List UInt8} (hp : Pad s p) (h : ¬ DayC p) : DayR s none := fun n hn => h (day_to hp hn)
theorem day_parts {s a b c : List UInt8} (h : Sq.parts 45 s = [a, b, c]) : s = a ++ 45 :: (b ++ 45 :: c) ∧ (45 : UInt8) ∉ a ∧ (45 : UInt8) ∉ b := by
  have step : ∀ (l x : List UInt8) (q : List (List UInt8)), Sq.parts 45 l = x :: q → q ≠ [] → ∃ r, l = x ++ 45 :: r ∧ (45 : UInt8) ∉ x ∧ Sq.parts 45 r = q := fun l x q e hq => by
    by_cases hm : (45 : UInt8) ∈ l
    · have e2 := Sq.parts_some 45 l hm
      rw [e] at e2
      injection e2 with e3 e4
      refine ⟨_, ?_, ?_, e4.symm⟩
      · rw [e3]; exact Sq.dw_head 45 l hm
      · rw [e3]; exact Sq.tw_not 45 l
    · rw [Sq.parts_none 45 l hm] at e
      injection e with e3 e4
      exact absurd e4.symm hq
  obtain ⟨r, e1, n1, e2⟩ := step _ _ _ h (by simp)
  obtain ⟨r2, e3, n2, e4⟩ := step _ _ _ e2 (by simp)
  have e5 : r2 = c := by
    by_cases hm : (45 : UInt8) ∈ r2
    · rw [Sq.parts_some 45 r2 hm] at e4
      injection e4 with _ e6
      exact absurd e6 (Sq.parts_ne 45 _)
    · rw [Sq.parts_none 45 r2 hm] at e4
      injection e4 with e6 _
  rw [e1, e3, e5]
  exact ⟨rfl, n1, n2⟩
theorem dig_dash {l : List UInt8} (h : l.all digB = true) : (45 : UInt8) ∉ l := fun hm => by
  have := List.all_eq_true.1 h 45 hm
  exact absurd this (by decide)
theorem is_parts {s : List UInt8} {n : Nat} (h : DayIs s n) : ∃ a b c, Sq.parts 45 s = [a, b, c] ∧ 1 ≤ a.length ∧ a.length ≤ 2 ∧ a.all digB = true ∧ c.length = 4 ∧ c.all digB = true ∧ GDay (numTo c : Int) (mon b : Int) (numTo a : Int) := by
  obtain ⟨a, b, c, m, rfl, h1, h2, h3, h4, h5, h6, h7, h8, h9, h10, h11, rfl⟩ := h
  have nb : (45 : UInt8) ∉ b := fun hm => by
    have := fits_letters h4 h5 h6 45 hm
    exact absurd this.1 (by decide)
  refine ⟨a, b, c, ?_, h1, h2, h3, h7, h8, ?_⟩
  · rw [Sq.parts_app 45 a _ (dig_dash h3), Sq.parts_app 45 b _ nb, Sq.parts_none 45 c (dig_dash h8)]
  · rw [mon_of h4 h5 h6]
    have hy := four_le h7 h8
    refine ⟨by exact_mod_cast h9, by exact_mod_cast hy, by exact_mod_cast h4, by exact_mod_cast h5, by exact_mod_cast h10, ?_⟩
    simp only [Int.toNat_natCast]
    exact_mod_cast h11
theorem numOk_parts {l : List UInt8} (h : numOk l = true) : 1 ≤ l.length ∧ l.length ≤ 10 ∧ l.all digB = true := by
  unfold numOk at h
  simpa [Bool.and_eq_true, and_assoc] using h
theorem DayR.few {s : List UInt8} (h : (Sq.parts 45 s).length ≠ 3) : DayR s none := fun n hn => by
  obtain ⟨a, b, c, e, _⟩ := is_parts hn
  rw [e] at h
  exact h rfl
theorem DayR.parts_no {s a b c : List UInt8} (e : Sq.parts 45 s = [a, b, c]) (h : 2 < a.length ∨ c.length ≠ 4 ∨ numOk a = false ∨ numOk c = false ∨ ¬ GDay (numTo c : Int) (mon b : Int) (numTo a : Int)) : DayR s none := fun n hn => by
  obtain ⟨a', b', c', e', h1, h2, h3, h7, h8, h9⟩ := is_parts hn
  rw [e] at e'
  injection e' with e1 e'
  injection e' with e2 e'
  injection e' with e3 _
  subst e1 e2 e3
  rcases h with h | h | h | h | h
  · omega
  · omega
  · rw [numOk_of h3 h1 (by omega)] at h; cases h
  · rw [numOk_of h8 (by omega) (by omega)] at h; cases h
  · exact h h9
theorem DayR.parts_yes {s a b c : List UInt8} (e : Sq.parts 45 s = [a, b, c]) (h1 : a.length ≤ 2) (h2 : c.length = 4) (h3 : numOk a = true) (h4 : numOk c = true) (h5 : GDay (numTo c : Int) (mon b : Int) (numTo a : Int)) : DayR s (some (num (numTo c) (mon b) (numTo a))) := by
  obtain ⟨es, n1, n2⟩ := day_parts e
  obtain ⟨k1, _, k3⟩ := numOk_parts h3
  obtain ⟨_, _, l3⟩ := numOk_parts h4
  obtain ⟨g1, g2, g3, g4, g5, g6⟩ := h5
  obtain ⟨q1, q2⟩ := mon_fits (m := mon b) (by omega) rfl
  simp only [Int.toNat_natCast] at g6
  exact ⟨a, b, c, mon b, es, k1, h1, k3, by omega, q1, q2, h2, l3, by exact_mod_cast g1, by exact_mod_cast g5, by exact_mod_cast g6, rfl⟩
theorem DayIs.one {s : List UInt8} {n k : Nat} (h : DayIs s n) (h' : DayIs s k) : n = k := by
  obtain ⟨a, b, c, m, rfl, h1, h2, h3, h4, h5, h6, h7, h8, h9, h10, h11, rfl⟩ := h
  obtain ⟨a', b', c', m', e, i1, i2, i3, i4, i5, i6, i7, i8, i9, i10, i11, rfl⟩ := h'
  have hb := fits_len h6
  have hb' := fits_len i6
  have hl := congrArg List.length e
  simp only [List.length_append, List.length_cons] at hl
  obtain ⟨e1, e2⟩ := List.append_inj e (by omega)
  injection e2 with _ e2
  obtain ⟨e3, e4⟩ := List.append_inj e2 (by omega)
  injection e4 with _ e4
  subst e1 e3 e4
  have := mon_of h4 h5 h6
  have := mon_of i4 i5 i6
  obtain rfl : m = m' := by omega
  rfl
theorem DayR.one {s : List UInt8} {r r' : Option Nat} (h : DayR s r) (h' : DayR s r') : r = r' := by
  cases r with
  | none =>
    cases r' with
    | none => rfl
    | some d => exact absurd h' (h d)
  | some d =>
    cases r' with
    | none => exact absurd h (h' d)
    | some d' => rw [DayIs.one h h']
theorem DayIs.lt {s : List UInt8} {n : Nat} (h : DayIs s n) : n < 2932897 := by
  obtain ⟨a, b, c, m, rfl, h1, h2, h3, h4, h5, h6, h7, h8, h9, h10, h11, rfl⟩ := h
  exact num_lt_top h9 (four_le h7 h8) h4 h5 h10 h11

/-- The day's word out of a good date's text. -/
def word (l : List UInt8) : List UInt8 := if l[0]? = some 32 then (l.drop 1).take 10 else l.take 11
theorem word_is {d : D} (h : Good d) : DayIs (word (text d)) (num d.year.toNat d.month.toNat d.day.toNat) := by
  obtain ⟨y, m, k, hh, mi, s, e, a1, a2, a3, a4, a5, a6, a7, a8, a9, a10, a11⟩ := h.nat
  generalize hz : d.zone = z at e a10 a11
  subst e
  have hk := (dm_pos y m).2
  show DayIs (word (shownN y m k hh mi s (decide (z < 0)) z.natAbs)) (num y m k)
  have hfit := fits_self m
  have hfour := all_four y (by omega)
  have hfour2 := numTo_four y (by omega)
  unfold four at hfour hfour2
  unfold word shownN
  obtain ⟨m0, m1, m2, em⟩ := mname_cases m
  by_cases h10 : k < 10
  · rw [if_pos h10, em]
    have e : (32 :: dg (k % 10) :: 45 :: ([m0, m1, m2] ++ (45 :: (four y ++ (32 :: (two hh ++ (58 :: (two mi ++ (58 :: (two s ++ (32 :: (if decide (z < 0) then 45 else 43) :: (two (z.natAbs / 60) ++ two (z.natAbs % 60)))))))))))) )[0]? = some (32 : UInt8) := rfl
    rw [if_pos e]
    refine ⟨[dg (k % 10)], [m0, m1, m2], four y, m, rfl, by simp, by simp, ?_, a3, a4, by rw [← em]; exact hfit, rfl, hfour, ?_, ?_, ?_, ?_⟩
    · simp only [List.all_cons, List.all_nil, Bool.and_true, digB_dg (k % 10) (by omega)]
    · unfold four; omega
    · simp only [numTo, List.foldl_cons, List.foldl_nil, dg_nat (k % 10) (by omega)]; omega
    · have : numTo [dg (k % 10)] = k := by simp only [numTo, List.foldl_cons, List.foldl_nil, dg_nat (k % 10) (by omega)]; omega
      rw [this]
      unfold four
      rw [hfour2]; exact a6
    · have : numTo [dg (k % 10)] = k := by simp only [numTo, List.foldl_cons, List.foldl_nil, dg_nat (k % 10) (by omega)]; omega
      rw [this]
      unfold four
      rw [hfour2]
  · rw [if_neg h10, em]
    have hne : dg (k / 10) ≠ 32 := fun e => by
      have := congrArg UInt8.toNat e
      rw [dg_nat (k / 10) (by omega)] at this
      have h32 : (32 : UInt8).toNat = 32 := rfl
      omega
    have e : (dg (k / 10) :: dg (k % 10) :: 45 :: ([m0, m1, m2] ++ (45 :: (four y ++ (32 :: (two hh ++ (58 :: (two mi ++ (58 :: (two s ++ (32 :: (if decide (z < 0) then 45 else 43) :: (two (z.natAbs / 60) ++ two (z.natAbs % 60)))))))))))) )[0]? ≠ some (32 : UInt8) := fun e => hne (Option.some.inj e)
    rw [if_neg e]
    have h2 := numTo_two k (by omega)
    refine ⟨two k, [m0, m1, m2], four y, m, rfl, by show 1 ≤ 2; decide, by show 2 ≤ 2; decide, all_two k (by omega), a3, a4, by rw [← em]; exact hfit, rfl, hfour, ?_, ?_, ?_, ?_⟩
    · unfold four; omega
    · omega
    · rw [h2]; unfold four; rw [hfour2]; exact a6
    · rw [h2]; unfold four; rw [hfour2]
end Go.Proofs.YtgkibkophoikoaaDoor.Dt
