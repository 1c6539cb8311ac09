/- Package utf7's Good, Parent and Match as plain functions on lists of bytes, and what follows from them. No program is named here. -/
import Derived.Test.YtpjgacmcpbpklaaDoorUtfPure
import Derived.Lib.Index
import Derived.Lib.Fold
namespace Go.Proofs.YtpjgacmcpbpklaaDoor.U7
open Go.Lib
set_option linter.unusedVariables false
set_option linter.unusedSimpArgs false

/-! ## Good -/
def goodB (c : UInt8) : Bool := decide (32 ≤ c.toNat) && decide (c.toNat ≠ 127) && decide (c.toNat ≠ 42) && decide (c.toNat ≠ 37)
/-- Two adjacent slashes. -/
def dbl : List UInt8 → Bool
  | [] => false
  | [_] => false
  | a :: b :: t => (decide (a = 47) && decide (b = 47)) || dbl (b :: t)
def good (l : List UInt8) : Bool := decide (l ≠ []) && decide (l.length ≤ 100) && validD l && l.all goodB && !dbl (47 :: (l ++ [47]))

theorem dbl_prefix (a b : UInt8) (t : List UInt8) : [47, 47].isPrefixOf (a :: b :: t) = (decide (a = 47) && decide (b = 47)) := by
  show (((47 : UInt8) == a) && (((47 : UInt8) == b) && true)) = _
  rw [Bool.eq_iff_iff]
  simp
  constructor
  · rintro ⟨rfl, rfl⟩; exact ⟨rfl, rfl⟩
  · rintro ⟨rfl, rfl⟩; exact ⟨rfl, rfl⟩
theorem dbl_index : ∀ (l : List UInt8), dbl l = decide (0 ≤ index l [47, 47])
  | [] => by decide
  | [a] => by simp [dbl, index, List.isPrefixOf]
  | a :: b :: t => by
    have ih := dbl_index (b :: t)
    have hg := index_ge (b :: t) [47, 47]
    have e : index (a :: b :: t) [47, 47] = if [47, 47].isPrefixOf (a :: b :: t) then 0 else if index (b :: t) [47, 47] == -1 then -1 else index (b :: t) [47, 47] + 1 := rfl
    rw [e, dbl_prefix, dbl, ih]
    generalize index (b :: t) [47, 47] = q at hg
    by_cases h : (decide (a = 47) && decide (b = 47)) = true
    · rw [h]; simp
    · rw [Bool.not_eq_true] at h
      rw [h]
      by_cases hq : q = -1
      · subst hq; simp
      · have h1 : (q == -1) = false := by simpa using hq
        rw [h1, Bool.false_or, Bool.eq_iff_iff]
        simp
        omega
/-- Where two adjacent slashes stand. -/
theorem dbl_at : ∀ (l : List UInt8), dbl l = true ↔ ∃ i : Nat, l[i]? = some 47 ∧ l[i + 1]? = some 47
  | [] => by simp [dbl]
  | [a] => by simp [dbl]
  | a :: b :: t => by
    rw [dbl, Bool.or_eq_true, dbl_at (b :: t)]
    constructor
    · rintro (h | ⟨i, h1, h2⟩)
      · simp at h
        exact ⟨0, by simp [h.1], by simp [h.2]⟩
      · exact ⟨i + 1, by simpa using h1, by simpa using h2⟩
    · rintro ⟨i, h1, h2⟩
      cases i with
      | zero => simp at h1 h2; exact .inl (by simp [h1, h2])
      | succ i => exact .inr ⟨i, by simpa using h1, by simpa using h2⟩
/-- .. of a name between two slashes. -/
theorem dbl_wrap (l : List UInt8) (hne : l ≠ []) : dbl (47 :: (l ++ [47])) = true ↔ l[0]? = some 47 ∨ l[l.length - 1]? = some 47 ∨ ∃ i : Nat, l[i]? = some 47 ∧ l[i + 1]? = some 47 := by
  have hl : 0 < l.length := List.length_pos_iff.2 hne
  rw [dbl_at]
  constructor
  · rintro ⟨i, h1, h2⟩
    cases i with
    | zero =>
      simp only [List.getElem?_cons_succ] at h2
      rw [List.getElem?_append_left hl] at h2
      exact .inl h2
    | succ i =>
      simp only [List.getElem?_cons_succ] at h1 h2
      by_cases hi : i + 1 < l.length
      · rw [List.getElem?_append_left (by omega)] at h1
        rw [List.getElem?_append_left hi] at h2
        exact .inr (.inr ⟨i, h1, h2⟩)
      · by_cases hi2 : i + 1 = l.length
        · rw [List.getElem?_append_left (by omega)] at h1
          have e : i = l.length - 1 := by omega
          subst e
          exact .inr (.inl h1)
        · rw [List.getElem?_append_right (by omega)] at h2
          have : i + 1 - l.length ≠ 0 := by omega
          rw [List.getElem?_eq_none (by simp; omega)] at h2
          cases h2
  · rintro (h | h | ⟨i, h1, h2⟩)
    · exact ⟨0, rfl, by simp only [List.getElem?_cons_succ]; rw [List.getElem?_append_left hl]; exact h⟩
    · refine ⟨l.length, ?_, ?_⟩
      · obtain ⟨n, hn⟩ : ∃ n, l.length = n + 1 := ⟨l.length - 1, by omega⟩
        rw [hn] at h ⊢
        simp only [List.getElem?_cons_succ]
        rw [List.getElem?_append_left (by omega)]
        exact h
      · simp only [List.getElem?_cons_succ]
        rw [List.getElem?_append_right (Nat.le_refl _)]
        simp
    · have hi := (List.getElem?_eq_some_iff.1 h2).1
      refine ⟨i + 1, ?_, ?_⟩
      · simp only [List.getElem?_cons_succ]; rw [List.getElem?_append_left (by omega)]; exact h1
      · simp only [List.getElem?_cons_succ]; rw [List.getElem?_append_left hi]; exact h2

/-! ## Parent -/
/-- The place of the last slash among the first k bytes, plus one; 0: there is none. -/
def lastS (l : List UInt8) : Nat → Nat
  | 0 => 0
  | k + 1 => if l[k]? = some 47 then k + 1 else lastS l k
def parent (l : List UInt8) : List UInt8 × Bool := if lastS l l.length = 0 then ([], false) else (l.take (lastS l l.length - 1), true)
theorem lastS_spec (l : List UInt8) : ∀ k, (lastS l k = 0 ∧ ∀ j, j < k → l[j]? ≠ some 47) ∨ (∃ i, i < k ∧ lastS l k = i + 1 ∧ l[i]? = some 47 ∧ ∀ j, i < j → j < k → l[j]? ≠ some 47)
  | 0 => .inl ⟨rfl, fun j h => absurd h (Nat.not_lt_zero _)⟩
  | k + 1 => by
    unfold lastS
    split
    · rename_i h; exact .inr ⟨k, by omega, rfl, h, fun j h1 h2 => by omega⟩
    · rename_i h
      rcases lastS_spec l k with ⟨e, hn⟩ | ⟨i, hi, e, hc, hn⟩
      · exact .inl ⟨e, fun j hj => by rcases Nat.lt_succ_iff_lt_or_eq.1 hj with h' | rfl; exact hn j h'; exact h⟩
      · exact .inr ⟨i, by omega, e, hc, fun j h1 h2 => by rcases Nat.lt_succ_iff_lt_or_eq.1 h2 with h' | rfl; exact hn j h1 h'; exact h⟩
/-- What is above a name. -/
theorem parent_spec (l : List UInt8) : (parent l = ([], false) ∧ ∀ c ∈ l, c ≠ 47) ∨ ∃ p r, parent l = (p, true) ∧ l = p ++ 47 :: r ∧ ∀ c ∈ r, c ≠ 47 := by
  unfold parent
  rcases lastS_spec l l.length with ⟨e, hn⟩ | ⟨i, hi, e, hc, hn⟩
  · refine .inl ⟨by rw [if_pos e], fun c hcm hc => ?_⟩
    obtain ⟨j, hj, rfl⟩ := List.getElem_of_mem hcm
    exact hn j hj (by rw [List.getElem?_eq_getElem hj, hc])
  · refine .inr ⟨l.take i, l.drop (i + 1), by rw [e, if_neg (by omega)]; simp, ?_, ?_⟩
    · have h1 : l[i] = 47 := by rw [List.getElem?_eq_getElem hi] at hc; injection hc
      rw [← h1, ← List.drop_eq_getElem_cons hi, List.take_append_drop]
    · intro c hcm hc'
      obtain ⟨j, hj, rfl⟩ := List.getElem_of_mem hcm
      rw [List.length_drop] at hj
      refine hn (i + 1 + j) (by omega) (by omega) ?_
      rw [List.getElem?_eq_getElem (by omega), ← hc']
      simp

/-- A prefix up to an ASCII byte of what is UTF-8 is UTF-8. -/
theorem decode_head (p x : List UInt8) (c : UInt8) (hc : c.toNat < 128) (hp : p ≠ []) (hv : ¬ ((decodeL (p ++ c :: x)).1 = 65533 ∧ (decodeL (p ++ c :: x)).2 = 1)) :
    decodeL p = decodeL (p ++ c :: x) := by
  have hl : 0 < p.length := List.length_pos_iff.2 hp
  rw [decodeL_N] at hv
  rw [decodeL_N, decodeL_N]
  have g0 : (p ++ c :: x).getD 0 0 = p.getD 0 0 := by
    rw [List.getD_eq_getElem?_getD, List.getD_eq_getElem?_getD, List.getElem?_append_left hl]
  have gl : ∀ k, k < p.length → (p ++ c :: x).getD k 0 = p.getD k 0 := fun k hk => by
    rw [List.getD_eq_getElem?_getD, List.getD_eq_getElem?_getD, List.getElem?_append_left hk]
  have gc : (p ++ c :: x).getD p.length 0 = c := by
    rw [List.getD_eq_getElem?_getD, List.getElem?_append_right (Nat.le_refl _)]; simp
  have gn : ∀ k, p.length ≤ k → p.getD k 0 = 0 := fun k hk => by
    rw [List.getD_eq_getElem?_getD, List.getElem?_eq_none hk]; rfl
  have hlen : (p ++ c :: x).length = p.length + 1 + x.length := by simp; omega
  rw [g0] at hv ⊢
  have h3 : p.length = 1 ∨ p.length = 2 ∨ p.length = 3 ∨ 4 ≤ p.length := by omega
  have k0 := (p.getD 0 0).toNat_lt
  rcases h3 with h | h | h | h
  · rw [h] at gc hlen ⊢
    rw [gc] at hv ⊢
    rw [gn 1 (by omega), gn 2 (by omega), gn 3 (by omega)]
    generalize ((p ++ c :: x).getD 2 0).toNat = b2 at *
    generalize ((p ++ c :: x).getD 3 0).toNat = b3 at *
    rw [hlen] at hv ⊢
    rcases decodeN_shape (1 + 1 + x.length) (p.getD 0 0).toNat c.toNat b2 b3 with ⟨c1, e⟩ | ⟨c1, c2, c3, cv, e⟩ | ⟨c1, c2, c3, c4, cv, cs, e⟩ | ⟨c1, c2, c3, c4, c5, cv, cw, e⟩ | e
    · rw [e]; unfold decodeN; rw [if_pos c1]
    · omega
    · omega
    · omega
    · rw [e] at hv; exact absurd ⟨rfl, rfl⟩ hv
  · rw [h] at gc hlen ⊢
    rw [gc, gl 1 (by omega)] at hv
    rw [gc, gl 1 (by omega)]
    rw [gn 2 (by omega), gn 3 (by omega)]
    generalize ((p ++ c :: x).getD 3 0).toNat = b3 at *
    rw [hlen] at hv ⊢
    rcases decodeN_shape (2 + 1 + x.length) (p.getD 0 0).toNat (p.getD 1 0).toNat c.toNat b3 with ⟨c1, e⟩ | ⟨c1, c2, c3, cv, e⟩ | ⟨c1, c2, c3, c4, cv, cs, e⟩ | ⟨c1, c2, c3, c4, c5, cv, cw, e⟩ | e
    · rw [e]; unfold decodeN; rw [if_pos c1]
    · rw [e]; unfold decodeN; rw [if_neg (by omega), if_pos ⟨c1, by omega, c3⟩, if_pos (by omega)]
    · omega
    · omega
    · rw [e] at hv; exact absurd ⟨rfl, rfl⟩ hv
  · rw [h] at gc hlen ⊢
    rw [gc, gl 1 (by omega), gl 2 (by omega)] at hv
    rw [gc, gl 1 (by omega), gl 2 (by omega)]
    rw [gn 3 (by omega)]
    rw [hlen] at hv ⊢
    rcases decodeN_shape (3 + 1 + x.length) (p.getD 0 0).toNat (p.getD 1 0).toNat (p.getD 2 0).toNat c.toNat with ⟨c1, e⟩ | ⟨c1, c2, c3, cv, e⟩ | ⟨c1, c2, c3, c4, cv, cs, e⟩ | ⟨c1, c2, c3, c4, c5, cv, cw, e⟩ | e
    · rw [e]; unfold decodeN; rw [if_pos c1]
    · rw [e]; unfold decodeN; rw [if_neg (by omega), if_pos ⟨c1, by omega, c3⟩, if_pos (by omega)]
    · rw [e]; unfold decodeN; rw [if_neg (by omega), if_neg (by omega), if_pos ⟨c1, ⟨by omega, c3⟩, by omega, c4⟩, if_pos (by omega)]
    · omega
    · rw [e] at hv; exact absurd ⟨rfl, rfl⟩ hv
  · rw [gl 1 (by omega), gl 2 (by omega), gl 3 (by omega)] at hv
    rw [gl 1 (by omega), gl 2 (by omega), gl 3 (by omega)]
    unfold decodeN
    have e1 : (1 < p.length) = True := by rw [eq_iff_iff]; exact ⟨fun _ => trivial, fun _ => by omega⟩
    have e2 : (2 < p.length) = True := by rw [eq_iff_iff]; exact ⟨fun _ => trivial, fun _ => by omega⟩
    have e3 : (3 < p.length) = True := by rw [eq_iff_iff]; exact ⟨fun _ => trivial, fun _ => by omega⟩
    have f1 : (1 < (p ++ c :: x).length) = True := by rw [eq_iff_iff]; exact ⟨fun _ => trivial, fun _ => by omega⟩
    have f2 : (2 < (p ++ c :: x).length) = True := by rw [eq_iff_iff]; exact ⟨fun _ => trivial, fun _ => by omega⟩
    have f3 : (3 < (p ++ c :: x).length) = True := by rw [eq_iff_iff]; exact ⟨fun _ => trivial, fun _ => by omega⟩
    simp only [e1, e2, e3, f1, f2, f3]
theorem valid_head : ∀ (n : Nat) (p x : List UInt8) (c : UInt8), p.length ≤ n → c.toNat < 128 → validD (p ++ c :: x) = true → validD p = true
  | 0, p, x, c, h, hc, hv => by
    have : p = [] := List.eq_nil_of_length_eq_zero (by omega)
    subst this; rfl
  | n + 1, p, x, c, h, hc, hv => by
    by_cases hne : p = []
    · subst hne; rfl
    · rw [validD_step _ (by simp)] at hv
      by_cases hb : (decodeL (p ++ c :: x)).1 = 65533 ∧ (decodeL (p ++ c :: x)).2 = 1
      · simp [hb] at hv
      · rw [if_neg hb] at hv
        have e := decode_head p x c hc hne hb
        have hle := decodeL_le p hne
        have hw := decodeL_width p
        have hl : 0 < p.length := List.length_pos_iff.2 hne
        rw [← e, List.drop_append_of_le_length hle] at hv
        rw [← e] at hb
        rw [validD_step p hne, if_neg hb]
        exact valid_head n (p.drop (decodeL p).2) x c (by rw [List.length_drop]; omega) hc hv
/-- A good name's parent is a good name. -/
theorem good_parent (p r : List UInt8) (h : good (p ++ 47 :: r) = true) : good p = true := by
  unfold good at h ⊢
  simp only [Bool.and_eq_true, decide_eq_true_eq, Bool.not_eq_true'] at h ⊢
  obtain ⟨⟨⟨⟨h1, h2⟩, h3⟩, h4⟩, h5⟩ := h
  have hd : ¬ dbl (47 :: (p ++ 47 :: r ++ [47])) = true := by rw [h5]; decide
  rw [dbl_wrap _ (by simp)] at hd
  have hp : p ≠ [] := fun e => by subst e; exact hd (.inl rfl)
  have hl : 0 < p.length := List.length_pos_iff.2 hp
  refine ⟨⟨⟨⟨hp, ?_⟩, valid_head p.length p r 47 (Nat.le_refl _) (by decide) h3⟩, ?_⟩, ?_⟩
  · simp at h2; omega
  · rw [List.all_append, Bool.and_eq_true] at h4; exact h4.1
  · rw [← Bool.not_eq_true, dbl_wrap p hp]
    rintro (h | h | ⟨i, a, b⟩)
    · exact hd (.inl (by rw [List.getElem?_append_left hl]; exact h))
    · refine hd (.inr (.inr ⟨p.length - 1, ?_, ?_⟩))
      · rw [List.getElem?_append_left (by omega)]; exact h
      · rw [show p.length - 1 + 1 = p.length from by omega, List.getElem?_append_right (Nat.le_refl _)]; simp
    · have hb := (List.getElem?_eq_some_iff.1 b).1
      exact hd (.inr (.inr ⟨i, by rw [List.getElem?_append_left (by omega)]; exact a, by rw [List.getElem?_append_left hb]; exact b⟩))
theorem good_bytes (l : List UInt8) (h : good l = true) : ∀ c ∈ l, c ≠ 42 ∧ c ≠ 37 := by
  unfold good at h
  simp only [Bool.and_eq_true] at h
  intro c hc
  have := List.all_eq_true.1 h.1.2 c hc
  unfold goodB at this
  simp at this
  refine ⟨fun e => ?_, fun e => ?_⟩ <;> subst e <;> simp at this
theorem good_ne (l : List UInt8) (h : good l = true) : l ≠ [] := by
  unfold good at h
  simp only [Bool.and_eq_true, decide_eq_true_eq] at h
  exact h.1.1.1.1

/-! ## Match -/
def foldB (b : UInt8) : UInt8 := if 65 ≤ b.toNat ∧ b.toNat ≤ 90 then b + 32 else b
def inboxL : List UInt8 := [73, 78, 66, 79, 88]
def isInbox (l : List UInt8) : Bool := l.map foldB == [105, 110, 98, 111, 120]
def inbox (l : List UInt8) : List UInt8 := if isInbox l = true then inboxL else l
def star (c : UInt8) : Bool := c == 42 || c == 37
/-- Which beginnings of s the pattern with one more byte fits. -/
def stepF (c : UInt8) (s : List UInt8) (f : Nat → Bool) : Nat → Bool
  | 0 => if star c = true then f 0 else false
  | k + 1 => if star c = true then f (k + 1) || (stepF c s f k && (c == 42 || s.getD k 0 != 47)) else f k && s.getD k 0 == c
def fits (p s : List UInt8) : Nat → Bool := p.foldl (fun f c => stepF c s f) (fun k => k == 0)
def matchL (p s : List UInt8) : Bool := fits (inbox p) (inbox s) (inbox s).length
theorem fits_snoc (p s : List UInt8) (c : UInt8) : fits (p ++ [c]) s = stepF c s (fits p s) := by simp [fits]
theorem fits_nil (s : List UInt8) : fits [] s = fun k => k == 0 := rfl

/-- A star lets all in that stood before. -/
theorem step_star (c : UInt8) (s : List UInt8) (f : Nat → Bool) (h : star c = true) (k : Nat) (hk : f k = true) : stepF c s f k = true := by
  cases k with
  | zero => rw [stepF, if_pos h]; exact hk
  | succ k => rw [stepF, if_pos h, hk]; rfl
theorem step_on (c : UInt8) (s : List UInt8) (f : Nat → Bool) (h : star c = true) (k : Nat) (hk : stepF c s f k = true) (hs : c = 42 ∨ s.getD k 0 ≠ 47) : stepF c s f (k + 1) = true := by
  rw [stepF, if_pos h, hk]
  rcases hs with hs | hs
  · subst hs; simp
  · rw [bne_iff_ne.2 hs]; simp
theorem step_far (c : UInt8) (s : List UInt8) (f : Nat → Bool) (h : star c = true) (k : Nat) (hk : stepF c s f k = true) : ∀ n, (c = 42 ∨ ∀ j, k ≤ j → j < k + n → s.getD j 0 ≠ 47) → stepF c s f (k + n) = true
  | 0, _ => hk
  | n + 1, hs => by
    have ih := step_far c s f h k hk n (hs.imp id fun hs j h1 h2 => hs j h1 (by omega))
    exact step_on c s f h (k + n) ih (hs.imp id fun hs => hs (k + n) (by omega) (by omega))
theorem step_reach (c : UInt8) (s : List UInt8) (f : Nat → Bool) (h : star c = true) : ∀ k, stepF c s f k = true → ∃ j, j ≤ k ∧ f j = true ∧ (c = 42 ∨ ∀ i, j ≤ i → i < k → s.getD i 0 ≠ 47)
  | 0, hk => by rw [stepF, if_pos h] at hk; exact ⟨0, Nat.le_refl _, hk, .inr fun i _ h => absurd h (Nat.not_lt_zero _)⟩
  | k + 1, hk => by
    rw [stepF, if_pos h, Bool.or_eq_true, Bool.and_eq_true] at hk
    rcases hk with hk | ⟨hk, hc⟩
    · exact ⟨k + 1, Nat.le_refl _, hk, .inr fun i h1 h2 => by omega⟩
    · obtain ⟨j, hj, hf, hr⟩ := step_reach c s f h k hk
      rw [Bool.or_eq_true, beq_iff_eq, bne_iff_ne] at hc
      rcases hc with hc | hc
      · exact ⟨j, by omega, hf, .inl hc⟩
      · refine ⟨j, by omega, hf, hr.imp id fun hr i h1 h2 => ?_⟩
        by_cases hi : i = k
        · subst hi; exact hc
        · exact hr i h1 (by omega)
/-- Bytes that are no stars match themselves. -/
theorem fits_self (s : List UInt8) (h : ∀ c ∈ s, star c = false) : ∀ k, k ≤ s.length → fits (s.take k) s k = true
  | 0, _ => by simp [fits]
  | k + 1, hk => by
    have hk' : k < s.length := by omega
    rw [List.take_succ_eq_append_getElem hk', fits_snoc, stepF, if_neg (by rw [h _ (List.getElem_mem hk')]; decide), fits_self s h k (by omega)]
    simp [List.getD_eq_getElem?_getD, List.getElem?_eq_getElem hk']
theorem fits_more (s x : List UInt8) : ∀ (p : List UInt8) (k : Nat), k ≤ s.length → fits p (s ++ x) k = fits p s k := by
  have gen : ∀ (p : List UInt8) (f g : Nat → Bool), (∀ k, k ≤ s.length → f k = g k) → ∀ k, k ≤ s.length → p.foldl (fun f c => stepF c (s ++ x) f) f k = p.foldl (fun f c => stepF c s f) g k := by
    intro p
    induction p with
    | nil => intro f g h k hk; exact h k hk
    | cons c t ih =>
      intro f g h k hk
      rw [List.foldl_cons, List.foldl_cons]
      refine ih _ _ (fun k => ?_) k hk
      induction k with
      | zero => intro _; rw [stepF, stepF, h 0 (Nat.zero_le _)]
      | succ k ihk =>
        intro hk
        have e : (s ++ x).getD k 0 = s.getD k 0 := by
          rw [List.getD_eq_getElem?_getD, List.getD_eq_getElem?_getD, List.getElem?_append_left (by omega)]
        rw [stepF, stepF, h _ hk, h k (by omega), ihk (by omega), e]
  exact fun p k hk => gen p _ _ (fun _ _ => rfl) k hk

theorem inbox_len (l : List UInt8) (h : isInbox l = true) : l.length = 5 := by
  unfold isInbox at h
  have := congrArg List.length (beq_iff_eq.1 h)
  simpa using this
theorem inbox_of (l : List UInt8) (h : isInbox l = false) : inbox l = l := by unfold inbox; rw [if_neg (by rw [h]; decide)]
theorem foldB_eq (c : UInt8) (x : UInt8) (hx : 65 ≤ x.toNat → 90 < x.toNat) (h : c = x) : foldB c = x := by
  subst h
  unfold foldB
  rw [if_neg (by omega)]
theorem isInbox_mem (l : List UInt8) (h : isInbox l = true) (c : UInt8) (hc : c ∈ l) (hb : foldB c ∉ ([105, 110, 98, 111, 120] : List UInt8)) : False := by
  unfold isInbox at h
  have e := beq_iff_eq.1 h
  exact hb (e ▸ List.mem_map_of_mem hc)
theorem inbox_stars (l : List UInt8) (h : ∀ c ∈ l, star c = false) : ∀ c ∈ inbox l, star c = false := by
  unfold inbox
  split
  · decide
  · exact h
theorem match_self (s : List UInt8) (h : ∀ c ∈ s, star c = false) : matchL s s = true := by
  unfold matchL
  have := fits_self (inbox s) (inbox_stars s h) (inbox s).length (Nat.le_refl _)
  rwa [List.take_length] at this
theorem not_inbox_snoc (p : List UInt8) (c : UInt8) (hc : foldB c ∉ ([105, 110, 98, 111, 120] : List UInt8)) : isInbox (p ++ [c]) = false := by
  rw [← Bool.not_eq_true]
  exact fun h => isInbox_mem _ h c (by simp) hc
theorem fits_stars (s : List UInt8) : ∀ n, 1 ≤ n → ∀ k, fits (List.replicate n 42) s k = true
  | 0, h => by omega
  | 1, _ => fun k => by
    show stepF 42 s (fun k => k == 0) k = true
    have := step_far 42 s (fun k => k == 0) rfl 0 rfl k (.inl rfl)
    rwa [Nat.zero_add] at this
  | n + 2, _ => fun k => by
    rw [List.replicate_succ', fits_snoc]
    exact step_star 42 s _ rfl k (fits_stars s (n + 1) (by omega) k)
theorem match_star (s : List UInt8) (n : Nat) (h : 1 ≤ n) : matchL (List.replicate n 42) s = true := by
  have e : inbox (List.replicate n 42) = List.replicate n 42 := by
    obtain ⟨m, rfl⟩ : ∃ m, n = m + 1 := ⟨n - 1, by omega⟩
    rw [List.replicate_succ', inbox_of _ (not_inbox_snoc _ _ (by decide))]
  unfold matchL
  rw [e]
  exact fits_stars _ n h _
/-- '%' takes what has no slash. -/
theorem match_part (s : List UInt8) : matchL [37] s = true ↔ ∀ c ∈ s, c ≠ 47 := by
  have e : inbox [37] = [37] := by decide
  have key : ∀ s : List UInt8, fits [37] s s.length = true ↔ ∀ c ∈ s, c ≠ 47 := fun s => by
    show stepF 37 s (fun k => k == 0) s.length = true ↔ _
    constructor
    · intro h c hc hcs
      obtain ⟨j, hj, hf, hr⟩ := step_reach 37 s _ rfl s.length h
      have hj0 : j = 0 := by simpa using hf
      subst hj0
      obtain ⟨i, hi, rfl⟩ := List.getElem_of_mem hc
      rcases hr with hr | hr
      · exact absurd hr (by decide)
      · refine hr i (Nat.zero_le _) hi ?_
        rw [List.getD_eq_getElem?_getD, List.getElem?_eq_getElem hi]; exact hcs
    · intro h
      have := step_far 37 s (fun k => k == 0) rfl 0 rfl s.length (.inr fun j _ hj => by
        rw [Nat.zero_add] at hj
        rw [List.getD_eq_getElem?_getD, List.getElem?_eq_getElem hj]; exact h _ (List.getElem_mem hj))
      rwa [Nat.zero_add] at this
  unfold matchL
  rw [e, key]
  unfold inbox
  split
  · rename_i h
    constructor
    · intro _ c hc hcs
      subst hcs
      exact isInbox_mem _ h 47 hc (by decide)
    · intro _; decide
  · exact Iff.rfl
/-- One more star at the end. -/
theorem match_more (p s : List UInt8) (hp : isInbox p = false) (h : matchL p s = true) : matchL (p ++ [42]) s = true := by
  unfold matchL at h ⊢
  rw [inbox_of p hp] at h
  rw [inbox_of _ (not_inbox_snoc p 42 (by decide)), fits_snoc]
  exact step_star 42 _ _ rfl _ h
theorem match_inbox (p : List UInt8) (hp : isInbox p = true) : matchL p inboxL = true := by
  have e : inbox p = inboxL := by unfold inbox; rw [if_pos hp]
  have e2 : inbox inboxL = inboxL := by decide
  unfold matchL
  rw [e, e2]
  decide
/-- A parent, a slash and a star. -/
theorem match_below (p r : List UInt8) (c : UInt8) (hc : star c = true) (hp : ∀ x ∈ p, star x = false) (hr : ∀ x ∈ r, x ≠ 47) : matchL (p ++ [47, c]) (p ++ 47 :: r) = true := by
  have e1 : inbox (p ++ [47, c]) = p ++ [47, c] := by
    refine inbox_of _ ?_
    rw [← Bool.not_eq_true]
    exact fun h => isInbox_mem _ h 47 (by simp) (by decide)
  have e2 : inbox (p ++ 47 :: r) = p ++ 47 :: r := by
    refine inbox_of _ ?_
    rw [← Bool.not_eq_true]
    exact fun h => isInbox_mem _ h 47 (by simp) (by decide)
  unfold matchL
  rw [e1, e2]
  have e3 : p ++ [47, c] = (p ++ [47]) ++ [c] := by simp
  have e4 : p ++ 47 :: r = (p ++ [47]) ++ r := by simp
  rw [e3, fits_snoc]
  have h1 : fits (p ++ [47]) (p ++ 47 :: r) (p.length + 1) = true := by
    rw [e4, fits_more _ _ _ _ (by simp)]
    have := fits_self (p ++ [47]) (fun x hx => by
      rcases List.mem_append.1 hx with hx | hx
      · exact hp x hx
      · rw [List.mem_singleton] at hx; subst hx; decide) (p.length + 1) (by simp)
    rwa [List.take_of_length_le (by simp)] at this
  have h2 := step_far c (p ++ 47 :: r) _ hc (p.length + 1) (step_star c _ _ hc _ h1) r.length (.inr fun j h1 h2 => by
    rw [List.getD_eq_getElem?_getD, e4, List.getElem?_append_right (by simpa using h1)]
    have hj : j - (p ++ [47]).length < r.length := by simp; omega
    rw [List.getElem?_eq_getElem hj]
    exact hr _ (List.getElem_mem hj))
  have e5 : p.length + 1 + r.length = (p ++ 47 :: r).length := by simp; omega
  rw [e5] at h2
  exact h2

/-! ## the places, in order -/
/-- The beginnings of lengths up to n that f takes. -/
def places (f : Nat → Bool) (n : Nat) : List Nat := (List.range (n + 1)).filter f
end Go.Proofs.YtpjgacmcpbpklaaDoor.U7
