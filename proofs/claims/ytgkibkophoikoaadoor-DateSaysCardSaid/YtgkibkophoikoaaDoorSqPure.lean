/- Package seq's answers as plain functions on bytes, pairs of numbers and lists, and what follows from them. No program is named here. -/
import Derived.Lib.ItoaNum
import Derived.Lib.IndexMore
import Derived.Lib.Bytealg
import Derived.Lib.ParseIntBCases
import Derived.Lib.Slices
namespace Go.Proofs.YtgkibkophoikoaaDoor.Sq
open Go.Lib
set_option linter.unusedVariables false
set_option linter.unusedSimpArgs false

/-! ## numbers -/
def dig (b : UInt8) : Bool := decide (48 ≤ b.toNat) && decide (b.toNat ≤ 57)
def val (acc : Nat) (l : List UInt8) : Nat := l.foldl (fun n b => 10 * n + (b.toNat - 48)) acc
theorem pu_ok : ∀ (l : List UInt8) (acc u : Nat), parseUint10 acc l = .ok u → l.all dig = true ∧ u = val acc l ∧ acc * 10 ^ l.length ≤ u
  | [], acc, u, h => by simp [parseUint10] at h; subst h; simp [val]
  | c :: r, acc, u, h => by
    unfold parseUint10 at h
    split at h
    · rename_i hc
      split at h
      · cases h
      · split at h
        · cases h
        · obtain ⟨h1, h2, h3⟩ := pu_ok r _ u h
          refine ⟨by simp [dig, hc, h1], ?_, ?_⟩
          · rw [h2]; unfold val; rw [List.foldl_cons, Nat.mul_comm acc 10]
          · refine Nat.le_trans ?_ h3
            rw [List.length_cons, Nat.pow_succ, Nat.mul_comm (10 ^ r.length) 10, ← Nat.mul_assoc]
            exact Nat.mul_le_mul_right _ (by omega)
    · cases h
theorem pu_of : ∀ (l : List UInt8) (acc k : Nat), acc < 10 ^ k → l.length + k ≤ 18 → l.all dig = true → parseUint10 acc l = .ok (val acc l)
  | [], acc, k, _, _, _ => by simp [parseUint10, val]
  | c :: r, acc, k, ha, hl, hd => by
    simp only [List.all_cons, Bool.and_eq_true] at hd
    obtain ⟨hc, hr⟩ := hd
    have hc' : 48 ≤ c.toNat ∧ c.toNat ≤ 57 := by simpa [dig] using hc
    rw [List.length_cons] at hl
    have hk : k ≤ 17 := by omega
    have h17 : 10 ^ k ≤ 10 ^ 17 := Nat.pow_le_pow_right (by decide) hk
    have e17 : (10 : Nat) ^ 17 = 100000000000000000 := by decide
    unfold parseUint10
    rw [if_pos hc', if_neg (by omega), if_neg (by omega), pu_of r (acc * 10 + (c.toNat - 48)) (k + 1) (by rw [Nat.pow_succ]; omega) (by omega) hr]
    unfold val
    rw [List.foldl_cons, Nat.mul_comm acc 10]
theorem pu_snoc : ∀ (l : List UInt8) (acc v : Nat) (c : UInt8), parseUint10 acc l = .ok v → parseUint10 acc (l ++ [c]) = parseUint10 v [c]
  | [], acc, v, c, h => by simp [parseUint10] at h; subst h; rfl
  | b :: r, acc, v, c, h => by
    rw [List.cons_append]
    unfold parseUint10 at h ⊢
    split at h
    · rename_i hc
      rw [if_pos hc]
      split at h
      · cases h
      · rename_i h1
        rw [if_neg h1]
        split at h
        · cases h
        · rename_i h2
          rw [if_neg h2]
          exact pu_snoc r _ v c h
    · cases h
theorem digit_nat (d : Nat) (h : d < 10) : (UInt8.ofNat (48 + d)).toNat = 48 + d := by
  rw [UInt8.toNat_ofNat', Nat.mod_eq_of_lt (by omega)]
theorem pu_dec (n : Nat) (h : n ≤ 9223372036854775807) : parseUint10 0 (decDigits n) = .ok n := by
  induction n using Nat.strongRecOn with
  | _ n ih =>
    by_cases hn : n < 10
    · rw [decDigits_one hn]
      unfold parseUint10
      rw [digit_nat n hn, if_pos (by omega), if_neg (by omega), if_neg (by omega)]
      unfold parseUint10
      congr 1; omega
    · rw [decDigits, dif_neg hn, pu_snoc _ _ _ _ (ih (n / 10) (by omega) (by omega))]
      unfold parseUint10
      rw [digit_nat (n % 10) (Nat.mod_lt _ (by decide)), if_pos (by omega), if_neg (by omega), if_neg (by omega)]
      unfold parseUint10
      congr 1; omega
theorem dec_ne (n : Nat) : decDigits n ≠ [] := by
  by_cases hn : n < 10
  · rw [decDigits_one hn]; simp
  · rw [decDigits, dif_neg hn]; simp
theorem dec_dig (n : Nat) : (decDigits n).all dig = true := by
  induction n using Nat.strongRecOn with
  | _ n ih =>
    by_cases hn : n < 10
    · rw [decDigits_one hn]
      simp only [List.all_cons, List.all_nil, Bool.and_true, dig, digit_nat n hn]
      simp; omega
    · rw [decDigits, dif_neg hn, List.all_append, ih (n / 10) (by omega)]
      have := digit_nat (n % 10) (Nat.mod_lt _ (by decide))
      simp only [List.all_cons, List.all_nil, Bool.and_true, dig, this, Bool.true_and]
      simp; omega
theorem dec_head (n : Nat) (h : 1 ≤ n) : ∀ c r, decDigits n = c :: r → c.toNat ≠ 48 := by
  induction n using Nat.strongRecOn with
  | _ n ih =>
    intro c r e
    by_cases hn : n < 10
    · rw [decDigits_one hn] at e
      injection e with e1 e2
      rw [← e1, digit_nat n hn]; omega
    · rw [decDigits, dif_neg hn] at e
      cases hd : decDigits (n / 10) with
      | nil => exact absurd hd (dec_ne _)
      | cons c' r' =>
        rw [hd, List.cons_append] at e
        injection e with e1 e2
        rw [← e1]
        exact ih (n / 10) (by omega) (by omega) c' r' hd

/-- A number or a star; nothing: it is neither. -/
def pnum (l : List UInt8) : Option Int :=
  if l = [42] then some 0 else if l = [] ∨ l.head? = some 48 then none else
    match parseUintB 64 l with
    | .ok u => if u ≤ 4294967295 then some (u : Int) else none
    | _ => none
theorem pnum_star : pnum [42] = some 0 := rfl
theorem pnum_zero (l : List UInt8) (h : l ≠ [42]) (h2 : l = [] ∨ l.head? = some 48) : pnum l = none := by unfold pnum; rw [if_neg h, if_pos h2]
theorem pnum_ok (l : List UInt8) (u : Nat) (h : l ≠ [42]) (h2 : ¬ (l = [] ∨ l.head? = some 48)) (hp : parseUintB 64 l = .ok u) (hu : u ≤ 4294967295) : pnum l = some (u : Int) := by
  unfold pnum; rw [if_neg h, if_neg h2, hp]; simp [hu]
theorem pnum_big (l : List UInt8) (u : Nat) (h : l ≠ [42]) (h2 : ¬ (l = [] ∨ l.head? = some 48)) (hp : parseUintB 64 l = .ok u) (hu : ¬ u ≤ 4294967295) : pnum l = none := by
  unfold pnum; rw [if_neg h, if_neg h2, hp]; simp only; rw [if_neg hu]
theorem pnum_syn (l : List UInt8) (h : l ≠ [42]) (h2 : ¬ (l = [] ∨ l.head? = some 48)) (hp : parseUintB 64 l = .syntax) : pnum l = none := by
  unfold pnum; rw [if_neg h, if_neg h2, hp]
theorem pnum_rng (l : List UInt8) (h : l ≠ [42]) (h2 : ¬ (l = [] ∨ l.head? = some 48)) (hp : parseUintB 64 l = .range) : pnum l = none := by
  unfold pnum; rw [if_neg h, if_neg h2, hp]
theorem pnum_some (l : List UInt8) (n : Int) (h : pnum l = some n) : l = [42] ∧ n = 0 ∨ l.all dig = true ∧ 1 ≤ l.length ∧ l.length ≤ 10 ∧ n = (val 0 l : Int) ∧ val 0 l ≤ 4294967295 ∧ l.head? ≠ some 48 := by
  unfold pnum at h
  split at h
  · rename_i e; injection h with h; exact .inl ⟨e, h.symm⟩
  · split at h
    · cases h
    · rename_i h1 h2
      split at h
      · rename_i u hp
        split at h
        · rename_i hu
          injection h with h
          rw [parseUintB_64] at hp
          unfold parseMag at hp
          split at hp
          · cases hp
          · rename_i hne
            obtain ⟨q1, q2, q3⟩ := pu_ok l 0 u hp
            have hpos : 1 ≤ l.length := List.length_pos_iff.2 hne
            refine .inr ⟨q1, hpos, ?_, by rw [← h, q2], by rw [← q2]; exact hu, fun hh => h2 (.inr hh)⟩
            cases l with
            | nil => exact absurd rfl hne
            | cons c r =>
              refine Nat.le_of_not_lt fun hl => ?_
              simp only [List.all_cons, Bool.and_eq_true] at q1
              have hc : 48 ≤ c.toNat ∧ c.toNat ≤ 57 := by simpa [dig] using q1.1
              have hc2 : c.toNat ≠ 48 := fun e => h2 (.inr (by simp; exact UInt8.toNat_inj.1 e))
              unfold parseUint10 at hp
              rw [if_pos hc] at hp
              split at hp
              · cases hp
              · split at hp
                · cases hp
                · obtain ⟨_, _, p3⟩ := pu_ok r _ u hp
                  have hr : 10 ≤ r.length := by simp at hl; omega
                  have h10 : 10 ^ 10 ≤ 10 ^ r.length := Nat.pow_le_pow_right (by decide) hr
                  have e10 : (10 : Nat) ^ 10 = 10000000000 := by decide
                  have : 1 * 10 ^ r.length ≤ (0 * 10 + (c.toNat - 48)) * 10 ^ r.length := Nat.mul_le_mul_right _ (by omega)
                  omega
        · cases h
      · cases h
theorem pnum_of (l : List UInt8) (hd : l.all dig = true) (h1 : 1 ≤ l.length) (h2 : l.length ≤ 10) (h3 : l.head? ≠ some 48) (hv : val 0 l ≤ 4294967295) : pnum l = some (val 0 l : Int) := by
  have hne : l ≠ [] := List.length_pos_iff.1 h1
  refine pnum_ok l (val 0 l) (fun e => ?_) (fun h => h.elim hne h3) ?_ hv
  · subst e; simp [dig] at hd
  · rw [parseUintB_64]
    unfold parseMag
    rw [if_neg hne]
    exact pu_of l 0 0 (by decide) (by omega) hd
theorem pnum_range (l : List UInt8) (n : Int) (h : pnum l = some n) : 0 ≤ n ∧ n ≤ 4294967295 := by
  rcases pnum_some l n h with ⟨_, rfl⟩ | ⟨_, _, _, rfl, h, _⟩ <;> omega
/-- No number holds a byte that is neither a digit nor the star. -/
theorem pnum_mem (l : List UInt8) (n : Int) (h : pnum l = some n) (c : UInt8) (hc : c ∈ l) : c = 42 ∨ dig c = true := by
  rcases pnum_some l n h with ⟨rfl, _⟩ | ⟨hd, _⟩
  · exact .inl (by simpa using hc)
  · exact .inr (List.all_eq_true.1 hd c hc)
/-- What the document's own reads: at most ten digits. -/
theorem pnum_ref (l : List UInt8) (h : l ≠ [42]) : pnum l = if (decide (1 ≤ l.length) && decide (l.length ≤ 10) && l.all dig) = true ∧ l.head? ≠ some 48 ∧ val 0 l ≤ 4294967295 then some (val 0 l : Int) else none := by
  split
  · rename_i hc
    obtain ⟨h1, h2, h3⟩ := hc
    simp at h1
    exact pnum_of l (by simpa using h1.2) h1.1.1 h1.1.2 h2 h3
  · rename_i hc
    cases hp : pnum l with
    | none => rfl
    | some n =>
      rcases pnum_some l n hp with ⟨e, _⟩ | ⟨h1, h2, h3, _, h4, h5⟩
      · exact absurd e h
      · exact absurd ⟨by simp [h1, h2, h3], h5, h4⟩ hc

def num1 (n : Int) : List UInt8 := if n = 0 then [42] else itoa n
theorem num1_back (n : Int) (h0 : 0 ≤ n) (h1 : n ≤ 4294967295) : pnum (num1 n) = some n := by
  unfold num1
  by_cases hn : n = 0
  · rw [if_pos hn, hn]; rfl
  · obtain ⟨k, rfl⟩ : ∃ k : Nat, n = k := ⟨n.toNat, by omega⟩
    have ei : itoa (k : Int) = decDigits k := by unfold itoa; rw [if_neg (by omega)]; simp
    rw [if_neg hn, ei]
    refine pnum_ok _ k (fun e => ?_) (fun h => ?_) ?_ (by omega)
    · have := dec_dig k; rw [e] at this; simp [dig] at this
    · rcases h with h | h
      · exact dec_ne k h
      · cases hd : decDigits k with
        | nil => exact dec_ne k hd
        | cons c r =>
          rw [hd] at h
          simp at h
          exact dec_head k (by omega) c r hd (by rw [h]; rfl)
    · rw [parseUintB_64]
      unfold parseMag
      rw [if_neg (dec_ne k)]
      exact pu_dec k (by omega)
theorem num1_mem (n : Int) (h0 : 0 ≤ n) (h1 : n ≤ 4294967295) (c : UInt8) (hc : c ∈ num1 n) : c = 42 ∨ dig c = true := pnum_mem _ _ (num1_back n h0 h1) c hc
theorem num1_no (n : Int) (h0 : 0 ≤ n) (h1 : n ≤ 4294967295) : (44 : UInt8) ∉ num1 n ∧ (58 : UInt8) ∉ num1 n := by
  constructor <;> intro h <;> rcases num1_mem n h0 h1 _ h with h2 | h2 <;> simp [dig] at h2
theorem num1_ne (n : Int) : num1 n ≠ [] := by
  unfold num1
  split
  · simp
  · unfold itoa
    split
    · simp
    · exact dec_ne _

/-! ## a text's parts between a byte -/
def cut1 (c : UInt8) (l : List UInt8) : List UInt8 × List UInt8 × Bool := if c ∈ l then (l.takeWhile (· != c), (l.dropWhile (· != c)).tail, true) else (l, [], false)
theorem index_no (c : UInt8) : ∀ l : List UInt8, c ∉ l → index l [c] = -1
  | [], _ => rfl
  | b :: l, h => by
    have h1 : ¬ c = b := fun e => h (by simp [e])
    have h2 : c ∉ l := fun e => h (by simp [e])
    unfold index
    rw [index_no c l h2]
    simp [h1]
theorem index_yes (c : UInt8) : ∀ l : List UInt8, c ∈ l → index l [c] = ((l.takeWhile (· != c)).length : Int)
  | [], h => by cases h
  | b :: l, h => by
    unfold index
    by_cases e : c = b
    · subst e; simp
    · have h2 : c ∈ l := by rcases List.mem_cons.1 h with h | h; exact absurd h e; exact h
      rw [index_yes c l h2]
      have e2 : (b != c) = true := by simp; exact fun h => e h.symm
      have e3 : ¬ ((l.takeWhile (· != c)).length : Int) = -1 := by omega
      rw [List.takeWhile_cons]
      simp [e, e2, e3]
theorem indexByte_no (c : UInt8) : ∀ l : List UInt8, c ∉ l → indexByte l c = -1
  | [], _ => rfl
  | b :: l, h => by
    have h1 : ¬ b = c := fun e => h (by simp [e])
    have h2 : c ∉ l := fun e => h (by simp [e])
    unfold indexByte
    rw [indexByte_no c l h2]
    simp [h1]
theorem indexByte_yes (c : UInt8) : ∀ l : List UInt8, c ∈ l → indexByte l c = ((l.takeWhile (· != c)).length : Int)
  | [], h => by cases h
  | b :: l, h => by
    unfold indexByte
    by_cases e : b = c
    · subst e; simp
    · have h2 : c ∈ l := by rcases List.mem_cons.1 h with h | h; exact absurd h.symm e; exact h
      rw [indexByte_yes c l h2]
      have e2 : (b != c) = true := by simpa using e
      have e3 : ¬ ((l.takeWhile (· != c)).length : Int) = -1 := by omega
      rw [List.takeWhile_cons]
      simp [e, e2, e3]
theorem dw_head (c : UInt8) : ∀ (l : List UInt8), c ∈ l → l = l.takeWhile (· != c) ++ c :: (l.dropWhile (· != c)).tail
  | [], h => by cases h
  | b :: l, h => by
    by_cases e : b = c
    · subst e; simp
    · have e2 : (b != c) = true := by simpa using e
      have h2 : c ∈ l := by rcases List.mem_cons.1 h with h | h; exact absurd h.symm e; exact h
      rw [List.takeWhile_cons, List.dropWhile_cons, if_pos e2, if_pos e2, List.cons_append, ← dw_head c l h2]
theorem take_tw (c : UInt8) (l : List UInt8) (h : c ∈ l) : l.take (l.takeWhile (· != c)).length = l.takeWhile (· != c) := by
  have e := dw_head c l h
  generalize l.takeWhile (· != c) = a at *
  generalize (l.dropWhile (· != c)).tail = b at *
  subst e
  exact List.take_left
theorem drop_tw (c : UInt8) (l : List UInt8) (h : c ∈ l) : l.drop ((l.takeWhile (· != c)).length + 1) = (l.dropWhile (· != c)).tail := by
  have e := dw_head c l h
  generalize l.takeWhile (· != c) = a at *
  generalize (l.dropWhile (· != c)).tail = b at *
  subst e
  rw [← List.drop_drop, List.drop_left, List.drop_one]; rfl
theorem tw_lt (c : UInt8) (l : List UInt8) (h : c ∈ l) : (l.takeWhile (· != c)).length < l.length := by
  have e := congrArg List.length (dw_head c l h)
  rw [List.length_append, List.length_cons] at e
  omega
theorem cut_one (c : UInt8) (l : List UInt8) : cut l [c] = cut1 c l := by
  unfold cut cut1
  by_cases h : c ∈ l
  · rw [index_yes c l h, if_pos h, if_pos (by omega)]
    simp only [Int.toNat_natCast, List.length_singleton, take_tw c l h, drop_tw c l h]
  · rw [index_no c l h, if_neg h, if_neg (by omega)]

def parts (c : UInt8) : List UInt8 → List (List UInt8)
  | [] => [[]]
  | b :: r => if b = c then [] :: parts c r else
    match parts c r with
    | [] => [[b]]
    | p :: q => (b :: p) :: q
theorem parts_ne (c : UInt8) : ∀ l, parts c l ≠ []
  | [] => by simp [parts]
  | b :: r => by
    unfold parts
    split
    · simp
    · split <;> simp
theorem parts_none (c : UInt8) : ∀ l, c ∉ l → parts c l = [l]
  | [], _ => rfl
  | b :: r, h => by
    have h1 : ¬ b = c := fun e => h (by simp [e])
    have h2 : c ∉ r := fun e => h (by simp [e])
    unfold parts
    rw [if_neg h1, parts_none c r h2]
theorem parts_app (c : UInt8) : ∀ (a b : List UInt8), c ∉ a → parts c (a ++ c :: b) = a :: parts c b
  | [], b, _ => by rw [List.nil_append]; conv => lhs; unfold parts
                   simp
  | x :: a, b, h => by
    have h1 : ¬ x = c := fun e => h (by simp [e])
    have h2 : c ∉ a := fun e => h (by simp [e])
    rw [List.cons_append]
    conv => lhs; unfold parts
    rw [if_neg h1, parts_app c a b h2]
theorem tw_not (c : UInt8) (l : List UInt8) : c ∉ l.takeWhile (· != c) := fun h => by
  have := List.all_takeWhile (p := (· != c)) (l := l)
  have := List.all_eq_true.1 this c h
  simp at this
theorem parts_some (c : UInt8) (l : List UInt8) (h : c ∈ l) : parts c l = l.takeWhile (· != c) :: parts c (l.dropWhile (· != c)).tail := by
  conv => lhs; rw [dw_head c l h]
  exact parts_app c _ _ (tw_not c l)
/-- One byte more. -/
def push (c : UInt8) (P : List (List UInt8)) (b : UInt8) : List (List UInt8) := if b = c then P ++ [[]] else P.dropLast ++ [(P.getLastD []) ++ [b]]
theorem parts_snoc (c : UInt8) : ∀ (l : List UInt8) (b : UInt8), parts c (l ++ [b]) = push c (parts c l) b
  | [], b => by
    unfold push
    by_cases h : b = c
    · subst h; simp [parts]
    · simp [parts, h]
  | x :: l, b => by
    have ih := parts_snoc c l b
    rw [List.cons_append]
    conv => lhs; unfold parts
    conv => rhs; rw [show parts c (x :: l) = _ from by unfold parts; rfl]
    rw [ih]
    cases hp : parts c l with
    | nil => exact absurd hp (parts_ne c l)
    | cons p q =>
      by_cases hx : x = c
      · rw [if_pos hx, if_pos hx]
        unfold push
        by_cases hb : b = c
        · rw [if_pos hb, if_pos hb]; rfl
        · rw [if_neg hb, if_neg hb]; simp
      · rw [if_neg hx, if_neg hx]
        unfold push
        by_cases hb : b = c
        · rw [if_pos hb, if_pos hb]; rfl
        · rw [if_neg hb, if_neg hb]
          cases q with
          | nil => simp
          | cons y q => simp

/-! ## spans -/
def pspan (l : List UInt8) : Option (Int × Int) :=
  match pnum (cut1 58 l).1, pnum (if (cut1 58 l).2.2 then (cut1 58 l).2.1 else (cut1 58 l).1) with
  | some a, some b => some (a, b)
  | _, _ => none
def gather : List (Int × Int) → List (List UInt8) → Option (List (Int × Int))
  | acc, [] => some acc
  | acc, p :: q => match pspan p with
    | none => none
    | some s => gather (acc ++ [s]) q
theorem gather_cons (acc : List (Int × Int)) (p : List UInt8) (q : List (List UInt8)) : gather acc (p :: q) = match pspan p with | none => none | some s => gather (acc ++ [s]) q := rfl
def ended (o : Option (List (Int × Int))) : List (Int × Int) × Int := match o with
  | none => ([], 3)
  | some L => if 100 < L.length then ([], 2) else (L, 0)
def parse (l : List UInt8) : List (Int × Int) × Int := ended (gather [] (parts 44 l))
theorem gather_map (f : Int × Int → List UInt8) : ∀ (L acc : List (Int × Int)), (∀ s ∈ L, pspan (f s) = some s) → gather acc (L.map f) = some (acc ++ L)
  | [], acc, _ => by simp [gather]
  | s :: L, acc, h => by
    rw [List.map_cons, gather_cons, h s (by simp)]
    simp only
    rw [gather_map f L _ (fun x hx => h x (by simp [hx])), List.append_assoc]; rfl
theorem pspan_ref (l : List UInt8) : pspan l = match parts 58 l with
    | [x] => (match pnum x, pnum x with | some a, some b => some (a, b) | _, _ => none)
    | [x, y] => (match pnum x, pnum y with | some a, some b => some (a, b) | _, _ => none)
    | _ => none := by
  unfold pspan cut1
  by_cases h : (58 : UInt8) ∈ l
  · rw [if_pos h, parts_some 58 l h]
    simp only [if_true]
    generalize l.takeWhile (· != 58) = x
    generalize (l.dropWhile (· != 58)).tail = r
    by_cases h2 : (58 : UInt8) ∈ r
    · have h3 : pnum r = none := by
        cases hp : pnum r with
        | none => rfl
        | some n => rcases pnum_mem r n hp 58 h2 with h4 | h4 <;> simp [dig] at h4
      rw [h3, parts_some 58 r h2]
      cases hp : parts 58 (r.dropWhile (· != 58)).tail with
      | nil => exact absurd hp (parts_ne _ _)
      | cons p q => cases pnum x <;> simp
    · rw [parts_none 58 r h2]
  · rw [if_neg h, parts_none 58 l h]
    simp

def show1 (s : Int × Int) : List UInt8 := num1 s.1 ++ if s.1 = s.2 then [] else 58 :: num1 s.2
def good1 (s : Int × Int) : Bool := decide (0 ≤ s.1) && decide (0 ≤ s.2) && decide (s.1 ≤ 4294967295) && decide (s.2 ≤ 4294967295)
theorem good1_iff (s : Int × Int) : good1 s = true ↔ 0 ≤ s.1 ∧ 0 ≤ s.2 ∧ s.1 ≤ 4294967295 ∧ s.2 ≤ 4294967295 := by
  unfold good1; simp [and_assoc]
def valid (L : List (Int × Int)) : Bool := decide (1 ≤ L.length) && decide (L.length ≤ 100) && L.all good1
theorem pspan_range (l : List UInt8) (s : Int × Int) (h : pspan l = some s) : good1 s = true := by
  unfold pspan at h
  split at h
  · rename_i a b h1 h2
    injection h with h
    subst h
    rw [good1_iff]
    exact ⟨(pnum_range _ _ h1).1, (pnum_range _ _ h2).1, (pnum_range _ _ h1).2, (pnum_range _ _ h2).2⟩
  · cases h
theorem show1_back (s : Int × Int) (h : good1 s = true) : pspan (show1 s) = some s := by
  obtain ⟨a, b⟩ := s
  obtain ⟨h1, h2, h3, h4⟩ := (good1_iff _).1 h
  simp only at h1 h2 h3 h4
  obtain ⟨ha1, ha2⟩ := num1_no a h1 h3
  obtain ⟨hb1, hb2⟩ := num1_no b h2 h4
  have p1 := num1_back a h1 h3
  have p2 := num1_back b h2 h4
  rw [pspan_ref]
  unfold show1
  simp only
  by_cases e : a = b
  · subst e
    rw [if_pos rfl, List.append_nil, parts_none 58 _ ha2]
    simp [p1]
  · rw [if_neg e, parts_app 58 _ _ ha2, parts_none 58 _ hb2]
    simp [p1, p2]
theorem show1_no (s : Int × Int) (h : good1 s = true) : (44 : UInt8) ∉ show1 s := by
  obtain ⟨a, b⟩ := s
  obtain ⟨h1, h2, h3, h4⟩ := (good1_iff _).1 h
  simp only at h1 h2 h3 h4
  unfold show1
  simp only
  rw [List.mem_append]
  rintro (h | h)
  · exact (num1_no a h1 h3).1 h
  · split at h
    · cases h
    · rcases List.mem_cons.1 h with h | h
      · exact absurd h (by decide)
      · exact (num1_no b h2 h4).1 h
def tailJ (L : List (Int × Int)) : List UInt8 := L.flatMap fun s => 44 :: show1 s
def joinL (L : List (Int × Int)) : List UInt8 := (tailJ L).drop 1
theorem tailJ_cons (s : Int × Int) (L : List (Int × Int)) : tailJ (s :: L) = 44 :: (show1 s ++ tailJ L) := by simp [tailJ]
theorem tailJ_snoc (s : Int × Int) (L : List (Int × Int)) : tailJ (L ++ [s]) = tailJ L ++ 44 :: show1 s := by simp [tailJ]
theorem joinL_one (s : Int × Int) : joinL [s] = show1 s := by simp [joinL, tailJ]
theorem joinL_snoc (s : Int × Int) (L : List (Int × Int)) (h : L ≠ []) : joinL (L ++ [s]) = joinL L ++ 44 :: show1 s := by
  unfold joinL
  rw [tailJ_snoc]
  cases L with
  | nil => exact absurd rfl h
  | cons x L => rw [tailJ_cons]; rfl
theorem tailJ_join (s : Int × Int) (L : List (Int × Int)) : tailJ (s :: L) = 44 :: joinL (s :: L) := by
  unfold joinL; rw [tailJ_cons]; rfl
theorem joinL_parts : ∀ (L : List (Int × Int)), L ≠ [] → (∀ s ∈ L, good1 s = true) → parts 44 (joinL L) = L.map show1
  | [], h, _ => absurd rfl h
  | [s], _, hg => by rw [joinL_one, parts_none 44 _ (show1_no s (hg s (by simp)))]; rfl
  | s :: x :: L, _, hg => by
    have e : joinL (s :: x :: L) = show1 s ++ 44 :: joinL (x :: L) := by
      show (tailJ (s :: x :: L)).drop 1 = _
      rw [tailJ_cons, tailJ_join]; rfl
    rw [e, parts_app 44 _ _ (show1_no s (hg s (by simp))), joinL_parts (x :: L) (by simp) (fun y hy => hg y (by simp [hy]))]
    rfl
def shown (L : List (Int × Int)) : List UInt8 := if valid L then joinL L else []
theorem valid_parts (L : List (Int × Int)) (h : valid L = true) : 1 ≤ L.length ∧ L.length ≤ 100 ∧ ∀ s ∈ L, good1 s = true := by
  unfold valid at h
  simp only [Bool.and_eq_true, decide_eq_true_eq, List.all_eq_true] at h
  exact ⟨h.1.1, h.1.2, h.2⟩
theorem show1_ne (s : Int × Int) : show1 s ≠ [] := by unfold show1; simp [num1_ne]
theorem joinL_ne (L : List (Int × Int)) (h : L ≠ []) : joinL L ≠ [] := by
  cases L with
  | nil => exact absurd rfl h
  | cons s L =>
    unfold joinL
    rw [tailJ_cons]
    simp [show1_ne]
/-- A set that is written is read again. -/
theorem shown_back (L : List (Int × Int)) (h : valid L = true) : parse (shown L) = (L, 0) := by
  obtain ⟨h1, h2, h3⟩ := valid_parts L h
  unfold parse shown
  rw [if_pos h, joinL_parts L (List.length_pos_iff.1 h1) h3, gather_map show1 L [] (fun s hs => show1_back s (h3 s hs))]
  unfold ended
  simp only [List.nil_append]
  rw [if_neg (by omega)]
theorem shown_ne (L : List (Int × Int)) : shown L ≠ [] → valid L = true := fun h => by
  unfold shown at h
  cases hv : valid L with
  | true => rfl
  | false => rw [hv] at h; exact absurd rfl h
theorem shown_ne' (L : List (Int × Int)) (h : valid L = true) : shown L ≠ [] := by
  unfold shown
  rw [if_pos h]
  exact joinL_ne L (List.length_pos_iff.1 (valid_parts L h).1)

/-! ## which numbers are in a set -/
def nof (n last : Int) : Int := if n = 0 then last else n
def hit (n last : Int) (s : Int × Int) : Bool := decide (min (nof s.1 last) (nof s.2 last) ≤ n) && decide (n ≤ max (nof s.1 last) (nof s.2 last))
def hasV (L : List (Int × Int)) (n last : Int) : Bool := decide (1 ≤ n) && L.any (hit n last)
def has (L : List (Int × Int)) (n last : Int) : Bool := valid L && hasV L n last
def pick (L : List (Int × Int)) (l : List Int) : List Int := if valid L then l.filter fun n => hasV L n (maxOf l) else []
theorem hit_ref (n last : Int) (s : Int × Int) : hit n last s = (decide (nof s.1 last ≤ n) && decide (n ≤ nof s.2 last) || decide (nof s.2 last ≤ n) && decide (n ≤ nof s.1 last)) := by
  unfold hit
  generalize nof s.1 last = a
  generalize nof s.2 last = b
  rw [Bool.eq_iff_iff]
  simp only [Bool.and_eq_true, Bool.or_eq_true, decide_eq_true_eq]
  omega
def flip2 (s : Int × Int) : Int × Int := (s.2, s.1)
theorem hit_flip (n last : Int) (s : Int × Int) : hit n last (flip2 s) = hit n last s := by
  unfold hit flip2
  rw [Int.min_comm, Int.max_comm]
theorem good1_flip (s : Int × Int) : good1 (flip2 s) = good1 s := by
  rw [Bool.eq_iff_iff, good1_iff, good1_iff]
  unfold flip2
  simp only
  omega
theorem any_turn (f : Int × Int → Bool) (L : List (Int × Int)) (h : ∀ s, f (flip2 s) = f s) : (L.reverse.map flip2).any f = L.any f := by
  rw [List.any_map, List.any_reverse]
  congr 1
  funext s; exact h s
theorem all_turn (f : Int × Int → Bool) (L : List (Int × Int)) (h : ∀ s, f (flip2 s) = f s) : (L.reverse.map flip2).all f = L.all f := by
  rw [List.all_map, List.all_reverse]
  congr 1
  funext s; exact h s
/-- Neither the order of the spans nor which way round they stand counts. -/
theorem has_turn (L : List (Int × Int)) (n last : Int) : has (L.reverse.map flip2) n last = has L n last := by
  unfold has hasV valid
  rw [any_turn _ _ (hit_flip n last), all_turn _ _ good1_flip]
  simp
theorem maxOf_ge (l : List Int) (x : Int) (h : x ∈ l) : x ≤ maxOf l := by
  have key : ∀ (l : List Int) (m : Int), m ≤ l.foldl max m ∧ ∀ x ∈ l, x ≤ l.foldl max m := by
    intro l
    induction l with
    | nil => intro m; simp
    | cons y l ih =>
      intro m
      rw [List.foldl_cons]
      obtain ⟨h1, h2⟩ := ih (max m y)
      refine ⟨by omega, fun x hx => ?_⟩
      rcases List.mem_cons.1 hx with rfl | hx
      · omega
      · exact h2 x hx
  exact (key l _).2 x h
theorem pick_all (l : List Int) (h : ∀ x ∈ l, 1 ≤ x ∧ x ≤ 4294967295) : pick [(1, 0)] l = l := by
  unfold pick
  rw [if_pos (by decide), List.filter_eq_self]
  intro x hx
  have h1 := h x hx
  have h2 := maxOf_ge l x hx
  have e1 : nof 1 (maxOf l) = 1 := rfl
  have e2 : nof 0 (maxOf l) = maxOf l := rfl
  simp only [hasV, hit, e1, e2, List.any_cons, List.any_nil, Bool.or_false, Bool.and_eq_true, decide_eq_true_eq]
  omega
end Go.Proofs.YtgkibkophoikoaaDoor.Sq
