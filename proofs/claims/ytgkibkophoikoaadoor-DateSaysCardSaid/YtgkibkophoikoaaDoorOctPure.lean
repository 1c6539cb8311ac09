/- Package octet as plain functions on lists of bytes, and what follows from them. No program is named here. -/
import Derived.Lib.Bytealg
import Derived.Lib.Index
namespace Go.Proofs.YtgkibkophoikoaaDoor.Oct

def plainB (b : UInt8) : Bool := b.toNat != 0 && b.toNat != 10 && b.toNat != 13 && decide (b.toNat ≤ 127)
def escB (b : UInt8) : Bool := b.toNat == 34 || b.toNat == 92
def specials : List UInt8 := [40, 41, 123, 37, 42, 34, 92, 93]
def atomB (b : UInt8) : Bool := decide (33 ≤ b.toNat) && decide (b.toNat ≤ 126) && !(specials.contains b)
def foldB (b : UInt8) : UInt8 := if 65 ≤ b.toNat ∧ b.toNat ≤ 90 then b + 32 else b
def fold (l : List UInt8) : List UInt8 := l.map foldB
def atom (l : List UInt8) : Bool := !l.isEmpty && l.all atomB
def esc (b : UInt8) : List UInt8 := if escB b then [92, b] else [b]
def body (l : List UInt8) : List UInt8 := l.flatMap esc
def quotable (l : List UInt8) : Bool := decide (l.length ≤ 8192) && l.all plainB
def quoted (l : List UInt8) : List UInt8 := 34 :: body l ++ [34]

/-- What Unquote does behind its first byte: whether the byte before was a backslash, text so far, place. -/
def unqGo : List UInt8 → Bool → List UInt8 → Nat → List UInt8 × Nat × Nat
  | [], _, _, _ => ([], 0, 8)
  | b :: r, true, acc, i => if escB b then unqGo r false (acc ++ [b]) (i + 1) else ([], 0, 3)
  | b :: r, false, acc, i =>
    if b.toNat = 34 then (acc, i + 1, 0)
    else if plainB b = false then ([], 0, 3)
    else if b.toNat = 92 then unqGo r true acc (i + 1)
    else unqGo r false (acc ++ [b]) (i + 1)
def unquote : List UInt8 → List UInt8 × Nat × Nat
  | [] => ([], 0, 3)
  | b :: r => if b.toNat = 34 then unqGo r false [] 1 else ([], 0, 3)

theorem take_snoc {α : Type} (l : List α) (k : Nat) (h : k < l.length) : l.take (k + 1) = l.take k ++ [l[k]] := by
  rw [List.take_succ_eq_append_getElem h]

theorem body_snoc (l : List UInt8) (b : UInt8) : body (l ++ [b]) = body l ++ esc b := by simp [body]
theorem body_le (l : List UInt8) : (body l).length ≤ 2 * l.length := by
  induction l with
  | nil => simp [body]
  | cons b l ih =>
    have : body (b :: l) = esc b ++ body l := by simp [body]
    rw [this]
    have he : (esc b).length ≤ 2 := by unfold esc; split <;> simp
    simp; omega
theorem body_ge (l : List UInt8) : l.length ≤ (body l).length := by
  induction l with
  | nil => simp [body]
  | cons b l ih =>
    have : body (b :: l) = esc b ++ body l := by simp [body]
    rw [this]
    have he : 1 ≤ (esc b).length := by unfold esc; split <;> simp
    simp; omega

theorem all_take {α : Type} (p : α → Bool) (l : List α) (k : Nat) (h : k < l.length) (ha : (l.take k).all p = true) (hp : p l[k] = true) : (l.take (k + 1)).all p = true := by
  rw [take_snoc l k h, List.all_append, ha]; simp [hp]
theorem all_not {α : Type} (p : α → Bool) (l : List α) (k : Nat) (h : k < l.length) (hp : p l[k] = false) : l.all p = false := by
  rw [List.all_eq_false]
  exact ⟨l[k], List.getElem_mem h, by simp [hp]⟩

/-- What is quoted is read again, whatever stands behind it. -/
theorem unqGo_body (l : List UInt8) : ∀ (rest acc : List UInt8) (i : Nat), l.all plainB = true → unqGo (body l ++ 34 :: rest) false acc i = (acc ++ l, i + (body l).length + 1, 0) := by
  induction l with
  | nil =>
    intro rest acc i _
    show unqGo (34 :: rest) false acc i = _
    simp only [unqGo]
    rw [if_pos (by decide)]
    simp [body]
  | cons b l ih =>
    intro rest acc i hp
    have hb : plainB b = true := by simp at hp; exact hp.1
    have hl : l.all plainB = true := by simp at hp ⊢; exact hp.2
    have e : body (b :: l) = esc b ++ body l := by simp [body]
    rw [e]
    by_cases h : escB b = true
    · have e2 : esc b = [92, b] := by simp [esc, h]
      rw [e2]
      simp only [List.cons_append, List.nil_append, unqGo]
      rw [if_neg (by decide), if_neg (by decide), if_pos (by decide), if_pos h, ih rest _ _ hl]
      simp; omega
    · have e2 : esc b = [b] := by simp [esc, h]
      have h34 : ¬ b.toNat = 34 := by intro hh; apply h; simp [escB, hh]
      have h92 : ¬ b.toNat = 92 := by intro hh; apply h; simp [escB, hh]
      rw [e2]
      simp only [List.cons_append, List.nil_append, unqGo]
      rw [if_neg h34, if_neg (by simp [hb]), if_neg h92, ih rest _ _ hl]
      simp; omega

theorem unquote_quoted (l rest : List UInt8) (h : quotable l = true) : unquote (quoted l ++ rest) = (l, (quoted l).length, 0) := by
  have hp : l.all plainB = true := by simp [quotable] at h; simp; exact h.2
  have e : quoted l ++ rest = 34 :: (body l ++ 34 :: rest) := by simp [quoted]
  rw [e]
  simp only [unquote]
  rw [if_pos (by decide), unqGo_body l rest [] 1 hp]
  simp [quoted]; omega

theorem fold_fold (l : List UInt8) : fold (fold l) = fold l := by
  unfold fold
  rw [List.map_map]
  apply List.map_congr_left
  intro b _
  show foldB (foldB b) = foldB b
  unfold foldB
  by_cases h : 65 ≤ b.toNat ∧ b.toNat ≤ 90
  · have e : (b + 32).toNat = b.toNat + 32 := by
      rw [UInt8.toNat_add]
      have : (32 : UInt8).toNat = 32 := rfl
      omega
    rw [if_pos h, if_neg (by omega)]
  · rw [if_neg h, if_neg h]

theorem fold_length (l : List UInt8) : (fold l).length = l.length := by simp [fold]

/-- An atom has nothing to escape. -/
theorem atomB_plain (b : UInt8) (h : atomB b = true) : plainB b = true ∧ escB b = false := by
  simp [atomB] at h
  obtain ⟨⟨h1, h2⟩, h3⟩ := h
  have e1 : b.toNat ≠ 34 := by
    intro e; apply h3
    have : b = 34 := UInt8.toNat_inj.1 (by simpa using e)
    subst this; decide
  have e2 : b.toNat ≠ 92 := by
    intro e; apply h3
    have : b = 92 := UInt8.toNat_inj.1 (by simpa using e)
    subst this; decide
  constructor
  · simp [plainB]; omega
  · simp [escB]; omega
theorem body_atoms (l : List UInt8) (h : l.all atomB = true) : body l = l ∧ l.all plainB = true := by
  induction l with
  | nil => simp [body]
  | cons b l ih =>
    have hb : atomB b = true := by simp at h; exact h.1
    have hl : l.all atomB = true := by simp at h ⊢; exact h.2
    obtain ⟨i1, i2⟩ := ih hl
    obtain ⟨p1, p2⟩ := atomB_plain b hb
    have e : body (b :: l) = esc b ++ body l := by simp [body]
    constructor
    · rw [e, i1]; simp [esc, p2]
    · simp [p1] at i2 ⊢; exact i2

/-! Lines. -/
def crlf : List UInt8 := [13, 10]
def lineLen (l : List UInt8) : Nat := if Lib.index l crlf < 0 then l.length else (Lib.index l crlf).toNat + 2
def ll : List UInt8 → Nat
  | [] => 0
  | [_] => 1
  | a :: b :: r => if a = 13 ∧ b = 10 then 2 else 1 + ll (b :: r)
def lines : List UInt8 → List (List UInt8)
  | [] => []
  | [a] => [[a]]
  | a :: b :: r => if a = 13 ∧ b = 10 then [13, 10] :: lines r else
      match lines (b :: r) with
      | [] => [[a]]
      | x :: xs => (a :: x) :: xs

theorem crlf_prefix (a b : UInt8) (r : List UInt8) : crlf.isPrefixOf (a :: b :: r) = decide (a = 13 ∧ b = 10) := by
  have e : crlf.isPrefixOf (a :: b :: r) = (((13 : UInt8) == a) && (((10 : UInt8) == b) && true)) := rfl
  rw [e]
  by_cases h1 : a = 13 <;> by_cases h2 : b = 10
  · rw [h1, h2]; rfl
  · have : ((10 : UInt8) == b) = false := by rw [beq_eq_false_iff_ne]; exact fun e => h2 e.symm
    rw [this, decide_eq_false (fun h => h2 h.2)]; simp
  · have : ((13 : UInt8) == a) = false := by rw [beq_eq_false_iff_ne]; exact fun e => h1 e.symm
    rw [this, decide_eq_false (fun h => h1 h.1)]; simp
  · have : ((13 : UInt8) == a) = false := by rw [beq_eq_false_iff_ne]; exact fun e => h1 e.symm
    rw [this, decide_eq_false (fun h => h1 h.1)]; simp
theorem ll_eq : ∀ (l : List UInt8), lineLen l = ll l
  | [] => by decide
  | [a] => by simp [lineLen, ll, Lib.index, crlf, List.isPrefixOf]
  | a :: b :: r => by
    have ih := ll_eq (b :: r)
    have hg := Lib.index_ge (b :: r) crlf
    unfold lineLen at ih ⊢
    have e : Lib.index (a :: b :: r) crlf = if crlf.isPrefixOf (a :: b :: r) then 0 else if Lib.index (b :: r) crlf == -1 then -1 else Lib.index (b :: r) crlf + 1 := rfl
    rw [e, crlf_prefix]
    by_cases h : a = 13 ∧ b = 10
    · simp [h, ll]
    · simp only [h, decide_false, Bool.false_eq_true, if_false, ll]
      rw [← ih]
      generalize Lib.index (b :: r) crlf = q at hg ⊢
      by_cases hq : q = -1
      · subst hq; simp; omega
      · have h1 : (q == -1) = false := by simpa using hq
        rw [h1]
        simp only [Bool.false_eq_true, if_false]
        rw [if_neg (by omega), if_neg (by omega)]
        omega

theorem ll_pos (l : List UInt8) (h : l ≠ []) : 0 < ll l := by
  match l, h with
  | [a], _ => simp [ll]
  | a :: b :: r, _ => simp only [ll]; split <;> omega
theorem ll_le : ∀ (l : List UInt8), ll l ≤ l.length
  | [] => by simp [ll]
  | [a] => by simp [ll]
  | a :: b :: r => by
    have ih := ll_le (b :: r)
    simp only [ll]; split
    · simp
    · simp at ih ⊢; omega

theorem lines_cons : ∀ (l : List UInt8), l ≠ [] → lines l = l.take (ll l) :: lines (l.drop (ll l))
  | [], h => absurd rfl h
  | [a], _ => by simp [lines, ll]
  | a :: b :: r, _ => by
    have ih := lines_cons (b :: r) (by simp)
    by_cases h : a = 13 ∧ b = 10
    · obtain ⟨rfl, rfl⟩ := h
      simp [lines, ll]
    · simp only [lines, ll, h, if_false]
      rw [ih, Nat.add_comm 1]
      simp

theorem lines_ne (l : List UInt8) (h : l ≠ []) : lines l ≠ [] := by rw [lines_cons l h]; simp

theorem lines_flat : ∀ (l : List UInt8), (lines l).flatten = l
  | [] => by simp [lines]
  | [a] => by simp [lines]
  | a :: b :: r => by
    have i1 := lines_flat r
    have i2 := lines_flat (b :: r)
    by_cases h : a = 13 ∧ b = 10
    · obtain ⟨rfl, rfl⟩ := h
      simp [lines, i1]
    · simp only [lines, h, if_false]
      cases hl : lines (b :: r) with
      | nil => exact absurd hl (lines_ne _ (by simp))
      | cons x xs => rw [hl] at i2; simp at i2 ⊢; exact i2

/-- Every line but the last ends with CRLF. -/
theorem lines_ends : ∀ (l : List UInt8) (i : Nat) (x : List UInt8), i + 1 < (lines l).length → (lines l)[i]? = some x → ∃ p, x = p ++ [13, 10]
  | [], i, x, h, _ => by simp [lines] at h
  | [a], i, x, h, _ => by simp [lines] at h
  | a :: b :: r, i, x, h, hx => by
    by_cases hc : a = 13 ∧ b = 10
    · simp only [lines, hc, and_self, if_true] at h hx
      cases i with
      | zero => simp at hx; exact ⟨[], by simp [← hx]⟩
      | succ i => simp at h hx; exact lines_ends r i x (by omega) hx
    · have ih := lines_ends (b :: r)
      simp only [lines, hc, if_false] at h hx
      cases hl : lines (b :: r) with
      | nil => exact absurd hl (lines_ne _ (by simp))
      | cons y ys =>
        rw [hl] at h hx ih
        simp only at h hx
        cases i with
        | zero =>
          simp at hx
          obtain ⟨p, hp⟩ := ih 0 y (by simpa using h) rfl
          exact ⟨a :: p, by rw [← hx, hp]; rfl⟩
        | succ i =>
          exact ih (i + 1) x (by simpa using h) (by simpa using hx)

theorem lines_append : ∀ (n : Nat) (a b : List UInt8), a.length ≤ n → lines (a ++ 13 :: 10 :: b) = lines (a ++ [13, 10]) ++ lines b
  | _, [], b, _ => by simp [lines]
  | 0, x :: a, b, h => by simp at h
  | n + 1, [x], b, h => by
    have i := lines_append n [] b (by simp)
    by_cases hx : x = 13 ∧ (13 : UInt8) = 10
    · exact absurd hx.2 (by decide)
    · simp only [List.cons_append, List.nil_append, lines, hx, if_false, and_self, if_true, List.cons_append]
  | n + 1, x :: y :: a, b, h => by
    have i1 := lines_append n a b (by simp at h; omega)
    have i2 := lines_append n (y :: a) b (by simpa using h)
    by_cases hx : x = 13 ∧ y = 10
    · simp only [List.cons_append, lines, hx, and_self, if_true]
      rw [i1]
    · have e1 : lines (x :: y :: (a ++ 13 :: 10 :: b)) = (match lines (y :: (a ++ 13 :: 10 :: b)) with | [] => [[x]] | z :: zs => (x :: z) :: zs) := by
        simp only [lines, hx, if_false]
      have e2 : lines (x :: y :: (a ++ [13, 10])) = (match lines (y :: (a ++ [13, 10])) with | [] => [[x]] | z :: zs => (x :: z) :: zs) := by
        simp only [lines, hx, if_false]
      simp only [List.cons_append] at i2 ⊢
      rw [e1, e2, i2]
      cases hl : lines (y :: (a ++ [13, 10])) with
      | nil => exact absurd hl (lines_ne _ (by simp))
      | cons z zs => rfl

/-- The lines of what is to come, where p of the line has been read. -/
def sc : List UInt8 → List UInt8 → List (List UInt8)
  | p, [] => if p = [] then [] else [p]
  | p, [a] => [p ++ [a]]
  | p, a :: b :: r => if a = 13 ∧ b = 10 then (p ++ [13, 10]) :: sc [] r else sc (p ++ [a]) (b :: r)
theorem sc_lines : ∀ (l p : List UInt8), sc p l = (match lines l with | [] => if p = [] then [] else [p] | x :: xs => (p ++ x) :: xs)
  | [], p => by simp [sc, lines]
  | [a], p => by simp [sc, lines]
  | a :: b :: r, p => by
    have i1 := sc_lines r []
    have i2 := sc_lines (b :: r) (p ++ [a])
    by_cases h : a = 13 ∧ b = 10
    · simp only [sc, lines, h, and_self, if_true]
      rw [i1]
      cases hl : lines r <;> simp
    · simp only [sc, lines, h, if_false]
      rw [i2]
      cases hl : lines (b :: r) with
      | nil => exact absurd hl (lines_ne _ (by simp))
      | cons x xs => simp
theorem sc_nil (l : List UInt8) : sc [] l = lines l := by
  rw [sc_lines]
  cases h : lines l <;> simp

end Go.Proofs.YtgkibkophoikoaaDoor.Oct
