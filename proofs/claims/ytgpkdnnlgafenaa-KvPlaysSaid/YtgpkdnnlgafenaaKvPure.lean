/- A table of pairs, its Puts, its bytes: plain lists. -/
import Derived.Test.YtgpkdnnlgafenaaRecPure
import Derived.Lib.Bytealg
namespace Go.Proofs.Ytgpkdnnlgafenaa.Kv
set_option linter.unusedSimpArgs false
set_option linter.unusedVariables false
open Go.Proofs.Ytgpkdnnlgafenaa.Rc (big num big_length num_big num_lt num_cons num_snoc)

/-- Strings in their order. -/
def ltb (a b : ByteArray) : Bool := decide (a.data.toList < b.data.toList)
theorem ltb_irrefl (a : ByteArray) : ltb a a = false := by simp [ltb, List.lt_irrefl]
theorem ltb_trans {a b c : ByteArray} (h : ltb a b = true) (k : ltb b c = true) : ltb a c = true := by
  simp only [ltb, decide_eq_true_eq] at *; exact List.lt_trans h k
theorem ba_ext {a b : ByteArray} (h : a.data.toList = b.data.toList) : a = b := by
  obtain ⟨⟨a⟩⟩ := a; obtain ⟨⟨b⟩⟩ := b; simpa using h
theorem ltb_tri {a b : ByteArray} (h : ltb a b = false) (k : ltb b a = false) : a = b := by
  simp only [ltb, decide_eq_false_iff_not] at *
  exact ba_ext (List.le_antisymm k h)
theorem ltb_asymm {a b : ByteArray} (h : ltb a b = true) : ltb b a = false := by
  cases k : ltb b a with
  | false => rfl
  | true => have := ltb_trans h k; rw [ltb_irrefl] at this; cases this
theorem ltb_of_not {a b c : ByteArray} (h : ltb b a = false) (k : ltb b c = true) : ltb a c = true := by
  cases e : ltb a b with
  | true => exact ltb_trans e k
  | false => rw [ltb_tri e h]; exact k
theorem not_ltb_of {a b c : ByteArray} (h : ltb a b = true) (k : ltb c b = false) : ltb c a = false := by
  cases e : ltb c a with
  | false => rfl
  | true => have := ltb_trans e h; rw [k] at this; cases this
theorem cmp_neg (a b : List UInt8) : (Go.Lib.compareBytes a b < 0 ↔ a < b) ∧ (Go.Lib.compareBytes a b = 0 ↔ a = b) := by
  induction a generalizing b with
  | nil => cases b <;> simp [Go.Lib.compareBytes]
  | cons x a ih =>
    cases b with
    | nil => simp [Go.Lib.compareBytes]
    | cons y b =>
      have h := ih b
      unfold Go.Lib.compareBytes
      by_cases h1 : x < y
      · have hne : x ≠ y := fun e => by rw [e] at h1; exact absurd h1 (UInt8.lt_irrefl _)
        simp [h1, hne, List.cons_lt_cons_iff]
      · by_cases h2 : y < x
        · have hne : x ≠ y := fun e => by rw [e] at h2; exact absurd h2 (UInt8.lt_irrefl _)
          simp [h1, h2, hne, List.cons_lt_cons_iff]
        · have he : x = y := by
            rw [UInt8.lt_iff_toNat_lt] at h1 h2
            exact UInt8.toNat_inj.1 (by omega)
          subst he
          simp [UInt8.lt_irrefl, List.cons_lt_cons_iff, h]
theorem cmp_ltb (a b : ByteArray) : decide (Go.Lib.compareBytes a.data.toList b.data.toList < 0) = ltb a b := by
  unfold ltb; exact decide_eq_decide.2 (cmp_neg _ _).1
theorem cmp_eq (a b : ByteArray) : decide (Go.Lib.compareBytes a.data.toList b.data.toList = 0) = decide (a = b) :=
  decide_eq_decide.2 ((cmp_neg _ _).2.trans ⟨ba_ext, fun h => by rw [h]⟩)

/-- A Put: its key, its value, whether it takes out. -/
structure Pt where
  k : ByteArray
  v : List UInt8
  g : Bool
abbrev Pr := ByteArray × List UInt8

/-- Where a key stands, or would; whether it is there. -/
def pos (m : List Pr) (k : ByteArray) : Nat := (m.takeWhile fun e => ltb e.1 k).length
def hit (m : List Pr) (k : ByteArray) : Bool := match m[pos m k]? with
  | some e => decide (e.1 = k)
  | none => false
theorem pos_le (m : List Pr) (k : ByteArray) : pos m k ≤ m.length := (List.takeWhile_sublist _).length_le
theorem pos_cons (e : Pr) (m : List Pr) (k : ByteArray) : pos (e :: m) k = if ltb e.1 k then pos m k + 1 else 0 := by
  unfold pos; rw [List.takeWhile_cons]; split <;> simp
theorem lt_of_pos {m : List Pr} {k : ByteArray} {i : Nat} (h : i < pos m k) (hi : i < m.length) : ltb m[i].1 k = true := by
  induction m generalizing i with
  | nil => simp at hi
  | cons e m ih =>
    rw [pos_cons] at h
    split at h
    · rename_i he
      cases i with
      | zero => exact he
      | succ i => exact ih (by omega) (by simpa using hi)
    · omega
theorem at_pos {m : List Pr} {k : ByteArray} (h : pos m k < m.length) : ltb (m[pos m k]).1 k = false := by
  induction m with
  | nil => simp at h
  | cons e m ih =>
    have hc := pos_cons e m k
    cases he : ltb e.1 k with
    | true =>
      rw [he, if_pos rfl] at hc
      have h' : pos m k < m.length := by rw [hc] at h; simpa using h
      have := ih h'
      simpa [hc] using this
    | false =>
      rw [he, if_neg (by simp)] at hc
      simpa [hc] using he
theorem pos_unique {m : List Pr} {k : ByteArray} {p : Nat} (hp : p ≤ m.length) (h1 : ∀ i (h : i < m.length), i < p → ltb m[i].1 k = true) (h2 : ∀ h : p < m.length, ltb (m[p]).1 k = false) : pos m k = p := by
  have hl := pos_le m k
  rcases Nat.lt_trichotomy (pos m k) p with h | h | h
  · have := at_pos (m := m) (k := k) (by omega)
    rw [h1 _ (by omega) h] at this; cases this
  · exact h
  · have := h2 (by omega)
    rw [lt_of_pos h (by omega)] at this; cases this

def Asc (m : List Pr) : Prop := m.Pairwise fun a b => ltb a.1 b.1 = true
theorem Asc.nil : Asc [] := List.Pairwise.nil
theorem Asc.lt {m : List Pr} (h : Asc m) {i j : Nat} (hi : i < m.length) (hj : j < m.length) (hij : i < j) : ltb m[i].1 m[j].1 = true := List.pairwise_iff_getElem.1 h i j hi hj hij
theorem Asc.past {m : List Pr} (h : Asc m) {k : ByteArray} {i : Nat} (hi : i < m.length) (hp : pos m k ≤ i) : ltb m[i].1 k = false := by
  have h0 := at_pos (m := m) (k := k) (by omega)
  rcases Nat.lt_or_ge (pos m k) i with h1 | h1
  · cases e : ltb m[i].1 k with
    | false => rfl
    | true => have := ltb_trans (h.lt (by omega) hi h1) e; rw [h0] at this; cases this
  · have : i = pos m k := by omega
    subst this; exact h0
theorem hit_lt {m : List Pr} {k : ByteArray} (h : hit m k = true) : ∃ hp : pos m k < m.length, (m[pos m k]).1 = k := by
  unfold hit at h
  rcases Nat.lt_or_ge (pos m k) m.length with hp | hp
  · rw [List.getElem?_eq_getElem hp] at h
    exact ⟨hp, by simpa using h⟩
  · rw [List.getElem?_eq_none hp] at h; cases h
theorem hit_at {m : List Pr} {k : ByteArray} (hp : pos m k < m.length) : hit m k = decide ((m[pos m k]).1 = k) := by
  unfold hit; rw [List.getElem?_eq_getElem hp]
theorem hit_none {m : List Pr} {k : ByteArray} (hp : m.length ≤ pos m k) : hit m k = false := by
  unfold hit; rw [List.getElem?_eq_none hp]

/-- One Put performed; many. -/
def step (m : List Pr) (x : Pt) : List Pr := m.take (pos m x.k) ++ (if x.g then [] else [(x.k, x.v)]) ++ m.drop (if hit m x.k then pos m x.k + 1 else pos m x.k)
def steps (m : List Pr) (l : List Pt) : List Pr := l.foldl step m
theorem steps_cons (m : List Pr) (x : Pt) (l : List Pt) : steps m (x :: l) = steps (step m x) l := rfl
theorem steps_append (m : List Pr) (a b : List Pt) : steps m (a ++ b) = steps (steps m a) b := by simp [steps, List.foldl_append]
theorem step_length (m : List Pr) (x : Pt) : (step m x).length ≤ m.length + 1 := by
  unfold step
  have := pos_le m x.k
  simp only [List.length_append, List.length_take, List.length_drop]
  cases x.g <;> cases hit m x.k <;> simp <;> omega
theorem steps_length (l : List Pt) : ∀ m, (steps m l).length ≤ m.length + l.length := by
  induction l with
  | nil => intro m; simp [steps]
  | cons x l ih => intro m; rw [steps_cons]; have := ih (step m x); have := step_length m x; simp; omega
theorem step_asc {m : List Pr} (h : Asc m) (x : Pt) : Asc (step m x) := by
  have hpl := pos_le m x.k
  have htake : ∀ a ∈ m.take (pos m x.k), ltb a.1 x.k = true := fun a ha => by
    obtain ⟨i, hi, rfl⟩ := List.mem_iff_getElem.1 ha
    rw [List.getElem_take]
    simp at hi
    exact lt_of_pos (by omega) (by omega)
  have hdrop : ∀ q, q = (if hit m x.k then pos m x.k + 1 else pos m x.k) → ∀ b ∈ m.drop q, ltb x.k b.1 = true := fun q hq b hb => by
    obtain ⟨i, hi, rfl⟩ := List.mem_iff_getElem.1 hb
    rw [List.getElem_drop]
    simp at hi
    cases hh : hit m x.k with
    | true =>
      obtain ⟨hp, he⟩ := hit_lt hh
      rw [hh, if_pos rfl] at hq
      have := h.lt hp (show q + i < m.length by omega) (by omega)
      rwa [he] at this
    | false =>
      rw [hh, if_neg (by simp)] at hq
      subst hq
      have hi' : pos m x.k + i < m.length := by omega
      have h0 : ltb (m[pos m x.k + i]).1 x.k = false := h.past hi' (by omega)
      cases hq : ltb x.k (m[pos m x.k + i]).1 with
      | true => rfl
      | false =>
        have he := ltb_tri h0 hq
        have hlt : pos m x.k < m.length := by omega
        rcases Nat.eq_zero_or_pos i with h1 | h1
        · subst h1
          have := hit_at (m := m) (k := x.k) hlt
          rw [hh] at this
          simp at this he
          exact absurd he this
        · have h2 := h.lt hlt hi' (by omega)
          rw [he] at h2
          have h3 := at_pos (m := m) (k := x.k) hlt
          rw [h2] at h3; cases h3
  unfold step Asc
  rw [List.pairwise_append, List.pairwise_append]
  refine ⟨⟨h.sublist (List.take_sublist _ _), ?_, ?_⟩, h.sublist (List.drop_sublist _ _), ?_⟩
  · cases x.g <;> simp
  · intro a ha b hb
    cases hg : x.g with
    | true => rw [hg] at hb; simp at hb
    | false =>
      rw [hg] at hb
      simp at hb
      subst hb
      exact htake a ha
  · intro a ha b hb
    rcases List.mem_append.1 ha with ha | ha
    · exact ltb_trans (htake a ha) (hdrop _ rfl b hb)
    · cases hg : x.g with
      | true => rw [hg] at ha; simp at ha
      | false =>
        rw [hg] at ha
        simp at ha
        subst ha
        exact hdrop _ rfl b hb
theorem steps_asc (l : List Pt) : ∀ {m}, Asc m → Asc (steps m l) := by
  induction l with
  | nil => intro m h; exact h
  | cons x l ih => intro m h; exact ih (step_asc h x)

/-- A Put that may be committed. -/
def ok1 (x : Pt) : Bool := decide (1 ≤ x.k.size) && decide (x.k.size ≤ 200) && decide (x.v.length ≤ 200000) && !(x.g && decide (0 < x.v.length))
def may (l : List Pt) : Bool := l.all ok1
theorem ok1_iff {x : Pt} : ok1 x = true ↔ 1 ≤ x.k.size ∧ x.k.size ≤ 200 ∧ x.v.length ≤ 200000 ∧ (x.g = true → x.v = []) := by
  unfold ok1
  cases hg : x.g <;> simp [and_assoc]
def put1 (e : Pr) : Pt := ⟨e.1, e.2, false⟩
def Good (m : List Pr) : Prop := ∀ e ∈ m, ok1 (put1 e) = true
theorem Good.nil : Good [] := fun _ h => by cases h
theorem step_good {m : List Pr} (h : Good m) {x : Pt} (hx : ok1 x = true) : Good (step m x) := by
  intro e he
  unfold step at he
  rcases List.mem_append.1 he with he | he
  · rcases List.mem_append.1 he with he | he
    · exact h e (List.mem_of_mem_take he)
    · cases hg : x.g with
      | true => rw [hg] at he; simp at he
      | false =>
        rw [hg] at he
        simp at he
        subst he
        have : put1 (x.k, x.v) = x := by obtain ⟨a, b, c⟩ := x; simp at hg; subst hg; rfl
        rw [this]; exact hx
  · exact h e (List.mem_of_mem_drop he)
theorem may_cons (x : Pt) (l : List Pt) : may (x :: l) = (ok1 x && may l) := by simp [may]
theorem may_append (a b : List Pt) : may (a ++ b) = (may a && may b) := by simp [may]
theorem steps_good (l : List Pt) (hl : may l = true) : ∀ {m}, Good m → Good (steps m l) := by
  induction l with
  | nil => intro m h; exact h
  | cons x l ih =>
    intro m h
    rw [may_cons, Bool.and_eq_true] at hl
    exact ih hl.2 (step_good h hl.1)
theorem puts_may {m : List Pr} (h : Good m) : may (m.map put1) = true := by
  unfold may
  rw [List.all_eq_true]
  intro x hx
  obtain ⟨e, he, rfl⟩ := List.mem_map.1 hx
  exact h e he

/-- A Put's bytes. -/
def enc1 (x : Pt) : List UInt8 := (if x.g then 0 else 1) :: (big x.k.size 2 ++ x.k.data.toList ++ (if x.g then [] else big x.v.length 4 ++ x.v))
def encs (l : List Pt) : List UInt8 := l.flatMap enc1
def encode (l : List Pt) : List UInt8 := if may l then encs l else []
def bytes (m : List Pr) : List UInt8 := encs (m.map put1)
theorem encs_cons (x : Pt) (l : List Pt) : encs (x :: l) = enc1 x ++ encs l := by simp [encs]
theorem encs_snoc (x : Pt) (l : List Pt) : encs (l ++ [x]) = encs l ++ enc1 x := by simp [encs]
theorem enc1_length (x : Pt) : (enc1 x).length = 3 + x.k.size + (if x.g then 0 else 4 + x.v.length) := by
  unfold enc1
  have : x.k.data.toList.length = x.k.size := by simp
  cases x.g <;> simp [big_length, this] <;> omega
theorem enc1_pos (x : Pt) : 0 < (enc1 x).length := by rw [enc1_length]; omega
theorem enc1_le {x : Pt} (h : ok1 x = true) : (enc1 x).length ≤ 200207 := by
  obtain ⟨_, h2, h3, _⟩ := ok1_iff.1 h
  rw [enc1_length]; split <;> omega
theorem encs_le (l : List Pt) (h : may l = true) : (encs l).length ≤ l.length * 200207 := by
  induction l with
  | nil => simp [encs]
  | cons x l ih =>
    rw [may_cons, Bool.and_eq_true] at h
    rw [encs_cons, List.length_append, List.length_cons]
    have := ih h.2
    have := enc1_le h.1
    omega

theorem big_num (l : List UInt8) : big (num l) l.length = l := by
  induction l with
  | nil => rfl
  | cons c l ih =>
    rw [List.length_cons, big]
    have h1 := num_cons c l
    have h2 := num_lt l
    have hp : 0 < 256 ^ l.length := Nat.pow_pos (by omega)
    have e1 : num (c :: l) / 256 ^ l.length = c.toNat := by
      rw [h1, Nat.mul_comm, Nat.mul_add_div hp, Nat.div_eq_of_lt h2, Nat.add_zero]
    have e2 : ∀ n x y : Nat, x % 256 ^ n = y % 256 ^ n → big x n = big y n := by
      intro n
      induction n with
      | zero => intros; rfl
      | succ n ihn =>
        intro x y hxy
        have hpn : 0 < 256 ^ n := Nat.pow_pos (by omega)
        have hm : x % 256 ^ n = y % 256 ^ n := by
          have hd : 256 ^ n ∣ 256 ^ (n + 1) := ⟨256, by rw [Nat.pow_succ]⟩
          rw [← Nat.mod_mod_of_dvd x hd, hxy, Nat.mod_mod_of_dvd y hd]
        have hq : x / 256 ^ n % 256 = y / 256 ^ n % 256 := by
          rw [Nat.mod_pow_succ, Nat.mod_pow_succ, hm] at hxy
          exact Nat.eq_of_mul_eq_mul_left hpn (by omega)
        rw [big, big, ihn x y hm]
        congr 1
        apply UInt8.toNat_inj.1
        rw [UInt8.toNat_ofNat', UInt8.toNat_ofNat']
        exact hq
    rw [e1]
    congr 1
    · apply UInt8.toNat_inj.1
      rw [UInt8.toNat_ofNat']
      exact Nat.mod_eq_of_lt c.toNat_lt
    · rw [e2 l.length (num (c :: l)) (num l) ?_, ih]
      rw [h1, Nat.mul_comm, Nat.mul_add_mod]

/-- The first Put of bytes, whatever it is. -/
def cutV (key : List UInt8) (b : List UInt8) : Option (Pt × List UInt8) :=
  if b.length < 4 then none else if (b.drop 4).length < num (b.take 4) then none else some (⟨⟨key.toArray⟩, (b.drop 4).take (num (b.take 4)), false⟩, (b.drop 4).drop (num (b.take 4)))
def cutK (c : UInt8) (b : List UInt8) : Option (Pt × List UInt8) :=
  if b.length < 2 then none else if (b.drop 2).length < num (b.take 2) then none else
  if c = 0 then some (⟨⟨((b.drop 2).take (num (b.take 2))).toArray⟩, [], true⟩, (b.drop 2).drop (num (b.take 2)))
  else cutV ((b.drop 2).take (num (b.take 2))) ((b.drop 2).drop (num (b.take 2)))
def cut : List UInt8 → Option (Pt × List UInt8)
  | [] => none
  | c :: b => if c = 0 ∨ c = 1 then cutK c b else none
theorem take_big (x n : Nat) (t : List UInt8) (hx : x < 256 ^ n) : num ((big x n ++ t).take n) = x ∧ (big x n ++ t).drop n = t ∧ n ≤ (big x n ++ t).length := by
  have hl := big_length x n
  refine ⟨?_, ?_, by rw [List.length_append]; omega⟩
  · rw [List.take_append_of_le_length (by omega), List.take_of_length_le (by omega), num_big]
    exact Nat.mod_eq_of_lt hx
  · rw [List.drop_append_of_le_length (by omega), List.drop_of_length_le (by omega), List.nil_append]
theorem ba_mk (a : ByteArray) : (⟨a.data.toList.toArray⟩ : ByteArray) = a := by obtain ⟨⟨l⟩⟩ := a; rfl
theorem ba_len (a : ByteArray) : a.data.toList.length = a.size := by simp
theorem cut_enc (x : Pt) (t : List UInt8) (h : ok1 x = true) : cut (enc1 x ++ t) = some (x, t) := by
  obtain ⟨h1, h2, h3, h4⟩ := ok1_iff.1 h
  obtain ⟨k, v, g⟩ := x
  simp only at h1 h2 h3 h4
  have hk := ba_len k
  cases g with
  | true =>
    obtain rfl := h4 rfl
    unfold enc1 cut
    simp only [if_true, List.cons_append, List.append_nil, true_or]
    unfold cutK
    obtain ⟨e1, e2, e3⟩ := take_big k.size 2 (k.data.toList ++ t) (by omega)
    rw [List.append_assoc, if_neg (by omega), e1, e2, if_neg (by rw [List.length_append]; omega), if_pos rfl, List.take_append_of_le_length (by omega), List.take_of_length_le (by omega), List.drop_append_of_le_length (by omega), List.drop_of_length_le (by omega), ba_mk, List.nil_append]
  | false =>
    unfold enc1 cut
    simp only [Bool.false_eq_true, if_false, List.cons_append, or_true, if_true]
    unfold cutK
    obtain ⟨e1, e2, e3⟩ := take_big k.size 2 (k.data.toList ++ (big v.length 4 ++ v ++ t)) (by omega)
    obtain ⟨f1, f2, f3⟩ := take_big v.length 4 (v ++ t) (by omega)
    have ea : big k.size 2 ++ k.data.toList ++ (big v.length 4 ++ v) ++ t = big k.size 2 ++ (k.data.toList ++ (big v.length 4 ++ v ++ t)) := by simp
    rw [ea, if_neg (by omega), e1, e2, if_neg (by rw [List.length_append]; omega), if_neg (by decide), List.take_append_of_le_length (by omega), List.take_of_length_le (by omega), List.drop_append_of_le_length (by omega), List.drop_of_length_le (by omega), List.nil_append]
    unfold cutV
    rw [List.append_assoc, if_neg (by omega), f1, f2, if_neg (by rw [List.length_append]; omega), ba_mk, List.take_append_of_le_length (by omega), List.take_of_length_le (by omega), List.drop_append_of_le_length (by omega), List.drop_of_length_le (by omega), List.nil_append]
theorem cut_some {b : List UInt8} {x : Pt} {t : List UInt8} (h : cut b = some (x, t)) : b = enc1 x ++ t := by
  cases b with
  | nil => simp [cut] at h
  | cons c b =>
    have h' : (if c = 0 ∨ c = 1 then cutK c b else none) = some (x, t) := h
    clear h
    by_cases hc : c = 0 ∨ c = 1
    · rw [if_pos hc] at h'
      have h := h'
      clear h'
      unfold cutK at h
      split at h
      · cases h
      · rename_i h1
        split at h
        · cases h
        · rename_i h2
          obtain ⟨n, hn⟩ : ∃ n, n = num (b.take 2) := ⟨_, rfl⟩
          rw [← hn] at h h2
          have eb : b = big n 2 ++ b.drop 2 := by
            have := big_num (b.take 2)
            rw [List.length_take, Nat.min_eq_left (by omega), ← hn] at this
            rw [this, List.take_append_drop]
          have et : ((b.drop 2).take n).length = n := by rw [List.length_take]; omega
          split at h
          · rename_i h3
            subst h3
            injection h with h
            injection h with hx ht
            subst hx; subst ht
            unfold enc1
            have es : (⟨((b.drop 2).take n).toArray⟩ : ByteArray).size = n := by show ((b.drop 2).take n).toArray.size = n; simpa using et
            simp only [if_true, List.append_nil, es, List.cons_append]
            rw [List.append_assoc, List.take_append_drop, ← eb]
          · rename_i h3
            have hc1 : c = 1 := hc.resolve_left h3
            subst hc1
            unfold cutV at h
            split at h
            · cases h
            · rename_i h4
              split at h
              · cases h
              · rename_i h5
                obtain ⟨r, hr⟩ : ∃ r, r = (b.drop 2).drop n := ⟨_, rfl⟩
                rw [← hr] at h h4 h5
                obtain ⟨q, hq⟩ : ∃ q, q = num (r.take 4) := ⟨_, rfl⟩
                rw [← hq] at h h5
                have er : r = big q 4 ++ r.drop 4 := by
                  have := big_num (r.take 4)
                  rw [List.length_take, Nat.min_eq_left (by omega), ← hq] at this
                  rw [this, List.take_append_drop]
                have et2 : ((r.drop 4).take q).length = q := by rw [List.length_take]; omega
                injection h with h
                injection h with hx ht
                subst hx; subst ht
                unfold enc1
                have es : (⟨((b.drop 2).take n).toArray⟩ : ByteArray).size = n := by show ((b.drop 2).take n).toArray.size = n; simpa using et
                simp only [Bool.false_eq_true, if_false, es, et2, List.cons_append]
                rw [List.append_assoc, List.append_assoc, List.append_assoc, List.take_append_drop, ← er, hr, List.take_append_drop, ← eb]
    · rw [if_neg hc] at h'; cases h'
theorem cut_shorter {b : List UInt8} {x : Pt} {t : List UInt8} (h : cut b = some (x, t)) : t.length < b.length := by
  rw [cut_some h, List.length_append]; have := enc1_pos x; omega

/-- As the program cuts, and as the reference does. -/
def cutP (b : List UInt8) : Option (Pt × List UInt8) := (cut b).bind fun y => if ok1 y.1 then some y else none
def cutR (b : List UInt8) : Option (Pt × List UInt8) := (cut b).bind fun y => if y.1.v.length ≤ 200000 then some y else none
def decG (c : List UInt8 → Option (Pt × List UInt8)) : Nat → List UInt8 → Option (List Pt)
  | 0, b => if b = [] then some [] else none
  | n + 1, b => if b = [] then some [] else match c b with
    | none => none
    | some (x, r) => (decG c n r).map (x :: ·)
def Eats (c : List UInt8 → Option (Pt × List UInt8)) : Prop := ∀ b x r, c b = some (x, r) → r.length < b.length
theorem cutP_some {b : List UInt8} {x : Pt} {r : List UInt8} (h : cutP b = some (x, r)) : cut b = some (x, r) ∧ ok1 x = true := by
  unfold cutP at h
  cases hc : cut b with
  | none => rw [hc] at h; cases h
  | some y =>
    rw [hc] at h
    simp only [Option.bind_some] at h
    split at h
    · rename_i ho; injection h with h; subst h; exact ⟨rfl, ho⟩
    · cases h
theorem cutR_some {b : List UInt8} {x : Pt} {r : List UInt8} (h : cutR b = some (x, r)) : cut b = some (x, r) ∧ x.v.length ≤ 200000 := by
  unfold cutR at h
  cases hc : cut b with
  | none => rw [hc] at h; cases h
  | some y =>
    rw [hc] at h
    simp only [Option.bind_some] at h
    split at h
    · rename_i ho; injection h with h; subst h; exact ⟨rfl, ho⟩
    · cases h
theorem eatsP : Eats cutP := fun b x r h => cut_shorter (cutP_some h).1
theorem eatsR : Eats cutR := fun b x r h => cut_shorter (cutR_some h).1
theorem decG_fuel {c : List UInt8 → Option (Pt × List UInt8)} (hc : Eats c) : ∀ (n m : Nat) (b : List UInt8), b.length ≤ n → b.length ≤ m → decG c n b = decG c m b := by
  intro n
  induction n with
  | zero =>
    intro m b h1 _
    have : b = [] := List.eq_nil_of_length_eq_zero (by omega)
    subst this
    cases m <;> simp [decG]
  | succ n ih =>
    intro m b h1 h2
    by_cases hb : b = []
    · subst hb; cases m <;> simp [decG]
    · cases m with
      | zero => exact absurd (List.eq_nil_of_length_eq_zero (by omega)) hb
      | succ m =>
        simp only [decG, if_neg hb]
        cases he : c b with
        | none => rfl
        | some y =>
          obtain ⟨x, r⟩ := y
          have := hc b x r he
          simp only [ih m r (by omega) (by omega)]
def decP (b : List UInt8) : Option (List Pt) := decG cutP b.length b
def decR (b : List UInt8) : Option (List Pt) := decG cutR b.length b
theorem dec_nil {c : List UInt8 → Option (Pt × List UInt8)} (n : Nat) : decG c n [] = some [] := by cases n <;> simp [decG]
theorem dec_step {c : List UInt8 → Option (Pt × List UInt8)} (hc : Eats c) {b : List UInt8} (hb : b ≠ []) : decG c b.length b = match c b with
    | none => none
    | some (x, r) => (decG c r.length r).map (x :: ·) := by
  have hl : 0 < b.length := List.length_pos_iff.2 hb
  obtain ⟨n, hn⟩ : ∃ n, b.length = n + 1 := ⟨b.length - 1, by omega⟩
  rw [hn]
  simp only [decG, if_neg hb]
  cases he : c b with
  | none => rfl
  | some y =>
    obtain ⟨x, r⟩ := y
    have := hc b x r he
    simp only [decG_fuel hc n r.length r (by omega) (Nat.le_refl _)]
theorem dec_rel : ∀ (n : Nat) (b : List UInt8), decG cutP n b = (decG cutR n b).bind fun l => if may l then some l else none := by
  intro n
  induction n with
  | zero => intro b; by_cases hb : b = [] <;> simp [decG, hb, may]
  | succ n ih =>
    intro b
    by_cases hb : b = []
    · simp [decG, hb, may]
    · simp only [decG, if_neg hb, cutP, cutR]
      cases hc : cut b with
      | none => rfl
      | some y =>
        obtain ⟨x, r⟩ := y
        simp only [Option.bind_some]
        by_cases h1 : ok1 x = true
        · have h2 : x.v.length ≤ 200000 := (ok1_iff.1 h1).2.2.1
          simp only [h1, h2, if_true, ih r]
          cases decG cutR n r with
          | none => rfl
          | some l => cases hm : may l <;> simp [may_cons, h1, hm]
        · simp only [h1]
          by_cases h2 : x.v.length ≤ 200000
          · simp only [h2, if_true]
            cases decG cutR n r with
            | none => rfl
            | some l => simp [may_cons, h1]
          · simp [h2]
theorem decP_eq (b : List UInt8) : decP b = (decR b).bind fun l => if may l then some l else none := dec_rel _ _
theorem decP_some {b : List UInt8} {l : List Pt} (h : decP b = some l) : b = encs l ∧ may l = true := by
  have key : ∀ (n : Nat) (b : List UInt8) (l : List Pt), decG cutP n b = some l → b = encs l ∧ may l = true := by
    intro n
    induction n with
    | zero =>
      intro b l h
      by_cases hb : b = []
      · simp [decG, hb] at h; subst h; exact ⟨hb, rfl⟩
      · simp [decG, hb] at h
    | succ n ih =>
      intro b l h
      by_cases hb : b = []
      · simp [decG, hb] at h; subst h; exact ⟨hb, rfl⟩
      · simp only [decG, if_neg hb] at h
        cases hc : cutP b with
        | none => rw [hc] at h; cases h
        | some y =>
          obtain ⟨x, r⟩ := y
          rw [hc] at h
          simp only [Option.map_eq_some_iff] at h
          obtain ⟨l', hl', rfl⟩ := h
          obtain ⟨h1, h2⟩ := cutP_some hc
          obtain ⟨h3, h4⟩ := ih r l' hl'
          exact ⟨by rw [encs_cons, ← h3]; exact cut_some h1, by rw [may_cons, h2, h4]; rfl⟩
  exact key _ _ _ h
theorem decP_encs (l : List Pt) (h : may l = true) : decP (encs l) = some l := by
  unfold decP
  induction l with
  | nil => rfl
  | cons x l ih =>
    rw [may_cons, Bool.and_eq_true] at h
    have hne : encs (x :: l) ≠ [] := fun e => by
      have := congrArg List.length e
      rw [encs_cons, List.length_append, List.length_nil] at this
      have h2 := enc1_pos x
      omega
    rw [dec_step eatsP hne]
    have hc : cutP (encs (x :: l)) = some (x, encs l) := by
      unfold cutP; rw [encs_cons, cut_enc x _ h.1]; simp [h.1]
    simp only [hc, ih h.2, Option.map_some]
theorem encs_inj {a b : List Pt} (ha : may a = true) (hb : may b = true) (h : encs a = encs b) : a = b := by
  have h1 := decP_encs a ha
  rw [h, decP_encs b hb] at h1
  injection h1 with h1
  exact h1.symm

/-- Puts that are the pairs of a table, in their order. -/
def Rises (l : List Pt) : Prop := ∀ j (h : j < l.length), l[j].g = false ∧ ∀ h0 : 0 < j, ltb (l[j - 1]'(by omega)).k l[j].k = true
def kvOf (x : Pt) : Pr := (x.k, x.v)
theorem kvOf_put1 (e : Pr) : kvOf (put1 e) = e := rfl
theorem map_put1_kvOf (m : List Pr) : (m.map put1).map kvOf = m := by rw [List.map_map]; exact List.map_id' m
theorem Rises.gone {l : List Pt} (h : Rises l) {x : Pt} (hx : x ∈ l) : x.g = false := by
  obtain ⟨j, hj, rfl⟩ := List.mem_iff_getElem.1 hx
  exact (h j hj).1
theorem Rises.back {l : List Pt} (h : Rises l) : (l.map kvOf).map put1 = l := by
  rw [List.map_map]
  have : ∀ x ∈ l, (put1 ∘ kvOf) x = x := fun x hx => by
    have := h.gone hx
    obtain ⟨a, b, c⟩ := x
    simp only at this
    subst this
    rfl
  rw [List.map_congr_left this, List.map_id']
theorem Rises.lt {l : List Pt} (h : Rises l) : ∀ (d i : Nat) (hj : i + d + 1 < l.length), ltb (l[i]'(by omega)).k (l[i + d + 1]).k = true := by
  intro d
  induction d with
  | zero => intro i hj; exact (h (i + 1) hj).2 (by omega)
  | succ d ih => intro i hj; exact ltb_trans (ih i (by omega)) ((h (i + d + 1 + 1) hj).2 (by omega))
theorem Rises.lt' {l : List Pt} (h : Rises l) {i j : Nat} (hi : i < l.length) (hj : j < l.length) (hij : i < j) : ltb l[i].k l[j].k = true := by
  obtain ⟨d, rfl⟩ : ∃ d, j = i + d + 1 := ⟨j - i - 1, by omega⟩
  exact h.lt d i hj
theorem Rises.asc {l : List Pt} (h : Rises l) : Asc (l.map kvOf) := by
  unfold Asc
  rw [List.pairwise_iff_getElem]
  intro i j hi hj hij
  rw [List.getElem_map, List.getElem_map]
  exact h.lt' (by simpa using hi) (by simpa using hj) hij
theorem Asc.rises {m : List Pr} (h : Asc m) : Rises (m.map put1) := fun j hj => by
  refine ⟨by rw [List.getElem_map]; rfl, fun h0 => ?_⟩
  rw [List.getElem_map, List.getElem_map]
  exact h.lt (by simp at hj; omega) (by simp at hj; omega) (by omega)
theorem step_end {m : List Pr} {x : Pt} (h : ∀ e ∈ m, ltb e.1 x.k = true) (hg : x.g = false) : step m x = m ++ [kvOf x] := by
  have hp : pos m x.k = m.length := pos_unique (Nat.le_refl _) (fun i hi _ => h _ (List.getElem_mem hi)) (fun hl => absurd hl (Nat.lt_irrefl _))
  unfold step
  rw [hp, hit_none (by rw [hp]; exact Nat.le_refl _), hg]
  simp [kvOf]
theorem Rises.steps {l : List Pt} (h : Rises l) : ∀ n, n ≤ l.length → steps [] (l.take n) = (l.map kvOf).take n := by
  intro n
  induction n with
  | zero => intro _; simp [Kv.steps]
  | succ n ih =>
    intro hn
    have hlt : n < l.length := by omega
    rw [List.take_succ_eq_append_getElem hlt, steps_append, ih (by omega), List.take_succ_eq_append_getElem (by simpa using hlt), List.getElem_map]
    show step ((l.map kvOf).take n) l[n] = _
    refine step_end (fun e he => ?_) (h n hlt).1
    obtain ⟨i, hi, rfl⟩ := List.mem_iff_getElem.1 he
    rw [List.getElem_take, List.getElem_map]
    simp at hi
    exact h.lt' (by omega) hlt (by omega)
theorem Rises.steps_all {l : List Pt} (h : Rises l) : Kv.steps [] l = l.map kvOf := by
  have := h.steps l.length (Nat.le_refl _)
  rwa [List.take_of_length_le (Nat.le_refl _), List.take_of_length_le (by simp)] at this
/-- Load: the bytes are a table's just where its Puts rise. -/
theorem load_iff {l : List Pt} (hm : may l = true) : bytes (steps [] l) = encs l ↔ Rises l := by
  constructor
  · intro h
    have := encs_inj (puts_may (steps_good l hm Good.nil)) hm h
    rw [← this]
    exact (steps_asc l Asc.nil).rises
  · intro h
    unfold bytes
    rw [h.steps_all, h.back]
theorem decP_bytes {m : List Pr} (h : Good m) : decP (bytes m) = some (m.map put1) := decP_encs _ (puts_may h)
theorem steps_puts {m : List Pr} (h : Asc m) : steps [] (m.map put1) = m := by rw [h.rises.steps_all, map_put1_kvOf]
theorem bytes_le {m : List Pr} (h : Good m) : (bytes m).length ≤ m.length * 200207 := by
  have := encs_le _ (puts_may h)
  rwa [List.length_map] at this

/-- A range. -/
def inT (to : ByteArray) (e : Pr) : Bool := decide (to.size = 0) || ltb e.1 to
def rng (m : List Pr) (fr to : ByteArray) (most : Int) : List Pr := (m.filter fun e => !ltb e.1 fr && inT to e).take most.toNat
theorem ltb_empty (a b : ByteArray) (hb : b.size = 0) : ltb a b = false := by
  have : b.data.toList = [] := List.eq_nil_of_length_eq_zero (by rw [ba_len]; exact hb)
  simp [ltb, this]
theorem rng_drop {m : List Pr} (h : Asc m) (fr to : ByteArray) : m.filter (fun e => !ltb e.1 fr && inT to e) = (m.drop (pos m fr)).filter (inT to) := by
  have e1 : m.filter (fun e => !ltb e.1 fr && inT to e) = (m.take (pos m fr)).filter (fun e => !ltb e.1 fr && inT to e) ++ (m.drop (pos m fr)).filter (fun e => !ltb e.1 fr && inT to e) := by
    rw [← List.filter_append, List.take_append_drop]
  have e2 : (m.take (pos m fr)).filter (fun e => !ltb e.1 fr && inT to e) = [] := by
    rw [List.filter_eq_nil_iff]
    intro a ha
    obtain ⟨i, hi, rfl⟩ := List.mem_iff_getElem.1 ha
    rw [List.getElem_take]
    simp at hi
    rw [lt_of_pos (by omega) (by omega)]; simp
  have e3 : (m.drop (pos m fr)).filter (fun e => !ltb e.1 fr && inT to e) = (m.drop (pos m fr)).filter (inT to) := by
    refine List.filter_congr fun a ha => ?_
    obtain ⟨i, hi, rfl⟩ := List.mem_iff_getElem.1 ha
    rw [List.getElem_drop]
    simp at hi
    rw [h.past (by omega) (by omega)]; simp
  rw [e1, e2, e3, List.nil_append]
/-- How a walk over a range ends. -/
theorem rng_end {m : List Pr} (h : Asc m) (fr to : ByteArray) (most : Int) (r s : List Pr) (hd : m.drop (pos m fr) = r ++ s) (hin : ∀ e ∈ r, inT to e = true) (hl : r.length ≤ most.toNat)
    (hend : s = [] ∨ most.toNat ≤ r.length ∨ ∃ x s', s = x :: s' ∧ inT to x = false) : r = rng m fr to most := by
  unfold rng
  rw [rng_drop h, hd, List.filter_append, List.filter_eq_self.2 hin]
  rcases hend with rfl | h1 | ⟨x, s', rfl, hx⟩
  · rw [List.filter_nil, List.append_nil, List.take_of_length_le hl]
  · rw [List.take_append_of_le_length h1, List.take_of_length_le hl]
  · have hs : (x :: s').filter (inT to) = [] := by
      rw [List.filter_eq_nil_iff]
      intro a ha
      rcases List.mem_cons.1 ha with rfl | ha
      · simp [hx]
      · have hp : (x :: s').Pairwise (fun a b => ltb a.1 b.1 = true) := by
          have := h.sublist (List.drop_sublist (pos m fr) m)
          rw [hd, List.pairwise_append] at this
          exact this.2.1
        have h3 := (List.pairwise_cons.1 hp).1 a ha
        unfold inT at hx ⊢
        rw [Bool.or_eq_false_iff] at hx
        cases e : ltb a.1 to with
        | false => rw [hx.1]; decide
        | true => have := ltb_trans h3 e; rw [hx.2] at this; cases this
    rw [hs, List.append_nil, List.take_of_length_le hl]
theorem rng_length (m : List Pr) (fr to : ByteArray) (most : Int) : (rng m fr to most).length ≤ m.length := by
  unfold rng
  rw [List.length_take]
  exact Nat.le_trans (Nat.min_le_right _ _) (List.length_filter_le _ _)
theorem rng_all {m : List Pr} (h : Asc m) (e1 e2 : ByteArray) (h1 : e1.size = 0) (h2 : e2.size = 0) (most : Int) (hm : (m.length : Int) ≤ most) : rng m e1 e2 most = m := by
  unfold rng
  have : m.filter (fun e => !ltb e.1 e1 && inT e2 e) = m := List.filter_eq_self.2 fun a _ => by
    unfold inT; rw [ltb_empty _ _ h1, h2]; rfl
  rw [this, List.take_of_length_le (by omega)]
theorem rng_low {m : List Pr} (h : Asc m) (e1 mid : ByteArray) (h1 : e1.size = 0) (h2 : mid.size ≠ 0) (most : Int) (hm : (m.length : Int) ≤ most) : rng m e1 mid most = m.take (pos m mid) := by
  have hp : pos m e1 = 0 := pos_unique (Nat.zero_le _) (fun i _ hi => absurd hi (Nat.not_lt_zero _)) (fun hl => ltb_empty _ _ h1)
  refine (rng_end h e1 mid most _ (m.drop (pos m mid)) (by rw [hp, List.drop_zero, List.take_append_drop]) (fun e he => ?_) (by rw [List.length_take]; have := pos_le m mid; omega) ?_).symm
  · obtain ⟨i, hi, rfl⟩ := List.mem_iff_getElem.1 he
    rw [List.getElem_take]
    simp at hi
    unfold inT
    rw [lt_of_pos (by omega) (by omega)]; simp
  · rcases Nat.lt_or_ge (pos m mid) m.length with hlt | hge
    · refine .inr (.inr ⟨m[pos m mid], m.drop (pos m mid + 1), List.drop_eq_getElem_cons hlt, ?_⟩)
      unfold inT
      rw [at_pos hlt]; simp [h2]
    · exact .inl (List.drop_of_length_le hge)
theorem rng_high {m : List Pr} (h : Asc m) (mid e2 : ByteArray) (h2 : e2.size = 0) (most : Int) (hm : (m.length : Int) ≤ most) : rng m mid e2 most = m.drop (pos m mid) := by
  refine (rng_end h mid e2 most _ [] (by rw [List.append_nil]) (fun e _ => by unfold inT; rw [h2]; rfl) (by rw [List.length_drop]; omega) (.inl rfl)).symm
end Go.Proofs.Ytgpkdnnlgafenaa.Kv
