/- Package seq's Of as plain functions on lists of numbers: the landed way (sort, then join) and the document's own (insert, then join) give the same; what the spans hold. -/
import Derived.Test.YtgkibkophoikoaaDoorSqPure
namespace Go.Proofs.YtgkibkophoikoaaDoor.Sq
set_option linter.unusedVariables false
set_option linter.unusedSimpArgs false

def ok (n : Int) : Bool := decide (1 ≤ n) && decide (n ≤ 4294967295)
/-- The landed round: n, at the spans S. -/
def step (S : List (Int × Int)) (n : Int) : List (Int × Int) := match S.getLast? with
  | some s => if n ≤ s.2 + 1 then S.dropLast ++ [(s.1, n)] else S ++ [(n, n)]
  | none => [(n, n)]
def stepR (S : List (Int × Int)) (n : Int) : List (Int × Int) := match S.getLast? with
  | some s => if s.2 + 1 = n then S.dropLast ++ [(s.1, n)] else S ++ [(n, n)]
  | none => [(n, n)]
theorem step_nil (n : Int) : step [] n = [(n, n)] := rfl
theorem step_snoc (S : List (Int × Int)) (a b n : Int) : step (S ++ [(a, b)]) n = if n ≤ b + 1 then S ++ [(a, n)] else S ++ [(a, b)] ++ [(n, n)] := by simp [step]
theorem stepR_nil (n : Int) : stepR [] n = [(n, n)] := rfl
theorem stepR_snoc (S : List (Int × Int)) (a b n : Int) : stepR (S ++ [(a, b)]) n = if b + 1 = n then S ++ [(a, n)] else S ++ [(a, b)] ++ [(n, n)] := by simp [stepR]
theorem snoc_cases {α : Type} (S : List α) : S = [] ∨ ∃ T x, S = T ++ [x] := by
  by_cases h : S = []
  · exact .inl h
  · exact .inr ⟨S.dropLast, S.getLast h, (List.dropLast_concat_getLast h).symm⟩
theorem step_length (S : List (Int × Int)) (n : Int) : (step S n).length ≤ S.length + 1 ∧ 1 ≤ (step S n).length := by
  rcases snoc_cases S with rfl | ⟨T, ⟨a, b⟩, rfl⟩
  · rw [step_nil]; simp
  · rw [step_snoc]; split <;> simp
theorem stepR_length (S : List (Int × Int)) (n : Int) : (stepR S n).length ≤ S.length + 1 := by
  rcases snoc_cases S with rfl | ⟨T, ⟨a, b⟩, rfl⟩
  · rw [stepR_nil]; simp
  · rw [stepR_snoc]; split <;> simp
theorem foldl_length (f : List (Int × Int) → Int → List (Int × Int)) (hf : ∀ S n, (f S n).length ≤ S.length + 1) : ∀ (l : List Int) (S : List (Int × Int)), (l.foldl f S).length ≤ S.length + l.length
  | [], S => by simp
  | n :: l, S => by
    rw [List.foldl_cons, List.length_cons]
    have := foldl_length f hf l (f S n)
    have := hf S n
    omega

/-! ## twice the same number -/
def dd (D : List Int) (n : Int) : List Int := if D.getLast? = some n then D else D ++ [n]
theorem dd_nil (n : Int) : dd [] n = [n] := by simp [dd]
theorem dd_snoc (D : List Int) (b n : Int) : dd (D ++ [b]) n = if b = n then D ++ [b] else D ++ [b] ++ [n] := by simp [dd]
def lastN (S : List (Int × Int)) : Option Int := S.getLast?.map (·.2)
theorem lastN_snoc (S : List (Int × Int)) (a b : Int) : lastN (S ++ [(a, b)]) = some b := by simp [lastN]
theorem fold_dd : ∀ (l : List Int) (D : List Int), l.Pairwise (· ≤ ·) → (∀ b, D.getLast? = some b → ∀ x ∈ l, b ≤ x) → lastN (D.foldl stepR []) = D.getLast? → l.foldl step (D.foldl stepR []) = (l.foldl dd D).foldl stepR []
  | [], D, _, _, _ => rfl
  | n :: l, D, hp, hb, hl => by
    rw [List.pairwise_cons] at hp
    have hn : ∀ D', dd D n = D' → D'.getLast? = some n → lastN (D'.foldl stepR []) = some n → step (D.foldl stepR []) n = D'.foldl stepR [] → (n :: l).foldl step (D.foldl stepR []) = ((n :: l).foldl dd D).foldl stepR [] := fun D' e1 e2 e3 e4 => by
      rw [List.foldl_cons, List.foldl_cons, e1, e4]
      exact fold_dd l D' hp.2 (fun b hb' x hx => by rw [e2] at hb'; injection hb' with hb'; subst hb'; exact hp.1 x hx) (by rw [e3, e2])
    rcases snoc_cases D with rfl | ⟨T, b, rfl⟩
    · exact hn [n] (dd_nil n) rfl rfl rfl
    · rw [List.getLast?_concat] at hl
      have hbn := hb b (by simp) n (by simp)
      rcases snoc_cases ((T ++ [b]).foldl stepR []) with h0 | ⟨S, ⟨a, b'⟩, hS⟩
      · rw [h0] at hl; cases hl
      · rw [hS, lastN_snoc] at hl
        injection hl with hl
        subst hl
        by_cases e : b' = n
        · subst e
          refine hn (T ++ [b']) (by rw [dd_snoc, if_pos rfl]) (by simp) (by rw [hS, lastN_snoc]) ?_
          rw [hS, step_snoc, if_pos (by omega)]
        · have eR : ((T ++ [b']) ++ [n]).foldl stepR [] = stepR ((T ++ [b']).foldl stepR []) n := by rw [List.foldl_append]; rfl
          refine hn (T ++ [b'] ++ [n]) (by rw [dd_snoc, if_neg e]) (by simp) ?_ ?_
          · rw [eR, hS, stepR_snoc]; split <;> rw [lastN_snoc]
          · rw [eR, hS, stepR_snoc, step_snoc]
            by_cases h : b' + 1 = n
            · rw [if_pos h, if_pos (by omega)]
            · rw [if_neg h, if_neg (by omega)]
theorem dd_strict : ∀ (l : List Int) (D : List Int), l.Pairwise (· ≤ ·) → (∀ b, D.getLast? = some b → ∀ x ∈ l, b ≤ x) → D.Pairwise (· < ·) → (l.foldl dd D).Pairwise (· < ·) ∧ ∀ x, x ∈ l.foldl dd D ↔ x ∈ D ∨ x ∈ l
  | [], D, _, _, hD => ⟨hD, fun x => by simp⟩
  | n :: l, D, hp, hb, hD => by
    rw [List.pairwise_cons] at hp
    rw [List.foldl_cons]
    have hn : ∀ D', dd D n = D' → D'.getLast? = some n → D'.Pairwise (· < ·) → (∀ x, x ∈ D' ↔ x ∈ D ∨ x = n) → (l.foldl dd (dd D n)).Pairwise (· < ·) ∧ ∀ x, x ∈ l.foldl dd (dd D n) ↔ x ∈ D ∨ x ∈ n :: l := fun D' e1 e2 e3 e4 => by
      rw [e1]
      obtain ⟨q1, q2⟩ := dd_strict l D' hp.2 (fun b hb' x hx => by rw [e2] at hb'; injection hb' with hb'; subst hb'; exact hp.1 x hx) e3
      refine ⟨q1, fun x => ?_⟩
      rw [q2, e4, List.mem_cons, or_assoc]
    rcases snoc_cases D with rfl | ⟨T, b, rfl⟩
    · exact hn [n] (dd_nil n) rfl (by simp) (fun x => by simp)
    · have hbn := hb b (by simp) n (by simp)
      by_cases e : b = n
      · subst e
        refine hn (T ++ [b]) (by rw [dd_snoc, if_pos rfl]) (by simp) hD (fun x => ?_)
        simp
      · refine hn (T ++ [b] ++ [n]) (by rw [dd_snoc, if_neg e]) (by simp) ?_ (fun x => by simp [or_assoc])
        rw [List.pairwise_append]
        refine ⟨hD, by simp, fun x hx y hy => ?_⟩
        rw [List.mem_singleton] at hy
        subst hy
        rw [List.pairwise_append] at hD
        rcases List.mem_append.1 hx with hx | hx
        · have := hD.2.2 x hx b (by simp); omega
        · rw [List.mem_singleton] at hx; omega
/-- Two ascending lists of the same numbers are one. -/
theorem strict_ext : ∀ (a b : List Int), a.Pairwise (· < ·) → b.Pairwise (· < ·) → (∀ x, x ∈ a ↔ x ∈ b) → a = b
  | [], [], _, _, _ => rfl
  | [], y :: b, _, _, h => by have := (h y).2 (by simp); cases this
  | x :: a, [], _, _, h => by have := (h x).1 (by simp); cases this
  | x :: a, y :: b, ha, hb, h => by
    rw [List.pairwise_cons] at ha hb
    have hxy : x = y := by
      rcases List.mem_cons.1 ((h x).1 (by simp)) with e | e
      · exact e
      · have h1 := hb.1 x e
        rcases List.mem_cons.1 ((h y).2 (by simp)) with e' | e'
        · exact e'.symm
        · have := ha.1 y e'; omega
    subst hxy
    rw [strict_ext a b ha.2 hb.2 (fun z => ?_)]
    constructor
    · intro hz
      rcases List.mem_cons.1 ((h z).1 (List.mem_cons_of_mem _ hz)) with e | e
      · have := ha.1 z hz; omega
      · exact e
    · intro hz
      rcases List.mem_cons.1 ((h z).2 (List.mem_cons_of_mem _ hz)) with e | e
      · have := hb.1 z hz; omega
      · exact e

/-! ## the document's own: a number's place -/
def ins (r : List Int) (n : Int) : List Int := if (r.dropWhile (· < n)).head? = some n then r else r.takeWhile (· < n) ++ n :: r.dropWhile (· < n)
theorem ins_strict (r : List Int) (n : Int) (h : r.Pairwise (· < ·)) : (ins r n).Pairwise (· < ·) ∧ (∀ x, x ∈ ins r n ↔ x ∈ r ∨ x = n) := by
  have e := List.takeWhile_append_dropWhile (p := fun x => decide (x < n)) (l := r)
  have ht : ∀ x ∈ r.takeWhile (fun x => decide (x < n)), x < n := fun x hx => by
    have := List.all_eq_true.1 (List.all_takeWhile (p := fun x => decide (x < n)) (l := r)) x hx
    simpa using this
  have hd : ∀ y t, r.dropWhile (fun x => decide (x < n)) = y :: t → n ≤ y := fun y t hy => by
    have := List.head_dropWhile_not (fun x => decide (x < n)) (l := r) (by rw [hy]; simp)
    simp [hy] at this
    exact this
  unfold ins
  generalize r.takeWhile (fun x => decide (x < n)) = a at *
  generalize r.dropWhile (fun x => decide (x < n)) = b at *
  subst e
  have hab := List.pairwise_append.1 h
  split
  · rename_i hh
    refine ⟨h, fun x => ⟨.inl, ?_⟩⟩
    rintro (hx | rfl)
    · exact hx
    · exact List.mem_append_right _ (List.mem_of_mem_head? hh)
  · rename_i hh
    have hb : ∀ y ∈ b, n < y := by
      cases b with
      | nil => intro y hy; cases hy
      | cons y t =>
        have h1 := hd y t rfl
        have h2 : ¬ y = n := fun e => hh (by simp [e])
        have h3 := (List.pairwise_cons.1 hab.2.1).1
        intro z hz
        rcases List.mem_cons.1 hz with rfl | hz
        · omega
        · have := h3 z hz; omega
    refine ⟨?_, fun x => ?_⟩
    · rw [List.pairwise_append]
      refine ⟨hab.1, List.pairwise_cons.2 ⟨hb, hab.2.1⟩, fun x hx y hy => ?_⟩
      rcases List.mem_cons.1 hy with rfl | hy
      · exact ht x hx
      · exact hab.2.2 x hx y hy
    · simp only [List.mem_append, List.mem_cons]
      exact ⟨fun h => by rcases h with h | h | h <;> simp [h], fun h => by rcases h with (h | h) | h <;> simp [h]⟩
theorem ins_fold : ∀ (l r : List Int), r.Pairwise (· < ·) → (l.foldl ins r).Pairwise (· < ·) ∧ ∀ x, x ∈ l.foldl ins r ↔ x ∈ r ∨ x ∈ l
  | [], r, h => ⟨h, fun x => by simp⟩
  | n :: l, r, h => by
    obtain ⟨h1, h2⟩ := ins_strict r n h
    obtain ⟨q1, q2⟩ := ins_fold l _ h1
    rw [List.foldl_cons]
    refine ⟨q1, fun x => ?_⟩
    rw [q2, h2, List.mem_cons, or_assoc]

def sorted (l : List Int) : List Int := l.mergeSort fun x y => decide (x ≤ y)
theorem sorted_pair (l : List Int) : (sorted l).Pairwise (· ≤ ·) := by
  have := List.pairwise_mergeSort (le := fun x y : Int => decide (x ≤ y)) (by intro a b c h1 h2; simp at h1 h2 ⊢; omega) (by intro a b; simp; omega) l
  exact this.imp (fun h => by simpa using h)
theorem sorted_mem (l : List Int) (x : Int) : x ∈ sorted l ↔ x ∈ l := List.mem_mergeSort
theorem sorted_length (l : List Int) : (sorted l).length = l.length := List.length_mergeSort l
def spans (l : List Int) : List (Int × Int) := (sorted (l.filter ok)).foldl step []
def spansR (l : List Int) : List (Int × Int) := ((l.filter ok).foldl ins []).foldl stepR []
theorem spans_eq (l : List Int) : spans l = spansR l := by
  unfold spans spansR
  have e := fold_dd (sorted (l.filter ok)) [] (sorted_pair _) (fun b h => by cases h) rfl
  rw [List.foldl_nil] at e
  rw [e]
  congr 1
  obtain ⟨a1, a2⟩ := dd_strict (sorted (l.filter ok)) [] (sorted_pair _) (fun b h => by cases h) List.Pairwise.nil
  obtain ⟨b1, b2⟩ := ins_fold (l.filter ok) [] List.Pairwise.nil
  refine strict_ext _ _ a1 b1 (fun x => ?_)
  rw [a2, b2, sorted_mem]
theorem spans_length (l : List Int) : (spans l).length ≤ l.length := by
  unfold spans
  have h1 := foldl_length step (fun S n => (step_length S n).1) (sorted (l.filter ok)) []
  rw [sorted_length] at h1
  have := List.length_filter_le ok l
  simp at h1
  omega

/-! ## what the spans hold -/
structure Good (S : List (Int × Int)) (P : List Int) : Prop where
  each : ∀ s ∈ S, 1 ≤ s.1 ∧ s.1 ≤ s.2 ∧ s.2 ≤ 4294967295
  gaps : S.Pairwise fun s t => s.2 + 1 < t.1
  mem : ∀ x, (∃ s ∈ S, s.1 ≤ x ∧ x ≤ s.2) ↔ x ∈ P
  last : ∀ s, S.getLast? = some s → ∀ x ∈ P, x ≤ s.2
theorem Good.nil : Good [] [] := ⟨fun s h => (by cases h), List.Pairwise.nil, fun x => by simp, fun s h => by cases h⟩
theorem Good.step {S : List (Int × Int)} {P : List Int} (h : Good S P) (n : Int) (hn : ok n = true) (hP : ∀ x ∈ P, x ≤ n) : Good (step S n) (P ++ [n]) := by
  simp only [ok, Bool.and_eq_true, decide_eq_true_eq] at hn
  have memP : ∀ x, x ∈ P ++ [n] ↔ x ∈ P ∨ x = n := fun x => by simp
  rcases snoc_cases S with rfl | ⟨T, ⟨a, b⟩, rfl⟩
  · rw [step_nil]
    have h0 : ∀ x, x ∉ P := fun x hx => by obtain ⟨s, hs, _⟩ := (h.mem x).2 hx; cases hs
    refine ⟨fun s hs => ?_, by simp, fun x => ?_, fun s hs x hx => ?_⟩
    · rw [List.mem_singleton] at hs; subst hs; simp only; omega
    · rw [memP]
      constructor
      · rintro ⟨s, hs, h1, h2⟩
        rw [List.mem_singleton] at hs; subst hs
        simp only at h1 h2
        exact .inr (by omega)
      · rintro (hx | rfl)
        · exact absurd hx (h0 x)
        · exact ⟨(x, x), by simp, by simp⟩
    · simp at hs
      subst hs
      rcases (memP x).1 hx with hx | rfl
      · exact hP x hx
      · simp
  · obtain ⟨e1, e2, e3⟩ := h.each (a, b) (by simp)
    simp only at e1 e2 e3
    have hb : b ∈ P := (h.mem b).1 ⟨(a, b), by simp, e2, Int.le_refl _⟩
    have hbn : b ≤ n := hP b hb
    have hg := List.pairwise_append.1 h.gaps
    rw [step_snoc]
    split
    · rename_i hc
      refine ⟨fun s hs => ?_, ?_, fun x => ?_, fun s hs x hx => ?_⟩
      · rcases List.mem_append.1 hs with hs | hs
        · exact h.each s (List.mem_append_left _ hs)
        · rw [List.mem_singleton] at hs; subst hs; simp only; omega
      · rw [List.pairwise_append]
        refine ⟨hg.1, by simp, fun s hs t ht => ?_⟩
        rw [List.mem_singleton] at ht; subst ht
        exact hg.2.2 s hs (a, b) (by simp)
      · rw [memP, ← h.mem x]
        constructor
        · rintro ⟨s, hs, h1, h2⟩
          rcases List.mem_append.1 hs with hs | hs
          · exact .inl ⟨s, List.mem_append_left _ hs, h1, h2⟩
          · rw [List.mem_singleton] at hs; subst hs
            simp only at h1 h2
            by_cases hx : x ≤ b
            · exact .inl ⟨(a, b), by simp, h1, hx⟩
            · exact .inr (by omega)
        · rintro (⟨s, hs, h1, h2⟩ | rfl)
          · rcases List.mem_append.1 hs with hs | hs
            · exact ⟨s, List.mem_append_left _ hs, h1, h2⟩
            · rw [List.mem_singleton] at hs; subst hs
              simp only at h1 h2
              exact ⟨(a, n), by simp, h1, by simp only; omega⟩
          · exact ⟨(a, x), by simp, by simp only; omega, Int.le_refl _⟩
      · simp at hs
        subst hs
        rcases (memP x).1 hx with hx | rfl
        · exact hP x hx
        · simp
    · rename_i hc
      refine ⟨fun s hs => ?_, ?_, fun x => ?_, fun s hs x hx => ?_⟩
      · rcases List.mem_append.1 hs with hs | hs
        · exact h.each s hs
        · rw [List.mem_singleton] at hs; subst hs; simp only; omega
      · rw [List.pairwise_append]
        refine ⟨h.gaps, by simp, fun s hs t ht => ?_⟩
        rw [List.mem_singleton] at ht; subst ht
        simp only
        rcases List.mem_append.1 hs with hs | hs
        · have := hg.2.2 s hs (a, b) (by simp)
          simp only at this
          omega
        · rw [List.mem_singleton] at hs; subst hs; simp only; omega
      · rw [memP, ← h.mem x]
        constructor
        · rintro ⟨s, hs, h1, h2⟩
          rcases List.mem_append.1 hs with hs | hs
          · exact .inl ⟨s, hs, h1, h2⟩
          · rw [List.mem_singleton] at hs; subst hs
            simp only at h1 h2
            exact .inr (by omega)
        · rintro (⟨s, hs, h1, h2⟩ | rfl)
          · exact ⟨s, List.mem_append_left _ hs, h1, h2⟩
          · exact ⟨(x, x), by simp, by simp⟩
      · simp at hs
        subst hs
        rcases (memP x).1 hx with hx | rfl
        · exact hP x hx
        · simp
theorem good_fold : ∀ (l : List Int) (S : List (Int × Int)) (P : List Int), Good S P → l.Pairwise (· ≤ ·) → (∀ x ∈ P, ∀ y ∈ l, x ≤ y) → (∀ y ∈ l, ok y = true) → Good (l.foldl step S) (P ++ l)
  | [], S, P, h, _, _, _ => by simpa using h
  | n :: l, S, P, h, hp, hP, ho => by
    rw [List.pairwise_cons] at hp
    rw [List.foldl_cons, show P ++ n :: l = (P ++ [n]) ++ l by simp]
    refine good_fold l _ _ (h.step n (ho n (by simp)) (fun x hx => hP x hx n (by simp))) hp.2 (fun x hx y hy => ?_) (fun y hy => ho y (List.mem_cons_of_mem _ hy))
    rcases List.mem_append.1 hx with hx | hx
    · exact hP x hx y (List.mem_cons_of_mem _ hy)
    · rw [List.mem_singleton] at hx; subst hx; exact hp.1 y hy
theorem spans_good (l : List Int) : Good (spans l) (sorted (l.filter ok)) := by
  have := good_fold (sorted (l.filter ok)) [] [] Good.nil (sorted_pair _) (fun x h => by cases h) (fun y hy => by
    rw [sorted_mem] at hy; exact (List.mem_filter.1 hy).2)
  rw [List.nil_append] at this
  exact this
theorem spans_mem (l : List Int) (n : Int) (h : ok n = true) : (∃ s ∈ spans l, s.1 ≤ n ∧ n ≤ s.2) ↔ n ∈ l := by
  rw [(spans_good l).mem n, sorted_mem, List.mem_filter]
  exact ⟨fun h => h.1, fun h' => ⟨h', h⟩⟩
/-- The set of a list has just its numbers. -/
theorem spans_has (l : List Int) (n : Int) (h : ok n = true) (hl : l.length ≤ 100) : has (spans l) n n = decide (n ∈ l) := by
  have g := spans_good l
  have h1 := (spans_mem l n h)
  simp only [ok, Bool.and_eq_true, decide_eq_true_eq] at h
  rw [Bool.eq_iff_iff, decide_eq_true_eq, ← h1]
  have hlen := spans_length l
  unfold has
  rw [Bool.and_eq_true]
  have hit_eq : ∀ s ∈ spans l, hit n n s = true ↔ s.1 ≤ n ∧ n ≤ s.2 := fun s hs => by
    obtain ⟨e1, e2, e3⟩ := g.each s hs
    have f1 : nof s.1 n = s.1 := by unfold nof; rw [if_neg (by omega)]
    have f2 : nof s.2 n = s.2 := by unfold nof; rw [if_neg (by omega)]
    unfold hit
    rw [f1, f2, Bool.and_eq_true, decide_eq_true_eq, decide_eq_true_eq]
    omega
  constructor
  · rintro ⟨_, hv⟩
    unfold hasV at hv
    rw [Bool.and_eq_true, List.any_eq_true] at hv
    obtain ⟨_, s, hs, hh⟩ := hv
    exact ⟨s, hs, (hit_eq s hs).1 hh⟩
  · rintro ⟨s, hs, hh⟩
    refine ⟨?_, ?_⟩
    · have hpos : 1 ≤ (spans l).length := List.length_pos_of_mem hs
      unfold valid
      rw [Bool.and_eq_true, Bool.and_eq_true, decide_eq_true_eq, decide_eq_true_eq, List.all_eq_true]
      refine ⟨⟨hpos, by omega⟩, fun x hx => ?_⟩
      rw [good1_iff]
      obtain ⟨e1, e2, e3⟩ := g.each x hx
      omega
    · unfold hasV
      rw [Bool.and_eq_true, decide_eq_true_eq, List.any_eq_true]
      exact ⟨h.1, s, hs, (hit_eq s hs).2 hh⟩
end Go.Proofs.YtgkibkophoikoaaDoor.Sq
