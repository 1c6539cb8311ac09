/- A region that draws its order, whose operations answer one value each, but for those that turn the world (calls, stores), which come up in their order. -/
import Derived.Test.YtgkibkophoikoaaDoorRegion
namespace Go.Proofs.YtgkibkophoikoaaDoor
open Go
set_option linter.unusedVariables false

theorem ev (a : Act) (t : Nat) : a.eval (.tmp t) = a.tmps[t]?.getD undef := by
  show a.tmps.getD t undef = _
  rw [Array.getD_eq_getD_getElem?]
theorem wanted_of {ops : Array Oper} {a : Act} {o : Oper} {g s : Nat} {b b' : Bool} (hg : o.guard = some (g, b)) (hs : (ops[g]?).bind (·.dst) = some s) (hv : a.tmps[s]?.getD undef = .bool b') : Region.wanted o (yielded ops a.tmps) = (b' == b) := by
  have h1 : a.tmps[s]? = some (.bool b') := by
    cases h : a.tmps[s]? with
    | none => rw [h] at hv; exact absurd hv (by simp [undef])
    | some v => rw [h] at hv; exact congrArg some hv
  unfold Region.wanted yielded
  rw [hg]
  show ((match (ops[g]?.bind (·.dst)).bind (a.tmps[·]?) with
    | some (.bool b) => some b
    | _ => none) == some b) = (b' == b)
  rw [hs]
  simp [h1]

def setR (R : Nat → Value) (j : Nat) (v : Value) : Nat → Value := fun k => if k = j then v else R k
/-- What the operations that turn the world have answered. -/
def resOf (C : List (Nat × Nat)) (E : Nat → Value) : Nat → Value := fun j => match C[j]? with
  | some c => E c.2
  | none => undef

/-- vals: number, slot, value of the operations that answer one value; C: number, slot of those that turn the world, in their order; S: what is known when j of these have come up. -/
def GV (vals : List (Nat × Nat × Value)) (C : List (Nat × Nat)) (S : Nat → (Nat → Value) → World → Prop) (L : Nat → Bool) (E : Nat → Value) (w : World) : Prop :=
  ∃ p, p ≤ C.length ∧ (∀ j c, C[j]? = some c → L c.1 = decide (j < p)) ∧ S p (resOf C E) w ∧ ∀ q ∈ vals, L q.1 = true → E q.2.1 = q.2.2

def slotsOf (vals : List (Nat × Nat × Value)) : List (Nat × Nat) := vals.map fun q => (q.1, q.2.1)
def okB (slots C : List (Nat × Nat)) (i x : Nat) : Bool := slots.all (fun q => (q.1 == i) == (q.2 == x)) && C.all (fun c => c.1 != i && c.2 != x)
def okC (slots C : List (Nat × Nat)) (i x j : Nat) : Bool := slots.all (fun q => q.1 != i && q.2 != x) && (List.range C.length).all (fun k => k == j || match C[k]? with
  | some c => c.1 != i && c.2 != x
  | none => true)
def nodupB : List Nat → Bool
  | [] => true
  | x :: r => !r.contains x && nodupB r

theorem nodup_val {vals : List (Nat × Nat × Value)} (hn : nodupB ((slotsOf vals).map (·.1)) = true) {k i x : Nat} {v : Value} (hk : vals[k]? = some (i, x, v)) : ∀ q ∈ vals, q.1 = i → q.2.2 = v := by
  induction vals generalizing k with
  | nil => simp at hk
  | cons y r ih =>
    simp only [slotsOf, List.map_cons, nodupB, Bool.and_eq_true, Bool.not_eq_true'] at hn
    intro q hq he
    cases k with
    | zero =>
      simp at hk
      subst hk
      rcases List.mem_cons.1 hq with rfl | hq
      · rfl
      · have : i ∈ ((r.map fun q => (q.1, q.2.1)).map (·.1)) := by
          rw [List.map_map]
          exact List.mem_map.2 ⟨q, hq, he⟩
        have h2 := hn.1
        rw [← Bool.not_eq_true, List.contains_iff_mem] at h2
        exact absurd this h2
    | succ k =>
      have hk' : r[k]? = some (i, x, v) := by simpa using hk
      rcases List.mem_cons.1 hq with rfl | hq
      · have : q.1 ∈ ((r.map fun q => (q.1, q.2.1)).map (·.1)) := by
          rw [List.map_map]
          exact List.mem_map.2 ⟨_, List.mem_of_getElem? hk', he.symm⟩
        have h2 := hn.1
        rw [← Bool.not_eq_true, List.contains_iff_mem] at h2
        exact absurd this h2
      · exact ih hn.2 hk' q hq he

section
variable {vals : List (Nat × Nat × Value)} {C : List (Nat × Nat)} {S : Nat → (Nat → Value) → World → Prop} {L : Nat → Bool} {E : Nat → Value} {w : World}

theorem setE_ne' (E : Nat → Value) (v : Value) {x t : Nat} (h : t ≠ x) : setE E (some x) v t = E t := by simp [setE, h]
theorem setE_self' (E : Nat → Value) (v : Value) (x : Nat) : setE E (some x) v x = v := by simp [setE]

theorem GV.start (h : S 0 (resOf C E) w) : GV vals C S (fun _ => false) E w :=
  ⟨0, Nat.zero_le _, fun j c _ => by simp, h, fun q _ hl => by cases hl⟩

theorem GV.quiet (h : GV vals C S L E w) (k i x : Nat) (v : Value) (hk : vals[k]? = some (i, x, v)) (hn : nodupB ((slotsOf vals).map (·.1)) = true) (hok : okB (slotsOf vals) C i x = true) : GV vals C S (setL L i) (setE E (some x) v) w := by
  obtain ⟨p, h1, h2, h3, h4⟩ := h
  simp only [okB, Bool.and_eq_true, List.all_eq_true] at hok
  obtain ⟨o1, o2⟩ := hok
  have hC : ∀ c ∈ C, c.1 ≠ i ∧ c.2 ≠ x := fun c hc => by
    have := o2 c hc
    simpa using this
  refine ⟨p, h1, fun j c hc => ?_, ?_, fun q hq hl => ?_⟩
  · rw [setL_ne L (hC c (List.mem_of_getElem? hc)).1]; exact h2 j c hc
  · have e : resOf C (setE E (some x) v) = resOf C E := by
      funext j
      unfold resOf
      cases hc : C[j]? with
      | none => rfl
      | some c => exact setE_ne' E v (hC c (List.mem_of_getElem? hc)).2
    rw [e]; exact h3
  · have hs := o1 (q.1, q.2.1) (List.mem_map.2 ⟨q, hq, rfl⟩)
    by_cases e : q.1 = i
    · have hx : q.2.1 = x := by
        have : (q.1 == i) = true := by simpa using e
        rw [this] at hs
        simpa using hs
      rw [hx, setE_self', nodup_val hn hk q hq e]
    · have hx : q.2.1 ≠ x := by
        have : (q.1 == i) = false := by simpa using e
        rw [this] at hs
        simpa using hs
      rw [setL_ne L e] at hl
      rw [setE_ne' E v hx]; exact h4 q hq hl

/-- The j-th of those that turn the world. -/
theorem GV.at (h : GV vals C S L E w) (j : Nat) (c : Nat × Nat) (hc : C[j]? = some c) (hL : L c.1 = false) (hprev : ∀ c', 0 < j → C[j - 1]? = some c' → L c'.1 = true) : S j (resOf C E) w := by
  obtain ⟨p, h1, h2, h3, h4⟩ := h
  have hp : ¬ j < p := by
    have := h2 j c hc
    rw [hL] at this
    simpa using this.symm
  have hp2 : p = j := by
    rcases Nat.eq_zero_or_pos j with h0 | h0
    · omega
    · have hj : j < C.length := (List.getElem?_eq_some_iff.1 hc).1
      have hg : C[j - 1]? = some (C[j - 1]'(by omega)) := List.getElem?_eq_getElem _
      have h5 := h2 (j - 1) _ hg
      rw [hprev _ h0 hg] at h5
      have : j - 1 < p := by simpa using h5.symm
      omega
  subst hp2
  exact h3
theorem GV.call (h : GV vals C S L E w) (j : Nat) (c : Nat × Nat) (hc : C[j]? = some c) (hL : L c.1 = false) (hprev : ∀ c', 0 < j → C[j - 1]? = some c' → L c'.1 = true) (hok : okC (slotsOf vals) C c.1 c.2 j = true) (v : Value) (w' : World) (hS : S (j + 1) (setR (resOf C E) j v) w') :
    GV vals C S (setL L c.1) (setE E (some c.2) v) w' := by
  obtain ⟨p, h1, h2, h3, h4⟩ := h
  have hj : j < C.length := (List.getElem?_eq_some_iff.1 hc).1
  have hp : ¬ j < p := by
    have := h2 j c hc
    rw [hL] at this
    simpa using this.symm
  have hp2 : p = j := by
    rcases Nat.eq_zero_or_pos j with h0 | h0
    · omega
    · have hg : C[j - 1]? = some (C[j - 1]'(by omega)) := List.getElem?_eq_getElem _
      have h5 := h2 (j - 1) _ hg
      rw [hprev _ h0 hg] at h5
      have : j - 1 < p := by simpa using h5.symm
      omega
  subst hp2
  simp only [okC, Bool.and_eq_true, List.all_eq_true, List.mem_range] at hok
  obtain ⟨o1, o2⟩ := hok
  have hC : ∀ k d, C[k]? = some d → k ≠ p → d.1 ≠ c.1 ∧ d.2 ≠ c.2 := fun k d hd hk => by
    have := o2 k (List.getElem?_eq_some_iff.1 hd).1
    rw [hd] at this
    simpa [hk] using this
  have hV : ∀ q ∈ vals, q.1 ≠ c.1 ∧ q.2.1 ≠ c.2 := fun q hq => by
    have := o1 (q.1, q.2.1) (List.mem_map.2 ⟨q, hq, rfl⟩)
    simpa using this
  refine ⟨p + 1, hj, fun k d hd => ?_, ?_, fun q hq hl => ?_⟩
  · by_cases e : k = p
    · subst e
      rw [hc] at hd
      injection hd with hd
      subst hd
      rw [setL_self]; simp
    · rw [setL_ne L (hC k d hd e).1, h2 k d hd]
      by_cases h6 : k < p
      · rw [decide_eq_true h6, decide_eq_true (by omega)]
      · rw [decide_eq_false h6, decide_eq_false (by omega)]
  · have e : resOf C (setE E (some c.2) v) = setR (resOf C E) p v := by
      funext k
      unfold resOf setR
      by_cases e : k = p
      · subst e
        rw [hc, if_pos rfl]
        exact setE_self' E v c.2
      · rw [if_neg e]
        show _ = resOf C E k
        unfold resOf
        cases hd : C[k]? with
        | none => rfl
        | some d => exact setE_ne' E v (hC k d hd e).2
    rw [e]; exact hS
  · rw [setL_ne L (hV q hq).1] at hl
    rw [setE_ne' E v (hV q hq).2]; exact h4 q hq hl
theorem GV.val (h : GV vals C S L E w) (k i x : Nat) (v : Value) (hk : vals[k]? = some (i, x, v)) (hL : L i = true) : E x = v := by
  obtain ⟨p, h1, h2, h3, h4⟩ := h
  exact h4 (i, x, v) (List.mem_of_getElem? hk) hL
theorem GV.any (h : GV vals C S L E w) : ∃ p, S p (resOf C E) w ∧ ∀ j c, C[j]? = some c → L c.1 = true → j < p := by
  obtain ⟨p, h1, h2, h3, h4⟩ := h
  exact ⟨p, h3, fun j c hc hl => by have := h2 j c hc; rw [hl] at this; simpa using this.symm⟩
theorem GV.fin (h : GV vals C S L E w) (hall : ∀ c ∈ C, L c.1 = true) : S C.length (resOf C E) w := by
  obtain ⟨p, h1, h2, h3, h4⟩ := h
  have : p = C.length := by
    rcases Nat.eq_zero_or_pos C.length with h0 | h0
    · omega
    · have hg : C[C.length - 1]? = some (C[C.length - 1]'(by omega)) := List.getElem?_eq_getElem _
      have h5 := h2 _ _ hg
      rw [hall _ (List.getElem_mem _)] at h5
      have : C.length - 1 < p := by simpa using h5.symm
      omega
  rw [← this]; exact h3
theorem resOf_at {j : Nat} {c : Nat × Nat} (hc : C[j]? = some c) (a : Act) : resOf C (fun t => a.eval (.tmp t)) j = a.eval (.tmp c.2) := by
  unfold resOf; rw [hc]
end
end Go.Proofs.YtgkibkophoikoaaDoor
