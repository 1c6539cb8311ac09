/- A region that draws its order, whose operations answer one value each, but for those that turn the world, in whatever order these come up. -/
import Derived.Test.YtgkibkophoikoaaDoorVals
namespace Go.Proofs.YtgkibkophoikoaaDoor
open Go
set_option linter.unusedVariables false

/-- Which of those that turn the world have come up. -/
def flagsOf (C : List (Nat × Nat)) (L : Nat → Bool) : Nat → Bool := fun j => match C[j]? with
  | some c => L c.1
  | none => false
def setF (f : Nat → Bool) (j : Nat) : Nat → Bool := fun k => if k = j then true else f k
theorem setF_self (f : Nat → Bool) (j : Nat) : setF f j j = true := by simp [setF]
theorem setF_ne (f : Nat → Bool) {j k : Nat} (h : k ≠ j) : setF f j k = f k := by simp [setF, h]
theorem setR_self (R : Nat → Value) (j : Nat) (v : Value) : setR R j v j = v := by simp [setR]
theorem setR_ne (R : Nat → Value) {j k : Nat} (v : Value) (h : k ≠ j) : setR R j v k = R k := by simp [setR, h]
def GF (vals : List (Nat × Nat × Value)) (C : List (Nat × Nat)) (S : (Nat → Bool) → (Nat → Value) → World → Prop) (L : Nat → Bool) (E : Nat → Value) (w : World) : Prop :=
  S (flagsOf C L) (resOf C E) w ∧ ∀ q ∈ vals, L q.1 = true → E q.2.1 = q.2.2
section
variable {vals : List (Nat × Nat × Value)} {C : List (Nat × Nat)} {S : (Nat → Bool) → (Nat → Value) → World → Prop} {L : Nat → Bool} {E : Nat → Value} {w : World}
theorem flagsOf_none (C : List (Nat × Nat)) : flagsOf C (fun _ => false) = fun _ => false := by
  funext j; unfold flagsOf; cases C[j]? <;> rfl
theorem GF.start (h : S (fun _ => false) (resOf C E) w) : GF vals C S (fun _ => false) E w :=
  ⟨by rw [flagsOf_none]; exact h, fun q _ hl => by cases hl⟩
theorem flagsOf_at {j : Nat} {c : Nat × Nat} (hc : C[j]? = some c) (L : Nat → Bool) : flagsOf C L j = L c.1 := by unfold flagsOf; rw [hc]
theorem GF.quiet (h : GF vals C S L E w) (k i x : Nat) (v : Value) (hk : vals[k]? = some (i, x, v)) (hn : nodupB ((slotsOf vals).map (·.1)) = true) (hok : okB (slotsOf vals) C i x = true) : GF vals C S (setL L i) (setE E (some x) v) w := by
  obtain ⟨h3, h4⟩ := h
  simp only [okB, Bool.and_eq_true, List.all_eq_true] at hok
  obtain ⟨o1, o2⟩ := hok
  have hC : ∀ c ∈ C, c.1 ≠ i ∧ c.2 ≠ x := fun c hc => by
    have := o2 c hc
    simpa using this
  refine ⟨?_, fun q hq hl => ?_⟩
  · have e : resOf C (setE E (some x) v) = resOf C E := by
      funext j
      unfold resOf
      cases hc : C[j]? with
      | none => rfl
      | some c => exact setE_ne' E v (hC c (List.mem_of_getElem? hc)).2
    have e2 : flagsOf C (setL L i) = flagsOf C L := by
      funext j
      unfold flagsOf
      cases hc : C[j]? with
      | none => rfl
      | some c => exact setL_ne L (hC c (List.mem_of_getElem? hc)).1
    rw [e, e2]; exact h3
  · have hs := o1 (q.1, q.2.1) (List.mem_map.2 ⟨q, hq, rfl⟩)
    by_cases e : q.1 = i
    · have hx : q.2.1 = x := by
        have : (q.1 == i) = true := by simpa using e
        rw [this] at hs
        simpa using hs
      rw [hx, setE_self', nodup_val hn hk q hq e]
    · have hx : q.2.1 ≠ x := by
        have : (q.1 == i) = false := by simpa using e
        rw [this] at hs
        simpa using hs
      rw [setL_ne L e] at hl
      rw [setE_ne' E v hx]; exact h4 q hq hl
theorem okC_spec {i x j : Nat} (hok : okC (slotsOf vals) C i x j = true) : (∀ k d, C[k]? = some d → k ≠ j → d.1 ≠ i ∧ d.2 ≠ x) ∧ ∀ q ∈ vals, q.1 ≠ i ∧ q.2.1 ≠ x := by
  simp only [okC, Bool.and_eq_true, List.all_eq_true, List.mem_range] at hok
  obtain ⟨o1, o2⟩ := hok
  refine ⟨fun k d hd hk => ?_, fun q hq => ?_⟩
  · have := o2 k (List.getElem?_eq_some_iff.1 hd).1
    rw [hd] at this
    simpa [hk] using this
  · have := o1 (q.1, q.2.1) (List.mem_map.2 ⟨q, hq, rfl⟩)
    simpa using this
theorem flagsOf_set {j : Nat} {c : Nat × Nat} (hc : C[j]? = some c) (hC : ∀ k d, C[k]? = some d → k ≠ j → d.1 ≠ c.1 ∧ d.2 ≠ c.2) : flagsOf C (setL L c.1) = setF (flagsOf C L) j := by
  funext k
  unfold setF
  by_cases e : k = j
  · subst e
    rw [if_pos rfl, flagsOf_at hc, setL_self]
  · rw [if_neg e]
    unfold flagsOf
    cases hd : C[k]? with
    | none => rfl
    | some d => exact setL_ne L (hC k d hd e).1
theorem GF.call (h : GF vals C S L E w) (j : Nat) (c : Nat × Nat) (hc : C[j]? = some c) (hok : okC (slotsOf vals) C c.1 c.2 j = true) (v : Value) (w' : World) (hS : S (setF (flagsOf C L) j) (setR (resOf C E) j v) w') :
    GF vals C S (setL L c.1) (setE E (some c.2) v) w' := by
  obtain ⟨hC, hV⟩ := okC_spec hok
  refine ⟨?_, fun q hq hl => ?_⟩
  · have e : resOf C (setE E (some c.2) v) = setR (resOf C E) j v := by
      funext k
      unfold setR
      by_cases e : k = j
      · subst e
        rw [if_pos rfl]
        unfold resOf
        rw [hc]
        exact setE_self' E v c.2
      · rw [if_neg e]
        unfold resOf
        cases hd : C[k]? with
        | none => rfl
        | some d => exact setE_ne' E v (hC k d hd e).2
    rw [e, flagsOf_set hc hC]; exact hS
  · rw [setL_ne L (hV q hq).1] at hl
    rw [setE_ne' E v (hV q hq).2]; exact h.2 q hq hl
/-- One that answers nothing. -/
theorem GF.store (h : GF vals C S L E w) (j : Nat) (c : Nat × Nat) (hc : C[j]? = some c) (hok : okC (slotsOf vals) C c.1 c.2 j = true) (v : Value) (w' : World) (hS : S (setF (flagsOf C L) j) (resOf C E) w') :
    GF vals C S (setL L c.1) (setE E none v) w' := by
  obtain ⟨hC, hV⟩ := okC_spec hok
  refine ⟨by rw [flagsOf_set hc hC]; exact hS, fun q hq hl => ?_⟩
  rw [setL_ne L (hV q hq).1] at hl
  exact h.2 q hq hl
theorem GF.val (h : GF vals C S L E w) (k i x : Nat) (v : Value) (hk : vals[k]? = some (i, x, v)) (hL : L i = true) : E x = v :=
  h.2 (i, x, v) (List.mem_of_getElem? hk) hL
end
end Go.Proofs.YtgkibkophoikoaaDoor
