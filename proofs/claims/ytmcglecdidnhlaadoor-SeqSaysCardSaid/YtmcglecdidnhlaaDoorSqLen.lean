/- How long a shown set is; sets that Of makes: in order, apart. -/
import Derived.Test.YtmcglecdidnhlaaDoorSqShow
import Derived.Test.YtmcglecdidnhlaaDoorSqOf
namespace Go.Proofs.YtmcglecdidnhlaaDoor
open Go.RowKit
set_option linter.unusedVariables false

theorem show1_len (s : Int × Int) (h : Sq.good1 s = true) : (Sq.show1 s).length ≤ 43 := by
  obtain ⟨h1, h2, h3, h4⟩ := (Sq.good1_iff s).1 h
  have e1 := num1_len s.1 h1 h3
  have e2 := num1_len s.2 h2 h4
  unfold Sq.show1
  rw [List.length_append]
  split
  · simp; omega
  · simp; omega
theorem tailJ_len : ∀ L : List (Int × Int), (∀ s ∈ L, Sq.good1 s = true) → (Sq.tailJ L).length ≤ 44 * L.length
  | [], _ => by simp [Sq.tailJ]
  | s :: L, h => by
    rw [Sq.tailJ_cons]
    have h1 := show1_len s (h s (by simp))
    have h2 := tailJ_len L (fun x hx => h x (List.mem_cons_of_mem _ hx))
    simp only [List.length_cons, List.length_append]
    omega
theorem shown_len (L : List (Int × Int)) : (Sq.shown L).length ≤ 4400 := by
  unfold Sq.shown
  split
  · rename_i h
    obtain ⟨h1, h2, h3⟩ := Sq.valid_parts L h
    have := tailJ_len L h3
    unfold Sq.joinL
    simp only [List.length_drop]
    omega
  · simp
theorem spans_each (l : List Int) (k : Nat) (h : k < (Sq.spans l).length) : 1 ≤ (Sq.spans l)[k].1 ∧ (Sq.spans l)[k].1 ≤ (Sq.spans l)[k].2 ∧ (Sq.spans l)[k].2 ≤ 4294967295 := (Sq.spans_good l).each _ (List.getElem_mem h)
theorem spans_gap (l : List Int) (k : Nat) (h : k + 1 < (Sq.spans l).length) : (Sq.spans l)[k].2 + 1 < (Sq.spans l)[k + 1].1 := List.pairwise_iff_getElem.1 (Sq.spans_good l).gaps k (k + 1) (by omega) h (by omega)
theorem take_mem (l : List Int) (n : Int) (k : Nat) (h : k < l.length) : decide (n ∈ l.take (k + 1)) = (decide (n ∈ l.take k) || (l[k] == n)) := by
  rw [List.take_succ_eq_append_getElem h]
  have e : (n ∈ l.take k ++ [l[k]]) ↔ (n ∈ l.take k ∨ l[k] = n) := by rw [List.mem_append, List.mem_singleton]; exact ⟨Or.imp_right Eq.symm, Or.imp_right Eq.symm⟩
  rw [decide_eq_decide.2 e, Bool.decide_or]
  rfl
end Go.Proofs.YtmcglecdidnhlaaDoor
