/- Cells of pairs. -/
import Derived.WalkKit
namespace Go.Proofs.Ytgpkdnnlgafenaa
open Go.RowKit

/-- Cells of pairs. -/
def flat2 {α : Type} (f g : α → Value) (l : List α) : List Value := l.flatMap fun x => [f x, g x]
section
variable {α : Type} {f g : α → Value}
theorem flat2_length (l : List α) : (flat2 f g l).length = l.length * 2 := by
  unfold flat2
  induction l with
  | nil => rfl
  | cons x l ih => simp [ih]; omega
theorem flat2_fst (l : List α) (i : Nat) (h : i < l.length) : (flat2 f g l)[i * 2]? = some (f l[i]) := by
  unfold flat2
  induction l generalizing i with
  | nil => simp at h
  | cons x l ih =>
    cases i with
    | zero => simp
    | succ i =>
      have e : (i + 1) * 2 = i * 2 + 1 + 1 := by omega
      rw [e]
      simp only [List.flatMap_cons, List.cons_append, List.nil_append, List.getElem?_cons_succ, List.getElem_cons_succ]
      exact ih i (by simpa using h)
theorem flat2_snd (l : List α) (i : Nat) (h : i < l.length) : (flat2 f g l)[i * 2 + 1]? = some (g l[i]) := by
  unfold flat2
  induction l generalizing i with
  | nil => simp at h
  | cons x l ih =>
    cases i with
    | zero => simp
    | succ i =>
      have e : (i + 1) * 2 + 1 = i * 2 + 1 + 1 + 1 := by omega
      rw [e]
      simp only [List.flatMap_cons, List.cons_append, List.nil_append, List.getElem?_cons_succ, List.getElem_cons_succ]
      exact ih i (by simpa using h)
theorem flat2_append (a b : List α) : flat2 f g (a ++ b) = flat2 f g a ++ flat2 f g b := by simp [flat2]
end

end Go.Proofs.Ytgpkdnnlgafenaa
