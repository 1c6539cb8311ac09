/- Fold under way, as a list; what Same hands back. -/
import Derived.Test.YtgkibkophoikoaaDoorOctPure
import Derived.Test.YtgkibkophoikoaaDoorLib
namespace Go.Proofs.YtgkibkophoikoaaDoor
open Go.RowKit

def foldTo (l : List UInt8) (k : Nat) : List UInt8 := Oct.fold (l.take k) ++ l.drop k
theorem foldTo_length (l : List UInt8) (k : Nat) : (foldTo l k).length = l.length := by simp [foldTo, Oct.fold]; omega
theorem foldTo_at (l : List UInt8) (k : Nat) (h : k < l.length) : (foldTo l k)[k]'(by rw [foldTo_length]; exact h) = l[k] := by
  simp [foldTo, Oct.fold, List.getElem_append]
  have : min k l.length = k := by omega
  simp [this]
theorem fold_snoc (l : List UInt8) (b : UInt8) : Oct.fold (l ++ [b]) = Oct.fold l ++ [Oct.foldB b] := by
  simp only [Oct.fold, List.map_append, List.map_cons, List.map_nil]
theorem foldTo_next (l : List UInt8) (k : Nat) (h : k < l.length) : foldTo l (k + 1) = Oct.fold (l.take k) ++ Oct.foldB l[k] :: l.drop (k + 1) := by
  unfold foldTo
  rw [Oct.take_snoc l k h, fold_snoc, List.append_assoc]; rfl
theorem foldTo_step (l : List UInt8) (k : Nat) (h : k < l.length) : (foldTo l k).set k (Oct.foldB l[k]) = foldTo l (k + 1) := by
  rw [foldTo_next l k h]
  unfold foldTo
  have h1 : (Oct.fold (l.take k)).length = k := by rw [Oct.fold_length, List.length_take]; omega
  rw [List.set_append_right _ _ (by omega), h1, Nat.sub_self, List.drop_eq_getElem_cons h, List.set_cons_zero]
theorem foldTo_skip (l : List UInt8) (k : Nat) (h : k < l.length) (he : Oct.foldB l[k] = l[k]) : foldTo l k = foldTo l (k + 1) := by
  rw [foldTo_next l k h, he, ← List.drop_eq_getElem_cons h]; rfl
theorem foldTo_all (l : List UInt8) : foldTo l l.length = Oct.fold l := by simp [foldTo]

def SameEnd (a b : ByteArray) (w : World) (e : Ending) (w' : World) : Prop :=
  e = .returned (.bool (Oct.fold a.data.toList == Oct.fold b.data.toList)) ∧ Below w.heap.size w w'

end Go.Proofs.YtgkibkophoikoaaDoor
