/- What the chapter's examples come to. -/
import Derived.Test.YtmcglecdidnhlaaDoorSqOf
import Derived.Lib.ItoaMem
namespace Go.Proofs.YtmcglecdidnhlaaDoor.Sq
open Go.Lib
set_option maxRecDepth 100000
set_option linter.unusedSimpArgs false
theorem d_one (n : Nat) (h : n < 10) : num1 (n : Int) = if n = 0 then [42] else [UInt8.ofNat (48 + n)] := by
  unfold num1 itoa
  by_cases h0 : n = 0
  · subst h0; rfl
  · rw [if_neg (by omega), if_neg h0, if_neg (by omega), Int.toNat_natCast, decDigits_one h]
theorem l1 : parse [51, 58, 49] = ([(3, 1)], 0) := by decide +kernel
theorem l2 : has [(3, 1)] 2 9 = true := by decide +kernel
theorem l3 : has [(3, 1)] 4 9 = false := by decide +kernel
theorem n3 : num1 3 = [51] := d_one 3 (by decide)
theorem n1 : num1 1 = [49] := d_one 1 (by decide)
theorem n5 : num1 5 = [53] := d_one 5 (by decide)
theorem n7 : num1 7 = [55] := d_one 7 (by decide)
theorem n9 : num1 9 = [57] := d_one 9 (by decide)
theorem n0 : num1 0 = [42] := rfl
theorem l4 : shown [(3, 1)] = [51, 58, 49] := by
  unfold shown
  rw [if_pos (by decide), joinL_one]
  unfold show1
  simp [n3, n1]
theorem fold_sorted (l m : List Int) (S : List (Int × Int)) (hm : l.filter ok = m) (q : List Int) (hp : m.Perm q) (hq : q.Pairwise (· ≤ ·)) (hS : q.foldl step [] = S) : spans l = S := by
  have e : sorted m = q := by
    refine List.Perm.eq_of_pairwise (le := fun a b : Int => a ≤ b) (fun a b _ _ h1 h2 => Int.le_antisymm h1 h2) (sorted_pair m) hq ?_
    exact (List.mergeSort_perm m _).trans hp
  unfold spans
  rw [hm, e, hS]
theorem l5 : spans [1, 2] = [(1, 2)] := fold_sorted _ [1, 2] _ (by decide) [1, 2] (List.Perm.refl _) (by simp) (by decide)
theorem k1 : parse [] = ([], 3) := by decide +kernel
theorem k2 : parse [48, 49] = ([], 3) := by decide +kernel
theorem k3 : parse [49, 58, 50, 58, 51] = ([], 3) := by decide +kernel
theorem k4 : parse [49, 44] = ([], 3) := by decide +kernel
theorem k5 : parse [52, 50, 57, 52, 57, 54, 55, 50, 57, 54] = ([], 3) := by decide +kernel
def longL : Nat → List UInt8
  | 0 => [49]
  | n + 1 => longL n ++ [44, 49]
theorem k6 : parse (longL 100) = ([], 2) := by decide +kernel
theorem k7 : parse [42, 44, 55, 58, 42] = ([(0, 0), (7, 0)], 0) := by decide +kernel
theorem k8 : shown [(0, 0), (7, 0)] = [42, 44, 55, 58, 42] := by
  unfold shown
  rw [if_pos (by decide), show ([(0, 0), (7, 0)] : List (Int × Int)) = [(0, 0)] ++ [(7, 0)] from rfl, joinL_snoc _ _ (by simp), joinL_one]
  unfold show1
  simp [n0, n7]
theorem k9 : has [(0, 0), (7, 0)] 8 9 = true := by decide +kernel
theorem k10 : has [(0, 0), (7, 0)] 5 5 = true := by decide +kernel
theorem k11 : has [(0, 0), (7, 0)] 6 5 = true := by decide +kernel
theorem k12 : has [(0, 0), (7, 0)] 4 5 = false := by decide +kernel
theorem k13 : pick [(0, 0), (7, 0)] [2, 9, 4, 8] = [9, 8] := by decide +kernel
theorem k14 : pick [(0, 0), (7, 0)] [] = [] := by decide +kernel
theorem k15 : spans [5, 3, 4, 9, 0, 3] = [(3, 5), (9, 9)] := fold_sorted _ [5, 3, 4, 9, 3] _ (by decide) [3, 3, 4, 5, 9] (by decide) (by simp) (by decide)
theorem k16 : shown [(3, 5), (9, 9)] = [51, 58, 53, 44, 57] := by
  unfold shown
  rw [if_pos (by decide), show ([(3, 5), (9, 9)] : List (Int × Int)) = [(3, 5)] ++ [(9, 9)] from rfl, joinL_snoc _ _ (by simp), joinL_one]
  unfold show1
  simp [n3, n5, n9]
theorem k17 : shown [] = [] := rfl
theorem k18 : has [] 1 1 = false := rfl
theorem k19 : has [(0, 0), (7, 0)] 0 0 = false := by decide +kernel
theorem a1 : parse [49, 58, 42] = ([(1, 0)], 0) := by decide +kernel
end Go.Proofs.YtmcglecdidnhlaaDoor.Sq
