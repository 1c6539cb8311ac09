/- Num, as a plain function. -/
import Derived.Test.YtgkibkophoikoaaDoorOctPure
import Derived.Test.YtgkibkophoikoaaDoorLib
import Derived.LoopTactic
namespace Go.Proofs.YtgkibkophoikoaaDoor
open Go.RowKit

namespace Oct
def digB (b : UInt8) : Bool := decide (48 ≤ b.toNat) && decide (b.toNat ≤ 57)
def numTo (l : List UInt8) : Nat := l.foldl (fun n b => 10 * n + (b.toNat - 48)) 0
def numOk (l : List UInt8) : Bool := decide (1 ≤ l.length) && decide (l.length ≤ 10) && l.all digB
theorem numTo_snoc (l : List UInt8) (b : UInt8) : numTo (l ++ [b]) = 10 * numTo l + (b.toNat - 48) := by simp [numTo]
theorem numTo_lt : ∀ (n : Nat) (l : List UInt8), l.length = n → l.all digB = true → numTo l < 10 ^ n := by
  intro n
  induction n with
  | zero => intro l hl _; have : l = [] := List.eq_nil_of_length_eq_zero hl; subst this; simp [numTo]
  | succ n ih =>
    intro l hl hd
    have hne : l ≠ [] := by intro h; subst h; simp at hl
    have e := List.dropLast_concat_getLast hne
    have h1 : l.dropLast.all digB = true := by
      rw [← e, List.all_append] at hd; simp at hd; simp; exact hd.1
    have h2 : digB (l.getLast hne) = true := by
      rw [← e, List.all_append] at hd; simp at hd; exact hd.2
    have := ih l.dropLast (by simp [hl]) h1
    rw [← e, numTo_snoc, Nat.pow_succ]
    simp [digB] at h2
    omega
end Oct

def numVal (l : List UInt8) : Value := if Oct.numOk l then .tuple #[.int .i64 (Oct.numTo l : Int), .bool true] else .tuple #[.int .i64 0, .bool false]
theorem numVal_no (l : List UInt8) (h : Oct.numOk l = false) : numVal l = .tuple #[.int .i64 0, .bool false] := by unfold numVal; rw [h]; rfl
theorem numVal_yes (l : List UInt8) (h : Oct.numOk l = true) : numVal l = .tuple #[.int .i64 (Oct.numTo l : Int), .bool true] := by unfold numVal; rw [h]; rfl
theorem numOk_len (l : List UInt8) (h : l.length < 1 ∨ 10 < l.length) : Oct.numOk l = false := by
  unfold Oct.numOk
  rcases h with h | h
  · rw [decide_eq_false (by omega)]; simp
  · rw [decide_eq_false (p := l.length ≤ 10) (by omega)]; simp
theorem numOk_dig (l : List UInt8) (h : l.all Oct.digB = false) : Oct.numOk l = false := by
  unfold Oct.numOk; rw [h]; simp
theorem numOk_yes (l : List UInt8) (h1 : 1 ≤ l.length) (h2 : l.length ≤ 10) (h : l.all Oct.digB = true) : Oct.numOk l = true := by
  unfold Oct.numOk; rw [h, decide_eq_true h1, decide_eq_true h2]; rfl

/-- What a number of fewer than ten digits comes to, and its next digit. -/
theorem num_bound (l : List UInt8) (k : Nat) (hk : k < 10) (h : k < l.length) (hd : (l.take k).all Oct.digB = true) : Oct.numTo (l.take k) ≤ 999999999 := by
  have h1 := Oct.numTo_lt k (l.take k) (by rw [List.length_take]; omega) hd
  have h2 : 10 ^ k ≤ 10 ^ 9 := Nat.pow_le_pow_right (by decide) (by omega)
  have h3 : (10 : Nat) ^ 9 = 1000000000 := by decide
  omega

def NumEnd (s : ByteArray) (w : World) (e : Ending) (w' : World) : Prop := e = .returned (numVal s.data.toList) ∧ w = w'

end Go.Proofs.YtgkibkophoikoaaDoor
