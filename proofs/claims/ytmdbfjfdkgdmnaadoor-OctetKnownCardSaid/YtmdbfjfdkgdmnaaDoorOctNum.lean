/- Num, as a plain function, and the walk of package octet's Num. -/
import Derived.Test.YtmdbfjfdkgdmnaaDoorOctQuote2
namespace Go.Proofs.YtmdbfjfdkgdmnaaDoor
open Go.RowKit

namespace Oct
def digB (b : UInt8) : Bool := decide (48 ≤ b.toNat) && decide (b.toNat ≤ 57)
def numTo (l : List UInt8) : Nat := l.foldl (fun n b => 10 * n + (b.toNat - 48)) 0
def numOk (l : List UInt8) : Bool := decide (1 ≤ l.length) && decide (l.length ≤ 10) && l.all digB
theorem numTo_snoc (l : List UInt8) (b : UInt8) : numTo (l ++ [b]) = 10 * numTo l + (b.toNat - 48) := by simp [numTo]
theorem numTo_lt : ∀ (n : Nat) (l : List UInt8), l.length = n → l.all digB = true → numTo l < 10 ^ n := by
  intro n
  induction n with
  | zero => intro l hl _; have : l = [] := List.eq_nil_of_length_eq_zero hl; subst this; simp [numTo]
  | succ n ih =>
    intro l hl hd
    have hne : l ≠ [] := by intro h; subst h; simp at hl
    have e := List.dropLast_concat_getLast hne
    have h1 : l.dropLast.all digB = true := by
      rw [← e, List.all_append] at hd; simp at hd; simp; exact hd.1
    have h2 : digB (l.getLast hne) = true := by
      rw [← e, List.all_append] at hd; simp at hd; exact hd.2
    have := ih l.dropLast (by simp [hl]) h1
    rw [← e, numTo_snoc, Nat.pow_succ]
    simp [digB] at h2
    omega
end Oct

def numVal (l : List UInt8) : Value := if Oct.numOk l then .tuple #[.int .i64 (Oct.numTo l : Int), .bool true] else .tuple #[.int .i64 0, .bool false]
theorem numVal_no (l : List UInt8) (h : Oct.numOk l = false) : numVal l = .tuple #[.int .i64 0, .bool false] := by unfold numVal; rw [h]; rfl
theorem numVal_yes (l : List UInt8) (h : Oct.numOk l = true) : numVal l = .tuple #[.int .i64 (Oct.numTo l : Int), .bool true] := by unfold numVal; rw [h]; rfl
theorem numOk_len (l : List UInt8) (h : l.length < 1 ∨ 10 < l.length) : Oct.numOk l = false := by
  unfold Oct.numOk
  rcases h with h | h
  · rw [decide_eq_false (by omega)]; simp
  · rw [decide_eq_false (p := l.length ≤ 10) (by omega)]; simp
theorem numOk_dig (l : List UInt8) (h : l.all Oct.digB = false) : Oct.numOk l = false := by
  unfold Oct.numOk; rw [h]; simp
theorem numOk_yes (l : List UInt8) (h1 : 1 ≤ l.length) (h2 : l.length ≤ 10) (h : l.all Oct.digB = true) : Oct.numOk l = true := by
  unfold Oct.numOk; rw [h, decide_eq_true h1, decide_eq_true h2]; rfl

/-- What a number of fewer than ten digits comes to, and its next digit. -/
theorem num_bound (l : List UInt8) (k : Nat) (hk : k < 10) (h : k < l.length) (hd : (l.take k).all Oct.digB = true) : Oct.numTo (l.take k) ≤ 999999999 := by
  have h1 := Oct.numTo_lt k (l.take k) (by rw [List.length_take]; omega) hd
  have h2 : 10 ^ k ≤ 10 ^ 9 := Nat.pow_le_pow_right (by decide) (by omega)
  have h3 : (10 : Nat) ^ 9 = 1000000000 := by decide
  omega

def NumEnd (s : ByteArray) (w : World) (e : Ending) (w' : World) : Prop := e = .returned (numVal s.data.toList) ∧ w = w'

set_option maxHeartbeats 800000 in
theorem num_any (s : ByteArray) (w : World) (hs : s.size ≤ maxLen) : Calls Tryd.prog 9 #[.string s] w (NumEnd s w) := by
  unfold maxLen at hs
  have hlen : s.data.toList.length = s.size := rfl
  by_cases h0 : s.size = 0
  · have e1 : s.data.toList = [] := List.eq_nil_of_length_eq_zero h0
    have e2 : s.toList.isEmpty = true := by rw [Go.ByteArray.toList_eq, e1]; rfl
    have e3 : s.toList = [] := by rw [Go.ByteArray.toList_eq, e1]
    unfold NumEnd
    rw [numVal_no _ (numOk_len _ (.inl (by omega)))]
    clear e1 h0 hlen
    go_enter Tryd.func9, Tryd.ntmps9
    go_wp2
    go_ret2
    exact ⟨rfl, rfl⟩
  · have e2 : s.toList.isEmpty = false := by
      rw [Go.ByteArray.toList_eq]
      cases h : s.data.toList with
      | nil => rw [h] at hlen; simp at hlen; omega
      | cons a l => rfl
    by_cases h10 : 10 < s.size
    · have hd : decide (10 < (s.size : Int)) = true := by simp; omega
      unfold NumEnd
      rw [numVal_no _ (numOk_len _ (.inr (by omega)))]
      go_enter Tryd.func9, Tryd.ntmps9
      go_wp2
      go_ret2
      exact ⟨rfl, rfl⟩
    · have hd : decide (10 < (s.size : Int)) = false := by simp; omega
      go_enter Tryd.func9, Tryd.ntmps9
      go_wp2
      go_loop [4, 15] (fun n i => ∃ k : Nat, k ≤ s.size ∧ i = .int .i64 k ∧ n = .int .i64 (Oct.numTo (s.data.toList.take k) : Int) ∧ (s.data.toList.take k).all Oct.digB = true) (fun _ i => s.size - (intOf i).toNat)
      case atStart => exact ⟨0, Nat.zero_le _, rfl, rfl, rfl⟩
      case round =>
        obtain ⟨k, hk, rfl, rfl, hall⟩ := hrel
        by_cases hlt : k < s.size
        · have hlt' : k < s.data.toList.length := hlt
          have hbnd := num_bound s.data.toList k (by omega) hlt' hall
          by_cases hb : 48 ≤ (s[k].toNat : Int) ∧ (s[k].toNat : Int) ≤ 57
          · obtain ⟨hb1, hb2⟩ := hb
            have hdig : Oct.digB s.data.toList[k] = true := by
              show Oct.digB s[k] = true
              unfold Oct.digB; rw [decide_eq_true (by omega), decide_eq_true (by omega)]; rfl
            have hnx : Oct.numTo (s.data.toList.take (k + 1)) = 10 * Oct.numTo (s.data.toList.take k) + (s[k].toNat - 48) := by
              rw [Oct.take_snoc _ _ hlt', Oct.numTo_snoc]; rfl
            have hall' := Oct.all_take Oct.digB _ _ hlt' hall hdig
            have HX := Lib.hid hnx
            have HA := Lib.hid hall'
            clear hnx hall' hall hdig
            generalize Oct.numTo (s.data.toList.take k) = x at HX hbnd ⊢
            go_wp2
            go_round
            case rel => exact ⟨k + 1, by omega, by go_num, by rw [HX.out]; congr 1; omega, HA.out⟩
            case measure => simp [intOf]; omega
          · have hno : Oct.numOk s.data.toList = false := by
              apply numOk_dig
              apply Oct.all_not _ _ k hlt'
              show Oct.digB s[k] = false
              unfold Oct.digB
              by_cases h1 : 48 ≤ s[k].toNat
              · rw [decide_eq_false (p := s[k].toNat ≤ 57) (by omega)]; simp
              · rw [decide_eq_false h1]; rfl
            have HV := Lib.hid (numVal_no _ hno)
            clear hno
            by_cases h1 : (s[k].toNat : Int) < 48
            · go_wp2
              go_ret2
              refine ⟨?_, rfl⟩
              rw [HV.out]; rfl
            · have h2 : 57 < (s[k].toNat : Int) := by omega
              go_wp2
              go_ret2
              refine ⟨?_, rfl⟩
              rw [HV.out]; rfl
        · have e0 : s.data.toList.take k = s.data.toList := List.take_of_length_le (by omega)
          rw [e0] at hall ⊢
          have HV := Lib.hid (numVal_yes _ (numOk_yes _ (by omega) (by omega) hall))
          clear hall e0
          go_wp2
          go_ret2
          refine ⟨?_, rfl⟩
          rw [HV.out]; rfl
end Go.Proofs.YtmdbfjfdkgdmnaaDoor
