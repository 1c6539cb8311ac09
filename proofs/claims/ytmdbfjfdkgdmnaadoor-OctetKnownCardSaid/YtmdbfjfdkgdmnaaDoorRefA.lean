/- The reference's plain, In, Atom, Fold, Same, Quote, Num: the same plain functions. -/
import Derived.Test.YtmdbfjfdkgdmnaaDoorOctNum
import Derived.Test.YtmdbfjfdkgdmnaaDoorOctFold
import Derived.Test.YtmdbfjfdkgdmnaaDoorOctAtom
import Derived.Deep.QuietTactic
import Derived.BigQuiet
namespace Go.Proofs.YtmdbfjfdkgdmnaaDoor
open Go.RowKit

set_option maxHeartbeats 400000 in
theorem rplain_int (c : Int) (w : World) (h : 0 ≤ c) : Calls Tryd.prog 28 #[.int .u8 c] w fun e w' => e = .returned (.bool (c.toNat != 0 && c.toNat != 10 && c.toNat != 13 && decide (c.toNat ≤ 127))) ∧ w = w' := by
  by_cases h0 : c = 0
  · subst h0
    go_enter Tryd.func28, Tryd.ntmps28
    go_wp2
    go_ret
    exact ⟨rfl, rfl⟩
  · go_enter Tryd.func28, Tryd.ntmps28
    go_wp2
    all_goals
      go_ret
      refine ⟨ret_bool ?_, rfl⟩
      rw [Bool.eq_iff_iff]; simp; omega
theorem rplain_any (b : UInt8) (r : Bool) (hr : Oct.plainB b = r) (w : World) : Calls Tryd.prog 28 #[.int .u8 (b.toNat : Int)] w fun e w' => e = .returned (.bool r) ∧ w = w' := by
  subst hr
  exact rplain_int _ w (by omega)

set_option maxHeartbeats 400000 in
theorem rin_any (s : ByteArray) (b : UInt8) (r : Bool) (hr : s.data.toList.contains b = r) (w : World) (hs : s.size ≤ maxLen) : Calls Tryd.prog 29 #[.string s, .int .u8 (b.toNat : Int)] w fun e w' => e = .returned (.bool r) ∧ w = w' := by
  unfold maxLen at hs
  have HR := Lib.hid hr
  clear hr
  have hlen : s.data.toList.length = s.size := rfl
  go_enter Tryd.func29, Tryd.ntmps29
  go_wp2
  go_loop [5] (fun i => ∃ k : Nat, k ≤ s.size ∧ i = .int .i64 k ∧ (s.data.toList.take k).contains b = false) (fun i => s.size - (intOf i).toNat)
  case atStart => exact ⟨0, Nat.zero_le _, rfl, rfl⟩
  case round =>
    obtain ⟨k, hk, rfl, hno⟩ := hrel
    by_cases hlt : k < s.size
    · have hlt' : k < s.data.toList.length := hlt
      by_cases he : s[k] = b
      · have h1 : ((s[k].toNat : Int) == (b.toNat : Int)) = true := by simp [he]
        have hc : s.data.toList.contains b = true := by
          rw [List.contains_iff_mem]; rw [← he]; exact List.getElem_mem hlt'
        obtain rfl : r = true := by rw [← HR.out]; exact hc
        clear hc he hno
        go_wp2
        go_ret
        exact ⟨rfl, rfl⟩
      · have h1 : ((s[k].toNat : Int) == (b.toNat : Int)) = false := by
          rw [beq_eq_false_iff_ne]; intro h; apply he; apply UInt8.toNat_inj.1; omega
        have hn : (s.data.toList.take (k + 1)).contains b = false := by
          rw [Oct.take_snoc _ _ hlt', List.contains_eq_mem, decide_eq_false_iff_not, List.mem_append]
          rw [List.contains_eq_mem, decide_eq_false_iff_not] at hno
          rintro (h | h)
          · exact hno h
          · simp at h; exact he h.symm
        have HN := Lib.hid hn
        clear hn he hno
        go_wp2
        go_round
        case rel => exact ⟨k + 1, by omega, by go_num, HN.out⟩
        case measure => simp [intOf]; omega
    · have e0 : s.data.toList.take k = s.data.toList := List.take_of_length_le (by omega)
      rw [e0] at hno
      obtain rfl : r = false := by rw [← HR.out]; exact hno
      clear hno e0
      go_wp2
      go_ret
      exact ⟨rfl, rfl⟩

set_option maxHeartbeats 800000 in
theorem ratom_any (s : ByteArray) (r : Bool) (hr : Oct.atom s.data.toList = r) (w : World) (hs : s.size ≤ maxLen) : Calls Tryd.prog 20 #[.string s] w fun e w' => e = .returned (.bool r) ∧ w = w' := by
  unfold maxLen at hs
  have HR := Lib.hid hr
  clear hr
  have hlen : s.data.toList.length = s.size := rfl
  go_enter Tryd.func20, Tryd.ntmps20
  go_wp2
  go_loop [3] (fun i => ∃ k : Nat, k ≤ s.size ∧ i = .int .i64 k ∧ (s.data.toList.take k).all Oct.atomB = true) (fun i => s.size - (intOf i).toNat)
  case atStart => exact ⟨0, Nat.zero_le _, rfl, rfl⟩
  case round =>
    obtain ⟨k, hk, rfl, hall⟩ := hrel
    by_cases hlt : k < s.size
    · have hlt' : k < s.data.toList.length := hlt
      have hat : Oct.atomB s[k] = (decide (33 ≤ s[k].toNat) && decide (s[k].toNat ≤ 126) && !(Oct.specials.contains s[k])) := rfl
      have hin : ∀ W : World, Calls Tryd.prog 29 #[.string ⟨#[40, 41, 123, 37, 42, 34, 92, 93]⟩, .int .u8 (s[k].toNat : Int)] W fun e w' => e = .returned (.bool (Oct.specials.contains s[k])) ∧ W = w' := fun W => rin_any ⟨#[40, 41, 123, 37, 42, 34, 92, 93]⟩ s[k] _ rfl W (by decide)
      have hno : Oct.atomB s[k] = false → Oct.atom s.data.toList = false := fun h => by
        have := Oct.all_not Oct.atomB s.data.toList k hlt' h
        unfold Oct.atom; rw [this]; simp
      have hyes : Oct.atomB s[k] = true → (s.data.toList.take (k + 1)).all Oct.atomB = true := fun h => Oct.all_take Oct.atomB _ _ hlt' hall h
      have HI := Lib.hid hin
      have HNO := Lib.hid hno
      have HY := Lib.hid hyes
      clear hin hno hyes hall
      by_cases h33 : (s[k].toNat : Int) < 33
      · have HA : Hid (Oct.atomB s[k] = false) := by
          show _ = _
          rw [hat, decide_eq_false (p := 33 ≤ s[k].toNat) (by omega)]; rfl
        clear hat
        go_wp2
        go_ret
        refine ⟨ret_bool ?_, rfl⟩
        rw [← HR.out, HNO.out HA.out]
      · by_cases h126 : 126 < (s[k].toNat : Int)
        · have HA : Hid (Oct.atomB s[k] = false) := by
            show _ = _
            rw [hat, decide_eq_false (p := s[k].toNat ≤ 126) (by omega)]; simp
          clear hat
          go_wp2
          go_ret
          refine ⟨ret_bool ?_, rfl⟩
          rw [← HR.out, HNO.out HA.out]
        · rw [decide_eq_true (p := 33 ≤ s[k].toNat) (by omega), decide_eq_true (p := s[k].toNat ≤ 126) (by omega)] at hat
          generalize Oct.specials.contains s[k] = q at HI hat
          cases q with
          | true =>
            have HA : Hid (Oct.atomB s[k] = false) := Lib.hid (by rw [hat]; rfl)
            clear hat
            go_wp2_with (go_at_call 29; refine (HI.out _).mono ?_; rintro e w' ⟨rfl, rfl⟩)
            go_ret
            refine ⟨ret_bool ?_, rfl⟩
            rw [← HR.out, HNO.out HA.out]
          | false =>
            have HA : Hid (Oct.atomB s[k] = true) := Lib.hid (by rw [hat]; rfl)
            clear hat
            go_wp2_with (go_at_call 29; refine (HI.out _).mono ?_; rintro e w' ⟨rfl, rfl⟩)
            go_round
            case rel => exact ⟨k + 1, by omega, by go_num, HY.out HA.out⟩
            case measure => simp [intOf]; omega
    · have e0 : s.data.toList.take k = s.data.toList := List.take_of_length_le (by omega)
      rw [e0] at hall
      have hat : Oct.atom s.data.toList = decide (0 < (s.size : Int)) := by
        unfold Oct.atom
        rw [hall, Bool.and_true]
        by_cases hz : s.size = 0
        · have h : s.data.toList = [] := List.eq_nil_of_length_eq_zero hz
          rw [h, hz]; rfl
        · rw [decide_eq_true (by omega)]
          cases h : s.data.toList with
          | nil => rw [h] at hlen; simp at hlen; omega
          | cons a l => rfl
      have HT := Lib.hid hat
      clear hall e0 hat
      go_wp2
      go_ret
      refine ⟨ret_bool ?_, rfl⟩
      rw [← HR.out, HT.out]; simp
end Go.Proofs.YtmdbfjfdkgdmnaaDoor
