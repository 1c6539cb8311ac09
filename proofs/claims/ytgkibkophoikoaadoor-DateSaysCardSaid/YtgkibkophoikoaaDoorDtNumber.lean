/- date's number: the walk. -/
import Derived.Test.YtgkibkophoikoaaDoorDtDay
import Derived.Test.YtgkibkophoikoaaDoorRow
import Derived.Test.YtgkibkophoikoaaDoorProg
import Derived.LoopTactic
import Derived.IntWalk
namespace Go.Proofs.YtgkibkophoikoaaDoor
open Go.RowKit
set_option linter.unusedVariables false
set_option maxRecDepth 100000

theorem four_num (l : List UInt8) (k : Nat) (h4 : l.length ≤ 4) (h : k < l.length) (hd : (l.take k).all Oct.digB = true) : Oct.numTo (l.take k) ≤ 9999 := by
  have h1 := Oct.numTo_lt k (l.take k) (by rw [List.length_take]; omega) hd
  have h2 : 10 ^ k ≤ 10 ^ 4 := Nat.pow_le_pow_right (by decide) (by omega)
  have h3 : (10 : Nat) ^ 4 = 10000 := by decide
  omega

set_option maxHeartbeats 1600000 in
theorem number_any (s : ByteArray) (hs : s.size ≤ 4) (r : Int) (hr : r = Dt.number s.data.toList) (w : World) : Calls Tryd.prog 23 #[.string s] w fun e w' => e = .returned (.int .i64 r) ∧ w = w' := by
  have HR := Lib.hid hr
  clear hr
  have hlen : s.data.toList.length = s.size := rfl
  go_enter Tryd.func23, Tryd.ntmps23
  go_wp2
  go_loop [3, 8] (fun n i => ∃ k : Nat, k ≤ s.size ∧ i = .int .i64 k ∧ n = .int .i64 (Oct.numTo (s.data.toList.take k) : Int) ∧ (s.data.toList.take k).all Oct.digB = true) (fun _ i => s.size - (intOf i).toNat)
  case atStart => exact ⟨0, Nat.zero_le _, rfl, rfl, rfl⟩
  case round =>
    obtain ⟨k, hk, rfl, rfl, hall⟩ := hrel
    by_cases hlt : k < s.size
    · have hlt' : k < s.data.toList.length := hlt
      have hbnd := four_num s.data.toList k (by omega) hlt' hall
      by_cases hb : 48 ≤ (s[k].toNat : Int) ∧ (s[k].toNat : Int) ≤ 57
      · obtain ⟨hb1, hb2⟩ := hb
        have hdig : Oct.digB s.data.toList[k] = true := by
          show Oct.digB s[k] = true
          unfold Oct.digB; rw [decide_eq_true (by omega), decide_eq_true (by omega)]; rfl
        have hnx : Oct.numTo (s.data.toList.take (k + 1)) = 10 * Oct.numTo (s.data.toList.take k) + (s[k].toNat - 48) := by
          rw [Oct.take_snoc _ _ hlt', Oct.numTo_snoc]; rfl
        have hall' := Oct.all_take Oct.digB _ _ hlt' hall hdig
        have HX := Lib.hid hnx
        have HA := Lib.hid hall'
        clear hnx hall' hall hdig
        generalize Oct.numTo (s.data.toList.take k) = x at HX hbnd ⊢
        go_wp2
        go_round
        case rel => exact ⟨k + 1, by omega, by go_num, by rw [HX.out]; congr 1; omega, HA.out⟩
        case measure => simp [intOf]; omega
      · have hno : s.data.toList.all Oct.digB = false := by
          apply Oct.all_not _ _ k hlt'
          show Oct.digB s[k] = false
          unfold Oct.digB
          by_cases h1 : 48 ≤ s[k].toNat
          · rw [decide_eq_false (p := s[k].toNat ≤ 57) (by omega)]; simp
          · rw [decide_eq_false h1]; rfl
        have HV := Lib.hid (Dt.number_no hno)
        clear hno
        by_cases h1 : (s[k].toNat : Int) < 48
        · go_wp2
          go_ret
          exact ⟨by rw [HR.out, HV.out]; rfl, rfl⟩
        · have h2 : 57 < (s[k].toNat : Int) := by omega
          go_wp2
          go_ret
          exact ⟨by rw [HR.out, HV.out]; rfl, rfl⟩
    · have e0 : s.data.toList.take k = s.data.toList := List.take_of_length_le (by omega)
      rw [e0] at hall ⊢
      have HV := Lib.hid (Dt.number_yes hall)
      clear hall e0
      go_wp2
      go_ret
      exact ⟨by rw [HR.out, HV.out]; rfl, rfl⟩
end Go.Proofs.YtgkibkophoikoaaDoor
