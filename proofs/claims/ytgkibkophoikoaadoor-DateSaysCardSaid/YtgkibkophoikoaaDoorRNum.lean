/- The reference's Num. -/
import Derived.Test.YtgkibkophoikoaaDoorNumPure
import Derived.LoopTactic
import Derived.Test.YtgkibkophoikoaaDoorProg
namespace Go.Proofs.YtgkibkophoikoaaDoor
open Go.RowKit

set_option maxHeartbeats 800000 in
theorem rnum_any (s : ByteArray) (w : World) (hs : s.size ≤ maxLen) : Calls Tryd.prog 38 #[.string s] w (NumEnd s w) := by
  unfold maxLen at hs
  have hlen : s.data.toList.length = s.size := rfl
  by_cases h0 : s.size = 0
  · have e1 : s.data.toList = [] := List.eq_nil_of_length_eq_zero h0
    have e2 : s.toList.isEmpty = true := by rw [Go.ByteArray.toList_eq, e1]; rfl
    have e3 : s.toList = [] := by rw [Go.ByteArray.toList_eq, e1]
    unfold NumEnd
    rw [numVal_no _ (numOk_len _ (.inl (by omega)))]
    have hz : decide ((s.size : Int) < 1) = true := by simp; omega
    clear e1 h0 hlen e2 e3
    go_enter Tryd.func38, Tryd.ntmps38
    go_wp2
    go_ret2
    exact ⟨rfl, rfl⟩
  · have e2 : s.toList.isEmpty = false := by
      rw [Go.ByteArray.toList_eq]
      cases h : s.data.toList with
      | nil => rw [h] at hlen; simp at hlen; omega
      | cons a l => rfl
    have hz : decide ((s.size : Int) < 1) = false := by simp; omega
    by_cases h10 : 10 < s.size
    · have hd : decide (10 < (s.size : Int)) = true := by simp; omega
      unfold NumEnd
      rw [numVal_no _ (numOk_len _ (.inr (by omega)))]
      go_enter Tryd.func38, Tryd.ntmps38
      go_wp2
      go_ret2
      exact ⟨rfl, rfl⟩
    · have hd : decide (10 < (s.size : Int)) = false := by simp; omega
      go_enter Tryd.func38, Tryd.ntmps38
      go_wp2
      go_loop [4, 5] (fun n i => ∃ k : Nat, k ≤ s.size ∧ i = .int .i64 k ∧ n = .int .i64 (Oct.numTo (s.data.toList.take k) : Int) ∧ (s.data.toList.take k).all Oct.digB = true) (fun _ i => s.size - (intOf i).toNat)
      case atStart => exact ⟨0, Nat.zero_le _, rfl, rfl, rfl⟩
      case round =>
        obtain ⟨k, hk, rfl, rfl, hall⟩ := hrel
        by_cases hlt : k < s.size
        · have hlt' : k < s.data.toList.length := hlt
          have hbnd := num_bound s.data.toList k (by omega) hlt' hall
          by_cases hb : 48 ≤ (s[k].toNat : Int) ∧ (s[k].toNat : Int) ≤ 57
          · obtain ⟨hb1, hb2⟩ := hb
            have hdig : Oct.digB s.data.toList[k] = true := by
              show Oct.digB s[k] = true
              unfold Oct.digB; rw [decide_eq_true (by omega), decide_eq_true (by omega)]; rfl
            have hnx : Oct.numTo (s.data.toList.take (k + 1)) = 10 * Oct.numTo (s.data.toList.take k) + (s[k].toNat - 48) := by
              rw [Oct.take_snoc _ _ hlt', Oct.numTo_snoc]; rfl
            have hall' := Oct.all_take Oct.digB _ _ hlt' hall hdig
            have HX := Lib.hid hnx
            have HA := Lib.hid hall'
            clear hnx hall' hall hdig
            generalize Oct.numTo (s.data.toList.take k) = x at HX hbnd ⊢
            go_wp2
            go_round
            case rel => exact ⟨k + 1, by omega, by go_num, by rw [HX.out]; congr 1; omega, HA.out⟩
            case measure => simp [intOf]; omega
          · have hno : Oct.numOk s.data.toList = false := by
              apply numOk_dig
              apply Oct.all_not _ _ k hlt'
              show Oct.digB s[k] = false
              unfold Oct.digB
              by_cases h1 : 48 ≤ s[k].toNat
              · rw [decide_eq_false (p := s[k].toNat ≤ 57) (by omega)]; simp
              · rw [decide_eq_false h1]; rfl
            have HV := Lib.hid (numVal_no _ hno)
            clear hno
            by_cases h1 : (s[k].toNat : Int) < 48
            · go_wp2
              go_ret2
              refine ⟨?_, rfl⟩
              rw [HV.out]; rfl
            · have h2 : 57 < (s[k].toNat : Int) := by omega
              go_wp2
              go_ret2
              refine ⟨?_, rfl⟩
              rw [HV.out]; rfl
        · have e0 : s.data.toList.take k = s.data.toList := List.take_of_length_le (by omega)
          rw [e0] at hall ⊢
          have HV := Lib.hid (numVal_yes _ (numOk_yes _ (by omega) (by omega) hall))
          clear hall e0
          go_wp2
          go_ret2
          refine ⟨?_, rfl⟩
          rw [HV.out]; rfl
end Go.Proofs.YtgkibkophoikoaaDoor
