/- The reference's Fold, Same, Quote, Num: the walks of package octet's, at the reference's slots. -/
import Derived.Test.YtmdbfjfdkgdmnaaDoorRefA
namespace Go.Proofs.YtmdbfjfdkgdmnaaDoor
open Go.RowKit

set_option maxHeartbeats 800000 in
set_option maxRecDepth 100000 in
theorem rfold_any (s : ByteArray) (w : World) (hs : s.size ≤ maxLen) :
    Calls Tryd.prog 18 #[.string s] w fun e w' => e = .returned (.string ⟨(Oct.fold s.data.toList).toArray⟩) ∧ Below w.heap.size w w' := by
  unfold maxLen at hs
  obtain ⟨cap, w1, hrun, hrow, hbel, hz, _, _⟩ := run_bytes_row (P := Tryd.prog) w 9 30 5 s Tryd.underlying9 Tryd.underlying30 Tryd.underlying5
  have hrow0 : ByteRow w1 w.heap.size 5 (foldTo s.data.toList 0) := by simpa [foldTo, Oct.fold] using hrow
  have HR := Lib.hid hrow0
  clear hrow hrow0
  go_enter Tryd.func18, Tryd.ntmps18
  go_wp2
  go_loopw [4] (fun i wr => ∃ k : Nat, k ≤ s.size ∧ i = .int .i64 k ∧ ByteRow wr w.heap.size 5 (foldTo s.data.toList k) ∧ Below w.heap.size w wr) (fun i _ => s.size - (intOf i).toNat)
  case atStart => exact ⟨0, Nat.zero_le _, rfl, HR.out, hbel⟩
  case round =>
    obtain ⟨k, hk, rfl, hr, hb⟩ := hrel
    clear HR hrun hz
    by_cases hlt : k < s.size
    · have hlt' : k < s.data.toList.length := by simpa using hlt
      have hsk : s.data.toList[k] = s[k] := rfl
      have hc := hr.cell k (by rw [foldTo_length]; exact hlt')
      rw [foldTo_at _ _ hlt', hsk] at hc
      have hf := hr.frozen k (by rw [foldTo_length]; exact hlt')
      by_cases hA : 65 ≤ (s[k].toNat : Int) ∧ (s[k].toNat : Int) ≤ 90
      · obtain ⟨h1, h2⟩ := hA
        go_wp2
        go_roundw
        case rel =>
          refine ⟨k + 1, by omega, by go_num, ?_, hb.setCell (Nat.le_refl _) _⟩
          have hb' : Oct.foldB s[k] = s[k] + 32 := by unfold Oct.foldB; rw [if_pos (by omega)]
          have e : ((s[k] + 32).toNat : Int) = (s[k].toNat : Int) + 32 := by
            rw [UInt8.toNat_add]
            have : (32 : UInt8).toNat = 32 := rfl
            omega
          have h := hr.store k (Oct.foldB s[k])
          rw [show Oct.foldB s[k] = Oct.foldB s.data.toList[k] from by rw [hsk], foldTo_step _ _ hlt', hsk, hb', e] at h
          exact h
        case measure => simp [intOf]; omega
      · have hsame : Oct.foldB s.data.toList[k] = s.data.toList[k] := by rw [hsk]; unfold Oct.foldB; rw [if_neg (by omega)]
        have hnext : ByteRow wr w.heap.size 5 (foldTo s.data.toList (k + 1)) := by rw [← foldTo_skip _ _ hlt' hsame]; exact hr
        by_cases h1 : 65 ≤ (s[k].toNat : Int)
        · have h2 : ¬ (s[k].toNat : Int) ≤ 90 := by omega
          go_wp2
          go_roundw
          case rel => exact ⟨k + 1, by omega, by go_num, hnext, hb⟩
          case measure => simp [intOf]; omega
        · go_wp2
          go_roundw
          case rel => exact ⟨k + 1, by omega, by go_num, hnext, hb⟩
          case measure => simp [intOf]; omega
    · obtain rfl : k = s.size := by omega
      have e : foldTo s.data.toList s.size = Oct.fold s.data.toList := foldTo_all s.data.toList
      rw [e] at hr
      have hlen : (Oct.fold s.data.toList).length = s.size := by rw [Oct.fold_length]; rfl
      have hconv := run_convert_bytes_back (P := Tryd.prog) wr 30 9 5 ⟨w.heap.size, 0, none⟩ cap (Oct.fold s.data.toList) Tryd.underlying30 Tryd.underlying5 Tryd.underlying9 (fun j hj => by
        rw [add_at]; exact hr.cell j hj)
      rw [hlen] at hconv
      clear e hlen hr
      go_wp2
      go_ret
      exact ⟨rfl, hb⟩

set_option maxHeartbeats 800000 in
theorem rsame_any (a b : ByteArray) (w : World) (ha : a.size ≤ maxLen) (hb : b.size ≤ maxLen) :
    Calls Tryd.prog 19 #[.string a, .string b] w (SameEnd a b w) := by
  have Ha := Lib.hid ha
  have Hb := Lib.hid hb
  clear ha hb
  go_enter Tryd.func19, Tryd.ntmps19
  go_wp2_with fail
  refine (rfold_any a _ Ha.out).mono ?_
  rintro e w1 ⟨rfl, hb1⟩
  go_wp2_with fail
  refine (rfold_any b _ Hb.out).mono ?_
  rintro e w2 ⟨rfl, hb2⟩
  go_wp2
  go_ret
  exact ⟨rfl, hb1.trans (hb2.mono hb1.size)⟩

set_option maxHeartbeats 800000 in
theorem rnum_any (s : ByteArray) (w : World) (hs : s.size ≤ maxLen) : Calls Tryd.prog 15 #[.string s] w (NumEnd s w) := by
  unfold maxLen at hs
  have hlen : s.data.toList.length = s.size := rfl
  by_cases h0 : s.size = 0
  · have e1 : s.data.toList = [] := List.eq_nil_of_length_eq_zero h0
    have e2 : s.toList.isEmpty = true := by rw [Go.ByteArray.toList_eq, e1]; rfl
    have e3 : s.toList = [] := by rw [Go.ByteArray.toList_eq, e1]
    unfold NumEnd
    rw [numVal_no _ (numOk_len _ (.inl (by omega)))]
    have hz : decide ((s.size : Int) < 1) = true := by simp; omega
    clear e1 h0 hlen e2 e3
    go_enter Tryd.func15, Tryd.ntmps15
    go_wp2
    go_ret2
    exact ⟨rfl, rfl⟩
  · have e2 : s.toList.isEmpty = false := by
      rw [Go.ByteArray.toList_eq]
      cases h : s.data.toList with
      | nil => rw [h] at hlen; simp at hlen; omega
      | cons a l => rfl
    have hz : decide ((s.size : Int) < 1) = false := by simp; omega
    by_cases h10 : 10 < s.size
    · have hd : decide (10 < (s.size : Int)) = true := by simp; omega
      unfold NumEnd
      rw [numVal_no _ (numOk_len _ (.inr (by omega)))]
      go_enter Tryd.func15, Tryd.ntmps15
      go_wp2
      go_ret2
      exact ⟨rfl, rfl⟩
    · have hd : decide (10 < (s.size : Int)) = false := by simp; omega
      go_enter Tryd.func15, Tryd.ntmps15
      go_wp2
      go_loop [4, 5] (fun n i => ∃ k : Nat, k ≤ s.size ∧ i = .int .i64 k ∧ n = .int .i64 (Oct.numTo (s.data.toList.take k) : Int) ∧ (s.data.toList.take k).all Oct.digB = true) (fun _ i => s.size - (intOf i).toNat)
      case atStart => exact ⟨0, Nat.zero_le _, rfl, rfl, rfl⟩
      case round =>
        obtain ⟨k, hk, rfl, rfl, hall⟩ := hrel
        by_cases hlt : k < s.size
        · have hlt' : k < s.data.toList.length := hlt
          have hbnd := num_bound s.data.toList k (by omega) hlt' hall
          by_cases hb : 48 ≤ (s[k].toNat : Int) ∧ (s[k].toNat : Int) ≤ 57
          · obtain ⟨hb1, hb2⟩ := hb
            have hdig : Oct.digB s.data.toList[k] = true := by
              show Oct.digB s[k] = true
              unfold Oct.digB; rw [decide_eq_true (by omega), decide_eq_true (by omega)]; rfl
            have hnx : Oct.numTo (s.data.toList.take (k + 1)) = 10 * Oct.numTo (s.data.toList.take k) + (s[k].toNat - 48) := by
              rw [Oct.take_snoc _ _ hlt', Oct.numTo_snoc]; rfl
            have hall' := Oct.all_take Oct.digB _ _ hlt' hall hdig
            have HX := Lib.hid hnx
            have HA := Lib.hid hall'
            clear hnx hall' hall hdig
            generalize Oct.numTo (s.data.toList.take k) = x at HX hbnd ⊢
            go_wp2
            go_round
            case rel => exact ⟨k + 1, by omega, by go_num, by rw [HX.out]; congr 1; omega, HA.out⟩
            case measure => simp [intOf]; omega
          · have hno : Oct.numOk s.data.toList = false := by
              apply numOk_dig
              apply Oct.all_not _ _ k hlt'
              show Oct.digB s[k] = false
              unfold Oct.digB
              by_cases h1 : 48 ≤ s[k].toNat
              · rw [decide_eq_false (p := s[k].toNat ≤ 57) (by omega)]; simp
              · rw [decide_eq_false h1]; rfl
            have HV := Lib.hid (numVal_no _ hno)
            clear hno
            by_cases h1 : (s[k].toNat : Int) < 48
            · go_wp2
              go_ret2
              refine ⟨?_, rfl⟩
              rw [HV.out]; rfl
            · have h2 : 57 < (s[k].toNat : Int) := by omega
              go_wp2
              go_ret2
              refine ⟨?_, rfl⟩
              rw [HV.out]; rfl
        · have e0 : s.data.toList.take k = s.data.toList := List.take_of_length_le (by omega)
          rw [e0] at hall ⊢
          have HV := Lib.hid (numVal_yes _ (numOk_yes _ (by omega) (by omega) hall))
          clear hall e0
          go_wp2
          go_ret2
          refine ⟨?_, rfl⟩
          rw [HV.out]; rfl
end Go.Proofs.YtmdbfjfdkgdmnaaDoor
