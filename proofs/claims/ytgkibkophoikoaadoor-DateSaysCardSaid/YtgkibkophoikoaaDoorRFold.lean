/- The reference's Fold, Same: the walks. -/
import Derived.Test.YtgkibkophoikoaaDoorFoldTo
import Derived.Test.YtgkibkophoikoaaDoorRow
import Derived.Test.YtgkibkophoikoaaDoorProg
import Derived.LoopTactic
import Derived.IntWalk
namespace Go.Proofs.YtgkibkophoikoaaDoor
open Go.RowKit

set_option maxHeartbeats 800000 in
set_option maxRecDepth 100000 in
theorem rfold_any (s : ByteArray) (w : World) (hs : s.size ≤ maxLen) :
    Calls Tryd.prog 52 #[.string s] w fun e w' => e = .returned (.string ⟨(Oct.fold s.data.toList).toArray⟩) ∧ Below w.heap.size w w' := by
  unfold maxLen at hs
  obtain ⟨cap, w1, hrun, hrow, hbel, hz, _, _⟩ := run_bytes_row (P := Tryd.prog) w 9 55 5 s Tryd.underlying9 Tryd.underlying55 Tryd.underlying5
  have hrow0 : ByteRow w1 w.heap.size 5 (foldTo s.data.toList 0) := by simpa [foldTo, Oct.fold] using hrow
  have HR := Lib.hid hrow0
  clear hrow hrow0
  go_enter Tryd.func52, Tryd.ntmps52
  go_wp2
  go_loopw [4] (fun i wr => ∃ k : Nat, k ≤ s.size ∧ i = .int .i64 k ∧ ByteRow wr w.heap.size 5 (foldTo s.data.toList k) ∧ Below w.heap.size w wr) (fun i _ => s.size - (intOf i).toNat)
  case atStart => exact ⟨0, Nat.zero_le _, rfl, HR.out, hbel⟩
  case round =>
    obtain ⟨k, hk, rfl, hr, hb⟩ := hrel
    clear HR hrun hz
    by_cases hlt : k < s.size
    · have hlt' : k < s.data.toList.length := by simpa using hlt
      have hsk : s.data.toList[k] = s[k] := rfl
      have hc := hr.cell k (by rw [foldTo_length]; exact hlt')
      rw [foldTo_at _ _ hlt', hsk] at hc
      have hf := hr.frozen k (by rw [foldTo_length]; exact hlt')
      by_cases hA : 65 ≤ (s[k].toNat : Int) ∧ (s[k].toNat : Int) ≤ 90
      · obtain ⟨h1, h2⟩ := hA
        go_wp2
        go_roundw
        case rel =>
          refine ⟨k + 1, by omega, by go_num, ?_, hb.setCell (Nat.le_refl _) _⟩
          have hb' : Oct.foldB s[k] = s[k] + 32 := by unfold Oct.foldB; rw [if_pos (by omega)]
          have e : ((s[k] + 32).toNat : Int) = (s[k].toNat : Int) + 32 := by
            rw [UInt8.toNat_add]
            have : (32 : UInt8).toNat = 32 := rfl
            omega
          have h := hr.store k (Oct.foldB s[k])
          rw [show Oct.foldB s[k] = Oct.foldB s.data.toList[k] from by rw [hsk], foldTo_step _ _ hlt', hsk, hb', e] at h
          exact h
        case measure => simp [intOf]; omega
      · have hsame : Oct.foldB s.data.toList[k] = s.data.toList[k] := by rw [hsk]; unfold Oct.foldB; rw [if_neg (by omega)]
        have hnext : ByteRow wr w.heap.size 5 (foldTo s.data.toList (k + 1)) := by rw [← foldTo_skip _ _ hlt' hsame]; exact hr
        by_cases h1 : 65 ≤ (s[k].toNat : Int)
        · have h2 : ¬ (s[k].toNat : Int) ≤ 90 := by omega
          go_wp2
          go_roundw
          case rel => exact ⟨k + 1, by omega, by go_num, hnext, hb⟩
          case measure => simp [intOf]; omega
        · go_wp2
          go_roundw
          case rel => exact ⟨k + 1, by omega, by go_num, hnext, hb⟩
          case measure => simp [intOf]; omega
    · obtain rfl : k = s.size := by omega
      have e : foldTo s.data.toList s.size = Oct.fold s.data.toList := foldTo_all s.data.toList
      rw [e] at hr
      have hlen : (Oct.fold s.data.toList).length = s.size := by rw [Oct.fold_length]; rfl
      have hconv := run_convert_bytes_back (P := Tryd.prog) wr 55 9 5 ⟨w.heap.size, 0, none⟩ cap (Oct.fold s.data.toList) Tryd.underlying55 Tryd.underlying5 Tryd.underlying9 (fun j hj => by
        rw [add_at]; exact hr.cell j hj)
      rw [hlen] at hconv
      clear e hlen hr
      go_wp2
      go_ret
      exact ⟨rfl, hb⟩

set_option maxHeartbeats 800000 in
theorem rsame_any (a b : ByteArray) (w : World) (ha : a.size ≤ maxLen) (hb : b.size ≤ maxLen) :
    Calls Tryd.prog 41 #[.string a, .string b] w (SameEnd a b w) := by
  have Ha := Lib.hid ha
  have Hb := Lib.hid hb
  clear ha hb
  go_enter Tryd.func41, Tryd.ntmps41
  go_wp2_with fail
  refine (rfold_any a _ Ha.out).mono ?_
  rintro e w1 ⟨rfl, hb1⟩
  go_wp2_with fail
  refine (rfold_any b _ Hb.out).mono ?_
  rintro e w2 ⟨rfl, hb2⟩
  go_wp2
  go_ret
  exact ⟨rfl, hb1.trans (hb2.mono hb1.size)⟩

end Go.Proofs.YtgkibkophoikoaaDoor
