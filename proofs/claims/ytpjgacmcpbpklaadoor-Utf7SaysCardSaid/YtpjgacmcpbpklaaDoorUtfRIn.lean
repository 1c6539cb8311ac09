/- The reference's Fold and inbox. -/
import Derived.Test.YtpjgacmcpbpklaaDoorUtfRU
import Derived.Test.YtpjgacmcpbpklaaDoorUtfPure2
import Derived.Test.YtpjgacmcpbpklaaDoorRow
namespace Go.Proofs.YtpjgacmcpbpklaaDoor
open Go.RowKit
set_option linter.unusedVariables false

def foldL (l : List UInt8) : List UInt8 := l.map U7.foldB
theorem foldL_length (l : List UInt8) : (foldL l).length = l.length := by simp [foldL]
def foldTo (l : List UInt8) (k : Nat) : List UInt8 := foldL (l.take k) ++ l.drop k
theorem foldTo_length (l : List UInt8) (k : Nat) : (foldTo l k).length = l.length := by simp [foldTo, foldL]; omega
theorem foldTo_at (l : List UInt8) (k : Nat) (h : k < l.length) : (foldTo l k)[k]'(by rw [foldTo_length]; exact h) = l[k] := by
  simp [foldTo, foldL, List.getElem_append]
  have : min k l.length = k := by omega
  simp [this]
theorem foldL_snoc (l : List UInt8) (b : UInt8) : foldL (l ++ [b]) = foldL l ++ [U7.foldB b] := by
  simp only [foldL, List.map_append, List.map_cons, List.map_nil]
theorem foldTo_next (l : List UInt8) (k : Nat) (h : k < l.length) : foldTo l (k + 1) = foldL (l.take k) ++ U7.foldB l[k] :: l.drop (k + 1) := by
  unfold foldTo
  rw [List.take_succ_eq_append_getElem h, foldL_snoc, List.append_assoc]; rfl
theorem foldTo_step (l : List UInt8) (k : Nat) (h : k < l.length) : (foldTo l k).set k (U7.foldB l[k]) = foldTo l (k + 1) := by
  rw [foldTo_next l k h]
  unfold foldTo
  have h1 : (foldL (l.take k)).length = k := by rw [foldL_length, List.length_take]; omega
  rw [List.set_append_right _ _ (by omega), h1, Nat.sub_self, List.drop_eq_getElem_cons h, List.set_cons_zero]
theorem foldTo_skip (l : List UInt8) (k : Nat) (h : k < l.length) (he : U7.foldB l[k] = l[k]) : foldTo l k = foldTo l (k + 1) := by
  rw [foldTo_next l k h, he, ← List.drop_eq_getElem_cons h]; rfl
theorem foldTo_all (l : List UInt8) : foldTo l l.length = foldL l := by simp [foldTo]

set_option maxHeartbeats 800000 in
set_option maxRecDepth 100000 in
theorem rfold_any (s : ByteArray) (w : World) (hs : s.size ≤ 1000000000) :
    Calls Tryd.prog 41 #[.string s] w fun e w' => e = .returned (.string ⟨(foldL s.data.toList).toArray⟩) ∧ Below w.heap.size w w' := by
  obtain ⟨cap, w1, hrun, hrow, hbel, hz, _, _⟩ := run_bytes_row (P := Tryd.prog) w 9 30 5 s Tryd.underlying9 Tryd.underlying30 Tryd.underlying5
  have hrow0 : ByteRow w1 w.heap.size 5 (foldTo s.data.toList 0) := by simpa [foldTo, foldL] using hrow
  have HR := Lib.hid hrow0
  clear hrow hrow0
  go_enter Tryd.func41, Tryd.ntmps41
  go_wp2
  go_loopw [4] (fun i wr => ∃ k : Nat, k ≤ s.size ∧ i = .int .i64 k ∧ ByteRow wr w.heap.size 5 (foldTo s.data.toList k) ∧ Below w.heap.size w wr) (fun i _ => s.size - (intOf i).toNat)
  case atStart => exact ⟨0, Nat.zero_le _, rfl, HR.out, hbel⟩
  case round =>
    obtain ⟨k, hk, rfl, hr, hb⟩ := hrel
    clear HR hrun hz
    by_cases hlt : k < s.size
    · have hlt' : k < s.data.toList.length := by simpa using hlt
      have hsk : s.data.toList[k] = s[k] := rfl
      have hc := hr.cell k (by rw [foldTo_length]; exact hlt')
      rw [foldTo_at _ _ hlt', hsk] at hc
      have hf := hr.frozen k (by rw [foldTo_length]; exact hlt')
      by_cases hA : 65 ≤ (s[k].toNat : Int) ∧ (s[k].toNat : Int) ≤ 90
      · obtain ⟨h1, h2⟩ := hA
        go_wp2
        go_roundw
        case rel =>
          refine ⟨k + 1, by omega, by go_num, ?_, hb.setCell (Nat.le_refl _) _⟩
          have hb' : U7.foldB s[k] = s[k] + 32 := by unfold U7.foldB; rw [if_pos (by omega)]
          have e : ((s[k] + 32).toNat : Int) = (s[k].toNat : Int) + 32 := by
            rw [UInt8.toNat_add]
            have : (32 : UInt8).toNat = 32 := rfl
            omega
          have h := hr.store k (U7.foldB s[k])
          rw [show U7.foldB s[k] = U7.foldB s.data.toList[k] from by rw [hsk], foldTo_step _ _ hlt', hsk, hb', e] at h
          exact h
        case measure => simp [intOf]; omega
      · have hsame : U7.foldB s.data.toList[k] = s.data.toList[k] := by rw [hsk]; unfold U7.foldB; rw [if_neg (by omega)]
        have hnext : ByteRow wr w.heap.size 5 (foldTo s.data.toList (k + 1)) := by rw [← foldTo_skip _ _ hlt' hsame]; exact hr
        by_cases h1 : 65 ≤ (s[k].toNat : Int)
        · have h2 : ¬ (s[k].toNat : Int) ≤ 90 := by omega
          go_wp2
          go_roundw
          case rel => exact ⟨k + 1, by omega, by go_num, hnext, hb⟩
          case measure => simp [intOf]; omega
        · go_wp2
          go_roundw
          case rel => exact ⟨k + 1, by omega, by go_num, hnext, hb⟩
          case measure => simp [intOf]; omega
    · obtain rfl : k = s.size := by omega
      have e : foldTo s.data.toList s.size = foldL s.data.toList := foldTo_all s.data.toList
      rw [e] at hr
      have hlen : (foldL s.data.toList).length = s.size := by rw [foldL_length]; rfl
      have hconv := run_convert_bytes_back (P := Tryd.prog) wr 30 9 5 ⟨w.heap.size, 0, none⟩ cap (foldL s.data.toList) Tryd.underlying30 Tryd.underlying5 Tryd.underlying9 (fun j hj => by
        rw [add_at]; exact hr.cell j hj)
      rw [hlen] at hconv
      clear e hlen hr
      go_wp2
      go_ret
      exact ⟨rfl, hb⟩

set_option maxHeartbeats 800000 in
theorem rinbox_any (s : ByteArray) (w : World) (hs : s.size ≤ 1000000000) : ∃ t : ByteArray, Hid (t.data.toList = U7.inbox s.data.toList) ∧ t.size ≤ s.size + 5 ∧
    Calls Tryd.prog 32 #[.string s] w fun e w' => e = .returned (.string t) ∧ Below w.heap.size w w' := by
  obtain ⟨f, Hf⟩ : ∃ f : ByteArray, Hid (f = ⟨(foldL s.data.toList).toArray⟩) := ⟨_, Lib.hid rfl⟩
  have hc := rfold_any s w hs
  rw [← Hf.out] at hc
  have HC := Lib.hid hc
  have hfd : f.data.toList = foldL s.data.toList := by rw [Hf.out]
  clear hc
  cases hi : U7.isInbox s.data.toList with
  | true =>
    have k0 : (f.toList == [105, 110, 98, 111, 120]) = true := by rw [Go.ByteArray.toList_eq, hfd]; exact hi
    refine ⟨⟨#[73, 78, 66, 79, 88]⟩, Lib.hid (by unfold U7.inbox; rw [if_pos hi]; rfl), (by show 5 ≤ _; omega), ?_⟩
    clear hi hfd
    go_enter Tryd.func32, Tryd.ntmps32
    go_wp2_with fail
    refine HC.out.mono ?_
    rintro e w1 ⟨rfl, hb⟩
    go_wp2
    go_ret
    exact ⟨rfl, hb⟩
  | false =>
    have k0 : (f.toList == [105, 110, 98, 111, 120]) = false := by rw [Go.ByteArray.toList_eq, hfd]; exact hi
    refine ⟨s, Lib.hid (by unfold U7.inbox; rw [if_neg (by rw [hi]; decide)]), by omega, ?_⟩
    clear hi hfd
    go_enter Tryd.func32, Tryd.ntmps32
    go_wp2_with fail
    refine HC.out.mono ?_
    rintro e w1 ⟨rfl, hb⟩
    go_wp2
    go_ret
    exact ⟨rfl, hb⟩
end Go.Proofs.YtpjgacmcpbpklaaDoor
