/- The walk of OctetAtoms. -/
import Derived.Test.YtmdbfjfdkgdmnaaOctAwake
import Derived.WalkSpells
namespace Go.Proofs.Ytmdbfjfdkgdmnaa
open Go.RowKit

theorem atom_eq (l : List UInt8) (h : l ≠ []) : Oct.atom l = l.all Oct.atomB := by
  unfold Oct.atom
  cases l with
  | nil => exact absurd rfl h
  | cons a l => simp

theorem extract_one (s : ByteArray) (k : Nat) (h : k < s.size) : (s.extract k (k + 1)).data.toList = [s[k]] := by
  have h' : k < s.data.toList.length := h
  have e : (s.extract k (k + 1)).data.toList = (s.data.toList.drop k).take 1 := by
    rw [ByteArray.data_extract, Array.toList_extract, List.extract_eq_take_drop]
    simp
  rw [e, List.drop_eq_getElem_cons h']; rfl

set_option maxHeartbeats 800000 in
set_option maxRecDepth 100000 in
theorem octetAtoms_walk (s : ByteArray) (hs : s.size ≤ maxLen) (w : World) :
    Calls Try.prog 4 #[.string s] w fun e w' => e = .returned (.bool true) ∧ Below w.heap.size w w' := by
  have hlen : s.data.toList.length = s.size := rfl
  unfold maxLen at hs
  by_cases hbig : 200 < (s.size : Int)
  · go_enter Try.func4, Try.ntmps4
    go_wp2_with (go_at_call 6; refine (awake_any _).mono ?_; rintro e w1 ⟨rfl, hb1⟩)
    go_ret
    exact ⟨rfl, hb1⟩
  · by_cases hz : (s.size : Int) < 1
    · go_enter Try.func4, Try.ntmps4
      go_wp2_with (go_at_call 6; refine (awake_any _).mono ?_; rintro e w1 ⟨rfl, hb1⟩)
      go_ret
      exact ⟨rfl, hb1⟩
    · have hne : s.data.toList ≠ [] := by intro h; rw [h] at hlen; simp at hlen; omega
      go_enter Try.func4, Try.ntmps4
      go_wp2_with (go_at_call 6; refine (awake_any _).mono ?_; rintro e w1 ⟨rfl, hb1⟩)
      go_loop [3, 4] (fun a i => ∃ k : Nat, k ≤ s.size ∧ i = .int .i64 k ∧ a = .bool ((s.data.toList.take k).all Oct.atomB)) (fun _ i => s.size - (intOf i).toNat)
      case atStart => exact ⟨0, Nat.zero_le _, rfl, rfl⟩
      case round =>
        obtain ⟨k, hk, rfl, rfl⟩ := hrel
        by_cases hlt : k < s.size
        · have hlt' : k < s.data.toList.length := hlt
          have hx := extract_one s k hlt
          have hnext : (s.data.toList.take (k + 1)).all Oct.atomB = ((s.data.toList.take k).all Oct.atomB && Oct.atomB s[k]) := by
            rw [Oct.take_snoc _ _ hlt', List.all_append]
            show _ = ((s.data.toList.take k).all Oct.atomB && Oct.atomB s.data.toList[k])
            simp
          have hat : Oct.atom (s.extract k (k + 1)).data.toList = Oct.atomB s[k] := by rw [hx, atom_eq _ (by simp)]; simp
          have HN := Lib.hid hnext
          have HA := Lib.hid hat
          clear hnext hat hx
          generalize hall : (s.data.toList.take k).all Oct.atomB = b at HN ⊢
          clear hall
          cases b with
          | false =>
            go_wp2
            go_round
            case rel => exact ⟨k + 1, by omega, by go_num, by rw [HN.out]; rfl⟩
            case measure => simp [intOf]; omega
          | true =>
            go_wp2_with fail
            refine (atom_any (s.extract k (k + 1)) _ HA.out _ (by simp only [ByteArray.size_extract]; unfold maxLen; omega)).mono ?_
            rintro e w2 ⟨rfl, rfl⟩
            go_wp2
            go_round
            case rel => exact ⟨k + 1, by omega, by go_num, by rw [HN.out]; rfl⟩
            case measure => simp [intOf]; omega
        · have e0 : s.data.toList.take k = s.data.toList := List.take_of_length_le (by omega)
          rw [e0]
          have hat := atom_eq s.data.toList hne
          generalize hall : s.data.toList.all Oct.atomB = b at hat ⊢
          have HA := Lib.hid hat
          have HL := Lib.hid hall
          clear hat hall e0 hne
          cases b with
          | false =>
            go_wp2_with fail
            refine (atom_any s false HA.out _ (by unfold maxLen; omega)).mono ?_
            rintro e w2 ⟨rfl, rfl⟩
            go_wp2_with fail
            cases hq : Oct.quotable s.data.toList with
            | false =>
              have HQ := Lib.hid hq
              clear hq
              refine (quote_no s _ (by unfold maxLen; omega) HQ.out).mono ?_
              rintro e w3 ⟨rfl, hb3⟩
              go_wp2
              go_ret
              exact ⟨rfl, hb1.trans (hb3.mono hb1.size)⟩
            | true =>
              have HQ := Lib.hid hq
              clear hq
              refine (quote_ok s _ _ (by omega) HQ.out rfl).mono ?_
              rintro e w3 ⟨rfl, hb3⟩
              go_wp2
              go_ret
              exact ⟨rfl, hb1.trans (hb3.mono hb1.size)⟩
          | true =>
            have hq : Oct.quotable s.data.toList = true := by
              unfold Oct.quotable
              rw [(Oct.body_atoms _ HL.out).2]; simp; omega
            have hv : (⟨(Oct.quoted s.data.toList).toArray⟩ : ByteArray) = ⟨#[34]⟩ ++ s ++ ⟨#[34]⟩ := by
              apply ByteArray.ext
              apply Array.toList_inj.1
              unfold Oct.quoted
              rw [(Oct.body_atoms _ HL.out).1]
              simp [ByteArray.data_append]
            have HQ := Lib.hid hq
            have HV := Lib.hid hv
            clear hq hv
            go_wp2_with fail
            refine (atom_any s true HA.out _ (by unfold maxLen; omega)).mono ?_
            rintro e w2 ⟨rfl, rfl⟩
            go_wp2_with fail
            refine (quote_ok s (⟨#[34]⟩ ++ s ++ ⟨#[34]⟩) _ (by omega) HQ.out HV.out.symm).mono ?_
            rintro e w3 ⟨rfl, hb3⟩
            go_wp2
            go_ret
            exact ⟨rfl, hb1.trans (hb3.mono hb1.size)⟩
end Go.Proofs.Ytmdbfjfdkgdmnaa
