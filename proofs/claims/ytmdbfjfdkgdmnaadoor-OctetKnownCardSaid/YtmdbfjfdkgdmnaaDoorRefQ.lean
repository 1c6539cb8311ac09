/- The reference's Quote. -/
import Derived.Test.YtmdbfjfdkgdmnaaDoorRefB
namespace Go.Proofs.YtmdbfjfdkgdmnaaDoor
open Go.RowKit

set_option maxHeartbeats 400000 in
theorem rquote_long (s : ByteArray) (w : World) (hs : s.size ≤ maxLen) (h : 8192 < s.size) :
    Calls Tryd.prog 13 #[.string s] w fun e w' => e = .returned (.tuple #[.string ⟨#[]⟩, .bool false]) ∧ Below w.heap.size w w' := by
  unfold maxLen at hs
  go_enter Tryd.func13, Tryd.ntmps13
  go_wp2
  go_ret2
  exact ⟨rfl, Below.refl _ _⟩

set_option maxHeartbeats 800000 in
set_option maxRecDepth 100000 in
theorem rquote_short (s : ByteArray) (w : World) (h : s.size ≤ 8192) :
    Calls Tryd.prog 13 #[.string s] w (QuoteEnd s w) := by
  obtain ⟨i0, hi, hz0, hz1, hz2⟩ := info_parts Tryd.infoByte
  go_enter Tryd.func13, Tryd.ntmps13
  go_wp2
  go_loopw [4, 5] (fun q i wr => ∃ k : Nat, k ≤ s.size ∧ i = .int .i64 k ∧ (s.data.toList.take k).all Oct.plainB = true ∧
      wr.ownsRow w.heap.size 5 1 q (1 + (Oct.body (s.data.toList.take k)).length) (bv (34 :: Oct.body (s.data.toList.take k))) ∧ Below w.heap.size w wr)
    (fun _ i _ => s.size - (intOf i).toNat)
  case atStart =>
    refine ⟨0, Nat.zero_le _, rfl, rfl, ?_, (Below.refl _ _).alloc (Nat.le_refl _) _⟩
    exact World.ownsRow_lit w #[.int .u8 34] 1 (Nat.le_refl _) (by decide) rfl
  case round =>
    obtain ⟨k, hk, rfl, hall, hown, hb⟩ := hrel
    have hle := Oct.body_le (s.data.toList.take k)
    have hlen : (s.data.toList.take k).length ≤ k := List.length_take_le _ _
    have hwz := hb.size
    by_cases hlt : k < s.size
    · have hlt' : k < s.data.toList.length := by simpa using hlt
      have hsk : s.data.toList[k] = s[k] := rfl
      cases hp : Oct.plainB s[k] with
      | false =>
        have HQ := Lib.hid hp
        clear hp
        go_wp2_with (go_at_call 28; refine (rplain_any _ _ HQ.out _).mono ?_; rintro e w' ⟨rfl, rfl⟩)
        go_ret2
        refine ⟨?_, hb⟩
        have := Oct.all_not Oct.plainB s.data.toList k hlt' HQ.out
        have hq : Oct.quotable s.data.toList = false := by unfold Oct.quotable; rw [this]; simp
        rw [hq]; rfl
      | true =>
        have HQ := Lib.hid hp
        clear hp
        cases he : Oct.escB s[k] with
        | false =>
          have h34 : ((s[k].toNat : Int) == 34) = false := by
            simp [Oct.escB] at he; simp; omega
          have h92 : ((s[k].toNat : Int) == 92) = false := by
            simp [Oct.escB] at he; simp; omega
          have HE := Lib.hid he
          clear he
          go_wp2_with (first
            | (go_at_call 28; refine (rplain_any _ _ HQ.out _).mono ?_; rintro e w' ⟨rfl, rfl⟩)
            | (at_builtin; refine wpList_append_one rfl _ _ 30 rfl w.heap.size 5 i0 (.int .u8 0) 1 Tryd.underlying30 hi hz0 hz1 hz2 rfl wr (.int .u8 (s[k].toNat : Int)) rfl 1 _ _ _ rfl (by exact hown) rfl ?c1 ?c2 ?c3 ?_))
          case c1 => omega
          case c2 => unfold maxLen; omega
          case c3 => omega
          intro v' w' hown' hb'
          go_wp2
          go_roundw
          case rel => 
            refine ⟨k + 1, by omega, by go_num, Oct.all_take _ _ _ hlt' hall HQ.out, ?_, hb.trans hb'⟩
            have e : Oct.body (s.data.toList.take (k + 1)) = Oct.body (s.data.toList.take k) ++ [s[k]] := by
              rw [Oct.take_snoc _ _ hlt', Oct.body_snoc, hsk]; simp [Oct.esc, HE.out]
            rw [e]
            simpa [bv, Nat.add_assoc] using hown'
          case measure => simp [intOf]; omega
        | true =>
          have hor : s[k].toNat = 34 ∨ s[k].toNat = 92 := by simpa [Oct.escB] using he
          have HE := Lib.hid he
          clear he
          by_cases h3 : s[k].toNat = 34
          · have h34 : ((s[k].toNat : Int) == 34) = true := by simp; omega
            clear h3 hor
            go_wp2_with (first
              | (go_at_call 28; refine (rplain_any _ _ HQ.out _).mono ?_; rintro e w' ⟨rfl, rfl⟩)
              | (at_builtin; refine wpList_append_one rfl _ _ 30 rfl w.heap.size 5 i0 (.int .u8 0) 1 Tryd.underlying30 hi hz0 hz1 hz2 rfl wr (.int .u8 92) rfl 1 _ _ _ rfl (by exact hown) rfl ?c1 ?c2 ?c3 ?_))
            case c1 => omega
            case c2 => unfold maxLen; omega
            case c3 => omega
            intro v1 w1 hown1 hb1
            have hz := hb1.size
            clear hown
            go_wp2_with (at_builtin; refine wpList_append_one rfl _ _ 30 rfl w.heap.size 5 i0 (.int .u8 0) 1 Tryd.underlying30 hi hz0 hz1 hz2 rfl w1 (.int .u8 (s[k].toNat : Int)) rfl 1 _ _ _ rfl (by exact hown1) rfl ?c1 ?c2 ?c3 ?_)
            case c1 => omega
            case c2 => unfold maxLen; omega
            case c3 => omega
            intro v' w' hown' hb'
            go_wp2
            go_roundw
            case rel =>
              refine ⟨k + 1, by omega, by go_num, Oct.all_take _ _ _ hlt' hall HQ.out, ?_, (hb.trans hb1).trans hb'⟩
              have e : Oct.body (s.data.toList.take (k + 1)) = Oct.body (s.data.toList.take k) ++ [92, s[k]] := by
                rw [Oct.take_snoc _ _ hlt', Oct.body_snoc, hsk]; simp [Oct.esc, HE.out]
              rw [e]
              simpa [bv, Nat.add_assoc] using hown'
            case measure => simp [intOf]; omega
          · have h34 : ((s[k].toNat : Int) == 34) = false := by simp; omega
            have h92 : ((s[k].toNat : Int) == 92) = true := by simp; omega
            clear h3 hor
            go_wp2_with (first
              | (go_at_call 28; refine (rplain_any _ _ HQ.out _).mono ?_; rintro e w' ⟨rfl, rfl⟩)
              | (at_builtin; refine wpList_append_one rfl _ _ 30 rfl w.heap.size 5 i0 (.int .u8 0) 1 Tryd.underlying30 hi hz0 hz1 hz2 rfl wr (.int .u8 92) rfl 1 _ _ _ rfl (by exact hown) rfl ?c1 ?c2 ?c3 ?_))
            case c1 => omega
            case c2 => unfold maxLen; omega
            case c3 => omega
            intro v1 w1 hown1 hb1
            have hz := hb1.size
            clear hown
            go_wp2_with (at_builtin; refine wpList_append_one rfl _ _ 30 rfl w.heap.size 5 i0 (.int .u8 0) 1 Tryd.underlying30 hi hz0 hz1 hz2 rfl w1 (.int .u8 (s[k].toNat : Int)) rfl 1 _ _ _ rfl (by exact hown1) rfl ?c1 ?c2 ?c3 ?_)
            case c1 => omega
            case c2 => unfold maxLen; omega
            case c3 => omega
            intro v' w' hown' hb'
            go_wp2
            go_roundw
            case rel =>
              refine ⟨k + 1, by omega, by go_num, Oct.all_take _ _ _ hlt' hall HQ.out, ?_, (hb.trans hb1).trans hb'⟩
              have e : Oct.body (s.data.toList.take (k + 1)) = Oct.body (s.data.toList.take k) ++ [92, s[k]] := by
                rw [Oct.take_snoc _ _ hlt', Oct.body_snoc, hsk]; simp [Oct.esc, HE.out]
              rw [e]
              simpa [bv, Nat.add_assoc] using hown'
            case measure => simp [intOf]; omega
    · go_wp2_with (at_builtin; go_loud (refine wpList_append_one rfl _ _ 30 rfl w.heap.size 5 i0 (.int .u8 0) 1 Tryd.underlying30 hi hz0 hz1 hz2 rfl wr (.int .u8 34) rfl 1 _ _ _ rfl (by exact hown) rfl ?c1 ?c2 ?c3 ?_))
      case c1 => omega
      case c2 => unfold maxLen; omega
      case c3 => omega
      intro v' w' hown' hb'
      have e : s.data.toList.take k = s.data.toList := List.take_of_length_le (by simp; omega)
      have hq : Oct.quotable s.data.toList = true := by
        rw [e] at hall
        unfold Oct.quotable; rw [hall]; simp; omega
      have hx : bv (34 :: Oct.body (s.data.toList.take k)) ++ [.int .u8 34] = bv (Oct.quoted s.data.toList) := by
        rw [e]; simp [bv, Oct.quoted]
      have hn : 1 + (Oct.body (s.data.toList.take k)).length + 1 = (Oct.quoted s.data.toList).length := by
        rw [e]; simp [Oct.quoted]; omega
      rw [hx, hn] at hown'
      have hconv := run_own_string (P := Tryd.prog) w' 30 9 5 Tryd.underlying30 Tryd.underlying5 Tryd.underlying9 w.heap.size v' _ hown'
      have HQ := Lib.hid hq
      clear hx hn hq e hown hown' hall hle hlen
      go_wp2
      go_ret2
      exact ⟨by rw [HQ.out]; rfl, hb.trans hb'⟩
end Go.Proofs.YtmdbfjfdkgdmnaaDoor
