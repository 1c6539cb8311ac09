/- Quote: what it answers, by a loop that appends to a row of the call's own. -/
import Derived.Test.YtmdbfjfdkgdmnaaDoorOctQuote
namespace Go.Proofs.YtmdbfjfdkgdmnaaDoor
open Go.RowKit

theorem Tryd.infoByte : (Tryd.prog.info? 5).map (fun i => (i.zero, i.size, i.bytes)) = some (some (.int .u8 0), 1, 1) := by kernel_rfl

set_option maxHeartbeats 400000 in
theorem quote_long (s : ByteArray) (w : World) (hs : s.size ≤ maxLen) (h : 8192 < s.size) :
    Calls Tryd.prog 6 #[.string s] w fun e w' => e = .returned (.tuple #[.string ⟨#[]⟩, .bool false]) ∧ Below w.heap.size w w' := by
  unfold maxLen at hs
  go_enter Tryd.func6, Tryd.ntmps6
  go_wp2
  go_ret2
  exact ⟨rfl, Below.refl _ _⟩

def QuoteEnd (s : ByteArray) (w : World) (e : Ending) (w' : World) : Prop :=
  e = .returned (if Oct.quotable s.data.toList then .tuple #[.string ⟨(Oct.quoted s.data.toList).toArray⟩, .bool true] else .tuple #[.string ⟨#[]⟩, .bool false]) ∧ Below w.heap.size w w'

set_option maxHeartbeats 800000 in
set_option maxRecDepth 100000 in
theorem quote_short (s : ByteArray) (w : World) (h : s.size ≤ 8192) :
    Calls Tryd.prog 6 #[.string s] w (QuoteEnd s w) := by
  obtain ⟨i0, hi, hz0, hz1, hz2⟩ := info_parts Tryd.infoByte
  go_enter Tryd.func6, Tryd.ntmps6
  go_wp2
  go_loopw [4, 12] (fun q i wr => ∃ k : Nat, k ≤ s.size ∧ i = .int .i64 k ∧ (s.data.toList.take k).all Oct.plainB = true ∧
      wr.ownsRow w.heap.size 5 1 q (1 + (Oct.body (s.data.toList.take k)).length) (bv (34 :: Oct.body (s.data.toList.take k))) ∧ Below w.heap.size w wr)
    (fun _ i _ => s.size - (intOf i).toNat)
  case atStart =>
    refine ⟨0, Nat.zero_le _, rfl, rfl, ?_, (Below.refl _ _).alloc (Nat.le_refl _) _⟩
    exact World.ownsRow_lit w #[.int .u8 34] 1 (Nat.le_refl _) (by decide) rfl
  case round =>
    obtain ⟨k, hk, rfl, hall, hown, hb⟩ := hrel
    have hle := Oct.body_le (s.data.toList.take k)
    have hlen : (s.data.toList.take k).length ≤ k := List.length_take_le _ _
    have hwz := hb.size
    by_cases hlt : k < s.size
    · have hlt' : k < s.data.toList.length := by simpa using hlt
      have hsk : s.data.toList[k] = s[k] := rfl
      cases hp : Oct.plainB s[k] with
      | false =>
        have HQ := Lib.hid hp
        clear hp
        go_wp2_with (go_at_call 22; refine (quotable_any _ _ HQ.out _).mono ?_; rintro e w' ⟨rfl, rfl⟩)
        go_ret2
        refine ⟨?_, hb⟩
        have := Oct.all_not Oct.plainB s.data.toList k hlt' HQ.out
        have hq : Oct.quotable s.data.toList = false := by unfold Oct.quotable; rw [this]; simp
        rw [hq]; rfl
      | true =>
        have HQ := Lib.hid hp
        clear hp
        cases he : Oct.escB s[k] with
        | false =>
          have HE := Lib.hid he
          clear he
          go_wp2_with (first
            | (go_at_call 22; refine (quotable_any _ _ HQ.out _).mono ?_; rintro e w' ⟨rfl, rfl⟩)
            | (go_at_call 23; refine (escaped_any _ _ HE.out _).mono ?_; rintro e w' ⟨rfl, rfl⟩)
            | (at_builtin; refine wpList_append_one rfl _ _ 30 rfl w.heap.size 5 i0 (.int .u8 0) 1 Tryd.underlying30 hi hz0 hz1 hz2 rfl wr (.int .u8 (s[k].toNat : Int)) rfl 1 _ _ _ rfl (by exact hown) rfl ?c1 ?c2 ?c3 ?_))
          case c1 => omega
          case c2 => unfold maxLen; omega
          case c3 => omega
          intro v' w' hown' hb'
          go_wp2
          go_roundw
          case rel => 
            refine ⟨k + 1, by omega, by go_num, Oct.all_take _ _ _ hlt' hall HQ.out, ?_, hb.trans hb'⟩
            have e : Oct.body (s.data.toList.take (k + 1)) = Oct.body (s.data.toList.take k) ++ [s[k]] := by
              rw [Oct.take_snoc _ _ hlt', Oct.body_snoc, hsk]; simp [Oct.esc, HE.out]
            rw [e]
            simpa [bv, Nat.add_assoc] using hown'
          case measure => simp [intOf]; omega
        | true =>
          have HE := Lib.hid he
          clear he
          go_wp2_with (first
            | (go_at_call 22; refine (quotable_any _ _ HQ.out _).mono ?_; rintro e w' ⟨rfl, rfl⟩)
            | (go_at_call 23; refine (escaped_any _ _ HE.out _).mono ?_; rintro e w' ⟨rfl, rfl⟩)
            | (at_builtin; refine wpList_append_one rfl _ _ 30 rfl w.heap.size 5 i0 (.int .u8 0) 1 Tryd.underlying30 hi hz0 hz1 hz2 rfl wr (.int .u8 92) rfl 1 _ _ _ rfl (by exact hown) rfl ?c1 ?c2 ?c3 ?_))
          case c1 => omega
          case c2 => unfold maxLen; omega
          case c3 => omega
          intro v1 w1 hown1 hb1
          have hz := hb1.size
          clear hown
          go_wp2_with (at_builtin; refine wpList_append_one rfl _ _ 30 rfl w.heap.size 5 i0 (.int .u8 0) 1 Tryd.underlying30 hi hz0 hz1 hz2 rfl w1 (.int .u8 (s[k].toNat : Int)) rfl 1 _ _ _ rfl (by exact hown1) rfl ?c1 ?c2 ?c3 ?_)
          case c1 => omega
          case c2 => unfold maxLen; omega
          case c3 => omega
          intro v' w' hown' hb'
          go_wp2
          go_roundw
          case rel =>
            refine ⟨k + 1, by omega, by go_num, Oct.all_take _ _ _ hlt' hall HQ.out, ?_, (hb.trans hb1).trans hb'⟩
            have e : Oct.body (s.data.toList.take (k + 1)) = Oct.body (s.data.toList.take k) ++ [92, s[k]] := by
              rw [Oct.take_snoc _ _ hlt', Oct.body_snoc, hsk]; simp [Oct.esc, HE.out]
            rw [e]
            simpa [bv, Nat.add_assoc] using hown'
          case measure => simp [intOf]; omega
    · go_wp2_with (at_builtin; go_loud (refine wpList_append_one rfl _ _ 30 rfl w.heap.size 5 i0 (.int .u8 0) 1 Tryd.underlying30 hi hz0 hz1 hz2 rfl wr (.int .u8 34) rfl 1 _ _ _ rfl (by exact hown) rfl ?c1 ?c2 ?c3 ?_))
      case c1 => omega
      case c2 => unfold maxLen; omega
      case c3 => omega
      intro v' w' hown' hb'
      have e : s.data.toList.take k = s.data.toList := List.take_of_length_le (by simp; omega)
      have hq : Oct.quotable s.data.toList = true := by
        rw [e] at hall
        unfold Oct.quotable; rw [hall]; simp; omega
      have hx : bv (34 :: Oct.body (s.data.toList.take k)) ++ [.int .u8 34] = bv (Oct.quoted s.data.toList) := by
        rw [e]; simp [bv, Oct.quoted]
      have hn : 1 + (Oct.body (s.data.toList.take k)).length + 1 = (Oct.quoted s.data.toList).length := by
        rw [e]; simp [Oct.quoted]; omega
      rw [hx, hn] at hown'
      have hconv := run_own_string (P := Tryd.prog) w' 30 9 5 Tryd.underlying30 Tryd.underlying5 Tryd.underlying9 w.heap.size v' _ hown'
      have HQ := Lib.hid hq
      clear hx hn hq e hown hown' hall hle hlen
      go_wp2
      go_ret2
      exact ⟨by rw [HQ.out]; rfl, hb.trans hb'⟩
end Go.Proofs.YtmdbfjfdkgdmnaaDoor
