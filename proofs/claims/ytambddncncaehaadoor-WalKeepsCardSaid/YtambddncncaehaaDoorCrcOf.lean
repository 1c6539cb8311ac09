/- The walk of crc.Of. -/
import Derived.Test.YtambddncncaehaaDoorCrcAdd
import Derived.Test.YtambddncncaehaaDoorArgs
import Derived.Outline
namespace Go.Proofs.YtambddncncaehaaDoor
open Go.RowKit

set_option maxHeartbeats 400000 in
set_option maxRecDepth 100000 in
theorem crcOf_any (A : Option Addr) (n c : Nat) (ls : List (List UInt8)) (B : Nat) (w : World) (hn : n = ls.length) (hnc : n ≤ c) (hc : c ≤ maxLen) (hs : Grid w B A ls) (ht : TabAt w 0) :
    Calls Tryd.prog 39 #[.slice A n c] w fun e w' => e = .returned (.int .u32 ((Crc.add 0#32 ls.flatten).toNat : Int)) ∧ w = w' := by
  subst hn
  unfold maxLen at hc
  have HT := Lib.hid ht
  clear ht
  go_enter Tryd.func39, Tryd.ntmps39
  go_wp2
  go_loop [3, 8] (fun r i => ∃ k : Nat, k ≤ ls.length ∧ i = .int .i64 k ∧ r = .int .u32 ((Crc.add 0#32 (ls.take k).flatten).toNat : Int)) (fun _ i => ls.length - (intOf i).toNat)
  case atStart => exact ⟨0, Nat.zero_le _, rfl, by rw [List.take_zero, List.flatten_nil, Crc.add_nil]; rfl⟩
  case round =>
    obtain ⟨k, hk, rfl, rfl⟩ := hrel
    by_cases hlt : k < ls.length
    · obtain ⟨g, o, rfl, hg, hrow⟩ := hs (by intro e; simp [e] at hlt)
      obtain ⟨A', c', hcell, h1, h2, h3⟩ := hrow k hlt
      have hstep : Crc.add 0#32 (ls.take (k + 1)).flatten = Crc.add (Crc.add 0#32 (ls.take k).flatten) ls[k] := by
        rw [List.take_succ_eq_append_getElem hlt, List.flatten_append, Crc.add_append]; simp
      have HS := Lib.hid hstep
      clear hstep hrow hs
      generalize Crc.add 0#32 (ls.take k).flatten = r at HS
      generalize ls[k] = l at *
      obtain ⟨q, Hq⟩ : ∃ x, Hid (x = Crc.add r l) := ⟨_, Lib.hid rfl⟩
      rw [← Hq.out] at HS
      have hadd := crcAdd_any r A' l.length c' l B w rfl h1 h2 h3 HT.out
      rw [← Hq.out] at hadd
      have HA := Lib.hid hadd
      clear hadd
      go_wp2_with (go_at_call 47; refine HA.out.mono ?_; rintro e w' ⟨rfl, rfl⟩)
      go_round
      case rel => exact ⟨k + 1, by omega, by go_num, by rw [HS.out]⟩
      case measure => simp [intOf]; omega
    · obtain rfl : k = ls.length := by omega
      obtain ⟨q, Hq⟩ : ∃ x, Hid (x = Crc.add 0#32 ls.flatten) := ⟨_, Lib.hid rfl⟩
      rw [List.take_length, ← Hq.out]
      go_wp2
      go_ret
      exact ⟨congrArg (fun x : BitVec 32 => Ending.returned (.int .u32 (x.toNat : Int))) Hq.out, rfl⟩

theorem bits_poly (c d : BitVec 32) (h : Hid (d = Crc.step c)) (ho : c.toNat % 2 = 1) : bits .xor .u32 ((c.toNat : Int) / 2) 3988292384 = (d.toNat : Int) := by
  have h1 := c.isLt
  rw [h.out, Crc.step_nat_odd c ho]
  exact u32_xor_nat (c.toNat / 2) 3988292384 (by omega) (by omega)
end Go.Proofs.YtambddncncaehaaDoor
