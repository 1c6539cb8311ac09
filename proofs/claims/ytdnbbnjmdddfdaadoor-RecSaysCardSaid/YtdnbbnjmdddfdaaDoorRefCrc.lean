/- The walk of the reference's Crc. -/
import Derived.Test.YtdnbbnjmdddfdaaDoorCrcOf
namespace Go.Proofs.YtdnbbnjmdddfdaaDoor
open Go.RowKit
set_option linter.unusedVariables false

set_option maxHeartbeats 800000 in
set_option maxRecDepth 100000 in
theorem rcrc_any (s : BitVec 32) (A : Option Addr) (n c : Nat) (l : List UInt8) (B : Nat) (w : World) (hn : n = l.length) (hnc : n ≤ c) (hc : c ≤ maxLen) (hs : Sees w B A l) :
    Calls Tryd.prog 36 #[.int .u32 (s.toNat : Int), .slice A n c] w fun e w' => e = .returned (.int .u32 ((Crc.add s l).toNat : Int)) ∧ w = w' := by
  subst hn
  unfold maxLen at hc
  have hnot := bits_not s
  obtain ⟨s', Hs'⟩ : ∃ x : BitVec 32, Hid (x = ~~~ s) := ⟨_, Lib.hid rfl⟩
  rw [← Hs'.out] at hnot
  go_enter Tryd.func36, Tryd.ntmps36
  go_wp2
  clear hnot
  go_loop [5, 6, 7] (fun r i _ => ∃ k : Nat, k ≤ l.length ∧ i = .int .i64 k ∧ r = .int .u32 ((Crc.run s' (l.take k)).toNat : Int)) (fun _ i _ => l.length - (intOf i).toNat)
  case atStart => exact ⟨0, Nat.zero_le _, rfl, rfl⟩
  case round =>
    obtain ⟨k, hk, rfl, rfl⟩ := hrel
    by_cases hlt : k < l.length
    · obtain ⟨g, o, rfl, hg, hcell⟩ := hs (by intro e; simp [e] at hlt)
      have hb := hcell k hlt
      obtain ⟨b, Hb⟩ : ∃ b, Hid (l[k] = b) := ⟨_, Lib.hid rfl⟩
      rw [Hb.out] at hb
      have hstep : Crc.run s' (l.take (k + 1)) = Crc.take (Crc.run s' (l.take k)) b := by
        rw [List.take_succ_eq_append_getElem hlt, Crc.run_append, Hb.out]; rfl
      have HS := Lib.hid hstep
      clear hstep hcell hs
      generalize Crc.run s' (l.take k) = r at HS
      have h1 := bits_byte r b
      obtain ⟨d, Hd⟩ : ∃ x, Hid (x = r ^^^ Crc.byte b) := ⟨_, Lib.hid rfl⟩
      rw [← Hd.out] at h1
      have hb2 : (b.toNat : Int) < 256 := by have := b.toNat_lt; omega
      go_wp2
      clear h1
      go_loop [5, 7] (fun r j => ∃ m : Nat, m ≤ 8 ∧ j = .int .i64 m ∧ r = .int .u32 ((Crc.steps m d).toNat : Int)) (fun _ j => 8 - (intOf j).toNat)
      case atStart => exact ⟨0, Nat.zero_le _, rfl, rfl⟩
      case round =>
        obtain ⟨m, hm, rfl, rfl⟩ := hrel
        by_cases hm8 : m < 8
        · have hm1 : Hid (Crc.steps (m + 1) d = Crc.step (Crc.steps m d)) := Lib.hid (Crc.steps_add m 1 d)
          generalize Crc.steps m d = x at hm1
          have hx := x.isLt
          obtain ⟨y, Hy⟩ : ∃ y, Hid (y = Crc.step x) := ⟨_, Lib.hid rfl⟩
          rw [← Hy.out] at hm1
          by_cases ho : x.toNat % 2 = 1
          · have hp := bits_poly x y Hy ho
            have ho1 : ((x.toNat : Int) % 2 == 1) = true := by simp; omega
            clear hx ho
            go_wp2
            go_round
            case rel => exact ⟨m + 1, by omega, by go_num, by rw [hm1.out]⟩
            case measure => simp [intOf]; omega
          · have hy : Hid (((x.toNat : Int) / 2) = (y.toNat : Int)) := Lib.hid (by rw [Hy.out, Crc.step_nat_even x ho]; omega)
            have ho1 : ((x.toNat : Int) % 2 == 1) = false := by simp; omega
            clear hx ho
            go_wp2
            go_round
            case rel => exact ⟨m + 1, by omega, by go_num, by rw [hm1.out, hy.out]⟩
            case measure => simp [intOf]; omega
        · obtain rfl : m = 8 := by omega
          go_wp2
          go_round
          case rel => exact ⟨k + 1, by omega, by go_num, by rw [HS.out, Hd.out]; rfl⟩
          case measure => simp [intOf]; omega
    · obtain rfl : k = l.length := by omega
      have hend : Crc.add s l = ~~~ (Crc.run s' l) := by rw [Hs'.out]; rfl
      have hnot := bits_not (Crc.run s' l)
      obtain ⟨q, Hq⟩ : ∃ x, Hid (x = Crc.add s l) := ⟨_, Lib.hid rfl⟩
      rw [← hend, ← Hq.out] at hnot
      clear hend
      go_wp2
      go_ret
      exact ⟨congrArg (fun x : BitVec 32 => Ending.returned (.int .u32 (x.toNat : Int))) Hq.out, rfl⟩
end Go.Proofs.YtdnbbnjmdddfdaaDoor
