/- The walk of CrcBurst. -/
import Derived.Test.YtfoddcelpgihfaaDoorCrcSaysW
import Derived.Test.YtfoddcelpgihfaaDoorCrcRow8
namespace Go.Proofs.YtfoddcelpgihfaaDoor
open Go.RowKit

theorem bits_flip (b : UInt8) (m : Nat) (hm : m < 8) : bits .xor .u8 (b.toNat : Int) (2 ^ m % 256) = ((b ^^^ Crc.bit m).toNat : Int) := by
  have h1 := b.toNat_lt
  have e : ∀ i : Fin 8, ((2 : Int) ^ i.val % 256) = (((Crc.bit i.val).toNat : Nat) : Int) := by decide
  rw [e ⟨m, hm⟩, u8_xor_nat _ _ h1 (Crc.bit m).toNat_lt, UInt8.toNat_xor]
theorem bits_bit (v : BitVec 32) (k : Nat) : (bits .and .u32 ((v.toNat : Int) / 2 ^ k) 1 == 1) = v.getLsbD k := by
  have h1 := v.isLt
  have e : ((v.toNat : Int) / 2 ^ k) = ((v.toNat / 2 ^ k : Nat) : Int) := by simp
  have hle : v.toNat / 2 ^ k < 4294967296 := Nat.lt_of_le_of_lt (Nat.div_le_self _ _) h1
  rw [e, show (1 : Int) = ((1 : Nat) : Int) from rfl, u32_and_nat _ 1 hle (by omega), nat_mask1]
  rw [BitVec.getLsbD, Nat.testBit_eq_decide_div_mod_eq]
  rw [Bool.eq_iff_iff]; simp; omega

set_option maxHeartbeats 1600000 in
set_option maxRecDepth 100000 in
theorem crcBurst_walk (A0 : Option Addr) (n0 c0 : Nat) (l0 : List UInt8) (e0 : n0 = l0.length) (h0 : n0 ≤ c0) (_m0 : c0 ≤ maxLen) (at_ : Int) (_hat : (Lit.int .i64 at_).wf = true) (bb : Int) (hbb : (Lit.int .u32 bb).wf = true) (w : World)
    (s0 : Sees w w.heap.size A0 l0) (ht : Lib.TabIs Tryd.prog w "franking/crc.halfByte" .u32 crcTab) :
    Calls Tryd.prog 4 #[.slice A0 n0 c0, .int .i64 at_, .int .u32 bb] w fun e w' => e = .returned (.bool true) ∧ Below w.heap.size w w' := by
  subst e0
  have HT := Lib.hid (tabAt ht)
  have HM0 := Lib.hid _m0
  clear ht
  obtain ⟨i0, hi, hz0, hz1, hz2⟩ := info_parts Tryd.infoB
  have hbb1 : 0 ≤ bb ∧ bb < 4294967296 := by
    have a0 : IntKind.u32.min = 0 := rfl
    have a1 : IntKind.u32.max = 4294967295 := rfl
    simp [Lit.wf, a0, a1] at hbb
    omega
  have hbb2 := hbb1.2
  have hbb1 := hbb1.1
  by_cases q0 : (l0.length : Int) < 5
  · go_enter Tryd.func4, Tryd.ntmps4
    go_wp2_with (go_at_call 7; refine (crcAwake_any _ HT.out).mono ?_; rintro e w1 ⟨rfl, hb1⟩)
    all_goals (go_ret; exact ⟨rfl, hb1⟩)
  by_cases q1 : 300 < (l0.length : Int)
  · go_enter Tryd.func4, Tryd.ntmps4
    go_wp2_with (go_at_call 7; refine (crcAwake_any _ HT.out).mono ?_; rintro e w1 ⟨rfl, hb1⟩)
    all_goals (go_ret; exact ⟨rfl, hb1⟩)
  by_cases q2 : bb = 0
  · go_enter Tryd.func4, Tryd.ntmps4
    go_wp2_with (go_at_call 7; refine (crcAwake_any _ HT.out).mono ?_; rintro e w1 ⟨rfl, hb1⟩)
    all_goals (go_ret; exact ⟨rfl, hb1⟩)
  by_cases q3 : at_ < 0
  · go_enter Tryd.func4, Tryd.ntmps4
    go_wp2_with (go_at_call 7; refine (crcAwake_any _ HT.out).mono ?_; rintro e w1 ⟨rfl, hb1⟩)
    all_goals (go_ret; exact ⟨rfl, hb1⟩)
  have hbne : (bb == 0) = false := by simpa using q2
  go_enter Tryd.func4, Tryd.ntmps4
  go_wp2_with fail
  refine (crcAwake_any _ HT.out).mono ?_
  rintro e w1 ⟨rfl, hb1⟩
  have hw1 := hb1.size
  have hown0 : (w1.alloc (.cells #[] 5)).ownsRow w1.heap.size 5 1 (.slice (some ⟨w1.heap.size, 0, none⟩) 0 0) ([] : List UInt8).length (bv []) := World.ownsRow_lit w1 #[] 0 (Nat.le_refl _) (by decide) rfl
  have hs0 : Sees (w1.alloc (.cells #[] 5)) w1.heap.size A0 l0 := ((s0.below hb1 (Nat.le_refl _)).mono hw1).alloc (Nat.le_refl _) _
  go_wp2_with (at_builtin; (refine wpList_append_sees rfl _ _ 22 rfl _ w1.heap.size 5 i0 (.int .u8 0) 1 Tryd.underlying22 hi hz0 hz1 hz2 rfl _ [] rfl (by exact hown0) w1.heap.size A0 l0 l0.length c0 rfl rfl hs0 ?q1 ?q2 ?q3 ?_))
  case q1 => simp [maxLen]; omega
  case q2 => simp; omega
  case q3 => simp
  intro v2 w2 hown2' hg2 hb2
  have hown2 : w2.ownsRow w1.heap.size 5 1 v2 l0.length (bv l0) := hown2'
  obtain ⟨g, c2, rfl, hg1, hg2, hc2, hm2⟩ := own_form hown2 (by omega)
  have hrow2 := Row8.of_own hown2
  obtain ⟨hb2', hw2⟩ := below_past (B := w.heap.size) hb2 hw1 hw1
  have hb02 := hb1.trans hb2'
  obtain ⟨p, hp⟩ : ∃ p : Nat, at_ % (((l0.length : Int) - 4) * 8) = (p : Int) := ⟨(at_ % (((l0.length : Int) - 4) * 8)).toNat, by have := Int.emod_nonneg at_ (b := ((l0.length : Int) - 4) * 8) (by omega); omega⟩
  have hpl : p < (l0.length - 4) * 8 := by have := Int.emod_lt_of_pos at_ (b := ((l0.length : Int) - 4) * 8) (by omega); omega
  obtain ⟨v, Hv⟩ : ∃ v : BitVec 32, Hid (bb = (v.toNat : Int)) := ⟨BitVec.ofNat 32 bb.toNat, Lib.hid (by rw [BitVec.toNat_ofNat, Nat.mod_eq_of_lt (by omega)]; omega)⟩
  have hvlt := v.isLt
  have Hvne : Hid (v ≠ 0#32) := Lib.hid (fun h => q2 (by rw [Hv.out, h]; rfl))
  rw [Hv.out] at *
  clear hown0 hs0 hown2 hown2' hb2 hb2' hb1 hbne q2 hi hz0 hz1 hz2 hbb1 hbb2
  go_wp2
  clear hp
  go_loopw [9] (fun i wr => ∃ k : Nat, k ≤ 32 ∧ i = .int .i64 k ∧ ∃ l : List UInt8, l.length = l0.length ∧ Row8 wr g l ∧ Hid (Crc.run (~~~ 0#32) l = Crc.run (~~~ 0#32) l0 ^^^ Crc.steps (8 * l0.length - p) (Crc.low v k)) ∧ Below w.heap.size w wr) (fun i _ => 32 - (intOf i).toNat)
  case atStart => exact ⟨0, Nat.zero_le _, rfl, l0, rfl, hrow2, Lib.hid (by rw [Crc.low_zero, Crc.steps_nil, BitVec.xor_zero]), hb02⟩
  case round =>
    clear hrow2 hb02
    obtain ⟨k, hk, rfl, l, hl, hrow, HL, hb⟩ := hrel
    by_cases hlt : k < 32
    · have hj : (p + k) / 8 < l.length := by omega
      obtain ⟨hcell, hfree⟩ := hrow ((p + k) / 8) hj
      obtain ⟨b, Hb⟩ : ∃ b, Hid (b = l[(p + k) / 8]) := ⟨_, Lib.hid rfl⟩
      rw [← Hb.out] at hcell
      have hbl : b.toNat < 256 := b.toNat_lt
      have hpk : p + k < 8 * l0.length := by omega
      have hbit := bits_bit v k
      cases hv : v.getLsbD k
      case true =>
        rw [hv] at hbit
        have HV := Lib.hid hv
        have HX := Lib.hid (bits_flip b ((p + k) % 8) (by omega))
        have hnew := Crc.burst_yes _ _ _ l0.length p k v hlt hl hpk HV.out HL.out hj
        rw [← Hb.out] at hnew
        have HN := Lib.hid hnew
        clear hv hnew
        go_wp2
        go_roundw
        case rel =>
          rw [HX.out]
          exact ⟨k + 1, by omega, by go_num, _, by simpa using hl, hrow.store _ hj (b ^^^ Crc.bit ((p + k) % 8)), HN, hb.setCell (by show w.heap.size ≤ g; omega) _⟩
        case measure => simp [intOf]; omega
      case false =>
        rw [hv] at hbit
        have HV := Lib.hid hv
        clear hv
        go_wp2
        go_roundw
        case rel => exact ⟨k + 1, by omega, by go_num, l, hl, hrow, Lib.hid (Crc.burst_no _ _ _ _ _ _ _ HV.out HL.out), hb⟩
        case measure => simp [intOf]; omega
    · obtain rfl : k = 32 := by omega
      have hl64 : l.length ≤ 300 := by omega
      have zr := hb.size
      have hgw : g < wr.heap.size := by
        have h1 := World.block_lt_of_cell? wr _ (hrow 0 (by omega)).1
        exact h1
      have hs : Sees wr wr.heap.size (some ⟨g, 0, none⟩) l := hrow.sees.mono (by omega)
      have hne := Crc.burst_end 0#32 l l0 _ v Hvne.out HL.out
      obtain ⟨qc, Hqc⟩ : ∃ x, Hid (x = Crc.add 0#32 l) := ⟨_, Lib.hid rfl⟩
      obtain ⟨qb, Hqb⟩ : ∃ x, Hid (x = Crc.add 0#32 l0) := ⟨_, Lib.hid rfl⟩
      rw [← Hqc.out, ← Hqb.out] at hne
      have hne2 : ((qc.toNat : Int) != (qb.toNat : Int)) = true := by
        rw [bne_iff_ne]; intro h; apply hne; apply BitVec.eq_of_toNat_eq; omega
      have S0 := Lib.hid ((s0.below hb (Nat.le_refl _)).mono zr)
      have HTr : Hid (TabAt wr 0) := Lib.hid (HT.out.below hb (Nat.le_refl _))
      clear hrow s0 HL Hvne hne
      go_wp2_with fail
      refine (crcOf_any _ 1 1 [l] _ _ rfl (by decide) (by decide) (grid_one _ _ _ _ _ _ hl.symm hc2 hm2 hs _ rfl) (HTr.out.alloc _)).mono ?_
      rintro e w5 ⟨rfl, rfl⟩
      rw [show ([l] : List (List UInt8)).flatten = l by simp, ← Hqc.out]
      go_wp2_with fail
      refine (crcOf_any _ 1 1 [l0] _ _ rfl (by decide) (by decide) (grid_one _ _ _ _ _ _ rfl h0 HM0.out ?g1 _ ?n1) ?t1).mono ?_
      case g1 => exact (S0.out.alloc (Nat.le_refl _) _).mono (by simp)
      case n1 => simp
      case t1 => exact (HTr.out.alloc _).alloc _
      rintro e w5 ⟨rfl, rfl⟩
      rw [show ([l0] : List (List UInt8)).flatten = l0 by simp, ← Hqb.out]
      go_wp2
      go_ret
      exact ⟨rfl, (hb.alloc zr _).alloc (by simp; omega) _⟩
end Go.Proofs.YtfoddcelpgihfaaDoor
