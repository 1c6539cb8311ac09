/- The walk of crc.Add: the sum of the bytes so far and these. -/
import Derived.Test.YtambddncncaehaaDoorChecked
import Derived.Test.YtambddncncaehaaDoorCrcPure
import Derived.Test.YtambddncncaehaaDoorSees
import Derived.Lib.LaidTab
import Derived.Laws.BitsAllLaws
import Derived.WalkLawsBesides
import Derived.IntWalk
namespace Go.Proofs.YtambddncncaehaaDoor
open Go.RowKit

theorem bits_not (s : BitVec 32) : bits .xor .u32 (IntKind.max .u32) (s.toNat : Int) = ((~~~ s).toNat : Int) := by
  have hm : IntKind.max .u32 = ((4294967295 : Nat) : Int) := rfl
  have h1 := s.isLt
  rw [hm, u32_xor_nat _ _ (by omega) (by omega)]
  apply congrArg (fun n : Nat => (n : Int))
  have e : ~~~ s = 4294967295#32 ^^^ s := by
    apply BitVec.eq_of_getLsbD_eq
    intro i hi
    have : (4294967295#32 : BitVec 32).getLsbD i = true := by
      have h : (4294967295#32 : BitVec 32) = BitVec.allOnes 32 := by decide
      rw [h, BitVec.getLsbD_allOnes]; simpa using hi
    rw [BitVec.getLsbD_not, BitVec.getLsbD_xor, this]; simp [hi]
  rw [e, BitVec.toNat_xor]; rfl
theorem bits_xor (a b : BitVec 32) : bits .xor .u32 (a.toNat : Int) (b.toNat : Int) = ((a ^^^ b).toNat : Int) := by
  have h1 := a.isLt
  have h2 := b.isLt
  rw [u32_xor_nat _ _ (by omega) (by omega), BitVec.toNat_xor]
theorem byte_nat (b : UInt8) : (Crc.byte b).toNat = b.toNat := by
  unfold Crc.byte
  have := b.toNat_lt
  rw [BitVec.toNat_ofNat]; exact Nat.mod_eq_of_lt (by omega)
theorem bits_byte (a : BitVec 32) (b : UInt8) : bits .xor .u32 (a.toNat : Int) (b.toNat : Int) = ((a ^^^ Crc.byte b).toNat : Int) := by
  rw [← bits_xor, byte_nat]
theorem bits_low (a : BitVec 32) : bits .and .u32 (a.toNat : Int) 15 = ((a.toNat % 16 : Nat) : Int) := by
  have h1 := a.isLt
  have := u32_and_nat a.toNat 15 (by omega) (by omega)
  rw [nat_mask4] at this
  exact this
/-- The table's cells. -/
def crcTab : List Int := Crc.tab.map Int.ofNat
def TabAt (w : World) (g : Nat) : Prop := ∀ i, i < 16 → w.cell? ⟨g, i, none⟩ = some (.int .u32 ((Crc.tab.getD i 0 : Nat) : Int))
theorem tab_lt : ∀ i : Fin 16, Crc.tab.getD i.val 0 < 4294967296 := by decide
/-- What four steps of the code do, by the table's entry. -/
theorem bits_four (d d1 : BitVec 32) (T : Nat) (h : Hid (d1 = Crc.steps 4 d)) (hT : Hid (T = Crc.tab.getD (d.toNat % 16) 0)) : bits .xor .u32 (T : Int) ((d.toNat : Int) / 16) = (d1.toNat : Int) := by
  have h1 := d.isLt
  have h2 := tab_lt ⟨d.toNat % 16, by omega⟩
  rw [h.out, Crc.four, ← hT.out]
  rw [← hT.out] at h2
  exact u32_xor_nat T (d.toNat / 16) h2 (by omega)
theorem four_step (w : World) (g : Nat) (ht : TabAt w g) (d : BitVec 32) : ∃ (d1 : BitVec 32) (T : Nat), Hid (d1 = Crc.steps 4 d) ∧ d.toNat % 16 < 16 ∧ bits .and .u32 (d.toNat : Int) 15 = ((d.toNat % 16 : Nat) : Int) ∧ w.cell? ⟨g, d.toNat % 16, none⟩ = some (.int .u32 (T : Int)) ∧ bits .xor .u32 (T : Int) ((d.toNat : Int) / 16) = (d1.toNat : Int) := by
  obtain ⟨d1, h1⟩ : ∃ x, Hid (x = Crc.steps 4 d) := ⟨_, Lib.hid rfl⟩
  obtain ⟨T, hT⟩ : ∃ x, Hid (x = Crc.tab.getD (d.toNat % 16) 0) := ⟨_, Lib.hid rfl⟩
  refine ⟨d1, T, h1, by omega, bits_low d, ?_, bits_four d d1 T h1 hT⟩
  rw [hT.out]; exact ht _ (by omega)

set_option maxHeartbeats 400000 in
set_option maxRecDepth 100000 in
theorem crcAdd_any (s : BitVec 32) (A : Option Addr) (n c : Nat) (l : List UInt8) (B : Nat) (w : World) (hn : n = l.length) (hnc : n ≤ c) (hc : c ≤ maxLen) (hs : Sees w B A l) (ht : TabAt w 0) :
    Calls Tryd.prog 47 #[.int .u32 (s.toNat : Int), .slice A n c] w fun e w' => e = .returned (.int .u32 ((Crc.add s l).toNat : Int)) ∧ w = w' := by
  subst hn
  unfold maxLen at hc
  have hnot := bits_not s
  obtain ⟨s', Hs'⟩ : ∃ x : BitVec 32, Hid (x = ~~~ s) := ⟨_, Lib.hid rfl⟩
  rw [← Hs'.out] at hnot
  go_enter Tryd.func47, Tryd.ntmps47
  go_wp2
  clear hnot
  go_loop [5, 12] (fun r i => ∃ k : Nat, k ≤ l.length ∧ i = .int .i64 k ∧ r = .int .u32 ((Crc.run s' (l.take k)).toNat : Int)) (fun _ i => l.length - (intOf i).toNat)
  case atStart => exact ⟨0, Nat.zero_le _, rfl, rfl⟩
  case round =>
    obtain ⟨k, hk, rfl, rfl⟩ := hrel
    by_cases hlt : k < l.length
    · obtain ⟨g, o, rfl, hg, hcell⟩ := hs (by intro e; simp [e] at hlt)
      have hb := hcell k hlt
      obtain ⟨b, Hb⟩ : ∃ b, Hid (l[k] = b) := ⟨_, Lib.hid rfl⟩
      rw [Hb.out] at hb
      have hstep : Crc.run s' (l.take (k + 1)) = Crc.take (Crc.run s' (l.take k)) b := by
        rw [List.take_succ_eq_append_getElem hlt, Crc.run_append, Hb.out]; rfl
      have HS := Lib.hid hstep
      clear hstep hcell hs
      generalize Crc.run s' (l.take k) = r at HS
      have h1 := bits_byte r b
      obtain ⟨d, Hd⟩ : ∃ x, Hid (x = r ^^^ Crc.byte b) := ⟨_, Lib.hid rfl⟩
      rw [← Hd.out] at h1
      obtain ⟨d1, T1, Hd1, c1, c2, c3, c4⟩ := four_step w _ ht d
      obtain ⟨d2, T2, Hd2, c5, c6, c7, c8⟩ := four_step w _ ht d1
      have hb2 : (b.toNat : Int) < 256 := by have := b.toNat_lt; omega
      clear ht
      go_wp2
      go_round
      case rel => exact ⟨k + 1, by omega, by go_num, by rw [HS.out, Hd2.out, Hd1.out, Hd.out]; exact congrArg (fun x : BitVec 32 => Value.int .u32 (x.toNat : Int)) (Crc.eight _).symm⟩
      case measure => simp [intOf]; omega
    · obtain rfl : k = l.length := by omega
      have hend : Crc.add s l = ~~~ (Crc.run s' l) := by rw [Hs'.out]; rfl
      have hnot := bits_not (Crc.run s' l)
      obtain ⟨q, Hq⟩ : ∃ x, Hid (x = Crc.add s l) := ⟨_, Lib.hid rfl⟩
      rw [← hend, ← Hq.out] at hnot
      clear hend
      go_wp2
      go_ret
      exact ⟨congrArg (fun x : BitVec 32 => Ending.returned (.int .u32 (x.toNat : Int))) Hq.out, rfl⟩
end Go.Proofs.YtambddncncaehaaDoor
