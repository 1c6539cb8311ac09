/- The walk of CrcSays. -/
import Derived.Test.YtfoddcelpgihfaaDoorCrcAwake
import Derived.WalkSpells
namespace Go.Proofs.YtfoddcelpgihfaaDoor
open Go.RowKit

theorem tabAt {w : World} (h : Lib.TabIs Tryd.prog w "franking/crc.halfByte" .u32 crcTab) : TabAt w 0 := fun i hi => by
  have hg : Tryd.prog.globalNamed "franking/crc.halfByte" = some 0 := by kernel_rfl
  have := h.cell hg i (by have e : crcTab.length = 16 := by decide
                          omega)
  rw [this]
  have e : ∀ i : Fin 16, crcTab.getD i.val 0 = ((Crc.tab.getD i.val 0 : Nat) : Int) := by decide
  rw [e ⟨i, hi⟩]
theorem Tryd.infoB : (Tryd.prog.info? 5).map (fun i => (i.zero, i.size, i.bytes)) = some (some (.int .u8 0), 1, 1) := by kernel_rfl
theorem grid_three (w : World) (e : TypeId) (A0 A1 A2 : Option Addr) (c0 c1 c2 : Nat) (l0 l1 l2 : List UInt8) (h0 : l0.length ≤ c0) (h1 : l1.length ≤ c1) (h2 : l2.length ≤ c2) (m0 : c0 ≤ maxLen) (m1 : c1 ≤ maxLen) (m2 : c2 ≤ maxLen)
    (s0 : Sees w w.heap.size A0 l0) (s1 : Sees w w.heap.size A1 l1) (s2 : Sees w w.heap.size A2 l2) : Grid (w.alloc (.cells #[.slice A0 l0.length c0, .slice A1 l1.length c1, .slice A2 l2.length c2] e)) (w.heap.size + 1) (some ⟨w.heap.size, 0, none⟩) [l0, l1, l2] :=
  grid_new w e _ _ ((((Views.nil w _).snoc rfl h0 m0 s0).snoc rfl h1 m1 s1).snoc rfl h2 m2 s2) _ rfl

set_option maxHeartbeats 800000 in
set_option maxRecDepth 100000 in
theorem crcSays_walk (A0 : Option Addr) (n0 c0 : Nat) (l0 : List UInt8) (e0 : n0 = l0.length) (h0 : n0 ≤ c0) (_m0 : c0 ≤ maxLen) (r0 : c0 ≤ 140737488351232) (A1 : Option Addr) (n1 c1 : Nat) (l1 : List UInt8) (e1 : n1 = l1.length) (h1 : n1 ≤ c1) (_m1 : c1 ≤ maxLen) (r1 : c1 ≤ 140737488351232)
    (A2 : Option Addr) (n2 c2 : Nat) (l2 : List UInt8) (e2 : n2 = l2.length) (h2 : n2 ≤ c2) (_m2 : c2 ≤ maxLen) (r2 : c2 ≤ 140737488351232) (w : World)
    (s0 : Sees w w.heap.size A0 l0) (s1 : Sees w w.heap.size A1 l1) (s2 : Sees w w.heap.size A2 l2) (ht : Lib.TabIs Tryd.prog w "franking/crc.halfByte" .u32 crcTab) :
    Calls Tryd.prog 3 #[.slice A0 n0 c0, .slice A1 n1 c1, .slice A2 n2 c2] w fun e w' => e = .returned (.bool true) ∧ Below w.heap.size w w' := by
  subst e0 e1 e2
  have HT := Lib.hid (tabAt ht)
  have HM0 := Lib.hid _m0
  have HM1 := Lib.hid _m1
  have HM2 := Lib.hid _m2
  clear ht _m0 _m1 _m2
  obtain ⟨i0, hi, hz0, hz1, hz2⟩ := info_parts Tryd.infoB
  have b0 : (l0.length : Int) ≤ 140737488351232 := by omega
  have b1 : (l1.length : Int) ≤ 140737488351232 := by omega
  have b2 : (l2.length : Int) ≤ 140737488351232 := by omega
  by_cases hb0 : 500 < (l0.length : Int) + l1.length + l2.length
  · go_enter Tryd.func3, Tryd.ntmps3
    go_wp2_with (go_at_call 7; refine (crcAwake_any _ HT.out).mono ?_; rintro e w1 ⟨rfl, hb1⟩)
    go_ret
    exact ⟨rfl, hb1⟩
  · have k0 : l0.length ≤ 500 := by omega
    have k1 : l1.length ≤ 500 := by omega
    have k2 : l2.length ≤ 500 := by omega
    go_enter Tryd.func3, Tryd.ntmps3
    go_wp2_with fail
    refine (crcAwake_any _ HT.out).mono ?_
    rintro e w1 ⟨rfl, hb1⟩
    have hw1 := hb1.size
    have hown0 : (w1.alloc (.cells #[] 5)).ownsRow w1.heap.size 5 1 (.slice (some ⟨w1.heap.size, 0, none⟩) 0 0) ([] : List UInt8).length (bv []) := World.ownsRow_lit w1 #[] 0 (Nat.le_refl _) (by decide) rfl
    have hs0 : Sees (w1.alloc (.cells #[] 5)) w1.heap.size A0 l0 := ((s0.below hb1 (Nat.le_refl _)).mono hw1).alloc (Nat.le_refl _) _
    go_wp2_with (at_builtin; (refine wpList_append_sees rfl _ _ 22 rfl _ w1.heap.size 5 i0 (.int .u8 0) 1 Tryd.underlying22 hi hz0 hz1 hz2 rfl _ [] rfl (by exact hown0) w1.heap.size A0 l0 l0.length c0 rfl rfl hs0 ?q1 ?q2 ?q3 ?_))
    case q1 => simp [maxLen]; omega
    case q2 => simp; omega
    case q3 => simp
    intro v2 w2 hown2 hg2 hb2
    obtain ⟨hb2', hw2⟩ := below_past (B := w.heap.size) hb2 hw1 hw1
    have hb02 := hb1.trans hb2'
    have hs1 : Sees w2 w.heap.size A1 l1 := s1.below hb02 (Nat.le_refl _)
    go_wp2_with (at_builtin; (refine wpList_append_sees rfl _ _ 22 rfl _ w1.heap.size 5 i0 (.int .u8 0) 1 Tryd.underlying22 hi hz0 hz1 hz2 rfl _ l0 rfl (by exact hown2) _ A1 l1 l1.length c1 rfl rfl hs1 ?q1 ?q2 ?q3 ?_))
    case q1 => simp [maxLen]; omega
    case q2 => simp; omega
    case q3 => omega
    intro v3 w3 hown3' hg3 hb3
    obtain ⟨la, HLA⟩ : ∃ la : List UInt8, Hid (la = l0 ++ l1) := ⟨_, Lib.hid rfl⟩
    have hown3 : w3.ownsRow w1.heap.size 5 1 v3 la.length (bv la) := by rw [HLA.out, List.length_append]; exact hown3'
    have hla : la.length ≤ 500 := by rw [HLA.out]; simp; omega
    clear hown3'
    have hb03 := hb02.trans (hb3.mono hw1)
    have hs2 : Sees w3 w.heap.size A2 l2 := s2.below hb03 (Nat.le_refl _)
    go_wp2_with (at_builtin; (refine wpList_append_sees rfl _ _ 22 rfl _ w1.heap.size 5 i0 (.int .u8 0) 1 Tryd.underlying22 hi hz0 hz1 hz2 rfl _ la rfl (by exact hown3) _ A2 l2 l2.length c2 rfl rfl hs2 ?q1 ?q2 ?q3 ?_))
    case q1 => simp [maxLen]; omega
    case q2 => simp; omega
    case q3 => have := hb3.size; omega
    intro v4 w4 hown4' hg4 hb4
    obtain ⟨lb, HLB⟩ : ∃ lb : List UInt8, Hid (lb = l0 ++ l1 ++ l2) := ⟨_, Lib.hid rfl⟩
    have hown4 : w4.ownsRow w1.heap.size 5 1 v4 lb.length (bv lb) := by rw [HLB.out, ← HLA.out, List.length_append]; exact hown4'
    clear hown4'
    have hb04 := hb03.trans (hb4.mono hw1)
    have hw4 := hb04.size
    obtain ⟨A4, c4, rfl, hc4, hm4⟩ := own_shape hown4
    have hs4 := Sees.of_own hown4
    have HT4 : Hid (TabAt w4 0) := Lib.hid (HT.out.below hb04 (Nat.le_refl _))
    have S0 := Lib.hid ((s0.below hb04 (Nat.le_refl _)).mono hw4)
    have S1 := Lib.hid ((s1.below hb04 (Nat.le_refl _)).mono hw4)
    have S2 := Lib.hid ((s2.below hb04 (Nat.le_refl _)).mono hw4)
    have HB := Lib.hid hb04
    obtain ⟨q, Hq⟩ : ∃ x, Hid (x = Crc.add 0#32 lb) := ⟨_, Lib.hid rfl⟩
    have hcrc := rcrc_any 0#32 A4 _ c4 _ _ w4 rfl hc4 hm4 hs4
    rw [← Hq.out] at hcrc
    have HC := Lib.hid hcrc
    clear hcrc hown0 hown2 hown3 hown4 hs0 hs1 hs2 hg2 hg3 hg4 hb2 hb3 hb4 hb2' hb02 hb03 hb1 hb04 s0 s1 s2 hs4
    go_wp2_with fail
    refine HC.out.mono ?_
    rintro e w5 ⟨rfl, rfl⟩
    go_wp2_with fail
    refine (crcOf_any _ 3 3 [l0, l1, l2] _ _ rfl (by decide) (by decide) (grid_three _ _ _ _ _ _ _ _ _ _ _ h0 h1 h2 HM0.out HM1.out HM2.out S0.out S1.out S2.out) (HT4.out.alloc _)).mono ?_
    rintro e w5 ⟨rfl, rfl⟩
    rw [show ([l0, l1, l2] : List (List UInt8)).flatten = l0 ++ l1 ++ l2 by simp, ← HLB.out, ← Hq.out]
    go_wp2_with fail
    refine (crcOf_any _ 1 1 [l0] _ _ rfl (by decide) (by decide) (grid_one _ _ _ _ _ _ rfl h0 HM0.out ?g1 _ ?n1) ?t1).mono ?_
    case g1 => exact (S0.out.alloc (Nat.le_refl _) _).mono (by simp)
    case n1 => simp
    case t1 => exact (HT4.out.alloc _).alloc _
    rintro e w5 ⟨rfl, rfl⟩
    rw [show ([l0] : List (List UInt8)).flatten = l0 by simp]
    go_wp2_with fail
    refine (crcAdd_any _ A1 _ c1 l1 _ _ rfl h1 HM1.out ((S1.out.alloc (Nat.le_refl _) _).alloc (by simp) _) ((HT4.out.alloc _).alloc _)).mono ?_
    rintro e w5 ⟨rfl, rfl⟩
    rw [Crc.add_append]
    go_wp2_with fail
    refine (crcAdd_any _ A2 _ c2 l2 _ _ rfl h2 HM2.out ((S2.out.alloc (Nat.le_refl _) _).alloc (by simp) _) ((HT4.out.alloc _).alloc _)).mono ?_
    rintro e w5 ⟨rfl, rfl⟩
    rw [Crc.add_append, ← HLB.out, ← Hq.out]
    go_wp2_with fail
    refine (crcAdd_any 0#32 A0 _ c0 l0 _ _ rfl h0 HM0.out ((S0.out.alloc (Nat.le_refl _) _).alloc (by simp) _) ((HT4.out.alloc _).alloc _)).mono ?_
    rintro e w5 ⟨rfl, rfl⟩
    go_wp2_with fail
    refine (crcOf_any _ 1 1 [l0] _ _ rfl (by decide) (by decide) (grid_one _ _ _ _ _ _ rfl h0 HM0.out ?g1 _ ?n1) ?t1).mono ?_
    case g1 => exact ((S0.out.alloc (Nat.le_refl _) _).alloc (by simp) _).mono (by simp; omega)
    case n1 => simp
    case t1 => exact ((HT4.out.alloc _).alloc _).alloc _
    rintro e w5 ⟨rfl, rfl⟩
    rw [show ([l0] : List (List UInt8)).flatten = l0 by simp]
    go_wp2
    go_ret
    exact ⟨rfl, ((HB.out.alloc hw4 _).alloc (by simp; omega) _).alloc (by simp; omega) _⟩
end Go.Proofs.YtfoddcelpgihfaaDoor
