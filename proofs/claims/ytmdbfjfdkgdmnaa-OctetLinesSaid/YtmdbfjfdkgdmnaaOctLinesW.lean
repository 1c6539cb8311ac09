/- The walk of OctetLines. -/
import Derived.Test.YtmdbfjfdkgdmnaaOctAwake
import Derived.Test.YtmdbfjfdkgdmnaaOctLines
import Derived.WalkSpells
namespace Go.Proofs.Ytmdbfjfdkgdmnaa
open Go.RowKit

set_option maxHeartbeats 800000 in
set_option maxRecDepth 100000 in
theorem octetLines_walk (A0 : Option Addr) (n0 c0 : Nat) (l0 : List UInt8) (e0 : n0 = l0.length) (h0 : n0 ≤ c0) (_m0 : c0 ≤ maxLen) (A1 : Option Addr) (n1 c1 : Nat) (l1 : List UInt8) (e1 : n1 = l1.length) (h1 : n1 ≤ c1) (m1 : c1 ≤ maxLen) (w : World)
    (s0 : Sees w w.heap.size A0 l0) (s1 : Sees w w.heap.size A1 l1) (hm : ∃ m, w.cell? ⟨0, 0, none⟩ = some (.int .i64 m)) :
    Calls Try.prog 5 #[.slice A0 n0 c0, .slice A1 n1 c1] w fun e w' => e = .returned (.bool true) ∧ Below w.heap.size w w' := by
  subst e0 e1
  obtain ⟨m, hm⟩ := hm
  unfold maxLen at m1
  obtain ⟨i0, hi, hz0, hz1, hz2⟩ := info_parts Try.infoByte
  by_cases hb0 : 200 < (l0.length : Int)
  · go_enter Try.func5, Try.ntmps5
    go_wp2_with (go_at_call 6; refine (awake_any _).mono ?_; rintro e w1 ⟨rfl, hb1⟩)
    go_ret
    exact ⟨rfl, hb1⟩
  · by_cases hb1 : 200 < (l1.length : Int)
    · go_enter Try.func5, Try.ntmps5
      go_wp2_with (go_at_call 6; refine (awake_any _).mono ?_; rintro e w1 ⟨rfl, hb1⟩)
      go_ret
      exact ⟨rfl, hb1⟩
    · go_enter Try.func5, Try.ntmps5
      go_wp2_with fail
      refine (awake_any _).mono ?_
      rintro e w1 ⟨rfl, hb1⟩
      have hw1 := hb1.size
      have hown0 : (w1.alloc (.cells #[] 5)).ownsRow w1.heap.size 5 1 (.slice (some ⟨w1.heap.size, 0, none⟩) 0 0) ([] : List UInt8).length (bv []) := World.ownsRow_lit w1 #[] 0 (Nat.le_refl _) (by decide) rfl
      have hs0 : Sees (w1.alloc (.cells #[] 5)) w1.heap.size A0 l0 := ((s0.below hb1 (Nat.le_refl _)).mono hw1).below ((Below.refl _ _).alloc (Nat.le_refl _) _) (Nat.le_refl _)
      go_wp2_with (at_builtin; (refine wpList_append_sees rfl _ _ 30 rfl _ w1.heap.size 5 i0 (.int .u8 0) 1 Try.underlying30 hi hz0 hz1 hz2 rfl _ [] rfl (by exact hown0) w1.heap.size A0 l0 l0.length c0 rfl rfl hs0 ?k1 ?k2 ?k3 ?_))
      case k1 => simp [maxLen]; omega
      case k2 => simp; omega
      case k3 => simp
      intro v2 w2 hown2 hg2 hb2
      obtain ⟨hb2', hw2⟩ := below_past (B := w.heap.size) hb2 hw1 hw1
      have hs13 : Sees (w2.alloc (.cells #[.int .u8 13, .int .u8 10] 5)) (w2.heap.size + 1) (some ⟨w2.heap.size, 0, none⟩) [13, 10] := Sees.new _ _ _ _ rfl
      have hown2a := hown2.alloc (.cells #[.int .u8 13, .int .u8 10] 5)
      go_wp2_with (at_builtin; (refine wpList_append_sees rfl _ _ 30 rfl _ w1.heap.size 5 i0 (.int .u8 0) 1 Try.underlying30 hi hz0 hz1 hz2 rfl _ l0 rfl (by exact hown2a) _ _ [13, 10] 2 2 rfl rfl hs13 ?k1 ?k2 ?k3 ?_))
      case k1 => simp [maxLen]; omega
      case k2 => simp; omega
      case k3 => simp; omega
      intro v3 w3 hown3 hg3 hb3
      obtain ⟨hb3', hw3⟩ := below_past (B := w.heap.size) hb3 hw1 (by omega)
      obtain ⟨lc, HLC⟩ : ∃ lc : List UInt8, Hid (lc = l0 ++ [13, 10]) := ⟨_, Lib.hid rfl⟩
      have hown3' : w3.ownsRow w1.heap.size 5 1 v3 lc.length (bv lc) := by rw [HLC.out]; simpa using hown3
      have hlc : lc.length = l0.length + 2 := by rw [HLC.out]; simp
      have hlc1 : lc.length ≤ 202 := by omega
      have hlc2 : 0 < lc.length := by omega
      clear hlc hown3 hown2 hown2a hown0 hs13 hs0 hg2 hg3
      obtain ⟨g3, cap3, rfl, hg3b, hg3l, hc3, hm3⟩ := own_form hown3' hlc2
      have hs3 : Sees w3 w3.heap.size (some ⟨g3, 0, none⟩) lc := Sees.of_own hown3'
      have hb03 : Below w.heap.size w w3 := hb1.trans (hb2'.trans hb3')
      have hown4 : (w3.alloc (.cells #[] 5)).ownsRow w3.heap.size 5 1 (.slice (some ⟨w3.heap.size, 0, none⟩) 0 0) ([] : List UInt8).length (bv []) := World.ownsRow_lit w3 #[] 0 (Nat.le_refl _) (by decide) rfl
      have hs4 : Sees (w3.alloc (.cells #[] 5)) w3.heap.size (some ⟨g3, 0, none⟩) lc := hs3.below ((Below.refl _ _).alloc (Nat.le_refl _) _) (Nat.le_refl _)
      go_wp2_with (at_builtin; (refine wpList_append_sees rfl _ _ 30 rfl _ w3.heap.size 5 i0 (.int .u8 0) 1 Try.underlying30 hi hz0 hz1 hz2 rfl _ [] rfl (by exact hown4) _ _ lc lc.length cap3 rfl rfl hs4 ?k1 ?k2 ?k3 ?_))
      case k1 => simp [maxLen]; omega
      case k2 => simp; omega
      case k3 => simp
      intro v4 w4 hown4' hg4 hb4
      obtain ⟨hb4', hw4⟩ := below_past (B := w.heap.size) hb4 (by omega) (by omega)
      have hs5 : Sees w4 w.heap.size A1 l1 := s1.below (hb03.trans hb4') (Nat.le_refl _)
      have hb34 : Below w3.heap.size w3 w4 := (below_past hb4 (Nat.le_refl _) (Nat.le_refl _)).1
      have hs3' : Sees w4 w3.heap.size (some ⟨g3, 0, none⟩) lc := hs3.below hb34 (Nat.le_refl _)
      clear hown4 hs4 hown3' hs3 hg4 hb4
      go_wp2_with (at_builtin; (refine wpList_append_sees rfl _ _ 30 rfl _ w3.heap.size 5 i0 (.int .u8 0) 1 Try.underlying30 hi hz0 hz1 hz2 rfl _ lc rfl (by exact hown4') _ _ l1 l1.length c1 rfl rfl hs5 ?k1 ?k2 ?k3 ?_))
      case k1 => simp [maxLen]; omega
      case k2 => simp; omega
      case k3 => omega
      intro v5 w5 hown5 hg5 hb5
      have hw5 := hb5.size
      obtain ⟨lb, HLB⟩ : ∃ lb : List UInt8, Hid (lb = lc ++ l1) := ⟨_, Lib.hid rfl⟩
      have hown5' : w5.ownsRow w3.heap.size 5 1 v5 lb.length (bv lb) := by rw [HLB.out]; simpa using hown5
      have hlb : lb.length = lc.length + l1.length := by rw [HLB.out]; simp
      have hlb1 : lb.length ≤ 402 := by omega
      have hlb2 : 0 < lb.length := by omega
      clear hlb hown5 hown4' hg5
      obtain ⟨g5, cap5, rfl, hg5b, hg5l, hc5, hm5⟩ := own_form hown5' hlb2
      have hs6 : Sees w5 w5.heap.size (some ⟨g5, 0, none⟩) lb := Sees.of_own hown5'
      have hb05 : Below w.heap.size w w5 := (hb03.trans hb4').trans (hb5.mono (by omega))
      have hmg := World.block_lt_of_cell? w _ hm
      have hm5' : w5.cell? ⟨0, 0, none⟩ = some (.int .i64 m) := (hb05.cell (p := ⟨0, 0, none⟩) hmg).trans hm
      have HM5 := Lib.hid hm5'
      clear hm5'
      go_wp2_with fail
      have hcount : (Oct.lines lb).length = (Oct.lines lc).length + (Oct.lines l1).length := by
        have h := Oct.lines_append l0.length l0 l1 (Nat.le_refl _)
        rw [HLB.out, HLC.out, List.append_assoc]
        show (Oct.lines (l0 ++ 13 :: 10 :: l1)).length = _
        rw [h, List.length_append]
      have hnb := lines_le lb
      have HC := Lib.hid hcount
      clear hcount
      refine (lines_any _ cap5 lb m w5 hs6 hc5 (by omega) HM5.out hm5).mono ?_
      rintro e w6 ⟨v6, vs6, rfl, hown6, _, hb6⟩
      obtain ⟨A6, c6, rfl, _, _⟩ := own_shape hown6
      clear hown6
      have hb6' : Below w.heap.size w5 w6 := hb6.mono hb05.size
      have HM6 := Lib.hid ((hb6.cell (p := ⟨0, 0, none⟩) (Nat.lt_of_lt_of_le hmg hb05.size)).trans HM5.out)
      have hs6c : Sees w6 w6.heap.size (some ⟨g3, 0, none⟩) lc := ((hs3'.below hb5 (Nat.le_refl _)).below hb6 (by omega)).mono (by have := hb6.size; omega)
      go_wp2_with fail
      refine (lines_any _ cap3 lc m w6 hs6c hc3 (by omega) HM6.out hm3).mono ?_
      rintro e w7 ⟨v7, vs7, rfl, hown7, _, hb7⟩
      obtain ⟨A7, c7, rfl, _, _⟩ := own_shape hown7
      clear hown7
      have hb06 : Below w.heap.size w w6 := hb05.trans hb6'
      have hb07 : Below w.heap.size w w7 := hb06.trans (hb7.mono hb06.size)
      have HM7 := Lib.hid ((hb7.cell (p := ⟨0, 0, none⟩) (Nat.lt_of_lt_of_le hmg hb06.size)).trans HM6.out)
      have hs7 : Sees w7 w7.heap.size A1 l1 := (s1.below hb07 (Nat.le_refl _)).mono hb07.size
      have hnc := lines_le lc
      have hn1 := lines_le l1
      go_wp2_with fail
      refine (lines_any _ c1 l1 m w7 hs7 h1 (by omega) HM7.out (by unfold maxLen; omega)).mono ?_
      rintro e w8 ⟨v8, vs8, rfl, hown8, _, hb8⟩
      obtain ⟨A8, c8, rfl, _, _⟩ := own_shape hown8
      clear hown8
      generalize (Oct.lines lb).length = x at HC hnb ⊢
      generalize (Oct.lines lc).length = y at HC hnc ⊢
      generalize (Oct.lines l1).length = z at HC hn1 ⊢
      have heq : ((x : Int) == (y : Int) + (z : Int)) = true := by
        have := HC.out
        simp; omega
      clear HC
      go_wp2
      go_ret
      exact ⟨rfl, hb07.trans (hb8.mono hb07.size)⟩
end Go.Proofs.Ytmdbfjfdkgdmnaa
