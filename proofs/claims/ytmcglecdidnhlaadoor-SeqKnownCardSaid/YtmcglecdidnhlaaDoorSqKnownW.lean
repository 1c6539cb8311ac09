/- SeqKnown: the walk. -/
import Derived.Test.YtmcglecdidnhlaaDoorSqAwake
import Derived.Test.YtmcglecdidnhlaaDoorSqSame
namespace Go.Proofs.YtmcglecdidnhlaaDoor
open Go.RowKit
set_option linter.unusedVariables false
set_option maxRecDepth 100000

set_option maxHeartbeats 6400000 in
theorem seqKnown_walk (w : World) (h : SW w) : Calls Tryd.prog 3 #[] w fun e w' => e = .returned (.bool true) ∧ Below w.heap.size w w' := by
  have H0 := Lib.hid h
  have B0 := Lib.hid (Below.refl w.heap.size w)
  clear h
  go_enter Tryd.func3, Tryd.ntmps3
  go_wp2_with fail
  refine (awake_any w H0.out).mono ?_
  rintro e w1 ⟨rfl, b1⟩
  have H1 := Lib.hid (H0.out.below b1)
  have B1 := Lib.hid (B0.out.trans (b1.mono B0.out.size))
  clear b1 H0 B0
  go_wp2_with fail
  refine (parse_lit ⟨#[]⟩ _ _ (by decide) Sq.k1 0 rfl _ H1.out).mono ?_
  rintro e v1 ⟨A1, c1, rfl, hc1, hc2, hp1, b⟩
  obtain ⟨w2, Hw2⟩ : ∃ W, Hid (W = v1.alloc (.cells #[.slice A1 0 c1] 25)) := ⟨_, Lib.hid rfl⟩
  have hb : Below w1.heap.size w1 w2 := by rw [Hw2.out]; exact b.alloc b.size _
  have H2 := Lib.hid (H1.out.below hb)
  have B2 := Lib.hid (B1.out.trans (hb.mono B1.out.size))
  clear b hb hc1 hc2 hp1 H1 B1
  go_wp2_with fail
  rw [← Hw2.out]
  refine (parse_lit ⟨#[48, 49]⟩ _ _ (by decide) Sq.k2 0 rfl _ H2.out).mono ?_
  rintro e v2 ⟨A2, c2, rfl, hc1, hc2, hp2, b⟩
  obtain ⟨w3, Hw3⟩ : ∃ W, Hid (W = v2.alloc (.cells #[.slice A2 0 c2] 25)) := ⟨_, Lib.hid rfl⟩
  have hb : Below w2.heap.size w2 w3 := by rw [Hw3.out]; exact b.alloc b.size _
  have H3 := Lib.hid (H2.out.below hb)
  have B3 := Lib.hid (B2.out.trans (hb.mono B2.out.size))
  clear b hb hc1 hc2 hp2 H2 B2
  go_wp2_with fail
  rw [← Hw3.out]
  refine (parse_lit ⟨#[49, 58, 50, 58, 51]⟩ _ _ (by decide) Sq.k3 0 rfl _ H3.out).mono ?_
  rintro e v3 ⟨A3, c3, rfl, hc1, hc2, hp3, b⟩
  obtain ⟨w4, Hw4⟩ : ∃ W, Hid (W = v3.alloc (.cells #[.slice A3 0 c3] 25)) := ⟨_, Lib.hid rfl⟩
  have hb : Below w3.heap.size w3 w4 := by rw [Hw4.out]; exact b.alloc b.size _
  have H4 := Lib.hid (H3.out.below hb)
  have B4 := Lib.hid (B3.out.trans (hb.mono B3.out.size))
  clear b hb hc1 hc2 hp3 H3 B3
  go_wp2_with fail
  rw [← Hw4.out]
  refine (parse_lit ⟨#[49, 44]⟩ _ _ (by decide) Sq.k4 0 rfl _ H4.out).mono ?_
  rintro e v4 ⟨A4, c4, rfl, hc1, hc2, hp4, b⟩
  obtain ⟨w5, Hw5⟩ : ∃ W, Hid (W = v4.alloc (.cells #[.slice A4 0 c4] 25)) := ⟨_, Lib.hid rfl⟩
  have hb : Below w4.heap.size w4 w5 := by rw [Hw5.out]; exact b.alloc b.size _
  have H5 := Lib.hid (H4.out.below hb)
  have B5 := Lib.hid (B4.out.trans (hb.mono B4.out.size))
  clear b hb hc1 hc2 hp4 H4 B4
  go_wp2_with fail
  rw [← Hw5.out]
  refine (parse_lit ⟨#[52, 50, 57, 52, 57, 54, 55, 50, 57, 54]⟩ _ _ (by decide) Sq.k5 0 rfl _ H5.out).mono ?_
  rintro e v5 ⟨A5, c5, rfl, hc1, hc2, hp5, b⟩
  obtain ⟨w6, Hw6⟩ : ∃ W, Hid (W = v5.alloc (.cells #[.slice A5 0 c5] 25)) := ⟨_, Lib.hid rfl⟩
  have hb : Below w5.heap.size w5 w6 := by rw [Hw6.out]; exact b.alloc b.size _
  have H6 := Lib.hid (H5.out.below hb)
  have B6 := Lib.hid (B5.out.trans (hb.mono B5.out.size))
  clear b hb hc1 hc2 hp5 H5 B5
  go_wp2
  rw [← Hw6.out]
  go_loopw [11, 12] (fun b i wr => ∃ (k : Nat) (q : ByteArray), k ≤ 100 ∧ b = .string q ∧ i = .int .i64 k ∧ q.size ≤ 1 + 2 * k ∧ Hid (q.data.toList = Sq.longL k) ∧ wr = w6) (fun _ i _ => 100 - (intOf i).toNat)
  case atStart => exact ⟨0, ⟨#[49]⟩, Nat.zero_le _, rfl, rfl, by decide, Lib.hid rfl, rfl⟩
  case round =>
    obtain ⟨k, q, hk, rfl, rfl, hz, HQ, hwr⟩ := hrel
    replace hwr := hwr.symm
    subst hwr
    by_cases hlt : k < 100
    case pos =>
      have i1 : (k : Int) < 100 := by omega
      have z1 : ¬ 9223372036854775807 < q.size + 2 := by omega
      have HN : Hid ((q ++ ⟨#[44, 49]⟩ : ByteArray).data.toList = Sq.longL (k + 1)) := Lib.hid (by rw [ByteArray.data_append, Array.toList_append, HQ.out]; rfl)
      go_wp2
      refine ⟨⟨k + 1, q ++ ⟨#[44, 49]⟩, by omega, rfl, by go_num, by simp only [ByteArray.size_append]; have : (⟨#[44, 49]⟩ : ByteArray).size = 2 := rfl; omega, HN, by first | rfl | trivial⟩, by simp [intOf]; omega⟩
    obtain rfl : k = 100 := by omega
    have HL : Hid (Sq.parse q.data.toList = ([], 2)) := Lib.hid (by rw [HQ.out]; exact Sq.k6)
    have hz1 : q.size ≤ 1000000 := by omega
    go_wp2_with fail
    refine (parse_lit q _ _ hz1 HL.out 0 rfl _ H6.out).mono ?_
    rintro e v6 ⟨A6, c6, rfl, hc1, hc2, hp6, b⟩
    obtain ⟨w7, Hw7⟩ : ∃ W, Hid (W = v6.alloc (.cells #[.slice A6 0 c6] 25)) := ⟨_, Lib.hid rfl⟩
    have hb : Below w6.heap.size w6 w7 := by rw [Hw7.out]; exact b.alloc b.size _
    have H7 := Lib.hid (H6.out.below hb)
    have B7 := Lib.hid (B6.out.trans (hb.mono B6.out.size))
    clear b hb hc1 hc2 hp6 H6 B6
    go_wp2_with fail
    rw [← Hw7.out]
    refine (parse_lit ⟨#[42, 44, 55, 58, 42]⟩ _ _ (by decide) Sq.k7 2 rfl _ H7.out).mono ?_
    rintro e v7 ⟨A7, c7, rfl, hc1, hc2, hp7, b⟩
    obtain ⟨w8, Hw8⟩ : ∃ W, Hid (W = v7.alloc (.cells #[.slice A7 2 c7] 25)) := ⟨_, Lib.hid rfl⟩
    have hb : Below w7.heap.size w7 w8 := by rw [Hw8.out]; exact b.alloc b.size _
    have H8 := Lib.hid (H7.out.below hb)
    have B8 := Lib.hid (B7.out.trans (hb.mono B7.out.size))
    have hq : Below v7.heap.size v7 w8 := by rw [Hw8.out]; exact (Below.refl _ _).alloc (Nat.le_refl _) _
    have hx : Blk w8 v7.heap.size 25 #[.slice A7 2 c7] := by rw [Hw8.out]; exact Blk.new _ _ _
    have HA : Hid (∀ W : World, Below w8.heap.size w8 W → Pairs W W.heap.size A7 [(0, 0), (7, 0)] ∧ W.cell? ⟨v7.heap.size, 0, none⟩ = some (.slice A7 2 c7)) := Lib.hid (fun W hbW => ⟨((hp7.below hq (Nat.le_refl _)).below hbW hq.size).mono (Nat.le_trans hq.size hbW.size), (hx.below hbW hx.lt).cell 0 _ rfl⟩)
    clear hq hx
    clear b hb hc1 hc2 hp7 H7 B7
    go_wp2_with fail
    rw [← Hw8.out]
    have hsz : v7.heap.size + 1 = w8.heap.size := by rw [Hw8.out]; simp
    rw [hsz]
    clear hsz
    have hin := ints_new w8 2 [5, 3, 4, 9, 0, 3]
    have HIN : Hid (Ints (w8.alloc (.cells #[.int .i64 5, .int .i64 3, .int .i64 4, .int .i64 9, .int .i64 0, .int .i64 3] 2)) (w8.heap.size + 1) (some ⟨w8.heap.size, 0, none⟩) [5, 3, 4, 9, 0, 3]) := Lib.hid hin
    clear hin
    refine (of_lit [5, 3, 4, 9, 0, 3] _ Sq.k15 2 rfl 6 rfl (by decide) _ _ _ (HIN.out.mono (by simp))).mono ?_
    rintro e vz ⟨Az, cz, rfl, hc1, hc2, hpz, b⟩
    obtain ⟨wz, Hwz⟩ : ∃ W, Hid (W = vz.alloc (.cells #[.slice Az 2 cz] 25)) := ⟨_, Lib.hid rfl⟩
    have hb : Below w8.heap.size w8 wz := by rw [Hwz.out]; exact (((Below.refl _ w8).alloc (Nat.le_refl _) _).trans (b.mono (by simp))).alloc (Nat.le_trans (by simp) b.size) _
    have hq : Below vz.heap.size vz wz := by rw [Hwz.out]; exact (Below.refl _ _).alloc (Nat.le_refl _) _
    have hx : Blk wz vz.heap.size 25 #[.slice Az 2 cz] := by rw [Hwz.out]; exact Blk.new _ _ _
    have HC : Hid (∀ W : World, Below wz.heap.size wz W → (SW W ∧ Pairs W W.heap.size A7 [(0, 0), (7, 0)] ∧ Pairs W W.heap.size Az [(3, 5), (9, 9)] ∧ Below w.heap.size w W) ∧ W.cell? ⟨v7.heap.size, 0, none⟩ = some (.slice A7 2 c7) ∧ W.cell? ⟨vz.heap.size, 0, none⟩ = some (.slice Az 2 cz)) := Lib.hid (fun W hbW => by
      have h0 := hb.trans (hbW.mono hb.size)
      have h1 := HA.out W h0
      exact ⟨⟨H8.out.below h0, h1.1, ((hpz.below hq (Nat.le_refl _)).below hbW hq.size).mono (Nat.le_trans hq.size hbW.size), B8.out.trans (h0.mono B8.out.size)⟩, h1.2, (hx.below hbW hx.lt).cell 0 _ rfl⟩)
    have y1 : (vz.alloc (.cells #[.slice Az 2 cz] 25)).cell? ⟨v7.heap.size, 0, none⟩ = some (.slice A7 2 c7) := by rw [← Hwz.out]; exact (HC.out wz (Below.refl _ _)).2.1
    have q1 : ((⟨#[42, 44, 55, 58, 42]⟩ : ByteArray).toList == [42, 44, 55, 58, 42]) = true := by decide +kernel
    have q2 : ((⟨#[51, 58, 53, 44, 57]⟩ : ByteArray).toList == [51, 58, 53, 44, 57]) = true := by decide +kernel
    have q3 : ((⟨#[]⟩ : ByteArray).toList == []) = true := by decide +kernel
    have D0 := Lib.hid (Below.refl wz.heap.size wz)
    clear b hb hq hx hc1 hc2 hpz HIN HA
    go_wp2_with fail
    rw [← Hwz.out]
    have G0 := Lib.hid (HC.out wz D0.out).1
    clear y1
    refine (show_lit _ ⟨#[42, 44, 55, 58, 42]⟩ Sq.k8 2 rfl (by decide) A7 c7 wz G0.out.2.1 G0.out.1).mono ?_
    rintro e u1 ⟨rfl, b⟩
    have D1 : Hid (Below wz.heap.size wz u1) := Lib.hid (D0.out.trans (b.mono D0.out.size))
    obtain ⟨g, y15, y17⟩ := HC.out u1 D1.out
    have G1 := Lib.hid g
    clear g b
    go_wp2_with fail
    clear y15 y17
    refine (has_lit _ 8 9 true Sq.k9 2 rfl (by decide) A7 c7 u1 G1.out.2.1).mono ?_
    rintro e u2 ⟨rfl, b⟩
    have D2 : Hid (Below wz.heap.size wz u2) := Lib.hid (D1.out.trans (b.mono D1.out.size))
    obtain ⟨g, y15, y17⟩ := HC.out u2 D2.out
    have G2 := Lib.hid g
    clear g b
    go_wp2_with fail
    clear y15 y17
    refine (has_lit _ 5 5 true Sq.k10 2 rfl (by decide) A7 c7 u2 G2.out.2.1).mono ?_
    rintro e u3 ⟨rfl, b⟩
    have D3 : Hid (Below wz.heap.size wz u3) := Lib.hid (D2.out.trans (b.mono D2.out.size))
    obtain ⟨g, y15, y17⟩ := HC.out u3 D3.out
    have G3 := Lib.hid g
    clear g b
    go_wp2_with fail
    clear y15 y17
    refine (has_lit _ 6 5 true Sq.k11 2 rfl (by decide) A7 c7 u3 G3.out.2.1).mono ?_
    rintro e u4 ⟨rfl, b⟩
    have D4 : Hid (Below wz.heap.size wz u4) := Lib.hid (D3.out.trans (b.mono D3.out.size))
    obtain ⟨g, y15, y17⟩ := HC.out u4 D4.out
    have G4 := Lib.hid g
    clear g b
    go_wp2_with fail
    clear y15 y17
    refine (has_lit _ 4 5 false Sq.k12 2 rfl (by decide) A7 c7 u4 G4.out.2.1).mono ?_
    rintro e u5 ⟨rfl, b⟩
    have D5 : Hid (Below wz.heap.size wz u5) := Lib.hid (D4.out.trans (b.mono D4.out.size))
    obtain ⟨g, y15, y17⟩ := HC.out u5 D5.out
    have G5 := Lib.hid g
    clear g b
    have hin := ints_new u5 2 [2, 9, 4, 8]
    have HIN : Hid (Ints (u5.alloc (.cells #[.int .i64 2, .int .i64 9, .int .i64 4, .int .i64 8] 2)) (u5.heap.size + 1) (some ⟨u5.heap.size, 0, none⟩) [2, 9, 4, 8]) := Lib.hid hin
    obtain ⟨wi, Hwi⟩ : ∃ W, Hid (W = u5.alloc (.cells #[.int .i64 2, .int .i64 9, .int .i64 4, .int .i64 8] 2)) := ⟨_, Lib.hid rfl⟩
    have bi : Below u5.heap.size u5 wi := by rw [Hwi.out]; exact (Below.refl _ _).alloc (Nat.le_refl _) _
    have si : wi.heap.size = u5.heap.size + 1 := by rw [Hwi.out]; simp
    rw [← Hwi.out] at HIN
    have DI := Lib.hid (D5.out.trans (bi.mono D5.out.size))
    have PI := Lib.hid (And.intro (HC.out wi DI.out).1.2.1 (HIN.out.mono (Nat.le_of_eq si.symm)))
    clear hin HIN bi si
    go_wp2_with fail
    clear y15 y17
    rw [← Hwi.out]
    refine (pick_lit _ _ _ Sq.k13 2 rfl (by decide) 4 2 rfl (by decide) rfl A7 _ c7 4 wi PI.out.1 PI.out.2).mono ?_
    rintro e up ⟨Ap, cp, rfl, hc1, hc2, hpp, b⟩
    have DP := Lib.hid (DI.out.trans (b.mono DI.out.size))
    have hin := ints_new up 2 [9, 8]
    obtain ⟨wj, Hwj⟩ : ∃ W, Hid (W = up.alloc (.cells #[.int .i64 9, .int .i64 8] 2)) := ⟨_, Lib.hid rfl⟩
    have HIN : Hid (Ints (up.alloc (.cells #[.int .i64 9, .int .i64 8] 2)) (up.heap.size + 1) (some ⟨up.heap.size, 0, none⟩) [9, 8]) := Lib.hid hin
    have bj : Below up.heap.size up wj := by rw [Hwj.out]; exact (Below.refl _ _).alloc (Nat.le_refl _) _
    have sj : wj.heap.size = up.heap.size + 1 := by rw [Hwj.out]; simp
    rw [← Hwj.out] at HIN
    have DJ := Lib.hid (DP.out.trans (bj.mono DP.out.size))
    have PJ := Lib.hid (And.intro ((hpp.below bj (Nat.le_refl _)).mono bj.size) (HIN.out.mono (Nat.le_of_eq sj.symm)))
    clear hin HIN bj sj hc1 hc2 hpp b
    go_wp2_with fail
    rw [← Hwj.out]
    refine (longs_same Ap _ 2 cp 2 [9, 8] wj rfl PJ.out.1 PJ.out.2 (by decide)).mono ?_
    rintro e ur ⟨rfl, b⟩
    have DR : Hid (Below wz.heap.size wz ur) := Lib.hid (DJ.out.trans (b.mono DJ.out.size))
    obtain ⟨g, y15, y17⟩ := HC.out ur DR.out
    have GR := Lib.hid g
    clear g b
    go_wp2_with fail
    clear y15 y17
    refine (pick_lit _ [] [] Sq.k14 2 rfl (by decide) 0 0 rfl (by decide) rfl A7 none c7 0 ur GR.out.2.1 (Ints.nil _ _ _)).mono ?_
    rintro e us ⟨As, cs, rfl, hc1, hc2, hps, b⟩
    have DS : Hid (Below wz.heap.size wz us) := Lib.hid (DR.out.trans (b.mono DR.out.size))
    obtain ⟨g, y15, y17⟩ := HC.out us DS.out
    have GS := Lib.hid g
    clear g b hc1 hc2 hps
    go_wp2_with fail
    clear y15 y17
    refine (show_lit _ ⟨#[51, 58, 53, 44, 57]⟩ Sq.k16 2 rfl (by decide) Az cz us GS.out.2.2.1 GS.out.1).mono ?_
    rintro e ut ⟨rfl, b⟩
    have DT : Hid (Below wz.heap.size wz ut) := Lib.hid (DS.out.trans (b.mono DS.out.size))
    obtain ⟨g, y15, y17⟩ := HC.out ut DT.out
    have GT := Lib.hid g
    clear g b
    go_wp2_with fail
    clear y15 y17
    refine (show_lit [] ⟨#[]⟩ Sq.k17 0 rfl (by decide) none 0 ut (Pairs.nil _ _ _) GT.out.1).mono ?_
    rintro e uu ⟨rfl, b⟩
    have DU : Hid (Below wz.heap.size wz uu) := Lib.hid (DT.out.trans (b.mono DT.out.size))
    obtain ⟨g, y15, y17⟩ := HC.out uu DU.out
    have GU := Lib.hid g
    clear g b
    go_wp2_with fail
    clear y15 y17
    refine (has_lit [] 1 1 false Sq.k18 0 rfl (by decide) none 0 uu (Pairs.nil _ _ _)).mono ?_
    rintro e ux ⟨rfl, b⟩
    have DX : Hid (Below wz.heap.size wz ux) := Lib.hid (DU.out.trans (b.mono DU.out.size))
    obtain ⟨g, y15, y17⟩ := HC.out ux DX.out
    have GX := Lib.hid g
    clear g b
    go_wp2_with fail
    clear y15 y17
    refine (has_lit _ 0 0 false Sq.k19 2 rfl (by decide) A7 c7 ux GX.out.2.1).mono ?_
    rintro e uy ⟨rfl, b⟩
    have HE := Lib.hid ((HC.out uy (DX.out.trans (b.mono DX.out.size))).1.2.2.2)
    clear b
    go_wp2
    go_ret
    exact ⟨rfl, HE.out⟩
end Go.Proofs.YtmcglecdidnhlaaDoor
