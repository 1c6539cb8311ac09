/- KvPlays: the walk. -/
import Derived.Test.YtgpkdnnlgafenaaKvPlB
namespace Go.Proofs.Ytgpkdnnlgafenaa
open Go.RowKit Kv
set_option linter.unusedVariables false
set_option maxRecDepth 100000

theorem putss_at {w w' : World} {B : Nat} {A : Option Addr} {ls : List (List Pt)} (h : Putss w B [] A ls) (hb : Below B w w') (hB : B ≤ w'.heap.size) : Putss w' w'.heap.size [] A ls := fun hn => by
  obtain ⟨g, o, e, h1, h2, h3⟩ := h hn
  refine ⟨g, o, e, by omega, h2, fun j hj => ?_⟩
  obtain ⟨A', c', k1, k2, k3, k4⟩ := h3 j hj
  refine ⟨A', c', (hb.cell (p := ⟨g, o + j, none⟩) h1).trans k1, k2, k3, fun hn2 => ?_⟩
  obtain ⟨g2, o2, e2, q1, q2, q3⟩ := k4 hn2
  refine ⟨g2, o2, e2, by omega, q2, fun i hi => ?_⟩
  obtain ⟨r1, ⟨A2, c2, r2, r3, r4, r5⟩, r6⟩ := q3 i hi
  refine ⟨(hb.cell (p := ⟨g2, o2 + i * 3, none⟩) q1).trans r1, ⟨A2, c2, (hb.cell (p := ⟨g2, o2 + i * 3 + 1, none⟩) q1).trans r2, r3, r4, fun hn3 => ?_⟩, (hb.cell (p := ⟨g2, o2 + i * 3 + 2, none⟩) q1).trans r6⟩
  obtain ⟨g3, o3, e3, s1, s2, s3⟩ := r5 hn3
  exact ⟨g3, o3, e3, by omega, s2, fun q hq => (hb.cell (p := ⟨g3, o3 + q, none⟩) s1).trans (s3 q hq)⟩
theorem nextM_length (m : List Pr) (l : List Pt) : (nextM m l).length ≤ m.length + l.length := by
  unfold nextM
  split
  · exact steps_length l m
  · omega

set_option maxHeartbeats 12800000 in
theorem kvPlays_walk (a0 : Option Addr) (len0 cap0 : Nat) (l0 : List (List Pt)) (len_l0 : len0 = l0.length) (cap_l0 : len0 ≤ cap0) (max_l0 : cap0 ≤ maxLen) (kz0 : ∀ l ∈ l0, ∀ x ∈ l, x.k.size ≤ maxLen) (fr : ByteArray) (wfr : fr.size ≤ maxLen) (to : ByteArray) (wto : to.size ≤ maxLen) (most : Int) (wmost : (Lit.int .i64 most).wf = true) (a4 : Option Addr) (len4 cap4 : Nat) (bl : List UInt8) (len_l4 : len4 = bl.length) (cap_l4 : len4 ≤ cap4) (max_l4 : cap4 ≤ maxLen) (w : World) (hpp : Putss w w.heap.size [] a0 l0) (hs4 : Sees w w.heap.size a4 bl) :
    Calls Try.prog 4 #[.slice a0 len0 cap0, .string fr, .string to, .int .i64 most, .slice a4 len4 cap4] w fun e w' => e = .returned (.bool true) ∧ Below w.heap.size w w' := by
  subst len_l0 len_l4
  have HMOST : Hid (-9223372036854775808 ≤ most ∧ most ≤ 9223372036854775807) := Lib.hid (by
    have h0 : IntKind.i64.min = -9223372036854775808 := rfl
    have h1 : IntKind.i64.max = 9223372036854775807 := rfl
    simp [Lit.wf, h0, h1] at wmost
    omega)
  have HPP := Lib.hid hpp
  have HKZ := Lib.hid kz0
  have HS4 := Lib.hid (And.intro cap_l4 (And.intro max_l4 hs4))
  have HAW := Lib.hid (kvAwake_any w)
  have HM0 : Hid (l0.length ≤ maxLen) := Lib.hid (Nat.le_trans cap_l0 max_l0)
  clear hpp kz0 hs4 wmost wfr wto cap_l4 max_l4 cap_l0 max_l0
  go_enter Try.func4, Try.ntmps4
  go_wp2_with fail
  refine HAW.out.mono ?_
  rintro e w1 ⟨rfl, hb1⟩
  have HB1 := Lib.hid hb1
  obtain ⟨lb, Hlb⟩ : ∃ lb, Hid (lb = lightB l0) := ⟨_, Lib.hid rfl⟩
  have HLI := Lib.hid (light_any w1 a0 l0.length cap0 l0 [] rfl HM0.out (putss_at HPP.out hb1 hb1.size) HKZ.out lb Hlb.out)
  clear hb1 HAW
  go_wp2_with fail
  refine HLI.out.mono ?_
  rintro e w1' ⟨rfl, rfl⟩
  clear HLI
  cases lb with
  | false =>
    go_wp2
    go_ret
    exact ⟨rfl, HB1.out⟩
  | true =>
  have HLB : Hid (l0.length ≤ 20 ∧ ∀ l ∈ l0, l.length ≤ 8) := Lib.hid (by
    have := Hlb.out.symm
    simp only [lightB, Bool.and_eq_true, decide_eq_true_eq, List.all_eq_true] at this
    refine ⟨this.1, fun l hl => ?_⟩
    have h2 := this.2 l hl
    simp only [lightR, Bool.and_eq_true, decide_eq_true_eq] at h2
    exact h2.1)
  by_cases h1 : fr.size ≤ 300
  case neg =>
    have i1 : (300 : Int) < (fr.size : Int) := by omega
    have i2 : 300 < fr.size := by omega
    go_wp2
    go_ret
    exact ⟨rfl, HB1.out⟩
  have i1 : ¬ (300 : Int) < (fr.size : Int) := by omega
  have i2 : ¬ 300 < fr.size := by omega
  by_cases h2 : to.size ≤ 300
  case neg =>
    have i3 : (300 : Int) < (to.size : Int) := by omega
    have i4 : 300 < to.size := by omega
    go_wp2
    go_ret
    exact ⟨rfl, HB1.out⟩
  have i3 : ¬ (300 : Int) < (to.size : Int) := by omega
  have i4 : ¬ 300 < to.size := by omega
  by_cases h3 : bl.length ≤ 600
  case neg =>
    have i5 : (600 : Int) < (bl.length : Int) := by omega
    have i6 : 600 < bl.length := by omega
    go_wp2
    go_ret
    exact ⟨rfl, HB1.out⟩
  have i5 : ¬ (600 : Int) < (bl.length : Int) := by omega
  have i6 : ¬ 600 < bl.length := by omega
  have HNEW := Lib.hid (law_kvnew (B := w.heap.size) (w0 := w) HB1.out HB1.out.size)
  go_wp2_with fail
  refine HNEW.out.mono ?_
  rintro e w2 ⟨t, rfl, k1, k2, _⟩
  obtain ⟨u, Hu⟩ : ∃ u, Hid (u = w2.heap.size) := ⟨_, Lib.hid rfl⟩
  obtain ⟨w3, Hw3⟩ : ∃ w3, Hid (w3 = w2.alloc (.cells #[.slice none 0 0] 45)) := ⟨_, Lib.hid rfl⟩
  have hb3 : Below w2.heap.size w2 w3 := by rw [Hw3.out]; exact (Below.refl _ _).alloc (Nat.le_refl _) _
  have HPL0 : Hid (Pl w.heap.size w w3 t u [] []) := Lib.hid ⟨⟨_, k1.below hb3⟩, ⟨_, ⟨by rw [Hw3.out, Hu.out]; exact heap_alloc_new w2 _, World.ownsRow_nil _ 0 _ _⟩⟩, by rw [Hu.out]; exact k1.size⟩
  clear k1 k2 hb3 HNEW
  go_wp2
  rw [← Hw3.out, ← Hu.out]
  go_loopw [13] (fun i wr => ∃ (k : Nat) (m : List Pr), k ≤ l0.length ∧ i = .int .i64 k ∧ m.length ≤ 8 * k ∧ Hid (Pl w.heap.size w wr t u m m)) (fun i _ => l0.length - (intOf i).toNat)
  case atStart => exact ⟨0, [], Nat.zero_le _, rfl, by simp, HPL0⟩
  case round =>
    obtain ⟨k, m, hk, rfl, hm, HPL⟩ := hrel
    by_cases hlt : k < l0.length
    case pos =>
      obtain ⟨g, o, rfl, hg, _, hat⟩ := HPP.out (by intro e; rw [e] at hlt; simp at hlt)
      obtain ⟨A', c', hc, hc1, hc2, hps⟩ := hat k hlt
      have hl8 := HLB.out.2 l0[k] (List.getElem_mem hlt)
      have hkz := HKZ.out l0[k] (List.getElem_mem hlt)
      have h20 := HLB.out.1
      obtain ⟨l, Hl⟩ : ∃ l, Hid (l = l0[k]) := ⟨_, Lib.hid rfl⟩
      rw [← Hl.out] at hc hps hl8 hkz
      have iN : (k : Int) < (l0.length : Int) := by omega
      have iz : (0 : Int) ≤ (k : Int) := by omega
      have HC := Lib.hid (And.intro hg (And.intro hc (And.intro hps hkz)))
      clear hat hc hps hkz hc1 hc2 hg
      go_wp2
      refine p9_run w.heap.size w t u m l g o k l0.length cap0 c' A' (by omega) hl8 HC.out.2.2.1 HC.out.2.2.2 HC.out.1 HC.out.2.1 iN HPL.out (by show 84 < 229; omega) rfl rfl rfl rfl ?_
      intro af wN hfr h84 hpl2
      have HPL2 := Lib.hid hpl2
      clear hpl2
      have ha := hfr.eq (by intro t ht; simp at ht; show t < 229; omega)
      simp only [List.foldl_cons, List.foldl_nil] at ha
      clear hfr
      rw [h84] at ha
      clear h84
      generalize af.eval (.tmp 55) = u55 at ha
      generalize af.eval (.tmp 56) = u56 at ha
      generalize af.eval (.tmp 57) = u57 at ha
      generalize af.eval (.tmp 58) = u58 at ha
      generalize af.eval (.tmp 59) = u59 at ha
      generalize af.eval (.tmp 60) = u60 at ha
      generalize af.eval (.tmp 61) = u61 at ha
      generalize af.eval (.tmp 62) = u62 at ha
      generalize af.eval (.tmp 63) = u63 at ha
      generalize af.eval (.tmp 64) = u64 at ha
      generalize af.eval (.tmp 65) = u65 at ha
      generalize af.eval (.tmp 66) = u66 at ha
      generalize af.eval (.tmp 67) = u67 at ha
      generalize af.eval (.tmp 68) = u68 at ha
      generalize af.eval (.tmp 69) = u69 at ha
      generalize af.eval (.tmp 70) = u70 at ha
      generalize af.eval (.tmp 71) = u71 at ha
      generalize af.eval (.tmp 72) = u72 at ha
      generalize af.eval (.tmp 73) = u73 at ha
      generalize af.eval (.tmp 74) = u74 at ha
      generalize af.eval (.tmp 75) = u75 at ha
      generalize af.eval (.tmp 76) = u76 at ha
      generalize af.eval (.tmp 77) = u77 at ha
      generalize af.eval (.tmp 78) = u78 at ha
      generalize af.eval (.tmp 79) = u79 at ha
      generalize af.eval (.tmp 80) = u80 at ha
      generalize af.eval (.tmp 81) = u81 at ha
      generalize af.eval (.tmp 82) = u82 at ha
      generalize af.eval (.tmp 83) = u83 at ha
      subst ha
      simp only [Act.put, List.setIfInBounds_toArray, List.set_cons_zero, List.set_cons_succ]
      obtain ⟨M, HM⟩ : ∃ M, Hid (M = nextM m l) := ⟨_, Lib.hid rfl⟩
      rw [← HM.out] at HPL2
      have hM : M.length ≤ 8 * (k + 1) := by have := nextM_length m l; rw [HM.out]; omega
      obtain ⟨F, hT⟩ := HPL2.out.tab
      have HGET := Lib.hid (get_any wN t M F fr hT.tab hT.asc (by omega) hT.good)
      have HGOOD := Lib.hid hT.good
      clear hT
      go_wp2_with fail
      refine HGET.out.mono ?_
      rintro e wG ⟨AG, nG, cG, rfl, rfl, _, _, hrow, hbG⟩
      have HPL3 := Lib.hid (HPL2.out.below hbG)
      obtain ⟨v, hv⟩ := HPL3.out.ref
      have HRG := Lib.hid (rget_any wG u v M fr hv (by omega))
      obtain ⟨hh, Hh⟩ : ∃ hh, Hid (hh = hit M fr) := ⟨_, Lib.hid rfl⟩
      obtain ⟨gv, Hgv⟩ : ∃ gv, Hid (gv = got M fr) := ⟨_, Lib.hid rfl⟩
      unfold RGetEnd at HRG
      rw [← Hh.out, ← Hgv.out] at HRG ⊢
      rw [← Hgv.out] at hrow
      have HROW := Lib.hid hrow.sees
      clear HGET hrow hbG hv
      go_wp2_with fail
      refine HRG.out.mono ?_
      rintro e wR ⟨rfl, hbR⟩
      have HPL4 := Lib.hid (HPL3.out.below hbR)
      have HSEE := Lib.hid ((HROW.out.below hbR (Nat.le_refl _)).mono hbR.size)
      obtain ⟨v4, hv4⟩ := HPL4.out.ref
      obtain ⟨Au, cu, rfl, _, _⟩ := hv4.row.shape
      have HV4 := Lib.hid hv4
      clear HRG hbR hv4
      go_wp2
      refine p13_run w.heap.size w t u M fr to most gv AG Au cG cu hh (by omega) HMOST.out HPL4.out HGOOD.out HV4.out HSEE.out (by show 138 < 229; omega) rfl rfl rfl rfl rfl rfl rfl rfl rfl ?_
      intro af wQ hfr h138 hpl5
      have HPL5 := Lib.hid hpl5
      clear hpl5
      have ha := hfr.eq (by intro t ht; simp at ht; show t < 229; omega)
      simp only [List.foldl_cons, List.foldl_nil] at ha
      clear hfr
      rw [h138] at ha
      clear h138
      generalize af.eval (.tmp 97) = u97 at ha
      generalize af.eval (.tmp 98) = u98 at ha
      generalize af.eval (.tmp 99) = u99 at ha
      generalize af.eval (.tmp 100) = u100 at ha
      generalize af.eval (.tmp 101) = u101 at ha
      generalize af.eval (.tmp 102) = u102 at ha
      generalize af.eval (.tmp 103) = u103 at ha
      generalize af.eval (.tmp 104) = u104 at ha
      generalize af.eval (.tmp 105) = u105 at ha
      generalize af.eval (.tmp 106) = u106 at ha
      generalize af.eval (.tmp 107) = u107 at ha
      generalize af.eval (.tmp 108) = u108 at ha
      generalize af.eval (.tmp 109) = u109 at ha
      generalize af.eval (.tmp 110) = u110 at ha
      generalize af.eval (.tmp 111) = u111 at ha
      generalize af.eval (.tmp 112) = u112 at ha
      generalize af.eval (.tmp 113) = u113 at ha
      generalize af.eval (.tmp 114) = u114 at ha
      generalize af.eval (.tmp 115) = u115 at ha
      generalize af.eval (.tmp 116) = u116 at ha
      generalize af.eval (.tmp 117) = u117 at ha
      generalize af.eval (.tmp 118) = u118 at ha
      generalize af.eval (.tmp 119) = u119 at ha
      generalize af.eval (.tmp 120) = u120 at ha
      generalize af.eval (.tmp 121) = u121 at ha
      generalize af.eval (.tmp 122) = u122 at ha
      generalize af.eval (.tmp 123) = u123 at ha
      generalize af.eval (.tmp 124) = u124 at ha
      generalize af.eval (.tmp 125) = u125 at ha
      generalize af.eval (.tmp 126) = u126 at ha
      generalize af.eval (.tmp 127) = u127 at ha
      generalize af.eval (.tmp 128) = u128 at ha
      generalize af.eval (.tmp 129) = u129 at ha
      generalize af.eval (.tmp 130) = u130 at ha
      generalize af.eval (.tmp 131) = u131 at ha
      generalize af.eval (.tmp 132) = u132 at ha
      generalize af.eval (.tmp 133) = u133 at ha
      generalize af.eval (.tmp 134) = u134 at ha
      generalize af.eval (.tmp 135) = u135 at ha
      generalize af.eval (.tmp 136) = u136 at ha
      generalize af.eval (.tmp 137) = u137 at ha
      subst ha
      simp only [Act.put, List.setIfInBounds_toArray, List.set_cons_zero, List.set_cons_succ]
      go_wp2
      go_roundw
      case rel => exact ⟨k + 1, M, by omega, by go_num, hM, HPL5⟩
      case measure => simp [intOf]; omega
    obtain rfl : k = l0.length := by omega
    have HB0 : Hid (∀ W, Below wr.heap.size wr W → Below w.heap.size w W ∧ Sees W W.heap.size a4 bl) := Lib.hid (fun W hb => by
      have h0 := HPL.out.bel.trans (hb.mono HPL.out.size)
      exact ⟨h0, (HS4.out.2.2.below h0 (Nat.le_refl _)).mono h0.size⟩)
    have HDEC := Lib.hid (decode_any wr a4 bl.length cap4 bl rfl HS4.out.1 HS4.out.2.1 (by omega) (HB0.out wr (Below.refl _ _)).2)
    clear HPL
    go_wp2_with fail
    refine HDEC.out.mono ?_
    intro e wd1 hd1
    unfold DecEnd at hd1
    have HBL : Hid (bl.length ≤ 600) := Lib.hid h3
    cases hd : decP bl with
    | none =>
      rw [hd] at hd1
      obtain ⟨rfl, hb1⟩ := hd1
      have hlm : loadM bl = none := by unfold loadM; rw [hd]
      have HD1 := Lib.hid hb1
      have HRD := Lib.hid (rdecode_any wd1 a4 bl.length cap4 bl rfl HS4.out.1 HS4.out.2.1 (by omega) (HB0.out wd1 hb1).2)
      unfold RDecEnd at HRD
      rw [hd] at HRD
      have HLO := Lib.hid (fun W (hb : Below wr.heap.size wr W) => load_any W a4 bl.length cap4 bl rfl HS4.out.1 HS4.out.2.1 (by omega) (HB0.out W hb).2 (fun L hL => by rw [hd] at hL; cases hL))
      unfold LoadEnd at HLO
      rw [hlm] at HLO
      have HRL := Lib.hid (fun W (hb : Below wr.heap.size wr W) => rload_any W a4 bl.length cap4 bl rfl HS4.out.1 HS4.out.2.1 (by omega) (HB0.out W hb).2)
      unfold RLoadEnd at HRL
      rw [hlm] at HRL
      clear hd hlm hb1 HDEC
      go_wp2_with fail
      refine HRD.out.mono ?_
      rintro e wd2 ⟨hb2, v, rfl⟩
      have HD2 := Lib.hid (HD1.out.trans (hb2.mono HD1.out.size))
      clear hb2 HRD
      go_wp2_with fail
      refine (HLO.out wd2 HD2.out).mono ?_
      rintro e wd3 ⟨rfl, hb3⟩
      have HD3 := Lib.hid (HD2.out.trans (hb3.mono HD2.out.size))
      clear hb3 HLO
      go_wp2_with fail
      refine (HRL.out wd3 HD3.out).mono ?_
      rintro e wd4 ⟨hb4, rfl⟩
      have HEND := Lib.hid (HB0.out wd4 (HD3.out.trans (hb4.mono HD3.out.size))).1
      clear hb4 HRL
      go_wp2
      go_quiet (fail)
      go_wp2
      go_ret
      exact ⟨rfl, below_drewN HEND.out _⟩
    | some L =>
      rw [hd] at hd1
      obtain ⟨A1, n1, c1, D, rfl, hn1, hD, hR, hb1, _⟩ := hd1
      subst hn1
      obtain ⟨hbl, hmay⟩ := decP_some hd
      have hL3 := encs_three L
      rw [← hbl] at hL3
      have hL : L.length ≤ 200 := by omega
      have hx := hR.puts [] (fun b hb => by cases hb) (fun b hb h => by cases h)
      rw [hD] at hx
      have HX := Lib.hid hx
      have HKL : Hid (∀ x ∈ L, x.k.size ≤ maxLen) := Lib.hid (fun x hx => by
        have := (ok1_iff.1 (List.all_eq_true.1 hmay x hx)).2.1
        unfold maxLen; omega)
      have HD1 := Lib.hid hb1
      have HRD := Lib.hid (rdecode_any wd1 a4 bl.length cap4 bl rfl HS4.out.1 HS4.out.2.1 (by omega) (HB0.out wd1 hb1).2)
      unfold RDecEnd at HRD
      rw [hd] at HRD
      have HLO := Lib.hid (fun W (hb : Below wr.heap.size wr W) => load_any W a4 bl.length cap4 bl rfl HS4.out.1 HS4.out.2.1 (by omega) (HB0.out W hb).2 (fun L' hL' => by rw [hd] at hL'; injection hL' with hL'; subst hL'; omega))
      unfold LoadEnd at HLO
      have HRL := Lib.hid (fun W (hb : Below wr.heap.size wr W) => rload_any W a4 bl.length cap4 bl rfl HS4.out.1 HS4.out.2.1 (by omega) (HB0.out W hb).2)
      unfold RLoadEnd at HRL
      cases hlm : loadM bl with
      | none =>
        rw [hlm] at HLO HRL
        clear hd hlm hb1 HDEC hbl hmay hL3 hx hR hD
        go_wp2_with fail
        refine HRD.out.mono ?_
        rintro e wd2 ⟨hb2, A2, n2, c2, D2, rfl, rfl, hD2, hR2⟩
        have HY := Lib.hid hR2.puts
        rw [hD2] at HY
        have HD12 := Lib.hid hb2
        have HD2 := Lib.hid (HD1.out.trans (hb2.mono HD1.out.size))
        clear hb2 HRD hD2 hR2
        go_wp2_with fail
        refine (HLO.out wd2 HD2.out).mono ?_
        rintro e wd3 ⟨rfl, hb3⟩
        have HD23 := Lib.hid hb3
        have HD3 := Lib.hid (HD2.out.trans (hb3.mono HD2.out.size))
        clear hb3 HLO
        go_wp2_with fail
        refine (HRL.out wd3 HD3.out).mono ?_
        rintro e wd4 ⟨hb4, rfl⟩
        have hb24 := HD23.out.trans (hb4.mono HD23.out.size)
        have hb14 := HD12.out.trans (hb24.mono HD12.out.size)
        have HX4 : Hid (Puts wd4 wd4.heap.size [] A1 L) := Lib.hid ((HX.out.below hb14 (Nat.le_refl _)).wide hb14.size)
        have HY4 : Hid (Puts wd4 wd4.heap.size [] A2 L) := Lib.hid ((HY.out.below hb24 (Nat.le_refl _)).wide hb24.size)
        have HD4 := Lib.hid (HD3.out.trans (hb4.mono HD3.out.size))
        clear hb4 HRL hb24 hb14
        go_wp2
        refine p21a_run L A1 A2 c1 c2 (by omega) HX4.out HY4.out HKL.out (by show 228 < 229; omega) rfl rfl rfl rfl ?_
        intro af wE hfr h10 hbE
        have HEND := Lib.hid (HB0.out wE (HD4.out.trans (hbE.mono HD4.out.size))).1
        clear hbE
        have ha := hfr.eq (by intro t ht; simp at ht; show t < 229; omega)
        simp only [List.foldl_cons, List.foldl_nil] at ha
        clear hfr
        rw [h10] at ha
        clear h10
        generalize af.eval (.tmp 194) = u194 at ha
        generalize af.eval (.tmp 195) = u195 at ha
        generalize af.eval (.tmp 196) = u196 at ha
        generalize af.eval (.tmp 197) = u197 at ha
        generalize af.eval (.tmp 198) = u198 at ha
        generalize af.eval (.tmp 199) = u199 at ha
        generalize af.eval (.tmp 200) = u200 at ha
        generalize af.eval (.tmp 201) = u201 at ha
        generalize af.eval (.tmp 202) = u202 at ha
        generalize af.eval (.tmp 203) = u203 at ha
        generalize af.eval (.tmp 204) = u204 at ha
        generalize af.eval (.tmp 205) = u205 at ha
        generalize af.eval (.tmp 206) = u206 at ha
        generalize af.eval (.tmp 207) = u207 at ha
        generalize af.eval (.tmp 208) = u208 at ha
        generalize af.eval (.tmp 209) = u209 at ha
        generalize af.eval (.tmp 210) = u210 at ha
        generalize af.eval (.tmp 211) = u211 at ha
        generalize af.eval (.tmp 212) = u212 at ha
        generalize af.eval (.tmp 213) = u213 at ha
        generalize af.eval (.tmp 214) = u214 at ha
        generalize af.eval (.tmp 215) = u215 at ha
        generalize af.eval (.tmp 216) = u216 at ha
        generalize af.eval (.tmp 217) = u217 at ha
        generalize af.eval (.tmp 218) = u218 at ha
        generalize af.eval (.tmp 219) = u219 at ha
        generalize af.eval (.tmp 220) = u220 at ha
        generalize af.eval (.tmp 221) = u221 at ha
        generalize af.eval (.tmp 222) = u222 at ha
        generalize af.eval (.tmp 223) = u223 at ha
        generalize af.eval (.tmp 224) = u224 at ha
        generalize af.eval (.tmp 225) = u225 at ha
        generalize af.eval (.tmp 226) = u226 at ha
        generalize af.eval (.tmp 227) = u227 at ha
        generalize af.eval (.tmp 228) = u228 at ha
        subst ha
        simp only [Act.put, List.setIfInBounds_toArray, List.set_cons_zero, List.set_cons_succ]
        go_wp2
        go_ret
        exact ⟨rfl, HEND.out⟩
      | some M =>
        have hML : M = L.map kvOf ∧ Rises L := by
          unfold loadM at hlm
          rw [hd] at hlm
          simp only at hlm
          split at hlm
          · rename_i hr
            injection hlm with hlm
            exact ⟨hlm.symm, hr⟩
          · cases hlm
        have hst := hML.2.steps_all
        rw [← hML.1] at hst
        have hasc : Asc M := by rw [← hst]; exact steps_asc L Asc.nil
        have hgood : Kv.Good M := by rw [← hst]; exact steps_good L hmay Good.nil
        have hMl : M.length ≤ 200 := by rw [hML.1, List.length_map]; exact hL
        have HAG := Lib.hid (And.intro hasc hgood)
        rw [hlm] at HLO HRL
        clear hd hlm hb1 HDEC hbl hmay hL3 hx hR hD hML hst hasc hgood
        go_wp2_with fail
        refine HRD.out.mono ?_
        rintro e wd2 ⟨hb2, A2, n2, c2, D2, rfl, rfl, hD2, hR2⟩
        have HY := Lib.hid hR2.puts
        rw [hD2] at HY
        have HD12 := Lib.hid hb2
        have HD2 := Lib.hid (HD1.out.trans (hb2.mono HD1.out.size))
        clear hb2 HRD hD2 hR2
        go_wp2_with fail
        refine (HLO.out wd2 HD2.out).mono ?_
        rintro e wd3 ⟨tz, F, rfl, hT, hb3, _⟩
        have HD23 := Lib.hid hb3
        have HD3 := Lib.hid (HD2.out.trans (hb3.mono HD2.out.size))
        have HT := Lib.hid hT
        clear hb3 HLO hT
        go_wp2_with fail
        refine (HRL.out wd3 HD3.out).mono ?_
        rintro e wd4 ⟨hb4, uq, vq, rfl, hU, _⟩
        have hb24 := HD23.out.trans (hb4.mono HD23.out.size)
        have hb14 := HD12.out.trans (hb24.mono HD12.out.size)
        have HX4 : Hid (Puts wd4 wd4.heap.size [] A1 L) := Lib.hid ((HX.out.below hb14 (Nat.le_refl _)).wide hb14.size)
        have HY4 : Hid (Puts wd4 wd4.heap.size [] A2 L) := Lib.hid ((HY.out.below hb24 (Nat.le_refl _)).wide hb24.size)
        have HT4 := Lib.hid (HT.out.below hb4)
        have HU := Lib.hid hU
        have HD4 := Lib.hid (HD3.out.trans (hb4.mono HD3.out.size))
        clear hb4 HRL hb24 hb14 hU HT
        go_wp2
        refine p21b_run L M tz uq F vq A1 A2 c1 c2 (by omega) HX4.out HY4.out HKL.out HT4.out HAG.out.1 HAG.out.2 (by omega) HU.out (by show 228 < 229; omega) rfl rfl rfl rfl rfl rfl ?_
        intro af wE hfr h10 hbE
        have HEND := Lib.hid (HB0.out wE (HD4.out.trans (hbE.mono HD4.out.size))).1
        clear hbE
        have ha := hfr.eq (by intro t ht; simp at ht; show t < 229; omega)
        simp only [List.foldl_cons, List.foldl_nil] at ha
        clear hfr
        rw [h10] at ha
        clear h10
        generalize af.eval (.tmp 194) = u194 at ha
        generalize af.eval (.tmp 195) = u195 at ha
        generalize af.eval (.tmp 196) = u196 at ha
        generalize af.eval (.tmp 197) = u197 at ha
        generalize af.eval (.tmp 198) = u198 at ha
        generalize af.eval (.tmp 199) = u199 at ha
        generalize af.eval (.tmp 200) = u200 at ha
        generalize af.eval (.tmp 201) = u201 at ha
        generalize af.eval (.tmp 202) = u202 at ha
        generalize af.eval (.tmp 203) = u203 at ha
        generalize af.eval (.tmp 204) = u204 at ha
        generalize af.eval (.tmp 205) = u205 at ha
        generalize af.eval (.tmp 206) = u206 at ha
        generalize af.eval (.tmp 207) = u207 at ha
        generalize af.eval (.tmp 208) = u208 at ha
        generalize af.eval (.tmp 209) = u209 at ha
        generalize af.eval (.tmp 210) = u210 at ha
        generalize af.eval (.tmp 211) = u211 at ha
        generalize af.eval (.tmp 212) = u212 at ha
        generalize af.eval (.tmp 213) = u213 at ha
        generalize af.eval (.tmp 214) = u214 at ha
        generalize af.eval (.tmp 215) = u215 at ha
        generalize af.eval (.tmp 216) = u216 at ha
        generalize af.eval (.tmp 217) = u217 at ha
        generalize af.eval (.tmp 218) = u218 at ha
        generalize af.eval (.tmp 219) = u219 at ha
        generalize af.eval (.tmp 220) = u220 at ha
        generalize af.eval (.tmp 221) = u221 at ha
        generalize af.eval (.tmp 222) = u222 at ha
        generalize af.eval (.tmp 223) = u223 at ha
        generalize af.eval (.tmp 224) = u224 at ha
        generalize af.eval (.tmp 225) = u225 at ha
        generalize af.eval (.tmp 226) = u226 at ha
        generalize af.eval (.tmp 227) = u227 at ha
        generalize af.eval (.tmp 228) = u228 at ha
        subst ha
        simp only [Act.put, List.setIfInBounds_toArray, List.set_cons_zero, List.set_cons_succ]
        go_wp2
        go_ret
        exact ⟨rfl, HEND.out⟩
end Go.Proofs.Ytgpkdnnlgafenaa
