/- The walk of DevPlays. -/
import Derived.Test.YtelcedbcegbbjaaDevLastW
import Derived.Test.YtelcedbcegbbjaaDevGrow
import Derived.Deep.CutBlock
import Derived.Deep.CutRange
import Derived.Deep.DeepCutAuto
namespace Go.Proofs.Ytelcedbcegbbjaa
open Go.RowKit Dk
set_option linter.unusedVariables false

set_option maxHeartbeats 16000000 in
set_option maxRecDepth 100000 in
theorem devPlays_walk (n : Int) (hn : (Lit.int .i64 n).wf = true) (A : Option Addr) (len cap : Nat) (l : List ActD) (hlen : len = l.length) (hcap : len ≤ cap) (hmax : cap ≤ maxLen) (w : World) (hl : Acts w w.heap.size A l) :
    Calls Try.prog 4 #[.int .i64 n, .slice A len cap] w fun e w' => e = .returned (.bool true) ∧ Below w.heap.size w w' := by
  subst hlen
  unfold maxLen at hmax
  obtain ⟨B, HB⟩ : ∃ B, Hid (B = w.heap.size) := ⟨_, Lib.hid rfl⟩
  obtain ⟨w0, HW0⟩ : ∃ x : World, Hid (x = w) := ⟨_, Lib.hid rfl⟩
  rw [← HB.out]
  have hl0 : Acts w0 B A l := by rw [HW0.out, HB.out]; exact hl
  have HAC := Lib.hid hl0
  clear hl hl0 hn
  by_cases hn1 : n < 1
  · go_enter Try.func4, Try.ntmps4
    go_wp2_with fail
    refine (awake_any _).mono ?_
    rintro e w1 ⟨rfl, b1⟩
    rw [← HB.out] at b1
    go_wp2_with fail
    refine (new_bad n _ (.inl hn1)).mono ?_
    rintro e w2 ⟨rfl, rfl⟩
    go_wp2
    go_ret
    exact ⟨rfl, b1⟩
  by_cases hn2 : 8192 < n
  · go_enter Try.func4, Try.ntmps4
    go_wp2_with fail
    refine (awake_any _).mono ?_
    rintro e w1 ⟨rfl, b1⟩
    rw [← HB.out] at b1
    go_wp2_with fail
    refine (new_bad n _ (.inr hn2)).mono ?_
    rintro e w2 ⟨rfl, rfl⟩
    go_wp2
    go_ret
    exact ⟨rfl, b1⟩
  obtain ⟨m, rfl⟩ : ∃ m : Nat, n = (m : Int) := ⟨n.toNat, by omega⟩
  have hm1 : 1 ≤ m := by omega
  have hm2 : m ≤ 8192 := by omega
  by_cases hbig : 60 < (l.length : Int)
  · go_enter Try.func4, Try.ntmps4
    go_wp2_with fail
    refine (awake_any _).mono ?_
    rintro e w1 ⟨rfl, b1⟩
    rw [← HB.out] at b1
    go_wp2_with fail
    refine (new_any m hm1 hm2 w1).mono ?_
    rintro e w2 ⟨d, F, rfl, hd, b2, hF⟩
    have HX := Lib.hid (b1.trans (b2.mono (by rw [HB.out] at b1; rw [HB.out]; exact b1.size)))
    clear hd hF b1 b2
    go_wp2
    go_ret
    exact ⟨rfl, HX.out⟩
  by_cases hbig2 : 20 < (m : Int)
  · have hd1 : decide (60 < (l.length : Int)) = false := by simpa using hbig
    go_enter Try.func4, Try.ntmps4
    go_wp2_with fail
    refine (awake_any _).mono ?_
    rintro e w1 ⟨rfl, b1⟩
    rw [← HB.out] at b1
    go_wp2_with fail
    refine (new_any m hm1 hm2 w1).mono ?_
    rintro e w2 ⟨d, F, rfl, hd, b2, hF⟩
    have HX := Lib.hid (b1.trans (b2.mono (by rw [HB.out] at b1; rw [HB.out]; exact b1.size)))
    clear hd hF b1 b2
    go_wp2
    go_ret
    exact ⟨rfl, HX.out⟩
  have hd1 : decide (60 < (l.length : Int)) = false := by simpa using hbig
  have hd2 : decide (20 < (m : Int)) = false := by simpa using hbig2
  go_enter Try.func4, Try.ntmps4
  go_wp2_with fail
  refine (awake_any _).mono ?_
  rintro e w1 ⟨rfl, b1⟩
  rw [← HB.out] at b1
  go_wp2_with fail
  refine (new_any m hm1 hm2 w1).mono ?_
  rintro e w2 ⟨d, F, rfl, hd, b2, hF⟩
  have HN := Lib.hid (⟨hd, b2, hF, b1⟩ : _ ∧ _ ∧ _ ∧ _)
  clear hd b2 hF b1
  go_wp2_with fail
  refine (ref_new m hm2 w2).mono ?_
  intro e w3 he
  obtain ⟨r, rfl, hp⟩ : ∃ r, e = .returned (.pointer (some ⟨r, 0, none⟩)) ∧ Pair B w0 w3 d (fresh m) r (fresh m) [] := by
    obtain ⟨r, G, e1, e2, e3, e4⟩ := he
    obtain ⟨k1, k2, k3, k4⟩ := HN.out
    have hs1 : B ≤ w1.heap.size := by rw [HB.out] at k4 ⊢; exact k4.size
    have hbb : Below B w0 w1 := by rw [HW0.out]; exact k4
    exact ⟨r, e1, F, G, k1.below e3, e2, fun b hb hG => by have := k1.lt b hb; have := e4 b hG; omega, fun b hb => Nat.le_trans hs1 (k3 b hb), fun x hx => by have := e4 x hx; have := k2.size; omega, (hbb.trans (k2.mono hs1)).trans (e3.mono (by have := k2.size; omega)), by have := k2.size; have := e3.size; omega, fun q hq => by cases hq⟩
  have HP := Lib.hid hp
  clear he hp
  go_wp2
  go_loopw [8] (fun i wr => ∃ k : Nat, k ≤ l.length ∧ i = .int .i64 k ∧ ∃ S : Disk, S.cache.length ≤ k ∧ S.dur.length = m ∧ Pair B w0 wr d S r S []) (fun i _ => l.length - (intOf i).toNat)
  case atStart => exact ⟨0, Nat.zero_le _, rfl, fresh m, Nat.le_refl _, List.length_replicate, HP.out⟩
  case round =>
    clear HP HN
    obtain ⟨k, hk, rfl, S, hSc, hSd, hp⟩ := hrel
    have hB0 : B ≤ w0.heap.size := by rw [HB.out, HW0.out]; exact Nat.le_refl _
    by_cases hlt : k < l.length
    · obtain ⟨g, o, rfl, hg, hact⟩ := HAC.out (by intro e; simp [e] at hlt)
      have hat0 := hact k hlt
      have hat := hat0.below hp.bel (Nat.le_refl _) hg
      obtain ⟨x, Hx⟩ : ∃ x, Hid (x = l[k]) := ⟨_, Lib.hid rfl⟩
      rw [← Hx.out] at hat hat0
      obtain ⟨xo, xa, xt, xc, xk⟩ := x
      obtain ⟨Ak, nk, ck, c4, hnk, hnc, hcm, hsk⟩ := hat0.keep
      have d0 := hat.op
      have d1 := hat.at_
      have d2 := hat.torn
      have d3 := hat.c
      have d4 : wr.cell? ⟨g, o + k * 5 + 4, none⟩ = some (.slice Ak nk ck) := (hp.bel.cell (p := ⟨g, o + k * 5 + 4, none⟩) hg).trans c4
      have b0 := hat.op_le
      have b1 := hat.at_le
      have hkI : (k : Int) < l.length := by omega
      simp only at d0 d1 d2 d3 hnk hsk b0 b1
      have HP := Lib.hid hp
      have HSK := Lib.hid hsk
      have HNC := Lib.hid (⟨hnc, hcm⟩ : _ ∧ _)
      have hnkm : (nk : Int) ≤ 9223372036854775807 := by unfold maxLen at hcm; omega
      have HNK := Lib.hid hnk
      clear hat hat0 hact c4 hp hsk hnc hcm hnk
      by_cases hk60 : (60 : Int) < nk
      · have HX := Lib.hid (HP.out.bel.alloc HP.out.size (.cells #[.int .i64 xo, .int .i64 xa, .int .i64 xt, .int .u8 (xc.toNat : Int), .slice Ak nk ck] 41))
        go_wp2
        go_ret
        exact ⟨rfl, by rw [← HW0.out]; exact HX.out⟩
      go_upto_block 2 with fail
      have hx : (wr.alloc (.cells #[.int .i64 xo, .int .i64 xa, .int .i64 xt, .int .u8 (xc.toNat : Int), .slice Ak nk ck] 41)).heap[wr.heap.size]? = some (.cells #[.int .i64 xo, .int .i64 xa, .int .i64 xt, .int .u8 (xc.toNat : Int), .slice Ak nk ck] 41 (0, 0)) := heap_alloc_new _ _
      have hpa : Pair B w0 (wr.alloc (.cells #[.int .i64 xo, .int .i64 xa, .int .i64 xt, .int .u8 (xc.toNat : Int), .slice Ak nk ck] 41)) d S r S [wr.heap.size] :=
        HP.out.past ((Below.refl _ _).alloc (Nat.le_refl _) _) _ (fun b hb => by rw [List.mem_singleton] at hb; subst hb; exact .inr ⟨Nat.le_refl _, by simp⟩)
      clear d0 d1 d2 d3 d4
      generalize wr.heap.size = xb at hx hpa ⊢
      generalize wr.alloc (.cells #[.int .i64 xo, .int .i64 xa, .int .i64 xt, .int .u8 (xc.toNat : Int), .slice Ak nk ck] 41) = wa at hx hpa ⊢
      have HX := Lib.hid hx
      have HPA := Lib.hid hpa
      have HKW : Hid (∀ W : World, Keeps [xb] wa W → W.cell? ⟨xb, 1, none⟩ = some (.int .i64 xa) ∧ W.cell? ⟨xb, 2, none⟩ = some (.int .i64 xt) ∧ W.cell? ⟨xb, 3, none⟩ = some (.int .u8 (xc.toNat : Int)) ∧ W.cell? ⟨xb, 4, none⟩ = some (.slice Ak nk ck)) := Lib.hid (fun W hW => by
        have := (hW xb (by simp)).trans hx
        refine ⟨by simp [World.cell?, this], by simp [World.cell?, this], by simp [World.cell?, this], by simp [World.cell?, this]⟩)
      have hS1000 : S.cache.length ≤ 1000 := by omega
      have hSd0 : 0 < S.dur.length := by omega
      have HSB := Lib.hid (⟨hSc, hSd, hS1000, hSd0⟩ : _ ∧ _ ∧ _ ∧ _)
      have hk60' : nk ≤ 60 := by omega
      clear hx hpa HP hSc hSd hS1000 hSd0
      go_cut [10] (fun s10 wx => ∃ S' : Disk, s10 = .bool true ∧ By S S' ∧ Pair B w0 wx d S' r S' [])
      case first =>
        by_cases o0 : xo = 0
        · subst o0
          go_wp2_with fail
          refine pl21 xb d r xa (S.writeE xa 512) xc (P21 B w0 wa d r S [xb] xa xc) (by show 113 < 240; omega) rfl rfl rfl (fun p R W h => by
            have hk := HKW.out W (P21.keeps HPA.out p R W h)
            exact ⟨hk.1, hk.2.2.1⟩) (fun R W h => P21.one R W h) (fun R W h => P21.two HPA.out HSB.out.2.2.1 R W h) (fun R W h => P21.three R W h) (fun R W h => P21.four HSB.out.2.2.2 HSB.out.2.2.1 R W h) (fun p R W h hp => P21.res p R W h hp) (by exact (Below.refl _ _).drew) ?_
          intro af wN hfr h10 hS
          have HSS := Lib.hid (show Pair B w0 wN d (S.write xa (secB xc)) r (S.write xa (secB xc)) [] from hS.1.1.less (fun b hb => by cases hb))
          clear hS
          have ha := hfr.eq (by intro t ht; simp at ht; show t < 240; omega)
          simp only [List.foldl_cons, List.foldl_nil] at ha
          clear hfr
          rw [h10] at ha
          clear h10
          generalize af.eval (.tmp 99) = u99 at ha
          generalize af.eval (.tmp 100) = u100 at ha
          generalize af.eval (.tmp 101) = u101 at ha
          generalize af.eval (.tmp 102) = u102 at ha
          generalize af.eval (.tmp 103) = u103 at ha
          generalize af.eval (.tmp 104) = u104 at ha
          generalize af.eval (.tmp 105) = u105 at ha
          generalize af.eval (.tmp 106) = u106 at ha
          generalize af.eval (.tmp 107) = u107 at ha
          generalize af.eval (.tmp 108) = u108 at ha
          generalize af.eval (.tmp 109) = u109 at ha
          generalize af.eval (.tmp 110) = u110 at ha
          generalize af.eval (.tmp 111) = u111 at ha
          generalize af.eval (.tmp 112) = u112 at ha
          generalize af.eval (.tmp 113) = u113 at ha
          subst ha
          simp only [Act.put, List.setIfInBounds_toArray, List.set_cons_zero, List.set_cons_succ]
          go_wp2_with fail
          go_meet
          exact ⟨_, by first | rfl | trivial, by_write _ _ _, HSS.out⟩
        by_cases o1 : xo = 1
        · subst o1
          obtain ⟨d1, d2, d3, d4⟩ := HKW.out wa (Keeps.refl _ _)
          obtain ⟨er, Her⟩ : ∃ er, Hid (er = S.readE xa) := ⟨_, Lib.hid rfl⟩
          obtain ⟨lv, Hlv⟩ : ∃ lv, Hid (lv = S.readV xa) := ⟨_, Lib.hid rfl⟩
          go_wp2_with fail
          refine (pair_read_d HPA.out xa).mono ?_
          rintro e wb ⟨A1, n1, c1, rfl, f1, f2, f3, f4, f5, -⟩
          rw [← Hlv.out] at f1 f4
          rw [← Her.out]
          have HPB := Lib.hid (HPA.out.past f5 [xb] (fun b hb => .inl hb))
          obtain ⟨d1', -⟩ := HKW.out wb (HPA.out.stays f5)
          have HS1 := Lib.hid f4
          clear d1 d2 d3 d4 f4 f5
          go_wp2_with fail
          refine (pair_read_r HPB.out xa).mono ?_
          rintro e wc ⟨A2, n2, c2, rfl, g1, g2, g3, g4, g5, -⟩
          rw [← Hlv.out] at g1 g4
          rw [← Her.out]
          subst f1
          subst g1
          have v1 := run_sees_string (P := Try.prog) wc 28 9 5 Try.underlying28 Try.underlying5 Try.underlying9 (HS1.out.below g5 (Nat.le_refl _)) lv.length c1 rfl
          have v2 := run_sees_string (P := Try.prog) wc 28 9 5 Try.underlying28 Try.underlying5 Try.underlying9 g4 lv.length c2 rfl
          have HPC := Lib.hid (HPB.out.past g5 [] (fun b hb => by cases hb))
          clear g4 g5 d1'
          go_wp2_with fail
          go_meet
          exact ⟨S, by first | rfl | trivial, By.refl S, HPC.out⟩
        by_cases o2 : xo = 2
        · subst o2
          obtain ⟨er, Her⟩ : ∃ er, Hid (er = S.flushE) := ⟨_, Lib.hid rfl⟩
          go_wp2_with fail
          refine (pair_flush_d HPA.out HSB.out.2.2.1).mono ?_
          rintro e wb ⟨rfl, hpb, -⟩
          rw [← Her.out]
          have HPB := Lib.hid hpb
          clear hpb
          go_wp2_with fail
          refine (pair_flush_r HPB.out HSB.out.2.2.2).mono ?_
          rintro e wc ⟨rfl, hpc, -⟩
          rw [← Her.out]
          have HPC := Lib.hid (hpc.less (K' := []) (fun b hb => by cases hb))
          clear hpc
          go_wp2_with fail
          go_meet
          exact ⟨_, by first | rfl | trivial, by_flush S, HPC.out⟩
        by_cases o3 : xo = 3
        · subst o3
          obtain ⟨d1, d2, d3, d4⟩ := HKW.out wa (Keeps.refl _ _)
          go_wp2_with fail
          refine (pair_crash_d HPA.out hB0 HSB.out.2.2.1 Ak nk ck xk HNK.out HNC.out.1 HNC.out.2 HSK.out xt).mono ?_
          rintro e wb ⟨rfl, hpb, hkb⟩
          have HPB := Lib.hid hpb
          clear d1 d2 d3 d4
          obtain ⟨d1, d2, d3, d4⟩ := HKW.out wb hkb
          clear hpb hkb
          go_wp2_with fail
          refine (pair_crash_r HPB.out hB0 HSB.out.2.2.2 Ak nk ck xk HNK.out HNC.out.1 HNC.out.2 HSK.out xt).mono ?_
          rintro e wc ⟨rfl, hpc, -⟩
          have HPC := Lib.hid (hpc.less (K' := []) (fun b hb => by cases hb))
          clear hpc d1 d2 d3 d4
          go_wp2_with fail
          go_meet
          exact ⟨_, by first | rfl | trivial, by_crash S _ _, HPC.out⟩
        by_cases o4 : xo = 4
        · subst o4
          go_wp2_with fail
          refine (pair_on_d HPA.out).mono ?_
          rintro e wb ⟨rfl, hpb, -⟩
          have HPB := Lib.hid hpb
          clear hpb
          go_wp2_with fail
          refine (pair_on_r HPB.out).mono ?_
          rintro e wc ⟨rfl, hpc, -⟩
          have HPC := Lib.hid (hpc.less (K' := []) (fun b hb => by cases hb))
          clear hpc
          go_wp2_with fail
          go_meet
          exact ⟨_, by first | rfl | trivial, by_on S, HPC.out⟩
        by_cases o5 : xo = 5
        · subst o5
          have hkl : Hid (xk.length ≤ 100000) := Lib.hid (by rw [← HNK.out]; omega)
          obtain ⟨d1, d2, d3, d4⟩ := HKW.out wa (Keeps.refl _ _)
          go_wp2_with fail
          refine (pair_arm_d HPA.out hB0 xa b1.2 Ak nk ck xk HNK.out hkl.out HSK.out xt).mono ?_
          rintro e wb ⟨rfl, hpb, hkb⟩
          have HPB := Lib.hid hpb
          clear d1 d2 d3 d4
          obtain ⟨d1, d2, d3, d4⟩ := HKW.out wb hkb
          clear hpb hkb
          go_wp2_with fail
          refine (pair_arm_r HPB.out hB0 xa b1.1 b1.2 Ak nk ck xk HNK.out hkl.out HSK.out xt).mono ?_
          rintro e wc ⟨rfl, hpc, -⟩
          have HPC := Lib.hid (hpc.less (K' := []) (fun b hb => by cases hb))
          clear hpc d1 d2 d3 d4
          go_wp2_with fail
          go_meet
          exact ⟨_, by first | rfl | trivial, by_arm S _ _ _, HPC.out⟩
        have p0 : (xo == 0) = false := by simpa using o0
        have p1 : (xo == 1) = false := by simpa using o1
        have p2 : (xo == 2) = false := by simpa using o2
        have p3 : (xo == 3) = false := by simpa using o3
        have p4 : (xo == 4) = false := by simpa using o4
        have p5 : (xo == 5) = false := by simpa using o5
        clear o0 o1 o2 o3 o4 o5
        by_cases q0 : xa < 0
        · obtain ⟨d1, d2, d3, d4⟩ := HKW.out wa (Keeps.refl _ _)
          have HX2 := Lib.hid HPA.out.bel
          go_wp2_with fail
          go_ret
          exact ⟨rfl, by rw [← HW0.out]; exact HX2.out⟩
        by_cases q1 : 600 < xa
        · obtain ⟨d1, d2, d3, d4⟩ := HKW.out wa (Keeps.refl _ _)
          have HX2 := Lib.hid HPA.out.bel
          have q0' : decide (xa < 0) = false := by simpa using q0
          go_wp2_with fail
          go_ret
          exact ⟨rfl, by rw [← HW0.out]; exact HX2.out⟩
        obtain ⟨ka, rfl⟩ : ∃ ka : Nat, xa = (ka : Int) := ⟨xa.toNat, by omega⟩
        have hka : ka ≤ 600 := by omega
        obtain ⟨d1, d2, d3, d4⟩ := HKW.out wa (Keeps.refl _ _)
        go_wp2_with fail
        clear d1 d2 d3 d4
        refine pl19 xb d r ka (S.writeE 0 ka) (P19 B w0 wa d r S [xb] ka) (by show 96 < 240; omega) rfl rfl rfl (fun f R W h => (HKW.out W h.keeps).1) (fun f R W h f0 f1 => h.m0 hka f1) (fun f R W h f0 f1 f3 => h.w1 HSB.out.2.2.1 hka f0 f1 f3) (fun f R W h f2 f3 => h.m2 hka f3) (fun f R W h f1 f2 f3 => h.w3 HSB.out.2.2.2 HSB.out.2.2.1 hka f1 f2 f3) (fun f R W h f1 f3 => h.res f1 f3) (P19.start HPA.out) ?_
        intro af wN f hfr h10 hall hS
        have HSS := Lib.hid ((hS.last (hall 1 (by omega)) (hall 3 (by omega))).less (K' := []) (fun b hb => by cases hb))
        clear hS hall
        have ha := hfr.eq (by intro t ht; simp at ht; show t < 240; omega)
        simp only [List.foldl_cons, List.foldl_nil] at ha
        clear hfr
        rw [h10] at ha
        clear h10
        generalize af.eval (.tmp 86) = u86 at ha
        generalize af.eval (.tmp 87) = u87 at ha
        generalize af.eval (.tmp 88) = u88 at ha
        generalize af.eval (.tmp 89) = u89 at ha
        generalize af.eval (.tmp 90) = u90 at ha
        generalize af.eval (.tmp 91) = u91 at ha
        generalize af.eval (.tmp 92) = u92 at ha
        generalize af.eval (.tmp 93) = u93 at ha
        generalize af.eval (.tmp 94) = u94 at ha
        generalize af.eval (.tmp 95) = u95 at ha
        generalize af.eval (.tmp 96) = u96 at ha
        subst ha
        simp only [Act.put, List.setIfInBounds_toArray, List.set_cons_zero, List.set_cons_succ]
        go_wp2_with fail
        go_meet
        exact ⟨_, by first | rfl | trivial, by_write _ _ _, HSS.out⟩
      case rest =>
        obtain ⟨S', rfl, hby, hpc⟩ := hcut
        have HPC := Lib.hid hpc
        have HBY := Lib.hid (⟨by rw [hby.1]; exact HSB.out.2.1, by have := hby.2; have := HSB.out.1; omega⟩ : S'.dur.length = m ∧ S'.cache.length ≤ k + 1)
        clear hpc hby
        go_wp2_with fail
        refine pl37 d r m S'.cache.length S'.off (P37 wc S'.off S'.cache.length m) (by show 208 < 240; omega) rfl rfl rfl rfl (fun p R W h => P37.off HPC.out h) (fun R W h => P37.one HPC.out R W h) (fun R W h => P37.two HPC.out R W h) (fun R W h => P37.three HPC.out R W h) (fun R W h => by have e := HBY.out.1; subst e; exact P37.four HPC.out R W h) (fun p R W h hp => h.2.1 hp) (fun p R W h hp => ⟨h.2.2.1 (by omega), h.2.2.2.1 hp⟩) (fun p R W h hp => h.2.2.2.2 hp) ⟨(Below.refl _ _).drew, (fun h => absurd h (by omega)), (fun h => absurd h (by omega)), (fun h => absurd h (by omega)), (fun h => absurd h (by omega))⟩ ?_
        intro af wN hfr h208 hS
        have HSS := Lib.hid (HPC.out.past hS.1 [] (fun b hb => by cases hb))
        clear hS
        have ha := hfr.eq (by intro t ht; simp at ht; show t < 240; omega)
        simp only [List.foldl_cons, List.foldl_nil] at ha
        clear hfr
        rw [h208] at ha
        clear h208
        generalize af.eval (.tmp 185) = u185 at ha
        generalize af.eval (.tmp 186) = u186 at ha
        generalize af.eval (.tmp 187) = u187 at ha
        generalize af.eval (.tmp 188) = u188 at ha
        generalize af.eval (.tmp 189) = u189 at ha
        generalize af.eval (.tmp 190) = u190 at ha
        generalize af.eval (.tmp 191) = u191 at ha
        generalize af.eval (.tmp 192) = u192 at ha
        generalize af.eval (.tmp 193) = u193 at ha
        generalize af.eval (.tmp 194) = u194 at ha
        generalize af.eval (.tmp 195) = u195 at ha
        generalize af.eval (.tmp 196) = u196 at ha
        generalize af.eval (.tmp 197) = u197 at ha
        generalize af.eval (.tmp 198) = u198 at ha
        generalize af.eval (.tmp 199) = u199 at ha
        generalize af.eval (.tmp 200) = u200 at ha
        generalize af.eval (.tmp 201) = u201 at ha
        generalize af.eval (.tmp 202) = u202 at ha
        generalize af.eval (.tmp 203) = u203 at ha
        generalize af.eval (.tmp 204) = u204 at ha
        generalize af.eval (.tmp 205) = u205 at ha
        generalize af.eval (.tmp 206) = u206 at ha
        generalize af.eval (.tmp 207) = u207 at ha
        subst ha
        simp only [Act.put, List.setIfInBounds_toArray, List.set_cons_zero, List.set_cons_succ]
        go_wp2_with fail
        go_roundw
        case rel => exact ⟨k + 1, by omega, by go_num, S', HBY.out.2, HBY.out.1, HSS.out⟩
        case measure => simp [intOf]; omega
    · have hkl : k = l.length := by omega
      subst hkl
      have HP := Lib.hid hp
      have HSB := Lib.hid (⟨hSc, hSd⟩ : _ ∧ _)
      clear hp hSc hSd
      go_wp2_with fail
      refine (pair_on_d HP.out).mono ?_
      rintro e wb ⟨rfl, hpb, -⟩
      have HPB := Lib.hid hpb
      clear hpb
      go_wp2_with fail
      refine (pair_on_r HPB.out).mono ?_
      rintro e wc ⟨rfl, hpc, -⟩
      have HPC := Lib.hid hpc
      clear hpc
      go_wp2_with fail
      go_loopw [15] (fun i wr => ∃ q : Nat, q ≤ m ∧ i = .int .i64 q ∧ Pair B w0 wr d S.on r S.on []) (fun i _ => m - (intOf i).toNat)
      case atStart => exact ⟨0, Nat.zero_le _, rfl, HPC.out⟩
      case round =>
        clear HPC HPB HP
        obtain ⟨q, hq, rfl, hp⟩ := hrel
        have HP := Lib.hid hp
        clear hp
        by_cases hqm : q < m
        · have hqI : (q : Int) < m := by omega
          obtain ⟨er, Her⟩ : ∃ er, Hid (er = S.on.readE (q : Int)) := ⟨_, Lib.hid rfl⟩
          obtain ⟨lv, Hlv⟩ : ∃ lv, Hid (lv = S.on.readV (q : Int)) := ⟨_, Lib.hid rfl⟩
          go_wp2_with fail
          refine (pair_read_d HP.out (q : Int)).mono ?_
          rintro e wb ⟨A1, n1, c1, rfl, f1, f2, f3, f4, f5, -⟩
          rw [← Hlv.out] at f1 f4
          rw [← Her.out]
          have HPB := Lib.hid (HP.out.past f5 [] (fun b hb => by cases hb))
          have HS1 := Lib.hid f4
          clear f4 f5
          go_wp2_with fail
          refine (pair_read_r HPB.out (q : Int)).mono ?_
          rintro e wc ⟨A2, n2, c2, rfl, g1, g2, g3, g4, g5, -⟩
          rw [← Hlv.out] at g1 g4
          rw [← Her.out]
          subst f1
          subst g1
          have v1 := run_sees_string (P := Try.prog) wc 28 9 5 Try.underlying28 Try.underlying5 Try.underlying9 (HS1.out.below g5 (Nat.le_refl _)) lv.length c1 rfl
          have v2 := run_sees_string (P := Try.prog) wc 28 9 5 Try.underlying28 Try.underlying5 Try.underlying9 g4 lv.length c2 rfl
          have HPC := Lib.hid (HPB.out.past g5 [] (fun b hb => by cases hb))
          clear g4 g5
          go_wp2_with fail
          go_roundw
          case rel => exact ⟨q + 1, by omega, by go_num, HPC.out⟩
          case measure => simp [intOf]; omega
        · have hqI : ¬ ((q : Int) < m) := by omega
          have HX := Lib.hid HP.out.bel
          go_wp2_with fail
          go_ret
          exact ⟨rfl, by rw [← HW0.out]; exact HX.out⟩
end Go.Proofs.Ytelcedbcegbbjaa
