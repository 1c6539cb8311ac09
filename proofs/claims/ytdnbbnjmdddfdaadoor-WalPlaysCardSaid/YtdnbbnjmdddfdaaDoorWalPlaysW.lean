/- The walk of WalPlays. -/
import Derived.Test.YtdnbbnjmdddfdaaDoorWalPlaysJ
import Derived.Deep.DeepCutAuto
import Derived.Deep.CutBlock
import Derived.Deep.CutRange
namespace Go.Proofs.YtdnbbnjmdddfdaaDoor
open Go.RowKit Dk Wl
set_option linter.unusedVariables false
set_option maxRecDepth 100000

set_option maxHeartbeats 20000000 in
set_option maxRecDepth 100000 in
theorem walPlays_walk (sectors : Int) (hs0 : (Lit.int .i64 sectors).wf = true) (A1 : Option Addr) (n1 c1 : Nat) (l : List WAct) (hn1 : n1 = l.length) (hnc1 : n1 ≤ c1) (hcm1 : c1 ≤ maxLen) (w : World) (hac : WActs w w.heap.size A1 l) (ht0 : Lib.TabIs Tryd.prog w "franking/crc.halfByte" .u32 crcTab) :
    Calls Tryd.prog 8 #[.int .i64 sectors, .slice A1 n1 c1] w fun e w' => e = .returned (.bool true) ∧ Below w.heap.size w w' := by
  subst hn1
  have ht := tabAt ht0
  have HT := Lib.hid ht
  have HAW := Lib.hid (walAwake_any w ht)
  have HAC := Lib.hid hac
  unfold maxLen at hcm1
  clear ht ht0 hs0 hac
  by_cases a1 : sectors < 8
  · go_enter Tryd.func8, Tryd.ntmps8
    go_wp2_with fail
    refine HAW.out.mono ?_
    rintro e w1 ⟨rfl, hb1⟩
    have HB := Lib.hid hb1
    clear hb1
    go_wp2
    go_ret
    exact ⟨rfl, HB.out⟩
  by_cases a2 : 300 < sectors
  · go_enter Tryd.func8, Tryd.ntmps8
    go_wp2_with fail
    refine HAW.out.mono ?_
    rintro e w1 ⟨rfl, hb1⟩
    have HB := Lib.hid hb1
    clear hb1
    go_wp2
    go_ret
    exact ⟨rfl, HB.out⟩
  by_cases a3 : (40 : Int) < l.length
  · go_enter Tryd.func8, Tryd.ntmps8
    go_wp2_with fail
    refine HAW.out.mono ?_
    rintro e w1 ⟨rfl, hb1⟩
    have HB := Lib.hid hb1
    clear hb1
    go_wp2
    go_ret
    exact ⟨rfl, HB.out⟩
  obtain ⟨m, rfl⟩ : ∃ m : Nat, sectors = (m : Int) := ⟨sectors.toNat, by omega⟩
  have b1 : (m : Int) ≤ 300 := by omega
  have b2 : (8 : Int) ≤ (m : Int) := by omega
  have b3 : (l.length : Int) ≤ 40 := by omega
  obtain ⟨sz, Hsz⟩ : ∃ s : Nat, Hid (s = (m - 1) / 2) := ⟨_, Lib.hid rfl⟩
  have hszb : sz ≤ 150 := by have := Hsz.out; omega
  obtain ⟨B, HB0⟩ : ∃ B : Nat, Hid (B = w.heap.size) := ⟨_, Lib.hid rfl⟩
  clear a1 a2 a3
  go_enter Tryd.func8, Tryd.ntmps8
  go_wp2_with fail
  refine HAW.out.mono ?_
  rintro e w1 ⟨rfl, hb1⟩
  have HNW := Lib.hid (law_new (B := B) (w0 := w) (w := w1) m (by omega) (by omega) (by rw [HB0.out]; exact hb1) (by rw [HB0.out]; exact hb1.size) (HT.out.below hb1 (Nat.le_refl _)) (by rw [HB0.out]; exact HT.out.lt))
  clear HAW hb1
  go_wp2_with fail
  refine HNW.out.mono ?_
  rintro e w2 ⟨d, F, rfl, hd2, _⟩
  have HOP := Lib.hid (law_open0 (sz := sz) hd2 (by omega) Hsz.out)
  clear HNW hd2
  go_wp2_with fail
  refine HOP.out.mono ?_
  rintro e w3 ⟨l0, G, rfl, hl3, _, _⟩
  have HI : Hid (PInv B w d sz m (.pointer (some ⟨l0, 0, none⟩)) (.string ⟨#[]⟩) (.slice none 0 0) (.string ⟨#[]⟩) (.slice none 0 0) (.bool false) w3) := Lib.hid
    ⟨F, G, l0, fresh m, Lg.zero, false, ⟨#[]⟩, none, 0, 0, ⟨#[]⟩, none, 0, 0, [], false, rfl, rfl, rfl, rfl, rfl, rfl, ⟨hl3, rfl, List.length_replicate, rfl, SW.nil _ _ _, SW.nil _ _ _, .inl ⟨rfl, rfl, rfl, fresh_holds m sz (by omega)⟩⟩⟩
  clear HOP hl3
  go_wp2
  go_loopw [7, 9, 10, 11, 12, 13, 14] (fun s7 s9 s10 s11 s12 s13 i wr => ∃ k : Nat, k ≤ l.length ∧ i = .int .i64 k ∧ PInv B w d sz m s7 s9 s10 s11 s12 s13 wr) (fun _ _ _ _ _ _ i _ => l.length - (intOf i).toNat)
  case atStart => exact ⟨0, Nat.zero_le _, rfl, HI.out⟩
  case round =>
    clear HI
    obtain ⟨k, hk, rfl, F, G, x, S, L, dn, vb, Ar, nr, cr, va, Ao, no, co, os, may, rfl, rfl, rfl, rfl, rfl, rfl, hp⟩ := hrel
    have hbw : Below w.heap.size w wr := by rw [← HB0.out]; exact hp.law.bel
    by_cases hlt : k < l.length
    · obtain ⟨g, o, rfl, hg, hact⟩ := HAC.out (by intro e; simp [e] at hlt)
      have hat := (hact k hlt).below hbw (Nat.le_refl _) hg
      obtain ⟨z, Hz⟩ : ∃ z, Hid (z = l[k]) := ⟨_, Lib.hid rfl⟩
      rw [← Hz.out] at hat
      obtain ⟨xo, xn, xt, xB, xk⟩ := z
      obtain ⟨Ab, nb, cb, c3, hnb, hnbc, hbcm, hsb⟩ := hat.b
      obtain ⟨Ak, nk, ck, c4, hnk, hnkc, hkcm, hsk⟩ := hat.keep
      have d0 := hat.op
      have d1 := hat.n
      have d2 := hat.torn
      have b1' := hat.n_le
      have hkI : (k : Int) < l.length := by omega
      simp only at d0 d1 d2 c3 c4 hnb hnk hsb hsk b1'
      have HP := Lib.hid hp
      have HSB := Lib.hid (⟨hnb, hnbc, hbcm, hsb⟩ : _ ∧ _ ∧ _ ∧ _)
      have HSK := Lib.hid (⟨hnk, hnkc, hkcm, hsk⟩ : _ ∧ _ ∧ _ ∧ _)
      have hnbm : (nb : Int) ≤ 9223372036854775807 := by unfold maxLen at hbcm; omega
      have hnkm : (nk : Int) ≤ 9223372036854775807 := by unfold maxLen at hkcm; omega
      have HBW := Lib.hid hbw
      clear hat hact hp hnb hnbc hbcm hsb hnk hnkc hkcm hsk hbw
      by_cases q1 : (2000 : Int) < nb
      · have HX := Lib.hid (HBW.out.alloc HBW.out.size (.cells #[.int .i64 xo, .int .i64 xn, .int .i64 xt, .slice Ab nb cb, .slice Ak nk ck] 62))
        go_wp2
        go_ret
        exact ⟨rfl, HX.out⟩
      by_cases q2 : (40 : Int) < nk
      · have HX := Lib.hid (HBW.out.alloc HBW.out.size (.cells #[.int .i64 xo, .int .i64 xn, .int .i64 xt, .slice Ab nb cb, .slice Ak nk ck] 62))
        go_wp2
        go_ret
        exact ⟨rfl, HX.out⟩
      go_upto_block 2 with fail
      have hp : PIn B w wr F G d x S sz m L dn vb (.slice Ar nr cr) va (.slice Ao no co) os may := HP.out
      have hx : (wr.alloc (.cells #[.int .i64 xo, .int .i64 xn, .int .i64 xt, .slice Ab nb cb, .slice Ak nk ck] 62)).heap[wr.heap.size]? = some (.cells #[.int .i64 xo, .int .i64 xn, .int .i64 xt, .slice Ab nb cb, .slice Ak nk ck] 62 (0, 0)) := new_block _ _
      have hpa := hp.below ((Below.refl wr.heap.size wr).alloc (Nat.le_refl _) (.cells #[.int .i64 xo, .int .i64 xn, .int .i64 xt, .slice Ab nb cb, .slice Ak nk ck] 62))
      have hswa : Sees (wr.alloc (.cells #[.int .i64 xo, .int .i64 xn, .int .i64 xt, .slice Ab nb cb, .slice Ak nk ck] 62)) (wr.alloc (.cells #[.int .i64 xo, .int .i64 xn, .int .i64 xt, .slice Ab nb cb, .slice Ak nk ck] 62)).heap.size Ab xB := (HSB.out.2.2.2.below ((Below.refl wr.heap.size wr).alloc (Nat.le_refl _) _) (by have := HBW.out.size; exact this)).mono (by have := HBW.out.size; simp; omega)
      have hska : SeesI (wr.alloc (.cells #[.int .i64 xo, .int .i64 xn, .int .i64 xt, .slice Ab nb cb, .slice Ak nk ck] 62)) w.heap.size Ak xk := HSK.out.2.2.2.below ((Below.refl wr.heap.size wr).alloc (Nat.le_refl _) _) (by have := HBW.out.size; exact this)
      have hszw : w.heap.size ≤ (wr.alloc (.cells #[.int .i64 xo, .int .i64 xn, .int .i64 xt, .slice Ab nb cb, .slice Ak nk ck] 62)).heap.size := by have := HBW.out.size; simp; omega
      clear d0 d1 d2 c3 c4 hp
      generalize wr.heap.size = xb at hx ⊢
      generalize wr.alloc (.cells #[.int .i64 xo, .int .i64 xn, .int .i64 xt, .slice Ab nb cb, .slice Ak nk ck] 62) = wa at hx hpa hswa hska hszw ⊢
      have HPA := Lib.hid hpa
      have HSW := Lib.hid hswa
      have HSKA := Lib.hid hska
      have HSZ := Lib.hid hszw
      have hxlt : xb < wa.heap.size := (Array.getElem?_eq_some_iff.1 hx).1
      have HKW : Hid (∀ W : World, Below wa.heap.size wa W → W.cell? ⟨xb, 0, none⟩ = some (.int .i64 xo) ∧ W.cell? ⟨xb, 1, none⟩ = some (.int .i64 xn) ∧ W.cell? ⟨xb, 2, none⟩ = some (.int .i64 xt) ∧ W.cell? ⟨xb, 3, none⟩ = some (.slice Ab nb cb) ∧ W.cell? ⟨xb, 4, none⟩ = some (.slice Ak nk ck)) := Lib.hid (fun W hW => by
        have := (hW.block xb hxlt).trans hx
        refine ⟨by simp [World.cell?, this], by simp [World.cell?, this], by simp [World.cell?, this], by simp [World.cell?, this], by simp [World.cell?, this]⟩)
      have HAB : Hid (xB ≠ [] → ∀ a, Ab = some a → a.block < B) := Lib.hid (fun hne a ha => by
        obtain ⟨g2, o2, e2, hg2, _⟩ := HSB.out.2.2.2 hne
        rw [ha] at e2; injection e2 with e2; subst e2
        rw [HB0.out]; exact hg2)
      have HAK : Hid (xk ≠ [] → ∀ a, Ak = some a → a.block < B) := Lib.hid (fun hne a ha => by
        obtain ⟨g2, o2, e2, hg2, _⟩ := HSK.out.2.2.2 hne
        rw [ha] at e2; injection e2 with e2; subst e2
        rw [HB0.out]; exact hg2)
      have HB2 : Hid (xB.length ≤ 2000) := Lib.hid (by have := HSB.out.1; omega)
      have HK2 : Hid (xk.length ≤ 100000) := Lib.hid (by have := HSK.out.1; omega)
      clear hx hpa hswa hska hszw HP hxlt
      go_cut [7, 9, 10, 11, 12, 13] (fun s7 s9 s10 s11 s12 s13 wx => PInv B w d sz m s7 s9 s10 s11 s12 s13 wx)
      case first =>
        by_cases o0 : xo = 0
        · subst o0
          go_wp2_with fail
          obtain ⟨rs, Hrs⟩ : ∃ rs, Hid (rs = L.recs.map bstr) := ⟨_, Lib.hid rfl⟩
          refine wpl23_run xb nr cr nb cb Ar Ab vb xB rs (by show 92 < 175; omega) rfl rfl rfl (HKW.out wa (Below.refl _ _)).2.2.2.1 HSB.out.1 HSW.out (by rw [Hrs.out]; exact HPA.out.recs.1) (by rw [Hrs.out, List.length_map]; exact HPA.out.recLen) ?_
          intro af A4 c4 w4 hfr h16 h17 hown hnew hbel
          have ha := hfr.eq (by intro t ht; simp at ht; show t < 175; omega)
          simp only [List.foldl_cons, List.foldl_nil] at ha
          clear hfr
          rw [h16] at ha
          clear h16
          rw [h17] at ha
          clear h17
          generalize af.eval (.tmp 84) = u84 at ha
          generalize af.eval (.tmp 85) = u85 at ha
          generalize af.eval (.tmp 86) = u86 at ha
          generalize af.eval (.tmp 87) = u87 at ha
          generalize af.eval (.tmp 88) = u88 at ha
          generalize af.eval (.tmp 89) = u89 at ha
          generalize af.eval (.tmp 90) = u90 at ha
          generalize af.eval (.tmp 91) = u91 at ha
          generalize af.eval (.tmp 92) = u92 at ha
          subst ha
          simp only [Act.put, List.setIfInBounds_toArray, List.set_cons_zero, List.set_cons_succ]
          have HP4 := Lib.hid (HPA.out.below hbel)
          have HVN := Lib.hid (show SW w4 F G (.slice A4 (rs.length + 1) c4) (L.recs.map bstr ++ [bstr xB]) from ⟨by rw [← Hrs.out]; exact hown, fun kk hkk => ⟨fun hm => by have := HPA.out.law.both.1.dev.lt _ hm; have := hnew kk hkk; omega, fun hm => by have := HPA.out.law.both.1.log.lt _ hm; have := hnew kk hkk; omega⟩⟩)
          obtain ⟨d0, d1, d2, d3, d4⟩ := HKW.out w4 hbel
          have HS4 := Lib.hid (HSW.out.below hbel (Nat.le_refl _))
          have hs4 : Sees w4 w4.heap.size Ab xB := (HSW.out.below hbel (Nat.le_refl _)).mono hbel.size
          have hcv := run_sees_string (P := Tryd.prog) w4 23 9 5 Tryd.underlying23 Tryd.underlying5 Tryd.underlying9 hs4 nb cb HSB.out.1
          have HS5 := Lib.hid hs4
          obtain ⟨sb, Hsb⟩ : ∃ s, Hid (s = bstr xB) := ⟨_, Lib.hid rfl⟩
          replace hcv : (convert 23 9 (.slice Ab nb cb)).run Tryd.prog w4 = .ok (.string sb) w4 := by rw [Hsb.out]; exact hcv
          clear hown hnew hbel hs4
          go_wp2_with fail
          refine (plays_add HP4.out Ab nb cb xB HSB.out.1 HSB.out.2.1 HSB.out.2.2.1 HS5.out HAB.out HB2.out _ HVN.out).mono ?_
          rintro e w5 ⟨er, rfl, hcase⟩
          clear d0 d1 d2 d3 d4 hcv
          rcases hcase with ⟨rfl, F5, G5, S5, L5, hp5⟩ | ⟨rfl, rfl, F5, G5, S5, L5, os5, hp5⟩ | ⟨rfl, rfl, F5, G5, S5, L5, hp5⟩ | ⟨rfl, F5, G5, S5, L5, hp5⟩
          · have HP5 := Lib.hid hp5
            clear hp5
            go_wp2_with fail
            go_meet
            exact ⟨F5, G5, x, S5, L5, _, _, _, _, _, _, _, _, _, os, _, rfl, rfl, rfl, rfl, rfl, rfl, HP5.out⟩
          · have HDN := Lib.hid (done_any hp5.law.both.1.log)
            have HP5 := Lib.hid hp5
            clear hp5
            go_wp2_with fail
            refine HDN.out.mono ?_
            rintro e w6 ⟨rfl, rfl⟩
            clear HDN
            go_wp2_with fail
            go_meet
            exact ⟨F5, G5, x, S5, L5, _, _, _, _, _, _, _, _, _, os5, _, rfl, rfl, rfl, rfl, rfl, rfl, HP5.out⟩
          · have HDN := Lib.hid (done_any hp5.law.both.1.log)
            have HP5 := Lib.hid hp5
            clear hp5
            go_wp2_with fail
            refine HDN.out.mono ?_
            rintro e w6 ⟨rfl, rfl⟩
            clear HDN
            go_wp2_with fail
            go_meet
            exact ⟨F5, G5, x, S5, L5, _, _, _, _, _, _, _, _, _, os, _, rfl, rfl, rfl, rfl, rfl, rfl, HP5.out⟩
          · have HP5 := Lib.hid hp5
            clear hp5
            go_wp2_with fail
            go_meet
            exact ⟨F5, G5, x, S5, L5, _, _, _, _, _, _, _, _, _, os, _, rfl, rfl, rfl, rfl, rfl, rfl, HP5.out⟩
        by_cases o1 : xo = 1
        · subst o1
          go_wp2_with fail
          obtain ⟨rs, Hrs⟩ : ∃ rs, Hid (rs = L.recs.map bstr) := ⟨_, Lib.hid rfl⟩
          refine wpl23_run xb nr cr nb cb Ar Ab vb xB rs (by show 92 < 175; omega) rfl rfl rfl (HKW.out wa (Below.refl _ _)).2.2.2.1 HSB.out.1 HSW.out (by rw [Hrs.out]; exact HPA.out.recs.1) (by rw [Hrs.out, List.length_map]; exact HPA.out.recLen) ?_
          intro af A4 c4 w4 hfr h16 h17 hown hnew hbel
          have ha := hfr.eq (by intro t ht; simp at ht; show t < 175; omega)
          simp only [List.foldl_cons, List.foldl_nil] at ha
          clear hfr
          rw [h16] at ha
          clear h16
          rw [h17] at ha
          clear h17
          generalize af.eval (.tmp 84) = u84 at ha
          generalize af.eval (.tmp 85) = u85 at ha
          generalize af.eval (.tmp 86) = u86 at ha
          generalize af.eval (.tmp 87) = u87 at ha
          generalize af.eval (.tmp 88) = u88 at ha
          generalize af.eval (.tmp 89) = u89 at ha
          generalize af.eval (.tmp 90) = u90 at ha
          generalize af.eval (.tmp 91) = u91 at ha
          generalize af.eval (.tmp 92) = u92 at ha
          subst ha
          simp only [Act.put, List.setIfInBounds_toArray, List.set_cons_zero, List.set_cons_succ]
          have HP4 := Lib.hid (HPA.out.below hbel)
          have HVN := Lib.hid (show SW w4 F G (.slice A4 (rs.length + 1) c4) (L.recs.map bstr ++ [bstr xB]) from ⟨by rw [← Hrs.out]; exact hown, fun kk hkk => ⟨fun hm => by have := HPA.out.law.both.1.dev.lt _ hm; have := hnew kk hkk; omega, fun hm => by have := HPA.out.law.both.1.log.lt _ hm; have := hnew kk hkk; omega⟩⟩)
          obtain ⟨d0, d1, d2, d3, d4⟩ := HKW.out w4 hbel
          have HS4 := Lib.hid (HSW.out.below hbel (Nat.le_refl _))
          have hs4 : Sees w4 w4.heap.size Ab xB := (HSW.out.below hbel (Nat.le_refl _)).mono hbel.size
          have hcv := run_sees_string (P := Tryd.prog) w4 23 9 5 Tryd.underlying23 Tryd.underlying5 Tryd.underlying9 hs4 nb cb HSB.out.1
          have HS5 := Lib.hid hs4
          obtain ⟨sb, Hsb⟩ : ∃ s, Hid (s = bstr xB) := ⟨_, Lib.hid rfl⟩
          replace hcv : (convert 23 9 (.slice Ab nb cb)).run Tryd.prog w4 = .ok (.string sb) w4 := by rw [Hsb.out]; exact hcv
          clear hown hnew hbel hs4
          go_wp2_with fail
          refine (plays_keep HP4.out Ab nb cb xB HSB.out.1 HSB.out.2.1 HSB.out.2.2.1 HS5.out HAB.out HB2.out).mono ?_
          rw [← Hsb.out]
          rintro e w5 ⟨er, rfl, hcase⟩
          clear d0 d1 d2 d3 d4 hcv
          rcases hcase with ⟨rfl, F5, G5, S5, L5, hp5⟩ | ⟨rfl, rfl, F5, G5, S5, L5, os5, hp5⟩ | ⟨rfl, rfl, F5, G5, S5, L5, hp5⟩ | ⟨rfl, F5, G5, S5, L5, hp5⟩
          · have HP5 := Lib.hid hp5
            clear hp5
            go_wp2_with fail
            go_meet
            exact ⟨F5, G5, x, S5, L5, _, _, _, _, _, _, _, _, _, os, _, rfl, rfl, rfl, rfl, rfl, rfl, HP5.out⟩
          · have HDN := Lib.hid (done_any hp5.law.both.1.log)
            have HP5 := Lib.hid hp5
            clear hp5
            go_wp2_with fail
            refine HDN.out.mono ?_
            rintro e w6 ⟨rfl, rfl⟩
            clear HDN
            go_wp2_with fail
            go_meet
            exact ⟨F5, G5, x, S5, L5, _, _, _, _, _, _, _, _, _, os5, _, rfl, rfl, rfl, rfl, rfl, rfl, HP5.out⟩
          · have HDN := Lib.hid (done_any hp5.law.both.1.log)
            have HP5 := Lib.hid hp5
            clear hp5
            go_wp2_with fail
            refine HDN.out.mono ?_
            rintro e w6 ⟨rfl, rfl⟩
            clear HDN
            go_wp2_with fail
            go_meet
            exact ⟨F5, G5, x, S5, L5, _, _, _, _, _, _, _, _, _, os, _, rfl, rfl, rfl, rfl, rfl, rfl, HP5.out⟩
          · have HP5 := Lib.hid hp5
            clear hp5
            go_wp2_with fail
            go_meet
            exact ⟨F5, G5, x, S5, L5, _, _, _, _, _, _, _, _, _, os, _, rfl, rfl, rfl, rfl, rfl, rfl, HP5.out⟩
        by_cases o2 : xo = 2
        · subst o2
          obtain ⟨d0, d1, d2, d3, d4⟩ := HKW.out wa (Below.refl _ _)
          go_wp2_with fail
          refine (plays_crash HPA.out Ak nk ck xk HSK.out.1 HSK.out.2.1 HSK.out.2.2.1 (HSKA.out.up HSZ.out) xt).mono ?_
          rintro e w5 ⟨rfl, F5, S5, hm5, _⟩
          have HM5 := Lib.hid hm5
          clear hm5 d0 d1 d2 d3 d4
          go_wp2_with fail
          refine (plays_on HM5.out).mono ?_
          rintro e w6 ⟨rfl, F6, S6, hm6, ho6, _⟩
          have HO := Lib.hid (plays_open hm6 ho6 (by omega) Hsz.out)
          have HM6 := Lib.hid (⟨hm6.base, hm6.safe, hm6.len, ho6⟩ : _ ∧ _ ∧ _ ∧ _)
          clear hm6 ho6 HM5
          go_wp2_with fail
          refine HO.out.mono ?_
          rintro e w7 ⟨mx, G2, Lx, rfl, hl7, hh7, hvr, hvo, hor, hol⟩
          have HL7 := Lib.hid (⟨hl7, hh7, hvr, hvo⟩ : _ ∧ _ ∧ _ ∧ _)
          have HOR := Lib.hid hor
          have HOL := Lib.hid hol
          have hrx : Lx.recs.length ≤ 300000 := by have h1 := Lx.used_pos; have h2 := hl7.both.2.1.used; omega
          have hbx : Lx.base.length ≤ 200000 := hl7.both.2.1.small _ (List.mem_cons_self ..)
          obtain ⟨no1, no2, no3⟩ := hvo.num
          have HNO := Lib.hid (⟨no1, no2, no3⟩ : _ ∧ _ ∧ _)
          have HBS := Lib.hid (base_any hl7.both.1.log (by omega))
          have HRX := Lib.hid hrx
          clear HO hl7 hh7 hvr hvo hor hol hrx hbx no1 no2 no3
          have OLD : Hid (Lx = L → ∀ W, Below w7.heap.size w7 W → PIn B w W F6 G2 d mx S6 sz m L false vb (.slice Ar nr cr) va (.slice Ao no co) os false) := Lib.hid (fun e W hW => by
            subst e
            exact (⟨HL7.out.1, HM6.out.2.1, HM6.out.2.2.1, HM6.out.1, HL7.out.2.2.1, HL7.out.2.2.2, .inl ⟨rfl, rfl, HM6.out.2.2.2, HL7.out.2.1⟩⟩ : PIn B w w7 F6 G2 d mx S6 sz m Lx false vb (.slice Ar nr cr) va (.slice Ao no co) os false).below hW)
          cases may
          · have hold : Lx = L := by
              rcases HOR.out with h | ⟨h, _⟩
              · exact h
              · cases h
            have HK := Lib.hid (OLD.out hold w7 (Below.refl _ _))
            clear hold
            go_wp2_with fail
            go_meet
            exact ⟨F6, G2, mx, S6, L, _, _, _, _, _, _, _, _, _, os, _, rfl, rfl, rfl, rfl, rfl, rfl, HK.out⟩
          · go_wp2_with fail
            refine HBS.out.mono ?_
            rintro e w8 ⟨A8, c8, rfl, hs8, _, _, hb8⟩
            have hcv := run_sees_string (P := Tryd.prog) w8 23 9 5 Tryd.underlying23 Tryd.underlying5 Tryd.underlying9 hs8 Lx.base.length c8 rfl
            obtain ⟨bx, Hbx⟩ : ∃ b, Hid (b = bstr Lx.base) := ⟨_, Lib.hid rfl⟩
            replace hcv : (convert 23 9 (.slice A8 Lx.base.length c8)).run Tryd.prog w8 = .ok (.string bx) w8 := by rw [Hbx.out]; exact hcv
            have HB8 := Lib.hid hb8
            have hl8 := HL7.out.1.below hb8
            have HAL := Lib.hid (all_any hl8.both.1.log (by have := HRX.out; omega) (recs_all _ hl8.both.2.1))
            clear hs8 hb8 hl8 HBS
            by_cases hA : bx = va
            · subst hA
              go_wp2_with fail
              refine HAL.out.mono ?_
              rintro e w9 ⟨A9, c9, rfl, hg9, _, _, hb9⟩
              have hb79 := HB8.out.trans (hb9.mono HB8.out.size)
              have HB9 := Lib.hid hb79
              obtain ⟨r, Hr⟩ : ∃ r, Hid (r = decide (Lx.recs.map bstr = os)) := ⟨_, Lib.hid rfl⟩
              have HRW := Lib.hid (rows_any w9 A9 Lx.recs.length c9 Lx.recs Ao no co os rfl HNO.out.1 (by have := HRX.out; omega) (by have := HNO.out.1; have := HOL.out (by simp); omega) hg9 ((HL7.out.2.2.2.below hb79).strs) r Hr.out)
              clear hg9 hb9 hb79 HAL hcv
              go_wp2_with fail
              refine HRW.out.mono ?_
              rintro e wA ⟨rfl, hbA⟩
              have hbA7 := HB9.out.trans (hbA.mono HB9.out.size)
              cases hr : r
              · have hold : Lx = L := by
                  rcases HOR.out with h | ⟨_, _, h⟩
                  · exact h
                  · have := Hr.out; rw [hr, h] at this; simp at this
                have HK := Lib.hid (OLD.out hold wA hbA7)
                clear hold hbA hbA7 HRW
                go_wp2_with fail
                go_meet
                exact ⟨F6, G2, mx, S6, L, _, _, _, _, _, _, _, _, _, os, _, rfl, rfl, rfl, rfl, rfl, rfl, HK.out⟩
              · have hos : Lx.recs.map bstr = os := by have := Hr.out; rw [hr] at this; simpa using this.symm
                have HK := Lib.hid ((⟨HL7.out.1, HM6.out.2.1, HM6.out.2.2.1, Hbx.out, by rw [hos]; exact HL7.out.2.2.2, HL7.out.2.2.2, .inl ⟨rfl, rfl, HM6.out.2.2.2, HL7.out.2.1⟩⟩ : PIn B w w7 F6 G2 d mx S6 sz m Lx false bx (.slice Ao no co) bx (.slice Ao no co) os false).below hbA7)
                clear hos hbA hbA7 HRW
                go_wp2_with fail
                go_meet
                exact ⟨F6, G2, mx, S6, Lx, _, _, _, _, _, _, _, _, _, os, _, rfl, rfl, rfl, rfl, rfl, rfl, HK.out⟩
            · have hold : Lx = L := by
                rcases HOR.out with h | ⟨_, h, _⟩
                · exact h
                · exact absurd (Hbx.out.trans h.symm) hA
              have hne : (bx.toList == va.toList) = false := by
                rw [ByteArray.toList_eq, ByteArray.toList_eq, beq_eq_false_iff_ne]
                exact fun e => hA (Go.WideShapes.bytes_inj e)
              have hne2 : (bx.data.toList == va.data.toList) = false := by
                rw [beq_eq_false_iff_ne]
                exact fun e => hA (Go.WideShapes.bytes_inj e)
              have HK := Lib.hid (OLD.out hold w8 HB8.out)
              clear hold hA HAL
              go_wp2_with fail
              go_meet
              exact ⟨F6, G2, mx, S6, L, _, _, _, _, _, _, _, _, _, os, _, rfl, rfl, rfl, rfl, rfl, rfl, HK.out⟩
        have p0 : (xo == 0) = false := by simpa using o0
        have p1 : (xo == 1) = false := by simpa using o1
        have p2 : (xo == 2) = false := by simpa using o2
        clear o0 o1 o2
        obtain ⟨d0, d1, d2, d3, d4⟩ := HKW.out wa (Below.refl _ _)
        have HOF := Lib.hid (plays_off HPA.out)
        cases ho : S.off
        · rw [ho] at HOF
          have HAR := Lib.hid (plays_arm HPA.out ho xn b1'.2 Ak nk ck xk HSK.out.1 HK2.out (HSKA.out.up HSZ.out) HAK.out xt)
          clear ho
          go_wp2_with fail
          refine HOF.out.mono ?_
          rintro e w5 ⟨rfl, rfl⟩
          go_wp2_with fail
          refine HAR.out.mono ?_
          rintro e w6 ⟨rfl, F6, S6, hp6⟩
          have HP6 := Lib.hid hp6
          clear hp6 HAR HOF d0 d1 d2 d3 d4
          go_wp2_with fail
          go_meet
          exact ⟨F6, G, x, S6, L, _, _, _, _, _, _, _, _, _, os, _, rfl, rfl, rfl, rfl, rfl, rfl, HP6.out⟩
        · rw [ho] at HOF
          clear ho
          go_wp2_with fail
          refine HOF.out.mono ?_
          rintro e w5 ⟨rfl, rfl⟩
          clear d0 d1 d2 d3 d4 HOF
          go_wp2_with fail
          go_meet
          exact ⟨F, G, x, S, L, _, _, _, _, _, _, _, _, _, os, _, rfl, rfl, rfl, rfl, rfl, rfl, HPA.out⟩
      case rest =>
        clear HPA HSW HSKA HSZ HKW
        obtain ⟨F6, G6, x6, S6, L6, dn6, vb6, Ar6, nr6, cr6, va6, Ao6, no6, co6, os6, may6, rfl, rfl, rfl, rfl, rfl, rfl, hp6⟩ := hcut
        obtain ⟨nr1, nr2, nr3⟩ := hp6.recs.num
        have hrl6 := hp6.recLen
        have HBS := Lib.hid (base_any hp6.law.both.1.log (by have := hp6.small; omega))
        have HP6 := Lib.hid hp6
        have HNR := Lib.hid (⟨nr1, hrl6⟩ : _ ∧ _)
        clear hp6 nr1 nr2 nr3 hrl6
        go_wp2_with fail
        refine HBS.out.mono ?_
        rintro e w8 ⟨A8, c8, rfl, hs8, _, _, hb8⟩
        have hcv := run_sees_string (P := Tryd.prog) w8 23 9 5 Tryd.underlying23 Tryd.underlying5 Tryd.underlying9 hs8 L6.base.length c8 rfl
        replace hcv : (convert 23 9 (.slice A8 L6.base.length c8)).run Tryd.prog w8 = .ok (.string vb6) w8 := by rw [HP6.out.base]; exact hcv
        have hp8 := HP6.out.below hb8
        have HAL := Lib.hid (all_any hp8.law.both.1.log (by have := HNR.out.2; omega) (recs_all _ hp8.law.both.2.1))
        have HP8 := Lib.hid hp8
        clear hs8 hb8 hp8 HBS HP6
        go_wp2_with fail
        refine HAL.out.mono ?_
        rintro e w9 ⟨A9, c9, rfl, hg9, _, _, hb9⟩
        have hp9 := HP8.out.below hb9
        have HRW := Lib.hid (rows_any w9 A9 L6.recs.length c9 L6.recs Ar6 nr6 cr6 (L6.recs.map bstr) rfl HNR.out.1 (by have := HNR.out.2; omega) (by have := HNR.out; rw [this.1, List.length_map]; omega) hg9 hp9.recs.strs true (by simp))
        have HP9 := Lib.hid hp9
        clear hg9 hb9 hp9 HAL HP8 hcv
        go_wp2_with fail
        refine HRW.out.mono ?_
        rintro e wA ⟨rfl, hbA⟩
        have HK := Lib.hid (HP9.out.below hbA)
        clear hbA HRW HP9
        go_wp2_with fail
        go_roundw
        case rel => exact ⟨k + 1, by omega, by go_num, F6, G6, x6, S6, L6, _, _, _, _, _, _, _, _, _, os6, _, rfl, rfl, rfl, rfl, rfl, rfl, HK.out⟩
        case measure => simp [intOf]; omega
    · obtain rfl : k = l.length := by omega
      have HX := Lib.hid hbw
      clear hp hbw
      go_wp2
      go_ret
      exact ⟨rfl, HX.out⟩
end Go.Proofs.YtdnbbnjmdddfdaaDoor
