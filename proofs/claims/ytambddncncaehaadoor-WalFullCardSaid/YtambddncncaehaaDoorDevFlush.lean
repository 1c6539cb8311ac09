/- Package dev's Flush. -/
import Derived.Test.YtambddncncaehaaDoorDevBlow
namespace Go.Proofs.YtambddncncaehaaDoor
open Go.RowKit Dk
set_option linter.unusedVariables false

set_option maxHeartbeats 1000000 in
set_option maxRecDepth 100000 in
theorem flush_any {F : List Nat} {d : Nat} {S : Disk} (w : World) (h : DevM w F d S) (hcl : S.cache.length ≤ 100000) : Calls Tryd.prog 49 #[.pointer (some ⟨d, 0, none⟩)] w (DevEnd F d S.flush (.int .i64 S.flushE) w) := by
  have h0 := h
  have hblow := blow_any w h hcl
  obtain ⟨sb, cap, vc, vk, tn, h1, h2, h3, h4, h5, h6, h7, h8, h9, h10⟩ := h
  obtain ⟨_, _, hc, _⟩ := h1.cells
  cases ho : S.off
  case true =>
    rw [ho] at hc
    have key : DevEnd F d S.flush (.int .i64 S.flushE) w (.returned (.int .i64 7)) w := ⟨by simp [Disk.flushE, ho], F, by unfold Disk.flush; rw [ho]; exact h0, Only.refl _ _, Grows.refl _ _⟩
    have HK := Lib.hid key
    clear key h0 h1 h2 h3 h4 h5 h6 h7 h8 ho hblow h9
    go_enter Tryd.func49, Tryd.ntmps49
    go_wp2
    go_ret
    exact HK.out
  case false =>
    rw [ho] at hc
    cases hb : S.blows
    case true =>
      rw [hb] at hblow
      have hfl : S.flush = S.blow := by unfold Disk.flush; rw [ho, hb]; rfl
      have hfe : S.flushE = 7 := by simp [Disk.flushE, ho, hb]
      rw [hfl, hfe]
      have HB := Lib.hid hblow
      clear h0 h1 h2 h3 h4 h5 h6 h7 h8 ho hblow h9 hb hfl hfe
      go_enter Tryd.func49, Tryd.ntmps49
      go_wp2_with fail
      refine HB.out.mono ?_
      rintro e w1 ⟨rfl, hR⟩
      have HRR := Lib.hid hR
      clear hR
      go_wp2
      go_ret
      exact ⟨rfl, HRR.out⟩
    case false =>
      rw [hb] at hblow
      obtain ⟨b1, b2, b3, b4, b5⟩ := Disk.blow_same hb
      have hfl : S.flush = { S.blow with dur := S.last, cache := [] } := by unfold Disk.flush; rw [ho, hb]; rfl
      have hfe : S.flushE = 0 := by simp [Disk.flushE, ho, hb]
      have hok := h8.flush
      have HB := Lib.hid hblow
      have HS := Lib.hid hfl
      have HE := Lib.hid (⟨b1, b2, b3⟩ : S.blow.dur = S.dur ∧ S.blow.cache = S.cache ∧ S.blow.off = S.off)
      have HOK := Lib.hid hok
      have HL := Lib.hid h10
      have HOF := Lib.hid ho
      rw [hfe]
      clear h0 h1 h2 h3 h4 h5 h6 h7 h8 ho hblow h9 hb hfl hfe b1 b2 b3 b4 b5 hok
      go_enter Tryd.func49, Tryd.ntmps49
      go_wp2_with fail
      refine HB.out.mono ?_
      rintro e w1 ⟨rfl, F1, hM, hO1, hG1⟩
      obtain ⟨sb, cap, vc, vk, tn, h1, h2, h3, h4, h5, h6, h7, h8, h9, h10⟩ := hM
      have hlast : S.blow.last = S.last := by unfold Disk.last; rw [HE.out.1, HE.out.2.1]
      have hcw := h8.wr
      rw [HE.out.1, hlast, HE.out.2.1] at h1
      rw [HE.out.1, HE.out.2.1] at hcw
      obtain ⟨A, c, rfl, hc1, hc2⟩ := h1.cacheShape
      obtain ⟨_, c1, _⟩ := h1.cells
      have H1 := Lib.hid h1
      have H2 := Lib.hid h2
      have H3 := Lib.hid h3
      have HM := Lib.hid (⟨h4, h5, h7⟩ : d ∈ F1 ∧ sb ∈ F1 ∧ ∀ b, b ∈ F1 → b < w1.heap.size)
      have H9 := Lib.hid h9
      have HW := Lib.hid hcw
      have HO1 := Lib.hid hO1
      have HG1 := Lib.hid hG1
      obtain ⟨off, HOFF⟩ : ∃ x, Hid (x = S.blow.off) := ⟨_, Lib.hid rfl⟩
      obtain ⟨cs, HCS⟩ : ∃ x, Hid (x = S.blow.calls) := ⟨_, Lib.hid rfl⟩
      obtain ⟨la, HLA⟩ : ∃ x, Hid (x = S.last) := ⟨_, Lib.hid rfl⟩
      have hll : la.length = S.dur.length := by rw [HLA.out]; exact putAll_length _ _
      rw [← HOFF.out, ← HCS.out, ← HLA.out] at H1
      unfold maxLen at hc2
      clear h1 h2 h3 h4 h5 h6 h7 h8 h9 hlast hcw hO1 hG1 hc
      go_wp2
      go_loopw [19] (fun i wr => ∃ k : Nat, k ≤ S.cache.length ∧ i = .int .i64 k ∧ DevC wr d sb cap (copyTo S.dur la S.cache k) la (.slice A S.cache.length c) S.cache off cs vk tn ∧ Only [d, sb] w1 wr) (fun i _ => S.cache.length - (intOf i).toNat)
      case atStart => exact ⟨0, Nat.zero_le _, rfl, H1.out, Only.refl _ _⟩
      case round =>
        obtain ⟨k, hk, rfl, hd, hO⟩ := hrel
        clear c1
        by_cases hlt : k < S.cache.length
        · obtain ⟨cb, c', e, _, _⟩ := hd.cacheForm (by omega)
          injection e with e1 e2 e3
          subst e1; subst e3
          clear e2
          have hat' := (HW.out S.cache[k] (List.getElem_mem hlt)).1
          have hcl2 : (copyTo S.dur la S.cache k).length = S.dur.length := copyTo_length _ _ _ _
          have hat : S.cache[k].1 < (copyTo S.dur la S.cache k).length := by rw [hcl2]; exact hat'
          have hatl : S.cache[k].1 < la.length := by rw [hll]; exact hat'
          obtain ⟨f1, f2⟩ := hd.cacheFst k hlt
          have g1 := hd.secSnd S.cache[k].1 hat
          obtain ⟨old, g2⟩ : ∃ x, wr.cell? ⟨sb, S.cache[k].1 * 2, none⟩ = some (.string x) := ⟨_, hd.secFst S.cache[k].1 hat⟩
          obtain ⟨c0, _⟩ := hd.cells
          rw [hcl2] at c0
          have fr := hd.secFree (S.cache[k].1 * 2)
          obtain ⟨s0, s1, s2⟩ := hd.slt
          rw [hcl2] at s1
          have dl := hd.dlt
          obtain ⟨s, HSS⟩ : ∃ x, Hid (x = la[S.cache[k].1]) := ⟨_, Lib.hid rfl⟩
          have HG : Hid (copyTo S.dur la S.cache (k + 1) = (copyTo S.dur la S.cache k).set S.cache[k].1 s) := Lib.hid (by
            rw [HSS.out, copyTo_succ _ _ _ _ hlt]; simp [List.getD, List.getElem?_eq_getElem hatl])
          rw [← HSS.out] at g1
          clear HSS
          obtain ⟨wc, HWC⟩ : ∃ x, Hid (x = S.cache[k]) := ⟨_, Lib.hid rfl⟩
          rw [← HWC.out] at f1 f2 g1 g2 fr hat' HG
          clear hat hatl
          obtain ⟨at_, dat⟩ := wc
          simp only at f1 f2 g1 g2 fr hat'
          unfold maxLen at s2
          have HD := Lib.hid hd
          have HO := Lib.hid hO
          clear hd hO hcl2
          go_wp2
          go_quiet (fail)
          go_wp2
          go_roundw
          case rel =>
            refine ⟨k + 1, by omega, by go_num, ?_, ?_⟩
            · rw [HG.out]
              exact (HD.out.step _ _).putFst at_ s
            · exact ((HO.out.alloc _).drewN _).setCell (.inl (by simp)) _
          case measure => simp [intOf]; omega
        · have hkn : k = S.cache.length := by omega
          subst hkn
          obtain ⟨_, c1, _⟩ := hd.cells
          have fr := hd.free 1
          have hO2 : Only [d, sb] w1 (wr.setCell ⟨d, 1, none⟩ (.slice none 0 0)) := hO.setCell (.inl (by simp)) _
          have hO3 : Only F1 w1 (wr.setCell ⟨d, 1, none⟩ (.slice none 0 0)) := only_ds HM.out.1 HM.out.2.1 hO2
          have hd2 := hd.put1 (.slice none 0 0) [] (World.ownsRow_nil _ _ _ _)
          have hcf : copyTo S.dur la S.cache S.cache.length = la := by rw [HLA.out]; exact copyTo_flush _ _
          rw [hcf] at hd2
          have key : DevEnd F d S.flush (.int .i64 0) w (.returned (.int .i64 0)) (wr.setCell ⟨d, 1, none⟩ (.slice none 0 0)) := by
            have hok := HOK.out
            rw [HS.out] at hok ⊢
            have hl2 : ({ S.blow with dur := S.last, cache := [] } : Disk).last = la := HLA.out.symm
            refine ⟨rfl, F1, ⟨sb, cap, .slice none 0 0, vk, tn, ?_, H2.out, fun hc0 => ⟨(H3.out hc0).1, own_only (H3.out hc0).2.1 hO2 ?_, (H3.out hc0).2.2⟩, HM.out.1, HM.out.2.1, fun k hk => by simp [Value.ownBlock] at hk, fun b hb => Nat.lt_of_lt_of_le (HM.out.2.2 b hb) hO3.size, hok, H9.out, ?_⟩, HO1.out.step hO3 HG1.out, HG1.out⟩
            · rw [hl2]
              show DevC _ d sb cap S.last la _ [] S.blow.off S.blow.calls vk tn
              rw [← HLA.out, ← HOFF.out, ← HCS.out]
              exact hd2
            · intro k hk
              have o3 := (H3.out hc0).2.1
              have n1 := own_ne o3 H1.out.blk (by decide) k hk
              have n2 : k ≠ sb := by
                rcases H1.out.sec_blk with ⟨cur, hg⟩ | h00
                · exact own_ne o3 hg (by decide) k hk
                · intro e
                  subst e
                  rcases H1.out.sec.2 with ⟨hv, _⟩ | ⟨g, cp, cur, hv, _, hg, _⟩
                  · cases hv
                  · injection hv with h1 h2 h3
                    injection h1 with h1
                    injection h1 with h1 _ _
                    subst h1
                    exact own_ne o3 hg (by decide) _ hk rfl
              simp [n1, n2]
            · show S.last.length ≤ 8192
              rw [← HLA.out, hll]; exact HL.out
          have HK := Lib.hid key
          clear key hd hO hO2 hO3 hd2 hcf hlt
          go_wp2
          go_ret
          exact HK.out
end Go.Proofs.YtambddncncaehaaDoor
