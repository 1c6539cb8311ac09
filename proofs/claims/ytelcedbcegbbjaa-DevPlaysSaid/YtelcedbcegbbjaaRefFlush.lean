/- The reference's device: Flush. -/
import Derived.Test.YtelcedbcegbbjaaRefBlow
namespace Go.Proofs.Ytelcedbcegbbjaa
open Go.RowKit Dk
set_option linter.unusedVariables false

theorem putAll_take_succ (D : List ByteArray) (c : List Wr) (k : Nat) (hk : k < c.length) : putAll D (c.take (k + 1)) = (putAll D (c.take k)).set c[k].1 c[k].2 := by
  rw [List.take_succ_eq_append_getElem hk, putAll_snoc]

set_option maxHeartbeats 1000000 in
theorem ref_flush {G : List Nat} {r : Nat} {S : Disk} (w : World) (h : RefM w G r S) (hd : 0 < S.dur.length) : Calls Try.prog 23 #[.pointer (some ⟨r, 0, none⟩)] w (RefEnd G r S.flush (.int .i64 S.flushE) w) := by
  have h0 := h
  have hblow := ref_blown w h hd
  obtain ⟨vs, vl, vk, fz, tn, h1, h2, h3, h4, h5, h6, h7, h8, h9, h10, h11, h12, h13⟩ := h
  obtain ⟨_, hc, _⟩ := h1.cells
  cases ho : S.off
  case true =>
    rw [ho] at hc
    have key : RefEnd G r S.flush (.int .i64 S.flushE) w (.returned (.int .i64 7)) w := ⟨by simp [Disk.flushE, ho], G, by unfold Disk.flush; rw [ho]; exact h0, Only.refl _ _, Grows.refl _ _⟩
    have HK := Lib.hid key
    clear key h0 h1 h2 h3 h4 h5 h6 h7 h8 h9 h10 h11 h12 h13 ho hblow hd
    go_enter Try.func23, Try.ntmps23
    go_wp2
    go_ret
    exact HK.out
  case false =>
    rw [ho] at hc
    cases hb : S.blows
    case true =>
      rw [hb] at hblow
      have hfl : S.flush = S.blow := by unfold Disk.flush; rw [ho, hb]; rfl
      have hfe : S.flushE = 7 := by simp [Disk.flushE, ho, hb]
      rw [hfl, hfe]
      have HB := Lib.hid hblow
      clear h0 h1 h2 h3 h4 h5 h6 h7 h8 h9 h10 h11 h12 h13 ho hblow hd hb hfl hfe
      go_enter Try.func23, Try.ntmps23
      go_wp2_with fail
      refine HB.out.mono ?_
      rintro e w1 ⟨rfl, hR⟩
      have HRR := Lib.hid hR
      clear hR
      go_wp2
      go_ret
      exact ⟨rfl, HRR.out⟩
    case false =>
      rw [hb] at hblow
      obtain ⟨b1, b2, b3, b4, b5⟩ := Disk.blow_same hb
      have hfl : S.flush = { S.blow with dur := S.last, cache := [] } := by unfold Disk.flush; rw [ho, hb]; rfl
      have hfe : S.flushE = 0 := by simp [Disk.flushE, ho, hb]
      have hok := h11.flush
      have HB := Lib.hid hblow
      have HS := Lib.hid hfl
      have HE := Lib.hid (⟨b1, b2, b3⟩ : S.blow.dur = S.dur ∧ S.blow.cache = S.cache ∧ S.blow.off = S.off)
      have HOK := Lib.hid hok
      have HW := Lib.hid h11.wr
      have HD0 := Lib.hid hd
      rw [hfe]
      clear h0 h1 h2 h3 h4 h5 h6 h7 h8 h9 h10 h11 h12 h13 ho hblow hb hfl hfe b1 b2 b3 b4 b5 hok hd
      go_enter Try.func23, Try.ntmps23
      go_wp2_with fail
      refine HB.out.mono ?_
      rintro e w1 ⟨rfl, F1, hM, hO1, hG1⟩
      obtain ⟨vs, vl, vk, fz, tn, h1, h2, h3, h4, h5, h6, h7, h8, h9, h10, h11, h12, h13⟩ := hM
      rw [HE.out.1, HE.out.2.1] at h1
      obtain ⟨sb, cap, rfl, _, _⟩ := h1.vsForm HD0.out
      have hsb : sb ∈ F1 := h8 sb rfl
      obtain ⟨A, c, rfl, hc1, hc2⟩ := h1.vlShape
      obtain ⟨_, _, _, c1, _⟩ := h1.cells
      have H1 := Lib.hid h1
      have H2 := Lib.hid h2
      have H36 := Lib.hid (⟨h3, h4, h5, h6⟩ : _ ∧ _ ∧ _ ∧ _)
      have HM := Lib.hid (⟨h7, hsb, h8, h10, h12, h13⟩ : _ ∧ _ ∧ _ ∧ _ ∧ _ ∧ _)
      have HO1 := Lib.hid hO1
      have HG1 := Lib.hid hG1
      obtain ⟨off, HOFF⟩ : ∃ x, Hid (x = S.blow.off) := ⟨_, Lib.hid rfl⟩
      rw [← HOFF.out] at H1
      unfold maxLen at hc2
      clear h1 h2 h3 h4 h5 h6 h7 h8 h9 h10 h11 h12 h13 hO1 hG1 hc hsb
      go_wp2
      go_loopw [3] (fun i wr => ∃ k : Nat, k ≤ S.cache.length ∧ i = .int .i64 k ∧ RefC wr r S.dur.length (.slice (some ⟨sb, 0, none⟩) (putAll S.dur (S.cache.take k)).length cap) (putAll S.dur (S.cache.take k)) (.slice A S.cache.length c) S.cache off fz vk tn ∧ Only [sb] w1 wr) (fun i _ => S.cache.length - (intOf i).toNat)
      case atStart => exact ⟨0, Nat.zero_le _, rfl, H1.out, Only.refl _ _⟩
      case round =>
        obtain ⟨k, hk, rfl, hdd, hO⟩ := hrel
        clear c1
        by_cases hlt : k < S.cache.length
        · obtain ⟨cb, c', e, _, _⟩ := hdd.vlForm (by omega)
          injection e with e1 e2 e3
          subst e1; subst e3
          clear e2
          have hcap := own_shape hdd.sec
          obtain ⟨A0, cc0, e0, q1, q2⟩ := hcap
          injection e0 with e01 e02 e0
          clear e01 e02
          subst e0
          have hat' := (HW.out S.cache[k] (List.getElem_mem hlt)).1
          have hl := putAll_length S.dur (S.cache.take k)
          have hl' := putAll_length S.dur (S.cache.take (k + 1))
          have hat : S.cache[k].1 < (putAll S.dur (S.cache.take k)).length := by rw [hl]; exact hat'
          obtain ⟨f1, f2⟩ := hdd.wrAt k hlt
          obtain ⟨g1, fr, s0⟩ := hdd.secAt S.cache[k].1 hat
          obtain ⟨_, _, c2, c3, _⟩ := hdd.cells
          have HG := Lib.hid (putAll_take_succ S.dur S.cache k hlt)
          have HL := Lib.hid (hl'.trans hl.symm)
          obtain ⟨old, HOLD⟩ : ∃ x, Hid (x = (putAll S.dur (S.cache.take k))[S.cache[k].1]) := ⟨_, Lib.hid rfl⟩
          rw [← HOLD.out] at g1
          clear HOLD
          obtain ⟨wc, HWC⟩ : ∃ x, Hid (x = S.cache[k]) := ⟨_, Lib.hid rfl⟩
          rw [← HWC.out] at f1 f2 g1 fr hat hat' HG
          obtain ⟨at_, dat⟩ := wc
          simp only at f1 f2 g1 fr hat hat'
          have hfin : RefC (wr.setCell ⟨sb, at_, none⟩ (.string dat)).drew r S.dur.length (.slice (some ⟨sb, 0, none⟩) (putAll S.dur (S.cache.take (k + 1))).length cap) (putAll S.dur (S.cache.take (k + 1))) (.slice (some ⟨cb, 0, none⟩) S.cache.length c) S.cache off fz vk tn ∧ Only [sb] w1 (wr.setCell ⟨sb, at_, none⟩ (.string dat)).drew := by
            rw [HL.out, HG.out]
            exact ⟨(hdd.put at_ dat).below (Below.refl _ _).drew, (hO.setCell (.inl (by simp)) _).trans (Only.of_below (Below.refl _ _).drew)⟩
          have HF := Lib.hid hfin
          have i1 : (k : Int) < (S.cache.length : Int) := by omega
          have i2 : (0 : Int) ≤ (k : Int) := by omega
          obtain ⟨nl, HNL⟩ : ∃ x, Hid (x = (putAll S.dur (S.cache.take k)).length) := ⟨_, Lib.hid rfl⟩
          rw [← HNL.out] at c2 q1 hat
          have i3 : (at_ : Int) < (nl : Int) := by omega
          have i4 : (0 : Int) ≤ (at_ : Int) := by omega
          unfold maxLen at q2
          clear hfin hdd hO hl hl' hat'
          go_wp2
          go_still_tail 21, (by kernel_rfl)
          go_wp2
          go_roundw
          case rel => exact ⟨k + 1, by omega, by go_num, HF.out.1, HF.out.2⟩
          case measure => simp [intOf]; omega
        · have hkn : k = S.cache.length := by omega
          subst hkn
          obtain ⟨_, _, c2, c3, _⟩ := hdd.cells
          have fr := hdd.free 3
          have hO2 : Only [r, sb] w1 (wr.setCell ⟨r, 3, none⟩ (.slice none 0 0)) := (hO.more (fun b hb => by rw [List.mem_singleton] at hb; simp [hb])).setCell (.inl (by simp)) _
          have hO3 : Only F1 w1 (wr.setCell ⟨r, 3, none⟩ (.slice none 0 0)) := only_ds HM.out.1 HM.out.2.1 hO2
          have hd2 := hdd.putWr (.slice none 0 0) [] (World.ownsRow_nil _ _ _ _)
          have hnsb := fun (hc0 : S.blow.calls ≠ 0) => H1.out.own_sb (H36.out.2.2.2 hc0).2.1
          have key : RefEnd G r S.flush (.int .i64 0) w (.returned (.int .i64 0)) (wr.setCell ⟨r, 3, none⟩ (.slice none 0 0)) := by
            have hok := HOK.out
            rw [HS.out] at hok ⊢
            rw [List.take_length] at hd2
            have hll := putAll_length S.dur S.cache
            obtain ⟨m1, m2, m3, m4, m5, m6⟩ := HM.out
            refine ⟨rfl, F1, ⟨.slice (some ⟨sb, 0, none⟩) (putAll S.dur S.cache).length cap, .slice none 0 0, vk, fz, tn, ?_, H2.out, H36.out.1, H36.out.2.1, H36.out.2.2.1, fun hc0 => ⟨(H36.out.2.2.2 hc0).1, own_only (H36.out.2.2.2 hc0).2.1 hO2 ?_, (H36.out.2.2.2 hc0).2.2⟩, m1, m3, fun k hk => by simp [Value.ownBlock] at hk, fun b hb => Nat.lt_of_lt_of_le (m4 b hb) hO3.size, hok, m5, ?_⟩, HO1.out.step hO3 HG1.out, HG1.out⟩
            · show RefC _ r (putAll S.dur S.cache).length _ (putAll S.dur S.cache) _ [] S.blow.off fz vk tn
              rw [← HOFF.out]
              rw [← hll] at hd2
              exact hd2
            · intro k hk
              have n1 := own_ne (H36.out.2.2.2 hc0).2.1 H1.out.blk (by decide) k hk
              have n2 := hnsb hc0 k hk
              simp [n1, n2]
            · show (putAll S.dur S.cache).length ≤ 8192
              rw [hll]
              rw [HE.out.1] at m6
              exact m6
          have HK := Lib.hid key
          clear key hdd hO hO2 hO3 hd2 hnsb hlt
          go_wp2
          go_ret
          exact HK.out
end Go.Proofs.Ytelcedbcegbbjaa
