/- The walk of Utf7Back. -/
import Derived.Test.YtpjgacmcpbpklaaDoorUtfLit
namespace Go.Proofs.YtpjgacmcpbpklaaDoor
open Go.RowKit
set_option linter.unusedVariables false

/-- Decode: what it makes of a text. -/
theorem dec_cases (s : ByteArray) (hs : s.size ≤ 1000000) : ∃ (c : ByteArray) (n : Nat), Hid (U7.decode s.data.toList = (c.data.toList, n)) ∧ ((n = 0 ∧ Hid (Lib.validD c.data.toList = true) ∧ Hid (U7.enc c.data.toList = s.data.toList) ∧ c.size ≤ 4 * s.size) ∨ (n = 3 ∧ c = ⟨#[]⟩)) := by
  by_cases h : Lib.validD (U7.dec s.data.toList) = true ∧ U7.enc (U7.dec s.data.toList) = s.data.toList
  · refine ⟨⟨(U7.dec s.data.toList).toArray⟩, 0, Lib.hid (by unfold U7.decode; rw [if_pos h]), .inl ⟨rfl, Lib.hid h.1, Lib.hid h.2, ?_⟩⟩
    rw [size_mk]
    exact U7.dec_len _ s.data.toList (Nat.le_refl _)
  · exact ⟨⟨#[]⟩, 3, Lib.hid (by unfold U7.decode; rw [if_neg h]), .inr ⟨rfl, rfl⟩⟩

set_option maxHeartbeats 3200000 in
set_option maxRecDepth 100000 in
theorem utf7Back_walk (s : ByteArray) (hs : s.size ≤ maxLen) (w : World) (h : UW w) :
    Calls Tryd.prog 5 #[.string s] w fun e w' => e = .returned (.bool true) ∧ Below w.heap.size w w' := by
  have hlen : s.data.toList.length = s.size := rfl
  unfold maxLen at hs
  have HA := Lib.hid (awake_any w h)
  have H := Lib.hid h
  clear h
  by_cases hb0 : 200 < (s.size : Int)
  · go_enter Tryd.func5, Tryd.ntmps5
    go_wp2_with fail
    refine HA.out.mono ?_
    rintro e w1 ⟨rfl, b1⟩
    go_wp2
    go_ret
    exact ⟨rfl, b1⟩
  · obtain ⟨c, n, HD, hn⟩ := dec_cases s (by omega)
    cases hv : Lib.validD s.data.toList with
    | false =>
      have HV0 := Lib.hid hv
      clear hv
      go_enter Tryd.func5, Tryd.ntmps5
      go_wp2_with fail
      refine HA.out.mono ?_
      rintro e w1 ⟨rfl, b1⟩
      have H1 := Lib.hid (H.out.below b1)
      go_wp2_with fail
      refine (enc_bad s (by omega) HV0.out _ H1.out).mono ?_
      rintro e w2 ⟨rfl, b2⟩
      have H2 := Lib.hid (H1.out.below b2)
      have B2 := Lib.hid (b1.trans (b2.mono b1.size))
      clear b1 b2
      rcases hn with ⟨rfl, HV, HE, hcz⟩ | ⟨rfl, rfl⟩
      · go_wp2_with fail
        refine (dec_lit s c 0 (by omega) HD.out _ H2.out).mono ?_
        rintro e wd ⟨rfl, bd⟩
        have HWd := Lib.hid (H2.out.below bd)
        have bd' := B2.out.trans (bd.mono B2.out.size)
        have hself : (s.toList == s.toList) = true := by simp
        go_wp2_with fail
        refine (enc_lit c s (by omega) HV.out HE.out _ HWd.out).mono ?_
        rintro e we ⟨rfl, be⟩
        go_wp2
        go_ret
        exact ⟨rfl, bd'.trans (be.mono bd'.size)⟩
      · go_wp2_with fail
        refine (dec_lit s ⟨#[]⟩ 3 (by omega) HD.out _ H2.out).mono ?_
        rintro e wd ⟨rfl, bd⟩
        have HWd := Lib.hid (H2.out.below bd)
        have bd' := B2.out.trans (bd.mono B2.out.size)
        go_wp2
        go_ret
        exact ⟨rfl, bd'⟩
    | true =>
      obtain ⟨a, HAE⟩ : ∃ a : ByteArray, Hid (U7.enc s.data.toList = a.data.toList) := ⟨⟨(U7.enc s.data.toList).toArray⟩, Lib.hid rfl⟩
      have haz : a.size ≤ 2000 := by
        have h1 := U7.enc_len s.data.toList
        rw [HAE.out] at h1
        have h2 : a.data.toList.length = a.size := rfl
        omega
      have hpr : ∀ (i : Nat) (hi : i < a.size), 32 ≤ a[i].toNat ∧ a[i].toNat ≤ 126 := fun i hi => by
        have h1 := U7.encR_pr (U7.runes s.data.toList) [] (a[i]) (by
          show _ ∈ U7.enc s.data.toList
          rw [HAE.out]
          exact List.getElem_mem (l := a.data.toList) (by simpa using hi))
        exact h1
      have HPR := Lib.hid hpr
      have HBK := Lib.hid (dec_back _ _ HAE.out hv)
      have HV0 := Lib.hid hv
      clear hv hpr
      go_enter Tryd.func5, Tryd.ntmps5
      go_wp2_with fail
      refine HA.out.mono ?_
      rintro e w1 ⟨rfl, b1⟩
      have H1 := Lib.hid (H.out.below b1)
      go_wp2_with fail
      refine (enc_lit s a (by omega) HV0.out HAE.out _ H1.out).mono ?_
      rintro e w2 ⟨rfl, b2⟩
      have H2 := Lib.hid (H1.out.below b2)
      have B2 := Lib.hid (b1.trans (b2.mono b1.size))
      clear b1 b2
      go_wp2
      go_loop [5] (fun i => ∃ k : Nat, k ≤ a.size ∧ i = .int .i64 k) (fun i => a.size - (intOf i).toNat)
      case atStart => exact ⟨0, Nat.zero_le _, rfl⟩
      case round =>
        obtain ⟨k, hk, rfl⟩ := hrel
        by_cases hlt : k < a.size
        · obtain ⟨p1, p2⟩ := HPR.out k hlt
          have p3 : ¬ (a[k].toNat : Int) < 32 := by omega
          have p4 : ¬ 126 < (a[k].toNat : Int) := by omega
          clear p1 p2
          go_wp2
          go_round
          case rel => exact ⟨k + 1, by omega, by go_num⟩
          case measure => simp [intOf]; omega
        · have hne : (s.toList != s.toList) = false := by simp
          go_wp2_with fail
          refine (dec_lit a s 0 (by omega) HBK.out _ H2.out).mono ?_
          rintro e w3 ⟨rfl, b3⟩
          have H3 := Lib.hid (H2.out.below b3)
          have B3 := Lib.hid (B2.out.trans (b3.mono B2.out.size))
          clear b3
          rcases hn with ⟨rfl, HV, HE, hcz⟩ | ⟨rfl, rfl⟩
          · go_wp2_with fail
            refine (dec_lit s c 0 (by omega) HD.out _ H3.out).mono ?_
            rintro e wd ⟨rfl, bd⟩
            have HWd := Lib.hid (H3.out.below bd)
            have bd' := B3.out.trans (bd.mono B3.out.size)
            have hself : (s.toList == s.toList) = true := by simp
            go_wp2_with fail
            refine (enc_lit c s (by omega) HV.out HE.out _ HWd.out).mono ?_
            rintro e we ⟨rfl, be⟩
            go_wp2
            go_ret
            exact ⟨rfl, bd'.trans (be.mono bd'.size)⟩
          · go_wp2_with fail
            refine (dec_lit s ⟨#[]⟩ 3 (by omega) HD.out _ H3.out).mono ?_
            rintro e wd ⟨rfl, bd⟩
            have HWd := Lib.hid (H3.out.below bd)
            have bd' := B3.out.trans (bd.mono B3.out.size)
            go_wp2
            go_ret
            exact ⟨rfl, bd'⟩
end Go.Proofs.YtpjgacmcpbpklaaDoor
