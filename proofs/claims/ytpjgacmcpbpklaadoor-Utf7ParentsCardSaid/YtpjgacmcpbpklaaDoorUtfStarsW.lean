/- The walk of Utf7Stars. -/
import Derived.Test.YtpjgacmcpbpklaaDoorUtfLit
namespace Go.Proofs.YtpjgacmcpbpklaaDoor
open Go.RowKit
set_option linter.unusedVariables false

theorem same_any (s : ByteArray) (r : Bool) (hs : s.size ≤ 1000000000) (hr : U7.matchL s.data.toList U7.inboxL = r) (w : World) (h : UW w) :
    Calls Tryd.prog 19 #[.string s] w fun e w' => e = .returned (.bool r) ∧ Below w.heap.size w w' := by
  have HC := Lib.hid (match_lit s ⟨#[73, 78, 66, 79, 88]⟩ r hs (by decide) hr w h)
  go_enter Tryd.func19, Tryd.ntmps19
  go_wp2_with fail
  refine HC.out.mono ?_
  rintro e w1 ⟨rfl, hb⟩
  go_wp2
  go_ret
  exact ⟨rfl, hb⟩
theorem good_nostar (l : List UInt8) (h : U7.good l = true) : ∀ c ∈ l, U7.star c = false := fun c hc => by
  obtain ⟨h1, h2⟩ := U7.good_bytes l h c hc
  unfold U7.star
  rw [beq_eq_false_iff_ne.2 h1, beq_eq_false_iff_ne.2 h2]; rfl

set_option maxHeartbeats 3200000 in
set_option maxRecDepth 100000 in
theorem utf7Stars_walk (p : ByteArray) (hp : p.size ≤ maxLen) (s : ByteArray) (hs : s.size ≤ maxLen) (w : World) (h : UW w) :
    Calls Tryd.prog 6 #[.string p, .string s] w fun e w' => e = .returned (.bool true) ∧ Below w.heap.size w w' := by
  have hlen : s.data.toList.length = s.size := rfl
  unfold maxLen at hp hs
  have HA := Lib.hid (awake_any w h)
  have H := Lib.hid h
  clear h
  by_cases hb0 : 60 < (p.size : Int)
  · go_enter Tryd.func6, Tryd.ntmps6
    go_wp2_with fail
    refine HA.out.mono ?_
    rintro e w1 ⟨rfl, b1⟩
    go_wp2
    go_ret
    exact ⟨rfl, b1⟩
  · by_cases hb1 : 100 < (s.size : Int)
    · go_enter Tryd.func6, Tryd.ntmps6
      go_wp2_with fail
      refine HA.out.mono ?_
      rintro e w1 ⟨rfl, b1⟩
      go_wp2
      go_ret
      exact ⟨rfl, b1⟩
    · cases hg : U7.good s.data.toList with
      | false =>
        have HG := Lib.hid hg
        clear hg
        go_enter Tryd.func6, Tryd.ntmps6
        go_wp2_with fail
        refine HA.out.mono ?_
        rintro e w1 ⟨rfl, b1⟩
        have H1 := Lib.hid (H.out.below b1)
        go_wp2_with fail
        refine (good_lit s false (by omega) HG.out _ H1.out).mono ?_
        rintro e w2 ⟨rfl, b2⟩
        go_wp2
        go_ret
        exact ⟨rfl, b1.trans (b2.mono b1.size)⟩
      | true =>
        have hns := good_nostar _ hg
        have m1 := U7.match_self _ hns
        have m2 := U7.match_star s.data.toList 1 (by decide)
        have m3 := U7.match_star s.data.toList 3 (by decide)
        obtain ⟨t, r, HP, hmp⟩ : ∃ (t : ByteArray) (r : Bool), Hid (U7.parent s.data.toList = (t.data.toList, r)) ∧ U7.matchL [37] s.data.toList = !r := by
          rcases U7.parent_spec s.data.toList with ⟨e, hno⟩ | ⟨q, x, e, hq, hno⟩
          · refine ⟨⟨#[]⟩, false, Lib.hid e, ?_⟩
            exact (U7.match_part _).2 hno
          · refine ⟨⟨q.toArray⟩, true, Lib.hid e, ?_⟩
            show _ = false
            rw [← Bool.not_eq_true, U7.match_part, hq]
            intro hall
            exact hall 47 (by simp) rfl
        obtain ⟨m4, HM4⟩ : ∃ m4, Hid (U7.matchL p.data.toList s.data.toList = m4) := ⟨_, Lib.hid rfl⟩
        obtain ⟨pp, hpp⟩ : ∃ pp : ByteArray, p ++ ({ data := #[42] } : ByteArray) = pp := ⟨_, rfl⟩
        have hppd : pp.data.toList = p.data.toList ++ [42] := by rw [← hpp]; simp [ByteArray.data_append]
        have hppz : pp.size ≤ 1000 := by
          have h1 := congrArg List.length hppd
          rw [List.length_append] at h1
          have h2 : pp.data.toList.length = pp.size := rfl
          have h3 : p.data.toList.length = p.size := rfl
          simp only [List.length_cons, List.length_nil] at h1
          omega
        obtain ⟨m5, HM5⟩ : ∃ m5, Hid (U7.matchL pp.data.toList s.data.toList = m5) := ⟨_, Lib.hid rfl⟩
        obtain ⟨m6, HM6⟩ : ∃ m6, Hid (U7.matchL p.data.toList U7.inboxL = m6) := ⟨_, Lib.hid rfl⟩
        have key : m4 = false ∨ m5 = true ∨ m6 = true := by
          cases h4 : m4 with
          | false => exact .inl rfl
          | true =>
            cases hi : U7.isInbox p.data.toList with
            | true => exact .inr (.inr (by rw [← HM6.out]; exact U7.match_inbox _ hi))
            | false =>
              refine .inr (.inl ?_)
              rw [← HM5.out, hppd]
              exact U7.match_more _ _ hi (by rw [HM4.out, h4])
        have HG := Lib.hid hg
        have M1 := Lib.hid m1
        have M2 := Lib.hid m2
        have M3 := Lib.hid m3
        have MP := Lib.hid hmp
        have KEY := Lib.hid key
        clear hg hns m1 m2 m3 hmp key hppd
        go_enter Tryd.func6, Tryd.ntmps6
        go_wp2_with fail
        refine HA.out.mono ?_
        rintro e w1 ⟨rfl, b1⟩
        have H1 := Lib.hid (H.out.below b1)
        go_wp2_with fail
        refine (good_lit s true (by omega) HG.out _ H1.out).mono ?_
        rintro e w2 ⟨rfl, b2⟩
        have H2 := Lib.hid (H1.out.below b2)
        have B2 := Lib.hid (b1.trans (b2.mono b1.size))
        go_wp2_with fail
        refine (match_lit s s true (by omega) (by omega) M1.out _ H2.out).mono ?_
        rintro e w3 ⟨rfl, b3⟩
        have H3 := Lib.hid (H2.out.below b3)
        have B3 := Lib.hid (B2.out.trans (b3.mono B2.out.size))
        go_wp2_with fail
        refine (match_lit ⟨#[42]⟩ s true (by decide) (by omega) M2.out _ H3.out).mono ?_
        rintro e w4 ⟨rfl, b4⟩
        have H4 := Lib.hid (H3.out.below b4)
        have B4 := Lib.hid (B3.out.trans (b4.mono B3.out.size))
        go_wp2_with fail
        refine (match_lit ⟨#[42, 42, 42]⟩ s true (by decide) (by omega) M3.out _ H4.out).mono ?_
        rintro e w5 ⟨rfl, b5⟩
        have H5 := Lib.hid (H4.out.below b5)
        have B5 := Lib.hid (B4.out.trans (b5.mono B4.out.size))
        clear b1 b2 b3 b4 b5
        go_wp2_with fail
        refine (parent_lit s t r (by omega) HP.out _).mono ?_
        rintro e w6 ⟨rfl, rfl⟩
        cases r with
        | true =>
          go_wp2_with fail
          refine (match_lit ⟨#[37]⟩ s _ (by decide) (by omega) MP.out _ H5.out).mono ?_
          rintro e w7 ⟨rfl, b7⟩
          have H7 := Lib.hid (H5.out.below b7)
          have B7 := Lib.hid (B5.out.trans (b7.mono B5.out.size))
          go_wp2_with fail
          refine (match_lit p s _ (by omega) (by omega) HM4.out _ H7.out).mono ?_
          rintro e w8 ⟨rfl, b8⟩
          have H8 := Lib.hid (H7.out.below b8)
          have B8 := Lib.hid (B7.out.trans (b8.mono B7.out.size))
          clear b7 b8
          cases m4 with
          | false =>
            go_wp2
            go_ret
            exact ⟨rfl, B8.out⟩
          | true =>
            go_wp2_with fail
            refine (match_lit pp s _ (by omega) (by omega) HM5.out _ H8.out).mono ?_
            rintro e w9 ⟨rfl, b9⟩
            have H9 := Lib.hid (H8.out.below b9)
            have B9 := Lib.hid (B8.out.trans (b9.mono B8.out.size))
            clear b9
            cases m5 with
            | true =>
              go_wp2
              go_ret
              exact ⟨rfl, B9.out⟩
            | false =>
              obtain rfl : m6 = true := by
                rcases KEY.out with h | h | h
                · cases h
                · cases h
                · exact h
              go_wp2_with fail
              refine (same_any p true (by omega) HM6.out _ H9.out).mono ?_
              rintro e w10 ⟨rfl, b10⟩
              go_wp2
              go_ret
              exact ⟨rfl, B9.out.trans (b10.mono B9.out.size)⟩
        | false =>
          go_wp2_with fail
          refine (match_lit ⟨#[37]⟩ s _ (by decide) (by omega) MP.out _ H5.out).mono ?_
          rintro e w7 ⟨rfl, b7⟩
          have H7 := Lib.hid (H5.out.below b7)
          have B7 := Lib.hid (B5.out.trans (b7.mono B5.out.size))
          go_wp2_with fail
          refine (match_lit p s _ (by omega) (by omega) HM4.out _ H7.out).mono ?_
          rintro e w8 ⟨rfl, b8⟩
          have H8 := Lib.hid (H7.out.below b8)
          have B8 := Lib.hid (B7.out.trans (b8.mono B7.out.size))
          clear b7 b8
          cases m4 with
          | false =>
            go_wp2
            go_ret
            exact ⟨rfl, B8.out⟩
          | true =>
            go_wp2_with fail
            refine (match_lit pp s _ (by omega) (by omega) HM5.out _ H8.out).mono ?_
            rintro e w9 ⟨rfl, b9⟩
            have H9 := Lib.hid (H8.out.below b9)
            have B9 := Lib.hid (B8.out.trans (b9.mono B8.out.size))
            clear b9
            cases m5 with
            | true =>
              go_wp2
              go_ret
              exact ⟨rfl, B9.out⟩
            | false =>
              obtain rfl : m6 = true := by
                rcases KEY.out with h | h | h
                · cases h
                · cases h
                · exact h
              go_wp2_with fail
              refine (same_any p true (by omega) HM6.out _ H9.out).mono ?_
              rintro e w10 ⟨rfl, b10⟩
              go_wp2
              go_ret
              exact ⟨rfl, B9.out.trans (b10.mono B9.out.size)⟩
end Go.Proofs.YtpjgacmcpbpklaaDoor
