/- The walk of Utf7Parents. -/
import Derived.Test.YtpjgacmcpbpklaaDoorUtfStarsW
namespace Go.Proofs.YtpjgacmcpbpklaaDoor
open Go.RowKit
set_option linter.unusedVariables false

theorem cat_data (t : ByteArray) (l : List UInt8) (x : ByteArray) (h : t ++ ({ data := l.toArray } : ByteArray) = x) : x.data.toList = t.data.toList ++ l ∧ x.size = t.size + l.length := by
  have h1 : x.data.toList = t.data.toList ++ l := by rw [← h]; simp [ByteArray.data_append]
  refine ⟨h1, ?_⟩
  have h2 := congrArg List.length h1
  rw [List.length_append] at h2
  exact h2

set_option maxHeartbeats 3200000 in
set_option maxRecDepth 100000 in
theorem utf7Parents_walk (s : ByteArray) (hs : s.size ≤ maxLen) (w : World) (h : UW w) :
    Calls Tryd.prog 7 #[.string s] w fun e w' => e = .returned (.bool true) ∧ Below w.heap.size w w' := by
  have hlen : s.data.toList.length = s.size := rfl
  unfold maxLen at hs
  have HA := Lib.hid (awake_any w h)
  have H := Lib.hid h
  clear h
  by_cases hb1 : 100 < (s.size : Int)
  · go_enter Tryd.func7, Tryd.ntmps7
    go_wp2_with fail
    refine HA.out.mono ?_
    rintro e w1 ⟨rfl, b1⟩
    go_wp2
    go_ret
    exact ⟨rfl, b1⟩
  · cases hg : U7.good s.data.toList with
    | false =>
      have HG := Lib.hid hg
      clear hg
      go_enter Tryd.func7, Tryd.ntmps7
      go_wp2_with fail
      refine HA.out.mono ?_
      rintro e w1 ⟨rfl, b1⟩
      have H1 := Lib.hid (H.out.below b1)
      go_wp2_with fail
      refine (good_lit s false (by omega) HG.out _ H1.out).mono ?_
      rintro e w2 ⟨rfl, b2⟩
      go_wp2
      go_ret
      exact ⟨rfl, b1.trans (b2.mono b1.size)⟩
    | true =>
      have HG := Lib.hid hg
      clear hg
      go_enter Tryd.func7, Tryd.ntmps7
      go_wp2_with fail
      refine HA.out.mono ?_
      rintro e w1 ⟨rfl, b1⟩
      have H1 := Lib.hid (H.out.below b1)
      go_wp2_with fail
      refine (good_lit s true (by omega) HG.out _ H1.out).mono ?_
      rintro e w2 ⟨rfl, b2⟩
      have H2 := Lib.hid (H1.out.below b2)
      have B2 := Lib.hid (b1.trans (b2.mono b1.size))
      clear b1 b2
      go_wp2
      go_loopw [0, 3] (fun s0 s3 wr => ∃ (x : ByteArray) (k : Nat), s0 = .string x ∧ s3 = .int .i64 k ∧ k ≤ 100 ∧ x.size + k ≤ 100 ∧ Hid (U7.good x.data.toList = true) ∧ Hid (UW wr) ∧ Hid (Below w.heap.size w wr)) (fun _ s3 _ => 100 - (intOf s3).toNat)
      case atStart => exact ⟨s, 0, rfl, rfl, by omega, by omega, HG, H2, B2⟩
      case round =>
        obtain ⟨x, k, rfl, rfl, hk, hxk, HX, HU, HB⟩ := hrel
        have hx0 : 0 < x.size := by
          have h1 := List.length_pos_iff.2 (U7.good_ne _ HX.out)
          exact h1
        have hk1 : (k : Int) < 100 := by omega
        rcases U7.parent_spec x.data.toList with ⟨hp, hno⟩ | ⟨q, r, hp, hq, hno⟩
        · have HP := Lib.hid (parent_lit x ⟨#[]⟩ false (by omega) hp)
          clear hp hno
          go_wp2_with fail
          refine (HP.out _).mono ?_
          rintro e w3 ⟨rfl, rfl⟩
          go_wp2
          go_ret
          exact ⟨rfl, HB.out⟩
        · obtain ⟨t, ht⟩ : ∃ t : ByteArray, t.data.toList = q := ⟨⟨q.toArray⟩, by simp⟩
          have HP := Lib.hid (parent_lit x t true (by omega) (by rw [hp, ht]))
          have hgq : U7.good t.data.toList = true := by rw [ht]; exact U7.good_parent q r (by rw [← hq]; exact HX.out)
          have htz : t.size + 1 + r.length = x.size := by
            have h1 := congrArg List.length hq
            rw [List.length_append, ← ht] at h1
            have h2 : t.data.toList.length = t.size := rfl
            have h3 : x.data.toList.length = x.size := rfl
            simp only [List.length_cons] at h1
            omega
          obtain ⟨n1, hn1⟩ : ∃ n1 : Nat, t.size + 1 = n1 := ⟨_, rfl⟩
          have cn1 : (t.size : Int) + 1 = (n1 : Int) := by omega
          obtain ⟨tt, htt⟩ : ∃ tt : ByteArray, t ++ ({ data := #[47] } : ByteArray) = tt := ⟨_, rfl⟩
          obtain ⟨t1, ht1⟩ : ∃ t1 : ByteArray, t ++ ({ data := #[47, 37] } : ByteArray) = t1 := ⟨_, rfl⟩
          obtain ⟨t2, ht2⟩ : ∃ t2 : ByteArray, t ++ ({ data := #[47, 42] } : ByteArray) = t2 := ⟨_, rfl⟩
          obtain ⟨e1, z1⟩ := cat_data t [47, 37] t1 ht1
          obtain ⟨e2, z2⟩ := cat_data t [47, 42] t2 ht2
          obtain ⟨e3, z3⟩ := cat_data t [47] tt htt
          have hxx : x.extract 0 n1 = tt := by
            apply ByteArray.ext
            apply Array.toList_inj.1
            rw [e3, Lib.extract_data, hq, ← ht, ← hn1, show t.data.toList ++ 47 :: r = (t.data.toList ++ [47]) ++ r from by simp, Nat.sub_zero, List.drop_zero]
            exact List.take_left' (by rw [List.length_append]; rfl)
          have hns := good_nostar _ hgq
          have m1 : U7.matchL t1.data.toList x.data.toList = true := by
            rw [e1, hq, ← ht]
            exact U7.match_below t.data.toList r 37 rfl hns hno
          have m2 : U7.matchL t2.data.toList x.data.toList = true := by
            rw [e2, hq, ← ht]
            exact U7.match_below t.data.toList r 42 rfl hns hno
          have HGQ := Lib.hid hgq
          have M1 := Lib.hid m1
          have M2 := Lib.hid m2
          have hne : (tt.toList != tt.toList) = false := by simp
          have htx : ¬ (x.size : Int) ≤ (t.size : Int) := by omega
          have y1 : t1.size ≤ 1000 := by simp only [List.length_cons, List.length_nil] at z1; omega
          have y2 : t2.size ≤ 1000 := by simp only [List.length_cons, List.length_nil] at z2; omega
          have y3 : t.size ≤ 1000 := by omega
          have y4 : n1 ≤ x.size := by omega
          have y5 : t.size + (k + 1) ≤ 100 := by omega
          clear hp hq hno ht hgq hn1 e1 e2 e3 z1 z2 z3 m1 m2 hns htz
          go_wp2_with fail
          refine (HP.out _).mono ?_
          rintro e w3 ⟨rfl, rfl⟩
          go_wp2_with fail
          refine (good_lit t true (by omega) HGQ.out _ HU.out).mono ?_
          rintro e w4 ⟨rfl, b4⟩
          have H4 := Lib.hid (HU.out.below b4)
          have B4 := Lib.hid (HB.out.trans (b4.mono HB.out.size))
          go_wp2_with fail
          refine (match_lit t1 x true (by omega) (by omega) M1.out _ H4.out).mono ?_
          rintro e w5 ⟨rfl, b5⟩
          have H5 := Lib.hid (H4.out.below b5)
          have B5 := Lib.hid (B4.out.trans (b5.mono B4.out.size))
          go_wp2_with fail
          refine (match_lit t2 x true (by omega) (by omega) M2.out _ H5.out).mono ?_
          rintro e w6 ⟨rfl, b6⟩
          have H6 := Lib.hid (H5.out.below b6)
          have B6 := Lib.hid (B5.out.trans (b6.mono B5.out.size))
          clear b4 b5 b6
          go_wp2
          go_roundw
          case rel => exact ⟨t, k + 1, rfl, by go_num, by omega, y5, HGQ, H6, B6⟩
          case measure => simp [intOf]; omega
end Go.Proofs.YtpjgacmcpbpklaaDoor
