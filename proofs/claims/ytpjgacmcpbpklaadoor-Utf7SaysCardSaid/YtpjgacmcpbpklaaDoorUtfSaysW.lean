/- The walk of Utf7Says. -/
import Derived.Test.YtpjgacmcpbpklaaDoorUtfLit
import Derived.Test.YtpjgacmcpbpklaaDoorUtfRDe
import Derived.Test.YtpjgacmcpbpklaaDoorUtfRGd
import Derived.Test.YtpjgacmcpbpklaaDoorUtfRMa
namespace Go.Proofs.YtpjgacmcpbpklaaDoor
open Go.RowKit
set_option linter.unusedVariables false

theorem enc_both (s : ByteArray) (hs : s.size ≤ 1000000) : ∃ (t : ByteArray) (n : Nat),
    (∀ w, UW w → Calls Tryd.prog 9 #[.string s] w fun e w' => e = .returned (.tuple #[.string t, .int .i64 (n : Int)]) ∧ Below w.heap.size w w') ∧
    (∀ w, Calls Tryd.prog 14 #[.string s] w fun e w' => e = .returned (.tuple #[.string t, .int .i64 (n : Int)]) ∧ Below w.heap.size w w') := by
  refine ⟨⟨(if Lib.validD s.data.toList = true then U7.enc s.data.toList else []).toArray⟩, if Lib.validD s.data.toList = true then 0 else 1, fun w h => ?_, fun w => ?_⟩
  · obtain ⟨t, e, Ht, He, hc⟩ := encode_any s w (by omega) h.tabs
    have h1 := Ht.out
    have h2 := He.out
    subst h1 h2
    exact hc
  · obtain ⟨t, e, Ht, He, hc⟩ := rencode_any s w hs
    have h1 := Ht.out
    have h2 := He.out
    subst h1 h2
    exact hc
theorem dec_both (s : ByteArray) (hs : s.size ≤ 100000) : ∃ (t : ByteArray) (n : Nat),
    (∀ w, UW w → Calls Tryd.prog 10 #[.string s] w fun e w' => e = .returned (.tuple #[.string t, .int .i64 (n : Int)]) ∧ Below w.heap.size w w') ∧
    (∀ w, Calls Tryd.prog 15 #[.string s] w fun e w' => e = .returned (.tuple #[.string t, .int .i64 (n : Int)]) ∧ Below w.heap.size w w') := by
  refine ⟨⟨(U7.decode s.data.toList).1.toArray⟩, (U7.decode s.data.toList).2, fun w h => ?_, fun w => ?_⟩
  · obtain ⟨m, hm⟩ := h.max
    exact decode_any s w m (by omega) h.tabs hm
  · have := rdecode_any s w hs
    rw [U7.decodeR_eq] at this
    exact this
theorem par_both (s : ByteArray) (hs : s.size ≤ 1000000) : ∃ (t : ByteArray) (r : Bool),
    (∀ w, Calls Tryd.prog 11 #[.string s] w fun e w' => e = .returned (.tuple #[.string t, .bool r]) ∧ w' = w) ∧
    (∀ w, Calls Tryd.prog 16 #[.string s] w fun e w' => e = .returned (.tuple #[.string t, .bool r]) ∧ w' = w) :=
  ⟨_, _, fun w => parent_any s w (by omega), fun w => rparent_any s w (by omega)⟩
theorem good_both (s : ByteArray) (hs : s.size ≤ 1000000) : ∃ (r : Bool),
    (∀ w, UW w → Calls Tryd.prog 12 #[.string s] w fun e w' => e = .returned (.bool r) ∧ Below w.heap.size w w') ∧
    (∀ w, Calls Tryd.prog 17 #[.string s] w fun e w' => e = .returned (.bool r) ∧ Below w.heap.size w w') := by
  refine ⟨U7.good s.data.toList, fun w h => ?_, fun w => rgood_any s w (by omega)⟩
  obtain ⟨m, hm⟩ := h.max
  exact good_any s w m (by omega) h.tabs hm
theorem match_both (p s : ByteArray) (hp : p.size ≤ 1000000) (hs : s.size ≤ 1000000) : ∃ (r : Bool),
    (∀ w, UW w → Calls Tryd.prog 13 #[.string p, .string s] w fun e w' => e = .returned (.bool r) ∧ Below w.heap.size w w') ∧
    (∀ w, Calls Tryd.prog 18 #[.string p, .string s] w fun e w' => e = .returned (.bool r) ∧ Below w.heap.size w w') :=
  ⟨U7.matchL p.data.toList s.data.toList, fun w h => match_any p s w (by omega) (by omega) h.fold, fun w => rmatch_any p s w (by omega) (by omega)⟩

set_option maxHeartbeats 6400000 in
set_option maxRecDepth 100000 in
theorem utf7Says_walk (s : ByteArray) (hs : s.size ≤ maxLen) (p : ByteArray) (hp : p.size ≤ maxLen) (w : World) (h : UW w) :
    Calls Tryd.prog 4 #[.string s, .string p] w fun e w' => e = .returned (.bool true) ∧ Below w.heap.size w w' := by
  unfold maxLen at hp hs
  have HA := Lib.hid (awake_any w h)
  have H := Lib.hid h
  clear h
  by_cases hb0 : 200 < (s.size : Int)
  · go_enter Tryd.func4, Tryd.ntmps4
    go_wp2_with fail
    refine HA.out.mono ?_
    rintro e w1 ⟨rfl, b1⟩
    go_wp2
    go_ret
    exact ⟨rfl, b1⟩
  · by_cases hb1 : 60 < (p.size : Int)
    · go_enter Tryd.func4, Tryd.ntmps4
      go_wp2_with fail
      refine HA.out.mono ?_
      rintro e w1 ⟨rfl, b1⟩
      go_wp2
      go_ret
      exact ⟨rfl, b1⟩
    · obtain ⟨t1, n1, c1, c2⟩ := enc_both s (by omega)
      obtain ⟨t2, n2, c3, c4⟩ := dec_both s (by omega)
      obtain ⟨t3, r3, c5, c6⟩ := par_both s (by omega)
      obtain ⟨r4, c7, c8⟩ := good_both s (by omega)
      obtain ⟨r5, c9, c0⟩ := match_both p s (by omega) (by omega)
      have C1 := Lib.hid c1
      have C2 := Lib.hid c2
      have C3 := Lib.hid c3
      have C4 := Lib.hid c4
      have C5 := Lib.hid c5
      have C6 := Lib.hid c6
      have C7 := Lib.hid c7
      have C8 := Lib.hid c8
      have C9 := Lib.hid c9
      have C0 := Lib.hid c0
      have q1 : (t1.toList == t1.toList) = true := by simp
      have q2 : (t2.toList == t2.toList) = true := by simp
      have q3 : (t3.toList == t3.toList) = true := by simp
      have q4 : ((n1 : Int) == (n1 : Int)) = true := by simp
      have q5 : ((n2 : Int) == (n2 : Int)) = true := by simp
      have q6 : (r3 == r3) = true := by simp
      have q7 : (r4 == r4) = true := by simp
      have q8 : (r5 == r5) = true := by simp
      clear c1 c2 c3 c4 c5 c6 c7 c8 c9 c0
      go_enter Tryd.func4, Tryd.ntmps4
      go_wp2_with fail
      refine HA.out.mono ?_
      rintro e w1 ⟨rfl, b1⟩
      have H1 := Lib.hid (H.out.below b1)
      have B1 := Lib.hid b1
      clear b1
      go_wp2_with fail
      refine (C1.out _ H1.out).mono ?_
      rintro e w2 ⟨rfl, b2⟩
      have H2 := Lib.hid (H1.out.below b2)
      have B2 := Lib.hid (B1.out.trans (b2.mono B1.out.size))
      clear b2 H1
      go_wp2_with fail
      refine (C2.out _).mono ?_
      rintro e w3 ⟨rfl, b2⟩
      have H3 := Lib.hid (H2.out.below b2)
      have B3 := Lib.hid (B2.out.trans (b2.mono B2.out.size))
      clear b2 H2
      go_wp2_with fail
      refine (C3.out _ H3.out).mono ?_
      rintro e w4 ⟨rfl, b2⟩
      have H4 := Lib.hid (H3.out.below b2)
      have B4 := Lib.hid (B3.out.trans (b2.mono B3.out.size))
      clear b2 H3
      go_wp2_with fail
      refine (C4.out _).mono ?_
      rintro e w5 ⟨rfl, b2⟩
      have H5 := Lib.hid (H4.out.below b2)
      have B5 := Lib.hid (B4.out.trans (b2.mono B4.out.size))
      clear b2 H4
      go_wp2_with fail
      refine (C5.out _).mono ?_
      rintro e w5' ⟨rfl, rfl⟩
      go_wp2_with fail
      refine (C6.out _).mono ?_
      rintro e w5'' ⟨rfl, rfl⟩
      go_wp2_with fail
      refine (C7.out _ H5.out).mono ?_
      rintro e w6 ⟨rfl, b2⟩
      have H6 := Lib.hid (H5.out.below b2)
      have B6 := Lib.hid (B5.out.trans (b2.mono B5.out.size))
      clear b2 H5
      go_wp2_with fail
      refine (C8.out _).mono ?_
      rintro e w7 ⟨rfl, b2⟩
      have H7 := Lib.hid (H6.out.below b2)
      have B7 := Lib.hid (B6.out.trans (b2.mono B6.out.size))
      clear b2 H6
      go_wp2_with fail
      refine (C9.out _ H7.out).mono ?_
      rintro e w8 ⟨rfl, b2⟩
      have H8 := Lib.hid (H7.out.below b2)
      have B8 := Lib.hid (B7.out.trans (b2.mono B7.out.size))
      clear b2 H7
      go_wp2_with fail
      refine (C0.out _).mono ?_
      rintro e w9 ⟨rfl, b2⟩
      have B9 := Lib.hid (B8.out.trans (b2.mono B8.out.size))
      clear b2 H8
      go_wp2
      go_ret
      exact ⟨rfl, B9.out⟩
end Go.Proofs.YtpjgacmcpbpklaaDoor
