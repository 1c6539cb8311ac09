/- The reference's Parent and GoodName. -/
import Derived.Test.YtpjgacmcpbpklaaDoorUtfRU
import Derived.Test.YtpjgacmcpbpklaaDoorUtfPure2
namespace Go.Proofs.YtpjgacmcpbpklaaDoor
open Go.RowKit
set_option linter.unusedVariables false

set_option maxHeartbeats 1600000 in
theorem rparent_any (s : ByteArray) (w : World) (hs : s.size ≤ 1000000000) :
    Calls Tryd.prog 16 #[.string s] w fun e w' => e = .returned (.tuple #[.string ⟨(U7.parent s.data.toList).1.toArray⟩, .bool (U7.parent s.data.toList).2]) ∧ w' = w := by
  have hlen : s.data.toList.length = s.size := rfl
  obtain ⟨R, HR⟩ : ∃ R, Hid (U7.parent s.data.toList = R) := ⟨_, Lib.hid rfl⟩
  rw [HR.out]
  go_enter Tryd.func16, Tryd.ntmps16
  go_wp2
  go_loop [4] (fun i => ∃ (k : Nat) (z : Int), k ≤ s.size ∧ i = .int .i64 z ∧ z + 1 = (k : Int) ∧ Hid (U7.lastS s.data.toList k = U7.lastS s.data.toList s.data.toList.length)) (fun i => (intOf i + 1).toNat)
  case atStart => exact ⟨s.size, _, Nat.le_refl _, rfl, by omega, Lib.hid rfl⟩
  case round =>
    obtain ⟨k, z, hk, rfl, hz, HS⟩ := hrel
    rcases Nat.eq_zero_or_pos k with h0 | h0
    · subst h0
      obtain rfl : z = -1 := by omega
      have hR : R = ([], false) := by rw [← HR.out, U7.parent, ← HS.out]; rfl
      subst hR
      clear hz
      go_wp2
      go_ret2
      exact ⟨rfl, rfl⟩
    · obtain ⟨j, rfl⟩ : ∃ j, k = j + 1 := ⟨k - 1, by omega⟩
      obtain rfl : z = (j : Int) := by omega
      have hlt : j < s.data.toList.length := by omega
      obtain ⟨x, hx⟩ : ∃ x : UInt8, s[j] = x := ⟨_, rfl⟩
      have hg : s.data.toList[j]? = some x := by rw [List.getElem?_eq_getElem hlt]; exact congrArg some hx
      have hst := HS.out
      rw [U7.lastS, hg] at hst
      have c0 : (0 : Int) ≤ (j : Int) := by omega
      by_cases h47 : x = 47
      · have k47 : ((x.toNat : Int) == 47) = true := by rw [h47]; rfl
        have hR : R = (s.data.toList.take j, true) := by
          rw [if_pos (by rw [h47])] at hst
          rw [← HR.out, U7.parent, ← hst, if_neg (by omega)]
          rfl
        have hxx : s.extract 0 j = ⟨(s.data.toList.take j).toArray⟩ := by
          rw [Lib.extract_eq]; simp
        have HX := Lib.hid hxx
        subst hR
        clear hst hg h47 hz hxx
        go_wp2
        go_ret2
        exact ⟨by rw [← HX.out]; rfl, rfl⟩
      · have k47 : ((x.toNat : Int) == 47) = false := by
          rw [beq_eq_false_iff_ne]; intro h; apply h47; apply UInt8.toNat_inj.1; have : (47 : UInt8).toNat = 47 := rfl; omega
        rw [if_neg (fun h => h47 (Option.some.inj h))] at hst
        have HS2 := Lib.hid hst
        clear hst hg h47 hz
        go_wp2
        go_round
        case rel => exact ⟨j, _, by omega, rfl, by omega, HS2⟩
        case measure => simp only [intOf]; omega

/-! ## GoodName -/
/-- A byte that may stand at k. -/
def okAt (l : List UInt8) (k : Nat) : Prop := U7.goodB (l.getD k 0) = true ∧ ¬ (0 < k ∧ l.getD k 0 = 47 ∧ l.getD (k - 1) 0 = 47)
theorem getD_some (l : List UInt8) (k : Nat) (c : UInt8) (h : l[k]? = some c) : k < l.length ∧ l.getD k 0 = c := by
  refine ⟨(List.getElem?_eq_some_iff.1 h).1, ?_⟩
  rw [List.getD_eq_getElem?_getD, h]; rfl
theorem some_getD (l : List UInt8) (k : Nat) (c : UInt8) (hk : k < l.length) (h : l.getD k 0 = c) : l[k]? = some c := by
  rw [List.getD_eq_getElem?_getD, List.getElem?_eq_getElem hk] at h
  rw [List.getElem?_eq_getElem hk]; exact congrArg some h
theorem good_iff (l : List UInt8) (h1 : 1 ≤ l.length) (h2 : l.length ≤ 100) (h3 : Lib.validD l = true) (h4 : l.getD 0 0 ≠ 47) (h5 : l.getD (l.length - 1) 0 ≠ 47) :
    U7.good l = true ↔ ∀ k, k < l.length → okAt l k := by
  have hne : l ≠ [] := List.length_pos_iff.1 h1
  have hd := U7.dbl_wrap l hne
  unfold U7.good
  rw [decide_eq_true hne, decide_eq_true h2, h3, Bool.true_and, Bool.true_and, Bool.true_and, Bool.and_eq_true, Bool.not_eq_true', ← Bool.not_eq_true, hd, List.all_eq_true]
  constructor
  · rintro ⟨hg, hn⟩ k hk
    refine ⟨?_, fun ⟨a, b, c⟩ => hn (.inr (.inr ⟨k - 1, some_getD l _ _ (by omega) c, ?_⟩))⟩
    · rw [List.getD_eq_getElem?_getD, List.getElem?_eq_getElem hk]; exact hg _ (List.getElem_mem hk)
    · rw [show k - 1 + 1 = k from by omega]; exact some_getD l _ _ hk b
  · intro h
    refine ⟨fun c hc => ?_, ?_⟩
    · obtain ⟨i, hi, rfl⟩ := List.getElem_of_mem hc
      have := (h i hi).1
      rwa [List.getD_eq_getElem?_getD, List.getElem?_eq_getElem hi] at this
    · rintro (a | a | ⟨i, a, b⟩)
      · exact h4 (getD_some l _ _ a).2
      · exact h5 (getD_some l _ _ a).2
      · have hb := getD_some l _ _ b
        exact (h (i + 1) hb.1).2 ⟨by omega, hb.2, (getD_some l _ _ a).2⟩
theorem good_false_at (l : List UInt8) (k : Nat) (hk : k < l.length) (h : ¬ okAt l k) : U7.good l = false := by
  rw [← Bool.not_eq_true]
  intro hg
  have hne : l ≠ [] := U7.good_ne l hg
  have hd := U7.dbl_wrap l hne
  unfold U7.good at hg
  simp only [Bool.and_eq_true, decide_eq_true_eq, Bool.not_eq_true', List.all_eq_true] at hg
  obtain ⟨⟨⟨⟨g1, g2⟩, g3⟩, g4⟩, g5⟩ := hg
  rw [← Bool.not_eq_true, hd] at g5
  refine h ⟨?_, fun ⟨a, b, c⟩ => g5 (.inr (.inr ⟨k - 1, some_getD l _ _ (by omega) c, ?_⟩))⟩
  · rw [List.getD_eq_getElem?_getD, List.getElem?_eq_getElem hk]; exact g4 _ (List.getElem_mem hk)
  · rw [show k - 1 + 1 = k from by omega]; exact some_getD l _ _ hk b
theorem good_false (l : List UInt8) (h : l.length = 0 ∨ 100 < l.length ∨ Lib.validD l = false ∨ l.getD 0 0 = 47 ∨ l.getD (l.length - 1) 0 = 47) : U7.good l = false := by
  rw [← Bool.not_eq_true]
  intro hg
  have hne : l ≠ [] := U7.good_ne l hg
  have hl : 0 < l.length := List.length_pos_iff.2 hne
  have hd := U7.dbl_wrap l hne
  unfold U7.good at hg
  simp only [Bool.and_eq_true, decide_eq_true_eq, Bool.not_eq_true', List.all_eq_true] at hg
  obtain ⟨⟨⟨⟨g1, g2⟩, g3⟩, g4⟩, g5⟩ := hg
  rw [← Bool.not_eq_true, hd] at g5
  rcases h with h | h | h | h | h
  · omega
  · omega
  · rw [h] at g3; cases g3
  · exact g5 (.inl (some_getD l _ _ hl h))
  · exact g5 (.inr (.inl (some_getD l _ _ (by omega) h)))

set_option maxHeartbeats 6400000 in
set_option maxRecDepth 100000 in
theorem rgood_any (s : ByteArray) (w : World) (hs : s.size ≤ 1000000000) :
    Calls Tryd.prog 17 #[.string s] w fun e w' => e = .returned (.bool (U7.good s.data.toList)) ∧ Below w.heap.size w w' := by
  have hlen : s.data.toList.length = s.size := rfl
  obtain ⟨ans, hans⟩ : ∃ ans, U7.good s.data.toList = ans := ⟨_, rfl⟩
  rw [hans]
  have hF := good_false s.data.toList
  have hFA := good_false_at s.data.toList
  have hFI := good_iff s.data.toList
  rw [hans] at hF hFA hFI
  have HF := Lib.hid hF
  have HFA := Lib.hid hFA
  have HFI := Lib.hid hFI
  clear hF hFA hFI hans
  have HC := Lib.hid (rutf8_any s w hs)
  cases hv : Lib.validD s.data.toList with
  | false =>
    rw [hv] at HC
    obtain rfl := HF.out (.inr (.inr (.inl hv)))
    clear hv
    go_enter Tryd.func17, Tryd.ntmps17
    go_wp2_with (go_at_call 29; refine HC.out.mono ?_; rintro e w1 ⟨rfl, hb⟩)
    go_wp2
    go_ret
    exact ⟨rfl, hb⟩
  | true =>
    rw [hv] at HC
    have HV := Lib.hid hv
    clear hv
    by_cases h1 : s.size < 1
    · obtain rfl := HF.out (.inl (by omega))
      have k1 : (s.size : Int) < 1 := by omega
      go_enter Tryd.func17, Tryd.ntmps17
      go_wp2_with (go_at_call 29; refine HC.out.mono ?_; rintro e w1 ⟨rfl, hb⟩)
      go_wp2
      go_ret
      exact ⟨rfl, hb⟩
    · have k1 : ¬ (s.size : Int) < 1 := by omega
      by_cases h2 : 100 < s.size
      · obtain rfl := HF.out (.inr (.inl (by omega)))
        have k2 : 100 < (s.size : Int) := by omega
        go_enter Tryd.func17, Tryd.ntmps17
        go_wp2_with (go_at_call 29; refine HC.out.mono ?_; rintro e w1 ⟨rfl, hb⟩)
        go_wp2
        go_ret
        exact ⟨rfl, hb⟩
      · have k2 : ¬ 100 < (s.size : Int) := by omega
        obtain ⟨x0, hx0⟩ : ∃ x : UInt8, s[0]'(by omega) = x := ⟨_, rfl⟩
        obtain ⟨y0, hy0⟩ : ∃ x : UInt8, s[s.size - 1]'(by omega) = x := ⟨_, rfl⟩
        have hxd : s.data.toList.getD 0 0 = x0 := by rw [List.getD_eq_getElem?_getD, List.getElem?_eq_getElem (by omega)]; exact hx0
        have hyd : s.data.toList.getD (s.data.toList.length - 1) 0 = y0 := by rw [List.getD_eq_getElem?_getD, List.getElem?_eq_getElem (by omega)]; exact hy0
        have HXD := Lib.hid hxd
        have HYD := Lib.hid hyd
        clear hxd hyd
        have cz : (s.size : Int) - 1 = ((s.size - 1 : Nat) : Int) := by omega
        by_cases h3 : x0 = 47
        · obtain rfl := HF.out (.inr (.inr (.inr (.inl (by rw [HXD.out, h3])))))
          have k3 : ((x0.toNat : Int) == 47) = true := by rw [h3]; rfl
          clear h3
          go_enter Tryd.func17, Tryd.ntmps17
          go_wp2_with (go_at_call 29; refine HC.out.mono ?_; rintro e w1 ⟨rfl, hb⟩)
          go_wp2
          go_ret
          exact ⟨rfl, hb⟩
        · have k3 : ((x0.toNat : Int) == 47) = false := by
            rw [beq_eq_false_iff_ne]; intro h; apply h3; apply UInt8.toNat_inj.1; have : (47 : UInt8).toNat = 47 := rfl; omega
          by_cases h4 : y0 = 47
          · obtain rfl := HF.out (.inr (.inr (.inr (.inr (by rw [HYD.out, h4])))))
            have k4 : ((y0.toNat : Int) == 47) = true := by rw [h4]; rfl
            clear h4 h3
            go_enter Tryd.func17, Tryd.ntmps17
            go_wp2_with (go_at_call 29; refine HC.out.mono ?_; rintro e w1 ⟨rfl, hb⟩)
            go_wp2
            go_ret
            exact ⟨rfl, hb⟩
          · have k4 : ((y0.toNat : Int) == 47) = false := by
              rw [beq_eq_false_iff_ne]; intro h; apply h4; apply UInt8.toNat_inj.1; have : (47 : UInt8).toNat = 47 := rfl; omega
            have hFI := HFI.out (by omega) (by omega) HV.out (by rw [HXD.out]; exact h3) (by rw [HYD.out]; exact h4)
            have HI := Lib.hid hFI
            clear h3 h4 hFI HF HFI
            go_enter Tryd.func17, Tryd.ntmps17
            go_wp2_with (go_at_call 29; refine HC.out.mono ?_; rintro e w1 ⟨rfl, hb⟩)
            clear HC
            go_wp2
            go_loop [3] (fun i => ∃ k : Nat, k ≤ s.size ∧ i = .int .i64 k ∧ Hid (∀ j, j < k → okAt s.data.toList j)) (fun i => s.size - (intOf i).toNat)
            case atStart => exact ⟨0, Nat.zero_le _, rfl, Lib.hid fun j h => by omega⟩
            case round =>
              obtain ⟨k, hk, rfl, HOK⟩ := hrel
              by_cases hlt : k < s.size
              · obtain ⟨x, hx⟩ : ∃ x : UInt8, s[k] = x := ⟨_, rfl⟩
                have hd : s.data.toList.getD k 0 = x := by rw [List.getD_eq_getElem?_getD, List.getElem?_eq_getElem (by omega)]; exact hx
                have HXK := Lib.hid hd
                clear hd
                have hbad : U7.goodB x = false → ans = false := fun h => HFA.out k (by omega) (fun h2 => by have := h2.1; rw [HXK.out, h] at this; cases this)
                have HBAD := Lib.hid hbad
                clear hbad
                have q47 : (47 : UInt8).toNat = 47 := rfl
                by_cases g1 : (x.toNat : Int) < 32
                · obtain rfl := HBAD.out (by unfold U7.goodB; rw [decide_eq_false (p := 32 ≤ x.toNat) (by omega)]; rfl)
                  go_wp2
                  go_ret
                  exact ⟨rfl, hb⟩
                · by_cases g2 : x.toNat = 127
                  · obtain rfl := HBAD.out (by unfold U7.goodB; rw [decide_eq_false (p := x.toNat ≠ 127) (by omega)]; simp)
                    have e2 : ((x.toNat : Int) == 127) = true := by rw [g2]; rfl
                    clear g2
                    go_wp2
                    go_ret
                    exact ⟨rfl, hb⟩
                  · have e2 : ((x.toNat : Int) == 127) = false := by rw [beq_eq_false_iff_ne]; omega
                    by_cases g3 : x.toNat = 42
                    · obtain rfl := HBAD.out (by unfold U7.goodB; rw [decide_eq_false (p := x.toNat ≠ 42) (by omega)]; simp)
                      have e3 : ((x.toNat : Int) == 42) = true := by rw [g3]; rfl
                      clear g3
                      go_wp2
                      go_ret
                      exact ⟨rfl, hb⟩
                    · have e3 : ((x.toNat : Int) == 42) = false := by rw [beq_eq_false_iff_ne]; omega
                      by_cases g4 : x.toNat = 37
                      · obtain rfl := HBAD.out (by unfold U7.goodB; rw [decide_eq_false (p := x.toNat ≠ 37) (by omega)]; simp)
                        have e4 : ((x.toNat : Int) == 37) = true := by rw [g4]; rfl
                        clear g4
                        go_wp2
                        go_ret
                        exact ⟨rfl, hb⟩
                      · have e4 : ((x.toNat : Int) == 37) = false := by rw [beq_eq_false_iff_ne]; omega
                        have HG : Hid (U7.goodB x = true) := Lib.hid (by unfold U7.goodB; simp; omega)
                        by_cases h0 : k = 0
                        · have e5 : ¬ (0 : Int) < (k : Int) := by omega
                          have HOK2 : Hid (∀ j, j < k + 1 → okAt s.data.toList j) := Lib.hid fun j hj => by
                            obtain rfl : j = k := by omega
                            exact ⟨by rw [HXK.out]; exact HG.out, fun h => by omega⟩
                          clear g2 g3 g4 h0
                          go_wp2
                          go_round
                          case rel => exact ⟨k + 1, by omega, by go_num, HOK2⟩
                          case measure => simp [intOf]; omega
                        · have e5 : (0 : Int) < (k : Int) := by omega
                          by_cases h5 : x = 47
                          · have e6 : ((x.toNat : Int) == 47) = true := by rw [h5]; rfl
                            obtain ⟨j, rfl⟩ : ∃ j, k = j + 1 := ⟨k - 1, by omega⟩
                            obtain ⟨y, hy⟩ : ∃ y : UInt8, s[j] = y := ⟨_, rfl⟩
                            have hyd : s.data.toList.getD j 0 = y := by rw [List.getD_eq_getElem?_getD, List.getElem?_eq_getElem (by omega)]; exact hy
                            have cj : ((j + 1 : Nat) : Int) - 1 = (j : Int) := by omega
                            have HYJ := Lib.hid hyd
                            clear hyd
                            by_cases h6 : y = 47
                            · have e7 : ((y.toNat : Int) == 47) = true := by rw [h6]; rfl
                              obtain rfl := HFA.out (j + 1) (by omega) (fun h => h.2 ⟨by omega, by rw [HXK.out, h5], by rw [Nat.add_sub_cancel, HYJ.out, h6]⟩)
                              clear g2 g3 g4 h0 h5 h6
                              go_wp2
                              go_ret
                              exact ⟨rfl, hb⟩
                            · have e7 : ((y.toNat : Int) == 47) = false := by
                                rw [beq_eq_false_iff_ne]; intro h; apply h6; apply UInt8.toNat_inj.1; omega
                              have HOK2 : Hid (∀ q, q < j + 1 + 1 → okAt s.data.toList q) := Lib.hid fun q hq => by
                                by_cases hqj : q = j + 1
                                · subst hqj
                                  exact ⟨by rw [HXK.out]; exact HG.out, fun h => by have := h.2.2; rw [Nat.add_sub_cancel, HYJ.out] at this; exact h6 this⟩
                                · exact HOK.out q (by omega)
                              clear g2 g3 g4 h0 h5 h6
                              go_wp2
                              go_round
                              case rel => exact ⟨j + 1 + 1, by omega, by go_num, HOK2⟩
                              case measure => simp [intOf]; omega
                          · have e6 : ((x.toNat : Int) == 47) = false := by
                              rw [beq_eq_false_iff_ne]; intro h; apply h5; apply UInt8.toNat_inj.1; omega
                            have HOK2 : Hid (∀ q, q < k + 1 → okAt s.data.toList q) := Lib.hid fun q hq => by
                              by_cases hqj : q = k
                              · subst hqj
                                exact ⟨by rw [HXK.out]; exact HG.out, fun h => by have := h.2.1; rw [HXK.out] at this; exact h5 this⟩
                              · exact HOK.out q (by omega)
                            clear g2 g3 g4 h0 h5
                            go_wp2
                            go_round
                            case rel => exact ⟨k + 1, by omega, by go_num, HOK2⟩
                            case measure => simp [intOf]; omega
              · obtain rfl : k = s.size := by omega
                have hans : ans = true := HI.out.2 fun j hj => HOK.out j (by omega)
                subst hans
                go_wp2
                go_ret
                exact ⟨rfl, hb⟩
end Go.Proofs.YtpjgacmcpbpklaaDoor
