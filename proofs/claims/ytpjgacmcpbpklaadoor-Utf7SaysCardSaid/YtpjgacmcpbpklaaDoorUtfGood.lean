/- inbox, goodByte, Good, Parent. -/
import Derived.Test.YtpjgacmcpbpklaaDoorUtfDec
import Derived.Test.YtpjgacmcpbpklaaDoorUtfFold
import Derived.WalkSpells
namespace Go.Proofs.YtpjgacmcpbpklaaDoor
open Go.RowKit
set_option linter.unusedVariables false

set_option maxHeartbeats 800000 in
theorem inbox_any (s : ByteArray) (w : World) (hs : s.size ≤ 4000000000) (hT : AFold w) : ∃ t : ByteArray, Hid (t.data.toList = U7.inbox s.data.toList) ∧ t.size ≤ s.size + 5 ∧
    Calls Tryd.prog 28 #[.string s] w fun e w' => e = .returned (.string t) ∧ Below w.heap.size w w' := by
  have HC := Lib.hid (equalFold_inbox s w hs hT)
  cases hi : U7.isInbox s.data.toList with
  | true =>
    rw [hi] at HC
    refine ⟨⟨#[73, 78, 66, 79, 88]⟩, Lib.hid (by unfold U7.inbox; rw [if_pos hi]; rfl), (by show 5 ≤ _; omega), ?_⟩
    clear hi
    go_enter Tryd.func28, Tryd.ntmps28
    go_wp2_with fail
    refine HC.out.mono ?_
    rintro e w1 ⟨rfl, hb⟩
    go_wp2
    go_ret
    exact ⟨rfl, hb⟩
  | false =>
    rw [hi] at HC
    refine ⟨s, Lib.hid (by unfold U7.inbox; rw [if_neg (by rw [hi]; decide)]), by omega, ?_⟩
    clear hi
    go_enter Tryd.func28, Tryd.ntmps28
    go_wp2_with fail
    refine HC.out.mono ?_
    rintro e w1 ⟨rfl, hb⟩
    go_wp2
    go_ret
    exact ⟨rfl, hb⟩

set_option maxHeartbeats 400000 in
theorem goodByte_int (c : Int) (w : World) (h : 0 ≤ c) : Calls Tryd.prog 26 #[.int .u8 c] w fun e w' => e = .returned (.bool (decide (32 ≤ c) && decide (c ≠ 127) && decide (c ≠ 42) && decide (c ≠ 37))) ∧ w = w' := by
  by_cases h32 : 32 ≤ c
  · by_cases h1 : c = 127
    · subst h1
      go_enter Tryd.func26, Tryd.ntmps26
      go_wp2
      go_ret
      exact ⟨rfl, rfl⟩
    · by_cases h2 : c = 42
      · subst h2
        go_enter Tryd.func26, Tryd.ntmps26
        go_wp2
        go_ret
        exact ⟨rfl, rfl⟩
      · by_cases h3 : c = 37
        · subst h3
          go_enter Tryd.func26, Tryd.ntmps26
          go_wp2
          go_ret
          exact ⟨rfl, rfl⟩
        · have k1 : (c != 127) = true := by rw [bne_iff_ne]; exact h1
          have k2 : (c != 42) = true := by rw [bne_iff_ne]; exact h2
          have k3 : (c != 37) = true := by rw [bne_iff_ne]; exact h3
          have e : (decide (32 ≤ c) && decide (c ≠ 127) && decide (c ≠ 42) && decide (c ≠ 37)) = true := by simp [h32, h1, h2, h3]
          rw [e]
          clear e h1 h2 h3
          go_enter Tryd.func26, Tryd.ntmps26
          go_wp2
          go_ret
          exact ⟨rfl, rfl⟩
  · have e : (decide (32 ≤ c) && decide (c ≠ 127) && decide (c ≠ 42) && decide (c ≠ 37)) = false := by simp [h32]
    rw [e]
    go_enter Tryd.func26, Tryd.ntmps26
    go_wp2
    go_ret
    exact ⟨rfl, rfl⟩
theorem goodByte_any (b : UInt8) (r : Bool) (hr : U7.goodB b = r) (w : World) : Calls Tryd.prog 26 #[.int .u8 (b.toNat : Int)] w fun e w' => e = .returned (.bool r) ∧ w = w' := by
  have := goodByte_int (b.toNat : Int) w (by omega)
  have e : (decide (32 ≤ (b.toNat : Int)) && decide ((b.toNat : Int) ≠ 127) && decide ((b.toNat : Int) ≠ 42) && decide ((b.toNat : Int) ≠ 37)) = r := by
    rw [← hr]
    unfold U7.goodB
    rw [Bool.eq_iff_iff]
    simp
    omega
  rwa [e] at this

/-- Parent. -/
theorem lastIdx_S (s : ByteArray) : ∀ k, k ≤ s.size → Lib.lastIdx s 47 k = (U7.lastS s.data.toList k : Int) - 1
  | 0, _ => rfl
  | k + 1, hk => by
    have hlt : k < s.data.toList.length := by have : s.data.toList.length = s.size := rfl; omega
    have ih := lastIdx_S s k (by omega)
    have e : s.data[k]! = s.data.toList[k] := by
      rw [getElem!_pos s.data k hlt]; rfl
    unfold Lib.lastIdx U7.lastS
    rw [e, List.getElem?_eq_getElem hlt]
    by_cases h : s.data.toList[k] = 47
    · rw [if_pos (by rw [h]; rfl), if_pos (by rw [h])]; omega
    · rw [if_neg (fun h' => h (by apply UInt8.toNat_inj.1; have : (47 : UInt8).toNat = 47 := rfl; omega)), if_neg (fun h' => by injection h' with h'; exact h h'), ih]

set_option maxHeartbeats 800000 in
theorem parent_any (s : ByteArray) (w : World) (hs : s.size ≤ 4000000000) :
    Calls Tryd.prog 11 #[.string s] w fun e w' => e = .returned (.tuple #[.string ⟨(U7.parent s.data.toList).1.toArray⟩, .bool (U7.parent s.data.toList).2]) ∧ w' = w := by
  have hlen : s.data.toList.length = s.size := rfl
  have hc := Tryd.strings_LastIndexByte s 47 (by omega) w
  unfold Lib.lastIndexByte at hc
  rw [lastIdx_S s s.size (Nat.le_refl _)] at hc
  rcases U7.lastS_spec s.data.toList s.size with ⟨e, _⟩ | ⟨i, hi, e, _, _⟩
  · have hp : U7.parent s.data.toList = ([], false) := by unfold U7.parent; rw [hlen, if_pos e]
    rw [hp]
    rw [e] at hc
    have HC := Lib.hid hc
    clear hc e hp
    go_enter Tryd.func11, Tryd.ntmps11
    go_wp2_with (go_at_call 25; refine HC.out.mono ?_; rintro e w1 ⟨rfl, rfl⟩)
    go_wp2
    go_ret2
    exact ⟨rfl, rfl⟩
  · have hp : U7.parent s.data.toList = (s.data.toList.take i, true) := by
      unfold U7.parent
      rw [hlen, e, if_neg (by omega)]
      rfl
    rw [hp]
    rw [e] at hc
    have e2 : ((i + 1 : Nat) : Int) - 1 = (i : Int) := by omega
    rw [e2] at hc
    have HC := Lib.hid hc
    have hx : s.extract 0 i = ⟨(s.data.toList.take i).toArray⟩ := by
      rw [Lib.extract_eq]; simp
    have HX := Lib.hid hx
    clear hc e hp hx
    go_enter Tryd.func11, Tryd.ntmps11
    go_wp2_with (go_at_call 25; refine HC.out.mono ?_; rintro e w1 ⟨rfl, rfl⟩)
    go_wp2
    go_ret2
    exact ⟨by rw [← HX.out]; rfl, rfl⟩

theorem good_of (l : List UInt8) (h1 : l ≠ []) (h2 : l.length ≤ 100) (h3 : Lib.validD l = true) (h4 : l.all U7.goodB = true) : U7.good l = !U7.dbl (47 :: (l ++ [47])) := by
  unfold U7.good
  rw [decide_eq_true h1, decide_eq_true h2, h3, h4]; rfl

set_option maxHeartbeats 1600000 in
set_option maxRecDepth 100000 in
theorem good_any (s : ByteArray) (w : World) (m : Int) (hs : s.size ≤ 4000000000) (hT : U8T w) (hm : w.cell? ⟨2, 0, none⟩ = some (.int .i64 m)) :
    Calls Tryd.prog 12 #[.string s] w fun e w' => e = .returned (.bool (U7.good s.data.toList)) ∧ Below w.heap.size w w' := by
  have hlen : s.data.toList.length = s.size := rfl
  obtain ⟨ans, hans⟩ : ∃ ans, U7.good s.data.toList = ans := ⟨_, rfl⟩
  rw [hans]
  by_cases h0 : s.data.toList = []
  · have k0 : s.toList.isEmpty = true := by rw [isEmpty_size, h0]; rfl
    obtain rfl : ans = false := by rw [← hans]; unfold U7.good; rw [h0]; rfl
    clear h0 hans
    go_enter Tryd.func12, Tryd.ntmps12
    go_wp2
    go_ret
    exact ⟨rfl, Below.refl _ _⟩
  · have k0 : s.toList.isEmpty = false := by
      rw [isEmpty_size]
      cases hd : s.data.toList with
      | nil => exact absurd hd h0
      | cons a t => rfl
    by_cases h1 : 100 < (s.size : Int)
    · obtain rfl : ans = false := by
        rw [← hans]; unfold U7.good
        rw [decide_eq_false (p := s.data.toList.length ≤ 100) (by omega)]; simp
      clear h0 hans
      go_enter Tryd.func12, Tryd.ntmps12
      go_wp2
      go_ret
      exact ⟨rfl, Below.refl _ _⟩
    · have HC := Lib.hid (Tryd.utf8_ValidString s w (by omega) hT)
      cases hv : Lib.validD s.data.toList with
      | false =>
        rw [hv] at HC
        obtain rfl : ans = false := by rw [← hans]; unfold U7.good; rw [hv]; simp
        clear h0 hans hv
        go_enter Tryd.func12, Tryd.ntmps12
        go_wp2_with (go_at_call 20; refine HC.out.mono ?_; rintro e w1 ⟨rfl, hb⟩)
        go_wp2
        go_ret
        exact ⟨rfl, hb⟩
      | true =>
        rw [hv] at HC
        have hg := good_of s.data.toList h0 (by omega) hv
        rw [hans] at hg
        have HG := Lib.hid hg
        have HNO : Hid (s.data.toList.all U7.goodB = false → ans = false) := Lib.hid fun h => by
          rw [← hans]; unfold U7.good; rw [h]; simp
        have HM := Lib.hid hm
        have hmg := World.block_lt_of_cell? w _ hm
        clear h0 hans hv hg hm
        go_enter Tryd.func12, Tryd.ntmps12
        go_wp2_with fail
        refine HC.out.mono ?_
        rintro e w1 ⟨rfl, hb⟩
        clear HC
        go_wp2
        go_loop [3, 18] (fun s3 i => ∃ k : Nat, k ≤ s.size ∧ i = .int .i64 k ∧ Hid ((s.data.toList.take k).all U7.goodB = true)) (fun _ i => s.size - (intOf i).toNat)
        case atStart => exact ⟨0, Nat.zero_le _, rfl, Lib.hid rfl⟩
        case round =>
          obtain ⟨k, hk, rfl, HA⟩ := hrel
          by_cases hlt : k < s.size
          · have hlt' : k < s.data.toList.length := by omega
            obtain ⟨x, hx⟩ : ∃ x : UInt8, s[k] = x := ⟨_, rfl⟩
            have hxl : s.data.toList[k] = x := hx
            cases hq : U7.goodB x with
            | true =>
              have hn : (s.data.toList.take (k + 1)).all U7.goodB = true := by
                rw [List.take_succ_eq_append_getElem hlt', List.all_append, HA.out, hxl]; simp [hq]
              have HN := Lib.hid hn
              have HQ := Lib.hid hq
              clear hn hq hxl
              go_wp2_with (go_at_call 26; refine (goodByte_any _ _ HQ.out _).mono ?_; rintro e w' ⟨rfl, rfl⟩)
              go_wp2
              go_round
              case rel => exact ⟨k + 1, by omega, by go_num, HN⟩
              case measure => simp [intOf]; omega
            | false =>
              have ha : ans = false := HNO.out (by
                rw [List.all_eq_false]
                exact ⟨x, by rw [← hxl]; exact List.getElem_mem hlt', by rw [hq]; decide⟩)
              have HQ := Lib.hid hq
              clear hq hxl
              subst ha
              go_wp2_with (go_at_call 26; refine (goodByte_any _ _ HQ.out _).mono ?_; rintro e w' ⟨rfl, rfl⟩)
              go_wp2
              go_ret
              exact ⟨rfl, hb⟩
          · have hall : s.data.toList.all U7.goodB = true := by
              have := HA.out
              rwa [List.take_of_length_le (by omega)] at this
            have ha := HG.out hall
            have HANS := Lib.hid ha
            have hm1 := (hb.cell (p := ⟨2, 0, none⟩) hmg).trans HM.out
            have HM1 := Lib.hid hm1
            clear ha hall hm1
            obtain ⟨q, HQ⟩ : ∃ q, Hid (q = U7.dbl (47 :: (s.data.toList ++ [47]))) := ⟨_, Lib.hid rfl⟩
            have hcon : Lib.contains (({ data := #[47] } ++ s ++ { data := #[47] } : ByteArray).data.toList) (({ data := #[47, 47] } : ByteArray).data.toList) = q := by
              rw [HQ.out, U7.dbl_index]
              unfold Lib.contains
              simp [ByteArray.data_append]
            have hcall := Tryd.strings_Contains ({ data := #[47] } ++ s ++ { data := #[47] }) { data := #[47, 47] } m w1 (by simp; have e1 : ({ data := #[47] } : ByteArray).size = 1 := rfl; omega) HM1.out
            rw [hcon] at hcall
            have HCALL := Lib.hid hcall
            have HF : Hid (ans = !q) := Lib.hid (by rw [HQ.out]; exact HANS.out)
            clear hcon hcall
            go_wp2_with fail
            refine HCALL.out.mono ?_
            rintro e w2 ⟨rfl, rfl⟩
            go_wp2
            go_ret
            exact ⟨by rw [HF.out]; rfl, hb⟩
end Go.Proofs.YtpjgacmcpbpklaaDoor
