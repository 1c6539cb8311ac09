/- The reference's UTF8. -/
import Derived.Test.YtpjgacmcpbpklaaDoorUtfMat
namespace Go.Proofs.YtpjgacmcpbpklaaDoor
open Go.RowKit
set_option linter.unusedVariables false

theorem err_iff (l : List UInt8) (hne : l ≠ []) (h : (Lib.decodeL l).1 = 65533) : (Lib.decodeL l).2 = 1 ↔ ¬ (3 ≤ l.length ∧ l.take 3 = [239, 191, 189]) := by
  constructor
  · rintro h1 ⟨h2, h3⟩
    rw [Lib.decodeL_N] at h1
    have e0 : l.getD 0 0 = 239 := by
      have : (l.take 3)[0]? = some 239 := by rw [h3]; rfl
      rw [List.getElem?_take_of_lt (by decide)] at this
      rw [List.getD_eq_getElem?_getD, this]; rfl
    have e1 : l.getD 1 0 = 191 := by
      have : (l.take 3)[1]? = some 191 := by rw [h3]; rfl
      rw [List.getElem?_take_of_lt (by decide)] at this
      rw [List.getD_eq_getElem?_getD, this]; rfl
    have e2 : l.getD 2 0 = 189 := by
      have : (l.take 3)[2]? = some 189 := by rw [h3]; rfl
      rw [List.getElem?_take_of_lt (by decide)] at this
      rw [List.getD_eq_getElem?_getD, this]; rfl
    rw [e0, e1, e2] at h1
    generalize (l.getD 3 0).toNat = b3 at h1
    have d0 : (239 : UInt8).toNat = 239 := rfl
    have d1 : (191 : UInt8).toNat = 191 := rfl
    have d2 : (189 : UInt8).toNat = 189 := rfl
    rw [d0, d1, d2] at h1
    unfold Lib.decodeN at h1
    rw [if_neg (by decide), if_neg (by omega), if_pos ⟨by decide, ⟨by omega, by decide⟩, by omega, by decide⟩, if_pos (by decide)] at h1
    exact absurd h1 (by decide)
  · intro hn
    refine Classical.byContradiction fun h1 => hn ?_
    have h2 := Lib.encode_decode l hne (fun h3 => h1 h3.2)
    rw [h] at h2
    have h3 : Lib.encodeRune ((65533 : Nat) : Int) = [239, 191, 189] := by decide
    rw [h3] at h2
    have h4 := congrArg List.length h2
    rw [List.length_take] at h4
    simp only [List.length_cons, List.length_nil] at h4
    have h5 := Lib.decodeL_le l hne
    have h6 : (Lib.decodeL l).2 = 3 := by omega
    rw [h6] at h2
    exact ⟨by omega, h2.symm⟩

set_option maxHeartbeats 1600000 in
set_option maxRecDepth 100000 in
theorem rutf8_any (s : ByteArray) (w : World) (hs : s.size ≤ 1000000000) :
    Calls Tryd.prog 29 #[.string s] w fun e w' => e = .returned (.bool (Lib.validD s.data.toList)) ∧ Below w.heap.size w w' := by
  have hlen : s.data.toList.length = s.size := rfl
  obtain ⟨ans, hans⟩ : ∃ ans, Lib.validD s.data.toList = ans := ⟨_, rfl⟩
  rw [hans]
  go_enter Tryd.func29, Tryd.ntmps29
  go_wp2
  go_loopw [3] (fun s3 wr => ∃ (pos : Nat), pos ≤ s.size ∧ Hid (wr.heap[w.heap.size]? = some (.stringIter s pos)) ∧ Hid (Below w.heap.size w wr) ∧ Hid (Lib.validD (s.data.toList.drop pos) = ans))
    (fun _ wr => s.size - wr.iterPos w.heap.size)
  case atStart => exact ⟨0, Nat.zero_le _, Lib.hid (World.iter_heap w s 0), Lib.hid ((Below.refl _ _).alloc (Nat.le_refl _) _), Lib.hid hans⟩
  case round =>
    obtain ⟨pos, hpos, HIT, HB, HV⟩ := hrel
    have hit := HIT.out
    by_cases hlt : pos < s.size
    · have hnx := fun ty => Lib.run_next_any_at (P := Tryd.prog) wr w.heap.size s pos ty hit hlt
      have hne : s.data.toList.drop pos ≠ [] := fun e => by
        have := congrArg List.length e
        rw [List.length_drop, hlen] at this; simp at this; omega
      have hstep := Lib.validD_step _ hne
      have hle := Lib.decodeL_le _ hne
      have hw := Lib.decodeL_width (s.data.toList.drop pos)
      have hru := Lib.decodeL_rune (s.data.toList.drop pos)
      have herr := err_iff _ hne
      rw [Lib.decodeL_drop] at hstep hle hw hru herr
      rw [List.drop_drop] at hstep
      obtain ⟨R, hR⟩ : ∃ R, (Utf8.decode s pos).1 = R := ⟨_, rfl⟩
      obtain ⟨K, hK⟩ : ∃ K, (Utf8.decode s pos).2 = K := ⟨_, rfl⟩
      rw [hR, hK] at hnx hstep herr
      rw [hK] at hle hw
      rw [hR] at hru
      rw [List.length_drop, hlen] at hle
      obtain ⟨W2, hW2⟩ : ∃ W2, wr.iterAt w.heap.size s (pos + K) = W2 := ⟨_, rfl⟩
      have hit2 := Lib.iterAt_heap wr w.heap.size s pos (pos + K) hit
      have hb2 := Lib.below_iterAt HB.out (Nat.le_refl _) s (pos + K)
      rw [hW2] at hnx hit2 hb2
      have HIT2 := Lib.hid hit2
      have HB2 := Lib.hid hb2
      have hms : s.size - W2.iterPos w.heap.size < s.size - wr.iterPos w.heap.size := by rw [iterPos_at hit2, iterPos_at hit]; omega
      have HMS := Lib.hid hms
      rw [HV.out] at hstep
      have HST := Lib.hid hstep
      have HERR := Lib.hid herr
      clear hstep hit hR hK hW2 hit2 hb2 hms herr hne HIT HB hans
      by_cases hr : R = 65533
      · have kr : ((R : Int) == 65533) = true := by rw [beq_iff_eq]; omega
        have hk1 := HERR.out hr
        by_cases h3 : pos + 3 ≤ s.size
        · have z3 : ¬ (s.size : Int) < (pos : Int) + 3 := by omega
          obtain ⟨x, hx⟩ : ∃ x, s.extract pos (pos + 3) = x := ⟨_, rfl⟩
          have hxd : x.data.toList = (s.data.toList.drop pos).take 3 := by
            rw [← hx, Lib.extract_data, show pos + 3 - pos = 3 from by omega]
          by_cases hq : (s.data.toList.drop pos).take 3 = [239, 191, 189]
          · have hne2 : (x.toList == [239, 191, 189]) = true := by rw [isEmpty_size, hxd, hq]; rfl
            have hv : Lib.validD (s.data.toList.drop (pos + K)) = ans := by
              rw [HST.out, if_neg]
              rintro ⟨_, h1⟩
              exact hk1.1 h1 ⟨by rw [List.length_drop, hlen]; omega, hq⟩
            have HV2 := Lib.hid hv
            clear hv hxd hq hk1
            go_wp2
            exact ⟨⟨pos + K, by omega, HIT2, HB2, HV2⟩, HMS.out⟩
          · have hne2 : (x.toList == [239, 191, 189]) = false := by rw [isEmpty_size, hxd]; exact beq_eq_false_iff_ne.2 hq
            obtain rfl : ans = false := by
              rw [HST.out, if_pos ⟨hr, hk1.2 (fun h => hq h.2)⟩]
            clear hxd hq hk1
            go_wp2
            go_ret
            exact ⟨rfl, HB2.out⟩
        · have z3 : (s.size : Int) < (pos : Int) + 3 := by omega
          obtain rfl : ans = false := by
            rw [HST.out, if_pos ⟨hr, hk1.2 (fun h => by have := h.1; rw [List.length_drop, hlen] at this; omega)⟩]
          clear hk1
          go_wp2
          go_ret
          exact ⟨rfl, HB2.out⟩
      · have kr : ((R : Int) == 65533) = false := by rw [beq_eq_false_iff_ne]; omega
        have hv : Lib.validD (s.data.toList.drop (pos + K)) = ans := by
          rw [HST.out, if_neg (fun h => hr h.1)]
        have HV2 := Lib.hid hv
        clear hv
        go_wp2
        exact ⟨⟨pos + K, by omega, HIT2, HB2, HV2⟩, HMS.out⟩
    · obtain rfl : pos = s.size := by omega
      have hnx := fun ty => Lib.run_next_end_at (P := Tryd.prog) wr w.heap.size s s.size ty hit hlt
      have hv := HV.out
      rw [List.drop_of_length_le (by rw [hlen]; exact Nat.le_refl _), Lib.validD_nil] at hv
      subst hv
      go_wp2
      go_ret
      exact ⟨rfl, HB.out⟩
end Go.Proofs.YtpjgacmcpbpklaaDoor
