/- appendSequence. -/
import Derived.Test.YtpjgacmcpbpklaaDoorUtfU
namespace Go.Proofs.YtpjgacmcpbpklaaDoor
open Go.RowKit
set_option linter.unusedVariables false

theorem letter_at : ∀ q : Fin 64, (⟨#[65, 66, 67, 68, 69, 70, 71, 72, 73, 74, 75, 76, 77, 78, 79, 80, 81, 82, 83, 84, 85, 86, 87, 88, 89, 90, 97, 98, 99, 100, 101, 102, 103, 104, 105, 106, 107, 108, 109, 110, 111, 112, 113, 114, 115, 116, 117, 118, 119, 120, 121, 122, 48, 49, 50, 51, 52, 53, 54, 55, 56, 57, 43, 44]⟩ : ByteArray)[q.val]'(by have := q.isLt; show q.val < 64; exact this) = U7.letter q.val := by decide
theorem high_bits (B V N0 N : Nat) (h : B % 2 ^ N0 = V) (h1 : 6 ≤ N) (h2 : N ≤ N0) : B / 2 ^ (N - 6) % 64 = V / 2 ^ (N - 6) % 64 := by
  subst h
  obtain ⟨d, rfl⟩ : ∃ d, N0 = (N - 6) + 6 + d := ⟨N0 - N, by omega⟩
  generalize N - 6 = m
  have e : 2 ^ (m + 6 + d) = 2 ^ m * (64 * 2 ^ d) := by rw [Nat.pow_add, Nat.pow_add, Nat.mul_assoc]
  rw [e, Nat.mod_mul_right_div_self, Nat.mod_mul_right_mod]
theorem int_div_pow (B m : Nat) : (B : Int) / 2 ^ m = ((B / 2 ^ m : Nat) : Int) := by
  rw [Int.natCast_ediv]; simp

set_option maxHeartbeats 1600000 in
set_option maxRecDepth 100000 in
theorem appendSequence_any (w : World) (v : Value) (l : List UInt8) (h : BRow w v l) (vu : Value) (us : List Nat) (hu : URow w vu us) (hul : ∀ u ∈ us, u < 65536) (hl : l.length ≤ 35184372088832) (hun : us.length ≤ 8796093022208) :
    Calls Tryd.prog 22 #[v, vu] w (RowEnd v (l ++ U7.seq us) w) := by
  obtain ⟨A0, c0, rfl, hc0, hm0⟩ := h.shape
  obtain ⟨Au, cu, rfl, hcu, hmu⟩ := hu.shape
  by_cases h0 : us = []
  · subst h0
    have e : U7.seq [] = [] := rfl
    rw [e, List.append_nil]
    have HB := Lib.hid h
    clear h hu e
    go_enter Tryd.func22, Tryd.ntmps22
    go_wp2
    go_ret
    exact ⟨_, rfl, HB.out, Only.refl _ _, Grows.refl _ _⟩
  · have hpos : 0 < us.length := List.length_pos_iff.2 h0
    have e : U7.seq us = 38 :: (U7.b64 us ++ [45]) := by unfold U7.seq; rw [if_neg h0]
    have HE := Lib.hid e
    have hap := VRow.apart hu h.vrow (by decide)
    obtain ⟨g, cap, e1, hg, _, _, hgb, hcell⟩ := VRow.form hu (by rw [uv_length]; exact hpos)
    injection e1 with e1 e2 e3
    subst e1 e3
    clear e2
    have hgn : g ∉ blk (.slice A0 l.length c0) := hap g hgb
    have hz : ((us.length : Int) == 0) = false := beq_eq_false_iff_ne.2 (by omega)
    obtain ⟨A1, c1, L1, w1, HL1, hr1, h1⟩ := (RowAt.start h).one 38 38 rfl (by omega)
    have hl1 : L1.length = l.length + 1 := by rw [HL1.out]; simp
    have HN1 := Lib.hid hl1
    have HR1 := Lib.hid hr1
    have HC := Lib.hid hcell
    clear h hu e hr1 hcell hl1 h0 hap hgb
    go_enter Tryd.func22, Tryd.ntmps22
    go_wp2_with (at_builtin; refine wpList_append_run rfl _ _ 30 rfl _ (.slice A0 l.length c0) (.slice (some ⟨w.heap.size, 0, none⟩) 1 1) rfl rfl (.slice A1 L1.length c1) w1 (by exact HR1.out) ?_)
    go_loopw [0, 5, 6, 18] (fun s0 s5 s6 i wr => ∃ (k : Nat) (A : Option Addr) (c : Nat) (L : List UInt8) (B n : Nat), k ≤ us.length ∧ i = .int .i64 k ∧ s0 = .slice A L.length c ∧ s5 = .int .u32 (B : Int) ∧ s6 = .int .i64 (n : Int) ∧ (n = 0 ∨ n = 2 ∨ n = 4) ∧ B < 4294967296 ∧
        Hid (RowAt (.slice A0 l.length c0) w wr (.slice A L.length c) L) ∧ Hid (L.length ≤ l.length + 1 + 3 * k) ∧ Hid (L ++ (U7.sext (B % 2 ^ n) n (us.drop k)).map U7.letter = l ++ 38 :: U7.b64 us)) (fun _ _ _ i _ => us.length - (intOf i).toNat)
    case atStart =>
      exact ⟨0, A1, c1, L1, 0, 0, Nat.zero_le _, rfl, rfl, rfl, rfl, .inl rfl, by omega, Lib.hid h1, Lib.hid (by rw [HN1.out]; omega), Lib.hid (by rw [HL1.out]; simp [U7.b64])⟩
    case round =>
      obtain ⟨k, A, c, L, B, n, hk, rfl, rfl, rfl, rfl, hn, hB, HRow, HLen, HInv⟩ := hrel
      by_cases hlt : k < us.length
      · have hcu := (HRow.out.only.cell (a := ⟨g, k, none⟩) hg hgn).trans (HC.out k (by rw [uv_length]; exact hlt))
        obtain ⟨u, Hu⟩ : ∃ u, Hid (u = us[k]) := ⟨_, Lib.hid rfl⟩
        have eu : (uv us)[k]'(by rw [uv_length]; exact hlt) = .int .u16 (u : Int) := by rw [Hu.out]; simp [uv]
        rw [eu] at hcu
        have hu16 : u < 65536 := by rw [Hu.out]; exact hul _ (List.getElem_mem hlt)
        clear eu
        obtain ⟨B', HB'⟩ : ∃ B', Hid (B' = B % 65536 * 2 ^ 16 + u) := ⟨_, Lib.hid rfl⟩
        have cB : bits .or .u32 ((B : Int) * 65536 % 4294967296) (u : Int) = (B' : Int) := by
          rw [HB'.out, ← u32_join (B % 65536) u 16 (by omega) (by omega) (by decide)]
          congr 1
          omega
        have hB' : B' < 4294967296 := by rw [HB'.out]; omega
        obtain ⟨N0, HN0⟩ : ∃ N0, Hid (N0 = n + 16) := ⟨_, Lib.hid rfl⟩
        have cN : (n : Int) + 16 = (N0 : Int) := by rw [HN0.out]; omega
        obtain ⟨V, HV⟩ : ∃ V, Hid (V = B % 2 ^ n * 65536 + u) := ⟨_, Lib.hid rfl⟩
        obtain ⟨R, HR⟩ : ∃ R, Hid (R = U7.sext (V % 2 ^ (N0 % 6)) (N0 % 6) (us.drop (k + 1))) := ⟨_, Lib.hid rfl⟩
        have hn20 : N0 ≤ 20 := by rw [HN0.out]; omega
        go_wp2
        go_loopw [0, 6] (fun s0 s6 wr2 => ∃ (A : Option Addr) (c : Nat) (L2 : List UInt8) (N : Nat), N ≤ N0 ∧ s0 = .slice A L2.length c ∧ s6 = .int .i64 (N : Int) ∧ Hid (N % 6 = N0 % 6) ∧
          Hid (RowAt (.slice A0 l.length c0) w wr2 (.slice A L2.length c) L2) ∧ Hid (L2.length + N / 6 ≤ L.length + N0 / 6) ∧ Hid (L2 ++ (U7.emit V N ++ R).map U7.letter = l ++ 38 :: U7.b64 us)) (fun _ s6 _ => (intOf s6).toNat)
        case atStart =>
          refine ⟨A, c, L, N0, Nat.le_refl _, rfl, rfl, Lib.hid rfl, HRow, Lib.hid (Nat.le_refl _), Lib.hid ?_⟩
          rw [← HInv.out, List.drop_eq_getElem_cons hlt, ← Hu.out, U7.sext, HR.out, HV.out, HN0.out]
        case round =>
          obtain ⟨A2, c2, L2, N, hN, rfl, rfl, HM, HRow2, HLen2, HInv2⟩ := hrel
          by_cases h6 : 6 ≤ N
          · have h6' : (6 : Int) ≤ (N : Int) := by omega
            obtain ⟨q, HQ⟩ : ∃ q, Hid (q = V / 2 ^ (N - 6) % 64) := ⟨_, Lib.hid rfl⟩
            have hq : q < 64 := by rw [HQ.out]; exact Nat.mod_lt _ (by decide)
            have hqz : (q : Int) < 64 := by omega
            have cK : bits .and .u32 ((B' : Int) / 2 ^ (N - 6)) 63 = (q : Int) := by
              have hv : B' % 2 ^ N0 = V := by
                rw [HB'.out, HV.out, HN0.out]
                rcases hn with rfl | rfl | rfl <;> simp only [Nat.reducePow, Nat.reduceAdd] <;> omega
              rw [int_div_pow, u32_low6 _ (Nat.lt_of_le_of_lt (Nat.div_le_self _ _) hB'), high_bits B' V N0 N hv h6 hN, ← HQ.out]
            obtain ⟨b, HBy⟩ : ∃ b : UInt8, Hid (b = U7.letter q) := ⟨_, Lib.hid rfl⟩
            have cL := (letter_at ⟨q, hq⟩).trans HBy.out.symm
            obtain ⟨A3, c3, L3, w3, HL3, hr3, h3⟩ := HRow2.out.one b (b.toNat : Int) rfl (by have := HLen.out; have := HLen2.out; omega)
            have HR3 := Lib.hid hr3
            have cN6 : (N : Int) - 6 = ((N - 6 : Nat) : Int) := by omega
            clear hr3
            go_wp2_with (at_builtin; refine wpList_append_run rfl _ _ 30 rfl _ (.slice A2 L2.length c2) (.slice (some ⟨wr.heap.size, 0, none⟩) 1 1) rfl rfl (.slice A3 L3.length c3) w3 (by exact HR3.out) ?_)
            go_wp2
            go_roundw
            case rel =>
              refine ⟨A3, c3, L3, N - 6, by omega, rfl, rfl, Lib.hid (by rw [← HM.out]; omega), Lib.hid h3, Lib.hid ?_, Lib.hid ?_⟩
              · have := HLen2.out
                rw [HL3.out, List.length_append]
                simp only [List.length_cons, List.length_nil]
                omega
              · rw [← HInv2.out, HL3.out, U7.emit_step V N h6, ← HQ.out, HBy.out]
                simp
            case measure => simp [intOf]; omega
          · have h6' : ¬ (6 : Int) ≤ (N : Int) := by omega
            have hNe : N = N0 % 6 := by have := HM.out; omega
            have HNE := Lib.hid hNe
            have hinv3 : L2 ++ (U7.sext (B' % 2 ^ N) N (us.drop (k + 1))).map U7.letter = l ++ 38 :: U7.b64 us := by
              have hv : B' % 2 ^ N0 = V := by
                rw [HB'.out, HV.out, HN0.out]
                rcases hn with rfl | rfl | rfl <;> simp only [Nat.reducePow, Nat.reduceAdd] <;> omega
              have hd : B' % 2 ^ N = V % 2 ^ N := by
                rw [← hv, Nat.mod_mod_of_dvd _ (Nat.pow_dvd_pow 2 hN)]
              rw [← HInv2.out, U7.emit_low V N (by omega), List.nil_append, HR.out, ← HNE.out, hd]
            have HINV := Lib.hid hinv3
            have hN3 : N = 0 ∨ N = 2 ∨ N = 4 := by rw [HNE.out, HN0.out]; omega
            have hlen3 : L2.length ≤ l.length + 1 + 3 * (k + 1) := by
              have := HLen2.out; have := HLen.out; omega
            have HLEN := Lib.hid hlen3
            clear hNe hinv3 hlen3
            go_wp2
            go_roundw
            case rel => exact ⟨k + 1, A2, c2, L2, B', N, by omega, by go_num, rfl, rfl, rfl, hN3, hB', HRow2, HLEN, HINV⟩
            case measure => simp [intOf]; omega
      · obtain rfl : k = us.length := by omega
        have hinv := HInv.out
        rw [List.drop_length, U7.sext] at hinv
        have hfin : ∀ (W : World) (A' : Option Addr) (c' : Nat) (L' : List UInt8), RowAt (.slice A0 l.length c0) w W (.slice A' L'.length c') L' → RowEnd (.slice A0 l.length c0) L' w (.returned (.slice A' L'.length c')) W := fun _ _ _ _ hr => ⟨_, rfl, hr.row, hr.only, hr.grows⟩
        have HFIN := Lib.hid hfin
        clear hfin
        by_cases hn0 : n = 0
        · subst hn0
          rw [if_pos rfl, List.map_nil, List.append_nil] at hinv
          have HINV := Lib.hid hinv
          have h0 : ¬ (0 : Int) < ((0 : Nat) : Int) := by omega
          obtain ⟨A3, c3, L3, w3, HL3, hr3, h3⟩ := HRow.out.one 45 45 rfl (by have := HLen.out; omega)
          have HR3 := Lib.hid hr3
          have HE3 := Lib.hid (HFIN.out _ _ _ _ h3)
          have HT : Hid (L3 = l ++ U7.seq us) := Lib.hid (by rw [HL3.out, HINV.out, HE.out]; simp)
          clear hr3 h3 hinv
          go_wp2_with (at_builtin; refine wpList_append_run rfl _ _ 30 rfl _ (.slice A L.length c) (.slice (some ⟨wr.heap.size, 0, none⟩) 1 1) rfl rfl (.slice A3 L3.length c3) w3 (by exact HR3.out) ?_)
          go_wp2
          go_ret
          rw [← HT.out]; exact HE3.out
        · rw [if_neg hn0] at hinv
          have h0 : (0 : Int) < (n : Int) := by omega
          obtain ⟨q, HQ⟩ : ∃ q, Hid (q = B % 2 ^ n * 2 ^ (6 - n) % 64) := ⟨_, Lib.hid rfl⟩
          rw [← HQ.out] at hinv
          have HINV := Lib.hid hinv
          have hq : q < 64 := by rw [HQ.out]; exact Nat.mod_lt _ (by decide)
          have hqz : (q : Int) < 64 := by omega
          obtain ⟨b, HBy⟩ : ∃ b : UInt8, Hid (b = U7.letter q) := ⟨_, Lib.hid rfl⟩
          have cL := (letter_at ⟨q, hq⟩).trans HBy.out.symm
          obtain ⟨A3, c3, L3, w3, HL3, hr3, h3⟩ := HRow.out.one b (b.toNat : Int) rfl (by have := HLen.out; omega)
          have HR3 := Lib.hid hr3
          obtain ⟨A4, c4, L4, w4, HL4, hr4, h4⟩ := h3.one 45 45 rfl (by rw [HL3.out]; simp; have := HLen.out; omega)
          have HR4 := Lib.hid hr4
          have HE4 := Lib.hid (HFIN.out _ _ _ _ h4)
          have HT : Hid (L4 = l ++ U7.seq us) := Lib.hid (by
            have h9 : L ++ [U7.letter q] = l ++ 38 :: U7.b64 us := HINV.out
            rw [HL4.out, HL3.out, HE.out, HBy.out, h9]
            simp)
          have hBn : ((B * 2 ^ (6 - n) % 4294967296 : Nat) : Int) = (B : Int) * 2 ^ (6 - n) % 4294967296 := by simp
          have cK : bits .and .u32 ((B : Int) * 2 ^ (6 - n) % 4294967296) 63 = (q : Int) := by
            rw [← hBn, u32_low6 _ (by omega), HQ.out]
            rcases hn with rfl | rfl | rfl
            · exact absurd rfl hn0
            · simp only [Nat.reducePow, Nat.reduceSub]; congr 1; omega
            · simp only [Nat.reducePow, Nat.reduceSub]; congr 1; omega
          have hsub : (6 : Int) - (n : Int) = ((6 - n : Nat) : Int) := by omega
          have hn6 : n ≤ 6 := by omega
          clear hr3 h3 hinv hr4 h4 hBn hn
          go_wp2_with (first
            | (at_builtin; refine wpList_append_run rfl _ _ 30 rfl _ (.slice A L.length c) (.slice (some ⟨wr.heap.size, 0, none⟩) 1 1) rfl rfl (.slice A3 L3.length c3) w3 (by exact HR3.out) ?_)
            | (at_builtin; refine wpList_append_run rfl _ _ 30 rfl _ (.slice A3 L3.length c3) (.slice (some ⟨w3.heap.size, 0, none⟩) 1 1) rfl rfl (.slice A4 L4.length c4) w4 (by exact HR4.out) ?_))
          go_wp2
          go_ret
          rw [← HT.out]; exact HE4.out
end Go.Proofs.YtpjgacmcpbpklaaDoor
