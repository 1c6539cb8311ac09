/- Encode. -/
import Derived.Test.YtpjgacmcpbpklaaDoorUtfSeq
import Derived.Test.YtpjgacmcpbpklaaDoorUtfIter
import Derived.Test.YtpjgacmcpbpklaaDoorShelB
namespace Go.Proofs.YtpjgacmcpbpklaaDoor
open Go.RowKit
set_option linter.unusedVariables false

/-- The two tables of unicode/utf8. -/
def U8T (w : World) : Prop := Lib.Utf8Tabs 0 1 w
theorem U8T.below {w w' : World} (h : U8T w) (hb : Below w.heap.size w w') : U8T w' := Utf8Tabs_below h hb

def tup2 (t : ByteArray) (e : Nat) : Value := .tuple #[.string t, .int .i64 (e : Int)]

set_option maxHeartbeats 1600000 in
set_option maxRecDepth 100000 in
theorem encode_no (s : ByteArray) (w : World) (hs : s.size ≤ 1000000000000) (hT : U8T w) (hv : Lib.validD s.data.toList = false) :
    Calls Tryd.prog 9 #[.string s] w fun e w' => e = .returned (tup2 ⟨#[]⟩ 1) ∧ Below w.heap.size w w' := by
  have cV : ∀ (hs : s.size ≤ 9223372036854775807), Calls Tryd.prog 20 #[.string s] w fun e w' => e = .returned (.bool false) ∧ Below w.heap.size w w' := fun hs => by rw [← hv]; exact Tryd.utf8_ValidString s w hs hT
  have HC := Lib.hid (cV (by omega))
  clear cV hv
  go_enter Tryd.func9, Tryd.ntmps9
  go_wp2_with fail
  refine HC.out.mono ?_
  rintro e w1 ⟨rfl, hb⟩
  go_wp2
  go_ret2
  exact ⟨rfl, hb⟩

set_option maxHeartbeats 3200000 in
set_option maxRecDepth 100000 in
theorem encode_ok (s : ByteArray) (w : World) (hs : s.size ≤ 1000000000000) (hT : U8T w) (hv : Lib.validD s.data.toList = true) :
    Calls Tryd.prog 9 #[.string s] w fun e w' => e = .returned (tup2 ⟨(U7.enc s.data.toList).toArray⟩ 0) ∧ Below w.heap.size w w' := by
  have cV : ∀ (hs : s.size ≤ 9223372036854775807), Calls Tryd.prog 20 #[.string s] w fun e w' => e = .returned (.bool true) ∧ Below w.heap.size w w' := fun hs => by rw [← hv]; exact Tryd.utf8_ValidString s w hs hT
  have HC := Lib.hid (cV (by omega))
  have hel : (U7.enc s.data.toList).length ≤ 9 * s.size + 3 := U7.enc_len s.data.toList
  have HEL := Lib.hid hel
  have hlen : s.data.toList.length = s.size := rfl
  clear cV hv hel
  go_enter Tryd.func9, Tryd.ntmps9
  go_wp2_with fail
  refine HC.out.mono ?_
  rintro e w1 ⟨rfl, hb⟩
  clear HC
  go_wp2
  go_loopw [4, 5] (fun s4 s5 wr => ∃ (pos : Nat) (A : Option Addr) (c : Nat) (L : List UInt8) (Au : Option Addr) (cu : Nat) (U : List Nat), pos ≤ s.size ∧ s4 = .slice A L.length c ∧ s5 = .slice Au U.length cu ∧
      Hid (Ranging w w1.heap.size s pos (.slice A L.length c) L (.slice Au U.length cu) 52 (uv U) wr) ∧ Hid (U.length ≤ 2 * pos) ∧ Hid (∀ u ∈ U, u < 65536) ∧ Hid (L ++ U7.encR (U7.runes (s.data.toList.drop pos)) U = U7.enc s.data.toList))
    (fun _ _ wr => s.size - wr.iterPos w1.heap.size)
  case atStart =>
    refine ⟨0, none, 0, [], none, 0, [], Nat.zero_le _, rfl, rfl, Lib.hid ⟨BRow.nil _, VRow.nil _ _, by decide, World.iter_heap w1 s 0, hb.size, hb.trans (((Below.refl w1.heap.size w1).alloc (Nat.le_refl _) _).mono hb.size), fun k hk => (by cases hk), fun k hk => (by cases hk)⟩, Lib.hid (Nat.zero_le _), Lib.hid (by simp), Lib.hid rfl⟩
  case round =>
    obtain ⟨pos, A, c, L, Au, cu, U, hpos, rfl, rfl, HR, HU, HLT, HI⟩ := hrel
    have hit := HR.out.hit
    by_cases hlt : pos < s.size
    · have hl0 : L.length ≤ 9 * s.size + 3 := by
        have h1 := congrArg List.length HI.out
        rw [List.length_append] at h1
        have := HEL.out; omega
      have hnx := fun ty => Lib.run_next_any_at (P := Tryd.prog) wr w1.heap.size s pos ty hit hlt
      have hne : s.data.toList.drop pos ≠ [] := fun e => by
        have := congrArg List.length e
        rw [List.length_drop, hlen] at this; simp at this; omega
      have hstep := U7.runes_step _ hne
      have hle := Lib.decodeL_le _ hne
      have hw := Lib.decodeL_width (s.data.toList.drop pos)
      have hru := Lib.decodeL_rune (s.data.toList.drop pos)
      rw [Lib.decodeL_drop] at hstep hle hw hru
      rw [List.drop_drop] at hstep
      obtain ⟨R, hR⟩ : ∃ R, (Utf8.decode s pos).1 = R := ⟨_, rfl⟩
      obtain ⟨K, hK⟩ : ∃ K, (Utf8.decode s pos).2 = K := ⟨_, rfl⟩
      rw [hR, hK] at hnx hstep
      rw [hK] at hle hw
      rw [hR] at hru
      rw [List.length_drop, hlen] at hle
      have h2 := HR.out.next (pos + K)
      obtain ⟨W2, hW2⟩ : ∃ W2, wr.iterAt w1.heap.size s (pos + K) = W2 := ⟨_, rfl⟩
      rw [hW2] at hnx h2
      have H2 := Lib.hid h2
      have HST := Lib.hid hstep
      have hm1 : wr.iterPos w1.heap.size = pos := iterPos_at hit
      have HM := Lib.hid hm1
      clear h2 hstep hne hit hR hK hW2 HR hm1
      by_cases hp : 32 ≤ R ∧ R ≤ 126
      · have hpr : U7.pr R = true := U7.pr_iff.2 hp
        have HPR := Lib.hid hpr
        have hp1 : ¬ (R : Int) < 32 := by omega
        have hp2 : ¬ 126 < (R : Int) := by omega
        have hU2 : U.length ≤ 8796093022208 := by have := HU.out; omega
        have HCALL := Lib.hid (appendSequence_any W2 (.slice A L.length c) L H2.out.row (.slice Au U.length cu) U H2.out.urow HLT.out (by omega) hU2)
        obtain ⟨h5, e5⟩ := vrow_head0 H2.out.urow
        have cb : IntKind.u8.wrap (R : Int) = (R : Int) := by simp [IntKind.wrap, IntKind.bits, IntKind.signed]; omega
        have HG0 := Lib.hid (H2.out.stepU (vu' := .slice Au 0 cu) (xs' := []) h5 (Only.refl _ _) (by rw [e5]; exact Grows.refl _ _))
        clear hpr hp h5 e5
        obtain ⟨b, hb8⟩ : ∃ b : UInt8, b = UInt8.ofNat R := ⟨_, rfl⟩
        have hb9 : (b.toNat : Int) = (R : Int) := by rw [hb8, U7.byte_of R (by omega)]
        have HB8 := Lib.hid hb8
        have HB9 := Lib.hid hb9
        clear hb8 hb9
        go_wp2_with fail
        refine HCALL.out.mono ?_
        rintro e w3 ⟨v3, rfl, h3, h3o, h3g⟩
        have g3 := HG0.out.stepB h3 h3o h3g
        obtain ⟨A3, c3, rfl, _, _⟩ := h3.shape
        have hl3 : (L ++ U7.seq U).length ≤ 16 * s.size + 200 := by
          have := U7.seq_len U
          have := HU.out
          rw [List.length_append]; omega
        obtain ⟨L3, HL3⟩ : ∃ L3, Hid (L3 = L ++ U7.seq U) := ⟨_, Lib.hid rfl⟩
        rw [← HL3.out] at h3 g3 hl3 ⊢
        obtain ⟨v6, w6, hr6, h6, h6o, h6g⟩ := brow_one w3 _ L3 h3 b (R : Int) HB9.out.symm (by omega) 30
        obtain ⟨A6, c6, rfl, _, _⟩ := h6.shape
        obtain ⟨L6, HL6⟩ : ∃ L6, Hid (L6 = L3 ++ [b]) := ⟨_, Lib.hid rfl⟩
        rw [← HL6.out] at h6 hr6 h6g
        have g6 := g3.stepB h6 h6o h6g
        have hl6 : L6.length ≤ 16 * s.size + 201 := by rw [HL6.out, List.length_append]; simp; omega
        have HR6 := Lib.hid hr6
        by_cases h38 : R = 38
        · have k38 : ((R : Int) == 38) = true := by rw [beq_iff_eq]; omega
          obtain ⟨v7, w7, hr7, h7, h7o, h7g⟩ := brow_one w6 _ L6 h6 45 45 rfl (by omega) 30
          obtain ⟨A7, c7, rfl, _, _⟩ := h7.shape
          obtain ⟨L7, HL7⟩ : ∃ L7, Hid (L7 = L6 ++ [45]) := ⟨_, Lib.hid rfl⟩
          rw [← HL7.out] at h7 hr7 h7g
          have HG := Lib.hid (g6.stepB h7 h7o h7g)
          have HR7 := Lib.hid hr7
          have hinv : L7 ++ U7.encR (U7.runes (s.data.toList.drop (pos + K))) [] = U7.enc s.data.toList := by
            rw [← HI.out, HST.out, U7.encR, if_pos HPR.out, HL7.out, HL6.out, HL3.out, HB8.out, h38]
            simp [U7.plain]
          have HINV := Lib.hid hinv
          have hms : s.size - w7.iterPos w1.heap.size < s.size - wr.iterPos w1.heap.size := by rw [iterPos_at HG.out.hit, HM.out]; omega
          have HMS := Lib.hid hms
          clear hms hinv hr7 h7 h7o h7g hr6 h6 h6o h6g h3 h3o h3g g3 g6 h38
          go_wp2_with (first
            | (at_builtin; refine wpList_append_run rfl _ _ 30 rfl _ (.slice A3 L3.length c3) (.slice (some ⟨w3.heap.size, 0, none⟩) 1 1) rfl rfl (.slice A6 L6.length c6) w6 (by exact HR6.out) ?_)
            | (at_builtin; refine wpList_append_run rfl _ _ 30 rfl _ (.slice A6 L6.length c6) (.slice (some ⟨w6.heap.size, 0, none⟩) 1 1) rfl rfl (.slice A7 L7.length c7) w7 (by exact HR7.out) ?_))
          go_wp2
          exact ⟨⟨pos + K, A7, c7, L7, Au, cu, [], by omega, rfl, rfl, HG, Lib.hid (by simp), Lib.hid (by simp), HINV⟩, HMS.out⟩
        · have k38 : ((R : Int) == 38) = false := by rw [beq_eq_false_iff_ne]; omega
          have HG := Lib.hid g6
          have hinv : L6 ++ U7.encR (U7.runes (s.data.toList.drop (pos + K))) [] = U7.enc s.data.toList := by
            rw [← HI.out, HST.out, U7.encR, if_pos HPR.out, HL6.out, HL3.out, HB8.out]
            simp [U7.plain, h38]
          have HINV := Lib.hid hinv
          have hms : s.size - w6.iterPos w1.heap.size < s.size - wr.iterPos w1.heap.size := by rw [iterPos_at HG.out.hit, HM.out]; omega
          have HMS := Lib.hid hms
          clear hms hinv hr6 h6 h6o h6g h3 h3o h3g g3 g6 h38
          go_wp2_with (first
            | (at_builtin; refine wpList_append_run rfl _ _ 30 rfl _ (.slice A3 L3.length c3) (.slice (some ⟨w3.heap.size, 0, none⟩) 1 1) rfl rfl (.slice A6 L6.length c6) w6 (by exact HR6.out) ?_))
          go_wp2
          exact ⟨⟨pos + K, A6, c6, L6, Au, cu, [], by omega, rfl, rfl, HG, Lib.hid (by simp), Lib.hid (by simp), HINV⟩, HMS.out⟩
      · have hpr : U7.pr R = false := by rw [← Bool.not_eq_true, U7.pr_iff]; exact hp
        have hU2 : U.length ≤ 35184372088832 := by have := HU.out; omega
        have hcall := appendUnits_any W2 (.slice Au U.length cu) U H2.out.urow R hru hU2
        have HCALL := Lib.hid hcall
        have HPR := Lib.hid hpr
        have hnext : ∀ (w3 : World) (A3 : Option Addr) (c3 : Nat) (U3 : List Nat), U3 = U ++ U7.unitsOf R → URow w3 (.slice A3 U3.length c3) U3 → Only (blk (.slice Au U.length cu)) W2 w3 → Grows (blk (.slice Au U.length cu)) (blk (.slice A3 U3.length c3)) W2 →
            Hid (Ranging w w1.heap.size s (pos + K) (.slice A L.length c) L (.slice A3 U3.length c3) 52 (uv U3) w3) ∧ Hid (U3.length ≤ 2 * (pos + K)) ∧ Hid (∀ u ∈ U3, u < 65536) ∧ Hid (L ++ U7.encR (U7.runes (s.data.toList.drop (pos + K))) U3 = U7.enc s.data.toList) ∧
            s.size - w3.iterPos w1.heap.size < s.size - wr.iterPos w1.heap.size := by
          intro w3 A3 c3 U3 e h3 h3o h3g
          subst e
          have h4 := H2.out.stepU h3 h3o h3g
          refine ⟨Lib.hid h4, Lib.hid ?_, Lib.hid ?_, Lib.hid ?_, ?_⟩
          · have := U7.unitsOf_len R
            have := HU.out
            rw [List.length_append]; omega
          · intro u hu
            rcases List.mem_append.1 hu with hu | hu
            · exact HLT.out u hu
            · exact U7.unitsOf_lt R (by omega) u hu
          · rw [← HI.out, HST.out, U7.encR, if_neg (by rw [HPR.out]; decide)]
          · rw [iterPos_at h4.hit, HM.out]; omega
        have HN := Lib.hid hnext
        clear hpr hcall hnext
        by_cases hp1 : (R : Int) < 32
        · clear hp
          go_wp2_with (go_at_call 21; refine HCALL.out.mono ?_; rintro e w3 ⟨A3, c3, U3, HU3, rfl, h3, h3o, h3g⟩)
          obtain ⟨n1, n2, n3, n4, n5⟩ := HN.out w3 A3 c3 U3 HU3.out h3 h3o h3g
          exact ⟨⟨pos + K, A, c, L, A3, c3, U3, by omega, rfl, rfl, n1, n2, n3, n4⟩, n5⟩
        · have hp2 : 126 < (R : Int) := by omega
          clear hp
          go_wp2_with (go_at_call 21; refine HCALL.out.mono ?_; rintro e w3 ⟨A3, c3, U3, HU3, rfl, h3, h3o, h3g⟩)
          obtain ⟨n1, n2, n3, n4, n5⟩ := HN.out w3 A3 c3 U3 HU3.out h3 h3o h3g
          exact ⟨⟨pos + K, A, c, L, A3, c3, U3, by omega, rfl, rfl, n1, n2, n3, n4⟩, n5⟩
    · obtain rfl : pos = s.size := by omega
      have hnx := fun ty => Lib.run_next_end_at (P := Tryd.prog) wr w1.heap.size s s.size ty hit hlt
      have hinv := HI.out
      rw [List.drop_of_length_le (by rw [hlen]; exact Nat.le_refl _), U7.runes_nil, U7.encR] at hinv
      have HINV := Lib.hid hinv
      have hl0 : L.length ≤ 9 * s.size + 3 := by
        have h1 := congrArg List.length hinv
        rw [List.length_append] at h1
        have := HEL.out; omega
      have hU2 : U.length ≤ 8796093022208 := by have := HU.out; omega
      have HCALL := Lib.hid (appendSequence_any wr (.slice A L.length c) L HR.out.row (.slice Au U.length cu) U HR.out.urow HLT.out (by omega) hU2)
      clear hinv
      go_wp2_with fail
      refine HCALL.out.mono ?_
      rintro e w3 ⟨v3, rfl, h3, h3o, h3g⟩
      have hbel := (HR.out.stepB h3 h3o h3g).below
      have hconv := run_own_string (P := Tryd.prog) w3 30 9 5 Tryd.underlying30 Tryd.underlying5 Tryd.underlying9 0 v3 _ h3
      rw [HINV.out] at hconv
      clear h3 h3o h3g
      go_wp2
      go_ret2
      exact ⟨rfl, hbel⟩
end Go.Proofs.YtpjgacmcpbpklaaDoor
