/- The reference's EncodeName. -/
import Derived.Test.YtpjgacmcpbpklaaDoorUtfRSh
namespace Go.Proofs.YtpjgacmcpbpklaaDoor
open Go.RowKit
set_option linter.unusedVariables false

/-- A string's iterator at it, a row of ints vu; all of it new since w. -/
structure RangI (w : World) (it : Nat) (s : ByteArray) (pos : Nat) (vu : Value) (us : List Nat) (wr : World) : Prop where
  row : IRow wr vu us
  hit : wr.heap[it]? = some (.stringIter s pos)
  ge : w.heap.size ≤ it
  below : Below w.heap.size w wr
  far : ∀ k, k ∈ blk vu → w.heap.size ≤ k
section
variable {w wr W' : World} {it : Nat} {s : ByteArray} {pos : Nat} {vu vu' : Value} {us us' : List Nat}
theorem RangI.next (h : RangI w it s pos vu us wr) (p : Nat) : RangI w it s p vu us (wr.iterAt it s p) :=
  ⟨VRow.only h.row (only_iterAt wr it s p) (fun k hk => by rw [List.mem_singleton]; rintro rfl; exact VRow.noIter h.row h.hit hk), Lib.iterAt_heap wr it s pos p h.hit, h.ge, Lib.below_iterAt h.below h.ge s p, h.far⟩
theorem RangI.step (h : RangI w it s pos vu us wr) (hr : IRow W' vu' us') (ho : Only (blk vu) wr W') (hg : Grows (blk vu) (blk vu') wr) : RangI w it s pos vu' us' W' :=
  ⟨hr, (ho.block it (Array.getElem?_eq_some_iff.1 h.hit).1 (VRow.noIter h.row h.hit)).trans h.hit, h.ge, h.below.trans (ho.below h.below.size h.far), Ranging.grow h.far h.below.size hg⟩
theorem RangI.alloc (h : RangI w it s pos vu us wr) (o : Obj) : RangI w it s pos vu us (wr.alloc o) :=
  h.step (VRow.only h.row (S := []) ((Only.refl [] wr).alloc o) (fun _ _ hk => by cases hk)) ((Only.refl _ wr).alloc o) (Grows.refl _ _)
theorem RangI.empty (h : RangI w it s pos vu us wr) : RangI w it s pos (.slice none 0 0) [] wr := ⟨VRow.nil _ _, h.hit, h.ge, h.below, fun _ hk => by cases hk⟩
theorem RangI.lit (h : RangI w it s pos vu us wr) (xs : List Nat) (hp : 0 < xs.length) (hl : us.length + xs.length ≤ 10000000000000) (cs : Array Value) (hcs : cs = (iv xs).toArray) (n c : Nat) (hn : n = xs.length) :
    ∃ A' c' U W', Hid (U = us ++ xs) ∧ (Builtin.append_ #[40, 40] 40 #[vu, .slice (some ⟨wr.heap.size, 0, none⟩) n c]).run Tryd.prog (wr.alloc (.cells cs 3)) = .ok (.slice A' U.length c') W' ∧ Hid (RangI w it s pos (.slice A' U.length c') U W') := by
  subst hcs hn
  obtain ⟨v', w', hr, h2, h3, h4⟩ := vrow_lit (P := Tryd.prog) wr 40 40 3 (.int .i64 0) 8 Tryd.infoInt Tryd.underlying40 rfl vu (iv us) h.row (iv xs) (iv_one xs) (by rw [iv_length]; exact hp) (by rw [iv_length, iv_length]; omega) (by decide) xs.length c (by rw [iv_length])
  rw [← iv_append] at h2
  obtain ⟨A', c', rfl, _, _⟩ := IRow.shape h2
  exact ⟨A', c', _, w', Lib.hid rfl, hr, Lib.hid (h.step h2 h3 h4)⟩
end

/-- string([]byte{b}). -/
theorem conv_byte (w : World) (b : UInt8) (z : Int) (hz : z = (b.toNat : Int)) : (convert 30 9 (.slice (some ⟨w.heap.size, 0, none⟩) 1 1)).run Tryd.prog (w.alloc (.cells #[.int .u8 z] 5)) = .ok (.string ⟨#[b]⟩) (w.alloc (.cells #[.int .u8 z] 5)) := by
  subst hz
  have hs : Sees (w.alloc (.cells #[.int .u8 (b.toNat : Int)] 5)) (w.heap.size + 1) (some ⟨w.heap.size, 0, none⟩) [b] := Sees.new w 5 #[.int .u8 (b.toNat : Int)] [b] rfl
  exact run_sees_string (P := Tryd.prog) _ 30 9 5 Tryd.underlying30 Tryd.underlying5 Tryd.underlying9 hs 1 1 rfl
theorem ba_eq {a b : ByteArray} (h : a.data.toList = b.data.toList) : a = b := ByteArray.ext (Array.toList_inj.1 h)

set_option maxHeartbeats 800000 in
theorem rencode_no (s : ByteArray) (w : World) (hs : s.size ≤ 1000000) (hv : Lib.validD s.data.toList = false) :
    Calls Tryd.prog 14 #[.string s] w fun e w' => e = .returned (tup2 ⟨#[]⟩ 1) ∧ Below w.heap.size w w' := by
  have hc := rutf8_any s w (by omega)
  rw [hv] at hc
  have HC := Lib.hid hc
  clear hv hc
  go_enter Tryd.func14, Tryd.ntmps14
  go_wp2_with fail
  refine HC.out.mono ?_
  rintro e w1 ⟨rfl, hb⟩
  go_wp2
  go_ret2
  exact ⟨rfl, hb⟩

set_option maxHeartbeats 6400000 in
set_option maxRecDepth 100000 in
theorem rencode_ok (s : ByteArray) (w : World) (hs : s.size ≤ 1000000) (hv : Lib.validD s.data.toList = true) :
    Calls Tryd.prog 14 #[.string s] w fun e w' => e = .returned (tup2 ⟨(U7.enc s.data.toList).toArray⟩ 0) ∧ Below w.heap.size w w' := by
  have hc := rutf8_any s w (by omega)
  rw [hv] at hc
  have HC := Lib.hid hc
  have hel : (U7.enc s.data.toList).length ≤ 9 * s.size + 3 := U7.enc_len s.data.toList
  have HEL := Lib.hid hel
  have hlen : s.data.toList.length = s.size := rfl
  clear hv hc hel
  go_enter Tryd.func14, Tryd.ntmps14
  go_wp2_with fail
  refine HC.out.mono ?_
  rintro e w1 ⟨rfl, hb⟩
  clear HC
  go_wp2
  go_loopw [4, 5] (fun s4 s5 wr => ∃ (pos : Nat) (r : ByteArray) (Au : Option Addr) (cu : Nat) (U : List Nat), pos ≤ s.size ∧ s4 = .string r ∧ s5 = .slice Au U.length cu ∧
      Hid (RangI w w1.heap.size s pos (.slice Au U.length cu) U wr) ∧ Hid (U.length ≤ 2 * pos) ∧ Hid (∀ u ∈ U, u < 65536) ∧ Hid (r.data.toList ++ U7.encR (U7.runes (s.data.toList.drop pos)) U = U7.enc s.data.toList))
    (fun _ _ wr => s.size - wr.iterPos w1.heap.size)
  case atStart =>
    exact ⟨0, ⟨#[]⟩, none, 0, [], Nat.zero_le _, rfl, rfl, Lib.hid ⟨VRow.nil _ _, World.iter_heap w1 s 0, hb.size, hb.trans (((Below.refl w1.heap.size w1).alloc (Nat.le_refl _) _).mono hb.size), fun k hk => (by cases hk)⟩, Lib.hid (Nat.zero_le _), Lib.hid (by simp), Lib.hid rfl⟩
  case round =>
    obtain ⟨pos, r, Au, cu, U, hpos, rfl, rfl, HR, HU, HLT, HI⟩ := hrel
    have hit := HR.out.hit
    have hrz : r.size ≤ 9 * s.size + 3 := by
      have h1 := congrArg List.length HI.out
      rw [List.length_append] at h1
      have h2 : r.data.toList.length = r.size := rfl
      have := HEL.out; omega
    have hUz : U.length ≤ 2000000 := by have := HU.out; omega
    by_cases hlt : pos < s.size
    · have hnx := fun ty => Lib.run_next_any_at (P := Tryd.prog) wr w1.heap.size s pos ty hit hlt
      have hne : s.data.toList.drop pos ≠ [] := fun e => by
        have := congrArg List.length e
        rw [List.length_drop, hlen] at this; simp at this; omega
      have hstep := U7.runes_step _ hne
      have hle := Lib.decodeL_le _ hne
      have hw := Lib.decodeL_width (s.data.toList.drop pos)
      have hru := Lib.decodeL_rune (s.data.toList.drop pos)
      rw [Lib.decodeL_drop] at hstep hle hw hru
      rw [List.drop_drop] at hstep
      obtain ⟨R, hR⟩ : ∃ R, (Utf8.decode s pos).1 = R := ⟨_, rfl⟩
      obtain ⟨K, hK⟩ : ∃ K, (Utf8.decode s pos).2 = K := ⟨_, rfl⟩
      rw [hR, hK] at hnx hstep
      rw [hK] at hle hw
      rw [hR] at hru
      rw [List.length_drop, hlen] at hle
      have h2 := HR.out.next (pos + K)
      obtain ⟨W2, hW2⟩ : ∃ W2, wr.iterAt w1.heap.size s (pos + K) = W2 := ⟨_, rfl⟩
      rw [hW2] at hnx h2
      have H2 := Lib.hid h2
      have HST := Lib.hid hstep
      have hm1 : wr.iterPos w1.heap.size = pos := iterPos_at hit
      have HM := Lib.hid hm1
      clear h2 hstep hne hit hR hK hW2 hm1
      by_cases hp : 32 ≤ R ∧ R ≤ 126
      · have hpr : U7.pr R = true := U7.pr_iff.2 hp
        have HPR := Lib.hid hpr
        have hp1 : 32 ≤ (R : Int) := by omega
        have hp2 : (R : Int) ≤ 126 := by omega
        have cb : IntKind.u8.wrap (R : Int) = (R : Int) := by simp [IntKind.wrap, IntKind.bits, IntKind.signed]; omega
        obtain ⟨b, hb8⟩ : ∃ b : UInt8, b = UInt8.ofNat R := ⟨_, rfl⟩
        have HB9 : Hid ((b.toNat : Int) = (R : Int)) := Lib.hid (by rw [hb8, U7.byte_of R (by omega)])
        have HB8 := Lib.hid hb8
        have hR256 : R < 256 := by omega
        clear hpr hb8 hp
        by_cases hU0 : U = []
        · subst hU0
          have u0 : ¬ (0 : Int) < (([] : List Nat).length : Int) := by simp
          by_cases h38 : R = 38
          · have k38 : ((R : Int) == 38) = true := by rw [beq_iff_eq]; omega
            have HG := Lib.hid H2.out.empty
            have hinv : (r ++ ({ data := #[38, 45] } : ByteArray)).data.toList ++ U7.encR (U7.runes (s.data.toList.drop (pos + K))) [] = U7.enc s.data.toList := by
              rw [← HI.out, HST.out, U7.encR, if_pos HPR.out]
              simp [ByteArray.data_append, U7.plain, h38, U7.seq]
            have HINV := Lib.hid hinv
            have hms : s.size - W2.iterPos w1.heap.size < s.size - wr.iterPos w1.heap.size := by rw [iterPos_at HG.out.hit, HM.out]; omega
            have HMS := Lib.hid hms
            have zb : (({ data := #[38, 45] } : ByteArray).size) = 2 := rfl
            clear hms hinv h38
            go_wp2
            exact ⟨⟨pos + K, _, none, 0, [], by omega, rfl, rfl, HG, Lib.hid (by simp), Lib.hid (by simp), HINV⟩, HMS.out⟩
          · have k38 : ((R : Int) == 38) = false := by rw [beq_eq_false_iff_ne]; omega
            have HG := Lib.hid ((H2.out.alloc (.cells #[.int .u8 (R : Int)] 5)).empty)
            have hconv := conv_byte W2 b (R : Int) HB9.out.symm
            have hinv : (r ++ (⟨#[b]⟩ : ByteArray)).data.toList ++ U7.encR (U7.runes (s.data.toList.drop (pos + K))) [] = U7.enc s.data.toList := by
              rw [← HI.out, HST.out, U7.encR, if_pos HPR.out]
              have hb := HB8.out
              simp [ByteArray.data_append, U7.plain, h38, U7.seq, hb]
            have HINV := Lib.hid hinv
            have hms : s.size - (W2.alloc (.cells #[.int .u8 (R : Int)] 5)).iterPos w1.heap.size < s.size - wr.iterPos w1.heap.size := by rw [iterPos_at HG.out.hit, HM.out]; omega
            have HMS := Lib.hid hms
            have zb : ((⟨#[b]⟩ : ByteArray).size) = 1 := rfl
            clear hms hinv h38
            go_wp2
            exact ⟨⟨pos + K, _, none, 0, [], by omega, rfl, rfl, HG, Lib.hid (by simp), Lib.hid (by simp), HINV⟩, HMS.out⟩
        · have hUp : 0 < U.length := List.length_pos_iff.2 hU0
          have u0 : (0 : Int) < (U.length : Int) := by omega
          obtain ⟨sh, HSH, hsh⟩ := shifted_any Au U.length cu U W2 rfl (by obtain ⟨_, _, e, h1, _⟩ := IRow.shape H2.out.row; injection e with _ _ e; omega) (IRow.isees H2.out.row) HLT.out (by omega)
          have HSHC := Lib.hid hsh
          have hsq : U7.seq U = sh.data.toList := by rw [HSH.out]; unfold U7.seq; rw [if_neg hU0]
          have zsh : sh.size ≤ 20000000 := by
            have h1 := U7.seq_len U
            rw [hsq] at h1
            have h2 : sh.data.toList.length = sh.size := rfl
            omega
          clear hsh hU0
          by_cases h38 : R = 38
          · have k38 : ((R : Int) == 38) = true := by rw [beq_iff_eq]; omega
            have HG := Lib.hid H2.out.empty
            have hinv : ((r ++ sh) ++ ({ data := #[38, 45] } : ByteArray)).data.toList ++ U7.encR (U7.runes (s.data.toList.drop (pos + K))) [] = U7.enc s.data.toList := by
              rw [← HI.out, HST.out, U7.encR, if_pos HPR.out]
              simp [ByteArray.data_append, U7.plain, h38, hsq]
            have HINV := Lib.hid hinv
            have hms : s.size - W2.iterPos w1.heap.size < s.size - wr.iterPos w1.heap.size := by rw [iterPos_at HG.out.hit, HM.out]; omega
            have HMS := Lib.hid hms
            have zb : (({ data := #[38, 45] } : ByteArray).size) = 2 := rfl
            clear hms hinv h38
            go_wp2_with fail
            refine HSHC.out.mono ?_
            rintro e w4 ⟨rfl, rfl⟩
            go_wp2
            exact ⟨⟨pos + K, _, none, 0, [], by omega, rfl, rfl, HG, Lib.hid (by simp), Lib.hid (by simp), HINV⟩, HMS.out⟩
          · have k38 : ((R : Int) == 38) = false := by rw [beq_eq_false_iff_ne]; omega
            have HG := Lib.hid ((H2.out.alloc (.cells #[.int .u8 (R : Int)] 5)).empty)
            have hconv := conv_byte W2 b (R : Int) HB9.out.symm
            have hinv : ((r ++ sh) ++ (⟨#[b]⟩ : ByteArray)).data.toList ++ U7.encR (U7.runes (s.data.toList.drop (pos + K))) [] = U7.enc s.data.toList := by
              rw [← HI.out, HST.out, U7.encR, if_pos HPR.out]
              have hb := HB8.out
              simp [ByteArray.data_append, U7.plain, h38, hsq, hb]
            have HINV := Lib.hid hinv
            have hms : s.size - (W2.alloc (.cells #[.int .u8 (R : Int)] 5)).iterPos w1.heap.size < s.size - wr.iterPos w1.heap.size := by rw [iterPos_at HG.out.hit, HM.out]; omega
            have HMS := Lib.hid hms
            have zb : ((⟨#[b]⟩ : ByteArray).size) = 1 := rfl
            clear hms hinv h38
            go_wp2_with fail
            refine HSHC.out.mono ?_
            rintro e w4 ⟨rfl, rfl⟩
            go_wp2
            exact ⟨⟨pos + K, _, none, 0, [], by omega, rfl, rfl, HG, Lib.hid (by simp), Lib.hid (by simp), HINV⟩, HMS.out⟩
      · have hpr : U7.pr R = false := by rw [← Bool.not_eq_true, U7.pr_iff]; exact hp
        have HPR := Lib.hid hpr
        have hnext : ∀ (w3 : World) (A3 : Option Addr) (c3 : Nat) (U3 : List Nat), U3 = U ++ U7.unitsOf R → RangI w w1.heap.size s (pos + K) (.slice A3 U3.length c3) U3 w3 →
            (∃ (pos' : Nat) (r' : ByteArray) (Au : Option Addr) (cu : Nat) (U' : List Nat), pos' ≤ s.size ∧ (Value.string r = .string r') ∧ (Value.slice A3 U3.length c3 = .slice Au U'.length cu) ∧
              Hid (RangI w w1.heap.size s pos' (.slice Au U'.length cu) U' w3) ∧ Hid (U'.length ≤ 2 * pos') ∧ Hid (∀ u ∈ U', u < 65536) ∧ Hid (r'.data.toList ++ U7.encR (U7.runes (s.data.toList.drop pos')) U' = U7.enc s.data.toList)) ∧
            s.size - w3.iterPos w1.heap.size < s.size - wr.iterPos w1.heap.size := by
          intro w3 A3 c3 U3 e h4
          subst e
          refine ⟨⟨pos + K, r, A3, c3, _, by omega, rfl, rfl, Lib.hid h4, Lib.hid ?_, Lib.hid ?_, Lib.hid ?_⟩, ?_⟩
          · have := U7.unitsOf_len R
            have := HU.out
            rw [List.length_append]; omega
          · intro u hu
            rcases List.mem_append.1 hu with hu | hu
            · exact HLT.out u hu
            · exact U7.unitsOf_lt R (by omega) u hu
          · rw [← HI.out, HST.out, U7.encR, if_neg (by rw [HPR.out]; decide)]
          · rw [iterPos_at h4.hit, HM.out]; omega
        have HN := Lib.hid hnext
        clear hpr hnext
        by_cases h1 : R < 65536
        · have e1 : U7.unitsOf R = [R] := by unfold U7.unitsOf; rw [if_pos h1]
          obtain ⟨A', c', U3, w3, HU3, hrun, HR3⟩ := H2.out.lit [R] (by simp) (by simp; omega) #[.int .i64 (R : Int)] rfl 1 1 rfl
          have HRUN := Lib.hid hrun
          have HUE : Hid (U3 = U ++ U7.unitsOf R) := Lib.hid (by rw [HU3.out, e1])
          have k1 : ¬ 65535 < (R : Int) := by omega
          clear hrun e1
          by_cases hp1 : (R : Int) < 32
          · have hp1' : ¬ 32 ≤ (R : Int) := by omega
            clear hp
            go_wp2_with (at_builtin; refine wpList_append_run rfl _ _ 40 rfl _ (.slice Au U.length cu) (.slice (some ⟨W2.heap.size, 0, none⟩) 1 1) rfl rfl (.slice A' U3.length c') w3 (by exact HRUN.out) ?_)
            go_wp2
            exact HN.out w3 A' c' U3 HUE.out HR3.out
          · have hp1' : 32 ≤ (R : Int) := by omega
            have hp2 : ¬ (R : Int) ≤ 126 := by omega
            clear hp
            go_wp2_with (at_builtin; refine wpList_append_run rfl _ _ 40 rfl _ (.slice Au U.length cu) (.slice (some ⟨W2.heap.size, 0, none⟩) 1 1) rfl rfl (.slice A' U3.length c') w3 (by exact HRUN.out) ?_)
            go_wp2
            exact HN.out w3 A' c' U3 HUE.out HR3.out
        · have e1 : U7.unitsOf R = [55296 + (R - 65536) / 1024, 56320 + (R - 65536) % 1024] := by unfold U7.unitsOf; rw [if_neg h1]
          obtain ⟨d, hrd⟩ : ∃ d, R = d + 65536 := ⟨R - 65536, by omega⟩
          have hd : d < 1048576 := by omega
          have c2 : (R : Int) - 65536 = (d : Int) := by omega
          obtain ⟨hi, HHI⟩ : ∃ hi, Hid (hi = 55296 + (R - 65536) / 1024) := ⟨_, Lib.hid rfl⟩
          obtain ⟨lo, HLO⟩ : ∃ lo, Hid (lo = 56320 + (R - 65536) % 1024) := ⟨_, Lib.hid rfl⟩
          rw [← HHI.out, ← HLO.out] at e1
          obtain ⟨A', c', U3, w3, HU3, hrun, HR3⟩ := H2.out.lit [hi, lo] (by simp) (by simp; omega) #[.int .i64 (hi : Int), .int .i64 (lo : Int)] rfl 2 2 rfl
          have HRUN := Lib.hid hrun
          have HUE : Hid (U3 = U ++ U7.unitsOf R) := Lib.hid (by rw [HU3.out, e1])
          have k1 : 65535 < (R : Int) := by omega
          have hp1' : 32 ≤ (R : Int) := by omega
          have hp2 : ¬ (R : Int) ≤ 126 := by omega
          have c4 : 55296 + (d : Int) / 1024 = (hi : Int) := by rw [HHI.out]; omega
          have c5 : 56320 + (d : Int) % 1024 = (lo : Int) := by rw [HLO.out]; omega
          have c6 : hi < 65536 := by rw [HHI.out]; omega
          have c7 : lo < 65536 := by rw [HLO.out]; omega
          clear hrun e1 hp hrd h1
          go_wp2_with (at_builtin; refine wpList_append_run rfl _ _ 40 rfl _ (.slice Au U.length cu) (.slice (some ⟨W2.heap.size, 0, none⟩) 2 2) rfl rfl (.slice A' U3.length c') w3 (by exact HRUN.out) ?_)
          go_wp2
          exact HN.out w3 A' c' U3 HUE.out HR3.out
    · obtain rfl : pos = s.size := by omega
      have hnx := fun ty => Lib.run_next_end_at (P := Tryd.prog) wr w1.heap.size s s.size ty hit hlt
      have hinv := HI.out
      rw [List.drop_of_length_le (by rw [hlen]; exact Nat.le_refl _), U7.runes_nil, U7.encR] at hinv
      by_cases hU0 : U = []
      · subst hU0
        have u0 : ¬ (0 : Int) < (([] : List Nat).length : Int) := by simp
        have hr : r = ⟨(U7.enc s.data.toList).toArray⟩ := ba_eq (by rw [← hinv]; simp [U7.seq])
        have HRR := Lib.hid hr
        clear hinv hr
        go_wp2
        go_ret2
        exact ⟨by rw [← HRR.out]; rfl, HR.out.below⟩
      · have hUp : 0 < U.length := List.length_pos_iff.2 hU0
        have u0 : (0 : Int) < (U.length : Int) := by omega
        obtain ⟨sh, HSH, hsh⟩ := shifted_any Au U.length cu U wr rfl (by obtain ⟨_, _, e, h1, _⟩ := IRow.shape HR.out.row; injection e with _ _ e; omega) (IRow.isees HR.out.row) HLT.out (by omega)
        have HSHC := Lib.hid hsh
        have hsq : U7.seq U = sh.data.toList := by rw [HSH.out]; unfold U7.seq; rw [if_neg hU0]
        have zsh : sh.size ≤ 20000000 := by
          have h1 := U7.seq_len U
          rw [hsq] at h1
          have h2 : sh.data.toList.length = sh.size := rfl
          omega
        have hr : r ++ sh = ⟨(U7.enc s.data.toList).toArray⟩ := ba_eq (by rw [← hinv, hsq]; simp [ByteArray.data_append])
        have HRR := Lib.hid hr
        clear hinv hr hsh hU0
        go_wp2_with fail
        refine HSHC.out.mono ?_
        rintro e w4 ⟨rfl, rfl⟩
        go_wp2
        go_ret2
        exact ⟨by rw [← HRR.out]; rfl, HR.out.below⟩
end Go.Proofs.YtpjgacmcpbpklaaDoor
