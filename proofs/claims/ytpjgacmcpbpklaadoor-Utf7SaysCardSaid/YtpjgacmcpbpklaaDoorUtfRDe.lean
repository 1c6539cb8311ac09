/- The reference's DecodeName. -/
import Derived.Test.YtpjgacmcpbpklaaDoorUtfRUn
import Derived.Laws.Cover4
namespace Go.Proofs.YtpjgacmcpbpklaaDoor
open Go.RowKit
set_option linter.unusedVariables false

theorem enc_valid (r : Nat) (h : r < 55296 ∨ (57343 < r ∧ r ≤ 1114111)) : Utf8.valid (r : Int) = true := by
  unfold Utf8.valid
  rw [Bool.or_eq_true, Bool.and_eq_true, Bool.and_eq_true, decide_eq_true_iff, decide_eq_true_iff, decide_eq_true_iff, decide_eq_true_iff]
  omega
theorem enc_invalid (r : Nat) (h : 55296 ≤ r ∧ r ≤ 57343) : Utf8.valid (r : Int) = false := by
  unfold Utf8.valid
  rw [← Bool.not_eq_true, Bool.or_eq_true, Bool.and_eq_true, Bool.and_eq_true, decide_eq_true_iff, decide_eq_true_iff, decide_eq_true_iff, decide_eq_true_iff]
  omega
def encOf (c : Nat) : ByteArray :=
  if c < 128 then ⟨#[UInt8.ofNat c]⟩
  else if c < 2048 then ⟨#[UInt8.ofNat (192 + c / 64), UInt8.ofNat (128 + c % 64)]⟩
  else if c < 65536 then ⟨#[UInt8.ofNat (224 + c / 4096), UInt8.ofNat (128 + c / 64 % 64), UInt8.ofNat (128 + c % 64)]⟩
  else ⟨#[UInt8.ofNat (240 + c / 262144), UInt8.ofNat (128 + c / 4096 % 64), UInt8.ofNat (128 + c / 64 % 64), UInt8.ofNat (128 + c % 64)]⟩
theorem encode_of (r : Int) : Utf8.encode r = encOf (if Utf8.valid r = true then r.toNat else 65533) := rfl
theorem toByte (n : Nat) (z : Int) (h : z = (n : Int)) : z.toNat.toUInt8 = UInt8.ofNat n := by subst h; simp
theorem encOf_eR (r : Nat) (h : r < 55296 ∨ (57343 < r ∧ r ≤ 1114111)) : (encOf r).data.toList = U7.eR r := by
  unfold U7.eR Lib.encodeRune encOf
  by_cases h1 : r < 128
  · rw [Lib.encodeRuneZ_one (by omega) (by omega), if_pos h1]
    simp only [List.map_cons, List.map_nil]
    rw [toByte r _ rfl]
  · rw [if_neg h1]
    by_cases h2 : r < 2048
    · rw [Lib.encodeRuneZ_two (by omega) (by omega), if_pos h2]
      simp only [List.map_cons, List.map_nil]
      rw [toByte (192 + r / 64) _ (by omega), toByte (128 + r % 64) _ (by omega)]
    · rw [if_neg h2]
      by_cases h3 : r < 65536
      · rw [Lib.encodeRuneZ_three (by omega), if_pos h3]
        simp only [List.map_cons, List.map_nil]
        rw [toByte (224 + r / 4096) _ (by omega), toByte (128 + r / 64 % 64) _ (by omega), toByte (128 + r % 64) _ (by omega)]
      · rw [Lib.encodeRuneZ_four (by omega) (by omega), if_neg h3]
        simp only [List.map_cons, List.map_nil]
        rw [toByte (240 + r / 262144) _ (by omega), toByte (128 + r / 4096 % 64) _ (by omega), toByte (128 + r / 64 % 64) _ (by omega), toByte (128 + r % 64) _ (by omega)]
theorem encode_eR (r : Nat) (hr : r ≤ 1114111) : (Utf8.encode (r : Int)).data.toList = U7.eR r := by
  rw [encode_of]
  by_cases hs : r < 55296 ∨ (57343 < r ∧ r ≤ 1114111)
  · rw [if_pos (enc_valid r hs), Int.toNat_natCast]
    exact encOf_eR r hs
  · rw [enc_invalid r (by omega), if_neg (by decide), encOf_eR 65533 (by omega)]
    have e1 : Lib.encodeRuneZ ((65533 : Nat) : Int) = [239, 191, 189] := by decide
    unfold U7.eR Lib.encodeRune
    rw [Lib.encodeRuneZ_bad (r := (r : Int)) (by omega), e1]
theorem runesBytes_one (z : Int) : runesBytes [z] = Utf8.encode z := by
  generalize hE : Utf8.encode z = E
  unfold runesBytes
  rw [List.foldl_cons, List.foldl_nil, hE, ByteArray.empty_append]
/-- string([]rune{r}). -/
theorem conv_rune' (w : World) (z : Int) :
    (convert 44 9 (.slice (some ⟨w.heap.size, 0, none⟩) 1 1)).run Tryd.prog (w.alloc (.cells #[.int .i32 z] 21)) = .ok (.string (runesBytes [z])) (w.alloc (.cells #[.int .i32 z] 21)) := by
  have hc : ∀ j, j < [z].length → (w.alloc (.cells #[.int .i32 z] 21)).cell? ((⟨w.heap.size, 0, none⟩ : Addr).add j) = some (.int .i32 ([z].getD j 0)) := fun j hj => by
    have : j = 0 := by simpa using hj
    subst this
    simp [Addr.add]
  exact run_convert_runes (P := Tryd.prog) _ 44 9 21 ⟨w.heap.size, 0, none⟩ 1 1 [z] (Nat.le_refl 1) Tryd.underlying44 Tryd.underlying21 Tryd.underlying9 hc
theorem conv_rune (w : World) (r : Nat) (hr : r ≤ 1114111) : ∃ t : ByteArray, t.data.toList = U7.eR r ∧ t.size ≤ 4 ∧
    (convert 44 9 (.slice (some ⟨w.heap.size, 0, none⟩) 1 1)).run Tryd.prog (w.alloc (.cells #[.int .i32 (r : Int)] 21)) = .ok (.string t) (w.alloc (.cells #[.int .i32 (r : Int)] 21)) := by
  refine ⟨runesBytes [(r : Int)], ?_, ?_, conv_rune' w (r : Int)⟩
  · rw [runesBytes_one]; exact encode_eR r hr
  · have h2 := runesBytes_size_le [(r : Int)]
    exact h2

/-! ## what decR makes of a piece -/
theorem decR_bad (c : UInt8) (t : List UInt8) (h : c.toNat < 32 ∨ 126 < c.toNat) : U7.decR (c :: t) = Option.none := by rw [U7.decR, if_pos h]
theorem decR_char (c : UInt8) (t : List UInt8) (h : ¬ (c.toNat < 32 ∨ 126 < c.toNat)) (h2 : c ≠ 38) : U7.decR (c :: t) = (U7.decR t).map (c :: ·) := by rw [U7.decR, if_neg h, if_pos h2]
theorem decR_open (t : List UInt8) (h : 45 ∉ t) : U7.decR (38 :: t) = none := by
  rw [U7.decR, if_neg (by decide), if_neg (by simp), if_pos (take_while_all 45 t h).2]
theorem decR_seq (q x : List UInt8) (h : ∀ c ∈ q, c ≠ 45) : U7.decR (38 :: (q ++ 45 :: x)) = if q.all U7.isL = true then (U7.decR x).map (U7.decSeq q ++ ·) else none := by
  by_cases hq : q.all U7.isL = true
  · rw [if_pos hq, U7.decR_amp q x h hq]
  · rw [if_neg hq, U7.decR, if_neg (by decide), if_neg (by simp), U7.take_of q x h, U7.drop_of q x h, if_neg (by simp), if_pos (by simpa using hq)]
theorem map_cons (o : Option (List UInt8)) (L : List UInt8) (c : UInt8) : (o.map (c :: ·)).map (L ++ ·) = o.map ((L ++ [c]) ++ ·) := by cases o <;> simp
theorem map_app (o : Option (List UInt8)) (L x : List UInt8) : (o.map (x ++ ·)).map (L ++ ·) = o.map ((L ++ x) ++ ·) := by cases o <;> simp

/-- A row of bytes and a row of ints, all of it new since w. -/
structure DW (w : World) (v : Value) (L : List UInt8) (vu : Value) (us : List Nat) (wr : World) : Prop where
  row : BRow wr v L
  irow : IRow wr vu us
  below : Below w.heap.size w wr
  far : ∀ k, k ∈ blk v → w.heap.size ≤ k
section
variable {w wr W' : World} {v v' vu : Value} {L L' : List UInt8} {us : List Nat}
theorem DW.step (h : DW w v L vu us wr) (hr : BRow W' v' L') (ho : Only (blk v) wr W') (hg : Grows (blk v) (blk v') wr) : DW w v' L' vu us W' :=
  ⟨hr, VRow.only h.irow ho (VRow.apart h.irow h.row.vrow (by decide)), h.below.trans (ho.below h.below.size h.far), Ranging.grow h.far h.below.size hg⟩
theorem DW.alloc (h : DW w v L vu us wr) (o : Obj) : DW w v L vu us (wr.alloc o) :=
  h.step (h.row.alloc o) ((Only.refl _ wr).alloc o) (Grows.refl _ _)
theorem DW.str (h : DW w v L vu us wr) (t : ByteArray) (hl : L.length + t.size ≤ 140737488355328) :
    ∃ A c L' W', Hid (L' = L ++ t.data.toList) ∧ (Builtin.append_ #[30, 9] 30 #[v, .string t]).run Tryd.prog wr = .ok (.slice A L'.length c) W' ∧ Hid (DW w (.slice A L'.length c) L' vu us W') := by
  obtain ⟨v', W', hr, h2, h3, h4⟩ := brow_str wr v L h.row t hl 30
  obtain ⟨A, c, rfl, _, _⟩ := h2.shape
  exact ⟨A, c, _, W', Lib.hid rfl, hr, Lib.hid (h.step h2 h3 h4)⟩
theorem DW.one (h : DW w v L vu us wr) (b : UInt8) (hl : L.length + 1 ≤ 140737488355328) :
    ∃ A c L' W', Hid (L' = L ++ [b]) ∧ (Builtin.append_ #[30, 30] 30 #[v, .slice (some ⟨wr.heap.size, 0, none⟩) 1 1]).run Tryd.prog (wr.alloc (.cells #[.int .u8 (b.toNat : Int)] 5)) = .ok (.slice A L'.length c) W' ∧ Hid (DW w (.slice A L'.length c) L' vu us W') := by
  obtain ⟨v', W', hr, h2, h3, h4⟩ := brow_one wr v L h.row b (b.toNat : Int) rfl hl 30
  obtain ⟨A, c, rfl, _, _⟩ := h2.shape
  exact ⟨A, c, _, W', Lib.hid rfl, hr, Lib.hid (h.step h2 h3 h4)⟩
end

theorem split_dash (l : List UInt8) (k m : Nat) (h1 : k + 1 ≤ m) (h2 : m < l.length) (h3 : l.getD m 0 = 45) (h4 : ∀ j, k + 1 ≤ j → j < m → l.getD j 0 ≠ 45) :
    l.drop (k + 1) = (l.drop (k + 1)).take (m - (k + 1)) ++ 45 :: l.drop (m + 1) ∧ ∀ c ∈ (l.drop (k + 1)).take (m - (k + 1)), c ≠ 45 := by
  refine ⟨?_, fun c hc => ?_⟩
  · have e : l.drop m = 45 :: l.drop (m + 1) := by
      rw [List.drop_eq_getElem_cons h2]
      congr 1
      rw [List.getD_eq_getElem?_getD, List.getElem?_eq_getElem h2] at h3
      exact h3
    rw [← e]
    have e2 : l.drop m = (l.drop (k + 1)).drop (m - (k + 1)) := by rw [List.drop_drop]; congr 1; omega
    rw [e2, List.take_append_drop]
  · obtain ⟨i, hi, rfl⟩ := List.getElem_of_mem hc
    rw [List.length_take, List.length_drop] at hi
    rw [List.getElem_take, List.getElem_drop]
    have := h4 (k + 1 + i) (by omega) (by omega)
    rw [List.getD_eq_getElem?_getD, List.getElem?_eq_getElem (by omega)] at this
    exact this
theorem no_dash (l : List UInt8) (k : Nat) (h4 : ∀ j, k + 1 ≤ j → j < l.length → l.getD j 0 ≠ 45) : 45 ∉ l.drop (k + 1) := fun hm => by
  obtain ⟨i, hi, e⟩ := List.getElem_of_mem hm
  rw [List.length_drop] at hi
  rw [List.getElem_drop] at e
  refine h4 (k + 1 + i) (by omega) (by omega) ?_
  rw [List.getD_eq_getElem?_getD, List.getElem?_eq_getElem (by omega)]
  exact e
/-- EncodeName, whatever comes in. -/
theorem rencode_any (s : ByteArray) (w : World) (hs : s.size ≤ 1000000) : ∃ (t : ByteArray) (e : Nat), Hid (t = ⟨(if Lib.validD s.data.toList = true then U7.enc s.data.toList else []).toArray⟩) ∧ Hid (e = if Lib.validD s.data.toList = true then 0 else 1) ∧
    Calls Tryd.prog 14 #[.string s] w fun x w' => x = .returned (tup2 t e) ∧ Below w.heap.size w w' := by
  cases hv : Lib.validD s.data.toList with
  | true => exact ⟨_, _, Lib.hid rfl, Lib.hid rfl, by simpa using rencode_ok s w hs hv⟩
  | false => exact ⟨_, _, Lib.hid rfl, Lib.hid rfl, by simpa using rencode_no s w hs hv⟩

set_option maxHeartbeats 12800000 in
set_option maxRecDepth 100000 in
theorem rdecode_any (s : ByteArray) (w : World) (hs : s.size ≤ 100000) :
    Calls Tryd.prog 15 #[.string s] w fun e w' => e = .returned (tup2 ⟨(U7.decodeR s.data.toList).1.toArray⟩ (U7.decodeR s.data.toList).2) ∧ Below w.heap.size w w' := by
  have hlen : s.data.toList.length = s.size := rfl
  obtain ⟨D, HD⟩ : ∃ D, Hid (D = U7.decR s.data.toList) := ⟨_, Lib.hid rfl⟩
  have hnone : D = none → U7.decodeR s.data.toList = ([], 3) := fun h => by
    rw [h] at HD
    unfold U7.decodeR
    rw [← HD.out]
  have HNONE := Lib.hid hnone
  clear hnone
  go_enter Tryd.func15, Tryd.ntmps15
  go_wp2
  go_loopw [4, 5] (fun s4 i wr => ∃ (k : Nat) (A : Option Addr) (c : Nat) (L : List UInt8), k ≤ s.size ∧ i = .int .i64 k ∧ s4 = .slice A L.length c ∧
      Hid (DW w (.slice A L.length c) L (.slice none 0 0) [] wr) ∧ Hid (L.length ≤ 4 * k) ∧ Hid ((U7.decR (s.data.toList.drop k)).map (L ++ ·) = D)) (fun _ i _ => s.size - (intOf i).toNat)
  case atStart =>
    refine ⟨0, none, 0, [], Nat.zero_le _, rfl, rfl, Lib.hid ⟨BRow.nil _, VRow.nil _ _, Below.refl _ _, fun k hk => (by cases hk)⟩, Lib.hid (Nat.zero_le _), Lib.hid ?_⟩
    rw [HD.out, List.drop_zero]
    cases U7.decR s.data.toList <;> rfl
  case round =>
    obtain ⟨k, A, c, L, hk, rfl, rfl, HW, HLen, HInv⟩ := hrel
    by_cases hlt : k < s.size
    · have hlt' : k < s.data.toList.length := by omega
      have hd : s.data.toList.drop k = s[k] :: s.data.toList.drop (k + 1) := List.drop_eq_getElem_cons (by rw [hlen]; exact hlt)
      obtain ⟨x, hx⟩ : ∃ x : UInt8, s[k] = x := ⟨_, rfl⟩
      rw [hx] at hd
      have HDR := Lib.hid hd
      have hLz : L.length ≤ 400000 := by have := HLen.out; omega
      clear hd
      by_cases hpr : x.toNat < 32 ∨ 126 < x.toNat
      · have hD : D = none := by
          rw [← HInv.out, HDR.out, decR_bad _ _ hpr]; rfl
        have HR := Lib.hid (HNONE.out hD)
        clear hD
        rcases hpr with h1 | h1
        · have k1 : (x.toNat : Int) < 32 := by omega
          clear h1
          go_wp2
          go_ret2
          exact ⟨by rw [HR.out]; rfl, HW.out.below⟩
        · have k0 : ¬ (x.toNat : Int) < 32 := by omega
          have k1 : 126 < (x.toNat : Int) := by omega
          clear h1
          go_wp2
          go_ret2
          exact ⟨by rw [HR.out]; rfl, HW.out.below⟩
      · have k0 : ¬ (x.toNat : Int) < 32 := by omega
        have k1 : ¬ 126 < (x.toNat : Int) := by omega
        by_cases h38 : x = 38
        · have k38 : ((x.toNat : Int) != 38) = false := by rw [h38]; rfl
          have hdr38 : s.data.toList.drop k = 38 :: s.data.toList.drop (k + 1) := by rw [HDR.out, h38]
          clear HDR
          have HDR := Lib.hid hdr38
          have h38n : x.toNat = 38 := by rw [h38]; rfl
          clear h38 hdr38 hpr
          go_wp2
          go_loop [6] (fun s6 => ∃ m : Nat, s6 = .int .i64 (m : Int) ∧ k + 1 ≤ m ∧ m ≤ s.size ∧ Hid (∀ j, k + 1 ≤ j → j < m → s.data.toList.getD j 0 ≠ 45)) (fun s6 => s.size - (intOf s6).toNat)
          case atStart => exact ⟨k + 1, by go_num, Nat.le_refl _, by omega, Lib.hid (fun j h1 h2 => by omega)⟩
          case round =>
            obtain ⟨m, rfl, hm1, hm2, HNO⟩ := hrel
            by_cases hml : m < s.size
            · obtain ⟨y, hy⟩ : ∃ y : UInt8, s[m] = y := ⟨_, rfl⟩
              have hyd : s.data.toList.getD m 0 = y := by rw [List.getD_eq_getElem?_getD, List.getElem?_eq_getElem (by omega)]; exact hy
              have HYD := Lib.hid hyd
              have hmz : (m : Int) < (s.size : Int) := by omega
              clear hyd
              by_cases hy45 : y = 45
              · have k45 : ((y.toNat : Int) != 45) = false := by rw [hy45]; rfl
                have hmn : ((m : Int) == (s.size : Int)) = false := by rw [beq_eq_false_iff_ne]; omega
                obtain ⟨hsp, hqn⟩ := split_dash s.data.toList k m hm1 (by omega) (by rw [HYD.out, hy45]) HNO.out
                obtain ⟨qq, Hqq⟩ : ∃ qq, Hid (qq = (s.data.toList.drop (k + 1)).take (m - (k + 1))) := ⟨_, Lib.hid rfl⟩
                rw [← Hqq.out] at hsp hqn
                have HSP := Lib.hid hsp
                have HQN := Lib.hid hqn
                clear hsp hqn hy45
                by_cases hmk : m = k + 1
                · have kmk : ((m : Int) == (k : Int) + 1) = true := by rw [beq_iff_eq]; omega
                  obtain ⟨A3, c3, L3, w3, HL3, hr3, HW3⟩ := HW.out.one 38 (by omega)
                  have HR3 := Lib.hid hr3
                  have HI3 : Hid ((U7.decR (s.data.toList.drop (m + 1))).map (L3 ++ ·) = D) := Lib.hid (by
                    have hq0 : qq = [] := by rw [Hqq.out, hmk]; simp
                    rw [← HInv.out, HDR.out, HSP.out, decR_seq _ _ HQN.out, hq0, if_pos (show ([] : List UInt8).all U7.isL = true from rfl), map_app, HL3.out]
                    rfl)
                  have HLE3 : Hid (L3.length ≤ 4 * (m + 1)) := Lib.hid (by rw [HL3.out, List.length_append]; have := HLen.out; simp; omega)
                  clear hr3 hmk
                  go_wp2_with (at_builtin; refine wpList_append_run rfl _ _ 30 rfl _ (.slice A L.length c) (.slice (some ⟨wr.heap.size, 0, none⟩) 1 1) rfl rfl (.slice A3 L3.length c3) w3 (by exact HR3.out) ?_)
                  go_wp2
                  go_roundw
                  case rel => exact ⟨m + 1, A3, c3, L3, by omega, by go_num, rfl, HW3, HLE3, HI3⟩
                  case measure => simp [intOf]; omega
                · have kmk : ((m : Int) == (k : Int) + 1) = false := by rw [beq_eq_false_iff_ne]; omega
                  obtain ⟨sq, hsq⟩ : ∃ sq, s.extract (k + 1) m = sq := ⟨_, rfl⟩
                  have hsqd : sq.data.toList = qq := by rw [← hsq, Lib.extract_data, Hqq.out]
                  have hqz : qq.length = m - (k + 1) := by rw [Hqq.out, List.length_take, List.length_drop]; omega
                  have hsqz : sq.size ≤ 100000 := by
                    have h1 := congrArg List.length hsqd
                    have h2 : sq.data.toList.length = sq.size := rfl
                    omega
                  have hcall := runits_any sq wr (by omega)
                  rw [hsqd] at hcall
                  have HCALL := Lib.hid hcall
                  have HQE : Hid (qq ≠ []) := Lib.hid (fun h => by rw [h] at hqz; simp at hqz; omega)
                  clear hsqd hcall
                  go_wp2_with fail
                  refine HCALL.out.mono ?_
                  rintro e w1 (⟨hall, rfl, hb1⟩ | ⟨hall, AU, cU, U, HU, rfl, irow, ufar, hb1⟩)
                  · have hD : D = none := by
                      rw [← HInv.out, HDR.out, HSP.out, decR_seq _ _ HQN.out, if_neg (by rw [hall]; decide)]; rfl
                    have HR := Lib.hid (HNONE.out hD)
                    have HBT := Lib.hid (HW.out.below.trans (hb1.mono HW.out.below.size))
                    clear hD hall
                    go_wp2
                    go_ret2
                    exact ⟨by rw [HR.out]; rfl, HBT.out⟩
                  · have HALL := Lib.hid hall
                    have HUL : Hid (∀ u ∈ U, u < 65536) := Lib.hid (by rw [HU.out]; exact U7.unp_lt _ _ _)
                    have HUZ : Hid (U.length ≤ m - (k + 1)) := Lib.hid (by rw [HU.out]; have := U7.unp_len (qq.map U7.sx) 0 0; rw [List.length_map, hqz] at this; exact this)
                    have huz : U.length ≤ 100000 := by have := HUZ.out; omega
                    have HW1 : Hid (DW w (.slice A L.length c) L (.slice AU U.length cU) U w1) := Lib.hid ⟨HW.out.row.only (Only.of_below (S := []) hb1) (fun k _ => by simp), irow, HW.out.below.trans (hb1.mono HW.out.below.size), HW.out.far⟩
                    clear hall irow ufar hb1
                    go_wp2
                    go_loopw [4, 9] (fun s4 s9 wr2 => ∃ (j : Nat) (A2 : Option Addr) (c2 : Nat) (L2 : List UInt8), j ≤ U.length ∧ s9 = .int .i64 j ∧ s4 = .slice A2 L2.length c2 ∧
                        Hid (DW w (.slice A2 L2.length c2) L2 (.slice AU U.length cU) U wr2) ∧ Hid (L2.length ≤ L.length + 4 * j) ∧ Hid (L2 ++ U7.text (U.drop j) = L ++ U7.text U)) (fun _ s9 _ => U.length - (intOf s9).toNat)
                    case atStart => exact ⟨0, A, c, L, Nat.zero_le _, rfl, rfl, HW1, Lib.hid (Nat.le_refl _), Lib.hid rfl⟩
                    case round =>
                        obtain ⟨j, A2, c2, L2, hj, rfl, rfl, HW2, HLen2, HInv2⟩ := hrel
                        by_cases hjl : j < U.length
                        · obtain ⟨gU, eU, _, _, _, hcell⟩ := IRow.form HW2.out.irow (by omega)
                          subst eU
                          obtain ⟨u0, Hu0⟩ : ∃ u0, Hid (u0 = U[j]) := ⟨_, Lib.hid rfl⟩
                          have hcu0 := hcell j hjl
                          rw [← Hu0.out] at hcu0
                          have hu0 : u0 < 65536 := by rw [Hu0.out]; exact HUL.out _ (List.getElem_mem hjl)
                          have hdrop : U.drop j = u0 :: U.drop (j + 1) := by rw [Hu0.out]; exact List.drop_eq_getElem_cons hjl
                          have HDROP := Lib.hid hdrop
                          have hjz : (j : Int) < (U.length : Int) := by omega
                          have hplain : ¬ U7.isHi u0 → U7.text (U.drop j) = U7.eR u0 ++ U7.text (U.drop (j + 1)) := fun h => by rw [HDROP.out, U7.text_one u0 _ h]; rfl
                          clear hdrop
                          by_cases hA1 : u0 < 55296
                          · have k1 : ¬ 55296 ≤ (u0 : Int) := by omega
                            have HTX := Lib.hid (hplain (by unfold U7.isHi; omega))
                            clear hplain hcell
                            obtain ⟨t, htd, htz, hcv⟩ := conv_rune wr u0 (by omega)
                            have hcw : IntKind.i32.wrap (u0 : Int) = (u0 : Int) := wrap_i32 _ (by omega) (by omega)
                            obtain ⟨A4, c4, L4, w4, HL4, hr4, HW4⟩ := (HW2.out.alloc (.cells #[.int .i32 (u0 : Int)] 21)).str t (by have := HLen2.out; omega)
                            have HR4 := Lib.hid hr4
                            have HE4 : Hid (L4 = L2 ++ U7.eR u0) := Lib.hid (by rw [HL4.out, htd])
                            have HLN4 : Hid (L4.length ≤ L.length + 4 * (j + 1)) := Lib.hid (by
                              rw [HE4.out, List.length_append]
                              have h1 := U7.encodeRune_len (u0 : Int)
                              have h2 := HLen2.out
                              unfold U7.eR
                              omega)
                            have HT4 : Hid (L4 ++ U7.text (U.drop (j + 1)) = L ++ U7.text U) := Lib.hid (by rw [← HInv2.out, HTX.out, HE4.out, List.append_assoc])
                            clear hr4 htd
                            go_wp2_with (at_builtin; refine wpList_append_run2 rfl _ _ 30 9 rfl _ (.slice A2 L2.length c2) (.string t) rfl rfl (.slice A4 L4.length c4) w4 (by exact HR4.out) ?_)
                            go_wp2
                            go_roundw
                            case rel => exact ⟨j + 1, A4, c4, L4, by omega, by go_num, rfl, HW4, HLN4, HT4⟩
                            case measure => simp [intOf]; omega
                          · by_cases hA2 : 56320 ≤ u0
                            · have k1 : 55296 ≤ (u0 : Int) := by omega
                              have k2 : ¬ (u0 : Int) < 56320 := by omega
                              have HTX := Lib.hid (hplain (by unfold U7.isHi; omega))
                              clear hplain hcell
                              obtain ⟨t, htd, htz, hcv⟩ := conv_rune wr u0 (by omega)
                              have hcw : IntKind.i32.wrap (u0 : Int) = (u0 : Int) := wrap_i32 _ (by omega) (by omega)
                              obtain ⟨A4, c4, L4, w4, HL4, hr4, HW4⟩ := (HW2.out.alloc (.cells #[.int .i32 (u0 : Int)] 21)).str t (by have := HLen2.out; omega)
                              have HR4 := Lib.hid hr4
                              have HE4 : Hid (L4 = L2 ++ U7.eR u0) := Lib.hid (by rw [HL4.out, htd])
                              have HLN4 : Hid (L4.length ≤ L.length + 4 * (j + 1)) := Lib.hid (by
                                rw [HE4.out, List.length_append]
                                have h1 := U7.encodeRune_len (u0 : Int)
                                have h2 := HLen2.out
                                unfold U7.eR
                                omega)
                              have HT4 : Hid (L4 ++ U7.text (U.drop (j + 1)) = L ++ U7.text U) := Lib.hid (by rw [← HInv2.out, HTX.out, HE4.out, List.append_assoc])
                              clear hr4 htd
                              go_wp2_with (at_builtin; refine wpList_append_run2 rfl _ _ 30 9 rfl _ (.slice A2 L2.length c2) (.string t) rfl rfl (.slice A4 L4.length c4) w4 (by exact HR4.out) ?_)
                              go_wp2
                              go_roundw
                              case rel => exact ⟨j + 1, A4, c4, L4, by omega, by go_num, rfl, HW4, HLN4, HT4⟩
                              case measure => simp [intOf]; omega
                            · have k1 : 55296 ≤ (u0 : Int) := by omega
                              have k2 : (u0 : Int) < 56320 := by omega
                              clear hplain
                              by_cases hB : j + 1 < U.length
                              · obtain ⟨u1, Hu1⟩ : ∃ u1, Hid (u1 = U[j + 1]) := ⟨_, Lib.hid rfl⟩
                                have hcu1 := hcell (j + 1) hB
                                rw [← Hu1.out] at hcu1
                                have hu1 : u1 < 65536 := by rw [Hu1.out]; exact HUL.out _ (List.getElem_mem hB)
                                have hdrop1 : U.drop (j + 1) = u1 :: U.drop (j + 2) := by rw [Hu1.out]; exact List.drop_eq_getElem_cons hB
                                have HDROP1 := Lib.hid hdrop1
                                have k3 : (j : Int) + 1 < (U.length : Int) := by omega
                                clear hdrop1 hcell
                                by_cases hC1 : u1 < 56320
                                · have k4 : ¬ 56320 ≤ (u1 : Int) := by omega
                                  have HTX : Hid (U7.text (U.drop j) = U7.eR u0 ++ U7.text (U.drop (j + 1))) := Lib.hid (by
                                    rw [HDROP.out, HDROP1.out, U7.text, if_neg (by rintro ⟨_, h⟩; unfold U7.isLo at h; omega)]; rfl)
                                  obtain ⟨t, htd, htz, hcv⟩ := conv_rune wr u0 (by omega)
                                  have hcw : IntKind.i32.wrap (u0 : Int) = (u0 : Int) := wrap_i32 _ (by omega) (by omega)
                                  obtain ⟨A4, c4, L4, w4, HL4, hr4, HW4⟩ := (HW2.out.alloc (.cells #[.int .i32 (u0 : Int)] 21)).str t (by have := HLen2.out; omega)
                                  have HR4 := Lib.hid hr4
                                  have HE4 : Hid (L4 = L2 ++ U7.eR u0) := Lib.hid (by rw [HL4.out, htd])
                                  have HLN4 : Hid (L4.length ≤ L.length + 4 * (j + 1)) := Lib.hid (by
                                    rw [HE4.out, List.length_append]
                                    have h1 := U7.encodeRune_len (u0 : Int)
                                    have h2 := HLen2.out
                                    unfold U7.eR
                                    omega)
                                  have HT4 : Hid (L4 ++ U7.text (U.drop (j + 1)) = L ++ U7.text U) := Lib.hid (by rw [← HInv2.out, HTX.out, HE4.out, List.append_assoc])
                                  clear hr4 htd
                                  go_wp2_with (at_builtin; refine wpList_append_run2 rfl _ _ 30 9 rfl _ (.slice A2 L2.length c2) (.string t) rfl rfl (.slice A4 L4.length c4) w4 (by exact HR4.out) ?_)
                                  go_wp2
                                  go_roundw
                                  case rel => exact ⟨j + 1, A4, c4, L4, by omega, by go_num, rfl, HW4, HLN4, HT4⟩
                                  case measure => simp [intOf]; omega
                                · by_cases hC2 : 57344 ≤ u1
                                  · have k4 : 56320 ≤ (u1 : Int) := by omega
                                    have k5 : ¬ (u1 : Int) < 57344 := by omega
                                    have HTX : Hid (U7.text (U.drop j) = U7.eR u0 ++ U7.text (U.drop (j + 1))) := Lib.hid (by
                                      rw [HDROP.out, HDROP1.out, U7.text, if_neg (by rintro ⟨_, h⟩; unfold U7.isLo at h; omega)]; rfl)
                                    obtain ⟨t, htd, htz, hcv⟩ := conv_rune wr u0 (by omega)
                                    have hcw : IntKind.i32.wrap (u0 : Int) = (u0 : Int) := wrap_i32 _ (by omega) (by omega)
                                    obtain ⟨A4, c4, L4, w4, HL4, hr4, HW4⟩ := (HW2.out.alloc (.cells #[.int .i32 (u0 : Int)] 21)).str t (by have := HLen2.out; omega)
                                    have HR4 := Lib.hid hr4
                                    have HE4 : Hid (L4 = L2 ++ U7.eR u0) := Lib.hid (by rw [HL4.out, htd])
                                    have HLN4 : Hid (L4.length ≤ L.length + 4 * (j + 1)) := Lib.hid (by
                                      rw [HE4.out, List.length_append]
                                      have h1 := U7.encodeRune_len (u0 : Int)
                                      have h2 := HLen2.out
                                      unfold U7.eR
                                      omega)
                                    have HT4 : Hid (L4 ++ U7.text (U.drop (j + 1)) = L ++ U7.text U) := Lib.hid (by rw [← HInv2.out, HTX.out, HE4.out, List.append_assoc])
                                    clear hr4 htd
                                    go_wp2_with (at_builtin; refine wpList_append_run2 rfl _ _ 30 9 rfl _ (.slice A2 L2.length c2) (.string t) rfl rfl (.slice A4 L4.length c4) w4 (by exact HR4.out) ?_)
                                    go_wp2
                                    go_roundw
                                    case rel => exact ⟨j + 1, A4, c4, L4, by omega, by go_num, rfl, HW4, HLN4, HT4⟩
                                    case measure => simp [intOf]; omega
                                  · have k4 : 56320 ≤ (u1 : Int) := by omega
                                    have k5 : (u1 : Int) < 57344 := by omega
                                    obtain ⟨d, Hd⟩ : ∃ d, Hid (d = u0 - 55296) := ⟨_, Lib.hid rfl⟩
                                    obtain ⟨p, Hp⟩ : ∃ p, Hid (p = 65536 + (u0 - 55296) * 1024 + (u1 - 56320)) := ⟨_, Lib.hid rfl⟩
                                    obtain ⟨q2, Hq2⟩ : ∃ q2, Hid (q2 = 65536 + d * 1024 + u1) := ⟨_, Lib.hid rfl⟩
                                    have m1 : (u0 : Int) - 55296 = (d : Int) := by rw [Hd.out]; omega
                                    have m2 : 65536 + (d : Int) * 1024 + (u1 : Int) = (q2 : Int) := by rw [Hq2.out]; omega
                                    have m3 : (q2 : Int) - 56320 = (p : Int) := by rw [Hq2.out, Hp.out, Hd.out]; omega
                                    have hp : p < 1114112 := by rw [Hp.out]; omega
                                    have hd4 : d < 1024 := by rw [Hd.out]; omega
                                    have hq4 : q2 < 1200000 := by rw [Hq2.out]; omega
                                    have HTX : Hid (U7.text (U.drop j) = U7.eR p ++ U7.text (U.drop (j + 2))) := Lib.hid (by
                                      rw [HDROP.out, HDROP1.out, U7.text, if_pos ⟨⟨by omega, by omega⟩, ⟨by omega, by omega⟩⟩, Hp.out]; rfl)
                                    obtain ⟨t, htd, htz, hcv⟩ := conv_rune wr p (by omega)
                                    have hcw : IntKind.i32.wrap (p : Int) = (p : Int) := wrap_i32 _ (by omega) (by omega)
                                    obtain ⟨A4, c4, L4, w4, HL4, hr4, HW4⟩ := (HW2.out.alloc (.cells #[.int .i32 (p : Int)] 21)).str t (by have := HLen2.out; omega)
                                    have HR4 := Lib.hid hr4
                                    have HE4 : Hid (L4 = L2 ++ U7.eR p) := Lib.hid (by rw [HL4.out, htd])
                                    have HLN4 : Hid (L4.length ≤ L.length + 4 * (j + 2)) := Lib.hid (by
                                      rw [HE4.out, List.length_append]
                                      have h1 := U7.encodeRune_len (p : Int)
                                      have h2 := HLen2.out
                                      unfold U7.eR
                                      omega)
                                    have HT4 : Hid (L4 ++ U7.text (U.drop (j + 2)) = L ++ U7.text U) := Lib.hid (by rw [← HInv2.out, HTX.out, HE4.out, List.append_assoc])
                                    clear hr4 htd
                                    go_wp2_with (at_builtin; refine wpList_append_run2 rfl _ _ 30 9 rfl _ (.slice A2 L2.length c2) (.string t) rfl rfl (.slice A4 L4.length c4) w4 (by exact HR4.out) ?_)
                                    go_wp2
                                    go_roundw
                                    case rel => exact ⟨j + 2, A4, c4, L4, by omega, by go_num, rfl, HW4, HLN4, HT4⟩
                                    case measure => simp [intOf]; omega
                              · have k3 : ¬ (j : Int) + 1 < (U.length : Int) := by omega
                                have HTX : Hid (U7.text (U.drop j) = U7.eR u0 ++ U7.text (U.drop (j + 1))) := Lib.hid (by
                                  have e0 : U.drop (j + 1) = [] := List.drop_of_length_le (by omega)
                                  rw [HDROP.out, e0]; simp [U7.text, U7.eR])
                                clear hcell
                                obtain ⟨t, htd, htz, hcv⟩ := conv_rune wr u0 (by omega)
                                have hcw : IntKind.i32.wrap (u0 : Int) = (u0 : Int) := wrap_i32 _ (by omega) (by omega)
                                obtain ⟨A4, c4, L4, w4, HL4, hr4, HW4⟩ := (HW2.out.alloc (.cells #[.int .i32 (u0 : Int)] 21)).str t (by have := HLen2.out; omega)
                                have HR4 := Lib.hid hr4
                                have HE4 : Hid (L4 = L2 ++ U7.eR u0) := Lib.hid (by rw [HL4.out, htd])
                                have HLN4 : Hid (L4.length ≤ L.length + 4 * (j + 1)) := Lib.hid (by
                                  rw [HE4.out, List.length_append]
                                  have h1 := U7.encodeRune_len (u0 : Int)
                                  have h2 := HLen2.out
                                  unfold U7.eR
                                  omega)
                                have HT4 : Hid (L4 ++ U7.text (U.drop (j + 1)) = L ++ U7.text U) := Lib.hid (by rw [← HInv2.out, HTX.out, HE4.out, List.append_assoc])
                                clear hr4 htd
                                go_wp2_with (at_builtin; refine wpList_append_run2 rfl _ _ 30 9 rfl _ (.slice A2 L2.length c2) (.string t) rfl rfl (.slice A4 L4.length c4) w4 (by exact HR4.out) ?_)
                                go_wp2
                                go_roundw
                                case rel => exact ⟨j + 1, A4, c4, L4, by omega, by go_num, rfl, HW4, HLN4, HT4⟩
                                case measure => simp [intOf]; omega
                        · obtain rfl : j = U.length := by omega
                          have hinv2 := HInv2.out
                          rw [List.drop_length, U7.text, List.append_nil] at hinv2
                          have HI5 : Hid ((U7.decR (s.data.toList.drop (m + 1))).map (L2 ++ ·) = D) := Lib.hid (by
                            rw [← HInv.out, HDR.out, HSP.out, decR_seq _ _ HQN.out, if_pos HALL.out, map_app, hinv2]
                            have hs : U7.decSeq qq = U7.text U := by unfold U7.decSeq; rw [if_neg HQE.out, HU.out]
                            rw [hs])
                          have HL5 : Hid (L2.length ≤ 4 * (m + 1)) := Lib.hid (by
                            have h1 := HLen2.out
                            have h2 := HLen.out
                            have h3 := HUZ.out
                            omega)
                          have HW5 : Hid (DW w (.slice A2 L2.length c2) L2 (.slice none 0 0) [] wr) := Lib.hid ⟨HW2.out.row, VRow.nil _ _, HW2.out.below, HW2.out.far⟩
                          have hjz : ¬ (U.length : Int) < (U.length : Int) := by omega
                          clear hinv2
                          go_wp2
                          go_roundw
                          case rel => exact ⟨m + 1, A2, c2, L2, by omega, by go_num, rfl, HW5, HL5, HI5⟩
                          case measure => simp [intOf]; omega
              · have k45 : ((y.toNat : Int) != 45) = true := by
                  rw [bne_iff_ne]; intro h; apply hy45; apply UInt8.toNat_inj.1; have : (45 : UInt8).toNat = 45 := rfl; omega
                have HNO2 : Hid (∀ j, k + 1 ≤ j → j < m + 1 → s.data.toList.getD j 0 ≠ 45) := Lib.hid fun j h1 h2 => by
                  by_cases hjm : j = m
                  · subst hjm; rw [HYD.out]; exact hy45
                  · exact HNO.out j h1 (by omega)
                clear hy45
                go_wp2
                go_round
                case rel => exact ⟨m + 1, by go_num, by omega, by omega, HNO2⟩
                case measure => simp [intOf]; omega
            · obtain rfl : m = s.size := by omega
              have hmz : ¬ (s.size : Int) < (s.size : Int) := by omega
              have hD : D = none := by
                rw [← HInv.out, HDR.out, decR_open _ (no_dash _ k (fun j h1 h2 => HNO.out j h1 (by omega)))]; rfl
              have HR := Lib.hid (HNONE.out hD)
              clear hD
              go_wp2
              go_ret2
              exact ⟨by rw [HR.out]; rfl, HW.out.below⟩
        · have k38 : ((x.toNat : Int) != 38) = true := by
            rw [bne_iff_ne]; intro h; apply h38; apply UInt8.toNat_inj.1; have : (38 : UInt8).toNat = 38 := rfl; omega
          obtain ⟨A3, c3, L3, w3, HL3, hr3, HW3⟩ := HW.out.one x (by omega)
          have HR3 := Lib.hid hr3
          have HI3 : Hid ((U7.decR (s.data.toList.drop (k + 1))).map (L3 ++ ·) = D) := Lib.hid (by
            rw [← HInv.out, HDR.out, decR_char _ _ hpr h38, map_cons, HL3.out])
          have HLE3 : Hid (L3.length ≤ 4 * (k + 1)) := Lib.hid (by rw [HL3.out, List.length_append]; have := HLen.out; simp; omega)
          clear hr3 hpr h38
          go_wp2_with (at_builtin; refine wpList_append_run rfl _ _ 30 rfl _ (.slice A L.length c) (.slice (some ⟨wr.heap.size, 0, none⟩) 1 1) rfl rfl (.slice A3 L3.length c3) w3 (by exact HR3.out) ?_)
          go_wp2
          go_roundw
          case rel => exact ⟨k + 1, A3, c3, L3, by omega, by go_num, rfl, HW3, HLE3, HI3⟩
          case measure => simp [intOf]; omega
    · obtain rfl : k = s.size := by omega
      have hinv := HInv.out
      rw [List.drop_of_length_le (by rw [hlen]; exact Nat.le_refl _), U7.decR] at hinv
      have hDL : D = some L := by rw [← hinv]; simp
      have hdc : U7.decodeR s.data.toList = if Lib.validD L = true ∧ U7.enc L = s.data.toList then (L, 0) else ([], 3) := by
        unfold U7.decodeR
        rw [← HD.out, hDL]
      have hconv := run_own_string (P := Tryd.prog) wr 30 9 5 Tryd.underlying30 Tryd.underlying5 Tryd.underlying9 0 _ _ HW.out.row
      have hLz : L.length ≤ 400000 := by have := HLen.out; omega
      obtain ⟨tx, Htx⟩ : ∃ tx : ByteArray, Hid (tx = ⟨L.toArray⟩) := ⟨_, Lib.hid rfl⟩
      rw [← Htx.out] at hconv
      have htd : tx.data.toList = L := by rw [Htx.out]
      obtain ⟨t, er, Ht, He, hcall⟩ := rencode_any tx wr (by rw [Htx.out, size_mk]; omega)
      rw [htd] at Ht He
      have HCALL := Lib.hid hcall
      have HBE := Lib.hid HW.out.below
      have HDC := Lib.hid hdc
      clear hinv hcall htd hdc hDL
      by_cases hv : Lib.validD L = true
      · have ht1 := Ht.out
        have he1 := He.out
        rw [if_pos hv] at ht1 he1
        subst he1
        have k0 : ((0 : Int) != 0) = false := rfl
        by_cases hq : U7.enc L = s.data.toList
        · have hts : t = s := by rw [ht1, hq]
          subst hts
          have hne : (t.toList != t.toList) = false := by simp
          have HD2 : Hid (U7.decodeR t.data.toList = (L, 0)) := Lib.hid (by rw [HDC.out, if_pos ⟨hv, hq⟩])
          have HTX := Lib.hid Htx.out.symm
          clear ht1 hq hv
          go_wp2_with fail
          refine HCALL.out.mono ?_
          rintro e w1 ⟨rfl, hb1⟩
          unfold tup2
          go_wp2
          go_ret2
          exact ⟨by rw [HD2.out, HTX.out]; rfl, HBE.out.trans (hb1.mono HBE.out.size)⟩
        · have hne : (t.toList != s.toList) = true := by rw [bytes_ne, ht1]; exact decide_eq_true hq
          have hne2 : (t.toList == s.toList) = false := by rw [bne, Bool.not_eq_true'] at hne; exact hne
          have HD2 : Hid (U7.decodeR s.data.toList = ([], 3)) := Lib.hid (by rw [HDC.out, if_neg (fun h => hq h.2)])
          clear ht1 hq hv
          go_wp2_with fail
          refine HCALL.out.mono ?_
          rintro e w1 ⟨rfl, hb1⟩
          unfold tup2
          go_wp2
          go_ret2
          exact ⟨by rw [HD2.out]; rfl, HBE.out.trans (hb1.mono HBE.out.size)⟩
      · have he1 := He.out
        rw [if_neg hv] at he1
        subst he1
        have HD2 : Hid (U7.decodeR s.data.toList = ([], 3)) := Lib.hid (by rw [HDC.out, if_neg (fun h => hv h.1)])
        clear hv
        go_wp2_with fail
        refine HCALL.out.mono ?_
        rintro e w1 ⟨rfl, hb1⟩
        unfold tup2
        go_wp2
        go_ret2
        exact ⟨by rw [HD2.out]; rfl, HBE.out.trans (hb1.mono HBE.out.size)⟩
end Go.Proofs.YtpjgacmcpbpklaaDoor
