/- appendDecoded, Decode. -/
import Derived.Test.YtpjgacmcpbpklaaDoorUtfTxt
import Derived.WalkSpells
namespace Go.Proofs.YtpjgacmcpbpklaaDoor
open Go.RowKit
set_option linter.unusedVariables false

theorem isEmpty_size (s : ByteArray) : s.toList = s.data.toList := Go.ByteArray.toList_eq s

set_option maxHeartbeats 1600000 in
set_option maxRecDepth 100000 in
theorem appendDecoded_any (B : Nat) (w : World) (v : Value) (l : List UInt8) (h : BRow w v l) (hf : ∀ k, k ∈ blk v → B ≤ k) (hB : B ≤ w.heap.size) (s : ByteArray) (hl : l.length ≤ 10000000000000) (hs : s.size ≤ 1000000000000) :
    Calls Tryd.prog 24 #[v, .string s] w (BFar B (l ++ U7.decSeq s.data.toList) w) := by
  obtain ⟨A0, c0, rfl, hc0, hm0⟩ := h.shape
  by_cases h0 : s.data.toList = []
  · have e : U7.decSeq s.data.toList = [38] := by unfold U7.decSeq; rw [if_pos h0]
    rw [e]
    have h1 : s.toList.isEmpty = true := by rw [isEmpty_size, h0]; rfl
    obtain ⟨A1, c1, L1, w1, HL1, hr1, h2⟩ := (RowAt.start h).one 38 38 rfl (by omega)
    have HR1 := Lib.hid hr1
    have hfin : BFar B (l ++ [38]) w (.returned (.slice A1 L1.length c1)) w1 := ⟨A1, c1, L1, HL1, rfl, h2.row, (fun k hk => by
        rcases h2.grows k hk with h8 | h8
        · exact hf k h8
        · omega), h2.only.below hB hf⟩
    have HFIN := Lib.hid hfin
    clear h h0 e hr1 h2 hfin hf
    go_enter Tryd.func24, Tryd.ntmps24
    go_wp2_with (at_builtin; refine wpList_append_run rfl _ _ 30 rfl _ (.slice A0 l.length c0) (.slice (some ⟨w.heap.size, 0, none⟩) 1 1) rfl rfl (.slice A1 L1.length c1) w1 (by exact HR1.out) ?_)
    go_wp2
    go_ret
    exact HFIN.out
  · have e : U7.decSeq s.data.toList = U7.text (U7.unp 0 0 (s.data.toList.map U7.sx)) := by unfold U7.decSeq; rw [if_neg h0]
    rw [e]
    have h1 : s.toList.isEmpty = false := by
      rw [isEmpty_size]
      cases hd : s.data.toList with
      | nil => exact absurd hd h0
      | cons a t => rfl
    have HB := Lib.hid h
    have HF := Lib.hid hf
    clear h h0 e hf
    go_enter Tryd.func24, Tryd.ntmps24
    go_wp2_with fail
    refine (unitsOf_any s w hs).mono ?_
    rintro e w1 ⟨Au, cu, U, HU, rfl, h2, h2f, h2b⟩
    have hul : ∀ u ∈ U, u < 65536 := by rw [HU.out]; exact U7.unp_lt _ 0 0
    have hun : U.length ≤ 1000000000000 := by
      have := U7.unp_len (s.data.toList.map U7.sx) 0 0
      rw [HU.out]
      rw [List.length_map] at this
      have h3 : s.data.toList.length = s.size := rfl
      omega
    have hb1 : BRow w1 (.slice A0 l.length c0) l := HB.out.only (S := []) (Only.of_below h2b) (fun _ _ h => by cases h)
    have HC := Lib.hid (appendText_any B w1 (.slice A0 l.length c0) l hb1 HF.out (Nat.le_trans hB h2b.size) (.slice Au U.length cu) U h2 hul hl hun)
    have HBE := Lib.hid (h2b.mono hB)
    clear h2 h2f h2b hul hun hb1
    go_wp2_with fail
    refine HC.out.mono ?_
    rintro e w2 ⟨A3, c3, L3, HL3, rfl, h3, h3f, h3b⟩
    go_wp2
    go_ret
    exact ⟨A3, c3, L3, Lib.hid (by rw [HL3.out, HU.out]), rfl, h3, h3f, HBE.out.trans h3b⟩

/-! ## strings.Cut at one byte -/
theorem index_one (c : UInt8) : ∀ (l : List UInt8), Lib.index l [c] = if c ∈ l then ((l.takeWhile (· != c)).length : Int) else -1
  | [] => by simp [Lib.index]
  | b :: t => by
    have ih := index_one c t
    have e : Lib.index (b :: t) [c] = if [c].isPrefixOf (b :: t) then 0 else if Lib.index t [c] == -1 then -1 else Lib.index t [c] + 1 := rfl
    have hp : [c].isPrefixOf (b :: t) = (c == b) := by simp [List.isPrefixOf]
    rw [e, hp, ih]
    by_cases h : b = c
    · subst h; simp
    · have h1 : (c == b) = false := beq_eq_false_iff_ne.2 (fun e => h e.symm)
      have h2 : (b != c) = true := by simp [h]
      rw [h1, List.takeWhile_cons, if_pos h2]
      by_cases hm : c ∈ t
      · have h3 : (((t.takeWhile (· != c)).length : Int) == -1) = false := by rw [beq_eq_false_iff_ne]; omega
        simp [hm, h3]
      · have h4 : ¬ c = b := fun e => h e.symm
        simp [hm, h4]
theorem take_while_take (c : UInt8) : ∀ l : List UInt8, l.take (l.takeWhile (· != c)).length = l.takeWhile (· != c)
  | [] => rfl
  | b :: t => by
    rw [List.takeWhile_cons]
    split
    · simp [take_while_take c t]
    · rfl
theorem drop_while_drop (c : UInt8) : ∀ l : List UInt8, l.drop ((l.takeWhile (· != c)).length + 1) = (l.dropWhile (· != c)).tail
  | [] => rfl
  | b :: t => by
    rw [List.takeWhile_cons, List.dropWhile_cons]
    split
    · simp [drop_while_drop c t]
    · simp
theorem take_while_all (c : UInt8) (l : List UInt8) (h : c ∉ l) : l.takeWhile (· != c) = l ∧ l.dropWhile (· != c) = [] := by
  have hall : ∀ a ∈ l, (a != c) = true := fun a ha => by
    rw [bne_iff_ne]; rintro rfl; exact h ha
  have h1 : l.takeWhile (· != c) = l := by
    induction l with
    | nil => rfl
    | cons b t ih =>
      rw [List.takeWhile_cons, if_pos (hall b (by simp)), ih (fun hm => h (by simp [hm])) (fun a ha => hall a (by simp [ha]))]
  have h2 := List.takeWhile_append_dropWhile (p := (· != c)) (l := l)
  rw [h1] at h2
  exact ⟨h1, by simpa using h2⟩
theorem cut_one (l : List UInt8) (c : UInt8) : Lib.cut l [c] = (l.takeWhile (· != c), (l.dropWhile (· != c)).tail, decide (c ∈ l)) := by
  unfold Lib.cut
  rw [index_one]
  by_cases h : c ∈ l
  · rw [if_pos h, if_pos (by omega)]
    have e : ((l.takeWhile (· != c)).length : Int).toNat = (l.takeWhile (· != c)).length := by omega
    rw [e, take_while_take, show [c].length = 1 from rfl, drop_while_drop, decide_eq_true h]
  · obtain ⟨h1, h2⟩ := take_while_all c l h
    rw [if_neg h, if_neg (by decide), h1, h2, decide_eq_false h]
    rfl
theorem dec_run : ∀ (p x : List UInt8), (∀ c ∈ p, c ≠ 38) → U7.dec (p ++ x) = p ++ U7.dec x
  | [], x, _ => rfl
  | c :: t, x, h => by
    show U7.dec (c :: (t ++ x)) = _
    rw [U7.dec, if_neg (h c (by simp)), dec_run t x (fun a ha => h a (by simp [ha]))]
    rfl
theorem takeWhile_ne (c : UInt8) : ∀ (l : List UInt8), ∀ x ∈ l.takeWhile (· != c), x ≠ c
  | [], x, h => by cases h
  | b :: t, x, h => by
    rw [List.takeWhile_cons] at h
    split at h
    · rename_i hb
      rcases List.mem_cons.1 h with rfl | h
      · simpa using hb
      · exact takeWhile_ne c t x h
    · cases h
theorem dec_cut (l : List UInt8) : U7.dec l = l.takeWhile (· != 38) ++ if 38 ∈ l then U7.decSeq (((l.dropWhile (· != 38)).tail).takeWhile (· != 45)) ++ U7.dec ((((l.dropWhile (· != 38)).tail).dropWhile (· != 45)).tail) else [] := by
  have hp : ∀ c ∈ l.takeWhile (· != 38), c ≠ 38 := takeWhile_ne 38 l
  have e := List.takeWhile_append_dropWhile (p := (· != (38 : UInt8))) (l := l)
  conv => lhs; rw [← e]
  rw [dec_run _ _ hp]
  congr 1
  by_cases h : 38 ∈ l
  · rw [if_pos h]
    cases hd : l.dropWhile (· != 38) with
    | nil =>
      rw [hd, List.append_nil] at e
      rw [← e] at h
      exact absurd rfl (hp 38 h)
    | cons b t =>
      have hb : b = 38 := by
        have h1 : l.dropWhile (· != 38) ≠ [] := by rw [hd]; simp
        have := List.head_dropWhile_not (p := (· != (38 : UInt8))) (l := l) h1
        simp only [hd, List.head_cons] at this
        simpa using this
      subst hb
      rw [U7.dec, if_pos rfl]
      rfl
  · rw [if_neg h, (take_while_all 38 l h).2, U7.dec]
theorem size_mk (l : List UInt8) : (⟨l.toArray⟩ : ByteArray).size = l.length := by show l.toArray.size = _; simp
theorem tail_size (c : UInt8) (l : List UInt8) : (l.dropWhile (· != c)).tail.length ≤ l.length ∧ (c ∈ l → (l.dropWhile (· != c)).tail.length < l.length) := by
  have h1 := congrArg List.length (List.takeWhile_append_dropWhile (p := (· != c)) (l := l))
  rw [List.length_append] at h1
  rw [List.length_tail]
  refine ⟨by omega, fun hc => ?_⟩
  cases l with
  | nil => cases hc
  | cons b t => simp only [List.length_cons] at h1 ⊢; omega

/-- strings.Cut at one byte. -/
theorem cutOne_any (s : ByteArray) (c : UInt8) (m : Int) (w : World) (hs : s.size ≤ 4000000000) (hm : w.cell? ⟨2, 0, none⟩ = some (.int .i64 m)) :
    Calls Tryd.prog 23 #[.string s, .string ⟨#[c]⟩] w fun e w' => e = .returned (.tuple #[.string ⟨(s.data.toList.takeWhile (· != c)).toArray⟩, .string ⟨((s.data.toList.dropWhile (· != c)).tail).toArray⟩, .bool (decide (c ∈ s.data.toList))]) ∧ ∃ n, w' = w.drewN n := by
  have := Tryd.strings_Cut s ⟨#[c]⟩ m w (by omega) hm
  rw [show (⟨#[c]⟩ : ByteArray).data.toList = [c] from rfl, cut_one] at this
  exact this

/-- Encode, whatever comes in. -/
theorem encode_any (s : ByteArray) (w : World) (hs : s.size ≤ 1000000000000) (hT : U8T w) : ∃ (t : ByteArray) (e : Nat), Hid (t = ⟨(if Lib.validD s.data.toList = true then U7.enc s.data.toList else []).toArray⟩) ∧ Hid (e = if Lib.validD s.data.toList = true then 0 else 1) ∧
    Calls Tryd.prog 9 #[.string s] w fun x w' => x = .returned (tup2 t e) ∧ Below w.heap.size w w' := by
  cases hv : Lib.validD s.data.toList with
  | true => exact ⟨_, _, Lib.hid rfl, Lib.hid rfl, by simpa using encode_ok s w hs hT hv⟩
  | false => exact ⟨_, _, Lib.hid rfl, Lib.hid rfl, by simpa using encode_no s w hs hT hv⟩

theorem bytes_ne (a b : ByteArray) : (a.toList != b.toList) = decide (a.data.toList ≠ b.data.toList) := by
  rw [isEmpty_size, isEmpty_size, Bool.eq_iff_iff]; simp

set_option maxHeartbeats 3200000 in
set_option maxRecDepth 100000 in
theorem decode_any (s : ByteArray) (w : World) (m : Int) (hs : s.size ≤ 100000000000 / 1000) (hT : U8T w) (hm : w.cell? ⟨2, 0, none⟩ = some (.int .i64 m)) :
    Calls Tryd.prog 10 #[.string s] w fun e w' => e = .returned (tup2 ⟨(U7.decode s.data.toList).1.toArray⟩ (U7.decode s.data.toList).2) ∧ Below w.heap.size w w' := by
  have hgm := World.block_lt_of_cell? w _ hm
  have HM := Lib.hid hm
  have HT := Lib.hid hT
  have hlen : s.data.toList.length = s.size := rfl
  have hdl := U7.dec_len s.data.toList.length s.data.toList (Nat.le_refl _)
  have HDL := Lib.hid hdl
  clear hm hT hdl
  go_enter Tryd.func10, Tryd.ntmps10
  go_wp2
  go_loopw [4, 5, 6] (fun s4 s5 s6 wr => ∃ (A : Option Addr) (c : Nat) (L : List UInt8) (r : ByteArray) (more : Bool), s4 = .slice A L.length c ∧ s5 = .string r ∧ s6 = .bool more ∧ r.size ≤ s.size ∧
      Hid (BRow wr (.slice A L.length c) L) ∧ Hid (∀ b, b ∈ blk (.slice A L.length c) → w.heap.size ≤ b) ∧ Hid (Below w.heap.size w wr) ∧ Hid ((L ++ if more = true then U7.dec r.data.toList else []) = U7.dec s.data.toList))
    (fun _ s5 s6 _ => match s5, s6 with | .string r, .bool b => r.size + (if b = true then 1 else 0) | _, _ => 0)
  case atStart =>
    exact ⟨none, 0, [], s, true, rfl, rfl, rfl, Nat.le_refl _, Lib.hid (BRow.nil _), Lib.hid (fun k hk => by cases hk), Lib.hid (Below.refl _ _), Lib.hid rfl⟩
  case round =>
    obtain ⟨A, c, L, r, more, rfl, rfl, rfl, hr, HRow, HFar, HBel, HInv⟩ := hrel
    cases more with
    | true =>
      have hmr := (HBel.out.cell (p := ⟨2, 0, none⟩) hgm).trans HM.out
      have hc1 := cutOne_any r 38 m wr (by omega) hmr
      have hsz := tail_size 38 r.data.toList
      have hdc := dec_cut r.data.toList
      have hinv : L ++ U7.dec r.data.toList = U7.dec s.data.toList := HInv.out
      obtain ⟨p, Hp⟩ : ∃ p : ByteArray, Hid (p = ⟨(r.data.toList.takeWhile (· != 38)).toArray⟩) := ⟨_, Lib.hid rfl⟩
      obtain ⟨r1, Hr1⟩ : ∃ r1 : ByteArray, Hid (r1 = ⟨((r.data.toList.dropWhile (· != 38)).tail).toArray⟩) := ⟨_, Lib.hid rfl⟩
      rw [← Hp.out, ← Hr1.out] at hc1
      have hpd : p.data.toList = r.data.toList.takeWhile (· != 38) := by rw [Hp.out]
      have hr1d : r1.data.toList = (r.data.toList.dropWhile (· != 38)).tail := by rw [Hr1.out]
      rw [← hpd, ← hr1d] at hdc
      rw [← hr1d] at hsz
      have hrs : r.data.toList.length = r.size := rfl
      have hr1s : r1.data.toList.length = r1.size := rfl
      rw [hrs, hr1s] at hsz
      have hpz : p.size ≤ s.size := by
        have h1 := congrArg List.length (List.takeWhile_append_dropWhile (p := (· != (38 : UInt8))) (l := r.data.toList))
        rw [List.length_append, ← hpd, hrs] at h1
        have h2 : p.data.toList.length = p.size := rfl
        omega
      have hLz : L.length ≤ 4 * s.size := by
        have h1 := congrArg List.length hinv
        rw [List.length_append] at h1
        have := HDL.out
        omega
      have hrow := HRow.out
      have HC1 := Lib.hid hc1
      have HINV := Lib.hid hinv
      have HDC := Lib.hid hdc
      have HMR := Lib.hid hmr
      have HR1D := Lib.hid hr1d
      clear hc1 hinv hdc hmr hpd hr1d hrs hr1s
      by_cases h38 : 38 ∈ r.data.toList
      · rw [decide_eq_true h38] at HC1
        have hr1lt := hsz.2 h38
        have hdc := HDC.out
        rw [if_pos h38] at hdc
        have HDC2 := Lib.hid hdc
        clear hdc h38 hsz HDC
        go_wp2_with fail
        refine HC1.out.mono ?_
        rintro e w1 ⟨rfl, q1, rfl⟩
        obtain ⟨v2, w2, hr2, h2, h2o, h2g⟩ := brow_str (wr.drewN q1) (.slice A L.length c) L hrow p (by omega) 30
        obtain ⟨A2, c2, rfl, _, _⟩ := h2.shape
        obtain ⟨L2, HL2⟩ : ∃ L2, Hid (L2 = L ++ p.data.toList) := ⟨_, Lib.hid rfl⟩
        rw [← HL2.out] at h2 hr2 h2g
        have HR2 := Lib.hid hr2
        have hb2 : Below w.heap.size w w2 := (below_drewN HBel.out q1).trans (h2o.below HBel.out.size HFar.out)
        have hf2 := Ranging.grow (w := w) (wr := wr.drewN q1) HFar.out HBel.out.size h2g
        have hm2 := (hb2.cell (p := ⟨2, 0, none⟩) hgm).trans HM.out
        have hc3 := cutOne_any r1 45 m w2 (by omega) hm2
        have hsz3 := tail_size 45 r1.data.toList
        obtain ⟨sq, Hsq⟩ : ∃ sq : ByteArray, Hid (sq = ⟨(r1.data.toList.takeWhile (· != 45)).toArray⟩) := ⟨_, Lib.hid rfl⟩
        obtain ⟨r3, Hr3⟩ : ∃ r3 : ByteArray, Hid (r3 = ⟨((r1.data.toList.dropWhile (· != 45)).tail).toArray⟩) := ⟨_, Lib.hid rfl⟩
        rw [← Hsq.out, ← Hr3.out] at hc3
        have hsqd : sq.data.toList = r1.data.toList.takeWhile (· != 45) := by rw [Hsq.out]
        have hr3d : r3.data.toList = (r1.data.toList.dropWhile (· != 45)).tail := by rw [Hr3.out]
        have hr3z : r3.size ≤ r1.size := by
          have h1 := hsz3.1
          rw [← hr3d] at h1
          exact h1
        have hsqz : sq.size ≤ s.size := by
          have h1 := congrArg List.length (List.takeWhile_append_dropWhile (p := (· != (45 : UInt8))) (l := r1.data.toList))
          rw [List.length_append, ← hsqd] at h1
          have h2 : sq.data.toList.length = sq.size := rfl
          have h3 : r1.data.toList.length = r1.size := rfl
          omega
        have hL2z : L2.length ≤ 5 * s.size := by
          rw [HL2.out, List.length_append]
          have : p.data.toList.length = p.size := rfl
          omega
        have HC3 := Lib.hid hc3
        have hdc2 := HDC2.out
        rw [← hsqd, ← hr3d] at hdc2
        have hinv2 : ∀ L4, L4 = L2 ++ U7.decSeq sq.data.toList → L4 ++ U7.dec r3.data.toList = U7.dec s.data.toList := fun L4 h4 => by
          rw [← HINV.out, hdc2, h4, HL2.out]; simp
        have HINV2 := Lib.hid hinv2
        have HRow2 := Lib.hid h2
        have HFar2 := Lib.hid hf2
        have HBel2 := Lib.hid hb2
        clear hr2 h2 h2o h2g hb2 hf2 hm2 hc3 hsz3 hsqd hr3d hdc2 hinv2 hrow
        go_wp2_with (at_builtin; refine wpList_append_run2 rfl _ _ 30 9 rfl _ (.slice A L.length c) (.string p) rfl rfl (.slice A2 L2.length c2) w2 (by exact HR2.out) ?_)
        refine HC3.out.mono ?_
        rintro e w3 ⟨rfl, q3, rfl⟩
        have hcall := appendDecoded_any w.heap.size (w2.drewN q3) (.slice A2 L2.length c2) L2 HRow2.out HFar2.out HBel2.out.size sq (by omega) (by omega)
        have HCALL := Lib.hid hcall
        clear hcall
        go_wp2_with fail
        refine HCALL.out.mono ?_
        rintro e w4 ⟨A4, c4, L4, HL4, rfl, h4, h4f, h4b⟩
        have hb4 : Below w.heap.size w w4 := (below_drewN HBel2.out q3).trans h4b
        go_wp2
        exact ⟨⟨A4, c4, L4, r3, true, rfl, rfl, rfl, by omega, Lib.hid h4, Lib.hid h4f, Lib.hid hb4, Lib.hid (HINV2.out L4 HL4.out)⟩, by show r3.size + 1 < r.size + 1; omega⟩
      · rw [decide_eq_false h38] at HC1
        have hdc := HDC.out
        rw [if_neg h38, List.append_nil] at hdc
        have HDC2 := Lib.hid hdc
        have hr1z : r1.size ≤ r.size := hsz.1
        have hr1e : r1.size = 0 := by
          have h1 : r1.data.toList.length = r1.size := rfl
          rw [HR1D.out, (take_while_all 38 _ h38).2] at h1
          exact h1.symm
        clear hdc h38 hsz HDC
        go_wp2_with fail
        refine HC1.out.mono ?_
        rintro e w1 ⟨rfl, q1, rfl⟩
        obtain ⟨v2, w2, hr2, h2, h2o, h2g⟩ := brow_str (wr.drewN q1) (.slice A L.length c) L hrow p (by omega) 30
        obtain ⟨A2, c2, rfl, _, _⟩ := h2.shape
        obtain ⟨L2, HL2⟩ : ∃ L2, Hid (L2 = L ++ p.data.toList) := ⟨_, Lib.hid rfl⟩
        rw [← HL2.out] at h2 hr2 h2g
        have HR2 := Lib.hid hr2
        have hb2 : Below w.heap.size w w2 := (below_drewN HBel.out q1).trans (h2o.below HBel.out.size HFar.out)
        have hf2 := Ranging.grow (w := w) (wr := wr.drewN q1) HFar.out HBel.out.size h2g
        have hinv2 : L2 ++ [] = U7.dec s.data.toList := by rw [← HINV.out, HDC2.out, HL2.out]; simp
        have HINV2 := Lib.hid hinv2
        have HRow2 := Lib.hid h2
        have HFar2 := Lib.hid hf2
        have HBel2 := Lib.hid hb2
        clear hr2 h2 h2o h2g hb2 hf2 hinv2 hrow
        go_wp2_with (at_builtin; refine wpList_append_run2 rfl _ _ 30 9 rfl _ (.slice A L.length c) (.string p) rfl rfl (.slice A2 L2.length c2) w2 (by exact HR2.out) ?_)
        go_wp2
        exact ⟨⟨A2, c2, L2, r1, false, rfl, rfl, rfl, by omega, HRow2, HFar2, HBel2, HINV2⟩, by show r1.size + 0 < r.size + 1; omega⟩
    | false =>
      have hinv : L = U7.dec s.data.toList := by have := HInv.out; simpa using this
      have HINV := Lib.hid hinv
      have hconv := run_own_string (P := Tryd.prog) wr 30 9 5 Tryd.underlying30 Tryd.underlying5 Tryd.underlying9 0 _ _ HRow.out
      have hTr := HT.out.below HBel.out
      have hLz : L.length ≤ 4 * s.size := by have := HDL.out; rw [hinv]; omega
      obtain ⟨tx, Htx⟩ : ∃ tx : ByteArray, Hid (tx = ⟨L.toArray⟩) := ⟨_, Lib.hid rfl⟩
      rw [← Htx.out] at hconv
      have htd : tx.data.toList = L := by rw [Htx.out]
      obtain ⟨t, er, Ht, He, hcall⟩ := encode_any tx wr (by rw [Htx.out, size_mk]; omega) hTr
      rw [htd] at Ht He
      have HCALL := Lib.hid hcall
      have HBE := Lib.hid HBel.out
      have hdc : U7.decode s.data.toList = if Lib.validD L = true ∧ U7.enc L = s.data.toList then (L, 0) else ([], 3) := by unfold U7.decode; rw [← hinv]
      have HDC := Lib.hid hdc
      clear hinv hTr hcall htd hdc
      by_cases hv : Lib.validD L = true
      · have ht1 := Ht.out
        have he1 := He.out
        rw [if_pos hv] at ht1 he1
        subst he1
        have k0 : ((0 : Int) != 0) = false := rfl
        by_cases hq : U7.enc L = s.data.toList
        · have hts : t = s := by rw [ht1, hq]
          subst hts
          have hne : (t.toList != t.toList) = false := by simp
          have HD : Hid (U7.decode t.data.toList = (L, 0)) := Lib.hid (by rw [HDC.out, if_pos ⟨hv, hq⟩])
          have HTX := Lib.hid Htx.out.symm
          clear ht1 hq hv
          go_wp2_with fail
          refine HCALL.out.mono ?_
          rintro e w1 ⟨rfl, hb1⟩
          unfold tup2
          go_wp2
          go_ret2
          exact ⟨by rw [HD.out, HTX.out]; rfl, HBE.out.trans (hb1.mono HBE.out.size)⟩
        · have hne : (t.toList != s.toList) = true := by rw [bytes_ne, ht1]; exact decide_eq_true hq
          have hne2 : (t.toList == s.toList) = false := by rw [bne, Bool.not_eq_true'] at hne; exact hne
          have HD : Hid (U7.decode s.data.toList = ([], 3)) := Lib.hid (by rw [HDC.out, if_neg (fun h => hq h.2)])
          clear ht1 hq hv
          go_wp2_with fail
          refine HCALL.out.mono ?_
          rintro e w1 ⟨rfl, hb1⟩
          unfold tup2
          go_wp2
          go_ret2
          exact ⟨by rw [HD.out]; rfl, HBE.out.trans (hb1.mono HBE.out.size)⟩
      · have he1 := He.out
        rw [if_neg hv] at he1
        subst he1
        have HD : Hid (U7.decode s.data.toList = ([], 3)) := Lib.hid (by rw [HDC.out, if_neg (fun h => hv h.1)])
        clear hv
        go_wp2_with fail
        refine HCALL.out.mono ?_
        rintro e w1 ⟨rfl, hb1⟩
        unfold tup2
        go_wp2
        go_ret2
        exact ⟨by rw [HD.out]; rfl, HBE.out.trans (hb1.mono HBE.out.size)⟩
end Go.Proofs.YtpjgacmcpbpklaaDoor
