/- What Encode, Decode make of the chapter's examples; awake. -/
import Derived.Test.YtpjgacmcpbpklaaDoorUtfMat
namespace Go.Proofs.YtpjgacmcpbpklaaDoor
open Go.RowKit
set_option linter.unusedVariables false

/-- What the walks ask of the world. -/
structure UW (w : World) : Prop where
  tabs : U8T w
  fold : AFold w
  max : ∃ m, w.cell? ⟨2, 0, none⟩ = some (.int .i64 m)
theorem UW.below {w w' : World} (h : UW w) (hb : Below w.heap.size w w') : UW w' := by
  obtain ⟨m, hm⟩ := h.max
  exact ⟨h.tabs.below hb, h.fold.below hb, m, (hb.cell (p := ⟨2, 0, none⟩) (World.block_lt_of_cell? w _ hm)).trans hm⟩

theorem enc_lit (s t : ByteArray) (hs : s.size ≤ 1000000000) (hv : Lib.validD s.data.toList = true) (he : U7.enc s.data.toList = t.data.toList) (w : World) (h : UW w) :
    Calls Tryd.prog 9 #[.string s] w fun e w' => e = .returned (.tuple #[.string t, .int .i64 0]) ∧ Below w.heap.size w w' := by
  have := encode_ok s w (by omega) h.tabs hv
  rw [he] at this
  exact this
theorem enc_bad (s : ByteArray) (hs : s.size ≤ 1000000000) (hv : Lib.validD s.data.toList = false) (w : World) (h : UW w) :
    Calls Tryd.prog 9 #[.string s] w fun e w' => e = .returned (.tuple #[.string ⟨#[]⟩, .int .i64 1]) ∧ Below w.heap.size w w' := encode_no s w (by omega) h.tabs hv
theorem dec_lit (s t : ByteArray) (n : Nat) (hs : s.size ≤ 1000000) (he : U7.decode s.data.toList = (t.data.toList, n)) (w : World) (h : UW w) :
    Calls Tryd.prog 10 #[.string s] w fun e w' => e = .returned (.tuple #[.string t, .int .i64 (n : Int)]) ∧ Below w.heap.size w w' := by
  obtain ⟨m, hm⟩ := h.max
  have := decode_any s w m (by omega) h.tabs hm
  rw [he] at this
  exact this
theorem good_lit (s : ByteArray) (r : Bool) (hs : s.size ≤ 1000000000) (hr : U7.good s.data.toList = r) (w : World) (h : UW w) :
    Calls Tryd.prog 12 #[.string s] w fun e w' => e = .returned (.bool r) ∧ Below w.heap.size w w' := by
  obtain ⟨m, hm⟩ := h.max
  rw [← hr]
  exact good_any s w m (by omega) h.tabs hm
theorem match_lit (p s : ByteArray) (r : Bool) (hp : p.size ≤ 1000000000) (hs : s.size ≤ 1000000000) (hr : U7.matchL p.data.toList s.data.toList = r) (w : World) (h : UW w) :
    Calls Tryd.prog 13 #[.string p, .string s] w fun e w' => e = .returned (.bool r) ∧ Below w.heap.size w w' := by
  rw [← hr]
  exact match_any p s w hp hs h.fold
theorem parent_lit (s t : ByteArray) (r : Bool) (hs : s.size ≤ 1000000000) (hr : U7.parent s.data.toList = (t.data.toList, r)) (w : World) :
    Calls Tryd.prog 11 #[.string s] w fun e w' => e = .returned (.tuple #[.string t, .bool r]) ∧ w' = w := by
  have := parent_any s w (by omega)
  rw [hr] at this
  exact this

/-! ## the examples -/
theorem enc_by (l : List UInt8) (R : List Nat) (h : U7.runes l = R) (x : List UInt8) (hx : U7.encR R [] = x) : U7.enc l = x := by unfold U7.enc; rw [h, hx]
theorem seq_by (us : List Nat) (S : List Nat) (x : List UInt8) (hn : us ≠ []) (h : U7.sext 0 0 us = S) (hx : 38 :: (S.map U7.letter ++ [45]) = x) : U7.seq us = x := by
  unfold U7.seq U7.b64
  rw [if_neg hn, h, hx]
theorem seq_none : U7.seq [] = [] := rfl
theorem enc_a : U7.enc [97, 38, 98] = [97, 38, 45, 98] := enc_by _ [97, 38, 98] (by decide +kernel) _ rfl
theorem seq_e : U7.seq [233] = [38, 65, 79, 107, 45] := seq_by _ [0, 14, 36] _ (by decide) (by rw [U7.sext0]; rfl) rfl
theorem enc_e : U7.enc [195, 169] = [38, 65, 79, 107, 45] := enc_by _ [233] (by decide +kernel) _ seq_e
theorem seq_ee : U7.seq [233, 233] = [38, 65, 79, 107, 65, 54, 81, 45] := seq_by _ [0, 14, 36, 0, 58, 16] _ (by decide) (by rw [U7.sext0, U7.sext4]; rfl) rfl
theorem enc_ee : U7.enc [195, 169, 195, 169] = [38, 65, 79, 107, 65, 54, 81, 45] := enc_by _ [233, 233] (by decide +kernel) _ seq_ee
theorem seq_s : U7.seq [55357, 56832] = [38, 50, 68, 51, 101, 65, 65, 45] := seq_by _ [54, 3, 55, 30, 0, 0] _ (by decide) (by rw [U7.sext0, U7.sext4]; rfl) rfl
theorem enc_s : U7.enc [240, 159, 152, 128] = [38, 50, 68, 51, 101, 65, 65, 45] := enc_by _ [128512] (by decide +kernel) _ seq_s
theorem dec_back (l x : List UInt8) (h : U7.enc l = x) (hv : Lib.validD l = true) : U7.decode x = (l, 0) := by
  have := (U7.dec_enc l hv).1
  rw [h] at this
  unfold U7.decode
  rw [this, if_pos ⟨hv, h⟩]
theorem dec_no (x l y : List UInt8) (h : U7.dec x = l) (he : U7.enc l = y) (hn : y ≠ x) : U7.decode x = ([], 3) := by
  unfold U7.decode
  rw [h, he, if_neg (fun h => hn h.2)]
theorem dec_nil : U7.dec [] = [] := by rw [U7.dec]
/-- A text of one sequence. -/
theorem dec_one (x q r : List UInt8) (l : List UInt8) (h1 : x.takeWhile (· != 38) = []) (h2 : 38 ∈ x) (h3 : ((x.dropWhile (· != 38)).tail).takeWhile (· != 45) = q) (h4 : (((x.dropWhile (· != 38)).tail).dropWhile (· != 45)).tail = r) (hq : U7.decSeq q = l) : U7.dec x = l ++ U7.dec r := by
  rw [dec_cut, h1, if_pos h2, h3, h4, hq]; rfl
theorem d1 : U7.decode [38, 65, 79, 107] = ([], 3) :=
  dec_no _ [195, 169] _ (by rw [dec_one _ [65, 79, 107] [] [195, 169] (by decide) (by decide) (by decide) (by decide) (by decide +kernel), dec_nil]; rfl) enc_e (by decide)
theorem enc_97 : U7.enc [97] = [97] := enc_by _ [97] (by decide +kernel) _ rfl
theorem d2 : U7.decode [38, 65, 71, 69, 45] = ([], 3) :=
  dec_no _ [97] _ (by rw [dec_one _ [65, 71, 69] [] [97] (by decide) (by decide) (by decide) (by decide) (by decide +kernel), dec_nil]; rfl) enc_97 (by decide)
theorem d3 : U7.decode [38, 65, 79, 107, 65, 45] = ([], 3) :=
  dec_no _ [195, 169] _ (by rw [dec_one _ [65, 79, 107, 65] [] [195, 169] (by decide) (by decide) (by decide) (by decide) (by decide +kernel), dec_nil]; rfl) enc_e (by decide)
theorem d4 : U7.decode [38, 65, 79, 107, 45, 38, 65, 79, 107, 45] = ([], 3) :=
  dec_no _ [195, 169, 195, 169] _ (by rw [dec_one _ [65, 79, 107] [38, 65, 79, 107, 45] [195, 169] (by decide) (by decide) (by decide) (by decide) (by decide +kernel), dec_one _ [65, 79, 107] [] [195, 169] (by decide) (by decide) (by decide) (by decide) (by decide +kernel), dec_nil]; rfl) enc_ee (by decide)
theorem d5 : U7.decode [38, 65, 79, 107, 45] = ([195, 169], 0) := dec_back _ _ enc_e (by decide +kernel)

set_option maxHeartbeats 1600000 in
set_option maxRecDepth 100000 in
theorem awake_any (w : World) (h : UW w) : Calls Tryd.prog 8 #[] w fun e w' => e = .returned (.bool true) ∧ Below w.heap.size w w' := by
  have H := Lib.hid h
  clear h
  go_enter Tryd.func8, Tryd.ntmps8
  go_wp2_with fail
  refine (enc_lit ⟨#[97, 38, 98]⟩ ⟨#[97, 38, 45, 98]⟩ (by decide) (by decide +kernel) enc_a _ H.out).mono ?_
  rintro e w1 ⟨rfl, b1⟩
  have H1 := Lib.hid (H.out.below b1)
  go_wp2_with fail
  refine (enc_lit ⟨#[195, 169]⟩ ⟨#[38, 65, 79, 107, 45]⟩ (by decide) (by decide +kernel) enc_e _ H1.out).mono ?_
  rintro e w2 ⟨rfl, b2⟩
  have H2 := Lib.hid (H1.out.below b2)
  go_wp2_with fail
  refine (dec_lit ⟨#[38, 65, 79, 107, 45]⟩ ⟨#[195, 169]⟩ 0 (by decide) d5 _ H2.out).mono ?_
  rintro e w3 ⟨rfl, b3⟩
  have H3 := Lib.hid (H2.out.below b3)
  go_wp2_with fail
  refine (good_lit ⟨#[97, 47, 98]⟩ true (by decide) (by decide +kernel) _ H3.out).mono ?_
  rintro e w4 ⟨rfl, b4⟩
  have H4 := Lib.hid (H3.out.below b4)
  go_wp2_with fail
  refine (match_lit ⟨#[42]⟩ ⟨#[97, 47, 98]⟩ true (by decide) (by decide) (by decide +kernel) _ H4.out).mono ?_
  rintro e w5 ⟨rfl, b5⟩
  go_wp2
  go_ret
  refine ⟨rfl, ?_⟩
  have c2 := b1.trans (b2.mono b1.size)
  have c3 := c2.trans (b3.mono c2.size)
  have c4 := c3.trans (b4.mono c3.size)
  exact c4.trans (b5.mono c4.size)
end Go.Proofs.YtpjgacmcpbpklaaDoor
