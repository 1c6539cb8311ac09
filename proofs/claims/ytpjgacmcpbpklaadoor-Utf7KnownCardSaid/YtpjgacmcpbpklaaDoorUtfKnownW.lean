/- The walk of Utf7Known. -/
import Derived.Test.YtpjgacmcpbpklaaDoorUtfLit
namespace Go.Proofs.YtpjgacmcpbpklaaDoor
open Go.RowKit
set_option linter.unusedVariables false

set_option maxHeartbeats 6400000 in
set_option maxRecDepth 100000 in
theorem utf7Known_walk (w : World) (h : UW w) : Calls Tryd.prog 3 #[] w fun e w' => e = .returned (.bool true) ∧ Below w.heap.size w w' := by
  have H0 := Lib.hid h
  have B0 := Lib.hid (Below.refl w.heap.size w)
  clear h
  go_enter Tryd.func3, Tryd.ntmps3
  go_wp2_with fail
  refine (awake_any _ H0.out).mono ?_
  rintro e w1 ⟨rfl, b1⟩
  have H1 := Lib.hid (H0.out.below b1)
  have B1 := Lib.hid (B0.out.trans (b1.mono B0.out.size))
  clear b1 H0 B0
  go_wp2_with fail
  refine (enc_bad ⟨#[255]⟩ (by decide) (by decide +kernel) _ H1.out).mono ?_
  rintro e w2 ⟨rfl, b2⟩
  have H2 := Lib.hid (H1.out.below b2)
  have B2 := Lib.hid (B1.out.trans (b2.mono B1.out.size))
  clear b2 H1 B1
  go_wp2_with fail
  refine (dec_lit ⟨#[38, 65, 79, 107]⟩ ⟨#[]⟩ 3 (by decide) d1 _ H2.out).mono ?_
  rintro e w3 ⟨rfl, b3⟩
  have H3 := Lib.hid (H2.out.below b3)
  have B3 := Lib.hid (B2.out.trans (b3.mono B2.out.size))
  clear b3 H2 B2
  go_wp2_with fail
  refine (dec_lit ⟨#[38, 65, 71, 69, 45]⟩ ⟨#[]⟩ 3 (by decide) d2 _ H3.out).mono ?_
  rintro e w4 ⟨rfl, b4⟩
  have H4 := Lib.hid (H3.out.below b4)
  have B4 := Lib.hid (B3.out.trans (b4.mono B3.out.size))
  clear b4 H3 B3
  go_wp2_with fail
  refine (dec_lit ⟨#[38, 65, 79, 107, 65, 45]⟩ ⟨#[]⟩ 3 (by decide) d3 _ H4.out).mono ?_
  rintro e w5 ⟨rfl, b5⟩
  have H5 := Lib.hid (H4.out.below b5)
  have B5 := Lib.hid (B4.out.trans (b5.mono B4.out.size))
  clear b5 H4 B4
  go_wp2_with fail
  refine (dec_lit ⟨#[38, 65, 79, 107, 45, 38, 65, 79, 107, 45]⟩ ⟨#[]⟩ 3 (by decide) d4 _ H5.out).mono ?_
  rintro e w6 ⟨rfl, b6⟩
  have H6 := Lib.hid (H5.out.below b6)
  have B6 := Lib.hid (B5.out.trans (b6.mono B5.out.size))
  clear b6 H5 B5
  go_wp2_with fail
  refine (enc_lit ⟨#[195, 169, 195, 169]⟩ ⟨#[38, 65, 79, 107, 65, 54, 81, 45]⟩ (by decide) (by decide +kernel) enc_ee _ H6.out).mono ?_
  rintro e w7 ⟨rfl, b7⟩
  have H7 := Lib.hid (H6.out.below b7)
  have B7 := Lib.hid (B6.out.trans (b7.mono B6.out.size))
  clear b7 H6 B6
  go_wp2_with fail
  refine (enc_lit ⟨#[240, 159, 152, 128]⟩ ⟨#[38, 50, 68, 51, 101, 65, 65, 45]⟩ (by decide) (by decide +kernel) enc_s _ H7.out).mono ?_
  rintro e w8 ⟨rfl, b8⟩
  have H8 := Lib.hid (H7.out.below b8)
  have B8 := Lib.hid (B7.out.trans (b8.mono B7.out.size))
  clear b8 H7 B7
  go_wp2_with fail
  refine (parent_lit ⟨#[97, 47, 98, 47, 99]⟩ ⟨#[97, 47, 98]⟩ true (by decide) (by decide +kernel) _).mono ?_
  rintro e w8x ⟨rfl, rfl⟩
  go_wp2_with fail
  refine (parent_lit ⟨#[97]⟩ ⟨#[]⟩ false (by decide) (by decide +kernel) _).mono ?_
  rintro e w8x ⟨rfl, rfl⟩
  go_wp2_with fail
  refine (good_lit ⟨#[]⟩ false (by decide) (by decide +kernel) _ H8.out).mono ?_
  rintro e w9 ⟨rfl, b9⟩
  have H9 := Lib.hid (H8.out.below b9)
  have B9 := Lib.hid (B8.out.trans (b9.mono B8.out.size))
  clear b9 H8 B8
  go_wp2_with fail
  refine (good_lit ⟨#[47, 97]⟩ false (by decide) (by decide +kernel) _ H9.out).mono ?_
  rintro e w10 ⟨rfl, b10⟩
  have H10 := Lib.hid (H9.out.below b10)
  have B10 := Lib.hid (B9.out.trans (b10.mono B9.out.size))
  clear b10 H9 B9
  go_wp2_with fail
  refine (good_lit ⟨#[97, 47, 47, 98]⟩ false (by decide) (by decide +kernel) _ H10.out).mono ?_
  rintro e w11 ⟨rfl, b11⟩
  have H11 := Lib.hid (H10.out.below b11)
  have B11 := Lib.hid (B10.out.trans (b11.mono B10.out.size))
  clear b11 H10 B10
  go_wp2_with fail
  refine (good_lit ⟨#[97, 42]⟩ false (by decide) (by decide +kernel) _ H11.out).mono ?_
  rintro e w12 ⟨rfl, b12⟩
  have H12 := Lib.hid (H11.out.below b12)
  have B12 := Lib.hid (B11.out.trans (b12.mono B11.out.size))
  clear b12 H11 B11
  go_wp2_with fail
  refine (good_lit ⟨#[97, 127]⟩ false (by decide) (by decide +kernel) _ H12.out).mono ?_
  rintro e w13 ⟨rfl, b13⟩
  have H13 := Lib.hid (H12.out.below b13)
  have B13 := Lib.hid (B12.out.trans (b13.mono B12.out.size))
  clear b13 H12 B12
  go_wp2_with fail
  refine (match_lit ⟨#[37]⟩ ⟨#[97, 47, 98]⟩ false (by decide) (by decide) (by decide +kernel) _ H13.out).mono ?_
  rintro e w14 ⟨rfl, b14⟩
  have H14 := Lib.hid (H13.out.below b14)
  have B14 := Lib.hid (B13.out.trans (b14.mono B13.out.size))
  clear b14 H13 B13
  go_wp2_with fail
  refine (match_lit ⟨#[37, 47, 98]⟩ ⟨#[97, 47, 98]⟩ true (by decide) (by decide) (by decide +kernel) _ H14.out).mono ?_
  rintro e w15 ⟨rfl, b15⟩
  have H15 := Lib.hid (H14.out.below b15)
  have B15 := Lib.hid (B14.out.trans (b15.mono B14.out.size))
  clear b15 H14 B14
  go_wp2_with fail
  refine (match_lit ⟨#[105, 110, 98, 111, 120]⟩ ⟨#[73, 78, 66, 79, 88]⟩ true (by decide) (by decide) (by decide +kernel) _ H15.out).mono ?_
  rintro e w16 ⟨rfl, b16⟩
  have H16 := Lib.hid (H15.out.below b16)
  have B16 := Lib.hid (B15.out.trans (b16.mono B15.out.size))
  clear b16 H15 B15
  go_wp2_with fail
  refine (match_lit ⟨#[73, 78, 66, 79, 88]⟩ ⟨#[105, 110, 66, 111, 120]⟩ true (by decide) (by decide) (by decide +kernel) _ H16.out).mono ?_
  rintro e w17 ⟨rfl, b17⟩
  have H17 := Lib.hid (H16.out.below b17)
  have B17 := Lib.hid (B16.out.trans (b17.mono B16.out.size))
  clear b17 H16 B16
  go_wp2_with fail
  refine (match_lit ⟨#[97]⟩ ⟨#[65]⟩ false (by decide) (by decide) (by decide +kernel) _ H17.out).mono ?_
  rintro e w18 ⟨rfl, b18⟩
  have H18 := Lib.hid (H17.out.below b18)
  have B18 := Lib.hid (B17.out.trans (b18.mono B17.out.size))
  clear b18 H17 B17
  go_wp2_with fail
  refine (match_lit ⟨#[]⟩ ⟨#[]⟩ true (by decide) (by decide) (by decide +kernel) _ H18.out).mono ?_
  rintro e w19 ⟨rfl, b19⟩
  have H19 := Lib.hid (H18.out.below b19)
  have B19 := Lib.hid (B18.out.trans (b19.mono B18.out.size))
  clear b19 H18 B18
  go_wp2_with fail
  refine (match_lit ⟨#[97, 42, 99, 42]⟩ ⟨#[97, 98, 99, 100]⟩ true (by decide) (by decide) (by decide +kernel) _ H19.out).mono ?_
  rintro e w20 ⟨rfl, b20⟩
  have H20 := Lib.hid (H19.out.below b20)
  have B20 := Lib.hid (B19.out.trans (b20.mono B19.out.size))
  clear b20 H19 B19
  go_wp2_with fail
  refine (match_lit ⟨#[105, 110, 98, 42]⟩ ⟨#[73, 78, 66, 79, 88]⟩ false (by decide) (by decide) (by decide +kernel) _ H20.out).mono ?_
  rintro e w21 ⟨rfl, b21⟩
  have H21 := Lib.hid (H20.out.below b21)
  have B21 := Lib.hid (B20.out.trans (b21.mono B20.out.size))
  clear b21 H20 B20
  go_wp2
  go_ret
  exact ⟨rfl, B21.out⟩
end Go.Proofs.YtpjgacmcpbpklaaDoor
