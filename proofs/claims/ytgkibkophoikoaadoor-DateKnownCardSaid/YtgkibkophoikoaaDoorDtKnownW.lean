/- DateKnown: the walk. -/
import Derived.Test.YtgkibkophoikoaaDoorDtBackW
import Derived.Test.YtgkibkophoikoaaDoorDtDaysW
namespace Go.Proofs.YtgkibkophoikoaaDoor
open Go.RowKit
set_option linter.unusedSimpArgs false
set_option linter.unusedVariables false
set_option maxRecDepth 100000

instance (p : List UInt8) : Decidable (Dt.DayC p) := by unfold Dt.DayC; infer_instance
theorem day_lit (s p : List UInt8) (hp : Dt.Pad s p) (hc : Dt.DayC p) (n : Nat) (y m k : Nat) (hy : Oct.numTo (p.drop 7) = y) (hm : Dt.mon ((p.drop 3).take 3) = m) (hk : Oct.numTo (p.take 2) = k) (hn : Dt.num y m k = n) : Dt.DayR s (some n) := by
  have := (Dt.day_of hp hc).1
  rw [hy, hm, hk, hn] at this
  exact this
theorem parse_no (s : List UInt8) (h : Dt.shown (Dt.cand s) ≠ s) : Dt.ParseR s none := Dt.ParseR.cand_no h
theorem u_2000 : Dt.unix ⟨2000, 2, 29, 23, 59, 59, -90⟩ = 951874199 := unix_is 2000 2 29 23 59 59 (-90) 11016 951874199 (num_is _ _ _ _ (by decide +kernel)) (by decide)
theorem u_day0 : Dt.unix ⟨1970, 1, 1, 0, 0, 0, 60⟩ = -3600 := unix_is 1970 1 1 0 0 0 60 0 (-3600) (num_is _ _ _ _ (by decide +kernel)) (by decide)
theorem u_last : Dt.unix ⟨9999, 12, 31, 23, 59, 59, 0⟩ = 253402300799 := unix_is 9999 12 31 23 59 59 0 2932896 253402300799 (num_is _ _ _ _ (by decide +kernel)) (by decide)
theorem kn0 : Dt.ParseR [50, 57, 45, 70, 101, 98, 45, 50, 48, 48, 48, 32, 50, 51, 58, 53, 57, 58, 53, 57, 32, 45, 48, 49, 51, 48] (some ⟨2000, 2, 29, 23, 59, 59, -90⟩) := ⟨by decide +kernel, by decide +kernel⟩
theorem kn1 : Dt.ParseR [50, 57, 45, 70, 101, 98, 45, 50, 49, 48, 48, 32, 48, 48, 58, 48, 48, 58, 48, 48, 32, 43, 48, 48, 48, 48] none := parse_no _ (by decide +kernel)
theorem kn2 : Dt.ParseR [48, 49, 45, 74, 97, 110, 45, 49, 57, 55, 48, 32, 48, 48, 58, 48, 48, 58, 48, 48, 32, 43, 48, 48, 48, 48] none := parse_no _ (by decide +kernel)
theorem kn3 : Dt.ParseR [32, 49, 45, 74, 97, 110, 45, 49, 57, 55, 48, 32, 48, 48, 58, 48, 48, 58, 48, 48, 32, 45, 48, 48, 48, 48] none := parse_no _ (by decide +kernel)
theorem kn4 : Dt.OfR (-1) 0 none := Dt.OfR.far (by decide)
theorem kn5 : Dt.OfR (-3600) 60 (some ⟨1970, 1, 1, 0, 0, 0, 60⟩) := ⟨by decide +kernel, rfl, u_day0⟩
theorem kn6 : Dt.DayR [50, 45, 106, 97, 110, 45, 49, 57, 55, 48] (some 1) := day_lit _ [48, 50, 45, 106, 97, 110, 45, 49, 57, 55, 48] (.inl ⟨rfl, rfl⟩) (by decide +kernel) 1 1970 1 2 (by decide +kernel) (by decide +kernel) (by decide +kernel) (num_is _ _ _ _ (by decide +kernel))
theorem kn7 : Dt.DayR [48, 50, 45, 74, 65, 78, 45, 49, 57, 55, 48] (some 1) := day_lit _ [48, 50, 45, 74, 65, 78, 45, 49, 57, 55, 48] (.inr ⟨by decide, rfl⟩) (by decide +kernel) 1 1970 1 2 (by decide +kernel) (by decide +kernel) (by decide +kernel) (num_is _ _ _ _ (by decide +kernel))
theorem kn8 : Dt.DayR [50, 45, 74, 97, 110, 45, 49, 57, 54, 57] none := Dt.DayR.no (p := [48, 50, 45, 74, 97, 110, 45, 49, 57, 54, 57]) (.inl ⟨rfl, rfl⟩) (by decide +kernel)
theorem kn9 : Dt.DayR [51, 49, 45, 65, 112, 114, 45, 49, 57, 57, 57] none := Dt.DayR.no (p := [51, 49, 45, 65, 112, 114, 45, 49, 57, 57, 57]) (.inr ⟨by decide, rfl⟩) (by decide +kernel)
theorem kn10 : Dt.OfR (253402300800) 0 none := Dt.OfR.far (by decide)
theorem kn11 : Dt.OfR (253402300799) 0 (some ⟨9999, 12, 31, 23, 59, 59, 0⟩) := ⟨by decide +kernel, rfl, u_last⟩

theorem show_none (w : World) (hp : PW w) : Calls Tryd.prog 13 #[.agg #[.int .i64 0, .int .i64 0, .int .i64 0, .int .i64 0, .int .i64 0, .int .i64 0, .int .i64 0]] w fun e w' => e = .returned (.string ⟨#[]⟩) ∧ Below w.heap.size w w' := show_is 0 0 0 0 0 0 0 ⟨#[]⟩ (by decide +kernel) w hp
theorem unix_none (w : World) : Calls Tryd.prog 12 #[.agg #[.int .i64 1971, .int .i64 0, .int .i64 0, .int .i64 0, .int .i64 0, .int .i64 0, .int .i64 0]] w fun e w' => e = .returned (.int .i64 0) ∧ Below w.heap.size w w' := by
  have := unix_any 1971 0 0 0 0 0 0 w
  rw [if_neg (by decide +kernel)] at this
  exact this

set_option maxHeartbeats 6400000 in
theorem dateKnown_walk (w : World) (hp : PW w) (hf : FW w) : Calls Tryd.prog 3 #[] w fun e w' => e = .returned (.bool true) ∧ Below w.heap.size w w' := by
  have HP := Lib.hid hp
  have HF := Lib.hid hf
  have WF1 : Hid ((Lit.int .i64 (-1)).wf = true) := Lib.hid (by decide)
  have WF2 : Hid ((Lit.int .i64 (-3600)).wf = true) := Lib.hid (by decide)
  have WF3 : Hid ((Lit.int .i64 253402300800).wf = true) := Lib.hid (by decide)
  have WF4 : Hid ((Lit.int .i64 253402300799).wf = true) := Lib.hid (by decide)
  have q0 : (([] : List UInt8) == []) = true := rfl
  have q1 : ((⟨#[]⟩ : ByteArray).toList == []) = true := by decide +kernel
  clear hp hf
  go_enter Tryd.func3, Tryd.ntmps3
  go_wp2_with fail
  refine (awake_any w HP.out).mono ?_
  rintro e w0 ⟨rfl, b0⟩
  have HB0 := Lib.hid b0
  clear b0
  go_wp2_with fail
  refine (parse_is ⟨#[50, 57, 45, 70, 101, 98, 45, 50, 48, 48, 48, 32, 50, 51, 58, 53, 57, 58, 53, 57, 32, 45, 48, 49, 51, 48]⟩ _ kn0 w0 (HP.out.below HB0.out) (HF.out.below HB0.out)).mono ?_
  rintro e v0 ⟨rfl, b⟩
  simp only [parseV, ofV, dayV, dcs, Dt.zero]
  have HV0 := Lib.hid (HB0.out.trans (b.mono HB0.out.size))
  clear b
  obtain ⟨x0, Hx0⟩ : ∃ W, Hid (W = v0.alloc (.cells #[.int .i64 2000, .int .i64 2, .int .i64 29, .int .i64 23, .int .i64 59, .int .i64 59, .int .i64 (-90)] 24)) := ⟨_, Lib.hid rfl⟩
  have HX0 : Hid (Below w.heap.size w x0) := Lib.hid (by rw [Hx0.out]; exact HV0.out.alloc HV0.out.size _)
  have B0_x0 : Hid (Blk x0 v0.heap.size 24 #[.int .i64 2000, .int .i64 2, .int .i64 29, .int .i64 23, .int .i64 59, .int .i64 59, .int .i64 (-90)]) := Lib.hid (by rw [Hx0.out]; exact Blk.new v0 _ _)
  go_wp2_with fail
  rw [← Hx0.out]
  refine (parse_is ⟨#[50, 57, 45, 70, 101, 98, 45, 50, 49, 48, 48, 32, 48, 48, 58, 48, 48, 58, 48, 48, 32, 43, 48, 48, 48, 48]⟩ _ kn1 x0 (HP.out.below HX0.out) (HF.out.below HX0.out)).mono ?_
  rintro e v1 ⟨rfl, b⟩
  simp only [parseV, ofV, dayV, dcs, Dt.zero]
  have HV1 := Lib.hid (HX0.out.trans (b.mono HX0.out.size))
  have B0_v1 := Lib.hid (B0_x0.out.below b B0_x0.out.lt)
  clear b
  obtain ⟨x1, Hx1⟩ : ∃ W, Hid (W = v1.alloc (.cells #[.int .i64 0, .int .i64 0, .int .i64 0, .int .i64 0, .int .i64 0, .int .i64 0, .int .i64 0] 24)) := ⟨_, Lib.hid rfl⟩
  have HX1 : Hid (Below w.heap.size w x1) := Lib.hid (by rw [Hx1.out]; exact HV1.out.alloc HV1.out.size _)
  have B0_x1 : Hid (Blk x1 v0.heap.size 24 #[.int .i64 2000, .int .i64 2, .int .i64 29, .int .i64 23, .int .i64 59, .int .i64 59, .int .i64 (-90)]) := Lib.hid (by rw [Hx1.out]; exact B0_v1.out.alloc _)
  go_wp2_with fail
  rw [← Hx1.out]
  refine (parse_is ⟨#[48, 49, 45, 74, 97, 110, 45, 49, 57, 55, 48, 32, 48, 48, 58, 48, 48, 58, 48, 48, 32, 43, 48, 48, 48, 48]⟩ _ kn2 x1 (HP.out.below HX1.out) (HF.out.below HX1.out)).mono ?_
  rintro e v2 ⟨rfl, b⟩
  simp only [parseV, ofV, dayV, dcs, Dt.zero]
  have HV2 := Lib.hid (HX1.out.trans (b.mono HX1.out.size))
  have B0_v2 := Lib.hid (B0_x1.out.below b B0_x1.out.lt)
  clear b
  obtain ⟨x2, Hx2⟩ : ∃ W, Hid (W = v2.alloc (.cells #[.int .i64 0, .int .i64 0, .int .i64 0, .int .i64 0, .int .i64 0, .int .i64 0, .int .i64 0] 24)) := ⟨_, Lib.hid rfl⟩
  have HX2 : Hid (Below w.heap.size w x2) := Lib.hid (by rw [Hx2.out]; exact HV2.out.alloc HV2.out.size _)
  have B0_x2 : Hid (Blk x2 v0.heap.size 24 #[.int .i64 2000, .int .i64 2, .int .i64 29, .int .i64 23, .int .i64 59, .int .i64 59, .int .i64 (-90)]) := Lib.hid (by rw [Hx2.out]; exact B0_v2.out.alloc _)
  go_wp2_with fail
  rw [← Hx2.out]
  refine (parse_is ⟨#[32, 49, 45, 74, 97, 110, 45, 49, 57, 55, 48, 32, 48, 48, 58, 48, 48, 58, 48, 48, 32, 45, 48, 48, 48, 48]⟩ _ kn3 x2 (HP.out.below HX2.out) (HF.out.below HX2.out)).mono ?_
  rintro e v3 ⟨rfl, b⟩
  simp only [parseV, ofV, dayV, dcs, Dt.zero]
  have HV3 := Lib.hid (HX2.out.trans (b.mono HX2.out.size))
  have B0_v3 := Lib.hid (B0_x2.out.below b B0_x2.out.lt)
  clear b
  obtain ⟨x3, Hx3⟩ : ∃ W, Hid (W = v3.alloc (.cells #[.int .i64 0, .int .i64 0, .int .i64 0, .int .i64 0, .int .i64 0, .int .i64 0, .int .i64 0] 24)) := ⟨_, Lib.hid rfl⟩
  have HX3 : Hid (Below w.heap.size w x3) := Lib.hid (by rw [Hx3.out]; exact HV3.out.alloc HV3.out.size _)
  have B0_x3 : Hid (Blk x3 v0.heap.size 24 #[.int .i64 2000, .int .i64 2, .int .i64 29, .int .i64 23, .int .i64 59, .int .i64 59, .int .i64 (-90)]) := Lib.hid (by rw [Hx3.out]; exact B0_v3.out.alloc _)
  go_wp2_with fail
  rw [← Hx3.out]
  refine (of_is _ _ _ kn4 WF1.out x3).mono ?_
  rintro e v4 ⟨rfl, b⟩
  simp only [parseV, ofV, dayV, dcs, Dt.zero]
  have HV4 := Lib.hid (HX3.out.trans (b.mono HX3.out.size))
  have B0_v4 := Lib.hid (B0_x3.out.below b B0_x3.out.lt)
  clear b
  obtain ⟨x4, Hx4⟩ : ∃ W, Hid (W = v4.alloc (.cells #[.int .i64 0, .int .i64 0, .int .i64 0, .int .i64 0, .int .i64 0, .int .i64 0, .int .i64 0] 24)) := ⟨_, Lib.hid rfl⟩
  have HX4 : Hid (Below w.heap.size w x4) := Lib.hid (by rw [Hx4.out]; exact HV4.out.alloc HV4.out.size _)
  have B0_x4 : Hid (Blk x4 v0.heap.size 24 #[.int .i64 2000, .int .i64 2, .int .i64 29, .int .i64 23, .int .i64 59, .int .i64 59, .int .i64 (-90)]) := Lib.hid (by rw [Hx4.out]; exact B0_v4.out.alloc _)
  go_wp2_with fail
  rw [← Hx4.out]
  refine (of_is _ _ _ kn5 WF2.out x4).mono ?_
  rintro e v5 ⟨rfl, b⟩
  simp only [parseV, ofV, dayV, dcs, Dt.zero]
  have HV5 := Lib.hid (HX4.out.trans (b.mono HX4.out.size))
  have B0_v5 := Lib.hid (B0_x4.out.below b B0_x4.out.lt)
  clear b
  obtain ⟨x5, Hx5⟩ : ∃ W, Hid (W = v5.alloc (.cells #[.int .i64 1970, .int .i64 1, .int .i64 1, .int .i64 0, .int .i64 0, .int .i64 0, .int .i64 60] 24)) := ⟨_, Lib.hid rfl⟩
  have HX5 : Hid (Below w.heap.size w x5) := Lib.hid (by rw [Hx5.out]; exact HV5.out.alloc HV5.out.size _)
  have B0_x5 : Hid (Blk x5 v0.heap.size 24 #[.int .i64 2000, .int .i64 2, .int .i64 29, .int .i64 23, .int .i64 59, .int .i64 59, .int .i64 (-90)]) := Lib.hid (by rw [Hx5.out]; exact B0_v5.out.alloc _)
  have B5_x5 : Hid (Blk x5 v5.heap.size 24 #[.int .i64 1970, .int .i64 1, .int .i64 1, .int .i64 0, .int .i64 0, .int .i64 0, .int .i64 60]) := Lib.hid (by rw [Hx5.out]; exact Blk.new v5 _ _)
  go_wp2_with fail
  rw [← Hx5.out]
  refine (day_is ⟨#[50, 45, 106, 97, 110, 45, 49, 57, 55, 48]⟩ _ kn6 x5 (HF.out.below HX5.out)).mono ?_
  rintro e v6 ⟨rfl, b⟩
  simp only [parseV, ofV, dayV, dcs, Dt.zero]
  have HV6 := Lib.hid (HX5.out.trans (b.mono HX5.out.size))
  have B0_v6 := Lib.hid (B0_x5.out.below b B0_x5.out.lt)
  have B5_v6 := Lib.hid (B5_x5.out.below b B5_x5.out.lt)
  clear b
  go_wp2_with fail
  refine (day_is ⟨#[48, 50, 45, 74, 65, 78, 45, 49, 57, 55, 48]⟩ _ kn7 v6 (HF.out.below HV6.out)).mono ?_
  rintro e v7 ⟨rfl, b⟩
  simp only [parseV, ofV, dayV, dcs, Dt.zero]
  have HV7 := Lib.hid (HV6.out.trans (b.mono HV6.out.size))
  have B0_v7 := Lib.hid (B0_v6.out.below b B0_v6.out.lt)
  have B5_v7 := Lib.hid (B5_v6.out.below b B5_v6.out.lt)
  clear b
  go_wp2_with fail
  refine (day_is ⟨#[50, 45, 74, 97, 110, 45, 49, 57, 54, 57]⟩ _ kn8 v7 (HF.out.below HV7.out)).mono ?_
  rintro e v8 ⟨rfl, b⟩
  simp only [parseV, ofV, dayV, dcs, Dt.zero]
  have HV8 := Lib.hid (HV7.out.trans (b.mono HV7.out.size))
  have B0_v8 := Lib.hid (B0_v7.out.below b B0_v7.out.lt)
  have B5_v8 := Lib.hid (B5_v7.out.below b B5_v7.out.lt)
  clear b
  go_wp2_with fail
  refine (day_is ⟨#[51, 49, 45, 65, 112, 114, 45, 49, 57, 57, 57]⟩ _ kn9 v8 (HF.out.below HV8.out)).mono ?_
  rintro e v9 ⟨rfl, b⟩
  simp only [parseV, ofV, dayV, dcs, Dt.zero]
  have HV9 := Lib.hid (HV8.out.trans (b.mono HV8.out.size))
  have B0_v9 := Lib.hid (B0_v8.out.below b B0_v8.out.lt)
  have B5_v9 := Lib.hid (B5_v8.out.below b B5_v8.out.lt)
  clear b
  go_wp2_with fail
  refine (of_is _ _ _ kn10 WF3.out v9).mono ?_
  rintro e v10 ⟨rfl, b⟩
  simp only [parseV, ofV, dayV, dcs, Dt.zero]
  have HV10 := Lib.hid (HV9.out.trans (b.mono HV9.out.size))
  have B0_v10 := Lib.hid (B0_v9.out.below b B0_v9.out.lt)
  have B5_v10 := Lib.hid (B5_v9.out.below b B5_v9.out.lt)
  clear b
  obtain ⟨x10, Hx10⟩ : ∃ W, Hid (W = v10.alloc (.cells #[.int .i64 0, .int .i64 0, .int .i64 0, .int .i64 0, .int .i64 0, .int .i64 0, .int .i64 0] 24)) := ⟨_, Lib.hid rfl⟩
  have HX10 : Hid (Below w.heap.size w x10) := Lib.hid (by rw [Hx10.out]; exact HV10.out.alloc HV10.out.size _)
  have B0_x10 : Hid (Blk x10 v0.heap.size 24 #[.int .i64 2000, .int .i64 2, .int .i64 29, .int .i64 23, .int .i64 59, .int .i64 59, .int .i64 (-90)]) := Lib.hid (by rw [Hx10.out]; exact B0_v10.out.alloc _)
  have B5_x10 : Hid (Blk x10 v5.heap.size 24 #[.int .i64 1970, .int .i64 1, .int .i64 1, .int .i64 0, .int .i64 0, .int .i64 0, .int .i64 60]) := Lib.hid (by rw [Hx10.out]; exact B5_v10.out.alloc _)
  go_wp2_with fail
  rw [← Hx10.out]
  refine (of_is _ _ _ kn11 WF4.out x10).mono ?_
  rintro e v11 ⟨rfl, b⟩
  simp only [parseV, ofV, dayV, dcs, Dt.zero]
  have HV11 := Lib.hid (HX10.out.trans (b.mono HX10.out.size))
  have B0_v11 := Lib.hid (B0_x10.out.below b B0_x10.out.lt)
  have B5_v11 := Lib.hid (B5_x10.out.below b B5_x10.out.lt)
  clear b
  obtain ⟨x11, Hx11⟩ : ∃ W, Hid (W = v11.alloc (.cells #[.int .i64 9999, .int .i64 12, .int .i64 31, .int .i64 23, .int .i64 59, .int .i64 59, .int .i64 0] 24)) := ⟨_, Lib.hid rfl⟩
  have HX11 : Hid (Below w.heap.size w x11) := Lib.hid (by rw [Hx11.out]; exact HV11.out.alloc HV11.out.size _)
  have B0_x11 : Hid (Blk x11 v0.heap.size 24 #[.int .i64 2000, .int .i64 2, .int .i64 29, .int .i64 23, .int .i64 59, .int .i64 59, .int .i64 (-90)]) := Lib.hid (by rw [Hx11.out]; exact B0_v11.out.alloc _)
  have B5_x11 : Hid (Blk x11 v5.heap.size 24 #[.int .i64 1970, .int .i64 1, .int .i64 1, .int .i64 0, .int .i64 0, .int .i64 0, .int .i64 60]) := Lib.hid (by rw [Hx11.out]; exact B5_v11.out.alloc _)
  have B11_x11 : Hid (Blk x11 v11.heap.size 24 #[.int .i64 9999, .int .i64 12, .int .i64 31, .int .i64 23, .int .i64 59, .int .i64 59, .int .i64 0]) := Lib.hid (by rw [Hx11.out]; exact Blk.new v11 _ _)
  have hb := B0_x11.out
  rw [Hx11.out] at hb
  obtain ⟨y0, y1, y2, y3, y4, y5, y6⟩ := hb.seven
  clear hb
  go_wp2_with fail
  clear y0 y1 y2 y3 y4 y5 y6
  rw [← Hx11.out]
  refine (unix_good _ _ _ _ _ _ _ _ kn0.1 u_2000 x11).mono ?_
  rintro e wa ⟨rfl, b⟩
  have HA := Lib.hid (HX11.out.trans (b.mono HX11.out.size))
  have B0_wa := Lib.hid (B0_x11.out.below b B0_x11.out.lt)
  have B5_wa := Lib.hid (B5_x11.out.below b B5_x11.out.lt)
  have B11_wa := Lib.hid (B11_x11.out.below b B11_x11.out.lt)
  clear b
  obtain ⟨z00, z01, z02, z03, z04, z05, z06⟩ := B5_wa.out.seven
  obtain ⟨z10, z11, z12, z13, z14, z15, z16⟩ := B11_wa.out.seven
  go_wp2_with fail
  refine (show_none wa (HP.out.below HA.out)).mono ?_
  rintro e wb ⟨rfl, b⟩
  have HBB := Lib.hid (HA.out.trans (b.mono HA.out.size))
  clear b
  go_wp2_with fail
  refine (unix_none wb).mono ?_
  rintro e wc ⟨rfl, b⟩
  have HCC := Lib.hid (HBB.out.trans (b.mono HBB.out.size))
  clear b
  go_wp2
  go_ret
  exact ⟨rfl, HCC.out⟩
end Go.Proofs.YtgkibkophoikoaaDoor
