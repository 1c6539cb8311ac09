/- DateBack: the walk. -/
import Derived.Test.YtgkibkophoikoaaDoorDtAwake
import Derived.Test.YtgkibkophoikoaaDoorDtParse
namespace Go.Proofs.YtgkibkophoikoaaDoor
open Go.RowKit
set_option linter.unusedVariables false
set_option maxRecDepth 100000

theorem parse_is (s : ByteArray) (r : Option Dt.D) (hr : Dt.ParseR s.data.toList r) (w : World) (hP : PW w) (hW : FW w) : Calls Tryd.prog 9 #[.string s] w fun e w' => e = .returned (parseV r) ∧ Below w.heap.size w w' := by
  refine (parse_any s w hP hW).mono ?_
  rintro e w' ⟨r', h1, h2, h3⟩
  rw [Dt.ParseR.one h1 hr] at h2
  exact ⟨h2, h3⟩
theorem next_sec {a b : Dt.D} (ha : Dt.Good a) (hb : Dt.Good b) (hz : a.zone = b.zone) (hu : Dt.unix b = Dt.unix a + 1) : b.sec = (a.sec + 1) % 60 := by
  obtain ⟨_, _, _, ⟨a1, a2⟩, _⟩ := ha
  obtain ⟨_, _, _, ⟨b1, b2⟩, _⟩ := hb
  unfold Dt.unix at hu
  rw [hz] at hu
  omega

set_option maxHeartbeats 6400000 in
theorem dateBack_walk (u : Int) (wu : (Lit.int .i64 u).wf = true) (z : Int) (wz : (Lit.int .i64 z).wf = true) (w : World) (hp : PW w) (hf : FW w) :
    Calls Tryd.prog 5 #[.int .i64 u, .int .i64 z] w fun e w' => e = .returned (.bool true) ∧ Below w.heap.size w w' := by
  have HP := Lib.hid hp
  have HF := Lib.hid hf
  have WU := Lib.hid wu
  clear hp hf wz
  go_enter Tryd.func5, Tryd.ntmps5
  go_wp2_with fail
  refine (awake_any w HP.out).mono ?_
  rintro e w1 ⟨rfl, b1⟩
  have HB1 := Lib.hid b1
  clear b1
  go_wp2_with fail
  refine (of_any u z WU.out w1).mono ?_
  rintro e w2 ⟨r, hr, rfl, b2⟩
  have HB2 := Lib.hid (HB1.out.trans (b2.mono HB1.out.size))
  have HR := Lib.hid hr
  clear b2 hr wu
  cases r with
  | none =>
    simp only [ofV, dcs, Dt.zero]
    go_wp2
    go_ret
    exact ⟨rfl, HB2.out.alloc HB2.out.size _⟩
  | some d =>
  obtain ⟨y, m, k, hh, mi, s, z1⟩ := d
  simp only [ofV, dcs]
  obtain ⟨hg, hz, hu⟩ := HR.out
  have HG := Lib.hid hg
  have hz' : z1 = z := hz
  have cz : (z1 == z) = true := by rw [beq_iff_eq]; exact hz'
  have HU := Lib.hid hu
  have hub := unix_bounds hg
  rw [hu] at hub
  obtain ⟨hub1, hub2⟩ := hub
  have i1 : IntKind.i64.wrap (u + 1) = u + 1 := IntWalk.i64_in _ (by omega)
  have WU1 : Hid ((Lit.int .i64 (u + 1)).wf = true) := Lib.hid (by
    have h0 : IntKind.i64.min = -9223372036854775808 := rfl
    have h1' : IntKind.i64.max = 9223372036854775807 := rfl
    simp [Lit.wf, h0, h1']
    omega)
  have hs0 : 0 ≤ s ∧ s ≤ 59 := hg.2.2.2.1
  obtain ⟨hs1, hs2⟩ := hs0
  have i2 : IntKind.i64.wrap (s + 1) = s + 1 := IntWalk.i64_in _ (by omega)
  obtain ⟨sn, Hsn⟩ : ∃ sn, Hid (sn = (s + 1) % 60) := ⟨_, Lib.hid rfl⟩
  have t1 : (s + 1).tmod 60 = sn := by rw [Hsn.out, Int.tmod_eq_emod_of_nonneg (by omega)]
  obtain ⟨x, Hx⟩ : ∃ x : ByteArray, Hid (x.data.toList = Dt.text ⟨y, m, k, hh, mi, s, z1⟩) := ⟨⟨(Dt.text ⟨y, m, k, hh, mi, s, z1⟩).toArray⟩, Lib.hid rfl⟩
  have HS : Hid (Dt.shown ⟨y, m, k, hh, mi, s, z1⟩ = x.data.toList) := Lib.hid (by rw [Hx.out]; exact Dt.shown_good hg)
  have HPR : Hid (Dt.ParseR x.data.toList (some ⟨y, m, k, hh, mi, s, z1⟩)) := Lib.hid (by rw [Hx.out]; exact Dt.ParseR.text hg)
  have HUG := Lib.hid (unix_good y m k hh mi s z1 u hg hu)
  have HGY := Lib.hid (good_yes y m k hh mi s z1 hg)
  clear hg hz hz' hu
  obtain ⟨w3, Hw3⟩ : ∃ w3, Hid (w3 = w2.alloc (.cells #[.int .i64 y, .int .i64 m, .int .i64 k, .int .i64 hh, .int .i64 mi, .int .i64 s, .int .i64 z1] 24)) := ⟨_, Lib.hid rfl⟩
  have HB3 : Hid (Below w.heap.size w w3) := Lib.hid (by rw [Hw3.out]; exact HB2.out.alloc HB2.out.size _)
  have HG3 : Hid (Blk w3 w2.heap.size 24 #[.int .i64 y, .int .i64 m, .int .i64 k, .int .i64 hh, .int .i64 mi, .int .i64 s, .int .i64 z1]) := Lib.hid (by rw [Hw3.out]; exact Blk.new w2 _ _)
  go_wp2_with fail
  rw [← Hw3.out]
  refine (show_is _ _ _ _ _ _ _ x HS.out w3 (HP.out.below HB3.out)).mono ?_
  rintro e w4 ⟨rfl, b4⟩
  have HB4 := Lib.hid (HB3.out.trans (b4.mono HB3.out.size))
  have HG4 := Lib.hid (HG3.out.below b4 HG3.out.lt)
  clear b4
  go_wp2_with fail
  refine (parse_is x _ HPR.out w4 (HP.out.below HB4.out) (HF.out.below HB4.out)).mono ?_
  rintro e w5 ⟨rfl, b5⟩
  simp only [parseV, dcs]
  have HB5 := Lib.hid (HB4.out.trans (b5.mono HB4.out.size))
  have HG5 := Lib.hid (HG4.out.below b5 HG4.out.lt)
  clear b5
  obtain ⟨w6, Hw6⟩ : ∃ w6, Hid (w6 = w5.alloc (.cells #[.int .i64 y, .int .i64 m, .int .i64 k, .int .i64 hh, .int .i64 mi, .int .i64 s, .int .i64 z1] 24)) := ⟨_, Lib.hid rfl⟩
  have HB6 : Hid (Below w.heap.size w w6) := Lib.hid (by rw [Hw6.out]; exact HB5.out.alloc HB5.out.size _)
  have HG6 : Hid (Blk w6 w2.heap.size 24 #[.int .i64 y, .int .i64 m, .int .i64 k, .int .i64 hh, .int .i64 mi, .int .i64 s, .int .i64 z1]) := Lib.hid (by rw [Hw6.out]; exact HG5.out.alloc _)
  have HX6 : Hid (Blk w6 w5.heap.size 24 #[.int .i64 y, .int .i64 m, .int .i64 k, .int .i64 hh, .int .i64 mi, .int .i64 s, .int .i64 z1]) := Lib.hid (by rw [Hw6.out]; exact Blk.new w5 _ _)
  go_wp2_with fail
  rw [← Hw6.out]
  refine (of_any (u + 1) z WU1.out w6).mono ?_
  rintro e w7 ⟨r2, hr2, rfl, b7⟩
  have HB7 := Lib.hid (HB6.out.trans (b7.mono HB6.out.size))
  have HG7 := Lib.hid (HG6.out.below b7 HG6.out.lt)
  have HX7 := Lib.hid (HX6.out.below b7 HX6.out.lt)
  have HR2 := Lib.hid hr2
  clear b7 hr2
  cases r2 with
  | none =>
    simp only [ofV, dcs, Dt.zero]
    obtain ⟨w8, Hw8⟩ : ∃ w8, Hid (w8 = w7.alloc (.cells #[.int .i64 0, .int .i64 0, .int .i64 0, .int .i64 0, .int .i64 0, .int .i64 0, .int .i64 0] 24)) := ⟨_, Lib.hid rfl⟩
    have HB8 : Hid (Below w.heap.size w w8) := Lib.hid (by rw [Hw8.out]; exact HB7.out.alloc HB7.out.size _)
    have HG8 : Hid (Blk w8 w2.heap.size 24 #[.int .i64 y, .int .i64 m, .int .i64 k, .int .i64 hh, .int .i64 mi, .int .i64 s, .int .i64 z1]) := Lib.hid (by rw [Hw8.out]; exact HG7.out.alloc _)
    have HX8 : Hid (Blk w8 w5.heap.size 24 #[.int .i64 y, .int .i64 m, .int .i64 k, .int .i64 hh, .int .i64 mi, .int .i64 s, .int .i64 z1]) := Lib.hid (by rw [Hw8.out]; exact HX7.out.alloc _)
    have hg8 := HG8.out
    rw [Hw8.out] at hg8
    obtain ⟨x0, x1, x2, x3, x4, x5, x6⟩ := hg8.seven
    clear hg8
    go_wp2_with fail
    clear x0 x1 x2 x3 x4 x5 x6
    rw [← Hw8.out]
    refine (HGY.out w8).mono ?_
    rintro e w9 ⟨rfl, bb9⟩
    have HB9 := Lib.hid (HB8.out.trans (bb9.mono HB8.out.size))
    have HG9 := Lib.hid (HG8.out.below bb9 HG8.out.lt)
    have HX9 := Lib.hid (HX8.out.below bb9 HX8.out.lt)
    obtain ⟨x0, x1, x2, x3, x4, x5, x6⟩ := HG9.out.seven
    go_wp2_with fail
    clear x0 x1 x2 x3 x4 x5 x6
    refine (HUG.out w9).mono ?_
    rintro e wA ⟨rfl, bbA⟩
    have HBB := Lib.hid (HB9.out.trans (bbA.mono HB9.out.size))
    have HGA := Lib.hid (HG9.out.below bbA HG9.out.lt)
    have HXA := Lib.hid (HX9.out.below bbA HX9.out.lt)
    obtain ⟨x0, x1, x2, x3, x4, x5, x6⟩ := HGA.out.seven
    obtain ⟨p0, p1, p2, p3, p4, p5, p6⟩ := HXA.out.seven
    go_wp2
    go_ret
    exact ⟨rfl, HBB.out⟩
  | some d2 =>
    obtain ⟨y', m', k', hh', mi', s', z1'⟩ := d2
    simp only [ofV, dcs]
    have HSS : Hid (s' = sn) := Lib.hid (by
      rw [Hsn.out]
      exact next_sec (a := ⟨y, m, k, hh, mi, s, z1⟩) (b := ⟨y', m', k', hh', mi', s', z1'⟩) HR.out.1 HR2.out.1 (HR.out.2.1.trans HR2.out.2.1.symm) (by rw [HU.out, HR2.out.2.2]))
    have HUG2 := Lib.hid (unix_good y' m' k' hh' mi' s' z1' (u + 1) HR2.out.1 HR2.out.2.2)
    have cs : (s' == sn) = true := by rw [beq_iff_eq]; exact HSS.out
    obtain ⟨w8, Hw8⟩ : ∃ w8, Hid (w8 = w7.alloc (.cells #[.int .i64 y', .int .i64 m', .int .i64 k', .int .i64 hh', .int .i64 mi', .int .i64 s', .int .i64 z1'] 24)) := ⟨_, Lib.hid rfl⟩
    have HB8 : Hid (Below w.heap.size w w8) := Lib.hid (by rw [Hw8.out]; exact HB7.out.alloc HB7.out.size _)
    have HG8 : Hid (Blk w8 w2.heap.size 24 #[.int .i64 y, .int .i64 m, .int .i64 k, .int .i64 hh, .int .i64 mi, .int .i64 s, .int .i64 z1]) := Lib.hid (by rw [Hw8.out]; exact HG7.out.alloc _)
    have HX8 : Hid (Blk w8 w5.heap.size 24 #[.int .i64 y, .int .i64 m, .int .i64 k, .int .i64 hh, .int .i64 mi, .int .i64 s, .int .i64 z1]) := Lib.hid (by rw [Hw8.out]; exact HX7.out.alloc _)
    have HY8 : Hid (Blk w8 w7.heap.size 24 #[.int .i64 y', .int .i64 m', .int .i64 k', .int .i64 hh', .int .i64 mi', .int .i64 s', .int .i64 z1']) := Lib.hid (by rw [Hw8.out]; exact Blk.new w7 _ _)
    have hg8 := HG8.out
    rw [Hw8.out] at hg8
    obtain ⟨x0, x1, x2, x3, x4, x5, x6⟩ := hg8.seven
    clear hg8
    go_wp2_with fail
    clear x0 x1 x2 x3 x4 x5 x6
    rw [← Hw8.out]
    refine (HGY.out w8).mono ?_
    rintro e w9 ⟨rfl, bb9⟩
    have HB9 := Lib.hid (HB8.out.trans (bb9.mono HB8.out.size))
    have HG9 := Lib.hid (HG8.out.below bb9 HG8.out.lt)
    have HX9 := Lib.hid (HX8.out.below bb9 HX8.out.lt)
    obtain ⟨x0, x1, x2, x3, x4, x5, x6⟩ := HG9.out.seven
    go_wp2_with fail
    clear x0 x1 x2 x3 x4 x5 x6
    refine (HUG.out w9).mono ?_
    rintro e wA ⟨rfl, bbA⟩
    have HBB := Lib.hid (HB9.out.trans (bbA.mono HB9.out.size))
    have HGA := Lib.hid (HG9.out.below bbA HG9.out.lt)
    have HXA := Lib.hid (HX9.out.below bbA HX9.out.lt)
    obtain ⟨x0, x1, x2, x3, x4, x5, x6⟩ := HGA.out.seven
    obtain ⟨p0, p1, p2, p3, p4, p5, p6⟩ := HXA.out.seven
    have hy := (HY8.out.below bb9 HY8.out.lt).below bbA (Nat.lt_of_lt_of_le HY8.out.lt bb9.size)
    have HYA := Lib.hid hy
    obtain ⟨q0, q1, q2, q3, q4, q5, q6⟩ := hy.seven
    go_wp2_with fail
    clear x0 x1 x2 x3 x4 x5 x6 p0 p1 p2 p3 p4 p5 p6 q0 q1 q2 q3 q4 q5 q6
    refine (HUG2.out _).mono ?_
    rintro e wC ⟨rfl, bC⟩
    have HBC := Lib.hid (HBB.out.trans (bC.mono HBB.out.size))
    have gC := (HGA.out.below bC HGA.out.lt).cell 5 _ rfl
    have yC := (HYA.out.below bC HYA.out.lt).cell 5 _ rfl
    clear bC
    go_wp2
    go_ret
    exact ⟨rfl, HBC.out⟩
end Go.Proofs.YtgkibkophoikoaaDoor
