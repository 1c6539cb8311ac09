/- date's functions at what is known; the law's awake, word. -/
import Derived.Test.YtgkibkophoikoaaDoorDtShow
namespace Go.Proofs.YtgkibkophoikoaaDoor
open Go.RowKit
set_option linter.unusedVariables false
set_option maxRecDepth 100000

theorem of_is (u z : Int) (r : Option Dt.D) (hr : Dt.OfR u z r) (wu : (Lit.int .i64 u).wf = true) (w : World) : Calls Tryd.prog 10 #[.int .i64 u, .int .i64 z] w fun e w' => e = .returned (ofV r) ∧ Below w.heap.size w w' := by
  refine (of_any u z wu w).mono ?_
  rintro e w' ⟨r', h1, h2, h3⟩
  rw [Dt.OfR.one h1 hr] at h2
  exact ⟨h2, h3⟩
theorem num_is (y m k n : Nat) (h : 365 * (y - 1) + (y - 1) / 4 - (y - 1) / 100 + (y - 1) / 400 - 719162 + Dt.ms y (m - 1) + (k - 1) = n) : Dt.num y m k = n := by
  unfold Dt.num
  rw [Dt.ahead_is]
  exact h
theorem unix_is (y m k hh mi s : Nat) (z : Int) (n : Nat) (u : Int) (hn : Dt.num y m k = n) (hu : 86400 * (n : Int) + ((hh : Int) * 3600 + (mi : Int) * 60 + (s : Int)) - z * 60 = u) : Dt.unix ⟨y, m, k, hh, mi, s, z⟩ = u := by
  simp only [Dt.unix, Dt.dnum, Int.toNat_natCast]
  rw [hn]
  exact hu
theorem u_epoch : Dt.unix ⟨1970, 1, 1, 1, 0, 0, 60⟩ = 0 := unix_is 1970 1 1 1 0 0 60 0 0 (num_is _ _ _ _ (by decide +kernel)) (by decide)
theorem of_epoch : Dt.OfR 0 60 (some ⟨1970, 1, 1, 1, 0, 0, 60⟩) := ⟨by decide +kernel, rfl, u_epoch⟩

theorem show_is (y m k hh mi s z : Int) (x : ByteArray) (hx : Dt.shown ⟨y, m, k, hh, mi, s, z⟩ = x.data.toList) (w : World) (hp : PW w) : Calls Tryd.prog 13 #[.agg #[.int .i64 y, .int .i64 m, .int .i64 k, .int .i64 hh, .int .i64 mi, .int .i64 s, .int .i64 z]] w fun e w' => e = .returned (.string x) ∧ Below w.heap.size w w' := by
  have := show_any y m k hh mi s z w hp
  rw [hx] at this
  exact this
theorem unix_good (y m k hh mi s z : Int) (u : Int) (hg : Dt.Good ⟨y, m, k, hh, mi, s, z⟩) (hu : Dt.unix ⟨y, m, k, hh, mi, s, z⟩ = u) (w : World) : Calls Tryd.prog 12 #[.agg #[.int .i64 y, .int .i64 m, .int .i64 k, .int .i64 hh, .int .i64 mi, .int .i64 s, .int .i64 z]] w fun e w' => e = .returned (.int .i64 u) ∧ Below w.heap.size w w' := by
  have := unix_any y m k hh mi s z w
  rw [if_pos hg, hu] at this
  exact this
theorem good_yes (y m k hh mi s z : Int) (hg : Dt.Good ⟨y, m, k, hh, mi, s, z⟩) (w : World) : Calls Tryd.prog 18 #[.agg #[.int .i64 y, .int .i64 m, .int .i64 k, .int .i64 hh, .int .i64 mi, .int .i64 s, .int .i64 z]] w fun e w' => e = .returned (.bool true) ∧ Below w.heap.size w w' := by
  have := good_any y m k hh mi s z w
  rw [decide_eq_true hg] at this
  exact this
/-- A date in memory: its seven cells. -/
theorem Blk.seven {w : World} {g t : Nat} {a0 a1 a2 a3 a4 a5 a6 : Value} (h : Blk w g t #[a0, a1, a2, a3, a4, a5, a6]) : w.cell? ⟨g, 0, none⟩ = some a0 ∧ w.cell? ⟨g, 1, none⟩ = some a1 ∧ w.cell? ⟨g, 2, none⟩ = some a2 ∧ w.cell? ⟨g, 3, none⟩ = some a3 ∧ w.cell? ⟨g, 4, none⟩ = some a4 ∧ w.cell? ⟨g, 5, none⟩ = some a5 ∧ w.cell? ⟨g, 6, none⟩ = some a6 :=
  ⟨h.cell 0 _ rfl, h.cell 1 _ rfl, h.cell 2 _ rfl, h.cell 3 _ rfl, h.cell 4 _ rfl, h.cell 5 _ rfl, h.cell 6 _ rfl⟩

def epoch : ByteArray := ⟨#[32, 49, 45, 74, 97, 110, 45, 49, 57, 55, 48, 32, 48, 49, 58, 48, 48, 58, 48, 48, 32, 43, 48, 49, 48, 48]⟩
set_option maxHeartbeats 1600000 in
theorem awake_any (w : World) (h : PW w) : Calls Tryd.prog 8 #[] w fun e w' => e = .returned (.bool true) ∧ Below w.heap.size w w' := by
  have H := Lib.hid h
  clear h
  obtain ⟨x, hx⟩ : ∃ x : ByteArray, x = ⟨#[32, 49, 45, 74, 97, 110, 45, 49, 57, 55, 48, 32, 48, 49, 58, 48, 48, 58, 48, 48, 32, 43, 48, 49, 48, 48]⟩ := ⟨_, rfl⟩
  have hq : (x.toList == [32, 49, 45, 74, 97, 110, 45, 49, 57, 55, 48, 32, 48, 49, 58, 48, 48, 58, 48, 48, 32, 43, 48, 49, 48, 48]) = true := by rw [hx]; decide +kernel
  have HX : Hid (Dt.shown ⟨1970, 1, 1, 1, 0, 0, 60⟩ = x.data.toList) := Lib.hid (by rw [hx]; decide +kernel)
  have hwf : (Lit.int .i64 0).wf = true := by decide
  have HWF := Lib.hid hwf
  clear hx hwf
  go_enter Tryd.func8, Tryd.ntmps8
  go_wp2_with fail
  refine (of_is 0 60 _ of_epoch HWF.out w).mono ?_
  rintro e v1 ⟨rfl, b1⟩
  simp only [ofV, dcs]
  obtain ⟨w1, Hw1⟩ : ∃ w1, Hid (w1 = v1.alloc (.cells #[.int .i64 1970, .int .i64 1, .int .i64 1, .int .i64 1, .int .i64 0, .int .i64 0, .int .i64 60] 24)) := ⟨_, Lib.hid rfl⟩
  have HG : Hid (Blk w1 v1.heap.size 24 #[.int .i64 1970, .int .i64 1, .int .i64 1, .int .i64 1, .int .i64 0, .int .i64 0, .int .i64 60]) := Lib.hid (by rw [Hw1.out]; exact Blk.new v1 _ _)
  have HB : Hid (Below w.heap.size w w1) := Lib.hid (by rw [Hw1.out]; exact b1.alloc b1.size _)
  clear b1
  go_wp2_with fail
  rw [← Hw1.out]
  refine (show_is _ _ _ _ _ _ _ x HX.out w1 (H.out.below HB.out)).mono ?_
  rintro e w2 ⟨rfl, b2⟩
  have HG2 := Lib.hid (HG.out.below b2 HG.out.lt)
  have HB2 := Lib.hid (HB.out.trans (b2.mono HB.out.size))
  obtain ⟨x0, x1, x2, x3, x4, x5, x6⟩ := HG2.out.seven
  clear b2
  go_wp2_with fail
  clear x0 x1 x2 x3 x4 x5 x6
  refine (unix_good _ _ _ _ _ _ _ 0 of_epoch.1 u_epoch w2).mono ?_
  rintro e w3 ⟨rfl, b3⟩
  have HG3 := Lib.hid (HG2.out.below b3 HG2.out.lt)
  have HB3 := Lib.hid (HB2.out.trans (b3.mono HB2.out.size))
  obtain ⟨x0, x1, x2, x3, x4, x5, x6⟩ := HG3.out.seven
  clear b3
  go_wp2_with fail
  clear x0 x1 x2 x3 x4 x5 x6
  refine (good_yes _ _ _ _ _ _ _ of_epoch.1 w3).mono ?_
  rintro e w4 ⟨rfl, b4⟩
  have HB4 := Lib.hid (HB3.out.trans (b4.mono HB3.out.size))
  clear b4
  go_wp2
  go_ret
  exact ⟨rfl, HB4.out⟩

theorem word_long {l : List UInt8} (h : l.length = 26) : (Dt.word l).length ≤ 11 := by
  unfold Dt.word
  split
  · rw [List.length_take]; omega
  · rw [List.length_take]; omega
set_option maxHeartbeats 1600000 in
theorem word_any (y m k hh mi s z : Int) (hg : Dt.Good ⟨y, m, k, hh, mi, s, z⟩) (x : ByteArray) (hx : x.data.toList = Dt.word (Dt.text ⟨y, m, k, hh, mi, s, z⟩)) (w : World) (hp : PW w) : Calls Tryd.prog 22 #[.agg #[.int .i64 y, .int .i64 m, .int .i64 k, .int .i64 hh, .int .i64 mi, .int .i64 s, .int .i64 z]] w fun e w' => e = .returned (.string x) ∧ Below w.heap.size w w' := by
  obtain ⟨t, Ht⟩ : ∃ t : ByteArray, Hid (t.data.toList = Dt.text ⟨y, m, k, hh, mi, s, z⟩) := ⟨⟨(Dt.text ⟨y, m, k, hh, mi, s, z⟩).toArray⟩, Lib.hid rfl⟩
  have HT26 : Hid (t.size = 26) := Lib.hid (by
    have h1 : t.data.toList.length = t.size := rfl
    rw [Ht.out, Dt.text_len] at h1
    exact h1.symm)
  have HS : Hid (Dt.shown ⟨y, m, k, hh, mi, s, z⟩ = t.data.toList) := Lib.hid (by rw [Ht.out]; exact Dt.shown_good hg)
  have H := Lib.hid hp
  obtain ⟨w1, Hw1⟩ : ∃ w1, Hid (w1 = w.alloc (.cells #[.int .i64 y, .int .i64 m, .int .i64 k, .int .i64 hh, .int .i64 mi, .int .i64 s, .int .i64 z] 24)) := ⟨_, Lib.hid rfl⟩
  have HB1 : Hid (Below w.heap.size w w1) := Lib.hid (by rw [Hw1.out]; exact (Below.refl _ _).alloc (Nat.le_refl _) _)
  obtain ⟨ch, hch⟩ : ∃ ch : UInt8, t[0]'(by rw [HT26.out]; decide) = ch := ⟨_, rfl⟩
  have HCH : Hid (t.data.toList[0]? = some ch) := Lib.hid (by rw [List.getElem?_eq_getElem (by rw [Ht.out, Dt.text_len]; decide)]; exact congrArg some hch)
  have hx' := hx
  rw [← Ht.out] at hx'
  have HX := Lib.hid hx'
  obtain ⟨q1, hq1⟩ : ∃ q, t.extract 1 11 = q := ⟨_, rfl⟩
  obtain ⟨q2, hq2⟩ : ∃ q, t.extract 0 11 = q := ⟨_, rfl⟩
  have z1 : (11 : Int) ≤ (t.size : Int) := by rw [HT26.out]; decide
  have z2 : ¬ (t.size : Int) < 11 := by omega
  have z3 : ¬ t.size < 11 := by omega
  have z4 : (0 : Int) < (t.size : Int) := by omega
  have z5 : 11 ≤ t.size := by omega
  have hp0 : 0 < t.size := by omega
  have D1 : Hid (q1.data.toList = (t.data.toList.drop 1).take 10) := Lib.hid (by rw [← hq1, Lib.extract_data])
  have D2 : Hid (q2.data.toList = t.data.toList.take 11) := Lib.hid (by rw [← hq2, Lib.extract_data, List.drop_zero])
  clear hp hg hx hx'
  by_cases h32 : ch.toNat = 32
  · have c1 : ((ch.toNat : Int) == 32) = true := by rw [beq_iff_eq]; omega
    have HE : Hid (q1 = x) := Lib.hid (by
      apply ByteArray.ext
      apply Array.toList_inj.1
      rw [D1.out, HX.out]
      unfold Dt.word
      rw [HCH.out, if_pos (by rw [show ch = 32 from UInt8.toNat_inj.1 h32])])
    clear h32
    go_enter Tryd.func22, Tryd.ntmps22
    go_wp2_with fail
    rw [← Hw1.out]
    refine (show_is _ _ _ _ _ _ _ t HS.out w1 (H.out.below HB1.out)).mono ?_
    rintro e w2 ⟨rfl, b2⟩
    have HB2 := Lib.hid (HB1.out.trans (b2.mono HB1.out.size))
    clear b2
    go_wp2
    go_ret
    exact ⟨by rw [← HE.out]; rfl, HB2.out⟩
  · have c1 : ((ch.toNat : Int) == 32) = false := by rw [beq_eq_false_iff_ne]; omega
    have HE : Hid (q2 = x) := Lib.hid (by
      apply ByteArray.ext
      apply Array.toList_inj.1
      rw [D2.out, HX.out]
      unfold Dt.word
      rw [HCH.out, if_neg (fun e => h32 (by rw [Option.some.inj e]; rfl))])
    clear h32
    go_enter Tryd.func22, Tryd.ntmps22
    go_wp2_with fail
    rw [← Hw1.out]
    refine (show_is _ _ _ _ _ _ _ t HS.out w1 (H.out.below HB1.out)).mono ?_
    rintro e w2 ⟨rfl, b2⟩
    have HB2 := Lib.hid (HB1.out.trans (b2.mono HB1.out.size))
    clear b2
    go_wp2
    go_ret
    exact ⟨by rw [← HE.out]; rfl, HB2.out⟩
end Go.Proofs.YtgkibkophoikoaaDoor
