/- DateDays: the walk. -/
import Derived.Test.YtgkibkophoikoaaDoorDtAwake
import Derived.Test.YtgkibkophoikoaaDoorDtDayW
namespace Go.Proofs.YtgkibkophoikoaaDoor
open Go.RowKit
set_option linter.unusedVariables false
set_option maxRecDepth 100000

theorem day_is (s : ByteArray) (r : Option Nat) (hr : Dt.DayR s.data.toList r) (w : World) (hW : FW w) : Calls Tryd.prog 11 #[.string s] w fun e w' => e = .returned (dayV r) ∧ Below w.heap.size w w' := by
  refine (day_any s w hW).mono ?_
  rintro e w' ⟨r', h1, h2, h3⟩
  rw [Dt.DayR.one h1 hr] at h2
  exact ⟨h2, h3⟩
theorem i64_wf (z : Int) (h1 : -9223372036854775808 ≤ z) (h2 : z ≤ 9223372036854775807) : (Lit.int .i64 z).wf = true := by
  have h0 : IntKind.i64.min = -9223372036854775808 := rfl
  have h1' : IntKind.i64.max = 9223372036854775807 := rfl
  simp [Lit.wf, h0, h1']
  omega
theorem has_day (n : Nat) (h : n < 2932897) : ∃ y m k : Nat, 1970 ≤ y ∧ y ≤ 9999 ∧ 1 ≤ m ∧ m ≤ 12 ∧ 1 ≤ k ∧ k ≤ Dt.dm y m ∧ Dt.num y m k = n := by
  have hy : ∃ y, 1970 ≤ y ∧ y ≤ 9999 ∧ Dt.ahead y ≤ n ∧ n < Dt.ahead (y + 1) := by
    have step : ∀ j, j ≤ 8029 → n < Dt.ahead (1970 + j + 1) → ∃ y, 1970 ≤ y ∧ y ≤ 1970 + j ∧ Dt.ahead y ≤ n ∧ n < Dt.ahead (y + 1) := by
      intro j
      induction j with
      | zero => intro _ hn; exact ⟨1970, Nat.le_refl _, Nat.le_refl _, by rw [Dt.ahead_1970]; exact Nat.zero_le _, hn⟩
      | succ j ih =>
        intro hj hn
        by_cases hlt : n < Dt.ahead (1970 + j + 1)
        · obtain ⟨y, h1, h2, h3, h4⟩ := ih (by omega) hlt
          exact ⟨y, h1, by omega, h3, h4⟩
        · exact ⟨1970 + (j + 1), by omega, Nat.le_refl _, by rw [← Nat.add_assoc]; omega, hn⟩
    obtain ⟨y, h1, h2, h3, h4⟩ := step 8029 (Nat.le_refl _) (by rw [show 1970 + 8029 + 1 = 10000 from rfl, Dt.ahead_10000]; exact h)
    exact ⟨y, h1, by omega, h3, h4⟩
  obtain ⟨y, h1, h2, h3, h4⟩ := hy
  have hm : ∃ k l, k ≤ 11 ∧ Dt.ms y k + l = n - Dt.ahead y ∧ l < Dt.dm y (k + 1) := by
    have step : ∀ j, n - Dt.ahead y < Dt.ms y (j + 1) → ∃ k l, k ≤ j ∧ Dt.ms y k + l = n - Dt.ahead y ∧ l < Dt.dm y (k + 1) := by
      intro j
      induction j with
      | zero =>
        intro hn
        refine ⟨0, n - Dt.ahead y, Nat.le_refl _, by simp [Dt.ms], ?_⟩
        rw [Dt.ms_next] at hn
        simpa [Dt.ms] using hn
      | succ j ih =>
        intro hn
        by_cases hlt : n - Dt.ahead y < Dt.ms y (j + 1)
        · obtain ⟨k, l, k1, k2, k3⟩ := ih hlt
          exact ⟨k, l, by omega, k2, k3⟩
        · refine ⟨j + 1, n - Dt.ahead y - Dt.ms y (j + 1), Nat.le_refl _, by omega, ?_⟩
          rw [Dt.ms_next y (j + 1)] at hn
          omega
    have e := Dt.ahead_next y h1
    exact step 11 (by rw [Dt.ms_12]; omega)
  obtain ⟨k, l, k1, k2, k3⟩ := hm
  obtain ⟨p1, p2, p3, p4, p5⟩ := Dt.place h1 h3 h4 k1 k2 k3
  exact ⟨y, k + 1, l + 1, h1, h2, p1, p2, p3, p4, p5⟩
/-- A day of the calendar at the zone 0. -/
theorem of_day (n : Nat) (h : n < 2932897) : ∃ y m k hh mi s : Int, Dt.OfR (86400 * (n : Int)) 0 (some ⟨y, m, k, hh, mi, s, 0⟩) ∧ Dt.DayR (Dt.word (Dt.text ⟨y, m, k, hh, mi, s, 0⟩)) (some n) ∧ Dt.Good ⟨y, m, k, hh, mi, s, 0⟩ := by
  obtain ⟨y, m, k, h1, h2, h3, h4, h5, h6, h7⟩ := has_day n h
  have ho := Dt.OfR.at (u := 86400 * (n : Int)) (z := 0) (t := 0) ⟨by decide, by decide⟩ (by omega) (by decide) h1 h2 h3 h4 h5 h6 h7
  refine ⟨_, _, _, _, _, _, ho, ?_, ho.1⟩
  have hw := Dt.word_is ho.1
  simp only [Int.toNat_natCast] at hw
  rw [h7] at hw
  exact hw

set_option maxHeartbeats 6400000 in
theorem dateDays_walk (day : Int) (wd : (Lit.int .i64 day).wf = true) (w : World) (hp : PW w) (hf : FW w) :
    Calls Tryd.prog 7 #[.int .i64 day] w fun e w' => e = .returned (.bool true) ∧ Below w.heap.size w w' := by
  have HP := Lib.hid hp
  have HF := Lib.hid hf
  clear hp hf wd
  by_cases hneg : day < 0
  · go_enter Tryd.func7, Tryd.ntmps7
    go_wp2_with fail
    refine (awake_any w HP.out).mono ?_
    rintro e w1 ⟨rfl, b1⟩
    have HB1 := Lib.hid b1
    clear b1
    go_wp2
    go_ret
    exact ⟨rfl, HB1.out⟩
  by_cases hbig : 2000000 < day
  · go_enter Tryd.func7, Tryd.ntmps7
    go_wp2_with fail
    refine (awake_any w HP.out).mono ?_
    rintro e w1 ⟨rfl, b1⟩
    have HB1 := Lib.hid b1
    clear b1
    go_wp2
    go_ret
    exact ⟨rfl, HB1.out⟩
  obtain ⟨n, Hn⟩ : ∃ n : Nat, Hid (day = (n : Int)) := ⟨day.toNat, Lib.hid (by omega)⟩
  obtain ⟨nx, Hnx⟩ : ∃ nx : Int, Hid (nx = day + 1) := ⟨_, Lib.hid rfl⟩
  have hn : n ≤ 2000000 := by have := Hn.out; omega
  have hd0 : 0 ≤ day := by omega
  have hd1 : day ≤ 2000000 := by omega
  have hx0 : 0 ≤ nx ∧ nx ≤ 2000001 := by have := Hnx.out; omega
  have i1 : IntKind.i64.wrap (day * 86400) = day * 86400 := IntWalk.i64_in _ (by omega)
  have i2 : IntKind.i64.wrap (day + 1) = nx := by rw [Hnx.out]; exact IntWalk.i64_in _ (by omega)
  have i3 : IntKind.i64.wrap (nx * 86400) = nx * 86400 := IntWalk.i64_in _ (by omega)
  obtain ⟨y, m, k, hh, mi, s, ho, hd, hg⟩ := of_day n (by omega)
  obtain ⟨y', m', k', hh', mi', s', ho', hd', hg'⟩ := of_day (n + 1) (by omega)
  have HO := Lib.hid (show Dt.OfR (day * 86400) 0 (some ⟨y, m, k, hh, mi, s, 0⟩) by rw [Hn.out, Int.mul_comm]; exact ho)
  have HO' := Lib.hid (show Dt.OfR (nx * 86400) 0 (some ⟨y', m', k', hh', mi', s', 0⟩) by rw [Hnx.out, Hn.out, show ((n : Int) + 1) * 86400 = 86400 * ((n + 1 : Nat) : Int) by omega]; exact ho')
  have HG := Lib.hid hg
  have HG' := Lib.hid hg'
  obtain ⟨x, Hx⟩ : ∃ x : ByteArray, Hid (x.data.toList = Dt.word (Dt.text ⟨y, m, k, hh, mi, s, 0⟩)) := ⟨⟨(Dt.word (Dt.text ⟨y, m, k, hh, mi, s, 0⟩)).toArray⟩, Lib.hid rfl⟩
  obtain ⟨x', Hx'⟩ : ∃ x : ByteArray, Hid (x.data.toList = Dt.word (Dt.text ⟨y', m', k', hh', mi', s', 0⟩)) := ⟨⟨(Dt.word (Dt.text ⟨y', m', k', hh', mi', s', 0⟩)).toArray⟩, Lib.hid rfl⟩
  have HD : Hid (Dt.DayR x.data.toList (some n)) := Lib.hid (by rw [Hx.out]; exact hd)
  have HD' : Hid (Dt.DayR x'.data.toList (some (n + 1))) := Lib.hid (by rw [Hx'.out]; exact hd')
  have WF1 : Hid ((Lit.int .i64 (day * 86400)).wf = true) := Lib.hid (i64_wf _ (by omega) (by omega))
  have WF2 : Hid ((Lit.int .i64 (nx * 86400)).wf = true) := Lib.hid (i64_wf _ (by omega) (by omega))
  have c1 : (day == day) = true := by rw [beq_iff_eq]
  have c2 : (nx == nx) = true := by rw [beq_iff_eq]
  have NZ : Hid ((n : Int) = day) := Lib.hid Hn.out.symm
  have NX : Hid (((n + 1 : Nat) : Int) = nx) := Lib.hid (by rw [Hnx.out, Hn.out]; rfl)
  clear ho hd hg ho' hd' hg' hn hd0 hd1 hx0
  go_enter Tryd.func7, Tryd.ntmps7
  go_wp2_with fail
  refine (awake_any w HP.out).mono ?_
  rintro e w1 ⟨rfl, b1⟩
  have HB1 := Lib.hid b1
  clear b1
  go_wp2_with fail
  refine (of_is _ _ _ HO.out WF1.out w1).mono ?_
  rintro e w2 ⟨rfl, b2⟩
  simp only [ofV, dcs]
  have HB2 := Lib.hid (HB1.out.trans (b2.mono HB1.out.size))
  clear b2
  obtain ⟨w3, Hw3⟩ : ∃ w3, Hid (w3 = w2.alloc (.cells #[.int .i64 y, .int .i64 m, .int .i64 k, .int .i64 hh, .int .i64 mi, .int .i64 s, .int .i64 0] 24)) := ⟨_, Lib.hid rfl⟩
  have HB3 : Hid (Below w.heap.size w w3) := Lib.hid (by rw [Hw3.out]; exact HB2.out.alloc HB2.out.size _)
  have HG3 : Hid (Blk w3 w2.heap.size 24 #[.int .i64 y, .int .i64 m, .int .i64 k, .int .i64 hh, .int .i64 mi, .int .i64 s, .int .i64 0]) := Lib.hid (by rw [Hw3.out]; exact Blk.new w2 _ _)
  go_wp2_with fail
  rw [← Hw3.out]
  refine (of_is _ _ _ HO'.out WF2.out w3).mono ?_
  rintro e w4 ⟨rfl, b4⟩
  simp only [ofV, dcs]
  have HB4 := Lib.hid (HB3.out.trans (b4.mono HB3.out.size))
  have HG4 := Lib.hid (HG3.out.below b4 HG3.out.lt)
  clear b4
  obtain ⟨w5, Hw5⟩ : ∃ w5, Hid (w5 = w4.alloc (.cells #[.int .i64 y', .int .i64 m', .int .i64 k', .int .i64 hh', .int .i64 mi', .int .i64 s', .int .i64 0] 24)) := ⟨_, Lib.hid rfl⟩
  have HB5 : Hid (Below w.heap.size w w5) := Lib.hid (by rw [Hw5.out]; exact HB4.out.alloc HB4.out.size _)
  have HG5 : Hid (Blk w5 w2.heap.size 24 #[.int .i64 y, .int .i64 m, .int .i64 k, .int .i64 hh, .int .i64 mi, .int .i64 s, .int .i64 0]) := Lib.hid (by rw [Hw5.out]; exact HG4.out.alloc _)
  have HK5 : Hid (Blk w5 w4.heap.size 24 #[.int .i64 y', .int .i64 m', .int .i64 k', .int .i64 hh', .int .i64 mi', .int .i64 s', .int .i64 0]) := Lib.hid (by rw [Hw5.out]; exact Blk.new w4 _ _)
  have hg5 := HG5.out
  rw [Hw5.out] at hg5
  obtain ⟨x0, x1, x2, x3, x4, x5, x6⟩ := hg5.seven
  clear hg5
  go_wp2_with fail
  clear x0 x1 x2 x3 x4 x5 x6
  rw [← Hw5.out]
  refine (word_any y m k hh mi s 0 HG.out x Hx.out w5 (HP.out.below HB5.out)).mono ?_
  rintro e w6 ⟨rfl, b6⟩
  have HB6 := Lib.hid (HB5.out.trans (b6.mono HB5.out.size))
  have HK6 := Lib.hid (HK5.out.below b6 HK5.out.lt)
  clear b6
  go_wp2_with fail
  refine (day_is x _ HD.out w6 (HF.out.below HB6.out)).mono ?_
  rintro e w7 ⟨rfl, b7⟩
  simp only [dayV]
  rw [NZ.out]
  have HB7 := Lib.hid (HB6.out.trans (b7.mono HB6.out.size))
  have HK7 := Lib.hid (HK6.out.below b7 HK6.out.lt)
  obtain ⟨x0, x1, x2, x3, x4, x5, x6⟩ := HK7.out.seven
  clear b7
  go_wp2_with fail
  clear x0 x1 x2 x3 x4 x5 x6
  refine (word_any y' m' k' hh' mi' s' 0 HG'.out x' Hx'.out w7 (HP.out.below HB7.out)).mono ?_
  rintro e w8 ⟨rfl, b8⟩
  have HB8 := Lib.hid (HB7.out.trans (b8.mono HB7.out.size))
  clear b8
  go_wp2_with fail
  refine (day_is x' _ HD'.out w8 (HF.out.below HB8.out)).mono ?_
  rintro e w9 ⟨rfl, b9⟩
  simp only [dayV]
  have HB9 := Lib.hid (HB8.out.trans (b9.mono HB8.out.size))
  clear b9
  rw [NX.out]
  go_wp2
  go_ret
  exact ⟨rfl, HB9.out⟩
end Go.Proofs.YtgkibkophoikoaaDoor
