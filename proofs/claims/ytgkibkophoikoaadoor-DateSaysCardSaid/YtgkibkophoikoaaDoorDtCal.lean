/- date's within, leap, daysOfMonth, daysBefore, goodDay, goodZone: the walks. -/
import Derived.Test.YtgkibkophoikoaaDoorDtDay
import Derived.Test.YtgkibkophoikoaaDoorRow
import Derived.Test.YtgkibkophoikoaaDoorProg
import Derived.LoopTactic
import Derived.Deep.QuietTactic
import Derived.BigQuiet
namespace Go.Proofs.YtgkibkophoikoaaDoor
open Go.RowKit
set_option linter.unusedVariables false
set_option maxRecDepth 100000

theorem within_any (x lo hi : Int) (w : World) : Calls Tryd.prog 43 #[.int .i64 x, .int .i64 lo, .int .i64 hi] w fun e w' => e = .returned (.bool (decide (lo ≤ x ∧ x ≤ hi))) ∧ w = w' := by
  by_cases h1 : lo ≤ x
  · by_cases h2 : x ≤ hi
    · rw [decide_eq_true (show lo ≤ x ∧ x ≤ hi from ⟨h1, h2⟩)]
      go_enter Tryd.func43, Tryd.ntmps43
      go_wp2
      go_ret
      exact ⟨rfl, rfl⟩
    · rw [decide_eq_false (show ¬ (lo ≤ x ∧ x ≤ hi) from fun h => h2 h.2)]
      go_enter Tryd.func43, Tryd.ntmps43
      go_wp2
      go_ret
      exact ⟨rfl, rfl⟩
  · rw [decide_eq_false (show ¬ (lo ≤ x ∧ x ≤ hi) from fun h => h1 h.1)]
    go_enter Tryd.func43, Tryd.ntmps43
    go_wp2
    go_ret
    exact ⟨rfl, rfl⟩
theorem tmod_nat (n k : Nat) (hk : 0 < k) : (n : Int).tmod (k : Int) = ((n % k : Nat) : Int) := by
  rw [Int.tmod_eq_emod_of_nonneg (by omega)]; exact_mod_cast rfl

set_option maxHeartbeats 800000 in
theorem leap_any (y : Nat) (r : Bool) (hr : r = Dt.leap y) (hy : y ≤ 100000) (w : World) : Calls Tryd.prog 56 #[.int .i64 (y : Int)] w fun e w' => e = .returned (.bool r) ∧ w = w' := by
  have HR := Lib.hid hr
  have t4 : (y : Int).tmod 4 = ((y % 4 : Nat) : Int) := tmod_nat y 4 (by decide)
  have t100 : (y : Int).tmod 100 = ((y % 100 : Nat) : Int) := tmod_nat y 100 (by decide)
  have t400 : (y : Int).tmod 400 = ((y % 400 : Nat) : Int) := tmod_nat y 400 (by decide)
  have hl : r = (y % 4 == 0 && (y % 100 != 0 || y % 400 == 0)) := hr
  have HL := Lib.hid hl
  clear hr hl
  have b4 : y % 4 < 4 := Nat.mod_lt _ (by decide)
  have b100 : y % 100 < 100 := Nat.mod_lt _ (by decide)
  have b400 : y % 400 < 400 := Nat.mod_lt _ (by decide)
  generalize y % 4 = a at *
  generalize y % 100 = b at *
  generalize y % 400 = c at *
  have g1 : ((a : Int) == 0) = (a == 0) := by rw [Bool.eq_iff_iff]; simp
  have g2 : ((b : Int) != 0) = (b != 0) := by rw [Bool.eq_iff_iff]; simp
  have g3 : ((c : Int) == 0) = (c == 0) := by rw [Bool.eq_iff_iff]; simp
  go_enter Tryd.func56, Tryd.ntmps56
  cases h1 : (a == 0) with
  | false =>
    have HE : Hid (r = false) := Lib.hid (by rw [HL.out, h1]; rfl)
    rw [h1] at g1
    clear h1
    go_wp2
    go_ret
    exact ⟨by rw [HE.out]; rfl, rfl⟩
  | true =>
    cases h2 : (b != 0) with
    | true =>
      have HE : Hid (r = true) := Lib.hid (by rw [HL.out, h1, h2]; rfl)
      rw [h1] at g1
      rw [h2] at g2
      clear h1 h2
      go_wp2
      go_ret
      exact ⟨by rw [HE.out]; rfl, rfl⟩
    | false =>
      have HE : Hid (r = (c == 0)) := Lib.hid (by rw [HL.out, h1, h2]; rfl)
      rw [h1] at g1
      rw [h2] at g2
      clear h1 h2
      go_wp2
      go_ret
      exact ⟨by rw [HE.out]; rfl, rfl⟩

set_option maxHeartbeats 800000 in
theorem dm_any (y m : Nat) (r : Int) (hr : r = (Dt.dm y m : Int)) (hy : y ≤ 100000) (hm : m ≤ 100) (w : World) : Calls Tryd.prog 49 #[.int .i64 (y : Int), .int .i64 (m : Int)] w fun e w' => e = .returned (.int .i64 r) ∧ w = w' := by
  by_cases h2 : m = 2
  · obtain ⟨l, Hl⟩ : ∃ l, Hid (l = Dt.leap y) := ⟨_, Lib.hid rfl⟩
    have hl := leap_any y l Hl.out hy
    have HLE := Lib.hid hl
    have hd : r = if l then 29 else 28 := by
      rw [hr, h2, Hl.out]
      unfold Dt.dm
      rw [if_pos rfl]
      split <;> rfl
    have HD := Lib.hid hd
    clear hr hd hl hy hm
    subst h2
    go_enter Tryd.func49, Tryd.ntmps49
    go_wp2_with fail
    refine (HLE.out _).mono ?_
    rintro e w' ⟨rfl, rfl⟩
    cases l with
    | true =>
      go_wp2
      go_ret
      exact ⟨by rw [HD.out]; rfl, rfl⟩
    | false =>
      go_wp2
      go_ret
      exact ⟨by rw [HD.out]; rfl, rfl⟩
  · have g2 : ((m : Int) == 2) = false := by rw [beq_eq_false_iff_ne]; omega
    by_cases hs : m = 4 ∨ m = 6 ∨ m = 9 ∨ m = 11
    · have hd : r = 30 := by rw [hr]; unfold Dt.dm; rw [if_neg h2, if_pos hs]; rfl
      have HD := Lib.hid hd
      clear hr hd h2
      rcases hs with rfl | rfl | rfl | rfl
      all_goals
        clear g2
        go_enter Tryd.func49, Tryd.ntmps49
        go_wp2
        go_ret
        exact ⟨by rw [HD.out]; rfl, rfl⟩
    · have hd : r = 31 := by rw [hr]; unfold Dt.dm; rw [if_neg h2, if_neg hs]; rfl
      have HD := Lib.hid hd
      have g4 : ((m : Int) == 4) = false := by rw [beq_eq_false_iff_ne]; omega
      have g6 : ((m : Int) == 6) = false := by rw [beq_eq_false_iff_ne]; omega
      have g9 : ((m : Int) == 9) = false := by rw [beq_eq_false_iff_ne]; omega
      have g11 : ((m : Int) == 11) = false := by rw [beq_eq_false_iff_ne]; omega
      clear hr hd h2 hs
      go_enter Tryd.func49, Tryd.ntmps49
      go_wp2
      go_ret
      exact ⟨by rw [HD.out]; rfl, rfl⟩

theorem goodZone_any (z : Int) (w : World) : Calls Tryd.prog 26 #[.int .i64 z] w fun e w' => e = .returned (.bool (decide (Dt.GZone z))) ∧ w = w' := by
  have H := Lib.hid (within_any z (-1439) 1439)
  have HB : Hid (decide (-1439 ≤ z ∧ z ≤ 1439) = decide (Dt.GZone z)) := Lib.hid (decide_eq_decide.2 Iff.rfl)
  go_enter Tryd.func26, Tryd.ntmps26
  go_wp2_with fail
  refine (H.out _).mono ?_
  rintro e w' ⟨rfl, rfl⟩
  rw [HB.out]
  go_wp2
  go_ret
  exact ⟨rfl, rfl⟩

set_option maxHeartbeats 800000 in
theorem goodDay_any (y m k : Int) (w : World) : Calls Tryd.prog 31 #[.int .i64 y, .int .i64 m, .int .i64 k] w fun e w' => e = .returned (.bool (decide (Dt.GDay y m k))) ∧ w = w' := by
  obtain ⟨b, HB⟩ : ∃ b, Hid (b = decide (Dt.GDay y m k)) := ⟨_, Lib.hid rfl⟩
  rw [← HB.out]
  have HW := Lib.hid (within_any)
  by_cases h1 : 1970 ≤ y ∧ y ≤ 9999
  · have e1 : decide (1970 ≤ y ∧ y ≤ 9999) = true := decide_eq_true h1
    by_cases h2 : 1 ≤ m ∧ m ≤ 12
    · have e2 : decide (1 ≤ m ∧ m ≤ 12) = true := decide_eq_true h2
      obtain ⟨Y, rfl⟩ : ∃ Y : Nat, y = (Y : Int) := ⟨y.toNat, by omega⟩
      obtain ⟨M, rfl⟩ : ∃ M : Nat, m = (M : Int) := ⟨m.toNat, by omega⟩
      obtain ⟨d, Hd⟩ : ∃ d : Int, Hid (d = (Dt.dm Y M : Int)) := ⟨_, Lib.hid rfl⟩
      have HD := Lib.hid (dm_any Y M d Hd.out (by omega) (by omega))
      have e3 : b = decide (1 ≤ k ∧ k ≤ d) := by
        rw [HB.out, Hd.out]
        apply decide_eq_decide.2
        unfold Dt.GDay
        simp only [Int.toNat_natCast]
        constructor
        · rintro ⟨_, _, _, _, h5, h6⟩; exact ⟨h5, h6⟩
        · rintro ⟨h5, h6⟩; exact ⟨h1.1, h1.2, h2.1, h2.2, h5, h6⟩
      have E3 := Lib.hid e3
      have E1 := Lib.hid e1
      have E2 := Lib.hid e2
      clear e1 e2 e3 h1 h2
      go_enter Tryd.func31, Tryd.ntmps31
      go_wp2_with fail
      refine (HW.out _ _ _ _).mono ?_
      rintro e w' ⟨rfl, rfl⟩
      rw [E1.out]
      go_wp2_with fail
      refine (HW.out _ _ _ _).mono ?_
      rintro e w' ⟨rfl, rfl⟩
      rw [E2.out]
      go_wp2_with fail
      refine (HD.out _).mono ?_
      rintro e w' ⟨rfl, rfl⟩
      go_wp2_with fail
      refine (HW.out _ _ _ _).mono ?_
      rintro e w' ⟨rfl, rfl⟩
      rw [← E3.out]
      go_wp2
      go_ret
      exact ⟨rfl, rfl⟩
    · have e2 : decide (1 ≤ m ∧ m ≤ 12) = false := decide_eq_false h2
      have e3 : b = false := by rw [HB.out]; exact decide_eq_false (fun h => h2 ⟨h.2.2.1, h.2.2.2.1⟩)
      have E1 := Lib.hid e1
      have E2 := Lib.hid e2
      have E3 := Lib.hid e3
      clear e1 e2 e3 h1 h2
      go_enter Tryd.func31, Tryd.ntmps31
      go_wp2_with fail
      refine (HW.out _ _ _ _).mono ?_
      rintro e w' ⟨rfl, rfl⟩
      rw [E1.out]
      go_wp2_with fail
      refine (HW.out _ _ _ _).mono ?_
      rintro e w' ⟨rfl, rfl⟩
      rw [E2.out]
      go_wp2
      go_ret
      exact ⟨by rw [E3.out]; rfl, rfl⟩
  · have e1 : decide (1970 ≤ y ∧ y ≤ 9999) = false := decide_eq_false h1
    have e3 : b = false := by rw [HB.out]; exact decide_eq_false (fun h => h1 ⟨h.1, h.2.1⟩)
    have E1 := Lib.hid e1
    have E3 := Lib.hid e3
    clear e1 e3 h1
    go_enter Tryd.func31, Tryd.ntmps31
    go_wp2_with fail
    refine (HW.out _ _ _ _).mono ?_
    rintro e w' ⟨rfl, rfl⟩
    rw [E1.out]
    go_wp2
    go_ret
    exact ⟨by rw [E3.out]; rfl, rfl⟩
end Go.Proofs.YtgkibkophoikoaaDoor
