/- date's daysBefore, dayNumber, dayOf, dayStart, zoneSeconds: the walks. -/
import Derived.Test.YtgkibkophoikoaaDoorDtCal
import Derived.OwnWalk
namespace Go.Proofs.YtgkibkophoikoaaDoor
open Go.RowKit
set_option linter.unusedVariables false
set_option maxRecDepth 100000

theorem bef_le (z : Nat) (h : z ≤ 100000) : Dt.bef z ≤ 36700000 := by unfold Dt.bef; omega
theorem bef_int (z : Nat) : (365 * (z : Int) + ((z / 4 : Nat) : Int)) - ((z / 100 : Nat) : Int) + ((z / 400 : Nat) : Int) = (Dt.bef z : Int) := by
  unfold Dt.bef
  have : z / 100 ≤ z / 4 := by omega
  omega
theorem quo_nat (n k : Nat) : (n : Int) / (k : Int) = ((n / k : Nat) : Int) := by exact_mod_cast rfl

set_option maxHeartbeats 800000 in
theorem before_any (y z : Nat) (hz : y = z + 1) (r : Int) (hr : r = (Dt.bef z : Int)) (hy : y ≤ 100000) (w : World) : Calls Tryd.prog 48 #[.int .i64 (y : Int)] w fun e w' => e = .returned (.int .i64 r) ∧ w = w' := by
  have e1 : (y : Int) - 1 = (z : Int) := by omega
  have q4 : (z : Int) / 4 = ((z / 4 : Nat) : Int) := quo_nat z 4
  have q100 : (z : Int) / 100 = ((z / 100 : Nat) : Int) := quo_nat z 100
  have q400 : (z : Int) / 400 = ((z / 400 : Nat) : Int) := quo_nat z 400
  have HI := Lib.hid (bef_int z)
  have hz1 : z ≤ 100000 := by omega
  have b4 : z / 4 ≤ z := Nat.div_le_self _ _
  have b100 : z / 100 ≤ z := Nat.div_le_self _ _
  have b400 : z / 400 ≤ z := Nat.div_le_self _ _
  rw [← HI.out] at hr
  clear hz HI
  generalize z / 4 = a at *
  generalize z / 100 = b at *
  generalize z / 400 = c at *
  have HR := Lib.hid hr
  clear hr
  have i1 : IntKind.i64.wrap (z : Int) = (z : Int) := IntWalk.i64_in _ (by omega)
  have i2 : IntKind.i64.wrap (365 * (z : Int)) = 365 * (z : Int) := IntWalk.i64_in _ (by omega)
  have i3 : IntKind.i64.wrap (365 * (z : Int) + (a : Int)) = 365 * (z : Int) + (a : Int) := IntWalk.i64_in _ (by omega)
  have i4 : IntKind.i64.wrap (365 * (z : Int) + (a : Int) - (b : Int)) = 365 * (z : Int) + (a : Int) - (b : Int) := IntWalk.i64_in _ (by omega)
  have i5 : IntKind.i64.wrap (365 * (z : Int) + (a : Int) - (b : Int) + (c : Int)) = 365 * (z : Int) + (a : Int) - (b : Int) + (c : Int) := IntWalk.i64_in _ (by omega)
  go_enter Tryd.func48, Tryd.ntmps48
  go_wp2
  go_ret
  exact ⟨by rw [HR.out]; rfl, rfl⟩

theorem msum_le (y k : Nat) : Dt.ms y k ≤ 31 * k := by
  induction k with
  | zero => exact Nat.le_refl _
  | succ k ih =>
    rw [Dt.ms_next]
    have := (Dt.dm_pos y (k + 1)).2
    omega

set_option maxHeartbeats 1600000 in
theorem dayNumber_any (y m k : Nat) (r : Int) (hr : r = (Dt.num y m k : Int)) (hy : 1970 ≤ y) (hy2 : y ≤ 10000) (hm : 1 ≤ m) (hm2 : m ≤ 12) (hk : 1 ≤ k) (hk2 : k ≤ 31) (w : World) :
    Calls Tryd.prog 29 #[.int .i64 (y : Int), .int .i64 (m : Int), .int .i64 (k : Int)] w fun e w' => e = .returned (.int .i64 r) ∧ w = w' := by
  obtain ⟨b1, Hb1⟩ : ∃ b : Int, Hid (b = (Dt.bef (y - 1) : Int)) := ⟨_, Lib.hid rfl⟩
  obtain ⟨b0, Hb0⟩ : ∃ b : Int, Hid (b = (Dt.bef 1969 : Int)) := ⟨_, Lib.hid rfl⟩
  have HC1 := Lib.hid (before_any y (y - 1) (by omega) b1 Hb1.out (by omega))
  have HC0 := Lib.hid (before_any 1970 1969 rfl b0 Hb0.out (by decide))
  obtain ⟨n0, Hn0⟩ : ∃ n : Nat, Hid (n = Dt.ahead y + (k - 1)) := ⟨_, Lib.hid rfl⟩
  have hge : 719162 ≤ Dt.bef (y - 1) := by
    have := Dt.bef_ge (y - 1970)
    rwa [show 1969 + (y - 1970) = y - 1 by omega] at this
  have hle := bef_le (y - 1) (by omega)
  have h0 : b0 = 719162 := by rw [Hb0.out]; decide +kernel
  have hah := Dt.ahead_bef y
  have hb1 := Hb1.out
  have hn0 := Hn0.out
  have s1 : b1 - b0 + (k : Int) - 1 = (n0 : Int) := by omega
  have hb1r : 719162 ≤ b1 ∧ b1 ≤ 36700000 := by omega
  have hn0r : n0 ≤ 36700100 := by omega
  have hr' : r = ((n0 + Dt.ms y (m - 1) : Nat) : Int) := by rw [hr, hn0]; unfold Dt.num; omega
  have HR := Lib.hid hr'
  have i1 : IntKind.i64.wrap (b1 - b0) = b1 - b0 := IntWalk.i64_in _ (by omega)
  have i2 : IntKind.i64.wrap (b1 - b0 + (k : Int)) = b1 - b0 + (k : Int) := IntWalk.i64_in _ (by omega)
  have i3 : IntKind.i64.wrap (b1 - b0 + (k : Int) - 1) = b1 - b0 + (k : Int) - 1 := IntWalk.i64_in _ (by omega)
  have HD := Lib.hid (fun (j : Nat) (d : Int) (hd : d = (Dt.dm y j : Int)) (hj : j ≤ 12) => dm_any y j d hd (by omega) (by omega))
  clear hr hr' hge hle h0 hah hb1 hn0
  go_enter Tryd.func29, Tryd.ntmps29
  go_wp2_with fail
  refine (HC1.out _).mono ?_
  rintro e w1 ⟨rfl, rfl⟩
  go_wp2_with fail
  refine (HC0.out _).mono ?_
  rintro e w1 ⟨rfl, rfl⟩
  go_wp2
  go_loop [7, 8] (fun s7 s8 => ∃ j t : Nat, 1 ≤ j ∧ j ≤ m ∧ t ≤ 31 * (j - 1) ∧ s7 = .int .i64 ((n0 + t : Nat) : Int) ∧ s8 = .int .i64 j ∧ Hid (t = Dt.ms y (j - 1))) (fun _ s8 => m - (intOf s8).toNat)
  case atStart => exact ⟨1, 0, Nat.le_refl _, hm, Nat.zero_le _, rfl, rfl, Lib.hid rfl⟩
  case round =>
    obtain ⟨j, t, h1, h2, ht, rfl, rfl, HT⟩ := hrel
    clear s1 i1 i2 i3
    by_cases hlt : j < m
    · obtain ⟨d, Hd⟩ : ∃ d : Nat, Hid (d = Dt.dm y j) := ⟨_, Lib.hid rfl⟩
      have hd31 : d ≤ 31 := by rw [Hd.out]; exact (Dt.dm_pos y j).2
      have HDJ := Lib.hid (HD.out j (d : Int) (by rw [Hd.out]) (by omega))
      have HN : Hid (t + d = Dt.ms y (j + 1 - 1)) := Lib.hid (by
        rw [Nat.add_sub_cancel, HT.out, Hd.out]
        obtain ⟨q, rfl⟩ : ∃ q, j = q + 1 := ⟨j - 1, by omega⟩
        rfl)
      have i4 : IntKind.i64.wrap (((n0 + t : Nat) : Int) + (d : Int)) = ((n0 + t : Nat) : Int) + (d : Int) := IntWalk.i64_in _ (by omega)
      obtain ⟨u, hu⟩ : ∃ u : Nat, n0 + t = u := ⟨_, rfl⟩
      have hu2 : u ≤ 36800000 := by omega
      have HU := Lib.hid hu
      rw [hu] at i4 ⊢
      clear hu
      go_wp2_with fail
      refine (HDJ.out _).mono ?_
      rintro e w1 ⟨rfl, rfl⟩
      go_wp2
      go_round
      case rel => exact ⟨j + 1, t + d, by omega, by omega, by omega, by rw [← Nat.add_assoc, HU.out]; go_num, by go_num, HN⟩
      case measure => simp [intOf]; omega
    · obtain rfl : j = m := by omega
      have HE : Hid (r = ((n0 + t : Nat) : Int)) := Lib.hid (by rw [HR.out, HT.out])
      go_wp2
      go_ret
      exact ⟨by rw [HE.out]; rfl, rfl⟩

theorem num_first (y : Nat) : Dt.num y 1 1 = Dt.ahead y := by unfold Dt.num; simp [Dt.ms]

/-- What dayOf hands back. -/
def DayEnd (n : Nat) (w : World) (e : Ending) (w' : World) : Prop := ∃ y m k : Nat, e = .returned (.tuple #[.int .i64 (y : Int), .int .i64 (m : Int), .int .i64 (k : Int)]) ∧ w = w' ∧ 1970 ≤ y ∧ y ≤ 9999 ∧ 1 ≤ m ∧ m ≤ 12 ∧ 1 ≤ k ∧ k ≤ Dt.dm y m ∧ Dt.num y m k = n

set_option maxHeartbeats 1600000 in
theorem dayOf_any (n : Nat) (hn : n < 2932897) (w : World) : Calls Tryd.prog 30 #[.int .i64 (n : Int)] w (DayEnd n w) := by
  have q : (n : Int) / 366 = ((n / 366 : Nat) : Int) := quo_nat n 366
  have hf := Dt.ahead_first n
  have htop := Dt.ahead_10000
  obtain ⟨a, Ha⟩ : ∃ a, Hid (a = n / 366) := ⟨_, Lib.hid rfl⟩
  have ha2 : a ≤ 8013 := by rw [Ha.out]; omega
  rw [← Ha.out] at q hf
  have i1 : IntKind.i64.wrap (1970 + (a : Int)) = 1970 + (a : Int) := IntWalk.i64_in _ (by omega)
  have i0 : IntKind.i64.wrap (a : Int) = (a : Int) := IntWalk.i64_in _ (by omega)
  have hst : 1970 + a ≤ 9999 := by
    refine Classical.byContradiction fun h => ?_
    have := Dt.ahead_le (y := 10000) (z := 1970 + a) (by decide) (by omega)
    omega
  have HN := Lib.hid (fun (y : Nat) (h1 : 1970 ≤ y) (h2 : y ≤ 10000) => dayNumber_any y 1 1 (Dt.ahead y : Int) (by rw [num_first]) h1 h2 (by decide) (by decide) (by decide) (by decide))
  have HF := Lib.hid hf
  have HTOP := Lib.hid htop
  clear hf htop
  go_enter Tryd.func30, Tryd.ntmps30
  go_wp2
  go_loop [2] (fun s2 => ∃ y : Nat, 1970 ≤ y ∧ y ≤ 9999 ∧ s2 = .int .i64 y ∧ Hid (Dt.ahead y ≤ n)) (fun s2 => 10000 - (intOf s2).toNat)
  case atStart => exact ⟨1970 + a, by omega, hst, by go_num, HF⟩
  case round =>
    obtain ⟨y, h1, h2, rfl, HA⟩ := hrel
    clear q i0 i1 HF
    have HN1 := Lib.hid (HN.out (y + 1) (by omega) (by omega))
    obtain ⟨x, Hx⟩ : ∃ x : Nat, Hid (x = Dt.ahead (y + 1)) := ⟨_, Lib.hid rfl⟩
    have HN1' : Hid (∀ w, Calls Tryd.prog 29 #[.int .i64 ((y : Int) + 1), .int .i64 1, .int .i64 1] w fun e w' => e = .returned (.int .i64 (x : Int)) ∧ w = w') := Lib.hid (fun w => by
      have := HN1.out w
      rw [← Hx.out] at this
      exact this)
    clear HN1
    by_cases hle : x ≤ n
    · have hy3 : y + 1 ≤ 9999 := by
        refine Classical.byContradiction fun h => ?_
        have e1 : y + 1 = 10000 := by omega
        have e2 := Hx.out
        rw [e1, HTOP.out] at e2
        omega
      have HX : Hid (Dt.ahead (y + 1) ≤ n) := Lib.hid (by rw [← Hx.out]; exact hle)
      go_wp2_with fail
      refine (HN1'.out _).mono ?_
      rintro e w1 ⟨rfl, rfl⟩
      go_wp2
      go_round
      case rel => exact ⟨y + 1, by omega, hy3, by go_num, HX⟩
      case measure => simp [intOf]; omega
    · have HB : Hid (n < Dt.ahead (y + 1)) := Lib.hid (by rw [← Hx.out]; omega)
      obtain ⟨z, Hz⟩ : ∃ z : Nat, Hid (z = Dt.ahead y) := ⟨_, Lib.hid rfl⟩
      have hzn : z ≤ n := by rw [Hz.out]; exact HA.out
      have HN0 : Hid (∀ w, Calls Tryd.prog 29 #[.int .i64 (y : Int), .int .i64 1, .int .i64 1] w fun e w' => e = .returned (.int .i64 (z : Int)) ∧ w = w') := Lib.hid (fun w => by
        have := HN.out y h1 (by omega) w
        rw [← Hz.out] at this
        exact this)
      obtain ⟨L, HL⟩ : ∃ L : Nat, Hid (L = n - z) := ⟨_, Lib.hid rfl⟩
      have s1 : (n : Int) - (z : Int) = (L : Int) := by have := HL.out; omega
      have hL : L < 2932897 := by rw [HL.out]; omega
      have HD := Lib.hid (fun (j : Nat) (d : Int) (hd : d = (Dt.dm y j : Int)) (hj : j ≤ 12) => dm_any y j d hd (by omega) (by omega))
      have HL2 : Hid (L = n - Dt.ahead y) := Lib.hid (by rw [HL.out, Hz.out])
      have H12 : Hid (∀ k l : Nat, k ≤ 12 → Dt.ms y k + l = n - Dt.ahead y → k ≤ 11) := Lib.hid (fun k l hk hl => Dt.left_lt h1 HA.out HB.out hk hl)
      go_wp2_with fail
      refine (HN1'.out _).mono ?_
      rintro e w1 ⟨rfl, rfl⟩
      go_wp2_with fail
      refine (HN0.out _).mono ?_
      rintro e w1 ⟨rfl, rfl⟩
      go_wp2
      go_loop [5, 3] (fun s5 s3 => ∃ k l : Nat, k ≤ 11 ∧ l ≤ L ∧ s5 = .int .i64 l ∧ s3 = .int .i64 ((k + 1 : Nat) : Int) ∧ Hid (Dt.ms y k + l = n - Dt.ahead y)) (fun _ s3 => 13 - (intOf s3).toNat)
      case atStart => exact ⟨0, L, by omega, Nat.le_refl _, rfl, rfl, Lib.hid (by rw [HL2.out]; simp [Dt.ms])⟩
      case round =>
        obtain ⟨k, l, hk, hl, rfl, rfl, HK⟩ := hrel
        clear s1
        obtain ⟨d, Hd⟩ : ∃ d : Nat, Hid (d = Dt.dm y (k + 1)) := ⟨_, Lib.hid rfl⟩
        obtain ⟨M, HM⟩ : ∃ M : Nat, Hid (M = k + 1) := ⟨_, Lib.hid rfl⟩
        rw [← HM.out]
        have hM : M ≤ 12 := by rw [HM.out]; omega
        have hd31 : d ≤ 31 := by rw [Hd.out]; exact (Dt.dm_pos y (k + 1)).2
        have HDJ := Lib.hid (HD.out M (d : Int) (by rw [Hd.out, HM.out]) hM)
        by_cases hge : d ≤ l
        · have HK2 : Hid (Dt.ms y (k + 1) + (l - d) = n - Dt.ahead y) := Lib.hid (by
            rw [Dt.ms_next, ← HK.out, ← Hd.out]; omega)
          have hk11 : k + 1 ≤ 11 := H12.out (k + 1) (l - d) (by omega) HK2.out
          obtain ⟨p, Hp⟩ : ∃ p : Nat, Hid (p = l - d) := ⟨_, Lib.hid rfl⟩
          have hp : (l : Int) - (d : Int) = (p : Int) := by have := Hp.out; omega
          rw [← Hp.out] at HK2
          have hpL : p ≤ L := by rw [Hp.out]; omega
          go_wp2_with fail
          refine (HDJ.out _).mono ?_
          rintro e w1 ⟨rfl, rfl⟩
          go_wp2_with fail
          refine (HDJ.out _).mono ?_
          rintro e w1 ⟨rfl, rfl⟩
          go_wp2
          go_round
          case rel => exact ⟨k + 1, p, hk11, hpL, by first | rfl | (rw [hp]), by rw [← HM.out]; go_num, HK2⟩
          case measure => simp [intOf]; omega
        · have HP := Lib.hid (Dt.place h1 HA.out HB.out hk HK.out (by rw [← Hd.out]; omega))
          go_wp2_with fail
          refine (HDJ.out _).mono ?_
          rintro e w1 ⟨rfl, rfl⟩
          go_wp2
          go_ret3
          obtain ⟨p1, p2, p3, p4, p5⟩ := HP.out
          rw [← HM.out] at p1 p2 p4 p5
          exact ⟨y, M, l + 1, rfl, rfl, h1, h2, p1, p2, p3, p4, p5⟩

theorem dayStart_any (n : Int) (h0 : 0 ≤ n) (h1 : n ≤ 2932897) (w : World) : Calls Tryd.prog 28 #[.int .i64 n] w fun e w' => e = .returned (.int .i64 (n * 86400)) ∧ w = w' := by
  have i1 : IntKind.i64.wrap (n * 86400) = n * 86400 := IntWalk.i64_in _ (by omega)
  go_enter Tryd.func28, Tryd.ntmps28
  go_wp2
  go_ret
  exact ⟨rfl, rfl⟩
theorem zoneSeconds_any (z : Int) (h : Dt.GZone z) (w : World) : Calls Tryd.prog 27 #[.int .i64 z] w fun e w' => e = .returned (.int .i64 (z * 60)) ∧ w = w' := by
  obtain ⟨h1, h2⟩ := h
  have i1 : IntKind.i64.wrap (z * 60) = z * 60 := IntWalk.i64_in _ (by omega)
  go_enter Tryd.func27, Tryd.ntmps27
  go_wp2
  go_ret
  exact ⟨rfl, rfl⟩
end Go.Proofs.YtgkibkophoikoaaDoor
