/- The reference's leap, days, ahead: the walks. -/
import Derived.Test.YtgkibkophoikoaaDoorDtOf
namespace Go.Proofs.YtgkibkophoikoaaDoor
open Go.RowKit
set_option linter.unusedVariables false
set_option maxRecDepth 100000

set_option maxHeartbeats 800000 in
theorem rleap_any (y : Nat) (r : Bool) (hr : r = Dt.leap y) (hy : y ≤ 100000) (w : World) : Calls Tryd.prog 51 #[.int .i64 (y : Int)] w fun e w' => e = .returned (.bool r) ∧ w = w' := by
  have HR := Lib.hid hr
  have t4 : (y : Int).tmod 4 = ((y % 4 : Nat) : Int) := tmod_nat y 4 (by decide)
  have t100 : (y : Int).tmod 100 = ((y % 100 : Nat) : Int) := tmod_nat y 100 (by decide)
  have t400 : (y : Int).tmod 400 = ((y % 400 : Nat) : Int) := tmod_nat y 400 (by decide)
  have hl : r = (y % 4 == 0 && (y % 100 != 0 || y % 400 == 0)) := hr
  have HL := Lib.hid hl
  clear hr hl
  have b4 : y % 4 < 4 := Nat.mod_lt _ (by decide)
  have b100 : y % 100 < 100 := Nat.mod_lt _ (by decide)
  have b400 : y % 400 < 400 := Nat.mod_lt _ (by decide)
  generalize y % 4 = a at *
  generalize y % 100 = b at *
  generalize y % 400 = c at *
  have g1 : ((a : Int) == 0) = (a == 0) := by rw [Bool.eq_iff_iff]; simp
  have g2 : ((b : Int) != 0) = (b != 0) := by rw [Bool.eq_iff_iff]; simp
  have g3 : ((c : Int) == 0) = (c == 0) := by rw [Bool.eq_iff_iff]; simp
  go_enter Tryd.func51, Tryd.ntmps51
  cases h1 : (a == 0) with
  | false =>
    have HE : Hid (r = false) := Lib.hid (by rw [HL.out, h1]; rfl)
    rw [h1] at g1
    clear h1
    go_wp2
    go_ret
    exact ⟨by rw [HE.out]; rfl, rfl⟩
  | true =>
    cases h2 : (b != 0) with
    | true =>
      have HE : Hid (r = true) := Lib.hid (by rw [HL.out, h1, h2]; rfl)
      rw [h1] at g1
      rw [h2] at g2
      clear h1 h2
      go_wp2
      go_ret
      exact ⟨by rw [HE.out]; rfl, rfl⟩
    | false =>
      have HE : Hid (r = (c == 0)) := Lib.hid (by rw [HL.out, h1, h2]; rfl)
      rw [h1] at g1
      rw [h2] at g2
      clear h1 h2
      go_wp2
      go_ret
      exact ⟨by rw [HE.out]; rfl, rfl⟩


set_option maxHeartbeats 1600000 in
theorem rdays_any (y m : Nat) (r : Int) (hr : r = (Dt.dm y m : Int)) (hy : y ≤ 100000) (hm1 : 1 ≤ m) (hm2 : m ≤ 12) (w : World) : Calls Tryd.prog 37 #[.int .i64 (y : Int), .int .i64 (m : Int)] w fun e w' => e = .returned (.int .i64 r) ∧ Below w.heap.size w w' := by
  have HBEL : Hid (∀ o, Below w.heap.size w (w.alloc o)) := Lib.hid (fun o => (Below.refl _ _).alloc (Nat.le_refl _) o)
  by_cases h2 : m = 2
  · obtain ⟨l, Hl⟩ : ∃ l, Hid (l = Dt.leap y) := ⟨_, Lib.hid rfl⟩
    have HLE := Lib.hid (rleap_any y l Hl.out hy)
    have hd : r = if l then 29 else 28 := by
      rw [hr, h2, Hl.out]
      unfold Dt.dm
      rw [if_pos rfl]
      split <;> rfl
    have HD := Lib.hid hd
    clear hr hd hy hm1 hm2
    subst h2
    go_enter Tryd.func37, Tryd.ntmps37
    go_wp2_with fail
    refine (HLE.out _).mono ?_
    rintro e w' ⟨rfl, rfl⟩
    cases l with
    | true =>
      go_wp2
      go_ret
      exact ⟨by rw [HD.out]; rfl, HBEL.out _⟩
    | false =>
      go_wp2
      go_ret
      exact ⟨by rw [HD.out]; rfl, HBEL.out _⟩
  · have hs : m = 1 ∨ m = 3 ∨ m = 4 ∨ m = 5 ∨ m = 6 ∨ m = 7 ∨ m = 8 ∨ m = 9 ∨ m = 10 ∨ m = 11 ∨ m = 12 := by omega
    clear h2 hm1 hm2
    rcases hs with rfl | rfl | rfl | rfl | rfl | rfl | rfl | rfl | rfl | rfl | rfl
    all_goals
      have HD := Lib.hid hr
      clear hr hy
      go_enter Tryd.func37, Tryd.ntmps37
      go_wp2
      go_ret
      exact ⟨by rw [HD.out]; rfl, HBEL.out _⟩

set_option maxHeartbeats 1600000 in
theorem rahead_any (y : Nat) (r : Int) (hr : r = (Dt.ahead y : Int)) (h1 : 1970 ≤ y) (h2 : y ≤ 10000) (w : World) : Calls Tryd.prog 36 #[.int .i64 (y : Int)] w fun e w' => e = .returned (.int .i64 r) ∧ w = w' := by
  obtain ⟨q, hq⟩ : ∃ q : Nat, (y : Int) - 1970 = (q : Int) := ⟨y - 1970, by omega⟩
  obtain ⟨z, hz⟩ : ∃ z : Nat, (y : Int) - 1 = (z : Int) := ⟨y - 1, by omega⟩
  have q4 : (z : Int) / 4 = ((z / 4 : Nat) : Int) := quo_nat z 4
  have q100 : (z : Int) / 100 = ((z / 100 : Nat) : Int) := quo_nat z 100
  have q400 : (z : Int) / 400 = ((z / 400 : Nat) : Int) := quo_nat z 400
  have b4 : z / 4 ≤ z := Nat.div_le_self _ _
  have b100 : z / 100 ≤ z / 4 := by omega
  have b400 : z / 400 ≤ z := Nat.div_le_self _ _
  have hge : 719162 ≤ Dt.bef z := by
    have := Dt.bef_ge q
    rwa [show 1969 + q = z by omega] at this
  have hr' : r = (q : Int) * 365 + (((z / 4 : Nat) : Int) - ((z / 100 : Nat) : Int) + ((z / 400 : Nat) : Int)) - 477 := by
    rw [hr, Dt.ahead_bef, show y - 1 = z by omega]
    unfold Dt.bef at hge ⊢
    omega
  have HR := Lib.hid hr'
  have hq2 : q ≤ 8030 := by omega
  have hz2 : z ≤ 9999 := by omega
  clear hr hr' hge
  generalize z / 4 = a at *
  generalize z / 100 = b at *
  generalize z / 400 = c at *
  have i0 : IntKind.i64.wrap (q : Int) = (q : Int) := IntWalk.i64_in _ (by omega)
  have i1 : IntKind.i64.wrap ((q : Int) * 365) = (q : Int) * 365 := IntWalk.i64_in _ (by omega)
  have i2 : IntKind.i64.wrap (z : Int) = (z : Int) := IntWalk.i64_in _ (by omega)
  have i3 : IntKind.i64.wrap ((a : Int) - (b : Int)) = (a : Int) - (b : Int) := IntWalk.i64_in _ (by omega)
  have i4 : IntKind.i64.wrap ((a : Int) - (b : Int) + (c : Int)) = (a : Int) - (b : Int) + (c : Int) := IntWalk.i64_in _ (by omega)
  have i5 : IntKind.i64.wrap ((q : Int) * 365 + ((a : Int) - (b : Int) + (c : Int))) = (q : Int) * 365 + ((a : Int) - (b : Int) + (c : Int)) := IntWalk.i64_in _ (by omega)
  have i6 : IntKind.i64.wrap ((q : Int) * 365 + ((a : Int) - (b : Int) + (c : Int)) - 477) = (q : Int) * 365 + ((a : Int) - (b : Int) + (c : Int)) - 477 := IntWalk.i64_in _ (by omega)
  clear h1 h2
  go_enter Tryd.func36, Tryd.ntmps36
  go_wp2
  go_ret
  exact ⟨by rw [HR.out]; rfl, rfl⟩
end Go.Proofs.YtgkibkophoikoaaDoor
