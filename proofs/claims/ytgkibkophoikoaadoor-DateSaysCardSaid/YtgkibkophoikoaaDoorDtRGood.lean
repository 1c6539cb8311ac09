/- The reference's GoodDate: the walk. -/
import Derived.Test.YtgkibkophoikoaaDoorDtRCal
import Derived.Test.YtgkibkophoikoaaDoorDtGdB
import Derived.Test.YtgkibkophoikoaaDoorFlags
import Derived.Deep.QuietTactic
import Derived.BigQuiet
namespace Go.Proofs.YtgkibkophoikoaaDoor
open Go.RowKit
set_option linter.unusedVariables false
set_option maxRecDepth 100000

set_option maxHeartbeats 6400000 in
theorem rgood_any (y m k hh mi s z : Int) (w : World) : Calls Tryd.prog 19 #[.agg #[.int .i64 y, .int .i64 m, .int .i64 k, .int .i64 hh, .int .i64 mi, .int .i64 s, .int .i64 z]] w fun e w' => e = .returned (.bool (decide (Dt.Good ⟨y, m, k, hh, mi, s, z⟩))) ∧ Below w.heap.size w w' := by
  obtain ⟨r, HR⟩ : ∃ r, Hid (r = decide (Dt.Good ⟨y, m, k, hh, mi, s, z⟩)) := ⟨_, Lib.hid rfl⟩
  rw [← HR.out]
  have HNO : Hid (¬ Dt.Good ⟨y, m, k, hh, mi, s, z⟩ → r = false) := Lib.hid (fun h => by rw [HR.out]; exact decide_eq_false h)
  obtain ⟨w1, Hw1⟩ : ∃ w1, Hid (w1 = w.alloc (.cells #[.int .i64 y, .int .i64 m, .int .i64 k, .int .i64 hh, .int .i64 mi, .int .i64 s, .int .i64 z] 33)) := ⟨_, Lib.hid rfl⟩
  have HB1 : Hid (Below w.heap.size w w1) := Lib.hid (by rw [Hw1.out]; exact (Below.refl _ _).alloc (Nat.le_refl _) _)
  have HG1 : Hid (Blk w1 w.heap.size 33 #[.int .i64 y, .int .i64 m, .int .i64 k, .int .i64 hh, .int .i64 mi, .int .i64 s, .int .i64 z]) := Lib.hid (by rw [Hw1.out]; exact Blk.new w _ _)
  by_cases k0 : 1970 ≤ y
  case neg =>
    have HE := Lib.hid (HNO.out (fun h => k0 h.1.1))
    have c0 := decide_eq_false k0
    clear HNO HR
    go_enter Tryd.func19, Tryd.ntmps19
    go_wp2_with fail
    rw [← Hw1.out]
    have x0 := HG1.out.cell 0 _ rfl
    have x1 := HG1.out.cell 1 _ rfl
    have x2 := HG1.out.cell 2 _ rfl
    have x3 := HG1.out.cell 3 _ rfl
    have x4 := HG1.out.cell 4 _ rfl
    have x5 := HG1.out.cell 5 _ rfl
    have x6 := HG1.out.cell 6 _ rfl
    go_quiet (fail)
    go_wp2
    go_ret
    exact ⟨by rw [HE.out]; rfl, below_drewN HB1.out _⟩
  have c0 := decide_eq_true k0
  by_cases k1 : y ≤ 9999
  case neg =>
    have HE := Lib.hid (HNO.out (fun h => k1 h.1.2.1))
    have c1 := decide_eq_false k1
    clear HNO HR
    go_enter Tryd.func19, Tryd.ntmps19
    go_wp2_with fail
    rw [← Hw1.out]
    have x0 := HG1.out.cell 0 _ rfl
    have x1 := HG1.out.cell 1 _ rfl
    have x2 := HG1.out.cell 2 _ rfl
    have x3 := HG1.out.cell 3 _ rfl
    have x4 := HG1.out.cell 4 _ rfl
    have x5 := HG1.out.cell 5 _ rfl
    have x6 := HG1.out.cell 6 _ rfl
    go_quiet (fail)
    go_wp2
    go_ret
    exact ⟨by rw [HE.out]; rfl, below_drewN HB1.out _⟩
  have c1 := decide_eq_true k1
  by_cases k2 : 1 ≤ m
  case neg =>
    have HE := Lib.hid (HNO.out (fun h => k2 h.1.2.2.1))
    have c2 := decide_eq_false k2
    clear HNO HR
    go_enter Tryd.func19, Tryd.ntmps19
    go_wp2_with fail
    rw [← Hw1.out]
    have x0 := HG1.out.cell 0 _ rfl
    have x1 := HG1.out.cell 1 _ rfl
    have x2 := HG1.out.cell 2 _ rfl
    have x3 := HG1.out.cell 3 _ rfl
    have x4 := HG1.out.cell 4 _ rfl
    have x5 := HG1.out.cell 5 _ rfl
    have x6 := HG1.out.cell 6 _ rfl
    go_quiet (fail)
    go_wp2
    go_ret
    exact ⟨by rw [HE.out]; rfl, below_drewN HB1.out _⟩
  have c2 := decide_eq_true k2
  by_cases k3 : m ≤ 12
  case neg =>
    have HE := Lib.hid (HNO.out (fun h => k3 h.1.2.2.2.1))
    have c3 := decide_eq_false k3
    clear HNO HR
    go_enter Tryd.func19, Tryd.ntmps19
    go_wp2_with fail
    rw [← Hw1.out]
    have x0 := HG1.out.cell 0 _ rfl
    have x1 := HG1.out.cell 1 _ rfl
    have x2 := HG1.out.cell 2 _ rfl
    have x3 := HG1.out.cell 3 _ rfl
    have x4 := HG1.out.cell 4 _ rfl
    have x5 := HG1.out.cell 5 _ rfl
    have x6 := HG1.out.cell 6 _ rfl
    go_quiet (fail)
    go_wp2
    go_ret
    exact ⟨by rw [HE.out]; rfl, below_drewN HB1.out _⟩
  have c3 := decide_eq_true k3
  by_cases k4 : 1 ≤ k
  case neg =>
    have HE := Lib.hid (HNO.out (fun h => k4 h.1.2.2.2.2.1))
    have c4 := decide_eq_false k4
    clear HNO HR
    go_enter Tryd.func19, Tryd.ntmps19
    go_wp2_with fail
    rw [← Hw1.out]
    have x0 := HG1.out.cell 0 _ rfl
    have x1 := HG1.out.cell 1 _ rfl
    have x2 := HG1.out.cell 2 _ rfl
    have x3 := HG1.out.cell 3 _ rfl
    have x4 := HG1.out.cell 4 _ rfl
    have x5 := HG1.out.cell 5 _ rfl
    have x6 := HG1.out.cell 6 _ rfl
    go_quiet (fail)
    go_wp2
    go_ret
    exact ⟨by rw [HE.out]; rfl, below_drewN HB1.out _⟩
  have c4 := decide_eq_true k4
  obtain ⟨Y, rfl⟩ : ∃ Y : Nat, y = (Y : Int) := ⟨y.toNat, by omega⟩
  obtain ⟨M, rfl⟩ : ∃ M : Nat, m = (M : Int) := ⟨m.toNat, by omega⟩
  obtain ⟨d, Hd⟩ : ∃ d : Int, Hid (d = (Dt.dm Y M : Int)) := ⟨_, Lib.hid rfl⟩
  have HDY := Lib.hid (rdays_any Y M d Hd.out (by omega) (by omega) (by omega))
  have HDM : Hid (k ≤ d ↔ k ≤ (Dt.dm (Y : Int).toNat (M : Int).toNat : Int)) := Lib.hid (by rw [Hd.out]; simp only [Int.toNat_natCast])
  have HX : Hid (∀ (p : Nat) (R : Nat → Value) (W : World), (Below w1.heap.size w1 W ∧ (0 < p → R 0 = .int .i64 d)) → W.cell? ⟨w.heap.size, 0, none⟩ = some (.int .i64 (Y : Int)) ∧ W.cell? ⟨w.heap.size, 1, none⟩ = some (.int .i64 (M : Int)) ∧ W.cell? ⟨w.heap.size, 2, none⟩ = some (.int .i64 k) ∧ W.cell? ⟨w.heap.size, 3, none⟩ = some (.int .i64 hh) ∧ W.cell? ⟨w.heap.size, 4, none⟩ = some (.int .i64 mi) ∧ W.cell? ⟨w.heap.size, 5, none⟩ = some (.int .i64 s) ∧ W.cell? ⟨w.heap.size, 6, none⟩ = some (.int .i64 z)) := Lib.hid (fun p R W h => by
    have g := HG1.out.below h.1 HG1.out.lt
    exact ⟨g.cell 0 _ rfl, g.cell 1 _ rfl, g.cell 2 _ rfl, g.cell 3 _ rfl, g.cell 4 _ rfl, g.cell 5 _ rfl, g.cell 6 _ rfl⟩)
  have HCL : Hid (∀ (R : Nat → Value) (W : World), (Below w1.heap.size w1 W ∧ (0 < 0 → R 0 = .int .i64 d)) → Calls Tryd.prog 37 #[.int .i64 (Y : Int), .int .i64 (M : Int)] W fun e w' => ∃ v, e = .returned v ∧ (Below w1.heap.size w1 w' ∧ (0 < 1 → setR R 0 v 0 = .int .i64 d))) := Lib.hid (fun R W h => by
    refine (HDY.out W).mono ?_
    rintro e w' ⟨rfl, hb⟩
    exact ⟨_, rfl, h.1.trans (hb.mono h.1.size), fun _ => setR_self _ _ _⟩)
  clear k0 k1 k2 k3 k4
  by_cases k5 : k ≤ d
  case neg =>
    have HE := Lib.hid (HNO.out (fun h => k5 (HDM.out.2 h.1.2.2.2.2.2)))
    have c5 := decide_eq_false k5
    clear HNO HR
    go_enter Tryd.func19, Tryd.ntmps19
    go_wp2_with fail
    rw [← Hw1.out]
    refine gd5 w.heap.size (Y : Int) (M : Int) k hh mi s z d (fun p R W => Below w1.heap.size w1 W ∧ (0 < p → R 0 = .int .i64 d)) (by show 75 < 76; omega) rfl HX.out c0 c1 c2 c3 c4 c5 HCL.out (fun p R W h => h.2) ⟨(Below.refl _ _).drew, fun h => absurd h (by decide)⟩ ?_
    intro af wN hfr h2 hS
    have HBN := Lib.hid (HB1.out.trans (hS.1.mono HB1.out.size))
    clear hS
    have ha := hfr.eq (by intro t ht; simp at ht; show t < 76; omega)
    simp only [List.foldl_cons, List.foldl_nil] at ha
    clear hfr
    rw [h2] at ha
    clear h2
    generalize af.eval (.tmp 3) = u3 at ha
    generalize af.eval (.tmp 4) = u4 at ha
    generalize af.eval (.tmp 5) = u5 at ha
    generalize af.eval (.tmp 6) = u6 at ha
    generalize af.eval (.tmp 7) = u7 at ha
    generalize af.eval (.tmp 8) = u8 at ha
    generalize af.eval (.tmp 9) = u9 at ha
    generalize af.eval (.tmp 10) = u10 at ha
    generalize af.eval (.tmp 11) = u11 at ha
    generalize af.eval (.tmp 12) = u12 at ha
    generalize af.eval (.tmp 13) = u13 at ha
    generalize af.eval (.tmp 14) = u14 at ha
    generalize af.eval (.tmp 15) = u15 at ha
    generalize af.eval (.tmp 16) = u16 at ha
    generalize af.eval (.tmp 17) = u17 at ha
    generalize af.eval (.tmp 18) = u18 at ha
    generalize af.eval (.tmp 19) = u19 at ha
    generalize af.eval (.tmp 20) = u20 at ha
    generalize af.eval (.tmp 21) = u21 at ha
    generalize af.eval (.tmp 22) = u22 at ha
    generalize af.eval (.tmp 23) = u23 at ha
    generalize af.eval (.tmp 24) = u24 at ha
    generalize af.eval (.tmp 25) = u25 at ha
    generalize af.eval (.tmp 26) = u26 at ha
    generalize af.eval (.tmp 27) = u27 at ha
    generalize af.eval (.tmp 28) = u28 at ha
    generalize af.eval (.tmp 29) = u29 at ha
    generalize af.eval (.tmp 30) = u30 at ha
    generalize af.eval (.tmp 31) = u31 at ha
    generalize af.eval (.tmp 32) = u32 at ha
    generalize af.eval (.tmp 33) = u33 at ha
    generalize af.eval (.tmp 34) = u34 at ha
    generalize af.eval (.tmp 35) = u35 at ha
    generalize af.eval (.tmp 36) = u36 at ha
    generalize af.eval (.tmp 37) = u37 at ha
    generalize af.eval (.tmp 38) = u38 at ha
    generalize af.eval (.tmp 39) = u39 at ha
    generalize af.eval (.tmp 40) = u40 at ha
    generalize af.eval (.tmp 41) = u41 at ha
    generalize af.eval (.tmp 42) = u42 at ha
    generalize af.eval (.tmp 43) = u43 at ha
    generalize af.eval (.tmp 44) = u44 at ha
    generalize af.eval (.tmp 45) = u45 at ha
    generalize af.eval (.tmp 46) = u46 at ha
    generalize af.eval (.tmp 47) = u47 at ha
    generalize af.eval (.tmp 48) = u48 at ha
    generalize af.eval (.tmp 49) = u49 at ha
    generalize af.eval (.tmp 50) = u50 at ha
    generalize af.eval (.tmp 51) = u51 at ha
    generalize af.eval (.tmp 52) = u52 at ha
    generalize af.eval (.tmp 53) = u53 at ha
    generalize af.eval (.tmp 54) = u54 at ha
    generalize af.eval (.tmp 55) = u55 at ha
    generalize af.eval (.tmp 56) = u56 at ha
    generalize af.eval (.tmp 57) = u57 at ha
    generalize af.eval (.tmp 58) = u58 at ha
    generalize af.eval (.tmp 59) = u59 at ha
    generalize af.eval (.tmp 60) = u60 at ha
    generalize af.eval (.tmp 61) = u61 at ha
    generalize af.eval (.tmp 62) = u62 at ha
    generalize af.eval (.tmp 63) = u63 at ha
    generalize af.eval (.tmp 64) = u64 at ha
    generalize af.eval (.tmp 65) = u65 at ha
    generalize af.eval (.tmp 66) = u66 at ha
    generalize af.eval (.tmp 67) = u67 at ha
    generalize af.eval (.tmp 68) = u68 at ha
    generalize af.eval (.tmp 69) = u69 at ha
    generalize af.eval (.tmp 70) = u70 at ha
    generalize af.eval (.tmp 71) = u71 at ha
    generalize af.eval (.tmp 72) = u72 at ha
    generalize af.eval (.tmp 73) = u73 at ha
    generalize af.eval (.tmp 74) = u74 at ha
    generalize af.eval (.tmp 75) = u75 at ha
    subst ha
    simp only [Act.put, List.setIfInBounds_toArray, List.set_cons_zero, List.set_cons_succ]
    go_wp2
    go_ret
    exact ⟨by rw [HE.out]; rfl, HBN.out⟩
  have c5 := decide_eq_true k5
  by_cases k6 : 0 ≤ hh
  case neg =>
    have HE := Lib.hid (HNO.out (fun h => k6 h.2.1.1))
    have c6 := decide_eq_false k6
    clear HNO HR
    go_enter Tryd.func19, Tryd.ntmps19
    go_wp2_with fail
    rw [← Hw1.out]
    refine gd6 w.heap.size (Y : Int) (M : Int) k hh mi s z d (fun p R W => Below w1.heap.size w1 W ∧ (0 < p → R 0 = .int .i64 d)) (by show 75 < 76; omega) rfl HX.out c0 c1 c2 c3 c4 c5 c6 HCL.out (fun p R W h => h.2) ⟨(Below.refl _ _).drew, fun h => absurd h (by decide)⟩ ?_
    intro af wN hfr h2 hS
    have HBN := Lib.hid (HB1.out.trans (hS.1.mono HB1.out.size))
    clear hS
    have ha := hfr.eq (by intro t ht; simp at ht; show t < 76; omega)
    simp only [List.foldl_cons, List.foldl_nil] at ha
    clear hfr
    rw [h2] at ha
    clear h2
    generalize af.eval (.tmp 3) = u3 at ha
    generalize af.eval (.tmp 4) = u4 at ha
    generalize af.eval (.tmp 5) = u5 at ha
    generalize af.eval (.tmp 6) = u6 at ha
    generalize af.eval (.tmp 7) = u7 at ha
    generalize af.eval (.tmp 8) = u8 at ha
    generalize af.eval (.tmp 9) = u9 at ha
    generalize af.eval (.tmp 10) = u10 at ha
    generalize af.eval (.tmp 11) = u11 at ha
    generalize af.eval (.tmp 12) = u12 at ha
    generalize af.eval (.tmp 13) = u13 at ha
    generalize af.eval (.tmp 14) = u14 at ha
    generalize af.eval (.tmp 15) = u15 at ha
    generalize af.eval (.tmp 16) = u16 at ha
    generalize af.eval (.tmp 17) = u17 at ha
    generalize af.eval (.tmp 18) = u18 at ha
    generalize af.eval (.tmp 19) = u19 at ha
    generalize af.eval (.tmp 20) = u20 at ha
    generalize af.eval (.tmp 21) = u21 at ha
    generalize af.eval (.tmp 22) = u22 at ha
    generalize af.eval (.tmp 23) = u23 at ha
    generalize af.eval (.tmp 24) = u24 at ha
    generalize af.eval (.tmp 25) = u25 at ha
    generalize af.eval (.tmp 26) = u26 at ha
    generalize af.eval (.tmp 27) = u27 at ha
    generalize af.eval (.tmp 28) = u28 at ha
    generalize af.eval (.tmp 29) = u29 at ha
    generalize af.eval (.tmp 30) = u30 at ha
    generalize af.eval (.tmp 31) = u31 at ha
    generalize af.eval (.tmp 32) = u32 at ha
    generalize af.eval (.tmp 33) = u33 at ha
    generalize af.eval (.tmp 34) = u34 at ha
    generalize af.eval (.tmp 35) = u35 at ha
    generalize af.eval (.tmp 36) = u36 at ha
    generalize af.eval (.tmp 37) = u37 at ha
    generalize af.eval (.tmp 38) = u38 at ha
    generalize af.eval (.tmp 39) = u39 at ha
    generalize af.eval (.tmp 40) = u40 at ha
    generalize af.eval (.tmp 41) = u41 at ha
    generalize af.eval (.tmp 42) = u42 at ha
    generalize af.eval (.tmp 43) = u43 at ha
    generalize af.eval (.tmp 44) = u44 at ha
    generalize af.eval (.tmp 45) = u45 at ha
    generalize af.eval (.tmp 46) = u46 at ha
    generalize af.eval (.tmp 47) = u47 at ha
    generalize af.eval (.tmp 48) = u48 at ha
    generalize af.eval (.tmp 49) = u49 at ha
    generalize af.eval (.tmp 50) = u50 at ha
    generalize af.eval (.tmp 51) = u51 at ha
    generalize af.eval (.tmp 52) = u52 at ha
    generalize af.eval (.tmp 53) = u53 at ha
    generalize af.eval (.tmp 54) = u54 at ha
    generalize af.eval (.tmp 55) = u55 at ha
    generalize af.eval (.tmp 56) = u56 at ha
    generalize af.eval (.tmp 57) = u57 at ha
    generalize af.eval (.tmp 58) = u58 at ha
    generalize af.eval (.tmp 59) = u59 at ha
    generalize af.eval (.tmp 60) = u60 at ha
    generalize af.eval (.tmp 61) = u61 at ha
    generalize af.eval (.tmp 62) = u62 at ha
    generalize af.eval (.tmp 63) = u63 at ha
    generalize af.eval (.tmp 64) = u64 at ha
    generalize af.eval (.tmp 65) = u65 at ha
    generalize af.eval (.tmp 66) = u66 at ha
    generalize af.eval (.tmp 67) = u67 at ha
    generalize af.eval (.tmp 68) = u68 at ha
    generalize af.eval (.tmp 69) = u69 at ha
    generalize af.eval (.tmp 70) = u70 at ha
    generalize af.eval (.tmp 71) = u71 at ha
    generalize af.eval (.tmp 72) = u72 at ha
    generalize af.eval (.tmp 73) = u73 at ha
    generalize af.eval (.tmp 74) = u74 at ha
    generalize af.eval (.tmp 75) = u75 at ha
    subst ha
    simp only [Act.put, List.setIfInBounds_toArray, List.set_cons_zero, List.set_cons_succ]
    go_wp2
    go_ret
    exact ⟨by rw [HE.out]; rfl, HBN.out⟩
  have c6 := decide_eq_true k6
  by_cases k7 : hh ≤ 23
  case neg =>
    have HE := Lib.hid (HNO.out (fun h => k7 h.2.1.2))
    have c7 := decide_eq_false k7
    clear HNO HR
    go_enter Tryd.func19, Tryd.ntmps19
    go_wp2_with fail
    rw [← Hw1.out]
    refine gd7 w.heap.size (Y : Int) (M : Int) k hh mi s z d (fun p R W => Below w1.heap.size w1 W ∧ (0 < p → R 0 = .int .i64 d)) (by show 75 < 76; omega) rfl HX.out c0 c1 c2 c3 c4 c5 c6 c7 HCL.out (fun p R W h => h.2) ⟨(Below.refl _ _).drew, fun h => absurd h (by decide)⟩ ?_
    intro af wN hfr h2 hS
    have HBN := Lib.hid (HB1.out.trans (hS.1.mono HB1.out.size))
    clear hS
    have ha := hfr.eq (by intro t ht; simp at ht; show t < 76; omega)
    simp only [List.foldl_cons, List.foldl_nil] at ha
    clear hfr
    rw [h2] at ha
    clear h2
    generalize af.eval (.tmp 3) = u3 at ha
    generalize af.eval (.tmp 4) = u4 at ha
    generalize af.eval (.tmp 5) = u5 at ha
    generalize af.eval (.tmp 6) = u6 at ha
    generalize af.eval (.tmp 7) = u7 at ha
    generalize af.eval (.tmp 8) = u8 at ha
    generalize af.eval (.tmp 9) = u9 at ha
    generalize af.eval (.tmp 10) = u10 at ha
    generalize af.eval (.tmp 11) = u11 at ha
    generalize af.eval (.tmp 12) = u12 at ha
    generalize af.eval (.tmp 13) = u13 at ha
    generalize af.eval (.tmp 14) = u14 at ha
    generalize af.eval (.tmp 15) = u15 at ha
    generalize af.eval (.tmp 16) = u16 at ha
    generalize af.eval (.tmp 17) = u17 at ha
    generalize af.eval (.tmp 18) = u18 at ha
    generalize af.eval (.tmp 19) = u19 at ha
    generalize af.eval (.tmp 20) = u20 at ha
    generalize af.eval (.tmp 21) = u21 at ha
    generalize af.eval (.tmp 22) = u22 at ha
    generalize af.eval (.tmp 23) = u23 at ha
    generalize af.eval (.tmp 24) = u24 at ha
    generalize af.eval (.tmp 25) = u25 at ha
    generalize af.eval (.tmp 26) = u26 at ha
    generalize af.eval (.tmp 27) = u27 at ha
    generalize af.eval (.tmp 28) = u28 at ha
    generalize af.eval (.tmp 29) = u29 at ha
    generalize af.eval (.tmp 30) = u30 at ha
    generalize af.eval (.tmp 31) = u31 at ha
    generalize af.eval (.tmp 32) = u32 at ha
    generalize af.eval (.tmp 33) = u33 at ha
    generalize af.eval (.tmp 34) = u34 at ha
    generalize af.eval (.tmp 35) = u35 at ha
    generalize af.eval (.tmp 36) = u36 at ha
    generalize af.eval (.tmp 37) = u37 at ha
    generalize af.eval (.tmp 38) = u38 at ha
    generalize af.eval (.tmp 39) = u39 at ha
    generalize af.eval (.tmp 40) = u40 at ha
    generalize af.eval (.tmp 41) = u41 at ha
    generalize af.eval (.tmp 42) = u42 at ha
    generalize af.eval (.tmp 43) = u43 at ha
    generalize af.eval (.tmp 44) = u44 at ha
    generalize af.eval (.tmp 45) = u45 at ha
    generalize af.eval (.tmp 46) = u46 at ha
    generalize af.eval (.tmp 47) = u47 at ha
    generalize af.eval (.tmp 48) = u48 at ha
    generalize af.eval (.tmp 49) = u49 at ha
    generalize af.eval (.tmp 50) = u50 at ha
    generalize af.eval (.tmp 51) = u51 at ha
    generalize af.eval (.tmp 52) = u52 at ha
    generalize af.eval (.tmp 53) = u53 at ha
    generalize af.eval (.tmp 54) = u54 at ha
    generalize af.eval (.tmp 55) = u55 at ha
    generalize af.eval (.tmp 56) = u56 at ha
    generalize af.eval (.tmp 57) = u57 at ha
    generalize af.eval (.tmp 58) = u58 at ha
    generalize af.eval (.tmp 59) = u59 at ha
    generalize af.eval (.tmp 60) = u60 at ha
    generalize af.eval (.tmp 61) = u61 at ha
    generalize af.eval (.tmp 62) = u62 at ha
    generalize af.eval (.tmp 63) = u63 at ha
    generalize af.eval (.tmp 64) = u64 at ha
    generalize af.eval (.tmp 65) = u65 at ha
    generalize af.eval (.tmp 66) = u66 at ha
    generalize af.eval (.tmp 67) = u67 at ha
    generalize af.eval (.tmp 68) = u68 at ha
    generalize af.eval (.tmp 69) = u69 at ha
    generalize af.eval (.tmp 70) = u70 at ha
    generalize af.eval (.tmp 71) = u71 at ha
    generalize af.eval (.tmp 72) = u72 at ha
    generalize af.eval (.tmp 73) = u73 at ha
    generalize af.eval (.tmp 74) = u74 at ha
    generalize af.eval (.tmp 75) = u75 at ha
    subst ha
    simp only [Act.put, List.setIfInBounds_toArray, List.set_cons_zero, List.set_cons_succ]
    go_wp2
    go_ret
    exact ⟨by rw [HE.out]; rfl, HBN.out⟩
  have c7 := decide_eq_true k7
  by_cases k8 : 0 ≤ mi
  case neg =>
    have HE := Lib.hid (HNO.out (fun h => k8 h.2.2.1.1))
    have c8 := decide_eq_false k8
    clear HNO HR
    go_enter Tryd.func19, Tryd.ntmps19
    go_wp2_with fail
    rw [← Hw1.out]
    refine gd8 w.heap.size (Y : Int) (M : Int) k hh mi s z d (fun p R W => Below w1.heap.size w1 W ∧ (0 < p → R 0 = .int .i64 d)) (by show 75 < 76; omega) rfl HX.out c0 c1 c2 c3 c4 c5 c6 c7 c8 HCL.out (fun p R W h => h.2) ⟨(Below.refl _ _).drew, fun h => absurd h (by decide)⟩ ?_
    intro af wN hfr h2 hS
    have HBN := Lib.hid (HB1.out.trans (hS.1.mono HB1.out.size))
    clear hS
    have ha := hfr.eq (by intro t ht; simp at ht; show t < 76; omega)
    simp only [List.foldl_cons, List.foldl_nil] at ha
    clear hfr
    rw [h2] at ha
    clear h2
    generalize af.eval (.tmp 3) = u3 at ha
    generalize af.eval (.tmp 4) = u4 at ha
    generalize af.eval (.tmp 5) = u5 at ha
    generalize af.eval (.tmp 6) = u6 at ha
    generalize af.eval (.tmp 7) = u7 at ha
    generalize af.eval (.tmp 8) = u8 at ha
    generalize af.eval (.tmp 9) = u9 at ha
    generalize af.eval (.tmp 10) = u10 at ha
    generalize af.eval (.tmp 11) = u11 at ha
    generalize af.eval (.tmp 12) = u12 at ha
    generalize af.eval (.tmp 13) = u13 at ha
    generalize af.eval (.tmp 14) = u14 at ha
    generalize af.eval (.tmp 15) = u15 at ha
    generalize af.eval (.tmp 16) = u16 at ha
    generalize af.eval (.tmp 17) = u17 at ha
    generalize af.eval (.tmp 18) = u18 at ha
    generalize af.eval (.tmp 19) = u19 at ha
    generalize af.eval (.tmp 20) = u20 at ha
    generalize af.eval (.tmp 21) = u21 at ha
    generalize af.eval (.tmp 22) = u22 at ha
    generalize af.eval (.tmp 23) = u23 at ha
    generalize af.eval (.tmp 24) = u24 at ha
    generalize af.eval (.tmp 25) = u25 at ha
    generalize af.eval (.tmp 26) = u26 at ha
    generalize af.eval (.tmp 27) = u27 at ha
    generalize af.eval (.tmp 28) = u28 at ha
    generalize af.eval (.tmp 29) = u29 at ha
    generalize af.eval (.tmp 30) = u30 at ha
    generalize af.eval (.tmp 31) = u31 at ha
    generalize af.eval (.tmp 32) = u32 at ha
    generalize af.eval (.tmp 33) = u33 at ha
    generalize af.eval (.tmp 34) = u34 at ha
    generalize af.eval (.tmp 35) = u35 at ha
    generalize af.eval (.tmp 36) = u36 at ha
    generalize af.eval (.tmp 37) = u37 at ha
    generalize af.eval (.tmp 38) = u38 at ha
    generalize af.eval (.tmp 39) = u39 at ha
    generalize af.eval (.tmp 40) = u40 at ha
    generalize af.eval (.tmp 41) = u41 at ha
    generalize af.eval (.tmp 42) = u42 at ha
    generalize af.eval (.tmp 43) = u43 at ha
    generalize af.eval (.tmp 44) = u44 at ha
    generalize af.eval (.tmp 45) = u45 at ha
    generalize af.eval (.tmp 46) = u46 at ha
    generalize af.eval (.tmp 47) = u47 at ha
    generalize af.eval (.tmp 48) = u48 at ha
    generalize af.eval (.tmp 49) = u49 at ha
    generalize af.eval (.tmp 50) = u50 at ha
    generalize af.eval (.tmp 51) = u51 at ha
    generalize af.eval (.tmp 52) = u52 at ha
    generalize af.eval (.tmp 53) = u53 at ha
    generalize af.eval (.tmp 54) = u54 at ha
    generalize af.eval (.tmp 55) = u55 at ha
    generalize af.eval (.tmp 56) = u56 at ha
    generalize af.eval (.tmp 57) = u57 at ha
    generalize af.eval (.tmp 58) = u58 at ha
    generalize af.eval (.tmp 59) = u59 at ha
    generalize af.eval (.tmp 60) = u60 at ha
    generalize af.eval (.tmp 61) = u61 at ha
    generalize af.eval (.tmp 62) = u62 at ha
    generalize af.eval (.tmp 63) = u63 at ha
    generalize af.eval (.tmp 64) = u64 at ha
    generalize af.eval (.tmp 65) = u65 at ha
    generalize af.eval (.tmp 66) = u66 at ha
    generalize af.eval (.tmp 67) = u67 at ha
    generalize af.eval (.tmp 68) = u68 at ha
    generalize af.eval (.tmp 69) = u69 at ha
    generalize af.eval (.tmp 70) = u70 at ha
    generalize af.eval (.tmp 71) = u71 at ha
    generalize af.eval (.tmp 72) = u72 at ha
    generalize af.eval (.tmp 73) = u73 at ha
    generalize af.eval (.tmp 74) = u74 at ha
    generalize af.eval (.tmp 75) = u75 at ha
    subst ha
    simp only [Act.put, List.setIfInBounds_toArray, List.set_cons_zero, List.set_cons_succ]
    go_wp2
    go_ret
    exact ⟨by rw [HE.out]; rfl, HBN.out⟩
  have c8 := decide_eq_true k8
  by_cases k9 : mi ≤ 59
  case neg =>
    have HE := Lib.hid (HNO.out (fun h => k9 h.2.2.1.2))
    have c9 := decide_eq_false k9
    clear HNO HR
    go_enter Tryd.func19, Tryd.ntmps19
    go_wp2_with fail
    rw [← Hw1.out]
    refine gd9 w.heap.size (Y : Int) (M : Int) k hh mi s z d (fun p R W => Below w1.heap.size w1 W ∧ (0 < p → R 0 = .int .i64 d)) (by show 75 < 76; omega) rfl HX.out c0 c1 c2 c3 c4 c5 c6 c7 c8 c9 HCL.out (fun p R W h => h.2) ⟨(Below.refl _ _).drew, fun h => absurd h (by decide)⟩ ?_
    intro af wN hfr h2 hS
    have HBN := Lib.hid (HB1.out.trans (hS.1.mono HB1.out.size))
    clear hS
    have ha := hfr.eq (by intro t ht; simp at ht; show t < 76; omega)
    simp only [List.foldl_cons, List.foldl_nil] at ha
    clear hfr
    rw [h2] at ha
    clear h2
    generalize af.eval (.tmp 3) = u3 at ha
    generalize af.eval (.tmp 4) = u4 at ha
    generalize af.eval (.tmp 5) = u5 at ha
    generalize af.eval (.tmp 6) = u6 at ha
    generalize af.eval (.tmp 7) = u7 at ha
    generalize af.eval (.tmp 8) = u8 at ha
    generalize af.eval (.tmp 9) = u9 at ha
    generalize af.eval (.tmp 10) = u10 at ha
    generalize af.eval (.tmp 11) = u11 at ha
    generalize af.eval (.tmp 12) = u12 at ha
    generalize af.eval (.tmp 13) = u13 at ha
    generalize af.eval (.tmp 14) = u14 at ha
    generalize af.eval (.tmp 15) = u15 at ha
    generalize af.eval (.tmp 16) = u16 at ha
    generalize af.eval (.tmp 17) = u17 at ha
    generalize af.eval (.tmp 18) = u18 at ha
    generalize af.eval (.tmp 19) = u19 at ha
    generalize af.eval (.tmp 20) = u20 at ha
    generalize af.eval (.tmp 21) = u21 at ha
    generalize af.eval (.tmp 22) = u22 at ha
    generalize af.eval (.tmp 23) = u23 at ha
    generalize af.eval (.tmp 24) = u24 at ha
    generalize af.eval (.tmp 25) = u25 at ha
    generalize af.eval (.tmp 26) = u26 at ha
    generalize af.eval (.tmp 27) = u27 at ha
    generalize af.eval (.tmp 28) = u28 at ha
    generalize af.eval (.tmp 29) = u29 at ha
    generalize af.eval (.tmp 30) = u30 at ha
    generalize af.eval (.tmp 31) = u31 at ha
    generalize af.eval (.tmp 32) = u32 at ha
    generalize af.eval (.tmp 33) = u33 at ha
    generalize af.eval (.tmp 34) = u34 at ha
    generalize af.eval (.tmp 35) = u35 at ha
    generalize af.eval (.tmp 36) = u36 at ha
    generalize af.eval (.tmp 37) = u37 at ha
    generalize af.eval (.tmp 38) = u38 at ha
    generalize af.eval (.tmp 39) = u39 at ha
    generalize af.eval (.tmp 40) = u40 at ha
    generalize af.eval (.tmp 41) = u41 at ha
    generalize af.eval (.tmp 42) = u42 at ha
    generalize af.eval (.tmp 43) = u43 at ha
    generalize af.eval (.tmp 44) = u44 at ha
    generalize af.eval (.tmp 45) = u45 at ha
    generalize af.eval (.tmp 46) = u46 at ha
    generalize af.eval (.tmp 47) = u47 at ha
    generalize af.eval (.tmp 48) = u48 at ha
    generalize af.eval (.tmp 49) = u49 at ha
    generalize af.eval (.tmp 50) = u50 at ha
    generalize af.eval (.tmp 51) = u51 at ha
    generalize af.eval (.tmp 52) = u52 at ha
    generalize af.eval (.tmp 53) = u53 at ha
    generalize af.eval (.tmp 54) = u54 at ha
    generalize af.eval (.tmp 55) = u55 at ha
    generalize af.eval (.tmp 56) = u56 at ha
    generalize af.eval (.tmp 57) = u57 at ha
    generalize af.eval (.tmp 58) = u58 at ha
    generalize af.eval (.tmp 59) = u59 at ha
    generalize af.eval (.tmp 60) = u60 at ha
    generalize af.eval (.tmp 61) = u61 at ha
    generalize af.eval (.tmp 62) = u62 at ha
    generalize af.eval (.tmp 63) = u63 at ha
    generalize af.eval (.tmp 64) = u64 at ha
    generalize af.eval (.tmp 65) = u65 at ha
    generalize af.eval (.tmp 66) = u66 at ha
    generalize af.eval (.tmp 67) = u67 at ha
    generalize af.eval (.tmp 68) = u68 at ha
    generalize af.eval (.tmp 69) = u69 at ha
    generalize af.eval (.tmp 70) = u70 at ha
    generalize af.eval (.tmp 71) = u71 at ha
    generalize af.eval (.tmp 72) = u72 at ha
    generalize af.eval (.tmp 73) = u73 at ha
    generalize af.eval (.tmp 74) = u74 at ha
    generalize af.eval (.tmp 75) = u75 at ha
    subst ha
    simp only [Act.put, List.setIfInBounds_toArray, List.set_cons_zero, List.set_cons_succ]
    go_wp2
    go_ret
    exact ⟨by rw [HE.out]; rfl, HBN.out⟩
  have c9 := decide_eq_true k9
  by_cases k10 : 0 ≤ s
  case neg =>
    have HE := Lib.hid (HNO.out (fun h => k10 h.2.2.2.1.1))
    have c10 := decide_eq_false k10
    clear HNO HR
    go_enter Tryd.func19, Tryd.ntmps19
    go_wp2_with fail
    rw [← Hw1.out]
    refine gd10 w.heap.size (Y : Int) (M : Int) k hh mi s z d (fun p R W => Below w1.heap.size w1 W ∧ (0 < p → R 0 = .int .i64 d)) (by show 75 < 76; omega) rfl HX.out c0 c1 c2 c3 c4 c5 c6 c7 c8 c9 c10 HCL.out (fun p R W h => h.2) ⟨(Below.refl _ _).drew, fun h => absurd h (by decide)⟩ ?_
    intro af wN hfr h2 hS
    have HBN := Lib.hid (HB1.out.trans (hS.1.mono HB1.out.size))
    clear hS
    have ha := hfr.eq (by intro t ht; simp at ht; show t < 76; omega)
    simp only [List.foldl_cons, List.foldl_nil] at ha
    clear hfr
    rw [h2] at ha
    clear h2
    generalize af.eval (.tmp 3) = u3 at ha
    generalize af.eval (.tmp 4) = u4 at ha
    generalize af.eval (.tmp 5) = u5 at ha
    generalize af.eval (.tmp 6) = u6 at ha
    generalize af.eval (.tmp 7) = u7 at ha
    generalize af.eval (.tmp 8) = u8 at ha
    generalize af.eval (.tmp 9) = u9 at ha
    generalize af.eval (.tmp 10) = u10 at ha
    generalize af.eval (.tmp 11) = u11 at ha
    generalize af.eval (.tmp 12) = u12 at ha
    generalize af.eval (.tmp 13) = u13 at ha
    generalize af.eval (.tmp 14) = u14 at ha
    generalize af.eval (.tmp 15) = u15 at ha
    generalize af.eval (.tmp 16) = u16 at ha
    generalize af.eval (.tmp 17) = u17 at ha
    generalize af.eval (.tmp 18) = u18 at ha
    generalize af.eval (.tmp 19) = u19 at ha
    generalize af.eval (.tmp 20) = u20 at ha
    generalize af.eval (.tmp 21) = u21 at ha
    generalize af.eval (.tmp 22) = u22 at ha
    generalize af.eval (.tmp 23) = u23 at ha
    generalize af.eval (.tmp 24) = u24 at ha
    generalize af.eval (.tmp 25) = u25 at ha
    generalize af.eval (.tmp 26) = u26 at ha
    generalize af.eval (.tmp 27) = u27 at ha
    generalize af.eval (.tmp 28) = u28 at ha
    generalize af.eval (.tmp 29) = u29 at ha
    generalize af.eval (.tmp 30) = u30 at ha
    generalize af.eval (.tmp 31) = u31 at ha
    generalize af.eval (.tmp 32) = u32 at ha
    generalize af.eval (.tmp 33) = u33 at ha
    generalize af.eval (.tmp 34) = u34 at ha
    generalize af.eval (.tmp 35) = u35 at ha
    generalize af.eval (.tmp 36) = u36 at ha
    generalize af.eval (.tmp 37) = u37 at ha
    generalize af.eval (.tmp 38) = u38 at ha
    generalize af.eval (.tmp 39) = u39 at ha
    generalize af.eval (.tmp 40) = u40 at ha
    generalize af.eval (.tmp 41) = u41 at ha
    generalize af.eval (.tmp 42) = u42 at ha
    generalize af.eval (.tmp 43) = u43 at ha
    generalize af.eval (.tmp 44) = u44 at ha
    generalize af.eval (.tmp 45) = u45 at ha
    generalize af.eval (.tmp 46) = u46 at ha
    generalize af.eval (.tmp 47) = u47 at ha
    generalize af.eval (.tmp 48) = u48 at ha
    generalize af.eval (.tmp 49) = u49 at ha
    generalize af.eval (.tmp 50) = u50 at ha
    generalize af.eval (.tmp 51) = u51 at ha
    generalize af.eval (.tmp 52) = u52 at ha
    generalize af.eval (.tmp 53) = u53 at ha
    generalize af.eval (.tmp 54) = u54 at ha
    generalize af.eval (.tmp 55) = u55 at ha
    generalize af.eval (.tmp 56) = u56 at ha
    generalize af.eval (.tmp 57) = u57 at ha
    generalize af.eval (.tmp 58) = u58 at ha
    generalize af.eval (.tmp 59) = u59 at ha
    generalize af.eval (.tmp 60) = u60 at ha
    generalize af.eval (.tmp 61) = u61 at ha
    generalize af.eval (.tmp 62) = u62 at ha
    generalize af.eval (.tmp 63) = u63 at ha
    generalize af.eval (.tmp 64) = u64 at ha
    generalize af.eval (.tmp 65) = u65 at ha
    generalize af.eval (.tmp 66) = u66 at ha
    generalize af.eval (.tmp 67) = u67 at ha
    generalize af.eval (.tmp 68) = u68 at ha
    generalize af.eval (.tmp 69) = u69 at ha
    generalize af.eval (.tmp 70) = u70 at ha
    generalize af.eval (.tmp 71) = u71 at ha
    generalize af.eval (.tmp 72) = u72 at ha
    generalize af.eval (.tmp 73) = u73 at ha
    generalize af.eval (.tmp 74) = u74 at ha
    generalize af.eval (.tmp 75) = u75 at ha
    subst ha
    simp only [Act.put, List.setIfInBounds_toArray, List.set_cons_zero, List.set_cons_succ]
    go_wp2
    go_ret
    exact ⟨by rw [HE.out]; rfl, HBN.out⟩
  have c10 := decide_eq_true k10
  by_cases k11 : s ≤ 59
  case neg =>
    have HE := Lib.hid (HNO.out (fun h => k11 h.2.2.2.1.2))
    have c11 := decide_eq_false k11
    clear HNO HR
    go_enter Tryd.func19, Tryd.ntmps19
    go_wp2_with fail
    rw [← Hw1.out]
    refine gd11 w.heap.size (Y : Int) (M : Int) k hh mi s z d (fun p R W => Below w1.heap.size w1 W ∧ (0 < p → R 0 = .int .i64 d)) (by show 75 < 76; omega) rfl HX.out c0 c1 c2 c3 c4 c5 c6 c7 c8 c9 c10 c11 HCL.out (fun p R W h => h.2) ⟨(Below.refl _ _).drew, fun h => absurd h (by decide)⟩ ?_
    intro af wN hfr h2 hS
    have HBN := Lib.hid (HB1.out.trans (hS.1.mono HB1.out.size))
    clear hS
    have ha := hfr.eq (by intro t ht; simp at ht; show t < 76; omega)
    simp only [List.foldl_cons, List.foldl_nil] at ha
    clear hfr
    rw [h2] at ha
    clear h2
    generalize af.eval (.tmp 3) = u3 at ha
    generalize af.eval (.tmp 4) = u4 at ha
    generalize af.eval (.tmp 5) = u5 at ha
    generalize af.eval (.tmp 6) = u6 at ha
    generalize af.eval (.tmp 7) = u7 at ha
    generalize af.eval (.tmp 8) = u8 at ha
    generalize af.eval (.tmp 9) = u9 at ha
    generalize af.eval (.tmp 10) = u10 at ha
    generalize af.eval (.tmp 11) = u11 at ha
    generalize af.eval (.tmp 12) = u12 at ha
    generalize af.eval (.tmp 13) = u13 at ha
    generalize af.eval (.tmp 14) = u14 at ha
    generalize af.eval (.tmp 15) = u15 at ha
    generalize af.eval (.tmp 16) = u16 at ha
    generalize af.eval (.tmp 17) = u17 at ha
    generalize af.eval (.tmp 18) = u18 at ha
    generalize af.eval (.tmp 19) = u19 at ha
    generalize af.eval (.tmp 20) = u20 at ha
    generalize af.eval (.tmp 21) = u21 at ha
    generalize af.eval (.tmp 22) = u22 at ha
    generalize af.eval (.tmp 23) = u23 at ha
    generalize af.eval (.tmp 24) = u24 at ha
    generalize af.eval (.tmp 25) = u25 at ha
    generalize af.eval (.tmp 26) = u26 at ha
    generalize af.eval (.tmp 27) = u27 at ha
    generalize af.eval (.tmp 28) = u28 at ha
    generalize af.eval (.tmp 29) = u29 at ha
    generalize af.eval (.tmp 30) = u30 at ha
    generalize af.eval (.tmp 31) = u31 at ha
    generalize af.eval (.tmp 32) = u32 at ha
    generalize af.eval (.tmp 33) = u33 at ha
    generalize af.eval (.tmp 34) = u34 at ha
    generalize af.eval (.tmp 35) = u35 at ha
    generalize af.eval (.tmp 36) = u36 at ha
    generalize af.eval (.tmp 37) = u37 at ha
    generalize af.eval (.tmp 38) = u38 at ha
    generalize af.eval (.tmp 39) = u39 at ha
    generalize af.eval (.tmp 40) = u40 at ha
    generalize af.eval (.tmp 41) = u41 at ha
    generalize af.eval (.tmp 42) = u42 at ha
    generalize af.eval (.tmp 43) = u43 at ha
    generalize af.eval (.tmp 44) = u44 at ha
    generalize af.eval (.tmp 45) = u45 at ha
    generalize af.eval (.tmp 46) = u46 at ha
    generalize af.eval (.tmp 47) = u47 at ha
    generalize af.eval (.tmp 48) = u48 at ha
    generalize af.eval (.tmp 49) = u49 at ha
    generalize af.eval (.tmp 50) = u50 at ha
    generalize af.eval (.tmp 51) = u51 at ha
    generalize af.eval (.tmp 52) = u52 at ha
    generalize af.eval (.tmp 53) = u53 at ha
    generalize af.eval (.tmp 54) = u54 at ha
    generalize af.eval (.tmp 55) = u55 at ha
    generalize af.eval (.tmp 56) = u56 at ha
    generalize af.eval (.tmp 57) = u57 at ha
    generalize af.eval (.tmp 58) = u58 at ha
    generalize af.eval (.tmp 59) = u59 at ha
    generalize af.eval (.tmp 60) = u60 at ha
    generalize af.eval (.tmp 61) = u61 at ha
    generalize af.eval (.tmp 62) = u62 at ha
    generalize af.eval (.tmp 63) = u63 at ha
    generalize af.eval (.tmp 64) = u64 at ha
    generalize af.eval (.tmp 65) = u65 at ha
    generalize af.eval (.tmp 66) = u66 at ha
    generalize af.eval (.tmp 67) = u67 at ha
    generalize af.eval (.tmp 68) = u68 at ha
    generalize af.eval (.tmp 69) = u69 at ha
    generalize af.eval (.tmp 70) = u70 at ha
    generalize af.eval (.tmp 71) = u71 at ha
    generalize af.eval (.tmp 72) = u72 at ha
    generalize af.eval (.tmp 73) = u73 at ha
    generalize af.eval (.tmp 74) = u74 at ha
    generalize af.eval (.tmp 75) = u75 at ha
    subst ha
    simp only [Act.put, List.setIfInBounds_toArray, List.set_cons_zero, List.set_cons_succ]
    go_wp2
    go_ret
    exact ⟨by rw [HE.out]; rfl, HBN.out⟩
  have c11 := decide_eq_true k11
  by_cases k12 : -1439 ≤ z
  case neg =>
    have HE := Lib.hid (HNO.out (fun h => k12 h.2.2.2.2.1))
    have c12 := decide_eq_false k12
    clear HNO HR
    go_enter Tryd.func19, Tryd.ntmps19
    go_wp2_with fail
    rw [← Hw1.out]
    refine gd12 w.heap.size (Y : Int) (M : Int) k hh mi s z d (fun p R W => Below w1.heap.size w1 W ∧ (0 < p → R 0 = .int .i64 d)) (by show 75 < 76; omega) rfl HX.out c0 c1 c2 c3 c4 c5 c6 c7 c8 c9 c10 c11 c12 HCL.out (fun p R W h => h.2) ⟨(Below.refl _ _).drew, fun h => absurd h (by decide)⟩ ?_
    intro af wN hfr h2 hS
    have HBN := Lib.hid (HB1.out.trans (hS.1.mono HB1.out.size))
    clear hS
    have ha := hfr.eq (by intro t ht; simp at ht; show t < 76; omega)
    simp only [List.foldl_cons, List.foldl_nil] at ha
    clear hfr
    rw [h2] at ha
    clear h2
    generalize af.eval (.tmp 3) = u3 at ha
    generalize af.eval (.tmp 4) = u4 at ha
    generalize af.eval (.tmp 5) = u5 at ha
    generalize af.eval (.tmp 6) = u6 at ha
    generalize af.eval (.tmp 7) = u7 at ha
    generalize af.eval (.tmp 8) = u8 at ha
    generalize af.eval (.tmp 9) = u9 at ha
    generalize af.eval (.tmp 10) = u10 at ha
    generalize af.eval (.tmp 11) = u11 at ha
    generalize af.eval (.tmp 12) = u12 at ha
    generalize af.eval (.tmp 13) = u13 at ha
    generalize af.eval (.tmp 14) = u14 at ha
    generalize af.eval (.tmp 15) = u15 at ha
    generalize af.eval (.tmp 16) = u16 at ha
    generalize af.eval (.tmp 17) = u17 at ha
    generalize af.eval (.tmp 18) = u18 at ha
    generalize af.eval (.tmp 19) = u19 at ha
    generalize af.eval (.tmp 20) = u20 at ha
    generalize af.eval (.tmp 21) = u21 at ha
    generalize af.eval (.tmp 22) = u22 at ha
    generalize af.eval (.tmp 23) = u23 at ha
    generalize af.eval (.tmp 24) = u24 at ha
    generalize af.eval (.tmp 25) = u25 at ha
    generalize af.eval (.tmp 26) = u26 at ha
    generalize af.eval (.tmp 27) = u27 at ha
    generalize af.eval (.tmp 28) = u28 at ha
    generalize af.eval (.tmp 29) = u29 at ha
    generalize af.eval (.tmp 30) = u30 at ha
    generalize af.eval (.tmp 31) = u31 at ha
    generalize af.eval (.tmp 32) = u32 at ha
    generalize af.eval (.tmp 33) = u33 at ha
    generalize af.eval (.tmp 34) = u34 at ha
    generalize af.eval (.tmp 35) = u35 at ha
    generalize af.eval (.tmp 36) = u36 at ha
    generalize af.eval (.tmp 37) = u37 at ha
    generalize af.eval (.tmp 38) = u38 at ha
    generalize af.eval (.tmp 39) = u39 at ha
    generalize af.eval (.tmp 40) = u40 at ha
    generalize af.eval (.tmp 41) = u41 at ha
    generalize af.eval (.tmp 42) = u42 at ha
    generalize af.eval (.tmp 43) = u43 at ha
    generalize af.eval (.tmp 44) = u44 at ha
    generalize af.eval (.tmp 45) = u45 at ha
    generalize af.eval (.tmp 46) = u46 at ha
    generalize af.eval (.tmp 47) = u47 at ha
    generalize af.eval (.tmp 48) = u48 at ha
    generalize af.eval (.tmp 49) = u49 at ha
    generalize af.eval (.tmp 50) = u50 at ha
    generalize af.eval (.tmp 51) = u51 at ha
    generalize af.eval (.tmp 52) = u52 at ha
    generalize af.eval (.tmp 53) = u53 at ha
    generalize af.eval (.tmp 54) = u54 at ha
    generalize af.eval (.tmp 55) = u55 at ha
    generalize af.eval (.tmp 56) = u56 at ha
    generalize af.eval (.tmp 57) = u57 at ha
    generalize af.eval (.tmp 58) = u58 at ha
    generalize af.eval (.tmp 59) = u59 at ha
    generalize af.eval (.tmp 60) = u60 at ha
    generalize af.eval (.tmp 61) = u61 at ha
    generalize af.eval (.tmp 62) = u62 at ha
    generalize af.eval (.tmp 63) = u63 at ha
    generalize af.eval (.tmp 64) = u64 at ha
    generalize af.eval (.tmp 65) = u65 at ha
    generalize af.eval (.tmp 66) = u66 at ha
    generalize af.eval (.tmp 67) = u67 at ha
    generalize af.eval (.tmp 68) = u68 at ha
    generalize af.eval (.tmp 69) = u69 at ha
    generalize af.eval (.tmp 70) = u70 at ha
    generalize af.eval (.tmp 71) = u71 at ha
    generalize af.eval (.tmp 72) = u72 at ha
    generalize af.eval (.tmp 73) = u73 at ha
    generalize af.eval (.tmp 74) = u74 at ha
    generalize af.eval (.tmp 75) = u75 at ha
    subst ha
    simp only [Act.put, List.setIfInBounds_toArray, List.set_cons_zero, List.set_cons_succ]
    go_wp2
    go_ret
    exact ⟨by rw [HE.out]; rfl, HBN.out⟩
  have c12 := decide_eq_true k12
  by_cases k13 : z ≤ 1439
  case neg =>
    have HE := Lib.hid (HNO.out (fun h => k13 h.2.2.2.2.2))
    have c13 := decide_eq_false k13
    clear HNO HR
    go_enter Tryd.func19, Tryd.ntmps19
    go_wp2_with fail
    rw [← Hw1.out]
    refine gd13 w.heap.size (Y : Int) (M : Int) k hh mi s z d (fun p R W => Below w1.heap.size w1 W ∧ (0 < p → R 0 = .int .i64 d)) (by show 75 < 76; omega) rfl HX.out c0 c1 c2 c3 c4 c5 c6 c7 c8 c9 c10 c11 c12 c13 HCL.out (fun p R W h => h.2) ⟨(Below.refl _ _).drew, fun h => absurd h (by decide)⟩ ?_
    intro af wN hfr h2 hS
    have HBN := Lib.hid (HB1.out.trans (hS.1.mono HB1.out.size))
    clear hS
    have ha := hfr.eq (by intro t ht; simp at ht; show t < 76; omega)
    simp only [List.foldl_cons, List.foldl_nil] at ha
    clear hfr
    rw [h2] at ha
    clear h2
    generalize af.eval (.tmp 3) = u3 at ha
    generalize af.eval (.tmp 4) = u4 at ha
    generalize af.eval (.tmp 5) = u5 at ha
    generalize af.eval (.tmp 6) = u6 at ha
    generalize af.eval (.tmp 7) = u7 at ha
    generalize af.eval (.tmp 8) = u8 at ha
    generalize af.eval (.tmp 9) = u9 at ha
    generalize af.eval (.tmp 10) = u10 at ha
    generalize af.eval (.tmp 11) = u11 at ha
    generalize af.eval (.tmp 12) = u12 at ha
    generalize af.eval (.tmp 13) = u13 at ha
    generalize af.eval (.tmp 14) = u14 at ha
    generalize af.eval (.tmp 15) = u15 at ha
    generalize af.eval (.tmp 16) = u16 at ha
    generalize af.eval (.tmp 17) = u17 at ha
    generalize af.eval (.tmp 18) = u18 at ha
    generalize af.eval (.tmp 19) = u19 at ha
    generalize af.eval (.tmp 20) = u20 at ha
    generalize af.eval (.tmp 21) = u21 at ha
    generalize af.eval (.tmp 22) = u22 at ha
    generalize af.eval (.tmp 23) = u23 at ha
    generalize af.eval (.tmp 24) = u24 at ha
    generalize af.eval (.tmp 25) = u25 at ha
    generalize af.eval (.tmp 26) = u26 at ha
    generalize af.eval (.tmp 27) = u27 at ha
    generalize af.eval (.tmp 28) = u28 at ha
    generalize af.eval (.tmp 29) = u29 at ha
    generalize af.eval (.tmp 30) = u30 at ha
    generalize af.eval (.tmp 31) = u31 at ha
    generalize af.eval (.tmp 32) = u32 at ha
    generalize af.eval (.tmp 33) = u33 at ha
    generalize af.eval (.tmp 34) = u34 at ha
    generalize af.eval (.tmp 35) = u35 at ha
    generalize af.eval (.tmp 36) = u36 at ha
    generalize af.eval (.tmp 37) = u37 at ha
    generalize af.eval (.tmp 38) = u38 at ha
    generalize af.eval (.tmp 39) = u39 at ha
    generalize af.eval (.tmp 40) = u40 at ha
    generalize af.eval (.tmp 41) = u41 at ha
    generalize af.eval (.tmp 42) = u42 at ha
    generalize af.eval (.tmp 43) = u43 at ha
    generalize af.eval (.tmp 44) = u44 at ha
    generalize af.eval (.tmp 45) = u45 at ha
    generalize af.eval (.tmp 46) = u46 at ha
    generalize af.eval (.tmp 47) = u47 at ha
    generalize af.eval (.tmp 48) = u48 at ha
    generalize af.eval (.tmp 49) = u49 at ha
    generalize af.eval (.tmp 50) = u50 at ha
    generalize af.eval (.tmp 51) = u51 at ha
    generalize af.eval (.tmp 52) = u52 at ha
    generalize af.eval (.tmp 53) = u53 at ha
    generalize af.eval (.tmp 54) = u54 at ha
    generalize af.eval (.tmp 55) = u55 at ha
    generalize af.eval (.tmp 56) = u56 at ha
    generalize af.eval (.tmp 57) = u57 at ha
    generalize af.eval (.tmp 58) = u58 at ha
    generalize af.eval (.tmp 59) = u59 at ha
    generalize af.eval (.tmp 60) = u60 at ha
    generalize af.eval (.tmp 61) = u61 at ha
    generalize af.eval (.tmp 62) = u62 at ha
    generalize af.eval (.tmp 63) = u63 at ha
    generalize af.eval (.tmp 64) = u64 at ha
    generalize af.eval (.tmp 65) = u65 at ha
    generalize af.eval (.tmp 66) = u66 at ha
    generalize af.eval (.tmp 67) = u67 at ha
    generalize af.eval (.tmp 68) = u68 at ha
    generalize af.eval (.tmp 69) = u69 at ha
    generalize af.eval (.tmp 70) = u70 at ha
    generalize af.eval (.tmp 71) = u71 at ha
    generalize af.eval (.tmp 72) = u72 at ha
    generalize af.eval (.tmp 73) = u73 at ha
    generalize af.eval (.tmp 74) = u74 at ha
    generalize af.eval (.tmp 75) = u75 at ha
    subst ha
    simp only [Act.put, List.setIfInBounds_toArray, List.set_cons_zero, List.set_cons_succ]
    go_wp2
    go_ret
    exact ⟨by rw [HE.out]; rfl, HBN.out⟩
  have c13 := decide_eq_true k13
  have HE : Hid (r = true) := Lib.hid (by
    rw [HR.out]
    exact decide_eq_true ⟨⟨of_decide_eq_true c0, of_decide_eq_true c1, of_decide_eq_true c2, of_decide_eq_true c3, of_decide_eq_true c4, HDM.out.1 k5⟩, ⟨k6, k7⟩, ⟨k8, k9⟩, ⟨k10, k11⟩, k12, k13⟩)
  clear HNO HR k5 k6 k7 k8 k9 k10 k11 k12 k13
  go_enter Tryd.func19, Tryd.ntmps19
  go_wp2_with fail
  rw [← Hw1.out]
  refine gd14 w.heap.size (Y : Int) (M : Int) k hh mi s z d (fun p R W => Below w1.heap.size w1 W ∧ (0 < p → R 0 = .int .i64 d)) (by show 75 < 76; omega) rfl HX.out c0 c1 c2 c3 c4 c5 c6 c7 c8 c9 c10 c11 c12 c13 HCL.out (fun p R W h => h.2) ⟨(Below.refl _ _).drew, fun h => absurd h (by decide)⟩ ?_
  intro af wN hfr h2 hS
  have HBN := Lib.hid (HB1.out.trans (hS.1.mono HB1.out.size))
  clear hS
  have ha := hfr.eq (by intro t ht; simp at ht; show t < 76; omega)
  simp only [List.foldl_cons, List.foldl_nil] at ha
  clear hfr
  rw [h2] at ha
  clear h2
  generalize af.eval (.tmp 3) = u3 at ha
  generalize af.eval (.tmp 4) = u4 at ha
  generalize af.eval (.tmp 5) = u5 at ha
  generalize af.eval (.tmp 6) = u6 at ha
  generalize af.eval (.tmp 7) = u7 at ha
  generalize af.eval (.tmp 8) = u8 at ha
  generalize af.eval (.tmp 9) = u9 at ha
  generalize af.eval (.tmp 10) = u10 at ha
  generalize af.eval (.tmp 11) = u11 at ha
  generalize af.eval (.tmp 12) = u12 at ha
  generalize af.eval (.tmp 13) = u13 at ha
  generalize af.eval (.tmp 14) = u14 at ha
  generalize af.eval (.tmp 15) = u15 at ha
  generalize af.eval (.tmp 16) = u16 at ha
  generalize af.eval (.tmp 17) = u17 at ha
  generalize af.eval (.tmp 18) = u18 at ha
  generalize af.eval (.tmp 19) = u19 at ha
  generalize af.eval (.tmp 20) = u20 at ha
  generalize af.eval (.tmp 21) = u21 at ha
  generalize af.eval (.tmp 22) = u22 at ha
  generalize af.eval (.tmp 23) = u23 at ha
  generalize af.eval (.tmp 24) = u24 at ha
  generalize af.eval (.tmp 25) = u25 at ha
  generalize af.eval (.tmp 26) = u26 at ha
  generalize af.eval (.tmp 27) = u27 at ha
  generalize af.eval (.tmp 28) = u28 at ha
  generalize af.eval (.tmp 29) = u29 at ha
  generalize af.eval (.tmp 30) = u30 at ha
  generalize af.eval (.tmp 31) = u31 at ha
  generalize af.eval (.tmp 32) = u32 at ha
  generalize af.eval (.tmp 33) = u33 at ha
  generalize af.eval (.tmp 34) = u34 at ha
  generalize af.eval (.tmp 35) = u35 at ha
  generalize af.eval (.tmp 36) = u36 at ha
  generalize af.eval (.tmp 37) = u37 at ha
  generalize af.eval (.tmp 38) = u38 at ha
  generalize af.eval (.tmp 39) = u39 at ha
  generalize af.eval (.tmp 40) = u40 at ha
  generalize af.eval (.tmp 41) = u41 at ha
  generalize af.eval (.tmp 42) = u42 at ha
  generalize af.eval (.tmp 43) = u43 at ha
  generalize af.eval (.tmp 44) = u44 at ha
  generalize af.eval (.tmp 45) = u45 at ha
  generalize af.eval (.tmp 46) = u46 at ha
  generalize af.eval (.tmp 47) = u47 at ha
  generalize af.eval (.tmp 48) = u48 at ha
  generalize af.eval (.tmp 49) = u49 at ha
  generalize af.eval (.tmp 50) = u50 at ha
  generalize af.eval (.tmp 51) = u51 at ha
  generalize af.eval (.tmp 52) = u52 at ha
  generalize af.eval (.tmp 53) = u53 at ha
  generalize af.eval (.tmp 54) = u54 at ha
  generalize af.eval (.tmp 55) = u55 at ha
  generalize af.eval (.tmp 56) = u56 at ha
  generalize af.eval (.tmp 57) = u57 at ha
  generalize af.eval (.tmp 58) = u58 at ha
  generalize af.eval (.tmp 59) = u59 at ha
  generalize af.eval (.tmp 60) = u60 at ha
  generalize af.eval (.tmp 61) = u61 at ha
  generalize af.eval (.tmp 62) = u62 at ha
  generalize af.eval (.tmp 63) = u63 at ha
  generalize af.eval (.tmp 64) = u64 at ha
  generalize af.eval (.tmp 65) = u65 at ha
  generalize af.eval (.tmp 66) = u66 at ha
  generalize af.eval (.tmp 67) = u67 at ha
  generalize af.eval (.tmp 68) = u68 at ha
  generalize af.eval (.tmp 69) = u69 at ha
  generalize af.eval (.tmp 70) = u70 at ha
  generalize af.eval (.tmp 71) = u71 at ha
  generalize af.eval (.tmp 72) = u72 at ha
  generalize af.eval (.tmp 73) = u73 at ha
  generalize af.eval (.tmp 74) = u74 at ha
  generalize af.eval (.tmp 75) = u75 at ha
  subst ha
  simp only [Act.put, List.setIfInBounds_toArray, List.set_cons_zero, List.set_cons_succ]
  go_wp2
  go_ret
  exact ⟨by rw [HE.out]; rfl, HBN.out⟩
end Go.Proofs.YtgkibkophoikoaaDoor
