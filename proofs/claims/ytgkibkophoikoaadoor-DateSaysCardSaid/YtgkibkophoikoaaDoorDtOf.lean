/- date's Good, Unix, Of: the walks. -/
import Derived.Test.YtgkibkophoikoaaDoorDtNum
import Derived.Test.YtgkibkophoikoaaDoorSqRet
namespace Go.Proofs.YtgkibkophoikoaaDoor
open Go.RowKit
set_option linter.unusedVariables false
set_option maxRecDepth 100000

/-- A date's cells. -/
def dcs (d : Dt.D) : Array Value := #[.int .i64 d.year, .int .i64 d.month, .int .i64 d.day, .int .i64 d.hour, .int .i64 d.min, .int .i64 d.sec, .int .i64 d.zone]
theorem dcs_mk (y m k hh mi s z : Int) : dcs ⟨y, m, k, hh, mi, s, z⟩ = #[.int .i64 y, .int .i64 m, .int .i64 k, .int .i64 hh, .int .i64 mi, .int .i64 s, .int .i64 z] := rfl

set_option maxHeartbeats 1600000 in
theorem good_any (y m k hh mi s z : Int) (w : World) : Calls Tryd.prog 18 #[.agg #[.int .i64 y, .int .i64 m, .int .i64 k, .int .i64 hh, .int .i64 mi, .int .i64 s, .int .i64 z]] w fun e w' => e = .returned (.bool (decide (Dt.Good ⟨y, m, k, hh, mi, s, z⟩))) ∧ Below w.heap.size w w' := by
  obtain ⟨r, HR⟩ : ∃ r, Hid (r = decide (Dt.Good ⟨y, m, k, hh, mi, s, z⟩)) := ⟨_, Lib.hid rfl⟩
  rw [← HR.out]
  have HW := Lib.hid within_any
  have HGD := Lib.hid (goodDay_any y m k)
  have HGZ := Lib.hid (goodZone_any z)
  obtain ⟨b1, HB1⟩ : ∃ b, Hid (b = decide (Dt.GDay y m k)) := ⟨_, Lib.hid rfl⟩
  obtain ⟨b2, HB2⟩ : ∃ b, Hid (b = decide (0 ≤ hh ∧ hh ≤ 23)) := ⟨_, Lib.hid rfl⟩
  obtain ⟨b3, HB3⟩ : ∃ b, Hid (b = decide (0 ≤ mi ∧ mi ≤ 59)) := ⟨_, Lib.hid rfl⟩
  obtain ⟨b4, HB4⟩ : ∃ b, Hid (b = decide (0 ≤ s ∧ s ≤ 59)) := ⟨_, Lib.hid rfl⟩
  obtain ⟨b5, HB5⟩ : ∃ b, Hid (b = decide (Dt.GZone z)) := ⟨_, Lib.hid rfl⟩
  have hr : r = (b1 && (b2 && (b3 && (b4 && b5)))) := by
    rw [HR.out, HB1.out, HB2.out, HB3.out, HB4.out, HB5.out, ← Bool.decide_and, ← Bool.decide_and, ← Bool.decide_and, ← Bool.decide_and]
    exact decide_eq_decide.2 Iff.rfl
  have HRR := Lib.hid hr
  have HBEL : Hid (∀ o, Below w.heap.size w (w.alloc o)) := Lib.hid (fun o => (Below.refl _ _).alloc (Nat.le_refl _) o)
  clear hr
  go_enter Tryd.func18, Tryd.ntmps18
  go_wp2_with fail
  refine (HGD.out _).mono ?_
  rintro e w' ⟨rfl, rfl⟩
  rw [← HB1.out]
  cases b1 with
  | false =>
    go_wp2
    go_ret
    exact ⟨by rw [HRR.out]; rfl, HBEL.out _⟩
  | true =>
  go_wp2_with fail
  refine (HW.out _ _ _ _).mono ?_
  rintro e w' ⟨rfl, rfl⟩
  rw [← HB2.out]
  cases b2 with
  | false =>
    go_wp2
    go_ret
    exact ⟨by rw [HRR.out]; rfl, HBEL.out _⟩
  | true =>
  go_wp2_with fail
  refine (HW.out _ _ _ _).mono ?_
  rintro e w' ⟨rfl, rfl⟩
  rw [← HB3.out]
  cases b3 with
  | false =>
    go_wp2
    go_ret
    exact ⟨by rw [HRR.out]; rfl, HBEL.out _⟩
  | true =>
  go_wp2_with fail
  refine (HW.out _ _ _ _).mono ?_
  rintro e w' ⟨rfl, rfl⟩
  rw [← HB4.out]
  cases b4 with
  | false =>
    go_wp2
    go_ret
    exact ⟨by rw [HRR.out]; rfl, HBEL.out _⟩
  | true =>
  go_wp2_with fail
  refine (HGZ.out _).mono ?_
  rintro e w' ⟨rfl, rfl⟩
  rw [← HB5.out]
  go_wp2
  go_ret
  exact ⟨by rw [HRR.out]; rfl, HBEL.out _⟩

theorem unix_bounds {d : Dt.D} (h : Dt.Good d) : -90000 ≤ Dt.unix d ∧ Dt.unix d ≤ 253402400000 := by
  have h1 := Dt.unix_ge h
  obtain ⟨h2, h3⟩ := h.2.2.2.2
  omega

set_option maxHeartbeats 3200000 in
theorem unix_any (y m k hh mi s z : Int) (w : World) : Calls Tryd.prog 12 #[.agg #[.int .i64 y, .int .i64 m, .int .i64 k, .int .i64 hh, .int .i64 mi, .int .i64 s, .int .i64 z]] w fun e w' => e = .returned (.int .i64 (if Dt.Good ⟨y, m, k, hh, mi, s, z⟩ then Dt.unix ⟨y, m, k, hh, mi, s, z⟩ else 0)) ∧ Below w.heap.size w w' := by
  have HG := Lib.hid (good_any y m k hh mi s z)
  obtain ⟨w1, Hw1⟩ : ∃ w1, Hid (w1 = w.alloc (.cells #[.int .i64 y, .int .i64 m, .int .i64 k, .int .i64 hh, .int .i64 mi, .int .i64 s, .int .i64 z] 24)) := ⟨_, Lib.hid rfl⟩
  have HB1 : Hid (Below w.heap.size w w1) := Lib.hid (by rw [Hw1.out]; exact (Below.refl _ _).alloc (Nat.le_refl _) _)
  have HG1 : Hid (Blk w1 w.heap.size 24 #[.int .i64 y, .int .i64 m, .int .i64 k, .int .i64 hh, .int .i64 mi, .int .i64 s, .int .i64 z]) := Lib.hid (by rw [Hw1.out]; exact Blk.new w _ _)
  by_cases hg : Dt.Good ⟨y, m, k, hh, mi, s, z⟩
  · rw [if_pos hg]
    have hdec : decide (Dt.Good ⟨y, m, k, hh, mi, s, z⟩) = true := decide_eq_true hg
    have HDEC := Lib.hid hdec
    have hub := unix_bounds hg
    obtain ⟨u, HU⟩ : ∃ u, Hid (u = Dt.unix ⟨y, m, k, hh, mi, s, z⟩) := ⟨_, Lib.hid rfl⟩
    rw [← HU.out] at hub ⊢
    obtain ⟨⟨a1, a2, a3, a4, a5, a6⟩, ⟨c1, c2⟩, ⟨d1, d2⟩, ⟨e1, e2⟩, f1, f2⟩ := hg
    simp only at a1 a2 a3 a4 a5 a6 c1 c2 d1 d2 e1 e2 f1 f2
    have hz : Dt.GZone z := ⟨f1, f2⟩
    have HZS := Lib.hid (zoneSeconds_any z hz)
    obtain ⟨Y, rfl⟩ : ∃ Y : Nat, y = (Y : Int) := ⟨y.toNat, by omega⟩
    obtain ⟨M, rfl⟩ : ∃ M : Nat, m = (M : Int) := ⟨m.toNat, by omega⟩
    obtain ⟨K, rfl⟩ : ∃ K : Nat, k = (K : Int) := ⟨k.toNat, by omega⟩
    simp only [Int.toNat_natCast] at a6
    have hdm := (Dt.dm_pos Y M).2
    obtain ⟨n, HN⟩ : ∃ n : Nat, Hid (n = Dt.num Y M K) := ⟨_, Lib.hid rfl⟩
    have hn : n < 2932897 := by rw [HN.out]; exact Dt.num_lt_top (by omega) (by omega) (by omega) (by omega) (by omega) (by omega)
    have HDN := Lib.hid (dayNumber_any Y M K (n : Int) (by rw [HN.out]) (by omega) (by omega) (by omega) (by omega) (by omega) (by omega))
    have HDS := Lib.hid (dayStart_any (n : Int) (by omega) (by omega))
    have hu : u = (n : Int) * 86400 + (hh * 3600 + mi * 60 + s) - z * 60 := by
      rw [HU.out, HN.out]
      simp only [Dt.unix, Dt.dnum, Int.toNat_natCast]
      omega
    have HUU := Lib.hid hu
    have i1 : IntKind.i64.wrap (hh * 3600) = hh * 3600 := IntWalk.i64_in _ (by omega)
    have i2 : IntKind.i64.wrap (mi * 60) = mi * 60 := IntWalk.i64_in _ (by omega)
    have i3 : IntKind.i64.wrap (hh * 3600 + mi * 60) = hh * 3600 + mi * 60 := IntWalk.i64_in _ (by omega)
    have i4 : IntKind.i64.wrap (hh * 3600 + mi * 60 + s) = hh * 3600 + mi * 60 + s := IntWalk.i64_in _ (by omega)
    have i5 : IntKind.i64.wrap ((n : Int) * 86400 + (hh * 3600 + mi * 60 + s)) = (n : Int) * 86400 + (hh * 3600 + mi * 60 + s) := IntWalk.i64_in _ (by omega)
    have i6 : IntKind.i64.wrap ((n : Int) * 86400 + (hh * 3600 + mi * 60 + s) - z * 60) = (n : Int) * 86400 + (hh * 3600 + mi * 60 + s) - z * 60 := IntWalk.i64_in _ (by omega)
    clear hdec hub hz hu a6
    go_enter Tryd.func12, Tryd.ntmps12
    go_wp2_with fail
    rw [← Hw1.out]
    refine (HG.out _).mono ?_
    rintro e w2 ⟨rfl, hb2⟩
    rw [HDEC.out]
    have HB2 := Lib.hid (HB1.out.trans (hb2.mono HB1.out.size))
    have HG2 := Lib.hid (HG1.out.below hb2 HG1.out.lt)
    have x0 := HG2.out.cell 0 _ rfl
    have x1 := HG2.out.cell 1 _ rfl
    have x2 := HG2.out.cell 2 _ rfl
    have x3 := HG2.out.cell 3 _ rfl
    have x4 := HG2.out.cell 4 _ rfl
    have x5 := HG2.out.cell 5 _ rfl
    have x6 := HG2.out.cell 6 _ rfl
    clear hb2
    go_wp2_with fail
    go_quiet ((first | (go_at_call 29; exact Calls.quiet_of_same ((HDN.out _).mono (fun _ _ h => ⟨h.1, h.2.symm⟩))) | (go_at_call 28; exact Calls.quiet_of_same ((HDS.out _).mono (fun _ _ h => ⟨h.1, h.2.symm⟩))) | (go_at_call 27; exact Calls.quiet_of_same ((HZS.out _).mono (fun _ _ h => ⟨h.1, h.2.symm⟩)))))
    go_wp2
    go_ret
    exact ⟨by rw [HUU.out]; rfl, below_drewN HB2.out _⟩
  · rw [if_neg hg]
    have hdec : decide (Dt.Good ⟨y, m, k, hh, mi, s, z⟩) = false := decide_eq_false hg
    have HDEC := Lib.hid hdec
    clear hdec hg
    go_enter Tryd.func12, Tryd.ntmps12
    go_wp2_with fail
    rw [← Hw1.out]
    refine (HG.out _).mono ?_
    rintro e w2 ⟨rfl, hb2⟩
    rw [HDEC.out]
    have HB2 := Lib.hid (HB1.out.trans (hb2.mono HB1.out.size))
    clear hb2
    go_wp2
    go_ret
    exact ⟨rfl, HB2.out⟩

theorem Blk.set7 {w : World} {g t : Nat} {a0 a1 a2 a3 a4 a5 a6 : Value} (h : Blk w g t #[a0, a1, a2, a3, a4, a5, a6]) (b0 b1 b2 b3 b4 b5 b6 : Value) :
    Blk (((((((w.setCell ⟨g, 0, none⟩ b0).setCell ⟨g, 1, none⟩ b1).setCell ⟨g, 2, none⟩ b2).setCell ⟨g, 3, none⟩ b3).setCell ⟨g, 4, none⟩ b4).setCell ⟨g, 5, none⟩ b5).setCell ⟨g, 6, none⟩ b6) g t #[b0, b1, b2, b3, b4, b5, b6] := by
  have h7 := ((((((h.set 0 b0).set 1 b1).set 2 b2).set 3 b3).set 4 b4).set 5 b5).set 6 b6
  simp only [List.setIfInBounds_toArray, List.set_cons_zero, List.set_cons_succ] at h7
  exact h7
theorem below_set7 {B g : Nat} {a w : World} (h : Below B a w) (hB : B ≤ g) (b0 b1 b2 b3 b4 b5 b6 : Value) :
    Below B a (((((((w.setCell ⟨g, 0, none⟩ b0).setCell ⟨g, 1, none⟩ b1).setCell ⟨g, 2, none⟩ b2).setCell ⟨g, 3, none⟩ b3).setCell ⟨g, 4, none⟩ b4).setCell ⟨g, 5, none⟩ b5).setCell ⟨g, 6, none⟩ b6) :=
  below_set (below_set (below_set (below_set (below_set (below_set (below_set h hB 0 _) hB 1 _) hB 2 _) hB 3 _) hB 4 _) hB 5 _) hB 6 _
theorem of_ret (w : World) (tmps : Array Value) (g : Nat) (hp : tmps.getD 4 undef = .pointer (some ⟨g, 0, none⟩)) (y m k hh mi s z : Int) (x : Value) (hx : tmps.getD 5 undef = x) (hg : Blk w g 24 #[.int .i64 y, .int .i64 m, .int .i64 k, .int .i64 hh, .int .i64 mi, .int .i64 s, .int .i64 z]) :
    (results Tryd.f10 tmps).run Tryd.prog w = .ok (.tuple #[.agg #[.int .i64 y, .int .i64 m, .int .i64 k, .int .i64 hh, .int .i64 mi, .int .i64 s, .int .i64 z], x]) w :=
  ret_cell2 rfl tmps w g hp _ _ hg _ Tryd.underlying24 rfl (by kernel_rfl) x hx
theorem i64_of_wf {z : Int} (h : (Lit.int .i64 z).wf = true) : -9223372036854775808 ≤ z ∧ z ≤ 9223372036854775807 := by
  have h0 : IntKind.i64.min = -9223372036854775808 := rfl
  have h1 : IntKind.i64.max = 9223372036854775807 := rfl
  simp [Lit.wf, h0, h1] at h
  omega
def ofV : Option Dt.D → Value
  | none => .tuple #[.agg (dcs Dt.zero), .int .i64 1]
  | some d => .tuple #[.agg (dcs d), .int .i64 0]
def OfEnd (u z : Int) (w : World) (e : Ending) (w' : World) : Prop := ∃ r, Dt.OfR u z r ∧ e = .returned (ofV r) ∧ Below w.heap.size w w'

set_option maxHeartbeats 3200000 in
theorem of_any (u z : Int) (wu : (Lit.int .i64 u).wf = true) (w : World) : Calls Tryd.prog 10 #[.int .i64 u, .int .i64 z] w (OfEnd u z w) := by
  obtain ⟨u1, u2⟩ : -9223372036854775808 ≤ u ∧ u ≤ 9223372036854775807 := i64_of_wf wu
  obtain ⟨w1, Hw1⟩ : ∃ w1, Hid (w1 = w.alloc (.cells #[.int .i64 0, .int .i64 0, .int .i64 0, .int .i64 0, .int .i64 0, .int .i64 0, .int .i64 0] 24)) := ⟨_, Lib.hid rfl⟩
  have HB1 : Hid (Below w.heap.size w w1) := Lib.hid (by rw [Hw1.out]; exact (Below.refl _ _).alloc (Nat.le_refl _) _)
  have HG1 : Hid (Blk w1 w.heap.size 24 #[.int .i64 0, .int .i64 0, .int .i64 0, .int .i64 0, .int .i64 0, .int .i64 0, .int .i64 0]) := Lib.hid (by rw [Hw1.out]; exact Blk.new w _ _)
  have HGZ := Lib.hid (goodZone_any z)
  have x0 := HG1.out.cell 0 _ rfl
  have x1 := HG1.out.cell 1 _ rfl
  have x2 := HG1.out.cell 2 _ rfl
  have x3 := HG1.out.cell 3 _ rfl
  have x4 := HG1.out.cell 4 _ rfl
  have x5 := HG1.out.cell 5 _ rfl
  have x6 := HG1.out.cell 6 _ rfl
  have y0 := HG1.out.frozen 0
  have y1 := HG1.out.frozen 1
  have y2 := HG1.out.frozen 2
  have y3 := HG1.out.frozen 3
  have y4 := HG1.out.frozen 4
  have y5 := HG1.out.frozen 5
  have y6 := HG1.out.frozen 6
  have HNO : Hid (Dt.OfR u z none → OfEnd u z w (.returned (.tuple #[.agg (dcs Dt.zero), .int .i64 1])) (((((((w1.setCell ⟨w.heap.size, 0, none⟩ (.int .i64 0)).setCell ⟨w.heap.size, 1, none⟩ (.int .i64 0)).setCell ⟨w.heap.size, 2, none⟩ (.int .i64 0)).setCell ⟨w.heap.size, 3, none⟩ (.int .i64 0)).setCell ⟨w.heap.size, 4, none⟩ (.int .i64 0)).setCell ⟨w.heap.size, 5, none⟩ (.int .i64 0)).setCell ⟨w.heap.size, 6, none⟩ (.int .i64 0))) := Lib.hid (fun h => ⟨none, h, rfl, below_set7 HB1.out (Nat.le_refl _) _ _ _ _ _ _ _⟩)
  by_cases hz : Dt.GZone z
  case neg =>
    have hd : decide (Dt.GZone z) = false := decide_eq_false hz
    have HD := Lib.hid hd
    have HN := Lib.hid (HNO.out (Dt.OfR.zone hz))
    clear hd hz
    go_enter Tryd.func10, Tryd.ntmps10
    go_wp2_with fail
    rw [← Hw1.out]
    refine (HGZ.out _).mono ?_
    rintro e w2 ⟨rfl, rfl⟩
    rw [HD.out]
    go_wp2
    refine bodyPost_ret (of_ret _ _ w.heap.size rfl 0 0 0 0 0 0 0 _ rfl (HG1.out.set7 _ _ _ _ _ _ _)) rfl ?_
    exact HN.out
  have hd : decide (Dt.GZone z) = true := decide_eq_true hz
  have HD := Lib.hid hd
  have HZ := Lib.hid hz
  obtain ⟨z1, z2⟩ := hz
  have HZS := Lib.hid (zoneSeconds_any z HZ.out)
  have HN0 := Lib.hid (dayNumber_any 10000 1 1 2932897 (by rw [num_first, Dt.ahead_10000]; rfl) (by decide) (by decide) (by decide) (by decide) (by decide) (by decide))
  have HS0 := Lib.hid (dayStart_any 2932897 (by decide) (by decide))
  clear hd
  obtain ⟨sh, Hsh⟩ : ∃ sh : Int, Hid (sh = z * 60) := ⟨_, Lib.hid rfl⟩
  have hsh : -86340 ≤ sh ∧ sh ≤ 86340 := by rw [Hsh.out]; omega
  obtain ⟨h1, h2⟩ := hsh
  have i1 : IntKind.i64.wrap (-sh) = -sh := IntWalk.i64_in _ (by omega)
  have i2 : IntKind.i64.wrap (253402300800 - sh) = 253402300800 - sh := IntWalk.i64_in _ (by omega)
  have i3 : IntKind.i64.wrap (2932897 * 86400) = 253402300800 := by decide +kernel
  by_cases hlo : u < -sh
  case pos =>
    have HN := Lib.hid (HNO.out (Dt.OfR.far (.inl (by rw [← Hsh.out]; omega))))
    go_enter Tryd.func10, Tryd.ntmps10
    go_wp2_with fail
    rw [← Hw1.out]
    refine (HGZ.out _).mono ?_
    rintro e w2 ⟨rfl, rfl⟩
    rw [HD.out]
    go_wp2_with fail
    refine (HZS.out _).mono ?_
    rintro e w2 ⟨rfl, rfl⟩
    rw [← Hsh.out]
    go_wp2_with fail
    refine (HN0.out _).mono ?_
    rintro e w2 ⟨rfl, rfl⟩
    go_wp2_with fail
    refine (HS0.out _).mono ?_
    rintro e w2 ⟨rfl, rfl⟩
    go_wp2
    refine bodyPost_ret (of_ret _ _ w.heap.size rfl 0 0 0 0 0 0 0 _ rfl (HG1.out.set7 _ _ _ _ _ _ _)) rfl ?_
    exact HN.out
  by_cases hhi : 253402300800 - sh ≤ u
  case pos =>
    have HN := Lib.hid (HNO.out (Dt.OfR.far (.inr (by rw [← Hsh.out]; omega))))
    go_enter Tryd.func10, Tryd.ntmps10
    go_wp2_with fail
    rw [← Hw1.out]
    refine (HGZ.out _).mono ?_
    rintro e w2 ⟨rfl, rfl⟩
    rw [HD.out]
    go_wp2_with fail
    refine (HZS.out _).mono ?_
    rintro e w2 ⟨rfl, rfl⟩
    rw [← Hsh.out]
    go_wp2_with fail
    refine (HN0.out _).mono ?_
    rintro e w2 ⟨rfl, rfl⟩
    go_wp2_with fail
    refine (HS0.out _).mono ?_
    rintro e w2 ⟨rfl, rfl⟩
    go_wp2
    refine bodyPost_ret (of_ret _ _ w.heap.size rfl 0 0 0 0 0 0 0 _ rfl (HG1.out.set7 _ _ _ _ _ _ _)) rfl ?_
    exact HN.out
  obtain ⟨v, Hv⟩ : ∃ v : Nat, Hid ((v : Int) = u + sh) := ⟨(u + sh).toNat, Lib.hid (by omega)⟩
  have hv := Hv.out
  have hv2 : v < 253402300800 := by omega
  have i4 : IntKind.i64.wrap (u + sh) = (v : Int) := by rw [← hv]; exact IntWalk.i64_in _ (by omega)
  obtain ⟨n, HNn⟩ : ∃ n : Nat, Hid (n = v / 86400) := ⟨_, Lib.hid rfl⟩
  obtain ⟨t, HTt⟩ : ∃ t : Nat, Hid (t = v % 86400) := ⟨_, Lib.hid rfl⟩
  have hn : n < 2932897 := by rw [HNn.out]; omega
  have ht : t < 86400 := by rw [HTt.out]; exact Nat.mod_lt _ (by decide)
  have t1 : (v : Int).tmod 86400 = (t : Int) := by rw [HTt.out]; exact tmod_nat v 86400 (by decide)
  have q1 : (v : Int) / 86400 = (n : Int) := by rw [HNn.out]; exact quo_nat v 86400
  have i5 : IntKind.i64.wrap (t : Int) = (t : Int) := IntWalk.i64_in _ (by omega)
  have i6 : IntKind.i64.wrap (n : Int) = (n : Int) := IntWalk.i64_in _ (by omega)
  have q2 : (t : Int) / 3600 = ((t / 3600 : Nat) : Int) := quo_nat t 3600
  have t2 : (t : Int).tmod 3600 = ((t % 3600 : Nat) : Int) := tmod_nat t 3600 (by decide)
  have q3 : ((t % 3600 : Nat) : Int) / 60 = ((t % 3600 / 60 : Nat) : Int) := quo_nat (t % 3600) 60
  have t3 : (t : Int).tmod 60 = ((t % 60 : Nat) : Int) := tmod_nat t 60 (by decide)
  have HU : Hid (u + z * 60 = 86400 * (n : Int) + (t : Int)) := Lib.hid (by rw [← Hsh.out, ← hv, HNn.out, HTt.out]; omega)
  have HDO := Lib.hid (dayOf_any n hn)
  obtain ⟨a, Ha⟩ : ∃ a, Hid (a = t / 3600) := ⟨_, Lib.hid rfl⟩
  obtain ⟨b, Hb⟩ : ∃ b, Hid (b = t % 3600 / 60) := ⟨_, Lib.hid rfl⟩
  obtain ⟨c, Hc⟩ : ∃ c, Hid (c = t % 60) := ⟨_, Lib.hid rfl⟩
  have ha24 : a < 24 := by rw [Ha.out]; omega
  have hb60 : b < 60 := by rw [Hb.out]; omega
  have hc60 : c < 60 := by rw [Hc.out]; omega
  rw [← Ha.out] at q2
  rw [← Hb.out] at q3
  rw [← Hc.out] at t3
  have i7 : IntKind.i64.wrap (a : Int) = (a : Int) := IntWalk.i64_in _ (by omega)
  have i8 : IntKind.i64.wrap (b : Int) = (b : Int) := IntWalk.i64_in _ (by omega)
  have hr3 : t % 3600 < 3600 := Nat.mod_lt _ (by decide)
  obtain ⟨r3, Hr3⟩ : ∃ r3, Hid (r3 = t % 3600) := ⟨_, Lib.hid rfl⟩
  rw [← Hr3.out] at t2 q3 hr3
  have hlo2 : ¬ u < -sh := hlo
  have hhi2 : ¬ 253402300800 - sh ≤ u := hhi
  have hgs : w1.heap.size = w.heap.size + 1 := by rw [Hw1.out]; simp
  have HGS := Lib.hid hgs
  obtain ⟨w3, Hw3⟩ : ∃ w3, Hid (w3 = w1.alloc (.cells #[.int .i64 0, .int .i64 0, .int .i64 0, .int .i64 (a : Int), .int .i64 (b : Int), .int .i64 (c : Int), .int .i64 z] 24)) := ⟨_, Lib.hid rfl⟩
  have HG3 : Hid (Blk w3 w1.heap.size 24 #[.int .i64 0, .int .i64 0, .int .i64 0, .int .i64 (a : Int), .int .i64 (b : Int), .int .i64 (c : Int), .int .i64 z]) := Lib.hid (by rw [Hw3.out]; exact Blk.new w1 _ _)
  have HB3 : Hid (Below w1.heap.size w1 w3) := Lib.hid (by rw [Hw3.out]; exact (Below.refl _ _).alloc (Nat.le_refl _) _)
  clear hgs hv HNn HTt Hr3 hlo hhi
  go_enter Tryd.func10, Tryd.ntmps10
  go_wp2_with fail
  rw [← Hw1.out]
  refine (HGZ.out _).mono ?_
  rintro e w2 ⟨rfl, rfl⟩
  rw [HD.out]
  go_wp2_with fail
  refine (HZS.out _).mono ?_
  rintro e w2 ⟨rfl, rfl⟩
  rw [← Hsh.out]
  go_wp2_with fail
  refine (HN0.out _).mono ?_
  rintro e w2 ⟨rfl, rfl⟩
  go_wp2_with fail
  refine (HS0.out _).mono ?_
  rintro e w2 ⟨rfl, rfl⟩
  clear x0 x1 x2 x3 x4 x5 x6 y0 y1 y2 y3 y4 y5 y6
  go_wp2_with fail
  rw [← Hw3.out]
  refine (HDO.out _).mono ?_
  rintro e w4 ⟨y, m, k, rfl, rfl, k1, k2, k3, k4, k5, k6, k7⟩
  have HR : Hid (Dt.OfR u z (some ⟨y, m, k, a, b, c, z⟩)) := Lib.hid (by
    have := Dt.OfR.at HZ.out HU.out ht k1 k2 k3 k4 k5 k6 k7
    rw [← Ha.out, ← Hb.out, ← Hc.out] at this
    exact this)
  clear k1 k2 k3 k4 k5 k6 k7
  have HX3 : Hid (Blk w3 w.heap.size 24 #[.int .i64 0, .int .i64 0, .int .i64 0, .int .i64 0, .int .i64 0, .int .i64 0, .int .i64 0]) := Lib.hid (HG1.out.below HB3.out HG1.out.lt)
  have hne : w.heap.size ≠ w1.heap.size := by rw [HGS.out]; omega
  have HG4 := Lib.hid (((HG3.out.set 0 (.int .i64 (y : Int))).set 1 (.int .i64 (m : Int))).set 2 (.int .i64 (k : Int)))
  have HX4 := Lib.hid (((HX3.out.other hne (i := 0) (.int .i64 (y : Int))).other hne (i := 1) (.int .i64 (m : Int))).other hne (i := 2) (.int .i64 (k : Int)))
  have HB4 : Hid (Below w.heap.size w (((w3.setCell ⟨w1.heap.size, 0, none⟩ (.int .i64 (y : Int))).setCell ⟨w1.heap.size, 1, none⟩ (.int .i64 (m : Int))).setCell ⟨w1.heap.size, 2, none⟩ (.int .i64 (k : Int)))) := Lib.hid (by
    have hle := HB1.out.size
    exact below_set (below_set (below_set (HB1.out.trans (HB3.out.mono hle)) hle 0 _) hle 1 _) hle 2 _)
  obtain ⟨w5, Hw5⟩ : ∃ w5, Hid (w5 = ((w3.setCell ⟨w1.heap.size, 0, none⟩ (.int .i64 (y : Int))).setCell ⟨w1.heap.size, 1, none⟩ (.int .i64 (m : Int))).setCell ⟨w1.heap.size, 2, none⟩ (.int .i64 (k : Int))) := ⟨_, Lib.hid rfl⟩
  have v0 := HG3.out.cell 0 _ rfl
  have v1 := HG3.out.cell 1 _ rfl
  have v2 := HG3.out.cell 2 _ rfl
  have g0 := HG3.out.frozen 0
  have g1 := HG3.out.frozen 1
  have g2 := HG3.out.frozen 2
  have v3 := HG3.out.cell 3 _ rfl
  have v4 := HG3.out.cell 4 _ rfl
  have v5 := HG3.out.cell 5 _ rfl
  have v6 := HG3.out.cell 6 _ rfl
  have x0 := HX3.out.cell 0 _ rfl
  have x1 := HX3.out.cell 1 _ rfl
  have x2 := HX3.out.cell 2 _ rfl
  have x3 := HX3.out.cell 3 _ rfl
  have x4 := HX3.out.cell 4 _ rfl
  have x5 := HX3.out.cell 5 _ rfl
  have x6 := HX3.out.cell 6 _ rfl
  have y0 := HX3.out.frozen 0
  have y1 := HX3.out.frozen 1
  have y2 := HX3.out.frozen 2
  have y3 := HX3.out.frozen 3
  have y4 := HX3.out.frozen 4
  have y5 := HX3.out.frozen 5
  have y6 := HX3.out.frozen 6
  go_wp2
  refine bodyPost_ret (of_ret _ _ w.heap.size rfl (y : Int) (m : Int) (k : Int) (a : Int) (b : Int) (c : Int) z _ rfl (HX4.out.set7 _ _ _ _ _ _ _)) rfl ?_
  exact ⟨_, HR.out, rfl, below_set7 HB4.out (Nat.le_refl _) _ _ _ _ _ _ _⟩
end Go.Proofs.YtgkibkophoikoaaDoor
