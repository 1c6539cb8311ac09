/- The reference's OfUnix: the walk. -/
import Derived.Test.YtgkibkophoikoaaDoorDtRCal
namespace Go.Proofs.YtgkibkophoikoaaDoor
open Go.RowKit
set_option linter.unusedVariables false
set_option maxRecDepth 100000

theorem rof_ret (w : World) (tmps : Array Value) (g : Nat) (hp : tmps.getD 4 undef = .pointer (some ⟨g, 0, none⟩)) (y m k hh mi s z : Int) (x : Value) (hx : tmps.getD 5 undef = x) (hg : Blk w g 33 #[.int .i64 y, .int .i64 m, .int .i64 k, .int .i64 hh, .int .i64 mi, .int .i64 s, .int .i64 z]) :
    (results Tryd.f14 tmps).run Tryd.prog w = .ok (.tuple #[.agg #[.int .i64 y, .int .i64 m, .int .i64 k, .int .i64 hh, .int .i64 mi, .int .i64 s, .int .i64 z], x]) w :=
  ret_cell2 rfl tmps w g hp _ _ hg _ Tryd.underlying33 rfl (by kernel_rfl) x hx

set_option maxHeartbeats 6400000 in
theorem rof_any (u z : Int) (wu : (Lit.int .i64 u).wf = true) (w : World) : Calls Tryd.prog 14 #[.int .i64 u, .int .i64 z] w (OfEnd u z w) := by
  obtain ⟨u1, u2⟩ : -9223372036854775808 ≤ u ∧ u ≤ 9223372036854775807 := i64_of_wf wu
  obtain ⟨w1, Hw1⟩ : ∃ w1, Hid (w1 = w.alloc (.cells #[.int .i64 0, .int .i64 0, .int .i64 0, .int .i64 0, .int .i64 0, .int .i64 0, .int .i64 0] 33)) := ⟨_, Lib.hid rfl⟩
  have HB1 : Hid (Below w.heap.size w w1) := Lib.hid (by rw [Hw1.out]; exact (Below.refl _ _).alloc (Nat.le_refl _) _)
  have HG1 : Hid (Blk w1 w.heap.size 33 #[.int .i64 0, .int .i64 0, .int .i64 0, .int .i64 0, .int .i64 0, .int .i64 0, .int .i64 0]) := Lib.hid (by rw [Hw1.out]; exact Blk.new w _ _)
  have HNO : Hid (Dt.OfR u z none → OfEnd u z w (.returned (.tuple #[.agg (dcs Dt.zero), .int .i64 1])) (w.alloc (.cells #[.int .i64 0, .int .i64 0, .int .i64 0, .int .i64 0, .int .i64 0, .int .i64 0, .int .i64 0] 33))) := Lib.hid (fun h => ⟨none, h, rfl, by rw [← Hw1.out]; exact HB1.out⟩)
  have HGW : Hid (Blk (w.alloc (.cells #[.int .i64 0, .int .i64 0, .int .i64 0, .int .i64 0, .int .i64 0, .int .i64 0, .int .i64 0] 33)) w.heap.size 33 #[.int .i64 0, .int .i64 0, .int .i64 0, .int .i64 0, .int .i64 0, .int .i64 0, .int .i64 0]) := Lib.hid (Blk.new w _ _)
  by_cases hz1 : z < -1439
  case pos =>
    have HN := Lib.hid (HNO.out (Dt.OfR.zone (fun h => by have := h.1; omega)))
    go_enter Tryd.func14, Tryd.ntmps14
    go_wp2
    refine bodyPost_ret (rof_ret _ _ w.heap.size rfl 0 0 0 0 0 0 0 _ rfl HGW.out) rfl ?_
    exact HN.out
  by_cases hz2 : 1439 < z
  case pos =>
    have HN := Lib.hid (HNO.out (Dt.OfR.zone (fun h => by have := h.2; omega)))
    go_enter Tryd.func14, Tryd.ntmps14
    go_wp2
    refine bodyPost_ret (rof_ret _ _ w.heap.size rfl 0 0 0 0 0 0 0 _ rfl HGW.out) rfl ?_
    exact HN.out
  by_cases hlo : u < -100000
  case pos =>
    have HN := Lib.hid (HNO.out (Dt.OfR.far (.inl (by omega))))
    go_enter Tryd.func14, Tryd.ntmps14
    go_wp2
    refine bodyPost_ret (rof_ret _ _ w.heap.size rfl 0 0 0 0 0 0 0 _ rfl HGW.out) rfl ?_
    exact HN.out
  by_cases hhi : 1099511627776 < u
  case pos =>
    have HN := Lib.hid (HNO.out (Dt.OfR.far (.inr (by omega))))
    go_enter Tryd.func14, Tryd.ntmps14
    go_wp2
    refine bodyPost_ret (rof_ret _ _ w.heap.size rfl 0 0 0 0 0 0 0 _ rfl HGW.out) rfl ?_
    exact HN.out
  have HZ : Hid (Dt.GZone z) := Lib.hid ⟨by omega, by omega⟩
  have i1 : IntKind.i64.wrap (z * 60) = z * 60 := IntWalk.i64_in _ (by omega)
  by_cases hneg : u + z * 60 < 0
  case pos =>
    have HN := Lib.hid (HNO.out (Dt.OfR.far (.inl (by omega))))
    have i2 : IntKind.i64.wrap (u + z * 60) = u + z * 60 := IntWalk.i64_in _ (by omega)
    go_enter Tryd.func14, Tryd.ntmps14
    go_wp2
    refine bodyPost_ret (rof_ret _ _ w.heap.size rfl 0 0 0 0 0 0 0 _ rfl HGW.out) rfl ?_
    exact HN.out
  obtain ⟨v, Hv⟩ : ∃ v : Nat, Hid ((v : Int) = u + z * 60) := ⟨(u + z * 60).toNat, Lib.hid (by omega)⟩
  have hv := Hv.out
  have hv2 : v < 1200000000000 := by omega
  have i4 : IntKind.i64.wrap (u + z * 60) = (v : Int) := by rw [← hv]; exact IntWalk.i64_in _ (by omega)
  obtain ⟨n, HNn⟩ : ∃ n : Nat, Hid (n = v / 86400) := ⟨_, Lib.hid rfl⟩
  obtain ⟨t, HTt⟩ : ∃ t : Nat, Hid (t = v % 86400) := ⟨_, Lib.hid rfl⟩
  have hn : n < 20000000 := by rw [HNn.out]; omega
  have ht : t < 86400 := by rw [HTt.out]; exact Nat.mod_lt _ (by decide)
  have t1 : (v : Int).tmod 86400 = (t : Int) := by rw [HTt.out]; exact tmod_nat v 86400 (by decide)
  have q1 : (v : Int) / 86400 = (n : Int) := by rw [HNn.out]; exact quo_nat v 86400
  have i5 : IntKind.i64.wrap (t : Int) = (t : Int) := IntWalk.i64_in _ (by omega)
  have i6 : IntKind.i64.wrap (n : Int) = (n : Int) := IntWalk.i64_in _ (by omega)
  have HU : Hid (u + z * 60 = 86400 * (n : Int) + (t : Int)) := Lib.hid (by rw [← hv, HNn.out, HTt.out]; omega)
  have q2 : (t : Int) / 3600 = ((t / 3600 : Nat) : Int) := quo_nat t 3600
  have q3 : (t : Int) / 60 = ((t / 60 : Nat) : Int) := quo_nat t 60
  have t2 : ((t / 60 : Nat) : Int).tmod 60 = ((t / 60 % 60 : Nat) : Int) := tmod_nat (t / 60) 60 (by decide)
  have t3 : (t : Int).tmod 60 = ((t % 60 : Nat) : Int) := tmod_nat t 60 (by decide)
  obtain ⟨a, Ha⟩ : ∃ a, Hid (a = t / 3600) := ⟨_, Lib.hid rfl⟩
  obtain ⟨b, Hb⟩ : ∃ b, Hid (b = t / 60 % 60) := ⟨_, Lib.hid rfl⟩
  obtain ⟨c, Hc⟩ : ∃ c, Hid (c = t % 60) := ⟨_, Lib.hid rfl⟩
  obtain ⟨r3, Hr3⟩ : ∃ r3, Hid (r3 = t / 60) := ⟨_, Lib.hid rfl⟩
  have HBB : Hid (b = t % 3600 / 60) := Lib.hid (by rw [Hb.out]; omega)
  have ha24 : a < 24 := by rw [Ha.out]; omega
  have hr3 : r3 < 1440 := by rw [Hr3.out]; omega
  rw [← Ha.out] at q2
  rw [← Hb.out, ← Hr3.out] at t2
  rw [← Hr3.out] at q3
  rw [← Hc.out] at t3
  have i7 : IntKind.i64.wrap (a : Int) = (a : Int) := IntWalk.i64_in _ (by omega)
  have i8 : IntKind.i64.wrap (r3 : Int) = (r3 : Int) := IntWalk.i64_in _ (by omega)
  have HAH := Lib.hid (fun (y : Nat) (h1 : 1970 ≤ y) (h2 : y ≤ 10000) => rahead_any y (Dt.ahead y : Int) rfl h1 h2)
  have HTOP := Lib.hid Dt.ahead_10000
  have HD := Lib.hid (fun (y j : Nat) (d : Int) (hd : d = (Dt.dm y j : Int)) (hy : y ≤ 100000) (h1 : 1 ≤ j) (h2 : j ≤ 12) => rdays_any y j d hd hy h1 h2)
  have HFAR : Hid (2932897 ≤ n → Dt.OfR u z none) := Lib.hid (fun h => Dt.OfR.far (.inr (by rw [HU.out]; omega)))
  have hneg2 : ¬ (v : Int) < 0 := by omega
  clear hv HNn HTt hneg
  go_enter Tryd.func14, Tryd.ntmps14
  go_wp2
  go_loop [9] (fun s9 => ∃ y : Nat, 1970 ≤ y ∧ y ≤ 10000 ∧ s9 = .int .i64 y ∧ Hid (Dt.ahead y ≤ n)) (fun s9 => 10001 - (intOf s9).toNat)
  case atStart => exact ⟨1970, Nat.le_refl _, by decide, rfl, Lib.hid (by rw [Dt.ahead_1970]; exact Nat.zero_le _)⟩
  case round =>
    obtain ⟨y, h1, h2, rfl, HA⟩ := hrel
    by_cases h9 : y ≤ 9999
    case neg =>
      obtain rfl : y = 10000 := by omega
      have HN := Lib.hid (HNO.out (HFAR.out (by rw [← HTOP.out]; exact HA.out)))
      have y0 := HGW.out.frozen 0
      go_wp2
      refine bodyPost_ret (rof_ret _ _ w.heap.size rfl 0 0 0 0 0 0 0 _ rfl HGW.out) rfl ?_
      exact HN.out
    obtain ⟨x, Hx⟩ : ∃ x : Nat, Hid (x = Dt.ahead (y + 1)) := ⟨_, Lib.hid rfl⟩
    have HN1 : Hid (∀ w, Calls Tryd.prog 36 #[.int .i64 ((y : Int) + 1)] w fun e w' => e = .returned (.int .i64 (x : Int)) ∧ w = w') := Lib.hid (fun w => by
      have := HAH.out (y + 1) (by omega) (by omega) w
      rw [← Hx.out] at this
      exact this)
    by_cases hle : x ≤ n
    · have HX : Hid (Dt.ahead (y + 1) ≤ n) := Lib.hid (by rw [← Hx.out]; exact hle)
      go_wp2_with fail
      refine (HN1.out _).mono ?_
      rintro e w2 ⟨rfl, rfl⟩
      go_wp2
      go_round
      case rel => exact ⟨y + 1, by omega, by omega, by go_num, HX⟩
      case measure => simp [intOf]; omega
    · have HB : Hid (n < Dt.ahead (y + 1)) := Lib.hid (by rw [← Hx.out]; omega)
      obtain ⟨zz, Hz⟩ : ∃ zz : Nat, Hid (zz = Dt.ahead y) := ⟨_, Lib.hid rfl⟩
      have hzn : zz ≤ n := by rw [Hz.out]; exact HA.out
      have HN0 : Hid (∀ w, Calls Tryd.prog 36 #[.int .i64 (y : Int)] w fun e w' => e = .returned (.int .i64 (zz : Int)) ∧ w = w') := Lib.hid (fun w => by
        have := HAH.out y h1 h2 w
        rw [← Hz.out] at this
        exact this)
      obtain ⟨L, HL⟩ : ∃ L : Nat, Hid (L = n - zz) := ⟨_, Lib.hid rfl⟩
      have s1 : (n : Int) - (zz : Int) = (L : Int) := by have := HL.out; omega
      have hL : L < 20000000 := by rw [HL.out]; omega
      have s2 : IntKind.i64.wrap (L : Int) = (L : Int) := IntWalk.i64_in _ (by omega)
      have HL2 : Hid (L = n - Dt.ahead y) := Lib.hid (by rw [HL.out, Hz.out])
      have H12 : Hid (∀ k l : Nat, k ≤ 12 → Dt.ms y k + l = n - Dt.ahead y → k ≤ 11) := Lib.hid (fun k l hk hl => Dt.left_lt h1 HA.out HB.out hk hl)
      obtain ⟨w3, Hw3⟩ : ∃ w3, Hid (w3 = w1.alloc (.cells #[.int .i64 (y : Int), .int .i64 1, .int .i64 0, .int .i64 (a : Int), .int .i64 (b : Int), .int .i64 (c : Int), .int .i64 z] 33)) := ⟨_, Lib.hid rfl⟩
      have HG3 : Hid (Blk w3 w1.heap.size 33 #[.int .i64 (y : Int), .int .i64 1, .int .i64 0, .int .i64 (a : Int), .int .i64 (b : Int), .int .i64 (c : Int), .int .i64 z]) := Lib.hid (by rw [Hw3.out]; exact Blk.new w1 _ _)
      have HB3 : Hid (Below w1.heap.size w1 w3) := Lib.hid (by rw [Hw3.out]; exact (Below.refl _ _).alloc (Nat.le_refl _) _)
      have HGS : Hid (w1.heap.size = w.heap.size + 1) := Lib.hid (by rw [Hw1.out]; simp)
      have HX3 : Hid (Blk w3 w.heap.size 33 #[.int .i64 0, .int .i64 0, .int .i64 0, .int .i64 0, .int .i64 0, .int .i64 0, .int .i64 0]) := Lib.hid (HG1.out.below HB3.out HG1.out.lt)
      obtain ⟨gd, Hgd⟩ : ∃ gd, Hid (gd = w1.heap.size) := ⟨_, Lib.hid rfl⟩
      have hgd : w.heap.size + 1 = gd := by rw [Hgd.out, HGS.out]
      rw [← Hgd.out] at HG3
      have HB3' : Hid (Below w.heap.size w w3) := Lib.hid (HB1.out.trans (HB3.out.mono HB1.out.size))
      rw [Hw1.out] at Hw3
      go_wp2_with fail
      refine (HN1.out _).mono ?_
      rintro e w2 ⟨rfl, rfl⟩
      go_wp2_with fail
      rw [← Hw3.out]
      refine (HN0.out _).mono ?_
      rintro e w2 ⟨rfl, rfl⟩
      go_wp2
      go_loopw [11] (fun s11 wr => ∃ k l : Nat, k ≤ 11 ∧ l ≤ L ∧ s11 = .int .i64 l ∧ Hid (Blk wr gd 33 #[.int .i64 (y : Int), .int .i64 ((k + 1 : Nat) : Int), .int .i64 0, .int .i64 (a : Int), .int .i64 (b : Int), .int .i64 (c : Int), .int .i64 z]) ∧ Hid (Blk wr w.heap.size 33 #[.int .i64 0, .int .i64 0, .int .i64 0, .int .i64 0, .int .i64 0, .int .i64 0, .int .i64 0]) ∧ Hid (Below w.heap.size w wr) ∧ Hid (Dt.ms y k + l = n - Dt.ahead y)) (fun s11 _ => (intOf s11).toNat)
      case atStart => exact ⟨0, L, by omega, Nat.le_refl _, rfl, HG3, HX3, HB3', Lib.hid (by rw [HL2.out]; simp [Dt.ms])⟩
      case round =>
        obtain ⟨k, l, hk, hl, rfl, HGr, HXr, HBr, HK⟩ := hrel
        clear s1 s2
        have x0 := HGr.out.cell 0 _ rfl
        have x1 := HGr.out.cell 1 _ rfl
        have x2 := HGr.out.cell 2 _ rfl
        have x3 := HGr.out.cell 3 _ rfl
        have x4 := HGr.out.cell 4 _ rfl
        have x5 := HGr.out.cell 5 _ rfl
        have x6 := HGr.out.cell 6 _ rfl
        have f1 := HGr.out.frozen 1
        have f2 := HGr.out.frozen 2
        obtain ⟨d, Hd⟩ : ∃ d : Nat, Hid (d = Dt.dm y (k + 1)) := ⟨_, Lib.hid rfl⟩
        obtain ⟨M, HM⟩ : ∃ M : Nat, Hid (M = k + 1) := ⟨_, Lib.hid rfl⟩
        rw [← HM.out] at x1
        have hM : 1 ≤ M ∧ M ≤ 12 := by rw [HM.out]; omega
        obtain ⟨hM1, hM2⟩ := hM
        have hd31 : 28 ≤ d ∧ d ≤ 31 := by rw [Hd.out]; exact Dt.dm_pos y (k + 1)
        obtain ⟨hd28, hd31⟩ := hd31
        have HDJ := Lib.hid (HD.out y M (d : Int) (by rw [Hd.out, HM.out]) (by omega) hM1 hM2)
        have HNE : Hid (w.heap.size ≠ gd) := Lib.hid (by omega)
        by_cases hge : d ≤ l
        · have HK2 : Hid (Dt.ms y (k + 1) + (l - d) = n - Dt.ahead y) := Lib.hid (by
            rw [Dt.ms_next, ← HK.out, ← Hd.out]; omega)
          have hk11 : k + 1 ≤ 11 := H12.out (k + 1) (l - d) (by omega) HK2.out
          obtain ⟨p, Hp⟩ : ∃ p : Nat, Hid (p = l - d) := ⟨_, Lib.hid rfl⟩
          have hp : (l : Int) - (d : Int) = (p : Int) := by have := Hp.out; omega
          have hpl : p < l := by rw [Hp.out]; omega
          rw [← Hp.out] at HK2
          have iM : IntKind.i64.wrap ((M : Int) + 1) = (M : Int) + 1 := IntWalk.i64_in _ (by omega)
          have HM2 : Hid (((k + 1 + 1 : Nat) : Int) = (M : Int) + 1) := Lib.hid (by rw [HM.out]; rfl)
          go_wp2_with fail
          refine (HDJ.out _).mono ?_
          rintro e w5 ⟨rfl, hb5⟩
          have HG5 := Lib.hid (HGr.out.below hb5 HGr.out.lt)
          have HX5 := Lib.hid (HXr.out.below hb5 HXr.out.lt)
          have HB5 := Lib.hid (HBr.out.trans (hb5.mono HBr.out.size))
          clear hb5 x0 x1 x2 x3 x4 x5 x6 f1 f2
          have x1 := HG5.out.cell 1 _ rfl
          rw [← HM.out] at x1
          go_wp2_with fail
          clear x1
          refine (HDJ.out _).mono ?_
          rintro e w6 ⟨rfl, hb6⟩
          have HG6 := Lib.hid (HG5.out.below hb6 HG5.out.lt)
          have HX6 := Lib.hid (HX5.out.below hb6 HX5.out.lt)
          have HB6 := Lib.hid (HB5.out.trans (hb6.mono HB5.out.size))
          have x1 := HG6.out.cell 1 _ rfl
          have f1 := HG6.out.frozen 1
          rw [← HM.out] at x1
          have HG7 := Lib.hid (HG6.out.set 1 (.int .i64 ((M : Int) + 1)))
          have HX7 := Lib.hid (HX6.out.other HNE.out (i := 1) (.int .i64 ((M : Int) + 1)))
          have HB7 : Hid (Below w.heap.size w (w6.setCell ⟨gd, 1, none⟩ (.int .i64 ((M : Int) + 1)))) := Lib.hid (below_set HB6.out (by omega) 1 _)
          clear hb6
          go_wp2
          go_roundw
          case rel => exact ⟨k + 1, p, hk11, by omega, by first | rfl | (rw [hp]), Lib.hid (by rw [HM2.out]; exact HG7.out), HX7, HB7, HK2⟩
          case measure => simp [intOf]; omega
        · have HP := Lib.hid (Dt.place h1 HA.out HB.out hk HK.out (by rw [← Hd.out]; omega))
          have HR : Hid (Dt.OfR u z (some ⟨y, (M : Int), (l : Int) + 1, a, b, c, z⟩)) := Lib.hid (by
            obtain ⟨p1, p2, p3, p4, p5⟩ := HP.out
            have := Dt.OfR.at HZ.out HU.out ht h1 h9 p1 p2 p3 p4 p5
            rw [← Ha.out, ← HBB.out, ← Hc.out, ← HM.out] at this
            exact this)
          have il : IntKind.i64.wrap ((l : Int) + 1) = (l : Int) + 1 := IntWalk.i64_in _ (by omega)
          go_wp2_with fail
          refine (HDJ.out _).mono ?_
          rintro e w5 ⟨rfl, hb5⟩
          have HG5 := Lib.hid (HGr.out.below hb5 HGr.out.lt)
          have HX5 := Lib.hid (HXr.out.below hb5 HXr.out.lt)
          have HB5 := Lib.hid (HBr.out.trans (hb5.mono HBr.out.size))
          clear hb5 x0 x1 x2 x3 x4 x5 x6 f1 f2
          have v0 := HG5.out.cell 0 _ rfl
          have v1 := HG5.out.cell 1 _ rfl
          rw [← HM.out] at v1
          have v2 := HG5.out.cell 2 _ rfl
          have v3 := HG5.out.cell 3 _ rfl
          have v4 := HG5.out.cell 4 _ rfl
          have v5 := HG5.out.cell 5 _ rfl
          have v6 := HG5.out.cell 6 _ rfl
          have g2 := HG5.out.frozen 2
          have x0 := HX5.out.cell 0 _ rfl
          have x1 := HX5.out.cell 1 _ rfl
          have x2 := HX5.out.cell 2 _ rfl
          have x3 := HX5.out.cell 3 _ rfl
          have x4 := HX5.out.cell 4 _ rfl
          have x5 := HX5.out.cell 5 _ rfl
          have x6 := HX5.out.cell 6 _ rfl
          have y0 := HX5.out.frozen 0
          have y1 := HX5.out.frozen 1
          have y2 := HX5.out.frozen 2
          have y3 := HX5.out.frozen 3
          have y4 := HX5.out.frozen 4
          have y5 := HX5.out.frozen 5
          have y6 := HX5.out.frozen 6
          have HX6 := Lib.hid (HX5.out.other HNE.out (i := 2) (.int .i64 ((l : Int) + 1)))
          have HB6 : Hid (Below w.heap.size w (w5.setCell ⟨gd, 2, none⟩ (.int .i64 ((l : Int) + 1)))) := Lib.hid (below_set HB5.out (by omega) 2 _)
          go_wp2
          refine bodyPost_ret (rof_ret _ _ w.heap.size rfl (y : Int) (M : Int) ((l : Int) + 1) (a : Int) (b : Int) (c : Int) z _ rfl (HX6.out.set7 _ _ _ _ _ _ _)) rfl ?_
          exact ⟨_, HR.out, rfl, below_set7 HB6.out (Nat.le_refl _) _ _ _ _ _ _ _⟩
end Go.Proofs.YtgkibkophoikoaaDoor
