/- date's monthName, appendTwo, appendZone, Show: the walks. -/
import Derived.Test.YtgkibkophoikoaaDoorDtOf
import Derived.Test.YtgkibkophoikoaaDoorRowB
import Derived.Test.YtgkibkophoikoaaDoorShelf
import Derived.Lib.ItoaLen
namespace Go.Proofs.YtgkibkophoikoaaDoor
open Go.RowKit
set_option linter.unusedVariables false
set_option maxRecDepth 100000

/-- What Show asks of the world: strconv's table of powers. -/
def PW (w : World) : Prop := Lib.TabIs Tryd.prog w "internal/strconv.uint64pow10" .u64 Lib.pow10Tab
theorem PW.below {w w' : World} (h : PW w) (hb : Below w.heap.size w w') : PW w' := ((Lib.tabBelow_of_tabIs h).on hb).here

theorem monthName_any (m : Nat) (h1 : 1 ≤ m) (h2 : m ≤ 12) (x : ByteArray) (hx : x.data.toList = Dt.mname m) (w : World) : Calls Tryd.prog 33 #[.int .i64 (m : Int)] w fun e w' => e = .returned (.string x) ∧ w = w' := by
  obtain ⟨⟨l⟩⟩ := x
  obtain rfl : l = Dt.mname m := hx
  have hm : m = 1 ∨ m = 2 ∨ m = 3 ∨ m = 4 ∨ m = 5 ∨ m = 6 ∨ m = 7 ∨ m = 8 ∨ m = 9 ∨ m = 10 ∨ m = 11 ∨ m = 12 := by omega
  clear h1 h2
  rcases hm with rfl | rfl | rfl | rfl | rfl | rfl | rfl | rfl | rfl | rfl | rfl | rfl
  all_goals
    go_enter Tryd.func33, Tryd.ntmps33
    go_wp2
    go_ret
    exact ⟨rfl, rfl⟩

theorem two_bv (a b : Nat) (ha : a < 10) (hb : b < 10) : (#[Value.int .u8 (48 + (a : Int)), Value.int .u8 (48 + (b : Int))] : Array Value).toList = bv [Dt.dg a, Dt.dg b] := by
  have e1 := Dt.dg_nat a (by omega)
  have e2 := Dt.dg_nat b (by omega)
  have c1 : (48 + (a : Int)) = ((Dt.dg a).toNat : Int) := by omega
  have c2 : (48 + (b : Int)) = ((Dt.dg b).toNat : Int) := by omega
  rw [c1, c2]; rfl

set_option maxHeartbeats 800000 in
theorem appTwo_any (B : Nat) (A : Option Addr) (c : Nat) (l : List UInt8) (n : Nat) (w : World) (h : RowB w B (.slice A l.length c) l) (hB : B ≤ w.heap.size) (hl : l.length ≤ 100000) (hn : n < 100) :
    Calls Tryd.prog 32 #[.slice A l.length c, .int .i64 (n : Int)] w (AppEnd B (l ++ Dt.two n) w) := by
  have q : (n : Int) / 10 = ((n / 10 : Nat) : Int) := quo_nat n 10
  have t : (n : Int).tmod 10 = ((n % 10 : Nat) : Int) := tmod_nat n 10 (by decide)
  obtain ⟨a, Ha⟩ : ∃ a, Hid (a = n / 10) := ⟨_, Lib.hid rfl⟩
  obtain ⟨b, Hb⟩ : ∃ b, Hid (b = n % 10) := ⟨_, Lib.hid rfl⟩
  have ha : a < 10 := by rw [Ha.out]; omega
  have hb : b < 10 := by rw [Hb.out]; omega
  rw [← Ha.out] at q
  rw [← Hb.out] at t
  obtain ⟨A', c', L, w', HL, hlen, hr, k1, k2, k3⟩ := bytes_app w B _ l h [Dt.dg a, Dt.dg b] _ (two_bv a b ha hb) 2 rfl (by omega) (by show 2 ≤ 1000; decide) hB 55
  have HR := Lib.hid hr
  have KEY : Hid (AppEnd B (l ++ Dt.two n) w (.returned (.slice A' L.length c')) w') := Lib.hid ⟨A', c', L, rfl, Lib.hid (by rw [HL.out]; unfold Dt.two; rw [← Ha.out, ← Hb.out]), k1, k2, k3⟩
  have i0 : IntKind.i64.wrap (a : Int) = (a : Int) := IntWalk.i64_in _ (by omega)
  have i1 : IntKind.i64.wrap (48 + (a : Int)) = 48 + (a : Int) := IntWalk.i64_in _ (by omega)
  have i2 : IntKind.i64.wrap (48 + (b : Int)) = 48 + (b : Int) := IntWalk.i64_in _ (by omega)
  have i3 : IntKind.u8.wrap (48 + (a : Int)) = 48 + (a : Int) := IntWalk.u8_in _ (by omega)
  have i4 : IntKind.u8.wrap (48 + (b : Int)) = 48 + (b : Int) := IntWalk.u8_in _ (by omega)
  clear hr k1 k2 k3 hlen h
  go_enter Tryd.func32, Tryd.ntmps32
  go_wp2_with (at_builtin; refine wpList_append_run rfl _ _ 55 rfl _ _ _ rfl rfl _ _ (by exact HR.out) ?_)
  go_ret
  exact KEY.out

def zoneL (neg : Bool) (z : Nat) : List UInt8 := (if neg then 45 else 43) :: (Dt.two (z / 60) ++ Dt.two (z % 60))
set_option maxHeartbeats 1600000 in
theorem appZone_any (B : Nat) (A : Option Addr) (c : Nat) (l : List UInt8) (z : Int) (w : World) (h : RowB w B (.slice A l.length c) l) (hB : B ≤ w.heap.size) (hl : l.length ≤ 10000) (hz : Dt.GZone z) :
    Calls Tryd.prog 35 #[.slice A l.length c, .int .i64 z] w (AppEnd B (l ++ zoneL (decide (z < 0)) z.natAbs) w) := by
  obtain ⟨z1, z2⟩ := hz
  obtain ⟨n, Hn⟩ : ∃ n, Hid (n = z.natAbs) := ⟨_, Lib.hid rfl⟩
  have hn : n ≤ 1439 := by rw [Hn.out]; omega
  rw [← Hn.out]
  have q : (n : Int) / 60 = ((n / 60 : Nat) : Int) := quo_nat n 60
  have t : (n : Int).tmod 60 = ((n % 60 : Nat) : Int) := tmod_nat n 60 (by decide)
  obtain ⟨a, Ha⟩ : ∃ a, Hid (a = n / 60) := ⟨_, Lib.hid rfl⟩
  obtain ⟨b, Hb⟩ : ∃ b, Hid (b = n % 60) := ⟨_, Lib.hid rfl⟩
  have ha : a < 24 := by rw [Ha.out]; omega
  have hb : b < 60 := by rw [Hb.out]; omega
  rw [← Ha.out] at q
  rw [← Hb.out] at t
  have i0 : IntKind.i64.wrap (a : Int) = (a : Int) := IntWalk.i64_in _ (by omega)
  have H1 := Lib.hid (fun (s : UInt8) (i : Int) (hi : i = (s.toNat : Int)) => byte_app w B _ l h s i hi (by omega) hB 55)
  have HB := Lib.hid hB
  clear h
  by_cases hneg : z < 0
  · rw [decide_eq_true hneg]
    have e : -z = (n : Int) := by rw [Hn.out]; omega
    have i1 : IntKind.i64.wrap (-z) = (n : Int) := by rw [e]; exact IntWalk.i64_in _ (by omega)
    obtain ⟨A1, c1, L1, w1, HL1, hl1, hr1, k1, k2, k3⟩ := H1.out 45 45 rfl
    have HR1 := Lib.hid hr1
    have HS1 : Hid (RowB w1 B (.slice A1 L1.length c1) L1 ∧ Below B w w1 ∧ OthB w w1) := Lib.hid ⟨k1, k2, k3⟩
    have HZL : Hid (l ++ zoneL true n = (L1 ++ Dt.two a) ++ Dt.two b) := Lib.hid (by rw [HL1.out, Ha.out, Hb.out]; unfold zoneL; simp)
    rw [HZL.out]
    clear hr1 k1 k2 k3 e
    go_enter Tryd.func35, Tryd.ntmps35
    go_wp2_with (at_builtin; refine wpList_append_run rfl _ _ 55 rfl _ _ _ rfl rfl _ _ (by exact HR1.out) ?_)
    refine (appTwo_any B A1 c1 L1 a w1 HS1.out.1 (Nat.le_trans HB.out HS1.out.2.1.size) (by omega) (by omega)).mono ?_
    rintro e w2 ⟨A2, c2, L2, rfl, HL2, k1, k2, k3⟩
    have HS2 : Hid (RowB w2 B (.slice A2 L2.length c2) L2 ∧ Below B w w2 ∧ OthB w w2) := Lib.hid ⟨k1, HS1.out.2.1.trans k2, oth_trans HS1.out.2.2 k3⟩
    have hl2 : L2.length ≤ L1.length + 2 := by rw [HL2.out, List.length_append]; exact Nat.le_refl _
    clear k1 k2 k3
    go_wp2_with fail
    refine (appTwo_any B A2 c2 L2 b w2 HS2.out.1 (Nat.le_trans HB.out HS2.out.2.1.size) (by omega) (by omega)).mono ?_
    rintro e w3 ⟨A3, c3, L3, rfl, HL3, k1, k2, k3⟩
    have KEY : Hid (AppEnd B ((L1 ++ Dt.two a) ++ Dt.two b) w (.returned (.slice A3 L3.length c3)) w3) := Lib.hid ⟨A3, c3, L3, rfl, Lib.hid (by rw [HL3.out, HL2.out]), k1, HS2.out.2.1.trans k2, oth_trans HS2.out.2.2 k3⟩
    clear k1 k2 k3
    go_wp2
    go_ret
    exact KEY.out
  · rw [decide_eq_false hneg]
    obtain rfl : z = (n : Int) := by rw [Hn.out]; omega
    obtain ⟨A1, c1, L1, w1, HL1, hl1, hr1, k1, k2, k3⟩ := H1.out 43 43 rfl
    have HR1 := Lib.hid hr1
    have HS1 : Hid (RowB w1 B (.slice A1 L1.length c1) L1 ∧ Below B w w1 ∧ OthB w w1) := Lib.hid ⟨k1, k2, k3⟩
    have HZL : Hid (l ++ zoneL false n = (L1 ++ Dt.two a) ++ Dt.two b) := Lib.hid (by rw [HL1.out, Ha.out, Hb.out]; unfold zoneL; simp)
    rw [HZL.out]
    clear hr1 k1 k2 k3
    go_enter Tryd.func35, Tryd.ntmps35
    go_wp2_with (at_builtin; refine wpList_append_run rfl _ _ 55 rfl _ _ _ rfl rfl _ _ (by exact HR1.out) ?_)
    refine (appTwo_any B A1 c1 L1 a w1 HS1.out.1 (Nat.le_trans HB.out HS1.out.2.1.size) (by omega) (by omega)).mono ?_
    rintro e w2 ⟨A2, c2, L2, rfl, HL2, k1, k2, k3⟩
    have HS2 : Hid (RowB w2 B (.slice A2 L2.length c2) L2 ∧ Below B w w2 ∧ OthB w w2) := Lib.hid ⟨k1, HS1.out.2.1.trans k2, oth_trans HS1.out.2.2 k3⟩
    have hl2 : L2.length ≤ L1.length + 2 := by rw [HL2.out, List.length_append]; exact Nat.le_refl _
    clear k1 k2 k3
    go_wp2_with fail
    refine (appTwo_any B A2 c2 L2 b w2 HS2.out.1 (Nat.le_trans HB.out HS2.out.2.1.size) (by omega) (by omega)).mono ?_
    rintro e w3 ⟨A3, c3, L3, rfl, HL3, k1, k2, k3⟩
    have KEY : Hid (AppEnd B ((L1 ++ Dt.two a) ++ Dt.two b) w (.returned (.slice A3 L3.length c3)) w3) := Lib.hid ⟨A3, c3, L3, rfl, Lib.hid (by rw [HL3.out, HL2.out]), k1, HS2.out.2.1.trans k2, oth_trans HS2.out.2.2 k3⟩
    clear k1 k2 k3
    go_wp2
    go_ret
    exact KEY.out

theorem appYear_any (B : Nat) (A : Option Addr) (c : Nat) (l : List UInt8) (y : Nat) (w : World) (h : RowB w B (.slice A l.length c) l) (hB : B ≤ w.heap.size) (hl : l.length ≤ 10000) (h1 : 1000 ≤ y) (h2 : y ≤ 9999) (hT : Lib.TabBelow Tryd.prog B w "internal/strconv.uint64pow10" .u64 Lib.pow10Tab) :
    Calls Tryd.prog 34 #[.slice A l.length c, .int .i64 (y : Int), .int .i64 10] w (AppEnd B (l ++ Dt.four y) w) := by
  have e : Lib.itoa (y : Int) = Dt.four y := by
    unfold Lib.itoa
    rw [if_neg (by omega), Int.toNat_natCast, Dt.four_dec y h1 h2]
  refine (Tryd.strconv_AppendInt_10 B l.length (y : Int) (by omega) (by omega) _ _ w h hB (by omega) hT).mono ?_
  rintro e' w1 ⟨v', rfl, q1, q2, q3⟩
  rw [e] at q1
  obtain ⟨A', c', rfl, _⟩ := own_shape q1
  have e2 : (l ++ Dt.four y).length = l.length + (Dt.four y).length := List.length_append
  refine ⟨A', c', l ++ Dt.four y, by rw [e2], Lib.hid rfl, ?_, q2, q3⟩
  unfold RowB
  rw [e2, bv_append]
  exact q1

/-- Show under way: its row, its box. -/
structure Sh (w0 : World) (cs : Array Value) (W : World) (A : Option Addr) (c : Nat) (L : List UInt8) : Prop where
  row : RowB W w0.heap.size (.slice A L.length c) L
  below : Below w0.heap.size w0 W
  box : Blk W w0.heap.size 24 cs
theorem Sh.step {w0 W W' : World} {cs : Array Value} {A A' : Option Addr} {c c' : Nat} {L L' : List UInt8} (h : Sh w0 cs W A c L) (h1 : RowB W' w0.heap.size (.slice A' L'.length c') L') (h2 : Below w0.heap.size W W') (h3 : OthB W W') : Sh w0 cs W' A' c' L' :=
  ⟨h1, h.below.trans h2, h.box.oth (by decide) h3⟩

set_option maxHeartbeats 6400000 in
theorem show_any (y m k hh mi s z : Int) (w : World) (hp : PW w) : Calls Tryd.prog 13 #[.agg #[.int .i64 y, .int .i64 m, .int .i64 k, .int .i64 hh, .int .i64 mi, .int .i64 s, .int .i64 z]] w fun e w' => e = .returned (.string ⟨(Dt.shown ⟨y, m, k, hh, mi, s, z⟩).toArray⟩) ∧ Below w.heap.size w w' := by
  have HG := Lib.hid (good_any y m k hh mi s z)
  obtain ⟨w1, Hw1⟩ : ∃ w1, Hid (w1 = w.alloc (.cells #[.int .i64 y, .int .i64 m, .int .i64 k, .int .i64 hh, .int .i64 mi, .int .i64 s, .int .i64 z] 24)) := ⟨_, Lib.hid rfl⟩
  have HB1 : Hid (Below w.heap.size w w1) := Lib.hid (by rw [Hw1.out]; exact (Below.refl _ _).alloc (Nat.le_refl _) _)
  have HG1 : Hid (Blk w1 w.heap.size 24 #[.int .i64 y, .int .i64 m, .int .i64 k, .int .i64 hh, .int .i64 mi, .int .i64 s, .int .i64 z]) := Lib.hid (by rw [Hw1.out]; exact Blk.new w _ _)
  by_cases hg : Dt.Good ⟨y, m, k, hh, mi, s, z⟩
  case neg =>
    have HS : Hid (Dt.shown ⟨y, m, k, hh, mi, s, z⟩ = []) := Lib.hid (Dt.shown_bad hg)
    have HDEC := Lib.hid (decide_eq_false hg)
    clear hg hp
    go_enter Tryd.func13, Tryd.ntmps13
    go_wp2_with fail
    rw [← Hw1.out]
    refine (HG.out _).mono ?_
    rintro e w2 ⟨rfl, hb2⟩
    rw [HDEC.out]
    have HB2 := Lib.hid (HB1.out.trans (hb2.mono HB1.out.size))
    clear hb2
    go_wp2
    go_ret
    exact ⟨by rw [HS.out]; rfl, HB2.out⟩
  have HDEC := Lib.hid (decide_eq_true hg)
  have HS : Hid (Dt.shown ⟨y, m, k, hh, mi, s, z⟩ = Dt.text ⟨y, m, k, hh, mi, s, z⟩) := Lib.hid (Dt.shown_good hg)
  obtain ⟨⟨a1, a2, a3, a4, a5, a6⟩, ⟨c1, c2⟩, ⟨d1, d2⟩, ⟨e1, e2⟩, hz⟩ := hg
  simp only at a1 a2 a3 a4 a5 a6 c1 c2 d1 d2 e1 e2 hz
  have HZ := Lib.hid hz
  have HT := Lib.hid (Lib.tabBelow_of_tabIs hp)
  obtain ⟨Y, rfl⟩ : ∃ Y : Nat, y = (Y : Int) := ⟨y.toNat, by omega⟩
  obtain ⟨M, rfl⟩ : ∃ M : Nat, m = (M : Int) := ⟨m.toNat, by omega⟩
  obtain ⟨K, rfl⟩ : ∃ K : Nat, k = (K : Int) := ⟨k.toNat, by omega⟩
  obtain ⟨H, rfl⟩ : ∃ H : Nat, hh = (H : Int) := ⟨hh.toNat, by omega⟩
  obtain ⟨I, rfl⟩ : ∃ I : Nat, mi = (I : Int) := ⟨mi.toNat, by omega⟩
  obtain ⟨S, rfl⟩ : ∃ S : Nat, s = (S : Int) := ⟨s.toNat, by omega⟩
  simp only [Int.toNat_natCast] at a6
  have hdm := (Dt.dm_pos Y M).2
  have hK : K ≤ 31 := by omega
  have HM := Lib.hid (monthName_any M (by omega) (by omega) ⟨(Dt.mname M).toArray⟩ rfl)
  have HML : Hid ((⟨(Dt.mname M).toArray⟩ : ByteArray).size = 3) := Lib.hid (Dt.mname_len M)
  obtain ⟨mn, Hmn⟩ : ∃ mn : ByteArray, Hid (mn = ⟨(Dt.mname M).toArray⟩) := ⟨_, Lib.hid rfl⟩
  rw [← Hmn.out] at HM HML
  have HMD : Hid (mn.data.toList = Dt.mname M) := Lib.hid (by rw [Hmn.out])
  have HTX : Hid (Dt.text ⟨Y, M, K, H, I, S, z⟩ = Dt.day2 K ++ [45] ++ Dt.mname M ++ [45] ++ Dt.four Y ++ [32] ++ Dt.two H ++ [58] ++ Dt.two I ++ [58] ++ Dt.two S ++ [32] ++ zoneL (decide (z < 0)) z.natAbs) := Lib.hid (by
    simp only [Dt.text, Dt.shownN, Dt.day2, zoneL, Int.toNat_natCast, List.append_assoc, List.cons_append, List.nil_append])
  have hY : 1970 ≤ Y ∧ Y ≤ 9999 := by omega
  have hH : H ≤ 23 := by omega
  have hI : I ≤ 59 := by omega
  have hS : S ≤ 59 := by omega
  clear hp a1 a2 a3 a4 a5 a6 c1 c2 d1 d2 e1 e2 hz hdm
  go_enter Tryd.func13, Tryd.ntmps13
  go_wp2_with fail
  rw [← Hw1.out]
  refine (HG.out _).mono ?_
  rintro e w2 ⟨rfl, hb2⟩
  rw [HDEC.out]
  have S0 : Hid (Sh w #[.int .i64 (Y : Int), .int .i64 (M : Int), .int .i64 (K : Int), .int .i64 (H : Int), .int .i64 (I : Int), .int .i64 (S : Int), .int .i64 z] w2 none 0 []) := Lib.hid ⟨World.ownsRow_nil _ _ _ _, HB1.out.trans (hb2.mono HB1.out.size), HG1.out.below hb2 HG1.out.lt⟩
  clear hb2 Hw1 HG1 HDEC
  have x0 := S0.out.box.cell 2 _ rfl
  go_wp2_with fail
  clear x0
  refine (appTwo_any w.heap.size none 0 [] K w2 S0.out.row S0.out.below.size (Nat.zero_le _) (by omega)).mono ?_
  rintro e w3 ⟨A1, c1, L1, rfl, HL1, k1, k2, k3⟩
  have S1 : Hid (Sh w #[.int .i64 (Y : Int), .int .i64 (M : Int), .int .i64 (K : Int), .int .i64 (H : Int), .int .i64 (I : Int), .int .i64 (S : Int), .int .i64 z] w3 A1 c1 L1) := Lib.hid (S0.out.step k1 k2 k3)
  clear k1 k2 k3
  have hl1 := Lib.hid (show L1.length = 2 by rw [HL1.out]; rfl)
  have hl1a : L1.length ≤ 2 := Nat.le_of_eq hl1.out
  obtain ⟨g, cap, ev, hgb, hgs, _, _⟩ := own_form S1.out.row (by rw [hl1.out]; decide)
  obtain ⟨rfl, hc1⟩ : A1 = some ⟨g, 0, none⟩ ∧ cap = c1 := by injection ev with e1 e2 e3; exact ⟨e1, e3.symm⟩
  clear ev hc1
  have hL1 : L1 = [Dt.dg (K / 10), Dt.dg (K % 10)] := HL1.out
  have hc := World.ownsRow.cells S1.out.row (g := g) rfl 0 (.int .u8 ((Dt.dg (K / 10)).toNat : Int)) (by rw [hL1]; rfl)
  rw [add_to, Dt.dg_nat (K / 10) (by omega)] at hc
  have hf := World.ownsRow.frozenAt S1.out.row 0
  obtain ⟨q, Hq⟩ : ∃ q, Hid (q = K / 10) := ⟨_, Lib.hid rfl⟩
  rw [← Hq.out] at hc
  have cq : ((48 + q : Nat) : Int) = 48 + (q : Int) := by omega
  rw [cq] at hc
  have hz0 : (0 : Int) < (L1.length : Int) := by have := hl1.out; omega
  have key : ∀ (W : World) (L : List UInt8), L = Dt.day2 K → Sh w #[.int .i64 (Y : Int), .int .i64 (M : Int), .int .i64 (K : Int), .int .i64 (H : Int), .int .i64 (I : Int), .int .i64 (S : Int), .int .i64 z] W (some ⟨g, 0, none⟩) c1 L → True := fun _ _ _ _ => trivial
  clear key HL1
  by_cases h0 : q = 0
  · have g0 : ((48 + (q : Int)) == 48) = true := by rw [beq_iff_eq]; omega
    have h5 := (World.ownsRow.stored S1.out.row 0 (.int .u8 32)).1
    obtain ⟨Ld, HLd⟩ : ∃ Ld, Hid (Ld = Dt.day2 K) := ⟨_, Lib.hid rfl⟩
    have hld : Ld = [32, Dt.dg (K % 10)] := by rw [HLd.out]; unfold Dt.day2; rw [if_pos (by have := Hq.out; omega)]
    have e5 : (bv L1).set 0 (.int .u8 32) = bv Ld := by rw [hL1, hld]; rfl
    have el : L1.length = Ld.length := by rw [hL1, hld]; rfl
    rw [e5] at h5
    have S2 : Hid (Sh w #[.int .i64 (Y : Int), .int .i64 (M : Int), .int .i64 (K : Int), .int .i64 (H : Int), .int .i64 (I : Int), .int .i64 (S : Int), .int .i64 z] (w3.setCell ⟨g, 0, none⟩ (.int .u8 32)) (some ⟨g, 0, none⟩) c1 Ld) := Lib.hid ⟨by unfold RowB; rw [← el]; exact h5, below_set S1.out.below hgb 0 _, S1.out.box.other (fun e => by subst e; exact S1.out.box.apart (by decide) S1.out.row rfl) _⟩
    have hl2 : Ld.length ≤ 2 := by rw [← el]; exact hl1a
    obtain ⟨wd, Hwd⟩ : ∃ wd, Hid (wd = w3.setCell ⟨g, 0, none⟩ (.int .u8 32)) := ⟨_, Lib.hid rfl⟩
    have Hsz : Hid (wd.heap.size = w3.heap.size) := Lib.hid (by rw [Hwd.out]; simp)
    rw [← Hwd.out] at S2
    rw [el] at hz0
    have EL := Lib.hid el
    clear h5 e5 el hld hL1
    rw [EL.out]
    clear hl1 hl1a
    have zl0 : Ld.length ≤ 2 := by omega
    obtain ⟨A10, c10, L10, w10, HL10, hl10, hr10, k1, k2, k3⟩ := byte_app wd w.heap.size _ Ld S2.out.row 45 45 rfl (by omega) S2.out.below.size 55
    have S10 : Hid (Sh w #[.int .i64 (Y : Int), .int .i64 (M : Int), .int .i64 (K : Int), .int .i64 (H : Int), .int .i64 (I : Int), .int .i64 (S : Int), .int .i64 z] w10 A10 c10 L10) := Lib.hid (S2.out.step k1 k2 k3)
    rw [Hsz.out, Hwd.out] at hr10
    have HR10 := Lib.hid hr10
    have zl10 : L10.length ≤ 3 := by omega
    clear k1 k2 k3 hr10 hl10
    have xf := S10.out.box.cell 1 _ rfl
    go_wp2_with (at_builtin; refine wpList_append_run rfl _ _ 55 rfl _ _ _ rfl rfl _ _ (by exact HR10.out) ?_)
    clear xf
    refine (HM.out _).mono ?_
    rintro e wm ⟨rfl, rfl⟩
    obtain ⟨A11, c11, L11, w11, HL11, hl11, hr11, k1, k2, k3⟩ := str_app w10 w.heap.size _ L10 S10.out.row mn (by rw [HML.out]; decide) (by omega) S10.out.below.size 55
    have S11 : Hid (Sh w #[.int .i64 (Y : Int), .int .i64 (M : Int), .int .i64 (K : Int), .int .i64 (H : Int), .int .i64 (I : Int), .int .i64 (S : Int), .int .i64 z] w11 A11 c11 L11) := Lib.hid (S10.out.step k1 k2 k3)
    have HR11 := Lib.hid hr11
    have zl11 : L11.length ≤ 6 := by rw [hl11, HML.out]; omega
    clear k1 k2 k3 hr11 hl11
    obtain ⟨A12, c12, L12, w12, HL12, hl12, hr12, k1, k2, k3⟩ := byte_app w11 w.heap.size _ L11 S11.out.row 45 45 rfl (by omega) S11.out.below.size 55
    have S12 : Hid (Sh w #[.int .i64 (Y : Int), .int .i64 (M : Int), .int .i64 (K : Int), .int .i64 (H : Int), .int .i64 (I : Int), .int .i64 (S : Int), .int .i64 z] w12 A12 c12 L12) := Lib.hid (S11.out.step k1 k2 k3)
    have HR12 := Lib.hid hr12
    have zl12 : L12.length ≤ 7 := by omega
    clear k1 k2 k3 hr12 hl12
    have xf := S12.out.box.cell 0 _ rfl
    go_wp2_with (at_builtin; first | (refine wpList_append_run2 rfl _ _ 55 9 rfl _ _ _ rfl rfl _ _ (by exact HR11.out) ?_) | (refine wpList_append_run rfl _ _ 55 rfl _ _ _ rfl rfl _ _ (by exact HR12.out) ?_))
    clear xf
    refine (appYear_any w.heap.size A12 c12 L12 Y w12 S12.out.row S12.out.below.size (by omega) (by omega) (by omega) (HT.out.on S12.out.below)).mono ?_
    rintro e w13 ⟨A13, c13, L13, rfl, HL13, k1, k2, k3⟩
    have S13 : Hid (Sh w #[.int .i64 (Y : Int), .int .i64 (M : Int), .int .i64 (K : Int), .int .i64 (H : Int), .int .i64 (I : Int), .int .i64 (S : Int), .int .i64 z] w13 A13 c13 L13) := Lib.hid (S12.out.step k1 k2 k3)
    have zl13 : L13.length ≤ 11 := by rw [HL13.out, List.length_append]; exact Nat.add_le_add (by omega) (Nat.le_refl 4)
    clear k1 k2 k3
    obtain ⟨A14, c14, L14, w14, HL14, hl14, hr14, k1, k2, k3⟩ := byte_app w13 w.heap.size _ L13 S13.out.row 32 32 rfl (by omega) S13.out.below.size 55
    have S14 : Hid (Sh w #[.int .i64 (Y : Int), .int .i64 (M : Int), .int .i64 (K : Int), .int .i64 (H : Int), .int .i64 (I : Int), .int .i64 (S : Int), .int .i64 z] w14 A14 c14 L14) := Lib.hid (S13.out.step k1 k2 k3)
    have HR14 := Lib.hid hr14
    have zl14 : L14.length ≤ 12 := by omega
    clear k1 k2 k3 hr14 hl14
    have xf := S14.out.box.cell 3 _ rfl
    go_wp2_with (at_builtin; refine wpList_append_run rfl _ _ 55 rfl _ _ _ rfl rfl _ _ (by exact HR14.out) ?_)
    clear xf
    refine (appTwo_any w.heap.size A14 c14 L14 H w14 S14.out.row S14.out.below.size (by omega) (by omega)).mono ?_
    rintro e w15 ⟨A15, c15, L15, rfl, HL15, k1, k2, k3⟩
    have S15 : Hid (Sh w #[.int .i64 (Y : Int), .int .i64 (M : Int), .int .i64 (K : Int), .int .i64 (H : Int), .int .i64 (I : Int), .int .i64 (S : Int), .int .i64 z] w15 A15 c15 L15) := Lib.hid (S14.out.step k1 k2 k3)
    have zl15 : L15.length ≤ 14 := by rw [HL15.out, List.length_append]; exact Nat.add_le_add (by omega) (Nat.le_refl 2)
    clear k1 k2 k3
    obtain ⟨A16, c16, L16, w16, HL16, hl16, hr16, k1, k2, k3⟩ := byte_app w15 w.heap.size _ L15 S15.out.row 58 58 rfl (by omega) S15.out.below.size 55
    have S16 : Hid (Sh w #[.int .i64 (Y : Int), .int .i64 (M : Int), .int .i64 (K : Int), .int .i64 (H : Int), .int .i64 (I : Int), .int .i64 (S : Int), .int .i64 z] w16 A16 c16 L16) := Lib.hid (S15.out.step k1 k2 k3)
    have HR16 := Lib.hid hr16
    have zl16 : L16.length ≤ 15 := by omega
    clear k1 k2 k3 hr16 hl16
    have xf := S16.out.box.cell 4 _ rfl
    go_wp2_with (at_builtin; refine wpList_append_run rfl _ _ 55 rfl _ _ _ rfl rfl _ _ (by exact HR16.out) ?_)
    clear xf
    refine (appTwo_any w.heap.size A16 c16 L16 I w16 S16.out.row S16.out.below.size (by omega) (by omega)).mono ?_
    rintro e w17 ⟨A17, c17, L17, rfl, HL17, k1, k2, k3⟩
    have S17 : Hid (Sh w #[.int .i64 (Y : Int), .int .i64 (M : Int), .int .i64 (K : Int), .int .i64 (H : Int), .int .i64 (I : Int), .int .i64 (S : Int), .int .i64 z] w17 A17 c17 L17) := Lib.hid (S16.out.step k1 k2 k3)
    have zl17 : L17.length ≤ 17 := by rw [HL17.out, List.length_append]; exact Nat.add_le_add (by omega) (Nat.le_refl 2)
    clear k1 k2 k3
    obtain ⟨A18, c18, L18, w18, HL18, hl18, hr18, k1, k2, k3⟩ := byte_app w17 w.heap.size _ L17 S17.out.row 58 58 rfl (by omega) S17.out.below.size 55
    have S18 : Hid (Sh w #[.int .i64 (Y : Int), .int .i64 (M : Int), .int .i64 (K : Int), .int .i64 (H : Int), .int .i64 (I : Int), .int .i64 (S : Int), .int .i64 z] w18 A18 c18 L18) := Lib.hid (S17.out.step k1 k2 k3)
    have HR18 := Lib.hid hr18
    have zl18 : L18.length ≤ 18 := by omega
    clear k1 k2 k3 hr18 hl18
    have xf := S18.out.box.cell 5 _ rfl
    go_wp2_with (at_builtin; refine wpList_append_run rfl _ _ 55 rfl _ _ _ rfl rfl _ _ (by exact HR18.out) ?_)
    clear xf
    refine (appTwo_any w.heap.size A18 c18 L18 S w18 S18.out.row S18.out.below.size (by omega) (by omega)).mono ?_
    rintro e w19 ⟨A19, c19, L19, rfl, HL19, k1, k2, k3⟩
    have S19 : Hid (Sh w #[.int .i64 (Y : Int), .int .i64 (M : Int), .int .i64 (K : Int), .int .i64 (H : Int), .int .i64 (I : Int), .int .i64 (S : Int), .int .i64 z] w19 A19 c19 L19) := Lib.hid (S18.out.step k1 k2 k3)
    have zl19 : L19.length ≤ 20 := by rw [HL19.out, List.length_append]; exact Nat.add_le_add (by omega) (Nat.le_refl 2)
    clear k1 k2 k3
    obtain ⟨A20, c20, L20, w20, HL20, hl20, hr20, k1, k2, k3⟩ := byte_app w19 w.heap.size _ L19 S19.out.row 32 32 rfl (by omega) S19.out.below.size 55
    have S20 : Hid (Sh w #[.int .i64 (Y : Int), .int .i64 (M : Int), .int .i64 (K : Int), .int .i64 (H : Int), .int .i64 (I : Int), .int .i64 (S : Int), .int .i64 z] w20 A20 c20 L20) := Lib.hid (S19.out.step k1 k2 k3)
    have HR20 := Lib.hid hr20
    have zl20 : L20.length ≤ 21 := by omega
    clear k1 k2 k3 hr20 hl20
    have xf := S20.out.box.cell 6 _ rfl
    go_wp2_with (at_builtin; refine wpList_append_run rfl _ _ 55 rfl _ _ _ rfl rfl _ _ (by exact HR20.out) ?_)
    clear xf
    refine (appZone_any w.heap.size A20 c20 L20 z w20 S20.out.row S20.out.below.size (by omega) HZ.out).mono ?_
    rintro e w21 ⟨A21, c21, L21, rfl, HL21, k1, k2, k3⟩
    have S21 : Hid (Sh w #[.int .i64 (Y : Int), .int .i64 (M : Int), .int .i64 (K : Int), .int .i64 (H : Int), .int .i64 (I : Int), .int .i64 (S : Int), .int .i64 z] w21 A21 c21 L21) := Lib.hid (S20.out.step k1 k2 k3)
    have zl21 : L21.length ≤ 26 := by rw [HL21.out, List.length_append]; exact Nat.add_le_add (by omega) (Nat.le_refl 5)
    clear k1 k2 k3
    have hcv := own_bytes S21.out.row
    have HF : Hid (L21 = Dt.shown ⟨Y, M, K, H, I, S, z⟩) := Lib.hid (by rw [HS.out, HTX.out, HL21.out, HL20.out, HL19.out, HL18.out, HL17.out, HL16.out, HL15.out, HL14.out, HL13.out, HL12.out, HL11.out, HL10.out, HLd.out, HMD.out])
    go_wp2
    go_ret
    exact ⟨by rw [← HF.out]; rfl, S21.out.below⟩
  · have g0 : ((48 + (q : Int)) == 48) = false := by rw [beq_eq_false_iff_ne]; omega
    have HLd : Hid (L1 = Dt.day2 K) := Lib.hid (by rw [hL1]; unfold Dt.day2; rw [if_neg (by have := Hq.out; omega)])
    clear hL1
    have zl0 : L1.length ≤ 2 := by omega
    obtain ⟨A10, c10, L10, w10, HL10, hl10, hr10, k1, k2, k3⟩ := byte_app w3 w.heap.size _ L1 S1.out.row 45 45 rfl (by omega) S1.out.below.size 55
    have S10 : Hid (Sh w #[.int .i64 (Y : Int), .int .i64 (M : Int), .int .i64 (K : Int), .int .i64 (H : Int), .int .i64 (I : Int), .int .i64 (S : Int), .int .i64 z] w10 A10 c10 L10) := Lib.hid (S1.out.step k1 k2 k3)
    have HR10 := Lib.hid hr10
    have zl10 : L10.length ≤ 3 := by omega
    clear k1 k2 k3 hr10 hl10
    have xf := S10.out.box.cell 1 _ rfl
    go_wp2_with (at_builtin; refine wpList_append_run rfl _ _ 55 rfl _ _ _ rfl rfl _ _ (by exact HR10.out) ?_)
    clear xf
    refine (HM.out _).mono ?_
    rintro e wm ⟨rfl, rfl⟩
    obtain ⟨A11, c11, L11, w11, HL11, hl11, hr11, k1, k2, k3⟩ := str_app w10 w.heap.size _ L10 S10.out.row mn (by rw [HML.out]; decide) (by omega) S10.out.below.size 55
    have S11 : Hid (Sh w #[.int .i64 (Y : Int), .int .i64 (M : Int), .int .i64 (K : Int), .int .i64 (H : Int), .int .i64 (I : Int), .int .i64 (S : Int), .int .i64 z] w11 A11 c11 L11) := Lib.hid (S10.out.step k1 k2 k3)
    have HR11 := Lib.hid hr11
    have zl11 : L11.length ≤ 6 := by rw [hl11, HML.out]; omega
    clear k1 k2 k3 hr11 hl11
    obtain ⟨A12, c12, L12, w12, HL12, hl12, hr12, k1, k2, k3⟩ := byte_app w11 w.heap.size _ L11 S11.out.row 45 45 rfl (by omega) S11.out.below.size 55
    have S12 : Hid (Sh w #[.int .i64 (Y : Int), .int .i64 (M : Int), .int .i64 (K : Int), .int .i64 (H : Int), .int .i64 (I : Int), .int .i64 (S : Int), .int .i64 z] w12 A12 c12 L12) := Lib.hid (S11.out.step k1 k2 k3)
    have HR12 := Lib.hid hr12
    have zl12 : L12.length ≤ 7 := by omega
    clear k1 k2 k3 hr12 hl12
    have xf := S12.out.box.cell 0 _ rfl
    go_wp2_with (at_builtin; first | (refine wpList_append_run2 rfl _ _ 55 9 rfl _ _ _ rfl rfl _ _ (by exact HR11.out) ?_) | (refine wpList_append_run rfl _ _ 55 rfl _ _ _ rfl rfl _ _ (by exact HR12.out) ?_))
    clear xf
    refine (appYear_any w.heap.size A12 c12 L12 Y w12 S12.out.row S12.out.below.size (by omega) (by omega) (by omega) (HT.out.on S12.out.below)).mono ?_
    rintro e w13 ⟨A13, c13, L13, rfl, HL13, k1, k2, k3⟩
    have S13 : Hid (Sh w #[.int .i64 (Y : Int), .int .i64 (M : Int), .int .i64 (K : Int), .int .i64 (H : Int), .int .i64 (I : Int), .int .i64 (S : Int), .int .i64 z] w13 A13 c13 L13) := Lib.hid (S12.out.step k1 k2 k3)
    have zl13 : L13.length ≤ 11 := by rw [HL13.out, List.length_append]; exact Nat.add_le_add (by omega) (Nat.le_refl 4)
    clear k1 k2 k3
    obtain ⟨A14, c14, L14, w14, HL14, hl14, hr14, k1, k2, k3⟩ := byte_app w13 w.heap.size _ L13 S13.out.row 32 32 rfl (by omega) S13.out.below.size 55
    have S14 : Hid (Sh w #[.int .i64 (Y : Int), .int .i64 (M : Int), .int .i64 (K : Int), .int .i64 (H : Int), .int .i64 (I : Int), .int .i64 (S : Int), .int .i64 z] w14 A14 c14 L14) := Lib.hid (S13.out.step k1 k2 k3)
    have HR14 := Lib.hid hr14
    have zl14 : L14.length ≤ 12 := by omega
    clear k1 k2 k3 hr14 hl14
    have xf := S14.out.box.cell 3 _ rfl
    go_wp2_with (at_builtin; refine wpList_append_run rfl _ _ 55 rfl _ _ _ rfl rfl _ _ (by exact HR14.out) ?_)
    clear xf
    refine (appTwo_any w.heap.size A14 c14 L14 H w14 S14.out.row S14.out.below.size (by omega) (by omega)).mono ?_
    rintro e w15 ⟨A15, c15, L15, rfl, HL15, k1, k2, k3⟩
    have S15 : Hid (Sh w #[.int .i64 (Y : Int), .int .i64 (M : Int), .int .i64 (K : Int), .int .i64 (H : Int), .int .i64 (I : Int), .int .i64 (S : Int), .int .i64 z] w15 A15 c15 L15) := Lib.hid (S14.out.step k1 k2 k3)
    have zl15 : L15.length ≤ 14 := by rw [HL15.out, List.length_append]; exact Nat.add_le_add (by omega) (Nat.le_refl 2)
    clear k1 k2 k3
    obtain ⟨A16, c16, L16, w16, HL16, hl16, hr16, k1, k2, k3⟩ := byte_app w15 w.heap.size _ L15 S15.out.row 58 58 rfl (by omega) S15.out.below.size 55
    have S16 : Hid (Sh w #[.int .i64 (Y : Int), .int .i64 (M : Int), .int .i64 (K : Int), .int .i64 (H : Int), .int .i64 (I : Int), .int .i64 (S : Int), .int .i64 z] w16 A16 c16 L16) := Lib.hid (S15.out.step k1 k2 k3)
    have HR16 := Lib.hid hr16
    have zl16 : L16.length ≤ 15 := by omega
    clear k1 k2 k3 hr16 hl16
    have xf := S16.out.box.cell 4 _ rfl
    go_wp2_with (at_builtin; refine wpList_append_run rfl _ _ 55 rfl _ _ _ rfl rfl _ _ (by exact HR16.out) ?_)
    clear xf
    refine (appTwo_any w.heap.size A16 c16 L16 I w16 S16.out.row S16.out.below.size (by omega) (by omega)).mono ?_
    rintro e w17 ⟨A17, c17, L17, rfl, HL17, k1, k2, k3⟩
    have S17 : Hid (Sh w #[.int .i64 (Y : Int), .int .i64 (M : Int), .int .i64 (K : Int), .int .i64 (H : Int), .int .i64 (I : Int), .int .i64 (S : Int), .int .i64 z] w17 A17 c17 L17) := Lib.hid (S16.out.step k1 k2 k3)
    have zl17 : L17.length ≤ 17 := by rw [HL17.out, List.length_append]; exact Nat.add_le_add (by omega) (Nat.le_refl 2)
    clear k1 k2 k3
    obtain ⟨A18, c18, L18, w18, HL18, hl18, hr18, k1, k2, k3⟩ := byte_app w17 w.heap.size _ L17 S17.out.row 58 58 rfl (by omega) S17.out.below.size 55
    have S18 : Hid (Sh w #[.int .i64 (Y : Int), .int .i64 (M : Int), .int .i64 (K : Int), .int .i64 (H : Int), .int .i64 (I : Int), .int .i64 (S : Int), .int .i64 z] w18 A18 c18 L18) := Lib.hid (S17.out.step k1 k2 k3)
    have HR18 := Lib.hid hr18
    have zl18 : L18.length ≤ 18 := by omega
    clear k1 k2 k3 hr18 hl18
    have xf := S18.out.box.cell 5 _ rfl
    go_wp2_with (at_builtin; refine wpList_append_run rfl _ _ 55 rfl _ _ _ rfl rfl _ _ (by exact HR18.out) ?_)
    clear xf
    refine (appTwo_any w.heap.size A18 c18 L18 S w18 S18.out.row S18.out.below.size (by omega) (by omega)).mono ?_
    rintro e w19 ⟨A19, c19, L19, rfl, HL19, k1, k2, k3⟩
    have S19 : Hid (Sh w #[.int .i64 (Y : Int), .int .i64 (M : Int), .int .i64 (K : Int), .int .i64 (H : Int), .int .i64 (I : Int), .int .i64 (S : Int), .int .i64 z] w19 A19 c19 L19) := Lib.hid (S18.out.step k1 k2 k3)
    have zl19 : L19.length ≤ 20 := by rw [HL19.out, List.length_append]; exact Nat.add_le_add (by omega) (Nat.le_refl 2)
    clear k1 k2 k3
    obtain ⟨A20, c20, L20, w20, HL20, hl20, hr20, k1, k2, k3⟩ := byte_app w19 w.heap.size _ L19 S19.out.row 32 32 rfl (by omega) S19.out.below.size 55
    have S20 : Hid (Sh w #[.int .i64 (Y : Int), .int .i64 (M : Int), .int .i64 (K : Int), .int .i64 (H : Int), .int .i64 (I : Int), .int .i64 (S : Int), .int .i64 z] w20 A20 c20 L20) := Lib.hid (S19.out.step k1 k2 k3)
    have HR20 := Lib.hid hr20
    have zl20 : L20.length ≤ 21 := by omega
    clear k1 k2 k3 hr20 hl20
    have xf := S20.out.box.cell 6 _ rfl
    go_wp2_with (at_builtin; refine wpList_append_run rfl _ _ 55 rfl _ _ _ rfl rfl _ _ (by exact HR20.out) ?_)
    clear xf
    refine (appZone_any w.heap.size A20 c20 L20 z w20 S20.out.row S20.out.below.size (by omega) HZ.out).mono ?_
    rintro e w21 ⟨A21, c21, L21, rfl, HL21, k1, k2, k3⟩
    have S21 : Hid (Sh w #[.int .i64 (Y : Int), .int .i64 (M : Int), .int .i64 (K : Int), .int .i64 (H : Int), .int .i64 (I : Int), .int .i64 (S : Int), .int .i64 z] w21 A21 c21 L21) := Lib.hid (S20.out.step k1 k2 k3)
    have zl21 : L21.length ≤ 26 := by rw [HL21.out, List.length_append]; exact Nat.add_le_add (by omega) (Nat.le_refl 5)
    clear k1 k2 k3
    have hcv := own_bytes S21.out.row
    have HF : Hid (L21 = Dt.shown ⟨Y, M, K, H, I, S, z⟩) := Lib.hid (by rw [HS.out, HTX.out, HL21.out, HL20.out, HL19.out, HL18.out, HL17.out, HL16.out, HL15.out, HL14.out, HL13.out, HL12.out, HL11.out, HL10.out, HLd.out, HMD.out])
    go_wp2
    go_ret
    exact ⟨by rw [← HF.out]; rfl, S21.out.below⟩
end Go.Proofs.YtgkibkophoikoaaDoor
