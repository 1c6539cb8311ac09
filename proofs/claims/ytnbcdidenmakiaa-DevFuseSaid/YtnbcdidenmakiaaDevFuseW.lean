/- The walk of DevFuse. -/
import Derived.Test.YtnbcdidenmakiaaDevLastW
import Derived.Test.YtnbcdidenmakiaaDevTwo
import Derived.Test.YtnbcdidenmakiaaDevFu18
namespace Go.Proofs.Ytnbcdidenmakiaa
open Go.RowKit Dk
set_option linter.unusedVariables false

/-- Behind world wr, the devices at a and b: a sector made, written to a; another one made, written to b. -/
def FuS (B : Nat) (w0 wr : World) (a b : Nat) (Sa Sb : Disk) (m : Nat) (x : UInt8) (er : Int) (p : Nat) (R : Nat → Value) (w : World) : Prop :=
  match p with
  | 0 => Below wr.heap.size wr w
  | 1 => ∃ w1, Below wr.heap.size wr w1 ∧ R 0 = .slice (some ⟨w1.heap.size, 0, none⟩) 512 512 ∧ SectorEnd x w1 (.returned (R 0)) w
  | 2 => Dev2 B w0 w a (Sa.write (m : Int) (secB x)) b Sb ∧ R 1 = .int .i64 er
  | 3 => (∃ w3, Dev2 B w0 w3 a (Sa.write (m : Int) (secB x)) b Sb ∧ R 2 = .slice (some ⟨w3.heap.size, 0, none⟩) 512 512 ∧ SectorEnd x w3 (.returned (R 2)) w) ∧ R 1 = .int .i64 er
  | _ => Dev2 B w0 w a (Sa.write (m : Int) (secB x)) b (Sb.write (m : Int) (secB x)) ∧ R 1 = .int .i64 er ∧ R 3 = .int .i64 er
section
variable {B a b m : Nat} {w0 wr : World} {Sa Sb : Disk} {x : UInt8} {er : Int}
theorem FuS.base (h : Dev2 B w0 wr a Sa b Sb) (p : Nat) (R : Nat → Value) (w : World) (hs : FuS B w0 wr a b Sa Sb m x er p R w) : Below B w0 w := by
  match p, hs with
  | 0, hs => exact h.bel.trans (Below.mono hs h.size)
  | 1, hs =>
    obtain ⟨w1, h1, _, h2⟩ := hs
    have h3 : Below w1.heap.size w1 w := h2.2.2.2
    exact h.bel.trans ((h1.trans (h3.mono h1.size)).mono h.size)
  | 2, hs => exact hs.1.bel
  | 3, hs =>
    obtain ⟨⟨w3, h1, _, h2⟩, _⟩ := hs
    have h3 : Below w3.heap.size w3 w := h2.2.2.2
    exact h1.bel.trans (h3.mono h1.size)
  | p + 4, hs => exact hs.1.bel
theorem FuS.one (R : Nat → Value) (w : World) (hs : FuS B w0 wr a b Sa Sb m x er 0 R w) :
    Calls Try.prog 11 #[.int .u8 (x.toNat : Int)] w fun e w' => ∃ v, e = .returned v ∧ FuS B w0 wr a b Sa Sb m x er 1 (setR R 0 v) w' := by
  refine (sector_any x w).mono ?_
  rintro e w' he
  obtain ⟨h1, h2, h3, h4⟩ := he
  exact ⟨_, h1, w, hs, rfl, rfl, h2, h3, h4⟩
theorem FuS.two (h : Dev2 B w0 wr a Sa b Sb) (he : Sa.writeE (m : Int) 512 = er) (hc : Sa.cache.length ≤ 1000) (R : Nat → Value) (w : World) (hs : FuS B w0 wr a b Sa Sb m x er 1 R w) :
    ∃ A2, R 0 = .slice A2 512 512 ∧ Calls Try.prog 10 #[.pointer (some ⟨a, 0, none⟩), .int .i64 (m : Int), .slice A2 512 512] w fun e w' => ∃ v, e = .returned v ∧ FuS B w0 wr a b Sa Sb m x er 2 (setR R 1 v) w' := by
  obtain ⟨w1, h1, h2, h3⟩ := hs
  refine ⟨_, h2, (two_writeSec (h.past h1) h3 hc m).mono ?_⟩
  rintro e w' ⟨rfl, h4⟩
  exact ⟨_, rfl, h4, by rw [he]; rfl⟩
theorem FuS.three (R : Nat → Value) (w : World) (hs : FuS B w0 wr a b Sa Sb m x er 2 R w) :
    Calls Try.prog 11 #[.int .u8 (x.toNat : Int)] w fun e w' => ∃ v, e = .returned v ∧ FuS B w0 wr a b Sa Sb m x er 3 (setR R 2 v) w' := by
  obtain ⟨hd, hr⟩ := hs
  refine (sector_any x w).mono ?_
  rintro e w' he
  obtain ⟨h1, h2, h3, h4⟩ := he
  exact ⟨_, h1, ⟨w, hd, rfl, rfl, h2, h3, h4⟩, hr⟩
theorem FuS.four (he : Sb.writeE (m : Int) 512 = er) (hc : Sb.cache.length ≤ 1000) (R : Nat → Value) (w : World) (hs : FuS B w0 wr a b Sa Sb m x er 3 R w) :
    ∃ A2, R 2 = .slice A2 512 512 ∧ Calls Try.prog 10 #[.pointer (some ⟨b, 0, none⟩), .int .i64 (m : Int), .slice A2 512 512] w fun e w' => ∃ v, e = .returned v ∧ FuS B w0 wr a b Sa Sb m x er 4 (setR R 3 v) w' := by
  obtain ⟨⟨w3, h1, h2, h3⟩, hr⟩ := hs
  refine ⟨_, h2, (two_writeSec h1.symm h3 hc m).mono ?_⟩
  rintro e w' ⟨rfl, h4⟩
  exact ⟨_, rfl, h4.symm, hr, by rw [he]; rfl⟩
theorem FuS.r1 (p : Nat) (R : Nat → Value) (w : World) (hs : FuS B w0 wr a b Sa Sb m x er p R w) (hp : 1 < p) : R 1 = .int .i64 er := by
  match p, hs, hp with
  | 2, hs, _ => exact hs.2
  | 3, hs, _ => exact hs.2
  | p + 4, hs, _ => exact hs.2.1
theorem FuS.r3 (p : Nat) (R : Nat → Value) (w : World) (hs : FuS B w0 wr a b Sa Sb m x er p R w) (hp : 3 < p) : R 3 = .int .i64 er := by
  obtain ⟨q, rfl⟩ : ∃ q, p = q + 4 := ⟨p - 4, by omega⟩
  exact hs.2.2
end

def FuInv (B : Nat) (w0 : World) (a b calls : Nat) (keep : List Int) (torn : Int) (k : Nat) (wr : World) : Prop :=
  ∃ Sa Sb, FuRel calls keep torn k Sa Sb ∧ Dev2 B w0 wr a Sa b Sb

set_option maxHeartbeats 16000000 in
set_option maxRecDepth 100000 in
theorem devFuse_walk (A : Option Addr) (len cap : Nat) (l : List ActD) (hlen : len = l.length) (hcap : len ≤ cap) (hmax : cap ≤ maxLen) (calls : Int) (hcalls : (Lit.int .i64 calls).wf = true)
    (A3 : Option Addr) (len3 cap3 : Nat) (keep : List Int) (hlen3 : len3 = keep.length) (hcap3 : len3 ≤ cap3) (hmax3 : cap3 ≤ maxLen) (torn : Int) (htorn : (Lit.int .i64 torn).wf = true) (w : World) (hl : Acts w w.heap.size A l) (hl3 : SeesI w w.heap.size A3 keep) :
    Calls Try.prog 6 #[.slice A len cap, .int .i64 calls, .slice A3 len3 cap3, .int .i64 torn] w fun e w' => e = .returned (.bool true) ∧ Below w.heap.size w w' := by
  subst hlen hlen3
  have HM3 := Lib.hid hmax3
  unfold maxLen at hmax hmax3
  obtain ⟨B, HB⟩ : ∃ B, Hid (B = w.heap.size) := ⟨_, Lib.hid rfl⟩
  obtain ⟨w0, HW0⟩ : ∃ x : World, Hid (x = w) := ⟨_, Lib.hid rfl⟩
  rw [← HB.out]
  have hl0 : Acts w0 B A l := by rw [HW0.out, HB.out]; exact hl
  have hl30 : SeesI w0 B A3 keep := by rw [HW0.out, HB.out]; exact hl3
  have HAC := Lib.hid hl0
  have HAC3 := Lib.hid hl30
  clear hl hl0 hl3 hl30 htorn hcalls
  by_cases hbig : 25 < (l.length : Int)
  · go_enter Try.func6, Try.ntmps6
    go_wp2_with fail
    refine (awake_any _).mono ?_
    rintro e w1 ⟨rfl, b1⟩
    rw [← HB.out] at b1
    go_wp2
    go_ret
    exact ⟨rfl, b1⟩
  by_cases hc1 : calls < 1
  · go_enter Try.func6, Try.ntmps6
    go_wp2_with fail
    refine (awake_any _).mono ?_
    rintro e w1 ⟨rfl, b1⟩
    rw [← HB.out] at b1
    go_wp2
    go_ret
    exact ⟨rfl, b1⟩
  by_cases hc2 : 30 < calls
  · go_enter Try.func6, Try.ntmps6
    go_wp2_with fail
    refine (awake_any _).mono ?_
    rintro e w1 ⟨rfl, b1⟩
    rw [← HB.out] at b1
    go_wp2
    go_ret
    exact ⟨rfl, b1⟩
  by_cases hbig3 : 25 < (keep.length : Int)
  · go_enter Try.func6, Try.ntmps6
    go_wp2_with fail
    refine (awake_any _).mono ?_
    rintro e w1 ⟨rfl, b1⟩
    rw [← HB.out] at b1
    go_wp2
    go_ret
    exact ⟨rfl, b1⟩
  obtain ⟨q, rfl⟩ : ∃ q : Nat, calls = (q : Int) := ⟨calls.toNat, by omega⟩
  have hd1 : decide (25 < (l.length : Int)) = false := by simpa using hbig
  have hd2 : decide ((q : Int) < 1) = false := by simpa using hc1
  have hd3 : decide (30 < (q : Int)) = false := by simpa using hc2
  have hd4 : decide (25 < (keep.length : Int)) = false := by simpa using hbig3
  go_enter Try.func6, Try.ntmps6
  go_wp2_with fail
  refine (awake_any _).mono ?_
  rintro e w1 ⟨rfl, b1⟩
  have hb1 : Below B w0 w1 := by rw [HB.out, HW0.out]; exact b1
  have hB1 : B ≤ w1.heap.size := by rw [HB.out]; exact b1.size
  have hnew := one_new 8 (by omega) (by omega) hb1 hB1
  rw [show ((8 : Nat) : Int) = 8 from rfl] at hnew
  have HNEW := Lib.hid hnew
  clear hnew hb1 hB1 b1
  go_wp2_with fail
  refine HNEW.out.mono ?_
  rintro e w2 ⟨a, rfl, h2⟩
  have hnew := two_new 8 (by omega) (by omega) h2
  rw [show ((8 : Nat) : Int) = 8 from rfl] at hnew
  have HNEW2 := Lib.hid hnew
  clear hnew h2
  go_wp2_with fail
  refine HNEW2.out.mono ?_
  rintro e w3 ⟨b, rfl, h3⟩
  have harm := two_arm h3.symm (q : Int) (by omega) A3 keep.length cap3 keep rfl (by omega) ((HAC3.out.below h3.bel (Nat.le_refl _)).mono h3.size) (fun hk0 x hx => by
      obtain ⟨g, o, e, hg, _⟩ := HAC3.out hk0
      rw [e] at hx
      injection hx with hx
      subst hx
      exact hg) torn
  have HARM := Lib.hid harm
  clear harm h3
  go_wp2_with fail
  refine HARM.out.mono ?_
  rintro e w4 ⟨rfl, h4⟩
  have hq1 : 1 ≤ q := by omega
  have HI : Hid (FuInv B w0 a b q keep torn 0 w4) := Lib.hid ⟨_, _, .inl ⟨by omega, List.replicate 8 (secB 0), [], Nat.le_refl _, List.length_replicate, by
    show (fresh 8).arm (q : Int) keep torn = _
    unfold Disk.arm
    simp [fresh, armed, show ¬ (q : Int) < 1 by omega], rfl⟩, h4⟩
  clear h4
  go_wp2
  go_loopw [13, 14] (fun n i wr => ∃ k : Nat, k ≤ l.length ∧ n = .int .i64 k ∧ i = .int .i64 k ∧ FuInv B w0 a b q keep torn k wr) (fun _ i _ => l.length - (intOf i).toNat)
  case atStart => exact ⟨0, Nat.zero_le _, rfl, rfl, HI.out⟩
  case round =>
    clear HI
    obtain ⟨k, hk, rfl, rfl, Sa, Sb, hrel, hd⟩ := hrel
    by_cases hlt : k < l.length
    · obtain ⟨g, o, rfl, hg, hacts⟩ := HAC.out (List.length_pos_iff.1 (by omega))
      have hx := hacts k hlt
      clear hacts
      obtain ⟨x, HX⟩ : ∃ x, Hid (x = l[k]) := ⟨_, Lib.hid rfl⟩
      rw [← HX.out] at hx
      obtain ⟨m, hm8, hm⟩ := and7 x.at_
      have HXX := Lib.hid hx
      have HM := Lib.hid hm
      clear hx hm
      by_cases hB : k + 1 = q
      case' pos =>
        obtain ⟨D, c, hc, hD, rfl, rfl⟩ : ∃ D c, c.length ≤ k ∧ D.length = 8 ∧ Sa = armed D c (q - k) keep torn ∧ Sb = st D c := by
          rcases hrel with ⟨_, h⟩ | ⟨h, _⟩
          · exact h
          · omega
        obtain ⟨er, oo, hrn⟩ : ∃ er oo, Rnd q keep torn k (armed D c (q - k) keep torn) ((st D c).crash keep torn) er oo := ⟨7, true, rnd_at hB hc hD⟩
        have HRN := Lib.hid hrn
        clear hrn
        have hcr := two_crash hd.symm (by show c.length ≤ 1000; omega) A3 keep.length cap3 keep rfl hcap3 HM3.out ((HAC3.out.below hd.bel (Nat.le_refl _)).mono hd.size) torn
        have HCR := Lib.hid hcr
        have hBb : (((k : Int) + 1) == (q : Int)) = true := by simp; omega
        clear hcr hd hrel hc hD
        go_wp2_with fail
        refine HCR.out.mono ?_
        rintro e w5 ⟨rfl, h5⟩
        have HD := Lib.hid h5.symm
        clear h5 HCR hBb
        obtain ⟨Sa, HSa⟩ : ∃ S, Hid (S = armed D c (q - k) keep torn) := ⟨_, Lib.hid rfl⟩
        obtain ⟨Sb, HSb⟩ : ∃ S, Hid (S = (st D c).crash keep torn) := ⟨_, Lib.hid rfl⟩
        rw [← HSa.out, ← HSb.out] at HRN HD
      case' neg =>
        have hrn : ∃ er oo, Rnd q keep torn k Sa Sb er oo := by
          rcases hrel with ⟨h1, D, c, hc, hD, rfl, rfl⟩ | ⟨h1, D, hD, rfl, rfl⟩
          · exact ⟨0, false, rnd_before (by omega) hc hD⟩
          · exact ⟨7, true, rnd_after h1 hD⟩
        obtain ⟨er, oo, hrn⟩ := hrn
        have HRN := Lib.hid hrn
        have HD := Lib.hid hd
        obtain ⟨w5, rfl⟩ : ∃ x : World, x = wr := ⟨_, rfl⟩
        clear hrn hd hrel
        have hBb : (((k : Int) + 1) == (q : Int)) = false := by simp; omega
      all_goals
        have a3 := (HD.out.bel.cell (p := ⟨g, o + k * 5, none⟩) hg).trans HXX.out.op
        have i1 : (k : Int) < (l.length : Int) := by omega
        have i2 : (0 : Int) ≤ (k : Int) := by omega
        have hca := HRN.out.ca
        by_cases hop : x.op = 0
        case' pos =>
          have hopb : (x.op == 0) = true := by simpa using hop
          have hf1 := two_flush HD.out (by omega)
          rw [HRN.out.fa] at hf1
          have HF1 := Lib.hid hf1
          clear hf1
          go_wp2_with fail
          refine HF1.out.mono ?_
          rintro e w6 ⟨rfl, h6⟩
          have hf2 := two_flush h6.symm (by omega)
          rw [HRN.out.fb] at hf2
          have HF2 := Lib.hid hf2
          clear hf2 h6
          go_wp2_with fail
          refine HF2.out.mono ?_
          rintro e w7 ⟨rfl, h7⟩
          have HE : Hid (∃ Sa' Sb', FuRel q keep torn (k + 1) Sa' Sb' ∧ Dev2 B w0 w7 a Sa' b Sb') := Lib.hid ⟨_, _, HRN.out.nf, h7.symm⟩
          clear h7 HF1 HF2 hopb a3
        case' neg =>
          have hopb : (x.op == 0) = false := by simpa using hop
          go_wp2
          refine fu18 g o l.length cap a b k m er er x (FuS B w0 w5 a b Sa Sb m x.c er) (by show 105 < 149; omega) rfl rfl rfl rfl w0 B hlt hcap (by omega) hg HXX.out HM.out (FuS.base HD.out) FuS.one (FuS.two HD.out (HRN.out.wa m hm8) (by omega)) FuS.three (FuS.four (HRN.out.wb m hm8) (by omega)) FuS.r1 FuS.r3 (Below.refl _ _).drew ?_
          intro af w7 hfr h15 h16 hS
          have ha := hfr.eq (by intro t ht; simp at ht; show t < 149; omega)
          simp only [List.foldl_cons, List.foldl_nil] at ha
          clear hfr
          rw [h15] at ha
          clear h15
          rw [h16] at ha
          clear h16
          generalize af.eval (.tmp 78) = u78 at ha
          generalize af.eval (.tmp 79) = u79 at ha
          generalize af.eval (.tmp 80) = u80 at ha
          generalize af.eval (.tmp 81) = u81 at ha
          generalize af.eval (.tmp 82) = u82 at ha
          generalize af.eval (.tmp 83) = u83 at ha
          generalize af.eval (.tmp 84) = u84 at ha
          generalize af.eval (.tmp 85) = u85 at ha
          generalize af.eval (.tmp 86) = u86 at ha
          generalize af.eval (.tmp 87) = u87 at ha
          generalize af.eval (.tmp 88) = u88 at ha
          generalize af.eval (.tmp 89) = u89 at ha
          generalize af.eval (.tmp 90) = u90 at ha
          generalize af.eval (.tmp 91) = u91 at ha
          generalize af.eval (.tmp 92) = u92 at ha
          generalize af.eval (.tmp 93) = u93 at ha
          generalize af.eval (.tmp 94) = u94 at ha
          generalize af.eval (.tmp 95) = u95 at ha
          generalize af.eval (.tmp 96) = u96 at ha
          generalize af.eval (.tmp 97) = u97 at ha
          generalize af.eval (.tmp 98) = u98 at ha
          generalize af.eval (.tmp 99) = u99 at ha
          generalize af.eval (.tmp 100) = u100 at ha
          generalize af.eval (.tmp 101) = u101 at ha
          generalize af.eval (.tmp 102) = u102 at ha
          generalize af.eval (.tmp 103) = u103 at ha
          generalize af.eval (.tmp 104) = u104 at ha
          generalize af.eval (.tmp 105) = u105 at ha
          subst ha
          simp only [Act.put, List.setIfInBounds_toArray, List.set_cons_zero, List.set_cons_succ]
          have HE : Hid (∃ Sa' Sb', FuRel q keep torn (k + 1) Sa' Sb' ∧ Dev2 B w0 w7 a Sa' b Sb') := Lib.hid ⟨_, _, HRN.out.nw m x.c hm8, hS.1⟩
          clear hS hopb a3
        all_goals
          obtain ⟨Sa', Sb', hrel', hd'⟩ := HE.out
          obtain ⟨of1, of2⟩ := hrel'.off
          have ho1 := two_off hd'
          have ho2 := two_off hd'.symm
          rw [of1] at ho1
          rw [of2] at ho2
          have hon := HRN.out.on
          have he7 := HRN.out.e7
          rw [hon] at ho1 ho2
          have HO1 := Lib.hid ho1
          have HO2 := Lib.hid ho2
          have hnn : decide ((q : Int) ≤ (k : Int) + 1) = oo := by
            rw [← hon]
            by_cases h : q ≤ k + 1
            · rw [decide_eq_true h, decide_eq_true (by omega)]
            · rw [decide_eq_false h, decide_eq_false (by omega)]
          clear of1 of2 ho1 ho2 hrel' hd' hon HRN HD hca
          cases oo
          all_goals
            go_wp2_with fail
            refine HO1.out.mono ?_
            rintro e w' ⟨rfl, rfl⟩
            go_wp2_with fail
            refine HO2.out.mono ?_
            rintro e w' ⟨rfl, rfl⟩
            go_wp2
            go_roundw
            case rel => first | exact ⟨k + 1, by omega, by go_num, by go_num, HE.out⟩ | ((repeat apply Exists.intro); exact ⟨⟨k + 1, by omega, by go_num, by go_num, HE.out⟩, rfl⟩)
            case measure => simp [intOf]; omega
    · have hkn : k = l.length := by omega
      subst hkn
      obtain ⟨e1, e2⟩ := hrel.last
      have HON := Lib.hid (two_on hd)
      have E1 := Lib.hid e1
      have E2 := Lib.hid e2
      clear hd hrel hlt e1 e2
      go_wp2_with fail
      refine HON.out.mono ?_
      rintro e w5 ⟨rfl, h5⟩
      have HON2 := Lib.hid (two_on h5.symm)
      clear h5
      go_wp2_with fail
      refine HON2.out.mono ?_
      rintro e w6 ⟨rfl, h6⟩
      have H6 := Lib.hid h6.symm
      clear h6
      go_wp2
      obtain ⟨wo, rfl⟩ : ∃ x : World, x = wr := ⟨_, rfl⟩
      go_loopw [17] (fun i wq => ∃ j : Nat, j ≤ 8 ∧ i = .int .i64 j ∧ Dev2 B w0 wq a Sa.on b Sb.on) (fun i _ => 8 - (intOf i).toNat)
      case atStart => exact ⟨0, Nat.zero_le _, rfl, H6.out⟩
      case round =>
        clear H6
        obtain ⟨j, hj8, rfl, hd⟩ := hrel
        by_cases hlt : j < 8
        · obtain ⟨s, HS⟩ : ∃ s, Hid (Sa.on.last[j]? = some s) := ⟨_, Lib.hid (List.getElem?_eq_getElem (by rw [E2.out]; exact hlt))⟩
          have HRD := Lib.hid (two_read hd rfl j s HS.out)
          have HDQ := Lib.hid hd
          clear hd
          go_wp2_with fail
          refine HRD.out.mono ?_
          rintro e w7 ⟨bb, cp, rfl, c1, c2, hsee, bb1, bb2, b7⟩
          have hss : s = ⟨s.data.toList.toArray⟩ := by cases s; simp
          have hcv := conv_in hsee s hss cp
          obtain ⟨Ab, HAb⟩ : ∃ A : Option Addr, Hid (A = some ⟨bb, 0, none⟩) := ⟨_, Lib.hid rfl⟩
          obtain ⟨n7, HN7⟩ : ∃ x, Hid (x = s.data.toList.length) := ⟨_, Lib.hid rfl⟩
          rw [← HAb.out, ← HN7.out] at hcv ⊢
          have HCV := Lib.hid hcv
          have HB7 := Lib.hid b7
          have HRD2 := Lib.hid (two_read (HDQ.out.past b7).symm rfl j s (by rw [← E1.out]; exact HS.out))
          clear hsee hcv b7 bb1 bb2 c1 c2 hss
          go_wp2_with fail
          refine HRD2.out.mono ?_
          rintro e w8 ⟨bc, cq, rfl, c1, c2, hsee, bb1, bb2, b8⟩
          have hss : s = ⟨s.data.toList.toArray⟩ := by cases s; simp
          have hcv2 := conv_in hsee s hss cq w8 (Below.refl _ _)
          obtain ⟨Ac, HAc⟩ : ∃ A : Option Addr, Hid (A = some ⟨bc, 0, none⟩) := ⟨_, Lib.hid rfl⟩
          rw [← HAc.out, ← HN7.out] at hcv2 ⊢
          have hcv1 := HCV.out w8 b8
          have HD8 := Lib.hid ((HDQ.out.past HB7.out).past b8)
          clear hsee b8 bb1 bb2 c1 c2 hss
          go_wp2
          go_roundw
          case rel => exact ⟨j + 1, by omega, by go_num, HD8.out⟩
          case measure => simp [intOf]; omega
        · have hj9 : j = 8 := by omega
          subst hj9
          have hb := hd.bel
          clear hd hlt
          go_wp2
          go_ret
          exact ⟨rfl, by rw [← HW0.out]; exact hb⟩
end Go.Proofs.Ytnbcdidenmakiaa
