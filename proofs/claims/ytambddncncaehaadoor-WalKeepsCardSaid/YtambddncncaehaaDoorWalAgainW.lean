/- The walk of WalAgain. -/
import Derived.Test.YtambddncncaehaaDoorWalKnownW
import Derived.Test.YtambddncncaehaaDoorWalAg18
namespace Go.Proofs.YtambddncncaehaaDoor
open Go.RowKit Dk Wl
set_option linter.unusedVariables false
set_option maxRecDepth 100000

section
variable {B : Nat} {w0 w : World} {F G : List Nat} {d l sz : Nat} {S : Disk} {L : Lg}
/-- An argument of the law's. -/
theorem law_addArg (h : Law B w0 w F G d l S sz L false) (hs : Sane S sz L) (A : Option Addr) (n c : Nat) (body : List UInt8) (hn : n = body.length) (hnc : n ≤ c) (hcm : c ≤ maxLen) (hse : Sees w B A body) (hb : body.length ≤ 200000) (hfit : L.used + (body.length + 16) ≤ sz * 512) :
    Calls Tryd.prog 11 #[.pointer (some ⟨l, 0, none⟩), .slice A n c] w (LawEnd B w0 F G d l S sz (L.add body) (.int .i64 0) w) :=
  law_add h hs A n c body hn hnc hcm (hse.mono h.size) (fun hne a ha => by
    obtain ⟨g, o, e, hg, _⟩ := hse hne
    rw [ha] at e; injection e with e; subst e
    exact ⟨fun hm => by have := h.fB _ hm; simp at this; omega, fun hm => by have := h.gB _ hm; simp at this; omega⟩) hb hfit
theorem law_keepArg (h : Law B w0 w F G d l S sz L false) (hs : Sane S sz L) (A : Option Addr) (n c : Nat) (body : List UInt8) (hn : n = body.length) (hnc : n ≤ c) (hcm : c ≤ maxLen) (hse : Sees w B A body) (hb : body.length ≤ 200000) (hfit : body.length + 16 ≤ sz * 512) :
    Calls Tryd.prog 12 #[.pointer (some ⟨l, 0, none⟩), .slice A n c] w (LawEnd B w0 F G d l S sz (L.keep body) (.int .i64 0) w) :=
  law_keep h hs A n c body hn hnc hcm (hse.mono h.size) (fun hne a ha => by
    obtain ⟨g, o, e, hg, _⟩ := hse hne
    rw [ha] at e; injection e with e; subst e
    exact ⟨fun hm => by have := h.fB _ hm; simp at this; omega, fun hm => by have := h.gB _ hm; simp at this; omega⟩) hb hfit
end
/-- Bases that have been told. -/
def BaS (wz : World) (nb : Nat) (base : List UInt8) (p : Nat) (R : Nat → Value) (w : World) : Prop := Below wz.heap.size wz w ∧ ∀ k, k < p → ∃ A c, R k = .slice A nb c ∧ Sees w w.heap.size A base
theorem BaS.one {wz w : World} {nb : Nat} {base : List UInt8} {p : Nat} {R : Nat → Value} (h : BaS wz nb base p R w) (hnb : nb = base.length) (hbig : nb ≤ 140737488355328) {x d sz half used : Nat} {G : List Nat} {tl : List UInt8} {recs : List (List UInt8)} {dn : Bool} (hx : LogI wz G x d sz half used tl base recs dn) :
    Calls Tryd.prog 18 #[.pointer (some ⟨x, 0, none⟩)] w fun e w' => ∃ v, e = .returned v ∧ BaS wz nb base (p + 1) (setR R p v) w' := by
  subst hnb
  refine (base_any (hx.below h.1) hbig).mono ?_
  rintro e w' ⟨A, c, rfl, h1, _, _, h2⟩
  refine ⟨_, rfl, h.1.trans (h2.mono h.1.size), fun k hk => ?_⟩
  by_cases e1 : k = p
  · subst e1; exact ⟨A, c, setR0 _ _ _, h1⟩
  · obtain ⟨A', c', q1, q2⟩ := h.2 k (by omega)
    exact ⟨A', c', by rw [setR1 _ _ e1]; exact q1, (q2.below h2 (Nat.le_refl _)).mono h2.size⟩
theorem ag18_run {Q : Exit → Act → World → Prop} {a0 : Act} {wp : World} (x y z nb : Nat) (base : List UInt8) (hnb : nb = base.length) (hbig : nb ≤ 140737488355328) {d sz half used : Nat} {Gx Gy Gz : List Nat} {tl : List UInt8} {recs : List (List UInt8)} {dn : Bool}
    (hx : LogI wp Gx x d sz half used tl base recs dn) (hy : LogI wp Gy y d sz half used tl base recs dn) (hz : LogI wp Gz z d sz half used tl base recs dn) (hsz : 119 < a0.tmps.size) (in11 : a0.eval (.tmp 11) = .pointer (some ⟨x, 0, none⟩)) (in14 : a0.eval (.tmp 14) = .pointer (some ⟨y, 0, none⟩)) (in15 : a0.eval (.tmp 15) = .int .i64 0) (in16 : a0.eval (.tmp 16) = .pointer (some ⟨z, 0, none⟩)) (in17 : a0.eval (.tmp 17) = .int .i64 0)
    (fin : ∀ a w, Fr [88, 89, 90, 91, 92, 93, 94, 95, 96, 97, 98, 99, 100, 101, 102, 103, 104, 105, 106, 107, 108, 109, 110, 111, 112, 113, 114, 115, 116, 117, 118, 119] a0 a → a.eval (.tmp 119) = .bool false → Below wp.heap.size wp w → Q .normal a w) :
    (Code.region 18 opsAg18 true).wp Tryd.prog Q a0 wp := by
  refine ag18 x y z nb (bstr base) (BaS wp nb base) hsz in11 in14 in15 in16 in17 ?_ ?_ ?_ ?_ ?_ ?_ ?_
  · intro p R w hS k hk
    obtain ⟨A, c, q1, q2⟩ := hS.2 k hk
    exact ⟨A, c, q1, run_sees_string (P := Tryd.prog) w 31 9 5 Tryd.underlying31 Tryd.underlying5 Tryd.underlying9 q2 nb c hnb⟩
  · intro R w hS; exact hS.one hnb hbig hy
  · intro R w hS; exact hS.one hnb hbig hx
  · intro R w hS; exact hS.one hnb hbig hz
  · intro R w hS; exact hS.one hnb hbig hx
  · exact ⟨(Below.refl _ _).drew, fun k hk => absurd hk (by omega)⟩
  · intro a w hfr h hS; exact fin a w hfr h hS.1

set_option maxHeartbeats 10000000 in
set_option maxRecDepth 100000 in
theorem walAgain_walk (A0 : Option Addr) (n0 c0 : Nat) (l : List (List UInt8)) (hn0 : n0 = l.length) (hnc0 : n0 ≤ c0) (hcm0 : c0 ≤ maxLen) (A1 : Option Addr) (n1 c1 : Nat) (base : List UInt8) (hn1 : n1 = base.length) (hnc1 : n1 ≤ c1) (hcm1 : c1 ≤ maxLen) (at_ : Int) (hat0 : (Lit.int .i64 at_).wf = true)
    (A3 : Option Addr) (n3 c3 : Nat) (more : List UInt8) (hn3 : n3 = more.length) (hnc3 : n3 ≤ c3) (hcm3 : c3 ≤ maxLen) (w : World) (hg0 : Grid w w.heap.size A0 l) (hs1 : Sees w w.heap.size A1 base) (hs3 : Sees w w.heap.size A3 more) (ht0 : Lib.TabIs Tryd.prog w "franking/crc.halfByte" .u32 crcTab) :
    Calls Tryd.prog 5 #[.slice A0 n0 c0, .slice A1 n1 c1, .int .i64 at_, .slice A3 n3 c3] w fun e w' => e = .returned (.bool true) ∧ Below w.heap.size w w' := by
  subst hn0 hn1 hn3
  have ht := tabAt ht0
  have HT := Lib.hid ht
  have HAW := Lib.hid (walAwake_any w ht)
  have HG0 := Lib.hid hg0
  have HS1 := Lib.hid (⟨hs1, hcm1⟩ : _ ∧ _)
  have HS3 := Lib.hid (⟨hs3, hcm3⟩ : _ ∧ _)
  have hcm0' := hcm0
  unfold maxLen at hcm0 hcm1 hcm3
  clear ht ht0 hat0 hg0 hs1 hs3
  by_cases a1 : (15 : Int) < l.length
  · go_enter Tryd.func5, Tryd.ntmps5
    go_wp2_with fail
    refine HAW.out.mono ?_
    rintro e w1 ⟨rfl, hb1⟩
    have HB := Lib.hid hb1
    clear hb1
    go_wp2
    go_ret
    exact ⟨rfl, HB.out⟩
  by_cases a2 : (1000 : Int) < base.length
  · go_enter Tryd.func5, Tryd.ntmps5
    go_wp2_with fail
    refine HAW.out.mono ?_
    rintro e w1 ⟨rfl, hb1⟩
    have HB := Lib.hid hb1
    clear hb1
    go_wp2
    go_ret
    exact ⟨rfl, HB.out⟩
  by_cases a3 : (1000 : Int) < more.length
  · go_enter Tryd.func5, Tryd.ntmps5
    go_wp2_with fail
    refine HAW.out.mono ?_
    rintro e w1 ⟨rfl, hb1⟩
    have HB := Lib.hid hb1
    clear hb1
    go_wp2
    go_ret
    exact ⟨rfl, HB.out⟩
  have b1 : (l.length : Int) ≤ 15 := by omega
  have b2 : (base.length : Int) ≤ 1000 := by omega
  have b3 : (more.length : Int) ≤ 1000 := by omega
  obtain ⟨B, HB0⟩ : ∃ B : Nat, Hid (B = w.heap.size) := ⟨_, Lib.hid rfl⟩
  go_enter Tryd.func5, Tryd.ntmps5
  go_wp2_with fail
  refine HAW.out.mono ?_
  rintro e w1 ⟨rfl, hb1⟩
  have hnw := law_new (B := B) (w0 := w) (w := w1) 400 (by omega) (by omega) (by rw [HB0.out]; exact hb1) (by rw [HB0.out]; exact hb1.size) (HT.out.below hb1 (Nat.le_refl _)) (by rw [HB0.out]; exact HT.out.lt)
  rw [show ((400 : Nat) : Int) = 400 from rfl] at hnw
  have HNW := Lib.hid hnw
  clear HAW hb1 hnw
  go_wp2_with fail
  refine HNW.out.mono ?_
  rintro e w2 ⟨d, F, rfl, hd2, _⟩
  have HOP := Lib.hid (law_open0 (sz := 199) hd2 (by omega) rfl)
  clear HNW hd2
  go_wp2_with fail
  refine HOP.out.mono ?_
  rintro e w3 ⟨x, G, rfl, hl3, _, _⟩
  have HI : Hid (∃ F G S L, Law B w w3 F G d x S 199 L false ∧ Sane S 199 L ∧ S.dur.length = 400 ∧ L.used ≤ 1016 + 516 * 0) := Lib.hid ⟨F, G, _, _, hl3, fresh_sane 400 199 (by omega), List.length_replicate, by rw [Lg.zero_used]; omega⟩
  clear HOP hl3
  go_wp2
  go_loopw [13] (fun i wr => ∃ j : Nat, j ≤ l.length ∧ i = .int .i64 j ∧ ∃ F G S L, Law B w wr F G d x S 199 L false ∧ Sane S 199 L ∧ S.dur.length = 400 ∧ L.used ≤ 1016 + 516 * j) (fun i _ => l.length - (intOf i).toNat)
  case atStart => exact ⟨0, Nat.zero_le _, rfl, HI.out⟩
  case round =>
    clear HI
    obtain ⟨j, hj, rfl, F1, G1, S1, L1, hl1, hs1, hm1, hu1⟩ := hrel
    have hbw : Below w.heap.size w wr := by rw [← HB0.out]; exact hl1.bel
    by_cases hlt : j < l.length
    · have hjI : (j : Int) < l.length := by omega
      obtain ⟨g, o, rfl, hg, hat⟩ := HG0.out (by intro e; rw [e] at hlt; simp at hlt)
      obtain ⟨A', c', y, y1, y2, ys⟩ := hat j hlt
      obtain ⟨r, Hr⟩ : ∃ r, Hid (r = l[j]) := ⟨_, Lib.hid rfl⟩
      rw [← Hr.out] at y y1 ys
      have y' : wr.cell? ⟨g, o + j, none⟩ = some (.slice A' r.length c') := (hbw.cell (p := ⟨g, o + j, none⟩) hg).trans y
      have hrI : (r.length : Int) ≤ 9223372036854775807 := by unfold maxLen at y2; omega
      have HBW := Lib.hid hbw
      have HY := Lib.hid (⟨y1, y2, ys⟩ : _ ∧ _ ∧ _)
      have HL1 := Lib.hid (⟨hl1, hs1, hm1, hu1⟩ : _ ∧ _ ∧ _ ∧ _)
      clear hat y y1 y2 ys hbw hl1 hs1 hm1 hu1
      by_cases q1 : (500 : Int) < r.length
      · go_wp2
        go_ret
        exact ⟨rfl, HBW.out⟩
      have HADD := Lib.hid (law_addArg HL1.out.1 HL1.out.2.1 A' r.length c' r rfl HY.out.1 HY.out.2.1 (by rw [HB0.out]; exact HY.out.2.2.below HBW.out (Nat.le_refl _)) (by omega) (by have := HL1.out.2.2.2; omega))
      by_cases q2 : (j : Int) = at_
      · have q2b : ((j : Int) == at_) = true := by simpa using q2
        have HRU := Lib.hid (⟨HL1.out.2.2.1, HL1.out.2.2.2⟩ : _ ∧ _)
        clear q2 HL1
        go_wp2_with fail
        refine HADD.out.mono ?_
        rintro e w4 ⟨rfl, F4, G4, S4, hl4, hs4, _, hd4⟩
        have hb4 : Below w.heap.size w w4 := by rw [← HB0.out]; exact hl4.bel
        have HKP := Lib.hid (law_keepArg hl4 hs4 A1 base.length c1 base rfl hnc1 HS1.out.2 (by rw [HB0.out]; exact HS1.out.1.below hb4 (Nat.le_refl _)) (by omega) (by omega))
        have HD4 := Lib.hid hd4
        clear hl4 hs4 hd4 hb4 HADD
        go_wp2_with fail
        refine HKP.out.mono ?_
        rintro e w5 ⟨rfl, F5, G5, S5, hl5, hs5, _, hd5⟩
        have HK := Lib.hid (show ∃ F G S L, Law B w w5 F G d x S 199 L false ∧ Sane S 199 L ∧ S.dur.length = 400 ∧ L.used ≤ 1016 + 516 * (j + 1) from ⟨F5, G5, S5, _, hl5, hs5, hd5.trans (HD4.out.trans HRU.out.1), by rw [Lg.keep_used]; omega⟩)
        clear hl5 hs5 hd5 HKP y'
        go_wp2
        go_roundw
        case rel => exact ⟨j + 1, by omega, by go_num, HK.out⟩
        case measure => simp [intOf]; omega
      · have q2b : ((j : Int) == at_) = false := by simpa using q2
        have HRU := Lib.hid (⟨HL1.out.2.2.1, HL1.out.2.2.2⟩ : _ ∧ _)
        clear q2 HL1
        go_wp2_with fail
        refine HADD.out.mono ?_
        rintro e w4 ⟨rfl, F4, G4, S4, hl4, hs4, _, hd4⟩
        have HK := Lib.hid (show ∃ F G S L, Law B w w4 F G d x S 199 L false ∧ Sane S 199 L ∧ S.dur.length = 400 ∧ L.used ≤ 1016 + 516 * (j + 1) from ⟨F4, G4, S4, _, hl4, hs4, hd4.trans HRU.out.1, by rw [Lg.add_used]; have := HRU.out.2; omega⟩)
        clear hl4 hs4 hd4 HADD y'
        go_wp2
        go_roundw
        case rel => exact ⟨j + 1, by omega, by go_num, HK.out⟩
        case measure => simp [intOf]; omega
    · obtain rfl : j = l.length := by omega
      have HOY := Lib.hid (law_open hl1.toD hs1.on hs1.safe hs1.holds (by omega) (by rw [hm1]) hl1.both.2.1)
      have HL1 := Lib.hid (⟨hl1, hs1, hm1, hu1⟩ : _ ∧ _ ∧ _ ∧ _)
      clear hl1 hs1 hm1 hu1 hbw
      go_wp2_with fail
      refine HOY.out.mono ?_
      rintro e w4 ⟨y, Gy, rfl, hly, hby, hGy⟩
      have hlx4 := HL1.out.1.below hby
      have HOZ := Lib.hid (law_open hly.toD HL1.out.2.1.on HL1.out.2.1.safe HL1.out.2.1.holds (by have := HL1.out.2.2.1; omega) (by rw [HL1.out.2.2.1]) hly.both.2.1)
      have HXY := Lib.hid (⟨hlx4, hly⟩ : _ ∧ _)
      clear HOY hly hby hGy hlx4
      go_wp2_with fail
      refine HOZ.out.mono ?_
      rintro e w5 ⟨z, Gz, rfl, hlz, hbz, hGz⟩
      have hlx5 := HXY.out.1.below hbz
      have hly5 := HXY.out.2.below hbz
      have HA := Lib.hid (⟨hlx5, hly5, hlz⟩ : _ ∧ _ ∧ _)
      have hbl : L1.base.length ≤ 200000 := hlz.both.2.1.small _ (List.mem_cons_self ..)
      have hrl : L1.recs.length ≤ 1000000 := by have h1 := L1.used_pos; have h2 := HL1.out.2.2.2; omega
      have hrlI : (L1.recs.length : Int) ≤ 1000000 := by omega
      clear HOZ HXY hlx5 hly5 hlz hbz hGz
      go_wp2
      refine ag18_run x y z L1.base.length L1.base rfl (by omega) HA.out.1.both.1.log HA.out.2.1.both.1.log HA.out.2.2.both.1.log (by show 119 < 169; omega) rfl rfl rfl rfl rfl ?_
      intro af w6 hfr h119 hb6
      have ha := hfr.eq (by intro t ht; simp at ht; show t < 169; omega)
      simp only [List.foldl_cons, List.foldl_nil] at ha
      clear hfr
      rw [h119] at ha
      clear h119
      generalize af.eval (.tmp 88) = u88 at ha
      generalize af.eval (.tmp 89) = u89 at ha
      generalize af.eval (.tmp 90) = u90 at ha
      generalize af.eval (.tmp 91) = u91 at ha
      generalize af.eval (.tmp 92) = u92 at ha
      generalize af.eval (.tmp 93) = u93 at ha
      generalize af.eval (.tmp 94) = u94 at ha
      generalize af.eval (.tmp 95) = u95 at ha
      generalize af.eval (.tmp 96) = u96 at ha
      generalize af.eval (.tmp 97) = u97 at ha
      generalize af.eval (.tmp 98) = u98 at ha
      generalize af.eval (.tmp 99) = u99 at ha
      generalize af.eval (.tmp 100) = u100 at ha
      generalize af.eval (.tmp 101) = u101 at ha
      generalize af.eval (.tmp 102) = u102 at ha
      generalize af.eval (.tmp 103) = u103 at ha
      generalize af.eval (.tmp 104) = u104 at ha
      generalize af.eval (.tmp 105) = u105 at ha
      generalize af.eval (.tmp 106) = u106 at ha
      generalize af.eval (.tmp 107) = u107 at ha
      generalize af.eval (.tmp 108) = u108 at ha
      generalize af.eval (.tmp 109) = u109 at ha
      generalize af.eval (.tmp 110) = u110 at ha
      generalize af.eval (.tmp 111) = u111 at ha
      generalize af.eval (.tmp 112) = u112 at ha
      generalize af.eval (.tmp 113) = u113 at ha
      generalize af.eval (.tmp 114) = u114 at ha
      generalize af.eval (.tmp 115) = u115 at ha
      generalize af.eval (.tmp 116) = u116 at ha
      generalize af.eval (.tmp 117) = u117 at ha
      generalize af.eval (.tmp 118) = u118 at ha
      subst ha
      simp only [Act.put, List.setIfInBounds_toArray, List.set_cons_zero, List.set_cons_succ]
      have hx6 := HA.out.1.below hb6
      have HX6 := Lib.hid (⟨hx6, HA.out.2.1.below hb6, HA.out.2.2.below hb6⟩ : _ ∧ _ ∧ _)
      have HAL := Lib.hid (all_any hx6.both.1.log hrl (recs_all _ hx6.both.2.1))
      clear hx6 hb6 HA
      go_wp2_with fail
      refine HAL.out.mono ?_
      rintro e w7 ⟨A7, c7, rfl, _, h71, h72, hb7⟩
      have hy7 := HX6.out.2.1.below hb7
      have HALY := Lib.hid (all_any hy7.both.1.log hrl (recs_all _ hy7.both.2.1))
      have HZ7 := Lib.hid (HX6.out.2.2.below hb7)
      clear hy7 hb7 HAL HX6 h71 h72
      go_wp2_with fail
      refine HALY.out.mono ?_
      rintro e w8 ⟨A8, c8, rfl, _, h81, h82, hb8⟩
      have hz8 := HZ7.out.below hb8
      have HALZ := Lib.hid (all_any hz8.both.1.log hrl (recs_all _ hz8.both.2.1))
      have HZ8 := Lib.hid hz8
      clear hz8 hb8 HALY HZ7 h81 h82
      go_wp2_with fail
      refine HALZ.out.mono ?_
      rintro e w9 ⟨A9, c9, rfl, _, h91, h92, hb9⟩
      have hz9 := HZ8.out.below hb9
      have hbz9 : Below w.heap.size w w9 := by rw [← HB0.out]; exact hz9.bel
      have HADD := Lib.hid (law_addArg hz9 HL1.out.2.1 A3 more.length c3 more rfl hnc3 HS3.out.2 (by rw [HB0.out]; exact HS3.out.1.below hbz9 (Nat.le_refl _)) (by omega) (by have := HL1.out.2.2.2; omega))
      clear hz9 hb9 hbz9 HALZ HZ8 h91 h92
      go_wp2_with fail
      refine HADD.out.mono ?_
      rintro e wA ⟨rfl, FA, GA, SA, hlA, hsA, _, hdA⟩
      have hmA := hdA.trans HL1.out.2.2.1
      have HOU := Lib.hid (law_open hlA.toD hsA.on hsA.safe hsA.holds (by omega) (by rw [hmA]) hlA.both.2.1)
      clear HADD hlA hsA hdA hmA
      go_wp2_with fail
      refine HOU.out.mono ?_
      rintro e wB ⟨u, Gu, rfl, hlu, _, _⟩
      have hru : (L1.add more).recs.length ≤ 1000000 := by have h1 := (L1.add more).used_pos; have h2 := hlu.both.2.1.used; omega
      have hal := all_any hlu.both.1.log hru (recs_all _ hlu.both.2.1)
      have HAU : Hid (Calls Tryd.prog 14 #[.pointer (some ⟨u, 0, none⟩)] wB fun e w' => ∃ (g : Nat × Nat) (c : Nat) (A' : Option Addr) (c' : Nat), e = .returned (.slice (some ⟨g.1, g.2, none⟩) (L1.recs.length + 1) c) ∧ L1.recs.length + 1 ≤ c ∧ c ≤ maxLen ∧ g.1 < w'.heap.size ∧ w'.cell? ⟨g.1, g.2 + L1.recs.length, none⟩ = some (.slice A' more.length c') ∧ Sees w' w'.heap.size A' more ∧ Below wB.heap.size wB w') := Lib.hid (hal.mono fun e w' ⟨A, c, h1, h2, h3, h4, h5⟩ => by
        have hle : (L1.add more).recs = L1.recs ++ [more] := rfl
        rw [hle] at h1 h2 h3
        rw [List.length_append] at h1 h3
        obtain ⟨g, o, rfl, hg, hat⟩ := h2 (by simp)
        obtain ⟨A', c', k1, k2, k3, k4⟩ := hat L1.recs.length (by simp)
        rw [List.getElem_append_right (Nat.le_refl _)] at k1 k4
        simp only [Nat.sub_self, List.getElem_cons_zero] at k1 k4
        exact ⟨(g, o), c, A', c', h1, h3, h4, hg, k1, k4, h5⟩)
      have HBU := Lib.hid (⟨hlu.bel, hlu.size⟩ : _ ∧ _)
      clear HOU hlu hru hal
      go_wp2_with fail
      refine HAU.out.mono ?_
      rintro e wC ⟨⟨g, o⟩, c9', A9', c10, rfl, k1, k2, k3, k4, k5, hbC⟩
      have HBC := Lib.hid (HBU.out.1.trans (hbC.mono HBU.out.2))
      have hbCw : Below w.heap.size w wC := by rw [← HB0.out]; exact HBU.out.1.trans (hbC.mono HBU.out.2)
      have v1 : ∀ q, (convert 31 9 (.slice A9' more.length c10)).run Tryd.prog (wC.drewN q) = .ok (.string (bstr more)) (wC.drewN q) := fun q => run_sees_string (P := Tryd.prog) (wC.drewN q) 31 9 5 Tryd.underlying31 Tryd.underlying5 Tryd.underlying9 (k5.drewN q) more.length c10 rfl
      have v2 : ∀ q, (convert 31 9 (.slice A3 more.length c3)).run Tryd.prog (wC.drewN q) = .ok (.string (bstr more)) (wC.drewN q) := fun q => run_sees_string (P := Tryd.prog) (wC.drewN q) 31 9 5 Tryd.underlying31 Tryd.underlying5 Tryd.underlying9 ((HS3.out.1.below hbCw (Nat.le_refl _)).drewN q) more.length c3 rfl
      obtain ⟨ms, Hms⟩ : ∃ b, Hid (b = bstr more) := ⟨_, Lib.hid rfl⟩
      rw [← Hms.out] at v1 v2
      unfold maxLen at k2
      have hnI : (L1.recs.length : Int) < (L1.recs.length : Int) + 1 := by omega
      clear HAU HBU k5 hbC hbCw
      go_wp2
      go_quiet (fail)
      go_wp2
      go_ret
      exact ⟨rfl, by rw [← HB0.out]; exact below_drewN HBC.out _⟩
end Go.Proofs.YtambddncncaehaaDoor
