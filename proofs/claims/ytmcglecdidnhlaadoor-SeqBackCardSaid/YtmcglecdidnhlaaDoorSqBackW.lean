/- SeqBack: the walk. -/
import Derived.Test.YtmcglecdidnhlaaDoorSqAwake
import Derived.Test.YtmcglecdidnhlaaDoorSqSame
import Derived.Test.YtmcglecdidnhlaaDoorSqBk8
import Derived.Test.YtmcglecdidnhlaaDoorSqLen
import Derived.IntWalk
namespace Go.Proofs.YtmcglecdidnhlaaDoor
open Go.RowKit
set_option linter.unusedVariables false
set_option maxRecDepth 100000

set_option maxHeartbeats 6400000 in
theorem seqBack_walk (A : Option Addr) (n c : Nat) (L : List (Int × Int)) (hn : n = L.length) (hc : n ≤ c) (hcm : c ≤ maxLen) (A2 : Option Addr) (n2 c2 : Nat) (l : List Int) (hn2 : n2 = l.length) (hc2 : n2 ≤ c2) (hcm2 : c2 ≤ maxLen) (z : Int) (wz : (Lit.int .i64 z).wf = true) (w : World) (hp : Pairs w w.heap.size A L) (hp2 : Ints w w.heap.size A2 l) (hw : SW w) :
    Calls Tryd.prog 5 #[.agg #[.slice A n c], .slice A2 n2 c2, .int .i64 z] w fun e w' => e = .returned (.bool true) ∧ Below w.heap.size w w' := by
  subst hn hn2
  clear wz hc hcm hc2 hcm2
  obtain ⟨w0, rfl⟩ : ∃ w0, w0 = w := ⟨_, rfl⟩
  obtain ⟨w1, Hw1⟩ : ∃ w1, Hid (w1 = w0.alloc (.cells #[.slice A L.length c] 25)) := ⟨_, Lib.hid rfl⟩
  have hb1 : Below w0.heap.size w0 w1 := by rw [Hw1.out]; exact (Below.refl _ w0).alloc (Nat.le_refl _) _
  have hx1 : Blk w1 w0.heap.size 25 #[.slice A L.length c] := by rw [Hw1.out]; exact Blk.new w0 _ _
  have HW : Hid (∀ W : World, Below w1.heap.size w1 W → Below w0.heap.size w0 W ∧ Pairs W W.heap.size A L ∧ Ints W W.heap.size A2 l ∧ SW W ∧ W.cell? ⟨w0.heap.size, 0, none⟩ = some (.slice A L.length c)) := Lib.hid (fun W hb => by
    have h0 := hb1.trans (hb.mono hb1.size)
    exact ⟨h0, (hp.below h0 (Nat.le_refl _)).mono h0.size, (hp2.below h0 (Nat.le_refl _)).mono h0.size, hw.below h0, (hx1.below hb hx1.lt).cell 0 _ rfl⟩)
  clear hp hp2 hw hb1 hx1
  go_enter Tryd.func5, Tryd.ntmps5
  go_wp2_with fail
  rw [← Hw1.out]
  refine (awake_any w1 (HW.out w1 (Below.refl _ _)).2.2.2.1).mono ?_
  rintro e w2 ⟨rfl, hb2⟩
  have HB2 := Lib.hid hb2
  have z0 := (HW.out w2 hb2).2.2.2.2
  clear hb2
  by_cases h60 : L.length ≤ 110
  case neg =>
    have b1 : (110 : Int) < (L.length : Int) := by omega
    have b2 : 110 < L.length := by omega
    go_wp2
    go_ret
    exact ⟨rfl, (HW.out w2 HB2.out).1⟩
  have b1 : ¬ (110 : Int) < (L.length : Int) := by omega
  have b2 : ¬ 110 < L.length := by omega
  by_cases h61 : l.length ≤ 60
  case neg =>
    have b3 : (60 : Int) < (l.length : Int) := by omega
    have b4 : 60 < l.length := by omega
    go_wp2
    go_ret
    exact ⟨rfl, (HW.out w2 HB2.out).1⟩
  have b3 : ¬ (60 : Int) < (l.length : Int) := by omega
  have b4 : ¬ 60 < l.length := by omega
  go_wp2_with fail
  have hmx : L.length ≤ maxLen := by unfold maxLen; omega
  refine (show_any A L.length c L w2 rfl hmx (HW.out w2 HB2.out).2.1 (HW.out w2 HB2.out).2.2.2.1).mono ?_
  rintro e wt ⟨rfl, hbt⟩
  have HT := Lib.hid (HB2.out.trans (hbt.mono HB2.out.size))
  clear hbt z0
  obtain ⟨s, Hs⟩ : ∃ s : ByteArray, Hid (s = ⟨(Sq.shown L).toArray⟩) := ⟨_, Lib.hid rfl⟩
  rw [← Hs.out]
  have hzs : s.size ≤ 1000000 := by
    have := shown_len L
    rw [Hs.out]
    show (Sq.shown L).toArray.size ≤ 1000000
    simp
    omega
  by_cases hs0 : Sq.shown L = []
  case pos =>
    obtain ⟨s', Hs'⟩ : ∃ s' : ByteArray, Hid (s' = s) := ⟨_, Lib.hid rfl⟩
    have es : s = ⟨#[]⟩ := by rw [Hs.out, hs0]
    rw [es]
    have q3 : ((⟨#[]⟩ : ByteArray).toList == []) = true := by decide +kernel
    clear Hs' Hs hzs es hs0
    go_wp2
    go_loopw [10, 11] (fun b i wr => ∃ k : Nat, k ≤ l.length ∧ b = .bool (decide (z ∈ l.take k)) ∧ i = .int .i64 k ∧ Hid (wr = wt)) (fun _ i _ => l.length - (intOf i).toNat)
    case atStart => exact ⟨0, Nat.zero_le _, by simp, rfl, Lib.hid rfl⟩
    case round =>
      obtain ⟨k, hk, rfl, rfl, HWR⟩ := hrel
      have HBR : Hid (Below w1.heap.size w1 wr) := Lib.hid (by rw [HWR.out]; exact HT.out)
      by_cases hlt : k < l.length
      case pos =>
        obtain ⟨bk, Hbk⟩ : ∃ bk, Hid (bk = decide (z ∈ l.take k)) := ⟨_, Lib.hid rfl⟩
        rw [← Hbk.out]
        obtain ⟨g, o, rfl, hg, y1⟩ := (HW.out wr HBR.out).2.2.1.at k hlt
        obtain ⟨x, Hx⟩ : ∃ x, Hid (x = l[k]) := ⟨_, Lib.hid rfl⟩
        rw [← Hx.out] at y1
        have i1 : (k : Int) < (l.length : Int) := by omega
        have i2 : (0 : Int) ≤ (k : Int) := by omega
        have HN : Hid (decide (z ∈ l.take (k + 1)) = (bk || (x == z))) := Lib.hid (by rw [take_mem l z k hlt, ← Hbk.out, ← Hx.out])
        cases bk with
        | true =>
          go_wp2
          exact ⟨⟨k + 1, by omega, by rw [HN.out]; rfl, by go_num, HWR⟩, by simp [intOf]; omega⟩
        | false =>
          go_wp2
          exact ⟨⟨k + 1, by omega, by rw [HN.out]; simp, by go_num, HWR⟩, by simp [intOf]; omega⟩
      obtain rfl : k = l.length := by omega
      obtain ⟨fd, Hfd⟩ : ∃ fd, Hid (fd = decide (z ∈ l)) := ⟨_, Lib.hid rfl⟩
      rw [List.take_length, ← Hfd.out]
      go_wp2_with fail
      obtain ⟨S, HS⟩ : ∃ S, Hid (S = Sq.spans l) := ⟨_, Lib.hid rfl⟩
      have hSl : S.length ≤ 60 := by rw [HS.out]; exact Nat.le_trans (Sq.spans_length l) h61
      refine (of_lit l S HS.out.symm S.length rfl l.length rfl h61 A2 c2 wr (HW.out wr HBR.out).2.2.1).mono ?_
      rintro e v3 ⟨A3, c3, rfl, hc1, hc2, hp3, b⟩
      obtain ⟨w4, Hw4⟩ : ∃ W, Hid (W = v3.alloc (.cells #[.slice A3 S.length c3] 25)) := ⟨_, Lib.hid rfl⟩
      have hq : Below v3.heap.size v3 w4 := by rw [Hw4.out]; exact (Below.refl _ _).alloc (Nat.le_refl _) _
      have hx : Blk w4 v3.heap.size 25 #[.slice A3 S.length c3] := by rw [Hw4.out]; exact Blk.new _ _ _
      have HB4 : Hid (Below w1.heap.size w1 w4) := Lib.hid (HBR.out.trans ((b.trans (hq.mono b.size)).mono HBR.out.size))
      have HP4 : Hid (Pairs w4 w4.heap.size A3 S) := Lib.hid ((hp3.below hq (Nat.le_refl _)).mono hq.size)
      have HX4 : Hid (w4.cell? ⟨v3.heap.size, 0, none⟩ = some (.slice A3 S.length c3)) := Lib.hid (hx.cell 0 _ rfl)
      clear b hq hx hc1 hc2 hp3
      go_wp2
      rw [← Hw4.out]
      obtain ⟨b4, Hb4⟩ : ∃ b, Hid (b = v3.heap.size) := ⟨_, Lib.hid rfl⟩
      rw [← Hb4.out] at HX4 ⊢
      clear HBR HWR
      go_loopw [13] (fun i wr => ∃ (k q : Nat), k ≤ S.length ∧ i = .int .i64 k ∧ Hid (wr = w4.drewN q)) (fun i _ => S.length - (intOf i).toNat)
      case atStart => exact ⟨0, 0, Nat.zero_le _, rfl, Lib.hid rfl⟩
      case round =>
        obtain ⟨k, q, hk, rfl, HWQ⟩ := hrel
        have z0 : wr.cell? ⟨b4, 0, none⟩ = some (.slice A3 S.length c3) := by rw [HWQ.out]; exact HX4.out
        have HNX : Hid (∀ q', ∃ q'', wr.drewN q' = w4.drewN q'') := Lib.hid (fun q' => ⟨q + q', by rw [HWQ.out]; simp [World.drewN, Nat.add_assoc]⟩)
        by_cases hlt : k < S.length
        case pos =>
          obtain ⟨g, o, rfl, hg, k1, k2⟩ := HP4.out.at k hlt
          obtain ⟨x, Hx⟩ : ∃ x, Hid (x = S[k]) := ⟨_, Lib.hid rfl⟩
          have hgood : 1 ≤ x.1 ∧ x.1 ≤ x.2 ∧ x.2 ≤ 4294967295 := by
            rw [Hx.out]
            have := spans_each l k (by rw [← HS.out]; exact hlt)
            simpa only [HS.out] using this
          rw [← Hx.out] at k1 k2
          obtain ⟨a, b⟩ := x
          simp only at k1 k2 hgood
          have y1 : wr.cell? ⟨g, o + k * 2, none⟩ = some (.int .i64 a) := by rw [HWQ.out]; exact k1
          have y2 : wr.cell? ⟨g, o + k * 2 + 1, none⟩ = some (.int .i64 b) := by rw [HWQ.out]; exact k2
          have i1 : (k : Int) < (S.length : Int) := by omega
          have i2 : (0 : Int) ≤ (k : Int) := by omega
          have d1 : decide (b < a) = false := by simp; omega
          clear k1 k2
          by_cases hkj : k = 0
          case pos =>
            have dz1 : decide (0 < k) = false := by simp [hkj]
            have dz2 : decide ((0 : Int) < (k : Int)) = false := by simp [hkj]
            have HK0 := Lib.hid hkj
            clear hgood hkj
            go_wp2
            go_quiet (fail)
            go_wp2
            go_roundw
            case rel =>
              obtain ⟨q'', e⟩ := HNX.out nq
              exact ⟨k + 1, q'', by omega, by go_num, Lib.hid e⟩
            case measure => simp [intOf]; omega
          case neg =>
            obtain ⟨j, rfl⟩ : ∃ j, k = j + 1 := ⟨k - 1, by omega⟩
            clear hkj
            obtain ⟨g', o', e', _, k3, k4⟩ := HP4.out.at j (by omega)
            injection e' with e'
            injection e' with eg eo _
            subst eg eo
            have hgap : S[j].2 + 1 < S[j + 1].1 := by
              have := spans_gap l j (by rw [← HS.out]; exact hlt)
              simpa only [HS.out] using this
            have hgj : 1 ≤ S[j].1 ∧ S[j].1 ≤ S[j].2 := by
              have := spans_each l j (by rw [← HS.out]; omega)
              simp only [HS.out]; exact ⟨this.1, this.2.1⟩
            rw [← Hx.out] at hgap
            obtain ⟨p, Hp⟩ : ∃ p, Hid (p = S[j].2) := ⟨_, Lib.hid rfl⟩
            rw [← Hp.out] at hgap hgj k4
            simp only at hgap
            have y4 : wr.cell? ⟨g, o + j * 2 + 1, none⟩ = some (.int .i64 p) := by rw [HWQ.out]; exact k4
            have e1 : ((j + 1 : Nat) : Int) - 1 = (j : Int) := by omega
            have e2 : IntKind.i64.wrap (p + 1) = p + 1 := IntWalk.i64_in _ ⟨by omega, by omega⟩
            have i3 : (j : Int) < (S.length : Int) := by omega
            have i4 : (0 : Int) < ((j + 1 : Nat) : Int) := by omega
            have d2 : decide (a ≤ p + 1) = false := by simp; omega
            have d3 : decide ((0 : Int) < ((j + 1 : Nat) : Int)) = true := decide_eq_true (by omega)
            clear hgap hgj hgood k3 k4
            go_wp2
            go_quiet (fail)
            go_wp2
            go_roundw
            case rel =>
              obtain ⟨q'', e⟩ := HNX.out nq
              exact ⟨j + 2, q'', by omega, by go_num, Lib.hid e⟩
            case measure => first | (simp [intOf]; done) | (simp [intOf]; omega)
        obtain rfl : k = S.length := by omega
        have HBQ : Hid (Below w1.heap.size w1 wr) := Lib.hid (by rw [HWQ.out]; exact below_drewN HB4.out q)
        have HPQ : Hid (Pairs wr wr.heap.size A3 S) := Lib.hid (by rw [HWQ.out]; exact HP4.out)
        by_cases hz1 : z < 1
        case pos =>
          go_wp2
          go_ret
          exact ⟨rfl, (HW.out wr HBQ.out).1⟩
        by_cases hz2 : 4294967295 < z
        case pos =>
          go_wp2
          go_ret
          exact ⟨rfl, (HW.out wr HBQ.out).1⟩
        have HOK : Hid (Sq.has S z z = fd) := Lib.hid (by
          rw [HS.out, Hfd.out]
          exact Sq.spans_has l z (by simp only [Sq.ok, Bool.and_eq_true, decide_eq_true_eq]; omega) (by omega))
        go_wp2_with fail
        refine (has_lit S z z fd HOK.out S.length rfl (by omega) A3 c3 wr HPQ.out).mono ?_
        rintro e w9 ⟨rfl, b⟩
        have HE := Lib.hid (HW.out w9 (HBQ.out.trans (b.mono HBQ.out.size))).1
        clear b
        go_wp2
        go_ret
        exact ⟨rfl, HE.out⟩
  case neg =>
    have hv : Sq.valid L = true := Sq.shown_ne L hs0
    have hne : s.data.toList ≠ [] := by rw [Hs.out]; exact hs0
    have q3 : (s.toList == []) = false := by
      rw [ByteArray.toList_eq]
      cases hd : s.data.toList with
      | nil => exact absurd hd hne
      | cons x r => rfl
    have HPL : Hid (Sq.parse s.data.toList = (L, 0)) := Lib.hid (by rw [Hs.out]; exact Sq.shown_back L hv)
    clear hne hs0 hv
    go_wp2_with fail
    refine (parse_lit s L 0 hzs HPL.out L.length rfl wt (HW.out wt HT.out).2.2.2.1).mono ?_
    rintro e v5 ⟨A5, c5, rfl, hc1, hc2, hp5, b⟩
    obtain ⟨w6, Hw6⟩ : ∃ W, Hid (W = v5.alloc (.cells #[.slice A5 L.length c5] 25)) := ⟨_, Lib.hid rfl⟩
    have hq : Below v5.heap.size v5 w6 := by rw [Hw6.out]; exact (Below.refl _ _).alloc (Nat.le_refl _) _
    have hx : Blk w6 v5.heap.size 25 #[.slice A5 L.length c5] := by rw [Hw6.out]; exact Blk.new _ _ _
    have HB6 : Hid (Below w1.heap.size w1 w6) := Lib.hid (HT.out.trans ((b.trans (hq.mono b.size)).mono HT.out.size))
    have HP6 : Hid (Pairs w6 w6.heap.size A5 L) := Lib.hid ((hp5.below hq (Nat.le_refl _)).mono hq.size)
    have HX6 : Hid (∀ W : World, Below w6.heap.size w6 W → W.cell? ⟨v5.heap.size, 0, none⟩ = some (.slice A5 L.length c5)) := Lib.hid (fun W hb => (hx.below hb hx.lt).cell 0 _ rfl)
    clear b hq hx hc1 hc2 hp5
    go_wp2
    rw [← Hw6.out]
    refine sqbk8 w0.heap.size v5.heap.size L.length c c5 A A5 (fun f R W => Below w6.heap.size w6 W ∧ (f 0 = true → ∃ A' c', R 0 = .agg #[.slice A' L.length c'] ∧ Pairs W W.heap.size A' L) ∧ (f 1 = true → R 1 = .bool true)) (by show 42 < 115; omega) rfl rfl rfl (fun f R W h => ⟨(HW.out W (HB6.out.trans (h.1.mono HB6.out.size))).2.2.2.2, HX6.out W h.1⟩) (fun f R W h => h.2.2) (fun f R W h h0 => ?_) (fun f R W h h0 h1 => ?_) ⟨(Below.refl _ _).drew, fun h => absurd h (by simp), fun h => absurd h (by simp)⟩ ?_
    · refine (own_any A L.length c L W rfl (by omega) (HW.out W (HB6.out.trans (h.1.mono HB6.out.size))).2.1).mono ?_
      rintro e w' ⟨A', c', rfl, _, _, hpp, hb⟩
      exact ⟨_, rfl, h.1.trans (hb.mono h.1.size), fun _ => ⟨A', c', setR_self .., hpp⟩, fun cc => by rw [setF_ne _ (by decide)] at cc; rw [setR_ne _ _ (by decide)]; exact h.2.2 cc⟩
    · obtain ⟨A', c', e0, hpp⟩ := h.2.1 h0
      rw [e0]
      refine (sets_same A5 A' L.length c5 c' L W rfl ((HP6.out.below h.1 (Nat.le_refl _)).mono h.1.size) hpp (by omega)).mono ?_
      rintro e w' ⟨rfl, hb⟩
      exact ⟨rfl, h.1.trans (hb.mono h.1.size), fun cc => ⟨A', c', by rw [setR_ne _ _ (by decide)]; exact e0, (hpp.below hb (Nat.le_refl _)).mono hb.size⟩, fun _ => setR_self ..⟩
    · intro af wt2 f hfr h42 hall hS
      have HT2 : Hid (Below w1.heap.size w1 wt2) := Lib.hid (HB6.out.trans (hS.1.mono HB6.out.size))
      clear hS hall HX6 HP6 HB6 HT
      have ha := hfr.eq (by intro t ht; simp at ht; show t < 115; omega)
      simp only [List.foldl_cons, List.foldl_nil] at ha
      clear hfr
      rw [h42] at ha
      clear h42
      generalize af.eval (.tmp 34) = u34 at ha
      generalize af.eval (.tmp 35) = u35 at ha
      generalize af.eval (.tmp 36) = u36 at ha
      generalize af.eval (.tmp 37) = u37 at ha
      generalize af.eval (.tmp 38) = u38 at ha
      generalize af.eval (.tmp 39) = u39 at ha
      generalize af.eval (.tmp 40) = u40 at ha
      generalize af.eval (.tmp 41) = u41 at ha
      subst ha
      simp only [Act.put, List.setIfInBounds_toArray, List.set_cons_zero, List.set_cons_succ]
      clear Hw6
      obtain ⟨wt3, Hwt⟩ : ∃ W, W = wt2 := ⟨_, rfl⟩
      rw [← Hwt] at HT2 ⊢
      clear Hwt
      have HT := HT2
      go_wp2
      go_loopw [10, 11] (fun b i wr => ∃ k : Nat, k ≤ l.length ∧ b = .bool (decide (z ∈ l.take k)) ∧ i = .int .i64 k ∧ Hid (wr = wt3)) (fun _ i _ => l.length - (intOf i).toNat)
      case atStart => exact ⟨0, Nat.zero_le _, by simp, rfl, Lib.hid rfl⟩
      case round =>
        obtain ⟨k, hk, rfl, rfl, HWR⟩ := hrel
        have HBR : Hid (Below w1.heap.size w1 wr) := Lib.hid (by rw [HWR.out]; exact HT.out)
        by_cases hlt : k < l.length
        case pos =>
          obtain ⟨bk, Hbk⟩ : ∃ bk, Hid (bk = decide (z ∈ l.take k)) := ⟨_, Lib.hid rfl⟩
          rw [← Hbk.out]
          obtain ⟨g, o, rfl, hg, y1⟩ := (HW.out wr HBR.out).2.2.1.at k hlt
          obtain ⟨x, Hx⟩ : ∃ x, Hid (x = l[k]) := ⟨_, Lib.hid rfl⟩
          rw [← Hx.out] at y1
          have i1 : (k : Int) < (l.length : Int) := by omega
          have i2 : (0 : Int) ≤ (k : Int) := by omega
          have HN : Hid (decide (z ∈ l.take (k + 1)) = (bk || (x == z))) := Lib.hid (by rw [take_mem l z k hlt, ← Hbk.out, ← Hx.out])
          cases bk with
          | true =>
            go_wp2
            exact ⟨⟨k + 1, by omega, by rw [HN.out]; rfl, by go_num, HWR⟩, by simp [intOf]; omega⟩
          | false =>
            go_wp2
            exact ⟨⟨k + 1, by omega, by rw [HN.out]; simp, by go_num, HWR⟩, by simp [intOf]; omega⟩
        obtain rfl : k = l.length := by omega
        obtain ⟨fd, Hfd⟩ : ∃ fd, Hid (fd = decide (z ∈ l)) := ⟨_, Lib.hid rfl⟩
        rw [List.take_length, ← Hfd.out]
        go_wp2_with fail
        obtain ⟨S, HS⟩ : ∃ S, Hid (S = Sq.spans l) := ⟨_, Lib.hid rfl⟩
        have hSl : S.length ≤ 60 := by rw [HS.out]; exact Nat.le_trans (Sq.spans_length l) h61
        refine (of_lit l S HS.out.symm S.length rfl l.length rfl h61 A2 c2 wr (HW.out wr HBR.out).2.2.1).mono ?_
        rintro e v3 ⟨A3, c3, rfl, hc1, hc2, hp3, b⟩
        obtain ⟨w4, Hw4⟩ : ∃ W, Hid (W = v3.alloc (.cells #[.slice A3 S.length c3] 25)) := ⟨_, Lib.hid rfl⟩
        have hq : Below v3.heap.size v3 w4 := by rw [Hw4.out]; exact (Below.refl _ _).alloc (Nat.le_refl _) _
        have hx : Blk w4 v3.heap.size 25 #[.slice A3 S.length c3] := by rw [Hw4.out]; exact Blk.new _ _ _
        have HB4 : Hid (Below w1.heap.size w1 w4) := Lib.hid (HBR.out.trans ((b.trans (hq.mono b.size)).mono HBR.out.size))
        have HP4 : Hid (Pairs w4 w4.heap.size A3 S) := Lib.hid ((hp3.below hq (Nat.le_refl _)).mono hq.size)
        have HX4 : Hid (w4.cell? ⟨v3.heap.size, 0, none⟩ = some (.slice A3 S.length c3)) := Lib.hid (hx.cell 0 _ rfl)
        clear b hq hx hc1 hc2 hp3
        go_wp2
        rw [← Hw4.out]
        obtain ⟨b4, Hb4⟩ : ∃ b, Hid (b = v3.heap.size) := ⟨_, Lib.hid rfl⟩
        rw [← Hb4.out] at HX4 ⊢
        clear HBR HWR
        go_loopw [13] (fun i wr => ∃ (k q : Nat), k ≤ S.length ∧ i = .int .i64 k ∧ Hid (wr = w4.drewN q)) (fun i _ => S.length - (intOf i).toNat)
        case atStart => exact ⟨0, 0, Nat.zero_le _, rfl, Lib.hid rfl⟩
        case round =>
          obtain ⟨k, q, hk, rfl, HWQ⟩ := hrel
          have z0 : wr.cell? ⟨b4, 0, none⟩ = some (.slice A3 S.length c3) := by rw [HWQ.out]; exact HX4.out
          have HNX : Hid (∀ q', ∃ q'', wr.drewN q' = w4.drewN q'') := Lib.hid (fun q' => ⟨q + q', by rw [HWQ.out]; simp [World.drewN, Nat.add_assoc]⟩)
          by_cases hlt : k < S.length
          case pos =>
            obtain ⟨g, o, rfl, hg, k1, k2⟩ := HP4.out.at k hlt
            obtain ⟨x, Hx⟩ : ∃ x, Hid (x = S[k]) := ⟨_, Lib.hid rfl⟩
            have hgood : 1 ≤ x.1 ∧ x.1 ≤ x.2 ∧ x.2 ≤ 4294967295 := by
              rw [Hx.out]
              have := spans_each l k (by rw [← HS.out]; exact hlt)
              simpa only [HS.out] using this
            rw [← Hx.out] at k1 k2
            obtain ⟨a, b⟩ := x
            simp only at k1 k2 hgood
            have y1 : wr.cell? ⟨g, o + k * 2, none⟩ = some (.int .i64 a) := by rw [HWQ.out]; exact k1
            have y2 : wr.cell? ⟨g, o + k * 2 + 1, none⟩ = some (.int .i64 b) := by rw [HWQ.out]; exact k2
            have i1 : (k : Int) < (S.length : Int) := by omega
            have i2 : (0 : Int) ≤ (k : Int) := by omega
            have d1 : decide (b < a) = false := by simp; omega
            clear k1 k2
            by_cases hkj : k = 0
            case pos =>
              have dz1 : decide (0 < k) = false := by simp [hkj]
              have dz2 : decide ((0 : Int) < (k : Int)) = false := by simp [hkj]
              have HK0 := Lib.hid hkj
              clear hgood hkj
              go_wp2
              go_quiet (fail)
              go_wp2
              go_roundw
              case rel =>
                obtain ⟨q'', e⟩ := HNX.out nq
                exact ⟨k + 1, q'', by omega, by go_num, Lib.hid e⟩
              case measure => simp [intOf]; omega
            case neg =>
              obtain ⟨j, rfl⟩ : ∃ j, k = j + 1 := ⟨k - 1, by omega⟩
              clear hkj
              obtain ⟨g', o', e', _, k3, k4⟩ := HP4.out.at j (by omega)
              injection e' with e'
              injection e' with eg eo _
              subst eg eo
              have hgap : S[j].2 + 1 < S[j + 1].1 := by
                have := spans_gap l j (by rw [← HS.out]; exact hlt)
                simpa only [HS.out] using this
              have hgj : 1 ≤ S[j].1 ∧ S[j].1 ≤ S[j].2 := by
                have := spans_each l j (by rw [← HS.out]; omega)
                simp only [HS.out]; exact ⟨this.1, this.2.1⟩
              rw [← Hx.out] at hgap
              obtain ⟨p, Hp⟩ : ∃ p, Hid (p = S[j].2) := ⟨_, Lib.hid rfl⟩
              rw [← Hp.out] at hgap hgj k4
              simp only at hgap
              have y4 : wr.cell? ⟨g, o + j * 2 + 1, none⟩ = some (.int .i64 p) := by rw [HWQ.out]; exact k4
              have e1 : ((j + 1 : Nat) : Int) - 1 = (j : Int) := by omega
              have e2 : IntKind.i64.wrap (p + 1) = p + 1 := IntWalk.i64_in _ ⟨by omega, by omega⟩
              have i3 : (j : Int) < (S.length : Int) := by omega
              have i4 : (0 : Int) < ((j + 1 : Nat) : Int) := by omega
              have d2 : decide (a ≤ p + 1) = false := by simp; omega
              have d3 : decide ((0 : Int) < ((j + 1 : Nat) : Int)) = true := decide_eq_true (by omega)
              clear hgap hgj hgood k3 k4
              go_wp2
              go_quiet (fail)
              go_wp2
              go_roundw
              case rel =>
                obtain ⟨q'', e⟩ := HNX.out nq
                exact ⟨j + 2, q'', by omega, by go_num, Lib.hid e⟩
              case measure => first | (simp [intOf]; done) | (simp [intOf]; omega)
          obtain rfl : k = S.length := by omega
          have HBQ : Hid (Below w1.heap.size w1 wr) := Lib.hid (by rw [HWQ.out]; exact below_drewN HB4.out q)
          have HPQ : Hid (Pairs wr wr.heap.size A3 S) := Lib.hid (by rw [HWQ.out]; exact HP4.out)
          by_cases hz1 : z < 1
          case pos =>
            go_wp2
            go_ret
            exact ⟨rfl, (HW.out wr HBQ.out).1⟩
          by_cases hz2 : 4294967295 < z
          case pos =>
            go_wp2
            go_ret
            exact ⟨rfl, (HW.out wr HBQ.out).1⟩
          have HOK : Hid (Sq.has S z z = fd) := Lib.hid (by
            rw [HS.out, Hfd.out]
            exact Sq.spans_has l z (by simp only [Sq.ok, Bool.and_eq_true, decide_eq_true_eq]; omega) (by omega))
          go_wp2_with fail
          refine (has_lit S z z fd HOK.out S.length rfl (by omega) A3 c3 wr HPQ.out).mono ?_
          rintro e w9 ⟨rfl, b⟩
          have HE := Lib.hid (HW.out w9 (HBQ.out.trans (b.mono HBQ.out.size))).1
          clear b
          go_wp2
          go_ret
          exact ⟨rfl, HE.out⟩
end Go.Proofs.YtmcglecdidnhlaaDoor
