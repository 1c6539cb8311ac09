/- SeqSays: the walk. -/
import Derived.Test.YtmcglecdidnhlaaDoorSqAwake
import Derived.Test.YtmcglecdidnhlaaDoorSqSame
import Derived.Test.YtmcglecdidnhlaaDoorSqSy7
import Derived.Test.YtmcglecdidnhlaaDoorSqLen
import Derived.Test.YtmcglecdidnhlaaDoorSqRAll
import Derived.Test.YtmcglecdidnhlaaDoorSqRSet
namespace Go.Proofs.YtmcglecdidnhlaaDoor
open Go.RowKit
set_option linter.unusedVariables false
set_option maxRecDepth 100000

theorem parse_few (l : List UInt8) : (Sq.parse l).1.length ≤ 100 := by
  unfold Sq.parse Sq.ended
  split
  · simp
  · split
    · simp
    · dsimp only; omega
theorem pick_few (L : List (Int × Int)) (l : List Int) : (Sq.pick L l).length ≤ l.length := by
  unfold Sq.pick
  split
  · exact List.length_filter_le _ _
  · simp
/-- What the region's calls hand back, each by its number. -/
def SyAt (L S : List (Int × Int)) (q : List Int) (sh : ByteArray) (B : Bool) (k : Nat) (v : Value) (W : World) : Prop :=
  (k = 0 ∨ k = 10 ∨ k = 13 → v = .bool true) ∧ (k = 1 ∨ k = 3 → v = .string sh) ∧ (k = 4 ∨ k = 6 → v = .bool B) ∧ (k = 2 ∨ k = 5 ∨ k = 8 → SetAt W v L) ∧ (k = 7 ∨ k = 9 → ListAt W v q) ∧ (k = 11 ∨ k = 12 → SetAt W v S)
section
variable {L S : List (Int × Int)} {q : List Int} {sh : ByteArray} {B : Bool} {k : Nat} {v : Value} {W W' : World}
theorem SyAt.below (h : SyAt L S q sh B k v W) (hb : Below W.heap.size W W') : SyAt L S q sh B k v W' := by
  obtain ⟨h1, h2, h3, h4, h5, h6⟩ := h
  exact ⟨h1, h2, h3, fun c => (h4 c).below hb, fun c => by
    obtain ⟨A, c, e, k1, k2, k3⟩ := h5 c
    exact ⟨A, c, e, k1, k2, (k3.below hb (Nat.le_refl _)).mono hb.size⟩, fun c => (h6 c).below hb⟩
def SyS (w6 : World) (L S : List (Int × Int)) (q : List Int) (sh : ByteArray) (B : Bool) (p : Nat) (R : Nat → Value) (W : World) : Prop := Below w6.heap.size w6 W ∧ ∀ k, k < p → SyAt L S q sh B k (R k) W
theorem SyS.next {w6 : World} {R : Nat → Value} (h : SyS w6 L S q sh B k R W) (hb : Below W.heap.size W W') (hv : SyAt L S q sh B k v W') : SyS w6 L S q sh B (k + 1) (setR R k v) W' := by
  refine ⟨h.1.trans (hb.mono h.1.size), fun j hj => ?_⟩
  by_cases e : j = k
  · subst e; rw [setR_self]; exact hv
  · rw [setR_ne _ _ e]; exact (h.2 j (by omega)).below hb
theorem sy_true (h : k = 0 ∨ k = 10 ∨ k = 13) : SyAt L S q sh B k (.bool true) W := ⟨fun _ => rfl, fun c => by omega, fun c => by omega, fun c => by omega, fun c => by omega, fun c => by omega⟩
theorem sy_str (h : k = 1 ∨ k = 3) (e : v = .string sh) : SyAt L S q sh B k v W := ⟨fun c => by omega, fun _ => e, fun c => by omega, fun c => by omega, fun c => by omega, fun c => by omega⟩
theorem sy_has (h : k = 4 ∨ k = 6) : SyAt L S q sh B k (.bool B) W := ⟨fun c => by omega, fun c => by omega, fun _ => rfl, fun c => by omega, fun c => by omega, fun c => by omega⟩
theorem sy_set (h : k = 2 ∨ k = 5 ∨ k = 8) (e : SetAt W v L) : SyAt L S q sh B k v W := ⟨fun c => by omega, fun c => by omega, fun c => by omega, fun _ => e, fun c => by omega, fun c => by omega⟩
theorem sy_list (h : k = 7 ∨ k = 9) (e : ListAt W v q) : SyAt L S q sh B k v W := ⟨fun c => by omega, fun c => by omega, fun c => by omega, fun c => by omega, fun _ => e, fun c => by omega⟩
theorem sy_of (h : k = 11 ∨ k = 12) (e : SetAt W v S) : SyAt L S q sh B k v W := ⟨fun c => by omega, fun c => by omega, fun c => by omega, fun c => by omega, fun c => by omega, fun _ => e⟩
end

set_option maxHeartbeats 6400000 in
theorem seqSays_walk (s : ByteArray) (hs : s.size ≤ maxLen) (A : Option Addr) (n c : Nat) (L : List (Int × Int)) (hn : n = L.length) (hc : n ≤ c) (hcm : c ≤ maxLen) (x : Int) (wx : (Lit.int .i64 x).wf = true) (y : Int) (wy : (Lit.int .i64 y).wf = true) (A2 : Option Addr) (n2 c2 : Nat) (l : List Int) (hn2 : n2 = l.length) (hc2 : n2 ≤ c2) (hcm2 : c2 ≤ maxLen) (w : World) (hp : Pairs w w.heap.size A L) (hp2 : Ints w w.heap.size A2 l) (hw : SW w) :
    Calls Tryd.prog 4 #[.string s, .agg #[.slice A n c], .int .i64 x, .int .i64 y, .slice A2 n2 c2] w fun e w' => e = .returned (.bool true) ∧ Below w.heap.size w w' := by
  subst hn hn2
  have HC2 := Lib.hid hc2
  clear wx wy hc hcm hc2 hcm2 hs
  obtain ⟨w0, rfl⟩ : ∃ w0, w0 = w := ⟨_, rfl⟩
  obtain ⟨w1, Hw1⟩ : ∃ w1, Hid (w1 = w0.alloc (.cells #[.slice A L.length c] 25)) := ⟨_, Lib.hid rfl⟩
  have hb1 : Below w0.heap.size w0 w1 := by rw [Hw1.out]; exact (Below.refl _ w0).alloc (Nat.le_refl _) _
  have hx1 : Blk w1 w0.heap.size 25 #[.slice A L.length c] := by rw [Hw1.out]; exact Blk.new w0 _ _
  have HW : Hid (∀ W : World, Below w1.heap.size w1 W → Below w0.heap.size w0 W ∧ Pairs W W.heap.size A L ∧ Ints W W.heap.size A2 l ∧ SW W ∧ W.cell? ⟨w0.heap.size, 0, none⟩ = some (.slice A L.length c)) := Lib.hid (fun W hb => by
    have h0 := hb1.trans (hb.mono hb1.size)
    exact ⟨h0, (hp.below h0 (Nat.le_refl _)).mono h0.size, (hp2.below h0 (Nat.le_refl _)).mono h0.size, hw.below h0, (hx1.below hb hx1.lt).cell 0 _ rfl⟩)
  clear hp hp2 hw hb1 hx1
  go_enter Tryd.func4, Tryd.ntmps4
  go_wp2_with fail
  rw [← Hw1.out]
  refine (awake_any w1 (HW.out w1 (Below.refl _ _)).2.2.2.1).mono ?_
  rintro e w2 ⟨rfl, hb2⟩
  have HB2 := Lib.hid hb2
  have z0 := (HW.out w2 hb2).2.2.2.2
  clear hb2
  by_cases h59 : s.size ≤ 400
  case neg =>
    have b1 : (400 : Int) < (s.size : Int) := by omega
    have b2 : 400 < s.size := by omega
    go_wp2
    go_ret
    exact ⟨rfl, (HW.out w2 HB2.out).1⟩
  have b5 : ¬ (400 : Int) < (s.size : Int) := by omega
  have b6 : ¬ 400 < s.size := by omega
  by_cases h60 : L.length ≤ 110
  case neg =>
    have b1 : (110 : Int) < (L.length : Int) := by omega
    have b2 : 110 < L.length := by omega
    go_wp2
    go_ret
    exact ⟨rfl, (HW.out w2 HB2.out).1⟩
  have b1 : ¬ (110 : Int) < (L.length : Int) := by omega
  have b2 : ¬ 110 < L.length := by omega
  by_cases h61 : l.length ≤ 60
  case neg =>
    have b3 : (60 : Int) < (l.length : Int) := by omega
    have b4 : 60 < l.length := by omega
    go_wp2
    go_ret
    exact ⟨rfl, (HW.out w2 HB2.out).1⟩
  have b3 : ¬ (60 : Int) < (l.length : Int) := by omega
  have b4 : ¬ 60 < l.length := by omega
  go_wp2_with fail
  have hmx : L.length ≤ maxLen := by unfold maxLen; omega
  obtain ⟨P, HP⟩ : ∃ P, Hid (P = (Sq.parse s.data.toList).1) := ⟨_, Lib.hid rfl⟩
  obtain ⟨en, HE⟩ : ∃ en, Hid (en = (Sq.parse s.data.toList).2) := ⟨_, Lib.hid rfl⟩
  have hP100 : P.length ≤ 100 := by rw [HP.out]; exact parse_few _
  have hs6 : s.size ≤ 1000000 := by omega
  refine (parse_lit s P en hs6 (by rw [HP.out, HE.out]) P.length rfl w2 (HW.out w2 HB2.out).2.2.2.1).mono ?_
  rintro e v3 ⟨A3, c3, rfl, hc1, hc3, hp3, b⟩
  obtain ⟨w4, Hw4⟩ : ∃ W, Hid (W = v3.alloc (.cells #[.slice A3 P.length c3] 25)) := ⟨_, Lib.hid rfl⟩
  have hq : Below v3.heap.size v3 w4 := by rw [Hw4.out]; exact (Below.refl _ _).alloc (Nat.le_refl _) _
  have hx : Blk w4 v3.heap.size 25 #[.slice A3 P.length c3] := by rw [Hw4.out]; exact Blk.new _ _ _
  have HB4 : Hid (Below w1.heap.size w1 w4) := Lib.hid (HB2.out.trans ((b.trans (hq.mono b.size)).mono HB2.out.size))
  have HX4 : Hid (∀ W : World, Below w4.heap.size w4 W → Pairs W W.heap.size A3 P ∧ W.cell? ⟨v3.heap.size, 0, none⟩ = some (.slice A3 P.length c3)) := Lib.hid (fun W hb => ⟨((hp3.below hq (Nat.le_refl _)).below hb hq.size).mono (Nat.le_trans hq.size hb.size), (hx.below hb hx.lt).cell 0 _ rfl⟩)
  clear b hq hx hc1 hc3 hp3 z0
  go_wp2_with fail
  rw [← Hw4.out]
  refine (rparse_any s w4 hs6).mono ?_
  rintro e v5 ⟨v, rfl, ⟨A5, c5, rfl, hc1, hc3, hp5⟩, b⟩
  rw [← HP.out] at hp5 ⊢
  rw [← HE.out]
  obtain ⟨w6, Hw6⟩ : ∃ W, Hid (W = v5.alloc (.cells #[.slice A5 P.length c5] 37)) := ⟨_, Lib.hid rfl⟩
  have hq : Below v5.heap.size v5 w6 := by rw [Hw6.out]; exact (Below.refl _ _).alloc (Nat.le_refl _) _
  have hx : Blk w6 v5.heap.size 37 #[.slice A5 P.length c5] := by rw [Hw6.out]; exact Blk.new _ _ _
  have HC : Hid (∀ W : World, Below w6.heap.size w6 W → (Below w0.heap.size w0 W ∧ Pairs W W.heap.size A L ∧ Ints W W.heap.size A2 l ∧ SW W ∧ Pairs W W.heap.size A3 P ∧ Pairs W W.heap.size A5 P) ∧ W.cell? ⟨w0.heap.size, 0, none⟩ = some (.slice A L.length c) ∧ W.cell? ⟨v3.heap.size, 0, none⟩ = some (.slice A3 P.length c3) ∧ W.cell? ⟨v5.heap.size, 0, none⟩ = some (.slice A5 P.length c5)) := Lib.hid (fun W hb => by
    have h4 : Below w4.heap.size w4 W := (b.trans (hq.mono b.size)).trans (hb.mono (Nat.le_trans b.size hq.size))
    have k1 := HW.out W (HB4.out.trans (h4.mono HB4.out.size))
    have k4 := HX4.out W h4
    exact ⟨⟨k1.1, k1.2.1, k1.2.2.1, k1.2.2.2.1, k4.1, ((hp5.below hq (Nat.le_refl _)).below hb hq.size).mono (Nat.le_trans hq.size hb.size)⟩, k1.2.2.2.2, k4.2, (hx.below hb hx.lt).cell 0 _ rfl⟩)
  clear b hq hx hc1 hc3 hp5 HX4 HB4
  go_wp2
  rw [← Hw6.out]
  obtain ⟨S, HS⟩ : ∃ S, Hid (S = Sq.spans l) := ⟨_, Lib.hid rfl⟩
  obtain ⟨q, HQ⟩ : ∃ q, Hid (q = Sq.pick L l) := ⟨_, Lib.hid rfl⟩
  obtain ⟨B, HB⟩ : ∃ B, Hid (B = Sq.has L x y) := ⟨_, Lib.hid rfl⟩
  obtain ⟨sh, HSH⟩ : ∃ sh : ByteArray, Hid (sh = ⟨(Sq.shown L).toArray⟩) := ⟨_, Lib.hid rfl⟩
  have hS60 : S.length ≤ 60 := by rw [HS.out]; exact Nat.le_trans (Sq.spans_length l) h61
  have hq60 : q.length ≤ 60 := by rw [HQ.out]; exact Nat.le_trans (pick_few L l) h61
  have own := fun (k : Nat) (hk : k = 2 ∨ k = 5 ∨ k = 8) (R : Nat → Value) (W : World) (h : SyS w6 L S q sh B k R W) => (own_any A L.length c L W rfl (by omega) (HC.out W h.1).1.2.1).mono (R' := fun e w' => ∃ v, e = .returned v ∧ SyS w6 L S q sh B (k + 1) (setR R k v) w') (fun e w' he => by
    obtain ⟨A', c', rfl, k1, k2, hpp, hb⟩ := he
    exact ⟨_, rfl, h.next hb (sy_set hk ⟨A', c', rfl, k1, k2, hpp⟩)⟩)
  refine sqsy7 w0.heap.size v3.heap.size v5.heap.size L.length c P.length c3 P.length c5 l.length c2 A A3 A5 A2 x y en sh B (SyS w6 L S q sh B) (by show 85 < 86; omega) rfl rfl rfl rfl rfl rfl rfl rfl (fun p R W h => (HC.out W h.1).2) (fun p R W h k hk => ⟨(h.2 k hk).1, (h.2 k hk).2.1, (h.2 k hk).2.2.1⟩) ?_ ?_ (own 2 (by decide)) ?_ ?_ (own 5 (by decide)) ?_ ?_ (own 8 (by decide)) ?_ ?_ ?_ ?_ ?_ ⟨(Below.refl _ _).drew, fun k hk => absurd hk (by omega)⟩ ?_
  · intro R W h
    have g := (HC.out W h.1).1
    refine (sets_same A3 A5 P.length c3 c5 P W rfl g.2.2.2.2.1 g.2.2.2.2.2 (by omega)).mono ?_
    rintro e w' ⟨rfl, hb⟩
    exact ⟨_, rfl, h.next hb (sy_true (by decide))⟩
  · intro R W h
    have g := (HC.out W h.1).1
    refine (show_any A L.length c L W rfl hmx g.2.1 g.2.2.2.1).mono ?_
    rintro e w' ⟨rfl, hb⟩
    exact ⟨_, rfl, h.next hb (sy_str (by decide) (by rw [HSH.out]))⟩
  · intro R W h
    obtain ⟨A', c', e0, k1, k2, hpp⟩ := (h.2 2 (by decide)).2.2.2.1 (by decide)
    rw [e0]
    refine (rshow_any A' L.length c' L W rfl hmx hpp).mono ?_
    rintro e w' ⟨rfl, hb⟩
    exact ⟨_, rfl, h.next hb (sy_str (by decide) (by rw [HSH.out]))⟩
  · intro R W h
    have g := (HC.out W h.1).1
    refine (has_any A L.length c L x y W rfl hmx g.2.1 B HB.out).mono ?_
    rintro e w' ⟨rfl, hb⟩
    exact ⟨_, rfl, h.next hb (sy_has (by decide))⟩
  · intro R W h
    obtain ⟨A', c', e0, k1, k2, hpp⟩ := (h.2 5 (by decide)).2.2.2.1 (by decide)
    rw [e0]
    refine (rhas_any A' L.length c' L x y W rfl hmx hpp B HB.out).mono ?_
    rintro e w' ⟨rfl, hb⟩
    exact ⟨_, rfl, h.next hb (sy_has (by decide))⟩
  · intro R W h
    have g := (HC.out W h.1).1
    refine (pick_any A L.length c L A2 l.length c2 l W rfl hmx rfl h61 g.2.1 g.2.2.1).mono ?_
    rintro e w' ⟨A', c', rfl, k1, k2, k3, hb⟩
    rw [← HQ.out] at k1 k3 ⊢
    exact ⟨_, rfl, h.next hb (sy_list (by decide) ⟨A', c', rfl, k1, k2, k3⟩)⟩
  · intro R W h
    obtain ⟨A', c', e0, k1, k2, hpp⟩ := (h.2 8 (by decide)).2.2.2.1 (by decide)
    rw [e0]
    have g := (HC.out W h.1).1
    refine (rpick_any A' L.length c' L A2 l.length c2 l W rfl hmx rfl h61 hpp g.2.2.1).mono ?_
    rintro e w' ⟨A', c', rfl, k1, k2, k3, hb⟩
    rw [← HQ.out] at k1 k3 ⊢
    exact ⟨_, rfl, h.next hb (sy_list (by decide) ⟨A', c', rfl, k1, k2, k3⟩)⟩
  · intro R W h
    obtain ⟨A7, c7, e7, _, _, k7⟩ := (h.2 7 (by decide)).2.2.2.2.1 (by decide)
    obtain ⟨A9, c9, e9, _, _, k9⟩ := (h.2 9 (by decide)).2.2.2.2.1 (by decide)
    rw [e7, e9]
    refine (longs_same A7 A9 q.length c7 c9 q W rfl k7 k9 (by omega)).mono ?_
    rintro e w' ⟨rfl, hb⟩
    exact ⟨_, rfl, h.next hb (sy_true (by decide))⟩
  · intro R W h
    have g := (HC.out W h.1).1
    refine (of_any A2 l.length c2 l W rfl h61 g.2.2.1).mono ?_
    rintro e w' ⟨v, rfl, hv, hb⟩
    rw [← HS.out] at hv
    exact ⟨_, rfl, h.next hb (sy_of (by decide) hv)⟩
  · intro R W h
    have g := (HC.out W h.1).1
    refine (rof_any A2 l.length c2 l W rfl h61 g.2.2.1 HC2.out).mono ?_
    rintro e w' ⟨v, rfl, hv, hb⟩
    rw [← HS.out] at hv
    exact ⟨_, rfl, h.next hb (sy_of (by decide) hv)⟩
  · intro R W h
    obtain ⟨A7, c7, e7, _, _, k7⟩ := (h.2 11 (by decide)).2.2.2.2.2 (by decide)
    obtain ⟨A9, c9, e9, _, _, k9⟩ := (h.2 12 (by decide)).2.2.2.2.2 (by decide)
    rw [e7, e9]
    refine (sets_same A7 A9 S.length c7 c9 S W rfl k7 k9 (by omega)).mono ?_
    rintro e w' ⟨rfl, hb⟩
    exact ⟨_, rfl, h.next hb (sy_true (by decide))⟩
  · intro af wN hfr h10 hS
    have HE9 : Hid (Below w0.heap.size w0 wN) := Lib.hid (HC.out wN hS.1).1.1
    clear hS
    have ha := hfr.eq (by intro t ht; simp at ht; show t < 86; omega)
    simp only [List.foldl_cons, List.foldl_nil] at ha
    clear hfr
    rw [h10] at ha
    clear h10
    generalize af.eval (.tmp 41) = u41 at ha
    generalize af.eval (.tmp 42) = u42 at ha
    generalize af.eval (.tmp 43) = u43 at ha
    generalize af.eval (.tmp 44) = u44 at ha
    generalize af.eval (.tmp 45) = u45 at ha
    generalize af.eval (.tmp 46) = u46 at ha
    generalize af.eval (.tmp 47) = u47 at ha
    generalize af.eval (.tmp 48) = u48 at ha
    generalize af.eval (.tmp 49) = u49 at ha
    generalize af.eval (.tmp 50) = u50 at ha
    generalize af.eval (.tmp 51) = u51 at ha
    generalize af.eval (.tmp 52) = u52 at ha
    generalize af.eval (.tmp 53) = u53 at ha
    generalize af.eval (.tmp 54) = u54 at ha
    generalize af.eval (.tmp 55) = u55 at ha
    generalize af.eval (.tmp 56) = u56 at ha
    generalize af.eval (.tmp 57) = u57 at ha
    generalize af.eval (.tmp 58) = u58 at ha
    generalize af.eval (.tmp 59) = u59 at ha
    generalize af.eval (.tmp 60) = u60 at ha
    generalize af.eval (.tmp 61) = u61 at ha
    generalize af.eval (.tmp 62) = u62 at ha
    generalize af.eval (.tmp 63) = u63 at ha
    generalize af.eval (.tmp 64) = u64 at ha
    generalize af.eval (.tmp 65) = u65 at ha
    generalize af.eval (.tmp 66) = u66 at ha
    generalize af.eval (.tmp 67) = u67 at ha
    generalize af.eval (.tmp 68) = u68 at ha
    generalize af.eval (.tmp 69) = u69 at ha
    generalize af.eval (.tmp 70) = u70 at ha
    generalize af.eval (.tmp 71) = u71 at ha
    generalize af.eval (.tmp 72) = u72 at ha
    generalize af.eval (.tmp 73) = u73 at ha
    generalize af.eval (.tmp 74) = u74 at ha
    generalize af.eval (.tmp 75) = u75 at ha
    generalize af.eval (.tmp 76) = u76 at ha
    generalize af.eval (.tmp 77) = u77 at ha
    generalize af.eval (.tmp 78) = u78 at ha
    generalize af.eval (.tmp 79) = u79 at ha
    generalize af.eval (.tmp 80) = u80 at ha
    generalize af.eval (.tmp 81) = u81 at ha
    generalize af.eval (.tmp 82) = u82 at ha
    generalize af.eval (.tmp 83) = u83 at ha
    generalize af.eval (.tmp 84) = u84 at ha
    generalize af.eval (.tmp 85) = u85 at ha
    subst ha
    simp only [Act.put, List.setIfInBounds_toArray, List.set_cons_zero, List.set_cons_succ]
    go_wp2
    go_ret
    exact ⟨rfl, HE9.out⟩
end Go.Proofs.YtmcglecdidnhlaaDoor
