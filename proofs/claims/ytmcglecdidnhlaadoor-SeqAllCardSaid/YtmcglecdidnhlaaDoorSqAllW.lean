/- SeqAll: the walk. -/
import Derived.Test.YtmcglecdidnhlaaDoorSqAwake
import Derived.Test.YtmcglecdidnhlaaDoorSqSame
namespace Go.Proofs.YtmcglecdidnhlaaDoor
open Go.RowKit
set_option linter.unusedVariables false
set_option maxRecDepth 100000

set_option maxHeartbeats 3200000 in
theorem seqAll_walk (A : Option Addr) (n c : Nat) (l : List Int) (hn : n = l.length) (hc : n ≤ c) (hcm : c ≤ maxLen) (w : World) (hp : Ints w w.heap.size A l) (hw : SW w) :
    Calls Tryd.prog 7 #[.slice A n c] w fun e w' => e = .returned (.bool true) ∧ Below w.heap.size w w' := by
  subst hn
  have HS := Lib.hid (And.intro hp hw)
  have HA := Lib.hid (fun W (hb : Below w.heap.size w W) => And.intro (And.intro ((hp.below hb (Nat.le_refl _)).mono hb.size) (hw.below hb)) hb)
  clear hp hw hc hcm
  go_enter Tryd.func7, Tryd.ntmps7
  go_wp2_with fail
  refine (awake_any w HS.out.2).mono ?_
  rintro e w1 ⟨rfl, hb1⟩
  have HB1 := Lib.hid hb1
  clear hb1
  by_cases h60 : l.length ≤ 60
  case neg =>
    have b1 : (l.length : Int) > 60 := by omega
    have b2 : 60 < l.length := by omega
    go_wp2
    go_ret
    exact ⟨rfl, HB1.out⟩
  have b1 : ¬ (60 : Int) < (l.length : Int) := by omega
  have b2 : ¬ 60 < l.length := by omega
  go_wp2
  go_loopw [3] (fun i wr => ∃ (k q : Nat), k ≤ l.length ∧ i = .int .i64 k ∧ wr = w1.drewN q ∧ ∀ j (h : j < l.length), j < k → 1 ≤ l[j] ∧ l[j] ≤ 4294967295) (fun i _ => l.length - (intOf i).toNat)
  case atStart => exact ⟨0, 0, Nat.zero_le _, rfl, rfl, fun j _ h => by omega⟩
  case round =>
    obtain ⟨k, q, hk, rfl, hwr, hall⟩ := hrel
    have HALL := Lib.hid hall
    clear hall
    have HBW : Hid (Below w.heap.size w wr) := Lib.hid (by rw [hwr]; exact below_drewN HB1.out q)
    have HNX : Hid (∀ q', ∃ q'', wr.drewN q' = w1.drewN q'') := Lib.hid (fun q' => ⟨q + q', by rw [hwr]; simp [World.drewN, Nat.add_assoc]⟩)
    by_cases hlt : k < l.length
    · obtain ⟨g, o, rfl, hg, y1⟩ := (HA.out wr HBW.out).1.1.at k hlt
      obtain ⟨x, Hx⟩ : ∃ x, Hid (x = l[k]) := ⟨_, Lib.hid rfl⟩
      rw [← Hx.out] at y1
      have i1 : (k : Int) < (l.length : Int) := by omega
      have i2 : (0 : Int) ≤ (k : Int) := by omega
      clear hwr
      by_cases hx1 : x < 1
      · go_wp2
        go_ret
        exact ⟨rfl, HBW.out⟩
      by_cases hx2 : 4294967295 < x
      · go_wp2
        go_ret
        exact ⟨rfl, HBW.out⟩
      have HX : Hid (1 ≤ x ∧ x ≤ 4294967295) := Lib.hid ⟨by omega, by omega⟩
      go_wp2
      obtain ⟨q'', e⟩ := HNX.out 0
      refine ⟨⟨k + 1, q'', by omega, by go_num, e, fun j h hj => ?_⟩, by simp [intOf]; omega⟩
      by_cases hjk : j < k
      · exact HALL.out j h hjk
      · obtain rfl : j = k := by omega
        rw [← Hx.out]; exact HX.out
    · obtain rfl : k = l.length := by omega
      have HM : Hid (∀ x ∈ l, 1 ≤ x ∧ x ≤ 4294967295) := Lib.hid (fun x hx => by
        obtain ⟨j, hj, rfl⟩ := List.getElem_of_mem hx
        exact HALL.out j hj hj)
      clear hwr HALL
      go_wp2_with fail
      refine (parse_lit ⟨#[49, 58, 42]⟩ _ _ (by decide) Sq.a1 1 rfl _ (HA.out _ HBW.out).1.2).mono ?_
      rintro e w2 ⟨A2, c2, rfl, hc1, hc2, hp2, hb2⟩
      obtain ⟨w3, Hw3⟩ : ∃ w3, Hid (w3 = w2.alloc (.cells #[.slice A2 1 c2] 25)) := ⟨_, Lib.hid rfl⟩
      have hb23 : Below w2.heap.size w2 w3 := by rw [Hw3.out]; exact (Below.refl _ _).alloc (Nat.le_refl _) _
      have HB3 : Hid (Below w.heap.size w w3) := Lib.hid (HBW.out.trans ((hb2.trans (hb23.mono hb2.size)).mono HBW.out.size))
      have HP3 : Hid (Pairs w3 w3.heap.size A2 [(1, 0)]) := Lib.hid ((hp2.below hb23 (Nat.le_refl _)).mono hb23.size)
      have hx3 : Blk w3 w2.heap.size 25 #[.slice A2 1 c2] := by rw [Hw3.out]; exact Blk.new w2 _ _
      have y3 := hx3.cell 0 _ rfl
      clear hc1 hc2 hp2 hb2 hb23 hx3
      go_wp2_with fail
      rw [← Hw3.out]
      refine (pick_lit _ l l (Sq.pick_all l HM.out) 1 rfl (by decide) l.length l.length rfl h60 rfl A2 A c2 c w3 HP3.out (HA.out w3 HB3.out).1.1).mono ?_
      rintro e w4 ⟨A4, c4, rfl, h41, h42, h43, hb4⟩
      have HB4 : Hid (Below w.heap.size w w4) := Lib.hid (HB3.out.trans (hb4.mono HB3.out.size))
      have HP4 := Lib.hid h43
      clear h41 h42 h43 hb4
      go_wp2_with fail
      refine (longs_same A4 A l.length c4 c l w4 rfl HP4.out (HA.out w4 HB4.out).1.1 (by omega)).mono ?_
      rintro e w5 ⟨rfl, hb5⟩
      go_wp2
      go_ret
      exact ⟨rfl, HB4.out.trans (hb5.mono HB4.out.size)⟩
end Go.Proofs.YtmcglecdidnhlaaDoor
