/- The walks of the log's Base, All, Done. -/
import Derived.Test.YtambddncncaehaaDoorWalSpace
import Derived.Test.YtambddncncaehaaDoorWalUse
namespace Go.Proofs.YtambddncncaehaaDoor
open Go.RowKit Dk Wl
set_option linter.unusedVariables false
set_option maxRecDepth 100000

section
variable {w : World} {G : List Nat} {d l sz half used : Nat} {tl base : List UInt8} {recs : List (List UInt8)} {dn : Bool}
theorem done_any (h : LogI w G l d sz half used tl base recs dn) : Calls Tryd.prog 16 #[.pointer (some ⟨l, 0, none⟩)] w fun e w' => e = .returned (.bool dn) ∧ w = w' := by
  obtain ⟨q0, q1, q2, q3, q7⟩ := h.cells
  clear h q0 q1 q2 q3
  go_enter Tryd.func16, Tryd.ntmps16
  go_wp2
  go_ret
  exact ⟨rfl, rfl⟩
theorem base_any (h : LogI w G l d sz half used tl base recs dn) (hb : base.length ≤ 140737488355328) : Calls Tryd.prog 18 #[.pointer (some ⟨l, 0, none⟩)] w fun e w' => ∃ A c, e = .returned (.slice A base.length c) ∧ Sees w' w'.heap.size A base ∧ base.length ≤ c ∧ c ≤ maxLen ∧ Below w.heap.size w w' := by
  obtain ⟨A, c, q5, h1, h2, h3⟩ := h.baseAt
  have HCL := Lib.hid (clone_opt A base.length c base w.heap.size w rfl hb h3)
  clear h h1 h2 h3
  go_enter Tryd.func18, Tryd.ntmps18
  go_wp2_with fail
  refine HCL.out.mono ?_
  rintro e w' ⟨A', c', rfl, k1, k2, k3, k4, k5⟩
  have HK := Lib.hid (⟨A', c', rfl, k1.sees, k2, k3, k4⟩ : ∃ A c, (Ending.returned (.slice A' base.length c')) = .returned (.slice A base.length c) ∧ Sees w' w'.heap.size A base ∧ base.length ≤ c ∧ c ≤ maxLen ∧ Below w.heap.size w w')
  clear k1 k2 k3 k4 k5
  go_wp2
  go_ret
  exact HK.out
end
/-- What All ends in. -/
def AllEnd (recs : List (List UInt8)) (w : World) (e : Ending) (w' : World) : Prop :=
  ∃ A c, e = .returned (.slice A recs.length c) ∧ Grid w' w'.heap.size A recs ∧ recs.length ≤ c ∧ c ≤ maxLen ∧ Below w.heap.size w w'
theorem all_end {w w' : World} {g n : Nat} {recs : List (List UInt8)} {us : List Value} (hn : n = recs.length) (hrow : w'.ownsRow 0 31 1 (.slice (some ⟨g, 0, none⟩) n n) n us) (hp : Parts w' 0 5 us recs) (hb : Below w.heap.size w w') (hm : n ≤ maxLen) :
    AllEnd recs w (.returned (.slice (some ⟨g, 0, none⟩) n n)) w' := by
  subst hn
  refine ⟨_, _, rfl, fun hne => ?_, Nat.le_refl _, hm, hb⟩
  have hpos := List.length_pos_iff.2 hne
  obtain ⟨g', c', e, _, hg, _⟩ := own_form hrow hpos
  injection e with e1 _ _
  injection e1 with e1
  injection e1 with e1 _ _
  subst e1
  refine ⟨g, 0, rfl, hg, fun j hj => ?_⟩
  have hul : us.length = recs.length := hp.1
  obtain ⟨A', c2, e2, h1, h2, h3⟩ := hp.views.2 j (us[j]'(by omega)) recs[j] (List.getElem?_eq_getElem _) (List.getElem?_eq_getElem hj)
  have hc := hrow.cellAt j (by omega)
  rw [List.getElem?_eq_getElem (by omega), e2] at hc
  exact ⟨A', c2, by rw [Nat.zero_add]; exact hc, h1, h2, h3⟩

set_option maxHeartbeats 1600000 in
set_option maxRecDepth 100000 in
theorem all_any {w : World} {G : List Nat} {d l sz half used : Nat} {tl base : List UInt8} {recs : List (List UInt8)} {dn : Bool} (h : LogI w G l d sz half used tl base recs dn) (hrl : recs.length ≤ 1000000) (hbl : ∀ b ∈ recs, b.length ≤ 200000) :
    Calls Tryd.prog 14 #[.pointer (some ⟨l, 0, none⟩)] w (AllEnd recs w) := by
  obtain ⟨A, c, vs, q6, h1, h2, hrow, hparts⟩ := h.recsAt
  obtain ⟨i0, hi, hz0, hz1, hz2⟩ := info_parts Tryd.infoBs
  obtain ⟨w2, hmk, hown2, hg2⟩ := run_make_full (P := Tryd.prog) (w := w) 0 33 31 i0 _ 1 Tryd.underlying33 hi hz0 hz1 .i64 .i64 recs.length (by rw [hz2]; omega) (by unfold maxLen; omega) (Nat.zero_le _)
  rw [show (Value.slice none 0 0).cells = #[Value.slice none 0 0] from rfl, toList_madeCells_one, Nat.mul_one] at hown2
  have hb2 : Below w.heap.size w w2 := (Below.refl _ _).grown hg2 (Nat.le_refl _) (fun k hk => by cases hk)
  have hll : l < w.heap.size := World.block_lt_of_cell? w _ q6
  have k6 : w2.cell? ⟨l, 6, none⟩ = some (.slice A recs.length c) := (hb2.cell (p := ⟨l, 6, none⟩) hll).trans q6
  have HROW := Lib.hid hrow
  have HP := Lib.hid hparts
  have HBL := Lib.hid hbl
  have HI : Hid (∃ us, w2.ownsRow 0 31 1 (.slice (some ⟨w.heap.size, 0, none⟩) recs.length recs.length) recs.length us ∧ Parts w2 0 5 (us.take 0) (recs.take 0) ∧ Below w.heap.size w w2) := Lib.hid ⟨_, hown2, Parts.nil _ _ _, hb2⟩
  have hrI : (recs.length : Int) ≤ 1000000 := by omega
  unfold maxLen at h2
  clear h hrow hparts hbl hown2 hg2 hb2 hi hz0 hz1 hz2
  go_enter Tryd.func14, Tryd.ntmps14
  go_wp2
  go_loopw [17] (fun i wr => ∃ k : Nat, k ≤ recs.length ∧ i = .int .i64 k ∧ ∃ us, wr.ownsRow 0 31 1 (.slice (some ⟨w.heap.size, 0, none⟩) recs.length recs.length) recs.length us ∧ Parts wr 0 5 (us.take k) (recs.take k) ∧ Below w.heap.size w wr) (fun i _ => recs.length - (intOf i).toNat)
  case atStart => exact ⟨0, Nat.zero_le _, rfl, HI.out⟩
  case round =>
    obtain ⟨k, hk, rfl, us, hown, hp, hb⟩ := hrel
    by_cases hlt : k < recs.length
    · obtain ⟨g, c', e, _, hg, _⟩ := own_form HROW.out (by omega)
      injection e with e1 e2 e3
      subst e1; subst e3
      have hvl : vs.length = recs.length := HP.out.1
      obtain ⟨A1, c1, e1, m1, m2, m3⟩ := HP.out.views.2 k (vs[k]'(by omega)) recs[k] (List.getElem?_eq_getElem _) (List.getElem?_eq_getElem hlt)
      have hcell := HROW.out.cellAt k (by omega)
      rw [List.getElem?_eq_getElem (by omega), e1] at hcell
      have hcell2 := (hb.cell (p := ⟨g, k, none⟩) hg).trans hcell
      obtain ⟨r, Hr⟩ : ∃ r, Hid (r = recs[k]) := ⟨_, Lib.hid rfl⟩
      have hrl2 : r.length ≤ 200000 := by rw [Hr.out]; exact HBL.out _ (List.getElem_mem hlt)
      rw [← Hr.out] at hcell2 m3 m1
      have HCL := Lib.hid (clone_opt A1 r.length c1 r w.heap.size wr rfl (by omega) (m3.below hb (Nat.le_refl _)))
      have HOWN := Lib.hid hown
      have HPA := Lib.hid hp
      have HB := Lib.hid hb
      have hul : us.length = recs.length := by have := hown.1; simpa using this
      have HUL := Lib.hid hul
      clear hown hp hb hcell e1 m1 m2 m3 e2 hul
      go_wp2_with fail
      refine HCL.out.mono ?_
      rintro e w3 ⟨A3, c3, rfl, n1, n2, n3, n4, n5⟩
      have hown3 := own_below HOWN.out n4 (Nat.le_refl _)
      have hst := (hown3.stored k (.slice A3 r.length c3)).1
      have hp3 : Parts w3 0 5 (us.take k ++ [.slice A3 r.length c3]) (recs.take k ++ [r]) := (HPA.out.below n4).snoc n1
      have hne : ∀ v l', BRow w3 v l' → Apart (blk v) [w.heap.size] := fun v l' hv x hx hm => by
        rw [List.mem_singleton] at hm
        subst hm
        rcases own_own_ne hv hown3 (by decide) with e | e
        · have := mem_blk.1 hx; rw [e] at this; cases this
        · exact e (mem_blk.1 hx)
      have ho := only_setCell w3 ⟨w.heap.size, k, none⟩ (.slice A3 r.length c3)
      have hp4 : Parts (w3.setCell ⟨w.heap.size, k, none⟩ (.slice A3 r.length c3)) 0 5 (us.take k ++ [.slice A3 r.length c3]) (recs.take k ++ [r]) := hp3.only ho (fun v hv x hx => by
        obtain ⟨i, hi, e⟩ := List.mem_iff_getElem.1 hv
        have hi' : i < (recs.take k ++ [r]).length := by rw [← hp3.1]; exact hi
        exact hne v _ (hp3.2 i v _ (by rw [List.getElem?_eq_getElem hi, e]) (List.getElem?_eq_getElem hi')) x (mem_blk.2 hx))
      have e1 : (us.set k (.slice A3 r.length c3)).take (k + 1) = us.take k ++ [.slice A3 r.length c3] := by
        rw [List.take_succ_eq_append_getElem (by rw [List.length_set, HUL.out]; exact hlt), List.getElem_set_self, List.take_set_of_le (Nat.le_refl _)]
      have e2 : recs.take (k + 1) = recs.take k ++ [r] := by rw [List.take_succ_eq_append_getElem hlt, Hr.out]
      have hcx : w3.cell? ⟨w.heap.size, k, none⟩ = some (us[k]'(by rw [HUL.out]; exact hlt)) := by
        have := hown3.cellAt k (by omega)
        rwa [List.getElem?_eq_getElem (by rw [HUL.out]; exact hlt)] at this
      have hfx := hown3.frozenAt k
      have HK := Lib.hid (show ∃ us, (w3.setCell ⟨w.heap.size, k, none⟩ (.slice A3 r.length c3)).ownsRow 0 31 1 (.slice (some ⟨w.heap.size, 0, none⟩) recs.length recs.length) recs.length us ∧ Parts (w3.setCell ⟨w.heap.size, k, none⟩ (.slice A3 r.length c3)) 0 5 (us.take (k + 1)) (recs.take (k + 1)) ∧ Below w.heap.size w (w3.setCell ⟨w.heap.size, k, none⟩ (.slice A3 r.length c3)) from
        ⟨us.set k (.slice A3 r.length c3), hst, by rw [e1, e2]; exact hp4, (HB.out.trans (n4.mono HB.out.size)).setCell (Nat.le_refl _) _⟩)
      clear hown3 hst hp3 hne ho hp4 e1 e2 n1 n2 n3 n4 n5
      go_wp2
      go_roundw
      case rel => exact ⟨k + 1, by omega, by go_num, HK.out⟩
      case measure => simp [intOf]; omega
    · obtain rfl : k = recs.length := by omega
      have hul : us.length = recs.length := by have := hown.1; simpa using this
      rw [List.take_of_length_le (by omega), List.take_of_length_le (Nat.le_refl _)] at hp
      have HK := Lib.hid (all_end rfl hown hp hb (by unfold maxLen; omega))
      clear hown hp hb
      go_wp2
      go_ret
      exact HK.out
end Go.Proofs.YtambddncncaehaaDoor
