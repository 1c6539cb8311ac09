/- seq's has, Has: the walks. -/
import Derived.Test.YtmcglecdidnhlaaDoorSqVal
import Derived.Deep.QuietTactic
import Derived.BigQuiet
import Derived.IntWalk
namespace Go.Proofs.YtmcglecdidnhlaaDoor
open Go.RowKit
set_option linter.unusedVariables false
set_option maxRecDepth 100000

set_option maxHeartbeats 800000 in
theorem hasV_any (A : Option Addr) (m c : Nat) (L : List (Int × Int)) (n last : Int) (w : World) (hn : m = L.length) (hm : m ≤ maxLen) (hp : Pairs w w.heap.size A L) (B : Bool) (hB : B = Sq.hasV L n last) :
    Calls Tryd.prog 27 #[.agg #[.slice A m c], .int .i64 n, .int .i64 last] w fun e w' => e = .returned (.bool B) ∧ Below w.heap.size w w' := by
  subst hn
  unfold maxLen at hm
  have HP := Lib.hid hp
  have HB := Lib.hid hB
  clear hp hB
  obtain ⟨w0, rfl⟩ : ∃ w0, w0 = w := ⟨_, rfl⟩
  have H0 : Hid (Below w0.heap.size w0 (w0.alloc (.cells #[.slice A L.length c] 25))) := Lib.hid ((Below.refl _ _).alloc (Nat.le_refl _) _)
  by_cases h0 : n < 1
  · have e1 : B = false := by rw [HB.out]; unfold Sq.hasV; rw [decide_eq_false (p := 1 ≤ n) (by omega)]; simp
    subst e1
    have h1 : decide (n < 1) = true := by simpa using h0
    clear h0
    go_enter Tryd.func27, Tryd.ntmps27
    go_wp2
    go_ret
    exact ⟨rfl, H0.out⟩
  · have h1 : decide (n < 1) = false := by simpa using h0
    have hv : B = L.any (Sq.hit n last) := by rw [HB.out]; unfold Sq.hasV; rw [decide_eq_true (p := 1 ≤ n) (by omega)]; simp
    have HV := Lib.hid hv
    have HNF : Hid (∀ a, ∀ W, Calls Tryd.prog 38 #[.int .i64 a, .int .i64 last] W fun e w' => e = .returned (.int .i64 (Sq.nof a last)) ∧ w' = W) := Lib.hid (fun a W => nof_any a last W)
    clear hv h0 HB
    go_enter Tryd.func27, Tryd.ntmps27
    go_wp2
    clear h1
    go_loopw [16] (fun i wr => ∃ k : Nat, k ≤ L.length ∧ i = .int .i64 k ∧ Below w0.heap.size w0 wr ∧ Hid ((L.take k).any (Sq.hit n last) = false)) (fun i _ => L.length - (intOf i).toNat)
    case atStart => exact ⟨0, Nat.zero_le _, rfl, H0.out, Lib.hid (by simp)⟩
    case round =>
      obtain ⟨k, hk, rfl, hb, HM⟩ := hrel
      have HBW := Lib.hid hb
      have hwz := hb.size
      by_cases hlt : k < L.length
      · obtain ⟨g, o, rfl, hg, k1, k2⟩ := (HP.out.below hb (Nat.le_refl _)).at k hlt
        have hgw : g < wr.heap.size := by omega
        have hso : (L.take (k + 1)).any (Sq.hit n last) = ((L.take k).any (Sq.hit n last) || Sq.hit n last L[k]) := by rw [List.take_succ_eq_append_getElem hlt, List.any_append]; simp
        obtain ⟨x, Hx⟩ : ∃ x, Hid (x = L[k]) := ⟨_, Lib.hid rfl⟩
        rw [← Hx.out] at k1 k2 hso
        obtain ⟨a, b⟩ := x
        simp only at k1 k2
        rw [HM.out, Bool.false_or] at hso
        have hho : Sq.hit n last (a, b) = (decide (min (Sq.nof a last) (Sq.nof b last) ≤ n) && decide (n ≤ max (Sq.nof a last) (Sq.nof b last))) := rfl
        have HHO := Lib.hid hho
        have HSO := Lib.hid hso
        clear hso hb hho
        have hn1 := HNF.out a
        have hn2 := HNF.out b
        obtain ⟨a', Ha⟩ : ∃ a', Hid (a' = Sq.nof a last) := ⟨_, Lib.hid rfl⟩
        obtain ⟨b', Hb⟩ : ∃ b', Hid (b' = Sq.nof b last) := ⟨_, Lib.hid rfl⟩
        rw [← Ha.out] at hn1
        rw [← Hb.out] at hn2
        have HN1 := Lib.hid hn1
        have HN2 := Lib.hid hn2
        have hho := HHO.out
        rw [← Ha.out, ← Hb.out] at hho
        have HHO2 := Lib.hid hho
        have hwh : ∀ q o, Below w0.heap.size w0 ((wr.alloc o).drewN q) := fun q o => below_drewN (HBW.out.alloc hwz o) q
        have HWH := Lib.hid hwh
        clear hn1 hn2 HHO hho hwh
        go_wp2
        go_quiet ((first | (go_at_call 38; exact Calls.quiet_of_same (HN1.out _)) | (go_at_call 38; exact Calls.quiet_of_same (HN2.out _))))
        cases ho : Sq.hit n last (a, b) with
        | true =>
          have h2 := HHO2.out
          rw [ho] at h2
          have h3 := h2.symm
          rw [Bool.and_eq_true] at h3
          obtain ⟨q1, q2⟩ := h3
          have hBf : B = true := by
            rw [HV.out, List.any_eq_true]
            exact ⟨_, List.getElem_mem hlt, by rw [← Hx.out, ho]⟩
          subst hBf
          clear ho h2
          go_wp2
          go_ret
          exact ⟨rfl, HWH.out _ _⟩
        | false =>
          have HM2 : Hid ((L.take (k + 1)).any (Sq.hit n last) = false) := Lib.hid (by rw [HSO.out, ho])
          have h2 := HHO2.out
          rw [ho] at h2
          have h3 := h2.symm
          rw [Bool.and_eq_false_iff] at h3
          clear ho h2
          by_cases q1 : decide (min a' b' ≤ n) = false
          · clear h3
            go_wp2
            go_roundw
            case rel => exact ⟨k + 1, by omega, by go_num, HWH.out _ _, HM2⟩
            case measure => simp [intOf]; omega
          · have q2 : decide (n ≤ max a' b') = false := h3.resolve_left q1
            have q3 : decide (min a' b' ≤ n) = true := by simpa using q1
            clear h3 q1
            go_wp2
            go_roundw
            case rel => exact ⟨k + 1, by omega, by go_num, HWH.out _ _, HM2⟩
            case measure => simp [intOf]; omega
      · obtain rfl : k = L.length := by omega
        have hBt : B = false := by rw [HV.out, ← HM.out, List.take_length]
        subst hBt
        clear hb
        go_wp2
        go_ret
        exact ⟨rfl, HBW.out⟩

/-- Has. -/
theorem has_any (A : Option Addr) (m c : Nat) (L : List (Int × Int)) (n last : Int) (w : World) (hn : m = L.length) (hm : m ≤ maxLen) (hp : Pairs w w.heap.size A L) (B : Bool) (hB : B = Sq.has L n last) :
    Calls Tryd.prog 12 #[.agg #[.slice A m c], .int .i64 n, .int .i64 last] w fun e w' => e = .returned (.bool B) ∧ Below w.heap.size w w' := by
  subst hn
  obtain ⟨V, HV⟩ : ∃ V, Hid (V = Sq.valid L) := ⟨_, Lib.hid rfl⟩
  have HB := Lib.hid hB
  have HC := Lib.hid (fun W (hb : Below w.heap.size w W) => valid_any A L.length c L W rfl hm ((hp.below hb (Nat.le_refl _)).mono hb.size) V HV.out)
  have HD := Lib.hid (fun W (hb : Below w.heap.size w W) => hasV_any A L.length c L n last W rfl hm ((hp.below hb (Nat.le_refl _)).mono hb.size) _ rfl)
  have H0 : Hid (∀ o, Below w.heap.size w (w.alloc o)) := Lib.hid (fun o => (Below.refl _ _).alloc (Nat.le_refl _) o)
  clear hp hm hB
  cases V with
  | false =>
    have e1 : B = false := by rw [HB.out]; unfold Sq.has; rw [← HV.out]; rfl
    subst e1
    go_enter Tryd.func12, Tryd.ntmps12
    go_wp2_with fail
    refine (HC.out _ (H0.out _)).mono ?_
    rintro e w1 ⟨rfl, hb1⟩
    have HB1 := Lib.hid ((H0.out _).trans (hb1.mono (by simp)))
    clear hb1
    go_wp2
    go_ret
    exact ⟨rfl, HB1.out⟩
  | true =>
    have e1 : B = Sq.hasV L n last := by rw [HB.out]; unfold Sq.has; rw [← HV.out]; rfl
    subst e1
    go_enter Tryd.func12, Tryd.ntmps12
    go_wp2_with fail
    refine (HC.out _ (H0.out _)).mono ?_
    rintro e w1 ⟨rfl, hb1⟩
    have HB1 := Lib.hid ((H0.out _).trans (hb1.mono (by simp)))
    have hc := hb1.cell (p := ⟨w.heap.size, 0, none⟩) (by simp)
    rw [World.cell?_alloc_at _ _ _ _ rfl] at hc
    have hc' : w1.cell? ⟨w.heap.size, 0, none⟩ = some (.slice A L.length c) := hc
    clear hb1 hc
    go_wp2_with fail
    refine (HD.out _ HB1.out).mono ?_
    rintro e w2 ⟨rfl, hb2⟩
    have HB2 := Lib.hid (HB1.out.trans (hb2.mono HB1.out.size))
    clear hb2
    go_wp2
    go_ret
    exact ⟨rfl, HB2.out⟩
end Go.Proofs.YtmcglecdidnhlaaDoor
