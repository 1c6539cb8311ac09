/- seq's numberOf, valid, has, Has: the walks. -/
import Derived.Test.YtmcglecdidnhlaaDoorSqMem
namespace Go.Proofs.YtmcglecdidnhlaaDoor
open Go.RowKit
set_option linter.unusedVariables false
set_option maxRecDepth 100000

theorem nof_any (n last : Int) (w : World) : Calls Tryd.prog 38 #[.int .i64 n, .int .i64 last] w fun e w' => e = .returned (.int .i64 (Sq.nof n last)) ∧ w' = w := by
  by_cases h : n = 0
  · subst h
    go_enter Tryd.func38, Tryd.ntmps38
    go_wp2
    go_ret
    exact ⟨rfl, rfl⟩
  · have e : Sq.nof n last = n := by unfold Sq.nof; rw [if_neg h]
    rw [e]
    have h1 : (n == 0) = false := by simpa using h
    clear h e
    go_enter Tryd.func38, Tryd.ntmps38
    go_wp2
    go_ret
    exact ⟨rfl, rfl⟩

theorem good_lt (a b : Int) (h : Sq.good1 (a, b) = true) : decide (min a b < 0) = false ∧ decide (4294967295 < max a b) = false := by
  rw [Sq.good1_iff] at h
  simp only at h
  simp
  omega
theorem bad_lt (a b : Int) (h : Sq.good1 (a, b) = false) : decide (min a b < 0) = true ∨ decide (min a b < 0) = false ∧ decide (4294967295 < max a b) = true := by
  have h' : ¬ (0 ≤ a ∧ 0 ≤ b ∧ a ≤ 4294967295 ∧ b ≤ 4294967295) := fun hh => by
    have := (Sq.good1_iff (a, b)).2 hh
    rw [h] at this; cases this
  by_cases hm : min a b < 0
  · exact .inl (by simpa using hm)
  · exact .inr ⟨by simpa using hm, by simp; omega⟩

set_option maxHeartbeats 800000 in
theorem valid_any (A : Option Addr) (n c : Nat) (L : List (Int × Int)) (w : World) (hn : n = L.length) (hm : n ≤ maxLen) (hp : Pairs w w.heap.size A L) (B : Bool) (hB : B = Sq.valid L) :
    Calls Tryd.prog 25 #[.agg #[.slice A n c]] w fun e w' => e = .returned (.bool B) ∧ Below w.heap.size w w' := by
  subst hn
  unfold maxLen at hm
  have HP := Lib.hid hp
  have HB := Lib.hid hB
  clear hp hB
  obtain ⟨w0, rfl⟩ : ∃ w0, w0 = w := ⟨_, rfl⟩
  have H0 : Hid (Below w0.heap.size w0 (w0.alloc (.cells #[.slice A L.length c] 25))) := Lib.hid ((Below.refl _ _).alloc (Nat.le_refl _) _)
  by_cases h0 : L.length = 0
  · have e1 : B = false := by rw [HB.out]; unfold Sq.valid; rw [h0]; rfl
    subst e1
    have h1 : ((L.length : Int) == 0) = true := by simp; exact List.eq_nil_of_length_eq_zero h0
    clear h0
    go_enter Tryd.func25, Tryd.ntmps25
    go_wp2
    go_ret
    exact ⟨rfl, H0.out⟩
  · have h1 : ((L.length : Int) == 0) = false := by simp; exact fun e => h0 (by simp [e])
    by_cases h2 : 100 < L.length
    · have e1 : B = false := by rw [HB.out]; unfold Sq.valid; rw [decide_eq_false (p := L.length ≤ 100) (by omega)]; simp
      subst e1
      have h3 : decide ((100 : Int) < L.length) = true := by simp; omega
      clear h2 h0
      go_enter Tryd.func25, Tryd.ntmps25
      go_wp2
      go_ret
      exact ⟨rfl, H0.out⟩
    · have hv : B = L.all Sq.good1 := by rw [HB.out]; unfold Sq.valid; rw [decide_eq_true (p := 1 ≤ L.length) (by omega), decide_eq_true (p := L.length ≤ 100) (by omega)]; simp
      have HV := Lib.hid hv
      have h3 : decide ((100 : Int) < L.length) = false := by simp; omega
      clear hv h2 HB
      go_enter Tryd.func25, Tryd.ntmps25
      go_wp2
      clear h1 h3 h0
      go_loopw [18] (fun i wr => ∃ k : Nat, k ≤ L.length ∧ i = .int .i64 k ∧ Below w0.heap.size w0 wr ∧ Hid ((L.take k).all Sq.good1 = true)) (fun i _ => L.length - (intOf i).toNat)
      case atStart => exact ⟨0, Nat.zero_le _, rfl, H0.out, Lib.hid (by simp)⟩
      case round =>
        obtain ⟨k, hk, rfl, hb, HM⟩ := hrel
        have HBW := Lib.hid hb
        have hwz := hb.size
        by_cases hlt : k < L.length
        · obtain ⟨g, o, rfl, hg, k1, k2⟩ := (HP.out.below hb (Nat.le_refl _)).at k hlt
          have hgw : g < wr.heap.size := by omega
          have hso : (L.take (k + 1)).all Sq.good1 = ((L.take k).all Sq.good1 && Sq.good1 L[k]) := by rw [List.take_succ_eq_append_getElem hlt, List.all_append]; simp
          obtain ⟨x, Hx⟩ : ∃ x, Hid (x = L[k]) := ⟨_, Lib.hid rfl⟩
          rw [← Hx.out] at k1 k2 hso
          obtain ⟨a, b⟩ := x
          simp only at k1 k2
          rw [HM.out, Bool.true_and] at hso
          have HSO := Lib.hid hso
          clear hso hb
          cases ho : Sq.good1 (a, b) with
          | true =>
            obtain ⟨q1, q2⟩ := good_lt a b ho
            have HM2 : Hid ((L.take (k + 1)).all Sq.good1 = true) := Lib.hid (by rw [HSO.out, ho])
            clear ho
            go_wp2
            go_roundw
            case rel => exact ⟨k + 1, by omega, by go_num, (HBW.out.alloc hwz _), HM2⟩
            case measure => simp [intOf]; omega
          | false =>
            have hBf : B = false := by
              rw [HV.out, List.all_eq_false]
              exact ⟨_, List.getElem_mem hlt, by rw [← Hx.out, ho]; simp⟩
            subst hBf
            rcases bad_lt a b ho with q1 | ⟨q1, q2⟩
            · clear ho
              go_wp2
              go_ret
              exact ⟨rfl, HBW.out.alloc hwz _⟩
            · clear ho
              go_wp2
              go_ret
              exact ⟨rfl, HBW.out.alloc hwz _⟩
        · obtain rfl : k = L.length := by omega
          have hBt : B = true := by rw [HV.out, ← HM.out, List.take_length]
          subst hBt
          clear hb
          go_wp2
          go_ret
          exact ⟨rfl, HBW.out⟩
end Go.Proofs.YtmcglecdidnhlaaDoor
