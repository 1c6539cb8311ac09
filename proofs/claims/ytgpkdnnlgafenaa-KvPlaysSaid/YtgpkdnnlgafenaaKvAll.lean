/- Whether all Puts may be committed. -/
import Derived.Test.YtgpkdnnlgafenaaKvArg
import Derived.LoopTactic
namespace Go.Proofs.Ytgpkdnnlgafenaa
open Go.RowKit Kv
set_option linter.unusedVariables false

theorem Puts.at {w : World} {N : Nat} {X : List Nat} {A : Option Addr} {l : List Pt} (h : Puts w N X A l) (k : Nat) (hk : k < l.length) :
    ∃ g o A' c', A = some ⟨g, o, none⟩ ∧ g < N ∧ w.cell? ⟨g, o + k * 3, none⟩ = some (.string l[k].k) ∧ w.cell? ⟨g, o + k * 3 + 1, none⟩ = some (.slice A' l[k].v.length c') ∧ w.cell? ⟨g, o + k * 3 + 2, none⟩ = some (.bool l[k].g) ∧ l[k].v.length ≤ c' ∧ c' ≤ maxLen ∧ SeesX w N X A' l[k].v := by
  obtain ⟨g, o, e, h1, h2, h3⟩ := h (by intro e; simp [e] at hk)
  obtain ⟨k1, ⟨A', c', k2, k3, k4, k5⟩, k6⟩ := h3 k hk
  exact ⟨g, o, A', c', e, h1, k1, k2, k6, k3, k4, k5⟩
theorem may_take (l : List Pt) (k : Nat) (hk : k < l.length) : may (l.take (k + 1)) = (may (l.take k) && ok1 l[k]) := by
  rw [List.take_succ_eq_append_getElem hk, may_append]; simp [may]

set_option maxHeartbeats 800000 in
theorem all_may (A : Option Addr) (n c : Nat) (l : List Pt) (X : List Nat) (w : World) (hn : n = l.length) (hm : n ≤ maxLen) (hp : Puts w w.heap.size X A l) (hk : ∀ x ∈ l, x.k.size ≤ maxLen) (B : Bool) (hB : B = may l) :
    Calls Try.prog 28 #[.slice A n c] w fun e w' => e = .returned (.bool B) ∧ Below w.heap.size w w' := by
  subst hn
  unfold maxLen at hm
  have HP := Lib.hid hp
  have HB := Lib.hid hB
  have HK := Lib.hid hk
  clear hp hB hk
  obtain ⟨w0, rfl⟩ : ∃ w0, w0 = w := ⟨_, rfl⟩
  go_enter Try.func28, Try.ntmps28
  go_wp2_with fail
  go_loopw [7] (fun i wr => ∃ k : Nat, k ≤ l.length ∧ i = .int .i64 k ∧ Below w0.heap.size w0 wr ∧ Hid (may (l.take k) = true)) (fun i _ => l.length - (intOf i).toNat)
  case atStart => exact ⟨0, Nat.zero_le _, rfl, Below.refl _ _, Lib.hid (by simp [may])⟩
  case round =>
    obtain ⟨k, hk, rfl, hb, HM⟩ := hrel
    have HBW := Lib.hid hb
    by_cases hlt : k < l.length
    · have hpw := (HP.out.below hb (Nat.le_refl _))
      obtain ⟨g, o, A', c', rfl, hg, k1, k2, k3, k4, k5, k6⟩ := hpw.at k hlt
      have hgw : g < wr.heap.size := by have := hb.size; omega
      have hso := may_take l k hlt
      obtain ⟨x, Hx⟩ : ∃ x, Hid (x = l[k]) := ⟨_, Lib.hid rfl⟩
      rw [← Hx.out] at k1 k2 k3 k4 k6 hso
      have hx : x ∈ l := by rw [Hx.out]; exact List.getElem_mem hlt
      obtain ⟨kk, v, gg⟩ := x
      simp only at k1 k2 k3 k4 k6
      have hca := fun W b hb => allowed_any kk A' v.length c' gg v W rfl (by omega) (HK.out _ hx) b hb
      have HC := Lib.hid hca
      rw [HM.out, Bool.true_and] at hso
      have HSO := Lib.hid hso
      clear hca hso hpw hb k4 k5 k6 hx
      cases ho : ok1 ⟨kk, v, gg⟩ with
      | true =>
        have HC1 := Lib.hid (fun W => HC.out W true ho.symm)
        have HM2 : Hid (may (l.take (k + 1)) = true) := Lib.hid (by rw [HSO.out, ho])
        clear ho
        go_wp2_with fail
        refine (HC1.out _).mono ?_
        rintro e w2 ⟨rfl, hb2⟩
        have hb3 : Below w0.heap.size w0 w2 := HBW.out.trans (((Below.refl w0.heap.size wr).alloc HBW.out.size _).trans (hb2.mono (by have := HBW.out.size; simp; omega)))
        have HB3 := Lib.hid hb3
        clear hb2 hb3 k1 k2 k3
        go_wp2
        go_roundw
        case rel => exact ⟨k + 1, by omega, by go_num, HB3.out, HM2⟩
        case measure => simp [intOf]; omega
      | false =>
        have HC1 := Lib.hid (fun W => HC.out W false ho.symm)
        have hBf : B = false := by
          rw [HB.out]
          unfold may
          rw [List.all_eq_false]
          exact ⟨_, List.getElem_mem hlt, by rw [← Hx.out, ho]; simp⟩
        subst hBf
        clear ho
        go_wp2_with fail
        refine (HC1.out _).mono ?_
        rintro e w2 ⟨rfl, hb2⟩
        have hb3 : Below w0.heap.size w0 w2 := HBW.out.trans (((Below.refl w0.heap.size wr).alloc HBW.out.size _).trans (hb2.mono (by have := HBW.out.size; simp; omega)))
        have HB3 := Lib.hid hb3
        clear hb2 hb3 k1 k2 k3
        go_wp2
        go_ret
        exact ⟨rfl, HB3.out⟩
    · obtain rfl : k = l.length := by omega
      have hBt : B = true := by rw [HB.out, ← HM.out, List.take_length]
      subst hBt
      clear hb
      go_wp2
      go_ret
      exact ⟨rfl, HBW.out⟩
end Go.Proofs.Ytgpkdnnlgafenaa
