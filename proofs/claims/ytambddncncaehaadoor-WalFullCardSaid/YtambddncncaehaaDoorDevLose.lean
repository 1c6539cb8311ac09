/- The walk of package dev's loseCache. -/
import Derived.Test.YtambddncncaehaaDoorDevRead
import Derived.Outline
namespace Go.Proofs.YtambddncncaehaaDoor
open Go.RowKit Dk
set_option linter.unusedVariables false

def LoseEnd (w : World) (d sb cap : Nat) (dur last : List ByteArray) (cache : List Wr) (off : Bool) (calls : Nat) (vk : Value) (tn : Int) (e : Ending) (w' : World) : Prop :=
  e = .returned (.tuple #[]) ∧ DevC w' d sb cap dur (copyTo last dur cache cache.length) (.slice none 0 0) [] off calls vk tn ∧ Only [d, sb] w w'

set_option maxHeartbeats 1000000 in
set_option maxRecDepth 100000 in
theorem lose_any {w : World} {d sb cap : Nat} {dur last : List ByteArray} {vc : Value} {cache : List Wr} {off : Bool} {calls : Nat} {vk : Value} {tn : Int} (h : DevC w d sb cap dur last vc cache off calls vk tn) (hc : ∀ w ∈ cache, w.1 < dur.length) :
    Calls Tryd.prog 30 #[.pointer (some ⟨d, 0, none⟩)] w (LoseEnd w d sb cap dur last cache off calls vk tn) := by
  obtain ⟨A, c, rfl, hc1, hc2⟩ := h.cacheShape
  obtain ⟨c0, c1, _⟩ := h.cells
  have HC := Lib.hid hc
  have HH := Lib.hid h
  have HM := Lib.hid hc2
  unfold maxLen at hc2
  clear h hc c0
  go_enter Tryd.func30, Tryd.ntmps30
  go_wp2
  go_loopw [10] (fun i wr => ∃ k : Nat, k ≤ cache.length ∧ i = .int .i64 k ∧ DevC wr d sb cap dur (copyTo last dur cache k) (.slice A cache.length c) cache off calls vk tn ∧ Only [d, sb] w wr) (fun i _ => cache.length - (intOf i).toNat)
  case atStart => exact ⟨0, Nat.zero_le _, rfl, HH.out, Only.refl _ _⟩
  case round =>
    obtain ⟨k, hk, rfl, hd, ho⟩ := hrel
    clear c1
    by_cases hlt : k < cache.length
    · obtain ⟨cb, c', e, _, _⟩ := hd.cacheForm (by omega)
      injection e with e1 e2 e3
      subst e1; subst e3
      clear e2
      have hat := HC.out cache[k] (List.getElem_mem hlt)
      obtain ⟨f1, f2⟩ := hd.cacheFst k hlt
      have g1 := hd.secFst cache[k].1 hat
      obtain ⟨old, g2⟩ : ∃ x, wr.cell? ⟨sb, cache[k].1 * 2 + 1, none⟩ = some (.string x) := ⟨_, hd.secSnd cache[k].1 hat⟩
      obtain ⟨c0, _⟩ := hd.cells
      have fr := hd.secFree (cache[k].1 * 2 + 1)
      obtain ⟨s0, s1, s2⟩ := hd.slt
      have dl := hd.dlt
      obtain ⟨at_, HA⟩ : ∃ x, Hid (x = cache[k].1) := ⟨_, Lib.hid rfl⟩
      obtain ⟨s, HS⟩ : ∃ x, Hid (x = dur[cache[k].1]) := ⟨_, Lib.hid rfl⟩
      have HG : Hid (copyTo last dur cache (k + 1) = (copyTo last dur cache k).set at_ s) := Lib.hid (by
        rw [HA.out, HS.out, copyTo_succ _ _ _ _ hlt]; simp [List.getD, List.getElem?_eq_getElem hat])
      rw [← HS.out] at g1
      rw [← HA.out] at f1 g1 g2 fr hat
      unfold maxLen at s2
      have HD := Lib.hid hd
      have HO := Lib.hid ho
      clear hd ho
      go_wp2
      go_quiet (fail)
      go_wp2
      go_roundw
      case rel =>
        refine ⟨k + 1, by omega, by go_num, ?_, ?_⟩
        · rw [HG.out]
          exact (HD.out.step _ _).putSnd at_ s
        · exact ((HO.out.alloc _).drewN _).setCell (.inl (by simp)) _
      case measure => simp [intOf]; omega
    · have hkn : k = cache.length := by omega
      subst hkn
      obtain ⟨_, c1, _⟩ := hd.cells
      have fr := hd.free 1
      have key : LoseEnd w d sb cap dur last cache off calls vk tn (.returned (.tuple #[])) (wr.setCell ⟨d, 1, none⟩ (.slice none 0 0)) :=
        ⟨rfl, hd.put1 _ [] (World.ownsRow_nil _ _ _ _), ho.setCell (.inl (by simp)) _⟩
      have HK := Lib.hid key
      clear hd ho key hlt
      go_wp2
      go_end0
      exact HK.out
end Go.Proofs.YtambddncncaehaaDoor
