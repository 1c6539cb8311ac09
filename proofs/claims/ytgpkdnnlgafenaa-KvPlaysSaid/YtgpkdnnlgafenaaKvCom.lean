/- Commit: all Puts are looked at, then performed. -/
import Derived.Test.YtgpkdnnlgafenaaKvAll
import Derived.Test.YtgpkdnnlgafenaaKvCo8
import Derived.Test.YtgpkdnnlgafenaaKvRemW
namespace Go.Proofs.Ytgpkdnnlgafenaa
open Go.RowKit Kv
set_option linter.unusedVariables false

def CommitEnd (t : Nat) (m : List Pr) (l : List Pt) (F : List Nat) (w : World) (e : Ending) (w' : World) : Prop :=
  (may l = true ∧ e = .returned (.int .i64 0) ∧ ∃ F', Tab w' t (steps m l) F' ∧ Only F w w' ∧ Grows F F' w) ∨ (may l = false ∧ e = .returned (.int .i64 1) ∧ Below w.heap.size w w')
theorem TurnEnd.since {t : Nat} {m' : List Pr} {F : List Nat} {w w1 : World} {e : Ending} {w' : World} (hb : Below w.heap.size w w1) (h : TurnEnd t m' F w1 e w') : TurnEnd t m' F w e w' := by
  obtain ⟨h1, F', h2, h3, h4⟩ := h
  exact ⟨h1, F', h2, ((Only.of_below (S := []) hb).more (fun _ h => by cases h)).trans h3, fun b hb' => (h4 b hb').imp id (fun h' => Nat.le_trans hb.size h')⟩
theorem steps_take (m : List Pr) (l : List Pt) (k : Nat) (hk : k < l.length) : steps m (l.take (k + 1)) = Kv.step (steps m (l.take k)) l[k] := by
  rw [List.take_succ_eq_append_getElem hk, steps_append]; rfl

set_option maxHeartbeats 1600000 in
theorem commit_no (w : World) (t : Nat) (m : List Pr) (F : List Nat) (A : Option Addr) (n c : Nat) (l : List Pt) (X : List Nat) (hn : n = l.length) (hm : n ≤ maxLen) (hp : Puts w w.heap.size X A l) (hk : ∀ x ∈ l, x.k.size ≤ maxLen) (hno : may l = false) :
    Calls Try.prog 10 #[.pointer (some ⟨t, 0, none⟩), .slice A n c] w (CommitEnd t m l F w) := by
  subst hn
  have ha := all_may A l.length c l X w rfl hm hp hk false hno.symm
  have HA := Lib.hid ha
  have HNO := Lib.hid hno
  clear ha hp hk hno
  go_enter Try.func10, Try.ntmps10
  go_wp2_with fail
  refine HA.out.mono ?_
  rintro e w2 ⟨rfl, hb2⟩
  have key : CommitEnd t m l F w (.returned (.int .i64 1)) w2 := .inr ⟨HNO.out, rfl, hb2⟩
  have KEY := Lib.hid key
  clear hb2 key
  go_wp2
  go_ret
  exact KEY.out

set_option maxHeartbeats 1600000 in
set_option maxRecDepth 100000 in
theorem commit_ok (w : World) (t : Nat) (m : List Pr) (F : List Nat) (A : Option Addr) (n c : Nat) (l : List Pt) (ht : Tab w t m F) (hasc : Asc m) (hlen : m.length + l.length ≤ 255) (hn : n = l.length) (hp : Puts w w.heap.size F A l) (hmay : may l = true) :
    Calls Try.prog 10 #[.pointer (some ⟨t, 0, none⟩), .slice A n c] w (CommitEnd t m l F w) := by
  subst hn
  have hk : ∀ x ∈ l, ok1 x = true := List.all_eq_true.1 hmay
  have ha := all_may A l.length c l F w rfl (by unfold maxLen; omega) hp (fun x hx => by have := ok1_iff.1 (hk x hx); unfold maxLen; omega) true hmay.symm
  have HA := Lib.hid ha
  have HT := Lib.hid ht
  have HP := Lib.hid hp
  have HASC := Lib.hid hasc
  have HK := Lib.hid hk
  have HMAY := Lib.hid hmay
  obtain ⟨w0, rfl⟩ : ∃ w0, w0 = w := ⟨_, rfl⟩
  clear ha ht hp hasc hk hmay
  go_enter Try.func10, Try.ntmps10
  go_wp2_with fail
  refine HA.out.mono ?_
  rintro e w1 ⟨rfl, hb1⟩
  have HB1 := Lib.hid hb1
  clear hb1
  go_wp2_with fail
  go_loopw [12] (fun i wr => ∃ (k : Nat) (Fk : List Nat), k ≤ l.length ∧ i = .int .i64 k ∧ Hid (Tab wr t (steps m (l.take k)) Fk ∧ Only F w0 wr ∧ Grows F Fk w0)) (fun i _ => l.length - (intOf i).toNat)
  case atStart => exact ⟨0, F, Nat.zero_le _, rfl, Lib.hid ⟨by simpa [steps] using HT.out.below HB1.out, Only.of_below HB1.out, Grows.refl _ _⟩⟩
  case round =>
    obtain ⟨k, Fk, hk, rfl, HI⟩ := hrel
    by_cases hlt : k < l.length
    · obtain ⟨h1, h2, h3⟩ := HI.out
      have hpw : Puts wr w0.heap.size F A l := HP.out.only h2 (Nat.le_refl _)
      have hpk : Puts wr w0.heap.size Fk A l := hpw.grows h3 (Nat.le_refl _)
      obtain ⟨g, o, A', c', rfl, hg, k1, k2, k3, k4, k5, k6⟩ := hpk.at k hlt
      have hgw : g < wr.heap.size := by have := h2.size; omega
      have hst := steps_take m l k hlt
      have hxo := HK.out l[k] (List.getElem_mem hlt)
      obtain ⟨x, Hx⟩ : ∃ x, Hid (x = l[k]) := ⟨_, Lib.hid rfl⟩
      rw [← Hx.out] at k1 k2 k3 k4 k6 hst hxo
      obtain ⟨kk, v, gg⟩ := x
      simp only at k1 k2 k3 k4 k6
      obtain ⟨mk, Hmk⟩ : ∃ mk, Hid (mk = steps m (l.take k)) := ⟨_, Lib.hid rfl⟩
      rw [← Hmk.out] at h1 hst
      have hasck : Asc mk := by rw [Hmk.out]; exact steps_asc _ HASC.out
      have hlk : mk.length ≤ 255 := by
        have := steps_length (l.take k) m
        rw [List.length_take] at this
        rw [Hmk.out]; omega
      have hvz : v.length ≤ 200000 := (ok1_iff.1 hxo).2.2.1
      have hwk : w0.heap.size ≤ wr.heap.size := h2.size
      obtain ⟨b, Hb⟩ : ∃ b, Hid (b = wr.heap.size) := ⟨_, Lib.hid rfl⟩
      obtain ⟨w2, Hw2⟩ : ∃ w2, Hid (w2 = wr.alloc (.cells #[.string kk, .slice A' v.length c', .bool gg] 29)) := ⟨_, Lib.hid rfl⟩
      have hb2 : Below wr.heap.size wr w2 := by rw [Hw2.out]; exact (Below.refl _ _).alloc (Nat.le_refl _) _
      have hnew : w2.heap[b]? = some (.cells #[.string kk, .slice A' v.length c', .bool gg] 29 (0, 0)) := by rw [Hw2.out, Hb.out]; exact heap_alloc_new wr _
      have ht2 : Tab w2 t mk Fk := h1.below hb2
      have hbF : b ∉ Fk := fun hm => by have := (h1.noB b hm).2; have := Hb.out; omega
      have hsz2 : w2.heap.size = b + 1 := by rw [Hw2.out, Hb.out]; simp
      have hw2s : w0.heap.size ≤ w2.heap.size := Nat.le_trans hwk hb2.size
      have hbw : b < w2.heap.size := by omega
      have HSZ2 := Lib.hid hsz2
      clear hsz2
      have hsee : SeesX w2 w0.heap.size Fk A' v := k6.only ((Only.of_below (S := []) hb2).more fun _ h => by cases h) hwk
      have next : ∀ e W, TurnEnd t (Kv.step mk ⟨kk, v, gg⟩) Fk w2 e W → Hid (∃ F2, Tab W t (steps m (l.take (k + 1))) F2 ∧ Only F w0 W ∧ Grows F F2 w0) := fun e W hW => by
        obtain ⟨_, F2, t1, t2, t3⟩ := hW
        refine Lib.hid ⟨F2, by rw [hst]; exact t1, ?_, ?_⟩
        · exact h2.step ((Only.of_below (S := []) hb2).more (fun _ h => by cases h) |>.trans t2) h3
        · exact h3.trans (fun b hb => (t3 b hb).imp id (fun h' => by have := hb2.size; omega)) h2.size
      have NEXT := Lib.hid next
      have HT2 := Lib.hid ht2
      have HNEW := Lib.hid hnew
      have HSEE := Lib.hid hsee
      have HASCK := Lib.hid hasck
      have c0 : w2.cell? ⟨b, 0, none⟩ = some (.string kk) := by simp [World.cell?, hnew]
      have c2 : w2.cell? ⟨b, 2, none⟩ = some (.bool gg) := by simp [World.cell?, hnew]
      have HB2 := Lib.hid hb2
      clear h1 h2 h3 hpw hpk k4 k5 k6 hst hxo hasck hb2 hnew ht2 hsee next HI
      cases gg with
      | true =>
        have HREM := Lib.hid (remove_any w2 t mk Fk kk v HT2.out HASCK.out hlk)
        go_wp2_with fail
        rw [← Hw2.out]
        refine HREM.out.mono ?_
        rintro e w4 hW
        have HN := NEXT.out e w4 hW
        obtain ⟨⟨u, rfl⟩, _⟩ := hW
        clear k1 k2 k3 c0 c2
        go_wp2
        go_roundw
        case rel =>
          obtain ⟨F2, q⟩ := HN.out
          exact ⟨k + 1, F2, by omega, by go_num, Lib.hid q⟩
        case measure => simp [intOf]; omega
      | false =>
        go_wp2_with fail
        rw [← Hw2.out, ← Hb.out]
        refine co8 t b v.length c' A' kk (fun p R W => W.heap[b]? = some (.cells #[.string kk, .slice A' v.length c', .bool false] 29 (0, 0)) ∧ (p = 0 → Below w2.heap.size w2 W) ∧ (p = 1 → Below w2.heap.size w2 W ∧ ∃ A2 c2, R 0 = .slice A2 v.length c2 ∧ BRow W (.slice A2 v.length c2) v) ∧ (p = 2 → ∃ e, TurnEnd t (Kv.step mk ⟨kk, v, false⟩) Fk w2 e W)) (by show 28 < 30; omega) rfl rfl
          (fun p R W hS => ⟨by simp [World.cell?, hS.1], by simp [World.cell?, hS.1]⟩)
          (fun R W hS => ?h1) (fun R W hS => ?h2) ⟨HNEW.out, fun _ => (Below.refl _ _).drew, fun h => absurd h (by decide), fun h => absurd h (by decide)⟩ ?_
        case h1 =>
          have hW := hS.2.1 rfl
          refine (clone_val A' v.length c' w0.heap.size v W rfl (by omega) (HSEE.out.sees.below hW (by omega))).mono ?_
          rintro e w' ⟨A2, c2, rfl, _, _, q1, q2, _⟩
          exact ⟨_, rfl, (by rw [q2.block b (by have := hW.size; omega)]; exact hS.1), fun h => absurd h (by decide), fun _ => ⟨hW.trans (q2.mono hW.size), A2, c2, rfl, q1⟩, fun h => absurd h (by decide)⟩
        case h2 =>
          obtain ⟨hW, A2, c2, e2, q1⟩ := hS.2.2.1 rfl
          rw [e2]
          refine (set_any W t mk Fk kk A2 v.length c2 v (HT2.out.below hW) HASCK.out hlk q1).mono ?_
          intro e w' hq
          obtain ⟨⟨u, rfl⟩, F2, q2, q3, q4⟩ := hq
          refine ⟨u, rfl, ?_, fun h => absurd h (by decide), fun h => absurd h (by decide), fun _ => ⟨_, TurnEnd.since hW ⟨⟨u, rfl⟩, F2, q2, q3, q4⟩⟩⟩
          rw [q3.block b (by have := hW.size; omega) hbF]; exact hS.1
        intro af wN hfr hS
        obtain ⟨e9, h9⟩ := hS.2.2.2 rfl
        have HN := NEXT.out e9 wN h9
        clear hS h9 k1 k2 k3 c0 c2
        have ha := hfr.eq (by intro t ht; simp at ht; show t < 30; omega)
        simp only [List.foldl_cons, List.foldl_nil] at ha
        clear hfr
        generalize af.eval (.tmp 22) = u22 at ha
        generalize af.eval (.tmp 23) = u23 at ha
        generalize af.eval (.tmp 24) = u24 at ha
        generalize af.eval (.tmp 25) = u25 at ha
        generalize af.eval (.tmp 26) = u26 at ha
        generalize af.eval (.tmp 27) = u27 at ha
        generalize af.eval (.tmp 28) = u28 at ha
        subst ha
        simp only [Act.put, List.setIfInBounds_toArray, List.set_cons_zero, List.set_cons_succ]
        go_wp2
        go_roundw
        case rel =>
          obtain ⟨F2, q⟩ := HN.out
          exact ⟨k + 1, F2, by omega, by go_num, Lib.hid q⟩
        case measure => simp [intOf]; omega
    · obtain rfl : k = l.length := by omega
      obtain ⟨h1, h2, h3⟩ := HI.out
      rw [List.take_length] at h1
      have key : CommitEnd t m l F w0 (.returned (.int .i64 0)) wr := .inl ⟨HMAY.out, rfl, Fk, h1, h2, h3⟩
      have KEY := Lib.hid key
      clear h1 h2 h3 key HI
      go_wp2
      go_ret
      exact KEY.out
end Go.Proofs.Ytgpkdnnlgafenaa
