/- A table in a law: what each call leaves of it. -/
import Derived.Test.YtgpkdnnlgafenaaKvRng
import Derived.Test.YtgpkdnnlgafenaaKvGet
import Derived.Test.YtgpkdnnlgafenaaKvOpen
namespace Go.Proofs.Ytgpkdnnlgafenaa
open Go.RowKit Kv
set_option linter.unusedVariables false

/-- A table all of whose blocks are new since w0, whose size is B. -/
structure LTab (B : Nat) (w0 w : World) (t : Nat) (m : List Pr) (F : List Nat) : Prop where
  tab : Tab w t m F
  high : ∀ b, b ∈ F → B ≤ b
  bel : Below B w0 w
  size : B ≤ w.heap.size
  asc : Asc m
  good : Kv.Good m
section
variable {B : Nat} {w0 w w' : World} {t : Nat} {m : List Pr} {F S : List Nat}
theorem LTab.below (h : LTab B w0 w t m F) (hb : Below w.heap.size w w') : LTab B w0 w' t m F :=
  ⟨h.tab.below hb, h.high, h.bel.trans (hb.mono h.size), Nat.le_trans h.size hb.size, h.asc, h.good⟩
theorem LTab.far (h : LTab B w0 w t m F) (ho : Only S w w') (hS : ∀ b, b ∈ S → B ≤ b) (hf : Far w F S) : LTab B w0 w' t m F :=
  ⟨h.tab.far ho hf, h.high, h.bel.trans (ho.below h.size hS), Nat.le_trans h.size ho.size, h.asc, h.good⟩
theorem LTab.lt (h : LTab B w0 w t m F) : ∀ b, b ∈ F → b < w.heap.size := fun b hb => (h.tab.noB b hb).2
theorem law_kvnew (hb : Below B w0 w) (hs : B ≤ w.heap.size) : Calls Try.prog 9 #[] w fun e w' => ∃ t, e = .returned (.pointer (some ⟨t, 0, none⟩)) ∧ LTab B w0 w' t [] [t] ∧ Below w.heap.size w w' ∧ w.heap.size ≤ t := by
  refine (new_any w).mono ?_
  rintro e w' ⟨t, rfl, h1, h2, h3⟩
  exact ⟨t, rfl, ⟨h1, fun b hb => by rw [List.mem_singleton] at hb; omega, hb.trans (h2.mono hs), Nat.le_trans hs h2.size, Asc.nil, Kv.Good.nil⟩, h2, h3⟩
/-- What a Commit in a law ends in. -/
def LComEnd (B : Nat) (w0 : World) (t : Nat) (m : List Pr) (l : List Pt) (F : List Nat) (w : World) (e : Ending) (w' : World) : Prop :=
  e = .returned (.int .i64 (if may l then 0 else 1)) ∧ ∃ F', LTab B w0 w' t (if may l then steps m l else m) F' ∧ Only F w w' ∧ Grows F F' w
theorem law_commit (h : LTab B w0 w t m F) (A : Option Addr) (n c : Nat) (l : List Pt) (hlen : m.length + l.length ≤ 255) (hn : n = l.length) (hp : Puts w w.heap.size F A l) (hk : ∀ x ∈ l, x.k.size ≤ maxLen) :
    Calls Try.prog 10 #[.pointer (some ⟨t, 0, none⟩), .slice A n c] w (LComEnd B w0 t m l F w) := by
  cases hm : may l with
  | true =>
    refine (commit_ok w t m F A n c l h.tab h.asc hlen hn hp hm).mono ?_
    rintro e w' (⟨_, rfl, F', k1, k2, k3⟩ | ⟨h2, _⟩)
    · unfold LComEnd
      rw [if_pos hm, if_pos hm]
      exact ⟨rfl, F', ⟨k1, fun b hb => (k3 b hb).elim (h.high b) (fun h' => by have := h.size; omega), h.bel.trans (k2.below h.size h.high), Nat.le_trans h.size k2.size, steps_asc _ h.asc, steps_good _ hm h.good⟩, k2, k3⟩
    · rw [hm] at h2; cases h2
  | false =>
    refine (commit_no w t m F A n c l F hn (by unfold maxLen; omega) hp hk hm).mono ?_
    rintro e w' (⟨h2, _⟩ | ⟨_, rfl, k2⟩)
    · rw [hm] at h2; cases h2
    · unfold LComEnd
      rw [if_neg (by rw [hm]; decide), if_neg (by rw [hm]; decide)]
      exact ⟨rfl, F, h.below k2, Only.of_below k2, Grows.refl _ _⟩
/-- Rows of Puts among the arguments stay what they are. -/
theorem Puts.law {A : Option Addr} {l : List Pt} (h : Puts w0 B [] A l) (k : LTab B w0 w t m F) : Puts w w.heap.size F A l := by
  have h1 : Puts w B [] A l := fun hn => by
    obtain ⟨g, o, e, h1, h2, h3⟩ := h hn
    have cell : ∀ i, w.cell? ⟨g, i, none⟩ = w0.cell? ⟨g, i, none⟩ := fun i => k.bel.cell (p := ⟨g, i, none⟩) h1
    refine ⟨g, o, e, h1, h2, fun j hj => ?_⟩
    obtain ⟨k1, ⟨A', c', k2, k3, k4, k5⟩, k6⟩ := h3 j hj
    exact ⟨(cell _).trans k1, ⟨A', c', (cell _).trans k2, k3, k4, (k5.sees.below k.bel (Nat.le_refl _)).x fun b hb => by cases hb⟩, (cell _).trans k6⟩
  refine Puts.wide (N := B) (fun hn => ?_) k.size
  obtain ⟨g, o, e, h1, h2, h3⟩ := h1 hn
  refine ⟨g, o, e, h1, fun hm => by have := k.high g hm; omega, fun j hj => ?_⟩
  obtain ⟨k1, ⟨A', c', k2, k3, k4, k5⟩, k6⟩ := h3 j hj
  exact ⟨k1, ⟨A', c', k2, k3, k4, k5.sees.x fun b hb => k.high b hb⟩, k6⟩
end

/-- Whether all is light enough. -/
def lt1 (x : Pt) : Bool := decide (x.k.size ≤ 300) && decide (x.v.length ≤ 200)
def lightR (l : List Pt) : Bool := decide (l.length ≤ 8) && l.all lt1
def lightB (ls : List (List Pt)) : Bool := decide (ls.length ≤ 20) && ls.all lightR
theorem all_at {α : Type} {p : α → Bool} {l : List α} {k : Nat} (hk : k < l.length) (h : p l[k] = false) : l.all p = false := by
  rw [List.all_eq_false]; exact ⟨_, List.getElem_mem hk, by rw [h]; decide⟩
theorem all_take {α : Type} {p : α → Bool} {l : List α} {k : Nat} (hk : k < l.length) (h : (l.take k).all p = true) (h2 : p l[k] = true) : (l.take (k + 1)).all p = true := by
  rw [List.take_succ_eq_append_getElem hk, List.all_append, h]; simp [h2]

set_option maxHeartbeats 1600000 in
set_option maxRecDepth 100000 in
theorem light_any (w : World) (A : Option Addr) (n c : Nat) (ls : List (List Pt)) (X : List Nat) (hn : n = ls.length) (hm : n ≤ maxLen) (hp : Putss w w.heap.size X A ls) (hk : ∀ l ∈ ls, ∀ x ∈ l, x.k.size ≤ maxLen) (r : Bool) (hr : r = lightB ls) :
    Calls Try.prog 17 #[.slice A n c] w fun e w' => e = .returned (.bool r) ∧ w = w' := by
  subst hn
  unfold maxLen at hm
  have HP := Lib.hid hp
  have HK := Lib.hid hk
  have HR := Lib.hid hr
  clear hp hk hr
  by_cases h20 : ls.length ≤ 20
  · go_enter Try.func17, Try.ntmps17
    go_wp2
    go_loop [3] (fun i => ∃ k : Nat, k ≤ ls.length ∧ i = .int .i64 k ∧ Hid ((ls.take k).all lightR = true)) (fun i => ls.length - (intOf i).toNat)
    case atStart => exact ⟨0, Nat.zero_le _, rfl, Lib.hid (by simp)⟩
    case round =>
      obtain ⟨k, hk, rfl, HA⟩ := hrel
      by_cases hlt : k < ls.length
      · obtain ⟨g, o, rfl, hg, _, hat⟩ := HP.out (by intro e; rw [e] at hlt; simp at hlt)
        obtain ⟨A', c', hc, hc1, hc2, hps⟩ := hat k hlt
        have HL := Lib.hid (HK.out ls[k] (List.getElem_mem hlt))
        have hno : lightR ls[k] = false → r = false := fun h => by
          rw [HR.out]; unfold lightB; rw [all_at hlt h, Bool.and_false]
        have hye : lightR ls[k] = true → Hid ((ls.take (k + 1)).all lightR = true) := fun h => Lib.hid (all_take hlt HA.out h)
        have HNO := Lib.hid hno
        have HYE := Lib.hid hye
        clear hat hno hye
        generalize ls[k] = l at *
        have HPS := Lib.hid hps
        clear hps
        have hlm : l.length ≤ 9223372036854775807 := by unfold maxLen at hc2; omega
        by_cases h8 : l.length ≤ 8
        · go_wp2
          go_loop [4] (fun i => ∃ j : Nat, j ≤ l.length ∧ i = .int .i64 j ∧ Hid ((l.take j).all lt1 = true)) (fun i => l.length - (intOf i).toNat)
          case atStart => exact ⟨0, Nat.zero_le _, rfl, Lib.hid (by simp)⟩
          case round =>
            obtain ⟨j, hj, rfl, HJ⟩ := hrel
            by_cases hjl : j < l.length
            · obtain ⟨g2, o2, A2, c2, rfl, hg2, k1, k2, k3, k4, k5, k6⟩ := HPS.out.at j hjl
              have hkz := HL.out l[j] (List.getElem_mem hjl)
              have hno : lt1 l[j] = false → r = false := fun h => HNO.out (by unfold lightR; rw [all_at hjl h, Bool.and_false])
              have hye : lt1 l[j] = true → Hid ((l.take (j + 1)).all lt1 = true) := fun h => Lib.hid (all_take hjl HJ.out h)
              have HNO2 := Lib.hid hno
              have HYE2 := Lib.hid hye
              clear hno hye k3 k6
              generalize l[j] = x at *
              obtain ⟨kk, v, gg⟩ := x
              simp only at k1 k2 k4 hkz
              unfold maxLen at k5 hkz
              by_cases hk3 : kk.size ≤ 300
              · by_cases hv2 : v.length ≤ 200
                · have HY := HYE2.out (by simp [lt1, hk3, hv2])
                  go_wp2
                  go_round
                  case rel => exact ⟨j + 1, by omega, by go_num, HY⟩
                  case measure => simp [intOf]; omega
                · have hrf := HNO2.out (by simp [lt1, hk3, hv2])
                  subst hrf
                  go_wp2
                  go_ret
                  first | done | exact ⟨rfl, rfl⟩
              · have hrf := HNO2.out (by simp [lt1, hk3])
                subst hrf
                go_wp2
                go_ret
                first | done | exact ⟨rfl, rfl⟩
            · obtain rfl : j = l.length := by omega
              have HY := HYE.out (by unfold lightR; rw [← List.take_length (l := l), HJ.out]; simp; omega)
              go_wp2
              go_round
              case rel => exact ⟨k + 1, by omega, by go_num, HY⟩
              case measure => simp [intOf]; omega
        · have hrf := HNO.out (by simp [lightR, h8])
          subst hrf
          go_wp2
          go_ret
          first | done | exact ⟨rfl, rfl⟩
      · obtain rfl : k = ls.length := by omega
        have hrt : r = true := by
          rw [HR.out]; unfold lightB
          have := HA.out
          rw [List.take_length] at this
          rw [this]; simp [h20]
        subst hrt
        go_wp2
        go_ret
        first | done | exact ⟨rfl, rfl⟩
  · have hrf : r = false := by rw [HR.out]; unfold lightB; simp [h20]
    subst hrf
    go_enter Try.func17, Try.ntmps17
    go_wp2
    go_ret
    first | done | exact ⟨rfl, rfl⟩
end Go.Proofs.Ytgpkdnnlgafenaa
