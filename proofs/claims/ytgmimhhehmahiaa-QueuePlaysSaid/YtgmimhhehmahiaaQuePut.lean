/- The walks of package queue's Put: by single steps through the select. -/
import Derived.Test.YtgmimhhehmahiaaQueNew
namespace Go.Proofs.Ytgmimhhehmahiaa
open Go.Conc Go.RowKit

theorem put_nil (A : Option Addr) (n cp : Nat) (w : World) : Calls Try.prog 11 #[.pointer none, .slice A n cp] w fun e w' => e = .returned (.bool false) ∧ w = w' := by
  go_enter Try.func11, Try.ntmps11
  go_wp2
  go_ret
  exact ⟨rfl, rfl⟩
theorem put_shut (A : Option Addr) (n cp : Nat) {q c room : Nat} {xs : List (List UInt8)} (w : World) (h : Que w q c room true xs) : Calls Try.prog 11 #[.pointer (some ⟨q, 0, none⟩), .slice A n cp] w fun e w' => e = .returned (.bool false) ∧ w = w' := by
  obtain ⟨vs, s, r, h1, h2, h3, h4⟩ := h
  have hcell : w.cell? ⟨q, 1, none⟩ = some (.bool true) := by simp [World.cell?, h1]
  clear h1 h2 h4
  go_enter Try.func11, Try.ntmps11
  go_wp2
  go_ret
  exact ⟨rfl, rfl⟩

theorem clone_views (A : Option Addr) (n cp : Nat) (l : List UInt8) (hn : n = l.length) (w : World) (h : Sees w w.heap.size A l) (hl : l.length ≤ 140737488355328) :
    Calls Try.prog 17 #[.slice A n cp] w fun e w' => ∃ A' c', e = .returned (.slice A' l.length c') ∧ l.length ≤ c' ∧ c' ≤ maxLen ∧ Sees w' w'.heap.size A' l ∧ Below w.heap.size w w' ∧ (∀ a, A' = some a → w.heap.size ≤ a.block) := by
  subst hn
  cases A with
  | none =>
    have h0 : l = [] := Classical.byContradiction fun hne => by
      obtain ⟨g, o, e, _⟩ := h hne
      cases e
    subst h0
    refine (Try.bytes_Clone_nil _ cp w).mono ?_
    rintro e w' ⟨rfl, rfl⟩
    exact ⟨none, 0, rfl, Nat.le_refl _, Nat.zero_le _, Sees.nil _ _ _, Below.refl _ _, fun _ h => by cases h⟩
  | some a =>
    refine (Try.bytes_Clone_at a l.length cp (l.map fun b => (b.toNat : Int)) w (by simp) hl ?_).mono ?_
    · intro i hi
      obtain ⟨g, o, e, hg, hc⟩ := h (by intro h0; rw [h0] at hi; simp at hi)
      injection e with e
      subst e
      rw [add_to, hc i hi]
      simp [List.getD, List.getElem?_eq_getElem hi]
    · rintro e w' ⟨v, rfl, hown, _, hb⟩
      have e1 : (l.map fun b => (b.toNat : Int)).map (Value.int .u8) = bv l := by rw [List.map_map]; rfl
      rw [e1] at hown
      obtain ⟨A', c', rfl, h1, h2⟩ := own_shape hown
      exact ⟨A', c', rfl, h1, h2, Sees.of_own hown, hb, fun a h => (hown.lt a.block (by subst h; rfl)).1⟩

/-- No element that holds a byte lies in block g. -/
def Avoid (w : World) (c g : Nat) : Prop := ∀ room vs cl s r tm, w.heap[c]? = some (.chan room vs cl s r tm) → ∀ v, v ∈ vs.toList → ∀ a n cp, v = .slice (some a) n cp → a.block = g → n = 0
theorem Avoid.same {w w' : World} {c g : Nat} (h : Avoid w c g) (he : w'.heap[c]? = w.heap[c]?) : Avoid w' c g := fun room vs cl s r tm hc => h room vs cl s r tm (he ▸ hc)
theorem Que.avoid {w : World} {q c room : Nat} {closed : Bool} {xs : List (List UInt8)} (h : Que w q c room closed xs) {g : Nat} (hg : w.heap.size ≤ g) : Avoid w c g := by
  obtain ⟨vs, s, r, h1, h2, h3, h4⟩ := h
  intro room' vs' cl s' r' tm hc v hv a n cp hva hab
  rw [h2] at hc
  injection hc with hc
  injection hc with _ hvs
  subst hvs
  obtain ⟨i, hi⟩ := List.getElem?_of_mem hv
  have hi' : vs[i]? = some v := by simpa using hi
  have hlt : i < xs.length := by
    rw [← h4.1]; exact (List.getElem?_eq_some_iff.1 hi').1
  obtain ⟨A, c', e1, _, _, hs⟩ := h4.2 i v xs[i] hi' (List.getElem?_eq_getElem hlt)
  rw [hva] at e1
  injection e1 with e1 e2 _
  refine Classical.byContradiction fun hn => ?_
  obtain ⟨g', o, e3, hg', _⟩ := hs (fun h0 => hn (by rw [e2, h0]; rfl))
  rw [← e1] at e3
  injection e3 with e3
  subst e3
  have : g' = g := hab
  omega
theorem Que.write {w w' : World} {q c room g : Nat} {closed : Bool} {xs : List (List UInt8)} (h : Que w q c room closed xs) (ha : Avoid w c g) (ho : Only [g] w w') (hq : q ≠ g) (hc : c ≠ g) : Que w' q c room closed xs ∧ Avoid w' c g := by
  have hlt := h.lt
  obtain ⟨vs, s, r, h1, h2, h3, h4⟩ := h
  have hcc : w'.heap[c]? = w.heap[c]? := ho.block c hlt.2.1 (by simpa using hc)
  refine ⟨⟨vs, s, r, (ho.block q hlt.1 (by simpa using hq)).trans h1, hcc.trans h2, h3, h4.1, fun i v l hv hl => ?_⟩, ha.same hcc⟩
  obtain ⟨A, cp, e, e1, e2, hs⟩ := h4.2 i v l hv hl
  refine ⟨A, cp, e, e1, e2, fun hne => ?_⟩
  obtain ⟨g', o, e3, hg', hcell⟩ := hs hne
  have hlen : 0 < l.length := List.length_pos_iff.2 hne
  have hgg : g' ≠ g := fun hh => by
    have := ha room vs.toArray false s r false h2 v (List.mem_of_getElem? hv) ⟨g', o, none⟩ l.length cp (by rw [e, e3]) hh
    omega
  refine ⟨g', o, e3, Nat.lt_of_lt_of_le hg' ho.size, fun j hj => ?_⟩
  exact (World.cell?_of_block (w := w) (a := ⟨g', o + j, none⟩) (ho.block g' hg' (by simpa using hgg))).trans (hcell j hj)

theorem Que.push {w w1 : World} {q c room : Nat} {closed : Bool} {vs : List Value} {s r : Nat} {xs : List (List UInt8)} (hq : w.heap[q]? = some (.cells #[.chan (some c), .bool closed] 49 (0, 0))) (hc : w.heap[c]? = some (.chan room vs.toArray false s r false)) (hv : Views w w.heap.size vs xs) (hlt : xs.length < room)
    (hb : Below w.heap.size w w1) {A : Option Addr} {cp : Nat} {l : List UInt8} (h1 : l.length ≤ cp) (h2 : cp ≤ maxLen) (h3 : Sees w1 w1.heap.size A l) :
    Que (w1.setChan c room (vs.toArray.push (.slice A l.length cp)) false (s + 1) r false) q c room closed (xs ++ [l]) ∧ Only [c] w (w1.setChan c room (vs.toArray.push (.slice A l.length cp)) false (s + 1) r false) := by
  have hlq := (Array.getElem?_eq_some_iff.1 hq).1
  have hlc := (Array.getElem?_eq_some_iff.1 hc).1
  have hne : q ≠ c := fun e => by subst e; rw [hq] at hc; cases hc
  have ho := only_setChan (w := w) hb (c := c) room (vs.toArray.push (.slice A l.length cp)) false (s + 1) r false
  have hz := hb.size
  have ho1 : Only [c] w1 (w1.setChan c room (vs.toArray.push (.slice A l.length cp)) false (s + 1) r false) := only_setChan (w := w1) (Below.refl _ _) room _ _ _ _ _
  have hc1 : w1.heap[c]? = some (.chan room vs.toArray false s r false) := (hb.block c hlc).trans hc
  refine ⟨⟨vs ++ [.slice A l.length cp], s + 1, r, (ho.block q hlq (by simp; exact hne)).trans hq, ?_, by simp; omega, ?_⟩, ho⟩
  · rw [heap_setChan _ _ _ _ _ _ _ _ (by omega)]
    simp
  · refine (Views.only (w := w1) (B := w1.heap.size) (Views.snoc ((hv.below hb (Nat.le_refl _)).mono hz) rfl h1 h2 h3) ho1 (fun b hb' => ?_)).mono ho1.size
    rw [List.mem_singleton] at hb'; subst hb'
    exact noByte_chan hc1

set_option maxRecDepth 100000 in
theorem put_avoid (A : Option Addr) (n cp : Nat) (l : List UInt8) (hn : n = l.length) {q c room : Nat} {xs : List (List UInt8)} (w : World) (h : Que w q c room false xs) (hlt : xs.length < room) (hs : Sees w w.heap.size A l) (hl : l.length ≤ 140737488355328) :
    Calls Try.prog 11 #[.pointer (some ⟨q, 0, none⟩), .slice A n cp] w fun e w' => e = .returned (.bool true) ∧ Que w' q c room false (xs ++ [l]) ∧ Only [c] w w' ∧ ∀ g, g < w.heap.size → Avoid w c g → Avoid w' c g := by
  subst hn
  obtain ⟨vs, s, r, h1, h2, h3, h4⟩ := h
  have hcell0 : w.cell? ⟨q, 0, none⟩ = some (.chan (some c)) := by simp [World.cell?, h1]
  have hcell : w.cell? ⟨q, 1, none⟩ = some (.bool false) := by simp [World.cell?, h1]
  have hvl : vs.length = xs.length := h4.1
  refine calls_of_loneTo fun cs => ?_
  have e : Frame.enter Try.prog 11 #[.pointer (some ⟨q, 0, none⟩), .slice A l.length cp] .normal = (base 11).at ⟨#[.pointer (some ⟨q, 0, none⟩), .slice A l.length cp, undef, undef, undef, undef, undef, undef, undef, undef, undef, undef, undef, undef, undef, undef, undef, undef, undef, undef, undef, undef], []⟩ [.code (Try.f11.body.getD .skip)] := by
    simp [Frame.enter, Frame.at, Try.func11, base, Try.f11]
  rw [e]
  refine LoneTo.goes (n := 100) ?_
  simp only [Try.f11, Option.getD_some]
  s_c stepG_seq
  s_reg
  s_op
  s_c stepG_region_end
  s_c stepG_seq
  s_c stepG_seq
  s_reg
  s_op
  s_op
  s_op
  s_op
  s_op
  s_op
  s_op
  s_op
  s_c stepG_region_end
  s_cond false
  s_c stepG_skip
  s_c stepG_seq
  s_c stepG_seq
  s_reg
  s_op
  s_op
  s_op
  s_op
  s_c stepG_region_end
  s_reg
  s_op
  s_stop
  refine LoneTo.calls rfl rfl (by decide) rfl Try.func17 (by kernel_rfl) rfl (by simp [Act.eval]) (clone_views A l.length cp l rfl w hs hl) ?_
  rintro e w1 ⟨A', c', rfl, hc1, hc2, hs1, hb1, hnew⟩
  refine ⟨_, rfl, ?_⟩
  walk_nrm
  have hch : w1.heap[c]? = some (.chan room vs.toArray false s r false) := (hb1.block c (Array.getElem?_eq_some_iff.1 h2).1).trans h2
  refine LoneTo.goes (n := 100) ?_
  s_c stepG_region_end
  s_c stepG_seq
  s_reg
  s_stop
  refine LoneTo.step (step_lone_select_send_room (c := c) (cap := room) (buf := vs.toArray) (s := s) (r := r) (tm := false) (stepG_comm (cases := #[scase c (.slice A' l.length c') (.slice none 0 0)]) (blocking := false) (shape := .select) (w' := w1) rfl rfl (by decide) (by simp [go_sem, execOp, scase, Act.eval])) hch (by simp; omega)) ?_
  rw [Frame.finish_at]
  walk_nrm
  refine LoneTo.goes (n := 100) ?_
  s_op
  s_op
  s_c stepG_region_end
  s_c stepG_block
  s_cond true
  s_c stepG_seq
  s_reg
  s_op
  s_c stepG_region_end
  s_c stepG_ret'
  s_stop
  refine LoneTo.done ⟨.returned (.bool true), _, rfl, ⟨rfl, ?_⟩, rfl, rfl, rfl, rfl, _, Try.func11, by simp [results, Try.f11, Frame.at]⟩
  have hp := Que.push h1 h2 h4 hlt hb1 hc1 hc2 hs1
  rw [List.push_toArray] at hp
  refine ⟨hp.1, hp.2, fun g hg ha room' vs' cl s' r' tm hc v hv a n' cp' hva hab => ?_⟩
  rw [heap_setChan _ _ _ _ _ _ _ _ (by have := (Array.getElem?_eq_some_iff.1 hch).1; omega)] at hc
  injection hc with hc
  injection hc with _ hvs
  subst hvs
  rcases List.mem_append.1 (by simpa using hv : v ∈ vs ++ [_]) with hv | hv
  · exact ha room vs.toArray false s r false h2 v (by simpa using hv) a n' cp' hva hab
  · rw [List.mem_singleton] at hv
    rw [hv] at hva
    injection hva with e1 _ _
    have := hnew a e1
    omega
theorem put_ok (A : Option Addr) (n cp : Nat) (l : List UInt8) (hn : n = l.length) {q c room : Nat} {xs : List (List UInt8)} (w : World) (h : Que w q c room false xs) (hlt : xs.length < room) (hs : Sees w w.heap.size A l) (hl : l.length ≤ 140737488355328) :
    Calls Try.prog 11 #[.pointer (some ⟨q, 0, none⟩), .slice A n cp] w fun e w' => e = .returned (.bool true) ∧ Que w' q c room false (xs ++ [l]) ∧ Only [c] w w' :=
  (put_avoid A n cp l hn w h hlt hs hl).mono fun _ _ ⟨h1, h2, h3, _⟩ => ⟨h1, h2, h3⟩
set_option maxRecDepth 100000 in
theorem put_full (A : Option Addr) (n cp : Nat) (l : List UInt8) (hn : n = l.length) {q c room : Nat} {xs : List (List UInt8)} (w : World) (h : Que w q c room false xs) (hlt : room ≤ xs.length) (hs : Sees w w.heap.size A l) (hl : l.length ≤ 140737488355328) :
    Calls Try.prog 11 #[.pointer (some ⟨q, 0, none⟩), .slice A n cp] w fun e w' => e = .returned (.bool false) ∧ Below w.heap.size w w' := by
  subst hn
  obtain ⟨vs, s, r, h1, h2, h3, h4⟩ := h
  have hcell0 : w.cell? ⟨q, 0, none⟩ = some (.chan (some c)) := by simp [World.cell?, h1]
  have hcell : w.cell? ⟨q, 1, none⟩ = some (.bool false) := by simp [World.cell?, h1]
  have hvl : vs.length = xs.length := h4.1
  refine calls_of_loneTo fun cs => ?_
  have e : Frame.enter Try.prog 11 #[.pointer (some ⟨q, 0, none⟩), .slice A l.length cp] .normal = (base 11).at ⟨#[.pointer (some ⟨q, 0, none⟩), .slice A l.length cp, undef, undef, undef, undef, undef, undef, undef, undef, undef, undef, undef, undef, undef, undef, undef, undef, undef, undef, undef, undef], []⟩ [.code (Try.f11.body.getD .skip)] := by
    simp [Frame.enter, Frame.at, Try.func11, base, Try.f11]
  rw [e]
  refine LoneTo.goes (n := 100) ?_
  simp only [Try.f11, Option.getD_some]
  s_c stepG_seq
  s_reg
  s_op
  s_c stepG_region_end
  s_c stepG_seq
  s_c stepG_seq
  s_reg
  s_op
  s_op
  s_op
  s_op
  s_op
  s_op
  s_op
  s_op
  s_c stepG_region_end
  s_cond false
  s_c stepG_skip
  s_c stepG_seq
  s_c stepG_seq
  s_reg
  s_op
  s_op
  s_op
  s_op
  s_c stepG_region_end
  s_reg
  s_op
  s_stop
  refine LoneTo.calls rfl rfl (by decide) rfl Try.func17 (by kernel_rfl) rfl (by simp [Act.eval]) (clone_views A l.length cp l rfl w hs hl) ?_
  rintro e w1 ⟨A', c', rfl, hc1, hc2, hs1, hb1, hnew⟩
  refine ⟨_, rfl, ?_⟩
  walk_nrm
  have hch : w1.heap[c]? = some (.chan room vs.toArray false s r false) := (hb1.block c (Array.getElem?_eq_some_iff.1 h2).1).trans h2
  refine LoneTo.goes (n := 100) ?_
  s_c stepG_region_end
  s_c stepG_seq
  s_reg
  s_stop
  refine LoneTo.step (step_lone_select_send_full (c := c) (cap := room) (buf := vs.toArray) (s := s) (r := r) (tm := false) (stepG_comm (cases := #[scase c (.slice A' l.length c') (.slice none 0 0)]) (blocking := false) (shape := .select) (w' := w1) rfl rfl (by decide) (by simp [go_sem, execOp, scase, Act.eval])) hch (by simp; omega)) ?_
  rw [Frame.finish_at]
  walk_nrm
  refine LoneTo.goes (n := 100) ?_
  s_op
  s_op
  s_c stepG_region_end
  s_c stepG_block
  s_cond false
  s_c stepG_seq
  s_reg
  s_op
  s_c stepG_region_end
  s_c stepG_ret'
  s_stop
  refine LoneTo.done ⟨.returned (.bool false), _, rfl, ⟨rfl, ?_⟩, rfl, rfl, rfl, rfl, _, Try.func11, by simp [results, Try.f11, Frame.at]⟩
  exact hb1
end Go.Proofs.Ytgmimhhehmahiaa
