/- The walks of package queue's Take: by single steps through the select. -/
import Derived.Test.YtgmimhhehmahiaaQuePut
namespace Go.Proofs.Ytgmimhhehmahiaa
open Go.Conc Go.RowKit

theorem take_nil (w : World) : Calls Try.prog 14 #[.pointer none] w fun e w' => e = .returned (.tuple #[.slice none 0 0, .bool false]) ∧ w = w' := by
  go_enter Try.func14, Try.ntmps14
  go_wp2
  go_ret2
  exact ⟨rfl, rfl⟩

theorem Views.cons {w : World} {B : Nat} {vs : List Value} {l : List UInt8} {ls : List (List UInt8)} (h : Views w B vs (l :: ls)) : ∃ A c vs', vs = .slice A l.length c :: vs' ∧ l.length ≤ c ∧ c ≤ maxLen ∧ Sees w B A l ∧ Views w B vs' ls := by
  cases vs with
  | nil => exact absurd h.1 (by simp)
  | cons v vs' =>
    obtain ⟨A, c, rfl, h1, h2, h3⟩ := h.2 0 v l rfl rfl
    exact ⟨A, c, vs', rfl, h1, h2, h3, by simpa using h.1, fun i x m hx hm => h.2 (i + 1) x m (by simpa using hx) (by simpa using hm)⟩

theorem Que.pop {w : World} {q c room : Nat} {closed : Bool} {v : Value} {vs : List Value} {s r : Nat} {x : List UInt8} {xs : List (List UInt8)} (hq : w.heap[q]? = some (.cells #[.chan (some c), .bool closed] 49 (0, 0))) (hc : w.heap[c]? = some (.chan room (v :: vs).toArray false s r false)) (hv : Views w w.heap.size vs xs) (hlt : (x :: xs).length ≤ room) :
    Que (w.setChan c room vs.toArray false s (r + 1) false) q c room closed xs ∧ Only [c] w (w.setChan c room vs.toArray false s (r + 1) false) := by
  have hlq := (Array.getElem?_eq_some_iff.1 hq).1
  have hlc := (Array.getElem?_eq_some_iff.1 hc).1
  have hne : q ≠ c := fun e => by subst e; rw [hq] at hc; cases hc
  have ho := only_setChan (w := w) (Below.refl _ _) (c := c) room vs.toArray false s (r + 1) false
  refine ⟨⟨vs, s, r + 1, (ho.block q hlq (by simp; exact hne)).trans hq, heap_setChan _ _ _ _ _ _ _ _ hlc, by simp at hlt; omega, ?_⟩, ho⟩
  exact (Views.only hv ho (fun b hb => by rw [List.mem_singleton] at hb; subst hb; exact noByte_chan hc)).mono ho.size

set_option maxRecDepth 100000 in
theorem take_ok {q c room : Nat} {closed : Bool} {x : List UInt8} {xs : List (List UInt8)} (w : World) (h : Que w q c room closed (x :: xs)) :
    Calls Try.prog 14 #[.pointer (some ⟨q, 0, none⟩)] w fun e w' => ∃ A cp, e = .returned (.tuple #[.slice A x.length cp, .bool true]) ∧ x.length ≤ cp ∧ cp ≤ maxLen ∧ Sees w' w'.heap.size A x ∧ Que w' q c room closed xs ∧ Only [c] w w' := by
  obtain ⟨vs, s, r, h1, h2, h3, h4⟩ := h
  obtain ⟨A, cp, vs, rfl, hA1, hA2, hA3, h5⟩ := h4.cons
  have hcell0 : w.cell? ⟨q, 0, none⟩ = some (.chan (some c)) := by simp [World.cell?, h1]
  have hp := Que.pop h1 h2 h5 h3
  refine calls_of_loneTo (fun cs => ?_) (fun w' hno => by obtain ⟨_, _, h, _⟩ := hno; cases h)
  have e : Frame.enter Try.prog 14 #[.pointer (some ⟨q, 0, none⟩)] .normal = (base 14).at ⟨#[.pointer (some ⟨q, 0, none⟩), undef, undef, undef, undef, undef, undef, undef, undef, undef, undef, undef, undef, undef, undef, undef], []⟩ [.code (Try.f14.body.getD .skip)] := by
    simp [Frame.enter, Frame.at, Try.func14, base, Try.f14]
  rw [e]
  have HP := Lib.hid hp
  clear hp
  refine LoneTo.goes (n := 100) ?_
  simp only [Try.f14, Option.getD_some]
  s_c stepG_seq
  s_reg
  s_op
  s_op
  s_c stepG_region_end
  s_c stepG_seq
  s_c stepG_seq
  s_reg
  s_op
  s_op
  s_c stepG_region_end
  s_cond false
  s_c stepG_skip
  s_c stepG_seq
  s_reg
  s_op
  s_op
  s_op
  s_op
  s_c stepG_region_end
  s_c stepG_seq
  s_reg
  s_stop
  refine LoneTo.step (step_lone_select_recv_buf (c := c) (z := .slice none 0 0) (cap := room) (buf := (.slice A x.length cp :: vs).toArray) (s := s) (r := r) (tm := false) (stepG_comm (cases := #[rcase c (.slice none 0 0)]) (blocking := false) (shape := .select) (w' := w) rfl rfl (by decide) (by simp [go_sem, execOp, rcase, Act.eval])) h2 (by simp)) ?_
  rw [Frame.finish_at]
  have e1 : (Value.slice A x.length cp :: vs).toArray.extract 1 (Value.slice A x.length cp :: vs).toArray.size = vs.toArray := by simp
  have e2 : (Value.slice A x.length cp :: vs).toArray.getD 0 undef = .slice A x.length cp := by simp
  rw [e1, e2]
  walk_nrm
  refine LoneTo.goes (n := 100) ?_
  s_op
  s_op
  s_c stepG_region_end
  s_c stepG_block
  s_cond true
  s_c stepG_seq
  s_reg
  s_op
  s_op
  s_c stepG_region_end
  s_c stepG_seq
  s_reg
  s_op
  s_op
  s_op
  s_c stepG_region_end
  s_c stepG_ret'
  s_stop
  refine LoneTo.done ⟨.returned (.tuple #[.slice A x.length cp, .bool true]), _, rfl, ⟨A, cp, rfl, hA1, hA2, ?_, HP.out.1, HP.out.2⟩, rfl, rfl, rfl, rfl, _, Try.func14, by simp [results, Try.f14, Frame.at]⟩
  exact (hA3.only HP.out.2 (fun b hb => by rw [List.mem_singleton] at hb; subst hb; exact noByte_chan h2)).mono HP.out.2.size

set_option maxRecDepth 100000 in
theorem take_none {q c room : Nat} {closed : Bool} (w : World) (h : Que w q c room closed []) :
    Calls Try.prog 14 #[.pointer (some ⟨q, 0, none⟩)] w fun e w' => e = .returned (.tuple #[.slice none 0 0, .bool false]) ∧ w = w' := by
  obtain ⟨vs, s, r, h1, h2, h3, h4⟩ := h
  have hcell0 : w.cell? ⟨q, 0, none⟩ = some (.chan (some c)) := by simp [World.cell?, h1]
  obtain rfl : vs = [] := List.eq_nil_of_length_eq_zero (by simpa using h4.1)
  refine calls_of_loneTo fun cs => ?_
  have e : Frame.enter Try.prog 14 #[.pointer (some ⟨q, 0, none⟩)] .normal = (base 14).at ⟨#[.pointer (some ⟨q, 0, none⟩), undef, undef, undef, undef, undef, undef, undef, undef, undef, undef, undef, undef, undef, undef, undef], []⟩ [.code (Try.f14.body.getD .skip)] := by
    simp [Frame.enter, Frame.at, Try.func14, base, Try.f14]
  rw [e]
  refine LoneTo.goes (n := 100) ?_
  simp only [Try.f14, Option.getD_some]
  s_c stepG_seq
  s_reg
  s_op
  s_op
  s_c stepG_region_end
  s_c stepG_seq
  s_c stepG_seq
  s_reg
  s_op
  s_op
  s_c stepG_region_end
  s_cond false
  s_c stepG_skip
  s_c stepG_seq
  s_reg
  s_op
  s_op
  s_op
  s_op
  s_c stepG_region_end
  s_c stepG_seq
  s_reg
  s_stop
  refine LoneTo.step (step_lone_select_default (c := c) (z := .slice none 0 0) (cap := room) (s := s) (r := r) (tm := false) (stepG_comm (cases := #[rcase c (.slice none 0 0)]) (blocking := false) (shape := .select) (w' := w) rfl rfl (by decide) (by simp [go_sem, execOp, rcase, Act.eval])) h2) ?_
  rw [Frame.finish_at]
  walk_nrm
  refine LoneTo.goes (n := 100) ?_
  s_op
  s_op
  s_c stepG_region_end
  s_c stepG_block
  s_cond false
  s_c stepG_seq
  s_reg
  s_op
  s_op
  s_c stepG_region_end
  s_c stepG_ret'
  s_stop
  exact LoneTo.done ⟨.returned (.tuple #[.slice none 0 0, .bool false]), _, rfl, ⟨rfl, rfl⟩, rfl, rfl, rfl, rfl, _, Try.func14, by simp [results, Try.f14, Frame.at]⟩
end Go.Proofs.Ytgmimhhehmahiaa
