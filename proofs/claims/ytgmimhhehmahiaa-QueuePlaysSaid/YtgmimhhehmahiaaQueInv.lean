/- Three queues, their mirror (rows of strings, marks of what is closed), and what each call on them makes of both. -/
import Derived.Test.YtgmimhhehmahiaaQueClosesW
namespace Go.Proofs.Ytgmimhhehmahiaa
open Go.Conc Go.RowKit
set_option linter.unusedVariables false

def upd {α : Type} (F : Nat → α) (k : Nat) (x : α) : Nat → α := fun j => if j = k then x else F j
theorem upd_same {α : Type} (F : Nat → α) (k : Nat) (x : α) : upd F k x k = x := if_pos rfl
theorem upd_other {α : Type} (F : Nat → α) {k j : Nat} (x : α) (h : j ≠ k) : upd F k x j = F j := if_neg h
theorem upd_self {α : Type} (F : Nat → α) (k : Nat) : upd F k (F k) = F := by
  funext j; unfold upd; split <;> simp_all

/-! ### stores at one address -/
theorem Strs.setCell {w : World} {B : Nat} {A : Option Addr} {ss : List ByteArray} (h : Strs w B A ss) {a : Addr} {v : Value} (hold : w.cell? a = some v) (hv : ∀ s, v ≠ .string s) (u : Value) : Strs (w.setCell a u) B A ss := fun hn => by
  obtain ⟨g, o, e, hg, hc⟩ := h hn
  refine ⟨g, o, e, hg, fun j hj => ?_⟩
  refine (World.cell?_setCell_other _ _ _ _ (fun he => ?_)).trans (hc j hj)
  have := hc j hj
  rw [← he, hold] at this
  exact hv _ (Option.some.inj this)
theorem Sees.setCell {w : World} {B : Nat} {A : Option Addr} {l : List UInt8} (h : Sees w B A l) {a : Addr} {v : Value} (hold : w.cell? a = some v) (hv : ∀ n, v ≠ .int .u8 n) (u : Value) : Sees (w.setCell a u) B A l := fun hn => by
  obtain ⟨g, o, e, hg, hc⟩ := h hn
  refine ⟨g, o, e, hg, fun j hj => ?_⟩
  refine (World.cell?_setCell_other _ _ _ _ (fun he => ?_)).trans (hc j hj)
  have := hc j hj
  rw [← he, hold] at this
  exact hv _ (Option.some.inj this)
theorem size_setCell (w : World) (a : Addr) (u : Value) : (w.setCell a u).heap.size = w.heap.size := by simp [World.setCell]
theorem Que.setCell {w : World} {q c room : Nat} {closed : Bool} {xs : List (List UInt8)} (h : Que w q c room closed xs) {a : Addr} {v : Value} (hold : w.cell? a = some v) (hv : ∀ n, v ≠ .int .u8 n) (hq : q ≠ a.block) (hc : c ≠ a.block) (u : Value) : Que (w.setCell a u) q c room closed xs := by
  obtain ⟨vs, s, r, h1, h2, h3, h4⟩ := h
  refine ⟨vs, s, r, (Below.heap_setCell _ _ _ _ hq).trans h1, (Below.heap_setCell _ _ _ _ hc).trans h2, h3, h4.1, fun i x l hx hl => ?_⟩
  obtain ⟨A, cp, e, e1, e2, e3⟩ := h4.2 i x l hx hl
  rw [size_setCell]
  exact ⟨A, cp, e, e1, e2, e3.setCell hold hv u⟩

/-- A block that holds no string. -/
def NoStr (w : World) (b : Nat) : Prop := ∀ o s, w.cell? ⟨b, o, none⟩ ≠ some (.string s)
theorem Que.noStr {w : World} {q c room : Nat} {closed : Bool} {xs : List (List UInt8)} (h : Que w q c room closed xs) : NoStr w q ∧ NoStr w c := by
  obtain ⟨vs, s, r, h1, h2, _⟩ := h
  refine ⟨fun o n e => ?_, fun o n e => ?_⟩
  · simp [World.cell?, h1] at e
    match o, e with
    | 0, e => simp at e
    | 1, e => simp at e
    | k + 2, e => simp at e
  · simp [World.cell?, h2] at e
theorem Strs.only {w w' : World} {S : List Nat} {B : Nat} {A : Option Addr} {ss : List ByteArray} (h : Strs w B A ss) (ho : Only S w w') (hn : ∀ s, s ∈ S → NoStr w s) : Strs w' B A ss := fun hne => by
  obtain ⟨g, o, e, hg, hc⟩ := h hne
  have hpos : 0 < ss.length := List.length_pos_iff.2 hne
  have h0 := hc 0 hpos
  have hlt : g < w.heap.size := World.block_lt_of_cell? w _ h0
  have hns : g ∉ S := fun hi => hn g hi _ _ h0
  exact ⟨g, o, e, hg, fun j hj => (World.cell?_of_block (w := w) (a := ⟨g, o + j, none⟩) (ho.block g hlt hns)).trans (hc j hj)⟩
theorem Strs.mono {w : World} {B B' : Nat} {A : Option Addr} {ss : List ByteArray} (h : Strs w B A ss) (hB : B ≤ B') : Strs w B' A ss := fun hn => by
  obtain ⟨g, o, e, hg, hc⟩ := h hn
  exact ⟨g, o, e, by omega, hc⟩

structure Inv (w : World) (N room : Nat) (Fq Fw : Nat → List ByteArray) (Cq Ck : Nat → Bool) : Prop where
  que : ∀ j, j < 3 → Que w (N + 2 * j + 1) (N + 2 * j) room (Cq j) (elems (Fq j))
  ptr : ∀ j, j < 3 → w.cell? ⟨N + 6, j, none⟩ = some (.pointer (some ⟨N + 2 * j + 1, 0, none⟩))
  row : ∀ j, j < 3 → ∃ A cap, w.cell? ⟨N + 7, j, none⟩ = some (.slice A (Fw j).length cap) ∧ (Fw j).length ≤ cap ∧ cap ≤ maxLen ∧ Strs w w.heap.size A (Fw j)
  rowf : ∀ j, j < 3 → w.frozen? ⟨N + 7, j, none⟩ = false
  clo : ∀ j, j < 3 → w.cell? ⟨N + 8, j, none⟩ = some (.bool (Ck j))
  clof : ∀ j, j < 3 → w.frozen? ⟨N + 8, j, none⟩ = false
  small : ∀ j, j < 3 → ∀ s, s ∈ Fq j → s.size ≤ 100
  size : N + 9 ≤ w.heap.size

/-- Only the queues' own blocks have turned. -/
def Step (N : Nat) (w w' : World) : Prop := ∃ S, (∀ s, s ∈ S → N ≤ s ∧ s < N + 6) ∧ Only S w w'
theorem Step.below {N B : Nat} {w w' : World} (h : Step N w w') (hB : B ≤ w.heap.size) (hN : B ≤ N) : Below B w w' := by
  obtain ⟨S, hS, ho⟩ := h
  exact ho.below hB (fun s hs => by have := hS s hs; omega)
theorem Step.block {N : Nat} {w w' : World} (h : Step N w w') {b : Nat} (hb : N + 6 ≤ b) (hlt : b < w.heap.size) : w'.heap[b]? = w.heap[b]? := by
  obtain ⟨S, hS, ho⟩ := h
  exact ho.block b hlt (fun hi => by have := hS b hi; omega)
theorem Step.size {N : Nat} {w w' : World} (h : Step N w w') : w.heap.size ≤ w'.heap.size := by
  obtain ⟨S, hS, ho⟩ := h
  exact ho.size
theorem Step.of_below {N : Nat} {w w' : World} (h : Below w.heap.size w w') : Step N w w' := ⟨[], (fun s hs => absurd hs (by simp)), Only.of_below h⟩
theorem Step.of_only {N : Nat} {w w' : World} {S : List Nat} (ho : Only S w w') (hS : ∀ s, s ∈ S → N ≤ s ∧ s < N + 6) : Step N w w' := ⟨S, hS, ho⟩

theorem Inv.step {w w' : World} {N room : Nat} {Fq Fw Fq' : Nat → List ByteArray} {Cq Ck Cq' : Nat → Bool} (h : Inv w N room Fq Fw Cq Ck) (hs : Step N w w')
    (hq : ∀ j, j < 3 → Que w' (N + 2 * j + 1) (N + 2 * j) room (Cq' j) (elems (Fq' j))) (hsm : ∀ j, j < 3 → ∀ s, s ∈ Fq' j → s.size ≤ 100) : Inv w' N room Fq' Fw Cq' Ck := by
  have hz := h.size
  have hz' := hs.size
  refine ⟨hq, fun j hj => ?_, fun j hj => ?_, fun j hj => ?_, fun j hj => ?_, fun j hj => ?_, hsm, by omega⟩
  · exact (World.cell?_of_block (w := w) (a := ⟨N + 6, j, none⟩) (hs.block (by show N + 6 ≤ N + 6; omega) (by show N + 6 < _; omega))).trans (h.ptr j hj)
  · obtain ⟨A, cap, h1, h2, h3, h4⟩ := h.row j hj
    refine ⟨A, cap, (World.cell?_of_block (w := w) (a := ⟨N + 7, j, none⟩) (hs.block (by show N + 6 ≤ N + 7; omega) (by show N + 7 < _; omega))).trans h1, h2, h3, ?_⟩
    obtain ⟨S, hS, ho⟩ := hs
    refine (h4.only ho (fun s hs' => ?_)).mono hz'
    have hb := hS s hs'
    have hq1 := h.que ((s - N) / 2) (by omega)
    by_cases he : (s - N) % 2 = 0
    · have e : s = N + 2 * ((s - N) / 2) := by omega
      rw [e]; exact hq1.noStr.2
    · have e : s = N + 2 * ((s - N) / 2) + 1 := by omega
      rw [e]; exact hq1.noStr.1
  · exact (World.frozen?_of_block (w := w) (a := ⟨N + 7, j, none⟩) (hs.block (by show N + 6 ≤ N + 7; omega) (by show N + 7 < _; omega))).trans (h.rowf j hj)
  · exact (World.cell?_of_block (w := w) (a := ⟨N + 8, j, none⟩) (hs.block (by show N + 6 ≤ N + 8; omega) (by show N + 8 < _; omega))).trans (h.clo j hj)
  · exact (World.frozen?_of_block (w := w) (a := ⟨N + 8, j, none⟩) (hs.block (by show N + 6 ≤ N + 8; omega) (by show N + 8 < _; omega))).trans (h.clof j hj)
theorem Inv.below {w w' : World} {N room : Nat} {Fq Fw : Nat → List ByteArray} {Cq Ck : Nat → Bool} (h : Inv w N room Fq Fw Cq Ck) (hb : Below w.heap.size w w') : Inv w' N room Fq Fw Cq Ck :=
  h.step (.of_below hb) (fun j hj => (h.que j hj).below hb) h.small
theorem Inv.drewN {w : World} {N room : Nat} {Fq Fw : Nat → List ByteArray} {Cq Ck : Nat → Bool} (h : Inv w N room Fq Fw Cq Ck) (n : Nat) : Inv (w.drewN n) N room Fq Fw Cq Ck :=
  h.below (below_drewN (Below.refl _ _) n)
/-- One queue is written to. -/
theorem Inv.one {w w' : World} {N room : Nat} {Fq Fw : Nat → List ByteArray} {Cq Ck : Nat → Bool} (h : Inv w N room Fq Fw Cq Ck) {k : Nat} (hk : k < 3) {s : Nat} (hs : s = N + 2 * k + 1 ∨ s = N + 2 * k) (ho : Only [s] w w') {l : List ByteArray} {c : Bool}
    (hq : Que w' (N + 2 * k + 1) (N + 2 * k) room c (elems l)) (hsm : ∀ x, x ∈ l → x.size ≤ 100) : Inv w' N room (upd Fq k l) Fw (upd Cq k c) Ck ∧ Step N w w' := by
  have hst : Step N w w' := .of_only ho (fun b hb => by rw [List.mem_singleton] at hb; omega)
  refine ⟨h.step hst (fun j hj => ?_) (fun j hj => ?_), hst⟩
  · by_cases e : j = k
    · subst e; rw [upd_same, upd_same]; exact hq
    · rw [upd_other _ _ e, upd_other _ _ e]
      exact (h.que j hj).beside (h.que k hk) hs ho (by omega) (by omega)
  · by_cases e : j = k
    · subst e; rw [upd_same]; exact hsm
    · rw [upd_other _ _ e]; exact h.small j hj

theorem Inv.putRow {w : World} {N room : Nat} {Fq Fw : Nat → List ByteArray} {Cq Ck : Nat → Bool} (h : Inv w N room Fq Fw Cq Ck) {k : Nat} (hk : k < 3) {A : Option Addr} {n cap : Nat} {l : List ByteArray} (hn : n = l.length) (h1 : n ≤ cap) (h2 : cap ≤ maxLen) (h3 : Strs w w.heap.size A l) :
    Inv (w.setCell ⟨N + 7, k, none⟩ (.slice A n cap)) N room Fq (upd Fw k l) Cq Ck := by
  subst hn
  obtain ⟨A0, cap0, hold, _⟩ := h.row k hk
  have nb : ∀ n, (Value.slice A0 (Fw k).length cap0) ≠ .int .u8 n := fun n e => by cases e
  have ns : ∀ s, (Value.slice A0 (Fw k).length cap0) ≠ .string s := fun s e => by cases e
  refine ⟨fun j hj => (h.que j hj).setCell hold nb (by show _ ≠ N + 7; omega) (by show _ ≠ N + 7; omega) _, fun j hj => (World.cell?_setCell_other _ _ _ _ (by simp)).trans (h.ptr j hj), fun j hj => ?_, fun j hj => (World.frozen?_setCell _ _ _ _).trans (h.rowf j hj),
    fun j hj => (World.cell?_setCell_other _ _ _ _ (by simp)).trans (h.clo j hj), fun j hj => (World.frozen?_setCell _ _ _ _).trans (h.clof j hj), h.small, by rw [size_setCell]; exact h.size⟩
  rw [size_setCell]
  by_cases e : j = k
  · subst e
    rw [upd_same]
    exact ⟨A, cap, World.cell?_setCell_same _ _ _ hold, h1, h2, h3.setCell hold ns _⟩
  · rw [upd_other _ _ e]
    obtain ⟨A1, cap1, e1, e2, e3, e4⟩ := h.row j hj
    exact ⟨A1, cap1, (World.cell?_setCell_other _ _ _ _ (fun hh => e (by injection hh with _ hh _; exact hh.symm))).trans e1, e2, e3, e4.setCell hold ns _⟩
theorem Inv.putClo {w : World} {N room : Nat} {Fq Fw : Nat → List ByteArray} {Cq Ck : Nat → Bool} (h : Inv w N room Fq Fw Cq Ck) {k : Nat} (hk : k < 3) (b : Bool) :
    Inv (w.setCell ⟨N + 8, k, none⟩ (.bool b)) N room Fq Fw Cq (upd Ck k b) := by
  have hold := h.clo k hk
  have nb : ∀ n, (Value.bool (Ck k)) ≠ .int .u8 n := fun n e => by cases e
  have ns : ∀ s, (Value.bool (Ck k)) ≠ .string s := fun s e => by cases e
  refine ⟨fun j hj => (h.que j hj).setCell hold nb (by show _ ≠ N + 8; omega) (by show _ ≠ N + 8; omega) _, fun j hj => (World.cell?_setCell_other _ _ _ _ (by simp)).trans (h.ptr j hj), fun j hj => ?_, fun j hj => (World.frozen?_setCell _ _ _ _).trans (h.rowf j hj),
    fun j hj => ?_, fun j hj => (World.frozen?_setCell _ _ _ _).trans (h.clof j hj), h.small, by rw [size_setCell]; exact h.size⟩
  · obtain ⟨A1, cap1, e1, e2, e3, e4⟩ := h.row j hj
    rw [size_setCell]
    exact ⟨A1, cap1, (World.cell?_setCell_other _ _ _ _ (by simp)).trans e1, e2, e3, e4.setCell hold ns _⟩
  · by_cases e : j = k
    · subst e; rw [upd_same]; exact World.cell?_setCell_same _ _ _ hold
    · rw [upd_other _ _ e]
      exact (World.cell?_setCell_other _ _ _ _ (fun hh => e (by injection hh with _ hh _; exact hh.symm))).trans (h.clo j hj)
end Go.Proofs.Ytgmimhhehmahiaa
