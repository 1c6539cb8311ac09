/- QueuePlays: the mirror's row made anew: append(append([]string{}, row..), s), in whatever order Go takes its operations. -/
import Derived.Test.YtgmimhhehmahiaaQueStep
import Derived.Test.YtgmimhhehmahiaaRegion
namespace Go.Proofs.Ytgmimhhehmahiaa
open Go.Conc Go.RowKit
set_option linter.unusedVariables false

/-- What is known of such a region: the fixed values; the empty literal; the row once appended to; the element's own block; the new row. -/
def GM (pure : List (Nat × Value)) (e : TypeId) (wp : World) (F : List ByteArray) (s : ByteArray) (Fin : World → Prop) (b z i1 iO i2 iS : Nat) (L : Nat → Bool) (E : Nat → Value) (w : World) : Prop :=
  (L iS = false → Below wp.heap.size wp w) ∧ (L iS = true → Fin w) ∧ (∀ p ∈ pure, L p.1 = true → E (b + p.1) = p.2) ∧
  (L z = true → L i1 = false → ∃ g, wp.heap.size ≤ g ∧ E (b + z) = .slice (some ⟨g, 0, none⟩) 0 0 ∧ w.heap[g]? = some (.cells #[] e (0, 0))) ∧
  (L i1 = true → L i2 = false → w.ownsRow wp.heap.size e 1 (E (b + i1)) F.length (sv F)) ∧
  (L iO = true → L i2 = false → ∃ g, wp.heap.size ≤ g ∧ E (b + iO) = .slice (some ⟨g, 0, none⟩) 1 1 ∧ w.heap[g]? = some (.cells #[.string s] e (0, 0))) ∧
  (L i2 = true → L iS = false → w.ownsRow wp.heap.size e 1 (E (b + i2)) (F.length + 1) (sv (F ++ [s])))

section
variable {pure : List (Nat × Value)} {e : TypeId} {wp w : World} {F : List ByteArray} {s : ByteArray} {Fin : World → Prop} {b z i1 iO i2 iS : Nat} {L : Nat → Bool} {E : Nat → Value}

theorem setE_ne (E : Nat → Value) (v : Value) {x t : Nat} (h : t ≠ x) : setE E (some x) v t = E t := by simp [setE, h]
theorem setE_self (E : Nat → Value) (v : Value) (x : Nat) : setE E (some x) v x = v := by simp [setE]

theorem GM.start (h : Below wp.heap.size wp w) : GM pure e wp F s Fin b z i1 iO i2 iS (fun _ => false) E w :=
  ⟨fun _ => h, fun h => (by cases h), fun _ _ h => (by cases h), fun h => (by cases h), fun h => (by cases h), fun h => (by cases h), fun h => (by cases h)⟩

theorem GM.quiet (h : GM pure e wp F s Fin b z i1 iO i2 iS L E w) (i : Nat) (v : Value) (x : Nat) (hx : x = b + i) (hn : i ≠ z ∧ i ≠ i1 ∧ i ≠ iO ∧ i ≠ i2 ∧ i ≠ iS) (hv : ∀ p ∈ pure, p.1 = i → v = p.2) : GM pure e wp F s Fin b z i1 iO i2 iS (setL L i) (setE E (some x) v) w := by
  subst hx
  obtain ⟨n1, n2, n3, n4, n5⟩ := hn
  obtain ⟨h1, h2, h3, h4, h5, h6, h7⟩ := h
  unfold GM
  rw [setL_ne L n1.symm, setL_ne L n2.symm, setL_ne L n3.symm, setL_ne L n4.symm, setL_ne L n5.symm, setE_ne E v (by omega), setE_ne E v (by omega), setE_ne E v (by omega), setE_ne E v (by omega)]
  refine ⟨h1, h2, fun p hp hl => ?_, h4, h5, h6, h7⟩
  by_cases e1 : p.1 = i
  · rw [e1, setE_self]; exact hv p hp e1
  · rw [setL_ne L e1] at hl
    rw [setE_ne E v (by omega)]; exact h3 p hp hl

theorem GM.empty (h : GM pure e wp F s Fin b z i1 iO i2 iS L E w) (x : Nat) (hx : x = b + z) (hn : z ≠ i1 ∧ z ≠ iO ∧ z ≠ i2 ∧ z ≠ iS) (hp : ∀ p ∈ pure, p.1 ≠ z) (hS : L iS = false) (N : Nat) (hN : N = w.heap.size) :
    GM pure e wp F s Fin b z i1 iO i2 iS (setL L z) (setE E (some x) (.slice (some ⟨N, 0, none⟩) 0 0)) (w.alloc (.cells #[] e)) := by
  subst hx hN
  obtain ⟨n2, n3, n4, n5⟩ := hn
  obtain ⟨h1, h2, h3, h4, h5, h6, h7⟩ := h
  have hb := h1 hS
  unfold GM
  rw [setL_self, setL_ne L n2.symm, setL_ne L n3.symm, setL_ne L n4.symm, setL_ne L n5.symm, setE_self, setE_ne E _ (by omega), setE_ne E _ (by omega), setE_ne E _ (by omega)]
  refine ⟨fun _ => bel_alloc hb _, fun h => (by rw [hS] at h; cases h), fun p hq hl => ?_, fun _ _ => ⟨_, hb.size, rfl, heap_alloc_new _ _⟩, fun a c => (h5 a c).alloc _, fun a c => ?_, fun a c => (h7 a c).alloc _⟩
  · rw [setL_ne L (hp p hq)] at hl
    rw [setE_ne E _ (by have := hp p hq; omega)]; exact h3 p hq hl
  · obtain ⟨g, e1, e2, e3⟩ := h6 a c
    exact ⟨g, e1, e2, heap_past _ _ (Array.getElem?_eq_some_iff.1 e3).1 _ e3⟩
theorem GM.one (h : GM pure e wp F s Fin b z i1 iO i2 iS L E w) (x : Nat) (hx : x = b + iO) (hn : iO ≠ i1 ∧ iO ≠ z ∧ iO ≠ i2 ∧ iO ≠ iS) (hp : ∀ p ∈ pure, p.1 ≠ iO) (hS : L iS = false) (N : Nat) (hN : N = w.heap.size) :
    GM pure e wp F s Fin b z i1 iO i2 iS (setL L iO) (setE E (some x) (.slice (some ⟨N, 0, none⟩) 1 1)) (w.alloc (.cells #[.string s] e)) := by
  subst hx hN
  obtain ⟨n2, n3, n4, n5⟩ := hn
  obtain ⟨h1, h2, h3, h4, h5, h6, h7⟩ := h
  have hb := h1 hS
  unfold GM
  rw [setL_self, setL_ne L n2.symm, setL_ne L n3.symm, setL_ne L n4.symm, setL_ne L n5.symm, setE_self, setE_ne E _ (by omega), setE_ne E _ (by omega), setE_ne E _ (by omega)]
  refine ⟨fun _ => bel_alloc hb _, fun h => (by rw [hS] at h; cases h), fun p hq hl => ?_, fun a c => ?_, fun a c => (h5 a c).alloc _, fun _ _ => ⟨_, hb.size, rfl, heap_alloc_new _ _⟩, fun a c => (h7 a c).alloc _⟩
  · rw [setL_ne L (hp p hq)] at hl
    rw [setE_ne E _ (by have := hp p hq; omega)]; exact h3 p hq hl
  · obtain ⟨g, e1, e2, e3⟩ := h4 a c
    exact ⟨g, e1, e2, heap_past _ _ (Array.getElem?_eq_some_iff.1 e3).1 _ e3⟩
theorem GM.app1 (h : GM pure e wp F s Fin b z i1 iO i2 iS L E w) (x : Nat) (hx : x = b + i1) (hn : i1 ≠ z ∧ i1 ≠ iO ∧ i1 ≠ i2 ∧ i1 ≠ iS) (hp : ∀ p ∈ pure, p.1 ≠ i1) (hS : L iS = false) (h2l : L i2 = false) {w' : World} {v : Value} (hown : w'.ownsRow wp.heap.size e 1 v F.length (sv F))
    (hg : ∃ b, w.grownBy w' (some b) ∧ w.heap[b]? = some (.cells #[] e (0, 0))) (hbl : Below wp.heap.size w w') :
    GM pure e wp F s Fin b z i1 iO i2 iS (setL L i1) (setE E (some x) v) w' := by
  subst hx
  obtain ⟨n2, n3, n4, n5⟩ := hn
  obtain ⟨h1, h2, h3, h4, h5, h6, h7⟩ := h
  have hb := h1 hS
  unfold GM
  rw [setL_self, setL_ne L n2.symm, setL_ne L n3.symm, setL_ne L n4.symm, setL_ne L n5.symm, setE_self, setE_ne E _ (by omega), setE_ne E _ (by omega), setE_ne E _ (by omega)]
  refine ⟨fun _ => hb.trans hbl, fun h => (by rw [hS] at h; cases h), fun p hq hl => ?_, fun _ c => (by cases c), fun _ _ => hown, fun a c => ?_, fun a c => (by rw [h2l] at a; cases a)⟩
  · rw [setL_ne L (hp p hq)] at hl
    rw [setE_ne E _ (by have := hp p hq; omega)]; exact h3 p hq hl
  · obtain ⟨g, e1, e2, e3⟩ := h6 a c
    exact ⟨g, e1, e2, heap_grown' hg g e3 (by simp)⟩
theorem GM.app2 (h : GM pure e wp F s Fin b z i1 iO i2 iS L E w) (x : Nat) (hx : x = b + i2) (hn : i2 ≠ z ∧ i2 ≠ iO ∧ i2 ≠ i1 ∧ i2 ≠ iS) (hp : ∀ p ∈ pure, p.1 ≠ i2) (hS : L iS = false) (h1l : L i1 = true) {w' : World} {v : Value} (hown : w'.ownsRow wp.heap.size e 1 v (F.length + 1) (sv (F ++ [s])))
    (hbl : Below wp.heap.size w w') :
    GM pure e wp F s Fin b z i1 iO i2 iS (setL L i2) (setE E (some x) v) w' := by
  subst hx
  obtain ⟨n2, n3, n4, n5⟩ := hn
  obtain ⟨h1, h2, h3, h4, h5, h6, h7⟩ := h
  have hb := h1 hS
  unfold GM
  rw [setL_self, setL_ne L n2.symm, setL_ne L n3.symm, setL_ne L n4.symm, setL_ne L n5.symm, setE_self, setE_ne E _ (by omega), setE_ne E _ (by omega), setE_ne E _ (by omega)]
  refine ⟨fun _ => hb.trans hbl, fun h => (by rw [hS] at h; cases h), fun p hq hl => ?_, fun a c => (by rw [h1l] at c; cases c), fun _ c => (by cases c), fun _ c => (by cases c), fun _ _ => hown⟩
  rw [setL_ne L (hp p hq)] at hl
  rw [setE_ne E _ (by have := hp p hq; omega)]; exact h3 p hq hl
theorem GM.store (h : GM pure e wp F s Fin b z i1 iO i2 iS L E w) (v : Value) (hn : iS ≠ z ∧ iS ≠ iO ∧ iS ≠ i1 ∧ iS ≠ i2) (hp : ∀ p ∈ pure, p.1 ≠ iS) (h1l : L i1 = true) (h2l : L i2 = true) {w' : World} (hf : Fin w') :
    GM pure e wp F s Fin b z i1 iO i2 iS (setL L iS) (setE E none v) w' := by
  obtain ⟨n2, n3, n4, n5⟩ := hn
  obtain ⟨h1, h2, h3, h4, h5, h6, h7⟩ := h
  unfold GM
  rw [setL_self, setL_ne L n2.symm, setL_ne L n3.symm, setL_ne L n4.symm, setL_ne L n5.symm]
  refine ⟨fun c => (by cases c), fun _ => hf, fun p hq hl => ?_, fun a c => (by rw [h1l] at c; cases c), fun _ c => (by rw [h2l] at c; cases c), fun _ c => (by rw [h2l] at c; cases c), fun _ c => (by cases c)⟩
  rw [setL_ne L (hp p hq)] at hl
  exact h3 p hq hl
end
end Go.Proofs.Ytgmimhhehmahiaa
