/- A row of bytes that nothing else holds: []byte(s). -/
import Derived.Test.YtgkibkophoikoaaDoorSees
namespace Go.Proofs.YtgkibkophoikoaaDoor
open Go.RowKit

/-- Row g: the bytes l, none frozen, whatever lies behind them. -/
def ByteRow (w : World) (g : Nat) (e : TypeId) (l : List UInt8) : Prop :=
  ∃ C : Array Value, w.heap[g]? = some (.cells C e (C.size, C.size + 1)) ∧ l.length ≤ C.size ∧ ∀ j (h : j < l.length), C[j]? = some (.int .u8 (l[j].toNat : Int))

theorem ByteRow.cell {w : World} {g : Nat} {e : TypeId} {l : List UInt8} (h : ByteRow w g e l) (j : Nat) (hj : j < l.length) : w.cell? ⟨g, j, none⟩ = some (.int .u8 (l[j].toNat : Int)) := by
  obtain ⟨C, hC, _, hc⟩ := h
  simp [World.cell?, hC, hc j hj]
theorem ByteRow.frozen {w : World} {g : Nat} {e : TypeId} {l : List UInt8} (h : ByteRow w g e l) (j : Nat) (hj : j < l.length) : w.frozen? ⟨g, j, none⟩ = false := by
  obtain ⟨C, hC, hs, hc⟩ := h
  simp [World.frozen?, hC]; omega
theorem ByteRow.lt {w : World} {g : Nat} {e : TypeId} {l : List UInt8} (h : ByteRow w g e l) : g < w.heap.size := by
  obtain ⟨C, hC, _⟩ := h
  exact (Array.getElem?_eq_some_iff.1 hC).1
theorem ByteRow.store {w : World} {g : Nat} {e : TypeId} {l : List UInt8} (h : ByteRow w g e l) (j : Nat) (b : UInt8) : ByteRow (w.setCell ⟨g, j, none⟩ (.int .u8 (b.toNat : Int))) g e (l.set j b) := by
  obtain ⟨C, hC, hs, hc⟩ := h
  refine ⟨C.setIfInBounds j (.int .u8 (b.toNat : Int)), ?_, by simpa using hs, ?_⟩
  · simp [World.setCell, Array.getElem?_modify, hC]
  · intro i hi
    have hi' : i < l.length := by simpa using hi
    by_cases he : j = i
    · subst he
      have hlt : j < C.size := by omega
      simp [hlt]
    · rw [Array.getElem?_setIfInBounds_ne he, hc i hi']
      simp [he]
theorem ByteRow.drewN {w : World} {g : Nat} {e : TypeId} {l : List UInt8} (h : ByteRow w g e l) (q : Nat) : ByteRow (w.drewN q) g e l := h

theorem ByteRow.sees {w : World} {g : Nat} {e : TypeId} {l : List UInt8} (h : ByteRow w g e l) : Sees w (g + 1) (some ⟨g, 0, none⟩) l := fun _ =>
  ⟨g, 0, rfl, by omega, fun j hj => by rw [Nat.zero_add]; exact h.cell j hj⟩
theorem run_bytes_row {P : Program} (w : World) (src dst e : TypeId) (s : ByteArray) (hs : P.underlying src = some .string) (hd : P.underlying dst = some (.slice e)) (he : P.underlying e = some (.int .u8)) :
    ∃ cap w', (convert src dst (.string s)).run P w = .ok (.slice (some ⟨w.heap.size, 0, none⟩) s.size cap) w' ∧ ByteRow w' w.heap.size e s.data.toList ∧ Below w.heap.size w w' ∧ w'.heap.size = w.heap.size + 1 ∧ s.size ≤ cap ∧ (s.size ≤ maxLen → cap ≤ maxLen) := by
  refine ⟨_, _, run_bytes_of_string w src dst e s hs hd he, ⟨bytesRow s (grownCap w s.size 0 e), ?_, ?_, ?_⟩, ?_, ?_, grownCap_ge w s.size 0 e, grownCap_le_maxLen w s.size 0 e⟩
  · show (w.heap.push _)[w.heap.size]? = _
    simp
  · simp [bytesRow]
  · intro j hj
    exact bytesRow_at s _ j (by simpa using hj)
  · exact (Below.refl _ _).drew.alloc (Nat.le_refl _) _
  · simp

theorem add_at (g j : Nat) : (⟨g, 0, none⟩ : Addr).add j = ⟨g, j, none⟩ := by
  unfold Addr.add; by_cases h : j = 0 <;> simp [h]

end Go.Proofs.YtgkibkophoikoaaDoor
