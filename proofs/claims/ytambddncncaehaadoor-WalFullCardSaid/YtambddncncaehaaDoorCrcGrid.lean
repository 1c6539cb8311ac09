/- crc's table in other worlds; literals' rows of slices. -/
import Derived.Test.YtambddncncaehaaDoorCrcOf
import Derived.Lib.SlBytesConst
namespace Go.Proofs.YtambddncncaehaaDoor
open Go.RowKit

theorem TabAt.below {w w' : World} {g B : Nat} (h : TabAt w g) (hb : Below B w w') (hB : w.heap.size ≤ B) : TabAt w' g := fun i hi => by
  have hlt := World.block_lt_of_cell? w _ (h i hi)
  exact (hb.cell (p := ⟨g, i, none⟩) (by show g < B; have : g < w.heap.size := hlt; omega)).trans (h i hi)
theorem TabAt.alloc {w : World} {g : Nat} (h : TabAt w g) (o : Obj) : TabAt (w.alloc o) g := h.below ((Below.refl w.heap.size w).alloc (Nat.le_refl _) o) (Nat.le_refl _)
theorem Sees.alloc {w : World} {B : Nat} {A : Option Addr} {l : List UInt8} (h : Sees w B A l) (hB : B ≤ w.heap.size) (o : Obj) : Sees (w.alloc o) B A l := h.below ((Below.refl w.heap.size w).alloc (Nat.le_refl _) o) hB

/-- A literal's row of slices. -/
theorem grid_new (w : World) (e : TypeId) (cs : Array Value) (ls : List (List UInt8)) (h : Views w w.heap.size cs.toList ls) (N : Nat) (hN : N = w.heap.size) : Grid (w.alloc (.cells cs e)) (N + 1) (some ⟨N, 0, none⟩) ls := fun _ => by
  subst hN
  refine ⟨w.heap.size, 0, rfl, by omega, fun j hj => ?_⟩
  have hj' : j < cs.toList.length := by rw [h.1]; exact hj
  obtain ⟨A, c, e1, h1, h2, h3⟩ := h.2 j _ _ (List.getElem?_eq_getElem hj') (List.getElem?_eq_getElem hj)
  refine ⟨A, c, ?_, h1, h2, (h3.alloc (Nat.le_refl _) _).mono (by omega)⟩
  rw [Nat.zero_add, World.cell?_alloc_at _ _ _ _ rfl, ← Array.getElem?_toList, List.getElem?_eq_getElem hj', e1]
theorem grid_one (w : World) (e : TypeId) (A : Option Addr) (n c : Nat) (l : List UInt8) (hn : n = l.length) (h1 : n ≤ c) (h2 : c ≤ maxLen) (h : Sees w w.heap.size A l) (N : Nat) (hN : N = w.heap.size) : Grid (w.alloc (.cells #[.slice A n c] e)) (N + 1) (some ⟨N, 0, none⟩) [l] :=
  grid_new w e _ _ ((Views.nil w _).snoc hn h1 h2 h) N hN
theorem sees_new_at (w : World) (e : TypeId) (cs : Array Value) (fr : Nat × Nat) (l : List UInt8) (h : cs.toList = bv l) (N : Nat) (hN : N = w.heap.size) : Sees (w.alloc (.cells cs e fr)) (N + 1) (some ⟨N, 0, none⟩) l := by
  subst hN; exact Sees.newMark w e cs fr l h

theorem awake_grid (w : World) (ta tb tc : TypeId) (fa fb : Nat × Nat) (va vb : Array Value) (la lb : List UInt8) (na nb : Nat) (ha : va.toList = bv la) (hb : vb.toList = bv lb) (hna : na = la.length) (hnb : nb = lb.length) (h1 : na ≤ maxLen) (h2 : nb ≤ maxLen) :
    Grid (((w.alloc (.cells va ta fa)).alloc (.cells vb tb fb)).alloc (.cells #[.slice (some ⟨w.heap.size, 0, none⟩) na na, .slice (some ⟨w.heap.size + 1, 0, none⟩) nb nb] tc)) (w.heap.size + 1 + 1 + 1) (some ⟨w.heap.size + 1 + 1, 0, none⟩) [la, lb] := by
  refine grid_new _ tc _ _ ?_ _ (by simp)
  refine ((Views.nil _ _).snoc (l := la) hna (Nat.le_refl _) h1 ?_).snoc (l := lb) hnb (Nat.le_refl _) h2 ?_
  · exact ((sees_new_at w ta va fa la ha _ rfl).alloc (by simp) _).mono (by simp)
  · exact (sees_new_at _ tb vb fb lb hb _ (by simp)).mono (by simp)

end Go.Proofs.YtambddncncaehaaDoor
