/- Bytes of one's own in a block, that may be written to. -/
import Derived.Test.YtdnbbnjmdddfdaaDoorSees
namespace Go.Proofs.YtdnbbnjmdddfdaaDoor
open Go.RowKit

def Row8 (w : World) (g : Nat) (l : List UInt8) : Prop := ∀ j (h : j < l.length), w.cell? ⟨g, j, none⟩ = some (.int .u8 (l[j].toNat : Int)) ∧ w.frozen? ⟨g, j, none⟩ = false
theorem Row8.store {w : World} {g : Nat} {l : List UInt8} (h : Row8 w g l) (j : Nat) (hj : j < l.length) (b : UInt8) : Row8 (w.setCell ⟨g, j, none⟩ (.int .u8 (b.toNat : Int))) g (l.set j b) := fun i hi => by
  have hi' : i < l.length := by simpa using hi
  refine ⟨?_, (World.frozen?_setCell _ _ _ _).trans (h i hi').2⟩
  by_cases e : i = j
  · subst e
    rw [List.getElem_set_self]
    exact World.cell?_setCell_same _ _ _ (h i hi').1
  · rw [List.getElem_set_ne (fun h => e h.symm)]
    exact (World.cell?_setCell_other _ _ _ _ (fun h => e (by injection h with _ h2 _; omega))).trans (h i hi').1
theorem Row8.of_own {w : World} {base e g c n : Nat} {o : Nat} {l : List UInt8} (h : w.ownsRow base e 1 (.slice (some ⟨g, o, none⟩) n c) n (bv l)) : Row8 w g l := by
  rcases id h.2 with ⟨hv, _⟩ | ⟨g', cap, cur, hv, _, hg, _⟩
  · cases hv
  · injection hv with h1 _ _
    injection h1 with h1
    injection h1 with h1 h2 _
    subst h1; subst h2
    intro i hi
    have := h.cells (g := g) rfl i _ (bv_at l i hi)
    rw [add_to, Nat.zero_add] at this
    exact ⟨this, by simp [World.frozen?, hg]⟩
theorem Row8.sees {w : World} {g : Nat} {l : List UInt8} (h : Row8 w g l) : Sees w (g + 1) (some ⟨g, 0, none⟩) l := fun _ =>
  ⟨g, 0, rfl, by omega, fun j hj => by rw [Nat.zero_add]; exact (h j hj).1⟩
theorem Row8.below {w w' : World} {g B : Nat} {l : List UInt8} (h : Row8 w g l) (hb : Below B w w') (hg : g < B) : Row8 w' g l := fun j hj =>
  ⟨(hb.cell (p := ⟨g, j, none⟩) hg).trans (h j hj).1, (hb.frozen (p := ⟨g, j, none⟩) hg).trans (h j hj).2⟩
theorem Row8.drewN {w : World} {g : Nat} {l : List UInt8} (h : Row8 w g l) (n : Nat) : Row8 (w.drewN n) g l := h
/-- make([]byte, n). -/
theorem Row8.made (w : World) (e : TypeId) (cs : Array Value) (l : List UInt8) (h : cs.toList = bv l) (N : Nat) (hN : N = w.heap.size) : Row8 (w.alloc (.cells cs e)) N l := fun j hj => by
  subst hN
  refine ⟨by rw [World.cell?_alloc_at _ _ _ _ rfl, ← Array.getElem?_toList, h, bv_at l j hj], ?_⟩
  have hg : (w.alloc (.cells cs e)).heap[w.heap.size]? = some (.cells cs e) := by
    show (w.heap.push _)[w.heap.size]? = _
    simp
  unfold World.frozen?
  simp only []
  rw [hg]
  simp
end Go.Proofs.YtdnbbnjmdddfdaaDoor
