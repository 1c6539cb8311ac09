/- Arguments that are slices of integers; a struct's cells: how they read. -/
import Derived.Test.YtdnbbnjmdddfdaaDoorDevCrash
import Derived.Deep.Slices
import Derived.Deep.Fields
import Derived.ChangeSame
import Derived.Test.YtdnbbnjmdddfdaaDoorArgs
namespace Go.Proofs.YtdnbbnjmdddfdaaDoor
open Go.RowKit Go.ChangeShapes Go.WideShapes Go.Deep Dk
set_option linter.unusedVariables false
set_option maxRecDepth 100000

theorem int_of_wf {z : Int} (h : (Lit.int .i64 z).wf = true) : -9223372036854775808 ≤ z ∧ z ≤ 9223372036854775807 := by
  have h0 : IntKind.i64.min = -9223372036854775808 := rfl
  have h1 : IntKind.i64.max = 9223372036854775807 := rfl
  simp [Lit.wf, h0, h1] at h
  omega

section
variable {H : Type} {enc : TypeId × Value → H} {w : World} {base : Nat} {spare : Nat → Bool} {held : Bool}
theorem open_I {fuel : Nat} {A : Option Addr} {len cap : Nat} {x : DataW H × List MemPlace} (h : DataW.trod enc Tryd.prog w base spare held fuel 60 [.slice A len cap] = some x) :
    ∃ l : List Int, len = l.length ∧ len ≤ cap ∧ cap ≤ maxLen ∧ SeesI w w.heap.size A l := by
  rcases open_ints Tryd.underlying60 Tryd.underlying3 (by kernel_rfl) h with ⟨hcs, _⟩ | ⟨a, len', cap', zs, hcs, _, hl, hm, hz, _, hcell, hwz⟩
  · simp at hcs
    obtain ⟨rfl, rfl, rfl⟩ := hcs
    exact ⟨[], rfl, Nat.le_refl _, Nat.zero_le _, SeesI.nil _ _ _⟩
  · simp at hcs
    obtain ⟨rfl, rfl, rfl⟩ := hcs
    have hlen : len ≤ zs.length := by rw [hz]; split <;> omega
    refine ⟨zs.take len, by simp; omega, hl, hm, fun hn => ?_⟩
    have hpos : 0 < len := by
      have := List.length_pos_iff.2 hn
      simp at this; omega
    have h0 := hcell 0 (by omega)
    obtain ⟨g, o, e1, hg⟩ := addr_of_cell h0
    have ha : a = ⟨g, o, none⟩ := by
      have e2 : a.add 0 = a := by simp [Addr.add]
      rw [← e1, e2]
    subst ha
    refine ⟨g, o, rfl, hg, fun j hj => ?_⟩
    have hj' : j < zs.length := by simp at hj; omega
    have := hcell j hj'
    rw [add_to] at this
    rw [this, List.getElem_take]
    simp [List.getD, List.getElem?_eq_getElem hj']

/-- One cell of a struct of one-cell fields reads as its field's type does. -/
theorem field_reads {e : TypeId} {fs : Array Field} {k : Nat} {cs : List Value} {y : DataW H × List MemPlace} (he : Tryd.prog.underlying e = some (.struct fs)) (hone : oneCellFields Tryd.prog fs = true) (h : DataW.trod enc Tryd.prog w base spare held k e cs = some y)
    (j : Nat) (f : Field) (hj : fs[j]? = some f) (v : Value) (hv : cs[j]? = some v) : ∃ k' y', DataW.trod enc Tryd.prog w base spare held k' f.type [v] = some y' := by
  obtain ⟨ys, k', _, _, _, hy, hf⟩ := DataW.trod_struct he h
  obtain ⟨ho, hk⟩ := hone_of hone j f hj
  have h1 := hf j f hj
  have hlt : j < cs.length := (List.getElem?_eq_some_iff.1 hv).1
  have hjy : j < ys.length := by rw [hy]; exact (Array.getElem?_eq_some_iff.1 hj).1
  have h2 : (cs.drop f.offset).take (Tryd.prog.cellsOf f.type) = [v] := by
    rw [ho, hk, List.drop_eq_getElem_cons hlt, List.take_succ_cons, List.take_zero]
    rw [List.getElem?_eq_getElem hlt] at hv
    injection hv with hv
    rw [hv]
  rw [h2, List.getElem?_eq_getElem hjy] at h1
  exact ⟨_, _, h1⟩
end
end Go.Proofs.YtdnbbnjmdddfdaaDoor
