/- Arguments that are slices of Puts: how they read. Rows of rows of Puts. -/
import Derived.Test.YtgpkdnnlgafenaaKvAll
import Derived.Test.YtgpkdnnlgafenaaArgs
import Derived.Deep.Slices
import Derived.Deep.Fields
import Derived.ChangeSame
namespace Go.Proofs.Ytgpkdnnlgafenaa
open Go.RowKit Go.ChangeShapes Go.WideShapes Go.Deep Kv
set_option linter.unusedVariables false
set_option maxRecDepth 20000

section
variable {H : Type} {enc : TypeId × Value → H} {w : World} {base : Nat} {spare : Nat → Bool} {held : Bool}
/-- One cell of a struct of one-cell fields reads as its field's type does. -/
theorem field_reads {e : TypeId} {fs : Array Field} {k : Nat} {cs : List Value} {y : DataW H × List MemPlace} (he : Try.prog.underlying e = some (.struct fs)) (hone : oneCellFields Try.prog fs = true) (h : DataW.trod enc Try.prog w base spare held k e cs = some y)
    (j : Nat) (f : Field) (hj : fs[j]? = some f) (v : Value) (hv : cs[j]? = some v) : ∃ k' y', DataW.trod enc Try.prog w base spare held k' f.type [v] = some y' := by
  obtain ⟨ys, k', _, _, _, hy, hf⟩ := DataW.trod_struct he h
  obtain ⟨ho, hk⟩ := hone_of hone j f hj
  have h1 := hf j f hj
  have hlt : j < cs.length := (List.getElem?_eq_some_iff.1 hv).1
  have hjy : j < ys.length := by rw [hy]; exact (Array.getElem?_eq_some_iff.1 hj).1
  have h2 : (cs.drop f.offset).take (Try.prog.cellsOf f.type) = [v] := by
    rw [ho, hk, List.drop_eq_getElem_cons hlt, List.take_succ_cons, List.take_zero]
    rw [List.getElem?_eq_getElem hlt] at hv
    injection hv with hv
    rw [hv]
  rw [h2, List.getElem?_eq_getElem hjy] at h1
  exact ⟨_, _, h1⟩
end

instance : Inhabited Pt := ⟨⟨⟨#[]⟩, [], false⟩⟩
/-- Rows of Puts, in a block below N that is none of X. -/
def Putss (w : World) (N : Nat) (X : List Nat) (A : Option Addr) (ls : List (List Pt)) : Prop :=
  ls ≠ [] → ∃ g o, A = some ⟨g, o, none⟩ ∧ g < N ∧ g ∉ X ∧ ∀ j (h : j < ls.length), ∃ A' c', w.cell? ⟨g, o + j, none⟩ = some (.slice A' ls[j].length c') ∧ ls[j].length ≤ c' ∧ c' ≤ maxLen ∧ Puts w N X A' ls[j]
theorem Putss.only {w w' : World} {N : Nat} {X : List Nat} {A : Option Addr} {ls : List (List Pt)} (h : Putss w N X A ls) (ho : Only X w w') (hN : N ≤ w.heap.size) : Putss w' N X A ls := fun hn => by
  obtain ⟨g, o, e, h1, h2, h3⟩ := h hn
  refine ⟨g, o, e, h1, h2, fun j hj => ?_⟩
  obtain ⟨A', c', k1, k2, k3, k4⟩ := h3 j hj
  exact ⟨A', c', (ho.cell (a := ⟨g, o + j, none⟩) (by show g < _; omega) h2).trans k1, k2, k3, k4.only ho hN⟩
theorem Putss.below {w w' : World} {N : Nat} {X : List Nat} {A : Option Addr} {ls : List (List Pt)} (h : Putss w N X A ls) (hb : Below w.heap.size w w') (hN : N ≤ w.heap.size) : Putss w' N X A ls := h.only ((Only.of_below (S := []) hb).more fun b hb => by cases hb) hN

section
variable {H : Type} {enc : TypeId × Value → H} {w : World} {base : Nat} {held : Bool}
theorem open_P {fuel : Nat} {A : Option Addr} {len cap : Nat} {x : DataW H × List MemPlace} (h : DataW.trod enc Try.prog w base (fun _ => true) held fuel 31 [.slice A len cap] = some x) :
    ∃ l : List Pt, len = l.length ∧ len ≤ cap ∧ cap ≤ maxLen ∧ Puts w w.heap.size [] A l ∧ ∀ x ∈ l, x.k.size ≤ maxLen := by
  rcases open_slice Try.underlying31 h with ⟨hcs, _⟩ | ⟨a, len', cap', m, n, D, Pl, hcs, _, hl, hm, hmm, _, hi⟩
  · simp at hcs
    obtain ⟨rfl, rfl, rfl⟩ := hcs
    exact ⟨[], rfl, Nat.le_refl _, Nat.zero_le _, fun h => absurd rfl h, fun x hx => by cases hx⟩
  · simp at hcs
    obtain ⟨rfl, rfl, rfl⟩ := hcs
    have hlm : len ≤ m := by rw [hmm]; split <;> omega
    have key : ∀ i, i < len → ∃ x : Pt, x.k.size ≤ maxLen ∧ ∀ g o, a = ⟨g, o, none⟩ → w.cell? ⟨g, o + i * 3, none⟩ = some (.string x.k) ∧
        (∃ A' c', w.cell? ⟨g, o + i * 3 + 1, none⟩ = some (.slice A' x.v.length c') ∧ x.v.length ≤ c' ∧ c' ≤ maxLen ∧ SeesX w w.heap.size [] A' x.v) ∧ w.cell? ⟨g, o + i * 3 + 2, none⟩ = some (.bool x.g) := fun i hi' => by
      obtain ⟨cs', hcs', ht'⟩ := hi i (by omega)
      rw [show Try.prog.cellsOf 29 = 3 from by kernel_rfl] at hcs'
      obtain ⟨_, hlen, hat⟩ := World.cells?_some hcs'
      match cs', hlen with
      | [v0, v1, v2], _ =>
      have c0 := hat 0 (by omega)
      have c1 := hat 1 (by omega)
      have c2 := hat 2 (by omega)
      obtain ⟨_, y0, t0⟩ := field_reads Try.underlying29 (by kernel_rfl) ht' 0 _ rfl v0 rfl
      obtain ⟨_, y1, t1⟩ := field_reads Try.underlying29 (by kernel_rfl) ht' 1 _ rfl v1 rfl
      obtain ⟨_, y2, t2⟩ := field_reads Try.underlying29 (by kernel_rfl) ht' 2 _ rfl v2 rfl
      obtain ⟨z0, e0, _, w0⟩ := DataW.trod_string Try.underlying9 t0
      obtain ⟨z2, e2, _⟩ := DataW.trod_bool Try.underlying4 t2
      simp at e0 e2
      subst e0 e2
      have hv1 : ∃ A' n' c', v1 = .slice A' n' c' := by
        rcases open_ints Try.underlying27 Try.underlying5 (by kernel_rfl) t1 with ⟨hcs, _⟩ | ⟨a', len', cap', zs, hcs, _⟩
        · simp at hcs; exact ⟨_, _, _, hcs⟩
        · simp at hcs; exact ⟨_, _, _, hcs⟩
      obtain ⟨A1, n1, c1', rfl⟩ := hv1
      obtain ⟨l1, j1, j2, j3, j4, _⟩ := open_b Try.underlying27 Try.underlying5 (by kernel_rfl) t1
      subst j1
      refine ⟨⟨z0, l1, z2⟩, w0, fun g o ha => ?_⟩
      subst ha
      rw [add_to, add_to] at c0 c1 c2
      exact ⟨c0, ⟨A1, c1', c1, j2, j3, j4.x fun b hb => by cases hb⟩, c2⟩
    obtain ⟨f, hf⟩ := choose_lt key
    refine ⟨(List.range len).map f, by simp, hl, hm, fun hn => ?_, fun x hx => ?_⟩
    · have hpos : 0 < len := by
        have := List.length_pos_iff.2 hn
        simp at this; omega
      obtain ⟨cs0, hcs0, _⟩ := hi 0 (by omega)
      rw [show Try.prog.cellsOf 29 = 3 from by kernel_rfl] at hcs0
      obtain ⟨_, hlen0, hat0⟩ := World.cells?_some hcs0
      have c0 := hat0 0 (by omega)
      rw [List.getElem?_eq_getElem (show 0 < cs0.length by omega)] at c0
      obtain ⟨g, o, e1, hg⟩ := addr_of_cell c0
      have ha : a = ⟨g, o, none⟩ := by
        have e2 : (a.add (0 * 3)).add 0 = a := by simp [Addr.add]
        exact e2.symm.trans e1
      subst ha
      refine ⟨g, o, rfl, hg, (by simp), fun j hj => ?_⟩
      have hj' : j < len := by simpa using hj
      have e3 : ((List.range len).map f)[j]'hj = f j := by simp
      rw [e3]
      exact (hf j hj').2 g o rfl
    · obtain ⟨i, hi, rfl⟩ := List.mem_map.1 hx
      exact (hf i (List.mem_range.1 hi)).1
theorem open_Q {fuel : Nat} {A : Option Addr} {len cap : Nat} {x : DataW H × List MemPlace} (h : DataW.trod enc Try.prog w base (fun _ => true) held fuel 40 [.slice A len cap] = some x) :
    ∃ ls : List (List Pt), len = ls.length ∧ len ≤ cap ∧ cap ≤ maxLen ∧ Putss w w.heap.size [] A ls ∧ ∀ l ∈ ls, ∀ x ∈ l, x.k.size ≤ maxLen := by
  rcases open_slice Try.underlying40 h with ⟨hcs, _⟩ | ⟨a, len', cap', m, n, D, Pl, hcs, _, hl, hm, hmm, _, hi⟩
  · simp at hcs
    obtain ⟨rfl, rfl, rfl⟩ := hcs
    exact ⟨[], rfl, Nat.le_refl _, Nat.zero_le _, fun h => absurd rfl h, fun x hx => by cases hx⟩
  · simp at hcs
    obtain ⟨rfl, rfl, rfl⟩ := hcs
    have hlm : len ≤ m := by rw [hmm]; split <;> omega
    have key : ∀ i, i < len → ∃ l : List Pt, (∀ x ∈ l, x.k.size ≤ maxLen) ∧ ∀ g o, a = ⟨g, o, none⟩ → ∃ A' c', w.cell? ⟨g, o + i, none⟩ = some (.slice A' l.length c') ∧ l.length ≤ c' ∧ c' ≤ maxLen ∧ Puts w w.heap.size [] A' l := fun i hi' => by
      obtain ⟨cs', hcs', ht'⟩ := hi i (by omega)
      rw [show Try.prog.cellsOf 31 = 1 from by kernel_rfl] at hcs'
      obtain ⟨_, hlen, hat⟩ := World.cells?_some hcs'
      match cs', hlen with
      | [v0], _ =>
      have c0 := hat 0 (by omega)
      have hv : ∃ A' n' c', v0 = .slice A' n' c' := by
        rcases open_slice Try.underlying31 ht' with ⟨hcs, _⟩ | ⟨a, len', cap', m, n, D, Pl, hcs, _⟩
        · simp at hcs; exact ⟨_, _, _, hcs⟩
        · simp at hcs; exact ⟨_, _, _, hcs⟩
      obtain ⟨A', n', c', rfl⟩ := hv
      obtain ⟨l, j1, j2, j3, j4, j5⟩ := open_P ht'
      subst j1
      refine ⟨l, j5, fun g o ha => ⟨A', c', ?_, j2, j3, j4⟩⟩
      subst ha
      rw [add_to, add_to] at c0
      simpa using c0
    obtain ⟨f, hf⟩ := choose_lt key
    refine ⟨(List.range len).map f, by simp, hl, hm, fun hn => ?_, fun x hx => ?_⟩
    · have hpos : 0 < len := by
        have := List.length_pos_iff.2 hn
        simp at this; omega
      obtain ⟨cs0, hcs0, _⟩ := hi 0 (by omega)
      rw [show Try.prog.cellsOf 31 = 1 from by kernel_rfl] at hcs0
      obtain ⟨_, hlen0, hat0⟩ := World.cells?_some hcs0
      have c0 := hat0 0 (by omega)
      rw [List.getElem?_eq_getElem (show 0 < cs0.length by omega)] at c0
      obtain ⟨g, o, e1, hg⟩ := addr_of_cell c0
      have ha : a = ⟨g, o, none⟩ := by
        have e2 : (a.add (0 * 1)).add 0 = a := by simp [Addr.add]
        exact e2.symm.trans e1
      subst ha
      refine ⟨g, o, rfl, hg, (by simp), fun j hj => ?_⟩
      have hj' : j < len := by simpa using hj
      have e3 : ((List.range len).map f)[j]'hj = f j := by simp
      rw [e3]
      exact (hf j hj').2 g o rfl
    · obtain ⟨i, hi, rfl⟩ := List.mem_map.1 hx
      exact (hf i (List.mem_range.1 hi)).1
end
end Go.Proofs.Ytgpkdnnlgafenaa
