/- Arguments that are sets, slices of numbers: how they read. -/
import Derived.Test.YtmcglecdidnhlaaDoorSqMem
import Derived.Test.YtmcglecdidnhlaaDoorArgs
import Derived.Lib.SmallJoins
import Derived.Deep.Slices
import Derived.Deep.Fields
import Derived.ChangeSame
namespace Go.Proofs.YtmcglecdidnhlaaDoor
open Go.RowKit Go.ChangeShapes Go.WideShapes Go.Deep Go.Joins
set_option linter.unusedVariables false
set_option maxRecDepth 100000

section
variable {H : Type} {enc : TypeId × Value → H} {w : World} {base : Nat} {held : Bool}
theorem open_L {spare : Nat → Bool} {fuel : Nat} {A : Option Addr} {len cap : Nat} {x : DataW H × List MemPlace} (h : DataW.trod enc Tryd.prog w base spare held fuel 30 [.slice A len cap] = some x) :
    ∃ l : List Int, len = l.length ∧ len ≤ cap ∧ cap ≤ maxLen ∧ Ints w w.heap.size A l := by
  rcases open_ints Tryd.underlying30 Tryd.underlying2 (by kernel_rfl) h with ⟨hcs, _⟩ | ⟨a, len', cap', zs, hcs, _, hl, hm, hz, _, hcell, hwz⟩
  · simp at hcs
    obtain ⟨rfl, rfl, rfl⟩ := hcs
    exact ⟨[], rfl, Nat.le_refl _, Nat.zero_le _, Ints.nil _ _ _⟩
  · simp at hcs
    obtain ⟨rfl, rfl, rfl⟩ := hcs
    have hlen : len ≤ zs.length := by rw [hz]; split <;> omega
    refine ⟨zs.take len, by simp; omega, hl, hm, fun hn => ?_⟩
    have hpos : 0 < len := by
      have := List.length_pos_iff.2 hn
      simp at this; omega
    have h0 := hcell 0 (by omega)
    obtain ⟨g, o, e1, hg⟩ := addr_of_cell h0
    have ha : a = ⟨g, o, none⟩ := by
      have e2 : a.add 0 = a := by simp [Addr.add]
      rw [← e1, e2]
    subst ha
    refine ⟨g, o, rfl, hg, fun j hj => ?_⟩
    have hj' : j < zs.length := by simp at hj; omega
    have := hcell j hj'
    rw [add_to] at this
    rw [this, List.getElem_take]
    simp [List.getD, List.getElem?_eq_getElem hj']

/-- One cell of a struct of one-cell fields reads as its field's type does. -/
theorem field_reads {spare : Nat → Bool} {e : TypeId} {fs : Array Field} {k : Nat} {cs : List Value} {y : DataW H × List MemPlace} (he : Tryd.prog.underlying e = some (.struct fs)) (hone : oneCellFields Tryd.prog fs = true) (h : DataW.trod enc Tryd.prog w base spare held k e cs = some y)
    (j : Nat) (f : Field) (hj : fs[j]? = some f) (v : Value) (hv : cs[j]? = some v) : ∃ k' y', DataW.trod enc Tryd.prog w base spare held k' f.type [v] = some y' := by
  obtain ⟨ys, k', _, _, _, hy, hf⟩ := DataW.trod_struct he h
  obtain ⟨ho, hk⟩ := hone_of hone j f hj
  have h1 := hf j f hj
  have hlt : j < cs.length := (List.getElem?_eq_some_iff.1 hv).1
  have hjy : j < ys.length := by rw [hy]; exact (Array.getElem?_eq_some_iff.1 hj).1
  have h2 : (cs.drop f.offset).take (Tryd.prog.cellsOf f.type) = [v] := by
    rw [ho, hk, List.drop_eq_getElem_cons hlt, List.take_succ_cons, List.take_zero]
    rw [List.getElem?_eq_getElem hlt] at hv
    injection hv with hv
    rw [hv]
  rw [h2, List.getElem?_eq_getElem hjy] at h1
  exact ⟨_, _, h1⟩

theorem open_P {spare : Nat → Bool} {fuel : Nat} {v : Value} {x : DataW H × List MemPlace} (h : DataW.trod enc Tryd.prog w base spare held fuel 23 [v] = some x) :
    ∃ A len cap, v = .slice A len cap ∧ ∃ L : List (Int × Int), len = L.length ∧ len ≤ cap ∧ cap ≤ maxLen ∧ Pairs w w.heap.size A L := by
  rcases open_slice Tryd.underlying23 h with ⟨hcs, _⟩ | ⟨a, len, cap, m, n, D, Pl, hcs, _, hl, hm, hmm, _, hi⟩
  · simp at hcs
    subst hcs
    exact ⟨_, _, _, rfl, [], rfl, Nat.le_refl _, Nat.zero_le _, Pairs.nil _ _ _⟩
  · simp at hcs
    subst hcs
    have hlm : len ≤ m := by rw [hmm]; split <;> omega
    have key : ∀ i, i < len → ∃ x : Int × Int, ∀ g o, a = ⟨g, o, none⟩ → w.cell? ⟨g, o + i * 2, none⟩ = some (.int .i64 x.1) ∧ w.cell? ⟨g, o + i * 2 + 1, none⟩ = some (.int .i64 x.2) := fun i hi' => by
      obtain ⟨cs', hcs', ht'⟩ := hi i (by omega)
      rw [show Tryd.prog.cellsOf 48 = 2 from by kernel_rfl] at hcs'
      obtain ⟨_, hlen, hat⟩ := World.cells?_some hcs'
      match cs', hlen with
      | [v0, v1], _ =>
      have c0 := hat 0 (by omega)
      have c1 := hat 1 (by omega)
      obtain ⟨_, y0, t0⟩ := field_reads Tryd.underlying48 (by kernel_rfl) ht' 0 _ rfl v0 rfl
      obtain ⟨_, y1, t1⟩ := field_reads Tryd.underlying48 (by kernel_rfl) ht' 1 _ rfl v1 rfl
      obtain ⟨z0, e0, _, w0⟩ := DataW.trod_int Tryd.underlying2 t0
      obtain ⟨z1, e1, _, w1⟩ := DataW.trod_int Tryd.underlying2 t1
      simp at e0 e1
      subst e0 e1
      refine ⟨(z0, z1), fun g o ha => ?_⟩
      subst ha
      rw [add_to, add_to] at c0 c1
      exact ⟨c0, c1⟩
    obtain ⟨f, hf⟩ := choose_lt key
    refine ⟨_, _, _, rfl, (List.range len).map f, by simp, hl, hm, fun hn => ?_⟩
    have hpos : 0 < len := by
      have := List.length_pos_iff.2 hn
      simp at this; omega
    obtain ⟨cs0, hcs0, _⟩ := hi 0 (by omega)
    rw [show Tryd.prog.cellsOf 48 = 2 from by kernel_rfl] at hcs0
    obtain ⟨_, hlen0, hat0⟩ := World.cells?_some hcs0
    have c0 := hat0 0 (by omega)
    rw [List.getElem?_eq_getElem (show 0 < cs0.length by omega)] at c0
    obtain ⟨g, o, e1, hg⟩ := addr_of_cell c0
    have ha : a = ⟨g, o, none⟩ := by
      have e2 : (a.add (0 * 2)).add 0 = a := by simp [Addr.add]
      exact e2.symm.trans e1
    subst ha
    refine ⟨g, o, rfl, hg, fun j hj => ?_⟩
    have hj' : j < len := by simpa using hj
    have e3 : ((List.range len).map f)[j]'hj = f j := by simp
    rw [e3]
    exact hf j hj' g o rfl
theorem open_T {r : Reach} {b0 : Nat} {v : Value} {d : DataW H} {p : List MemPlace} (hv : Value.okWide Tryd.prog w r b0 25 v) (h : DataW.Trod enc Tryd.prog w base (fun _ => true) held 25 v d p) :
    ∃ (A : Option Addr) (n c : Nat) (L : List (Int × Int)), v = .agg #[.slice A n c] ∧ n = L.length ∧ n ≤ c ∧ c ≤ maxLen ∧ Pairs w w.heap.size A L := by
  obtain ⟨cs, rfl, hsz⟩ := okWide_struct Tryd.underlying25 hv
  have hsz' : cs.size = 1 := hsz.trans (by kernel_rfl)
  obtain ⟨fuel, hf⟩ := h
  obtain ⟨l⟩ := cs
  match l, hsz' with
  | [v0], _ =>
  obtain ⟨_, y0, t0⟩ := field_reads (cs := [v0]) Tryd.underlying25 (by kernel_rfl) (by simpa [Value.cells] using hf) 0 _ rfl v0 rfl
  obtain ⟨A, n, c, rfl, L, h1, h2, h3, h4⟩ := open_P t0
  exact ⟨A, n, c, L, rfl, h1, h2, h3, h4⟩
end
end Go.Proofs.YtmcglecdidnhlaaDoor
