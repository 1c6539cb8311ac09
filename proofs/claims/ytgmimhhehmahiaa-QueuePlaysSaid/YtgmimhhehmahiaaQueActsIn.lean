/- A slice of acts among the arguments: how it lies in memory, how its reading opens. -/
import Derived.Test.YtgmimhhehmahiaaArgs
import Derived.Deep.Fields
namespace Go.Proofs.Ytgmimhhehmahiaa
open Go.RowKit Go.ChangeShapes Go.WideShapes Go.Deep
set_option linter.unusedVariables false

/-- An act, as it lies in memory. -/
structure Act4 where
  op : Int
  q : Int
  dest : Int
  b : ByteArray
instance : Inhabited Act4 := ⟨⟨0, 0, 0, ⟨#[]⟩⟩⟩
def Acts (w : World) (B : Nat) (A : Option Addr) (xs : List Act4) : Prop :=
  xs ≠ [] → ∃ g o, A = some ⟨g, o, none⟩ ∧ g < B ∧ ∀ j (h : j < xs.length), w.cell? ⟨g, o + j * 4, none⟩ = some (.int .i64 xs[j].op) ∧ w.cell? ⟨g, o + j * 4 + 1, none⟩ = some (.int .i64 xs[j].q) ∧
    w.cell? ⟨g, o + j * 4 + 2, none⟩ = some (.int .i64 xs[j].dest) ∧ w.cell? ⟨g, o + j * 4 + 3, none⟩ = some (.string xs[j].b)
theorem Acts.below {w w' : World} {B B' : Nat} {A : Option Addr} {xs : List Act4} (h : Acts w B A xs) (hb : Below B' w w') (hB : B ≤ B') : Acts w' B A xs := fun hn => by
  obtain ⟨g, o, e, hg, hc⟩ := h hn
  have key : ∀ i, w'.cell? ⟨g, i, none⟩ = w.cell? ⟨g, i, none⟩ := fun i => hb.cell (p := ⟨g, i, none⟩) (by show g < B'; omega)
  refine ⟨g, o, e, hg, fun j hj => ?_⟩
  rw [key, key, key, key]
  exact hc j hj

section
variable {H : Type} {enc : TypeId × Value → H} {P : Program} {w : World} {base : Nat} {held : Bool}
theorem open_acts {t e : TypeId} {f0 f1 f2 f3 : Field} {fuel : Nat} {A : Option Addr} {len cap : Nat} {x : DataW H × List MemPlace} (ht : P.underlying t = some (.slice e)) (he : P.underlying e = some (.struct #[f0, f1, f2, f3]))
    (t0 : P.underlying f0.type = some (.int .i64)) (t1 : P.underlying f1.type = some (.int .i64)) (t2 : P.underlying f2.type = some (.int .i64)) (t3 : P.underlying f3.type = some .string)
    (hone : oneCellFields P #[f0, f1, f2, f3] = true) (hC : P.cellsOf e = 4) (h : DataW.trod enc P w base (fun _ => true) held fuel t [.slice A len cap] = some x) :
    ∃ xs : List Act4, len = xs.length ∧ len ≤ cap ∧ cap ≤ maxLen ∧ Acts w w.heap.size A xs := by
  rcases open_slice ht h with ⟨hcs, _⟩ | ⟨a, len', cap', m, n, D, Pl, hcs, _, hl, hm, hmm, _, hi⟩
  · simp at hcs
    obtain ⟨rfl, rfl, rfl⟩ := hcs
    exact ⟨[], rfl, Nat.le_refl _, Nat.zero_le _, fun h => absurd rfl h⟩
  · simp at hcs
    obtain ⟨rfl, rfl, rfl⟩ := hcs
    have hmm : m = cap := by rw [hmm]; exact if_pos rfl
    have each : ∀ i, i < len → ∃ y : Act4, w.cell? (a.add (i * 4 + 0)) = some (.int .i64 y.op) ∧ w.cell? (a.add (i * 4 + 1)) = some (.int .i64 y.q) ∧ w.cell? (a.add (i * 4 + 2)) = some (.int .i64 y.dest) ∧ w.cell? (a.add (i * 4 + 3)) = some (.string y.b) := fun i hil => by
      obtain ⟨cs', hc, ht'⟩ := hi i (by omega)
      rw [hC] at hc
      obtain ⟨_, hcl, hat⟩ := World.cells?_some hc
      obtain ⟨ys, n', _, _, _, hyl, hf⟩ := DataW.trod_struct he ht'
      have key : ∀ (j : Nat) (f : Field), #[f0, f1, f2, f3][j]? = some f → j < 4 → ∃ v y, w.cell? (a.add (i * 4 + j)) = some v ∧ DataW.trod enc P w base (fun _ => true) held n' f.type [v] = some y := by
        intro j f hj hj4
        obtain ⟨ho, hk⟩ := hone_of hone j f hj
        have h1 := hf j f hj
        rw [ho, hk] at h1
        have hv : (cs'.drop j).take 1 = [cs'[j]'(by omega)] := by
          rw [List.drop_eq_getElem_cons (by omega)]
          rfl
        rw [hv, List.getElem?_eq_getElem (by rw [hyl]; exact hj4)] at h1
        refine ⟨_, _, ?_, h1⟩
        rw [← Go.Deep.add_add, hat j hj4, List.getElem?_eq_getElem (by omega)]
      obtain ⟨v0, y0, c0, r0⟩ := key 0 f0 rfl (by omega)
      obtain ⟨v1, y1, c1, r1⟩ := key 1 f1 rfl (by omega)
      obtain ⟨v2, y2, c2, r2⟩ := key 2 f2 rfl (by omega)
      obtain ⟨v3, y3, c3, r3⟩ := key 3 f3 rfl (by omega)
      obtain ⟨n0, e0, _⟩ := DataW.trod_int t0 r0
      obtain ⟨n1, e1, _⟩ := DataW.trod_int t1 r1
      obtain ⟨n2, e2, _⟩ := DataW.trod_int t2 r2
      obtain ⟨s3, e3, _⟩ := DataW.trod_string t3 r3
      injection e0 with e0 _
      injection e1 with e1 _
      injection e2 with e2 _
      injection e3 with e3 _
      subst e0; subst e1; subst e2; subst e3
      exact ⟨⟨n0, n1, n2, s3⟩, c0, c1, c2, c3⟩
    obtain ⟨f, hf⟩ := choose_lt each
    refine ⟨(List.range len).map f, by simp, hl, hm, fun hn => ?_⟩
    have hpos : 0 < len := by
      have := List.length_pos_iff.2 hn
      simp at this; omega
    obtain ⟨g, o, e1, hg⟩ := addr_of_cell (hf 0 hpos).1
    have ha : a = ⟨g, o, none⟩ := by
      have e2 : a.add (0 * 4 + 0) = a := by simp [Addr.add]
      rw [← e1, e2]
    subst ha
    refine ⟨g, o, rfl, hg, fun j hj => ?_⟩
    have hj' : j < len := by simpa using hj
    have e3 : ((List.range len).map f)[j]'hj = f j := by simp
    rw [e3]
    obtain ⟨h0, h1, h2, h3⟩ := hf j hj'
    rw [add_to] at h0 h1 h2 h3
    refine ⟨h0, ?_, ?_, ?_⟩
    · rw [← h1]; congr 1
    · rw [← h2]; congr 1
    · rw [← h3]; congr 1
end
end Go.Proofs.Ytgmimhhehmahiaa
