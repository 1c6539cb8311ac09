/- Arguments that are slices of acts, slices of integers: how they read. -/
import Derived.Test.YtelcedbcegbbjaaDevCrash
import Derived.Deep.Slices
import Derived.Deep.Fields
import Derived.ChangeSame
import Derived.Test.YtelcedbcegbbjaaArgs
namespace Go.Proofs.Ytelcedbcegbbjaa
open Go.RowKit Go.ChangeShapes Go.WideShapes Go.Deep Dk
set_option linter.unusedVariables false

structure ActD where
  op : Int
  at_ : Int
  torn : Int
  c : UInt8
  keep : List Int

instance : Inhabited ActD := ⟨⟨0, 0, 0, 0, []⟩⟩
/-- What an act's five cells hold. -/
structure ActAt (w : World) (B g o : Nat) (x : ActD) : Prop where
  op : w.cell? ⟨g, o, none⟩ = some (.int .i64 x.op)
  at_ : w.cell? ⟨g, o + 1, none⟩ = some (.int .i64 x.at_)
  torn : w.cell? ⟨g, o + 2, none⟩ = some (.int .i64 x.torn)
  c : w.cell? ⟨g, o + 3, none⟩ = some (.int .u8 (x.c.toNat : Int))
  keep : ∃ A n cp, w.cell? ⟨g, o + 4, none⟩ = some (.slice A n cp) ∧ n = x.keep.length ∧ n ≤ cp ∧ cp ≤ maxLen ∧ SeesI w B A x.keep
  op_le : -9223372036854775808 ≤ x.op ∧ x.op ≤ 9223372036854775807
  at_le : -9223372036854775808 ≤ x.at_ ∧ x.at_ ≤ 9223372036854775807
  torn_le : -9223372036854775808 ≤ x.torn ∧ x.torn ≤ 9223372036854775807
/-- The slice at A reads the acts l, and lies below block B. -/
def Acts (w : World) (B : Nat) (A : Option Addr) (l : List ActD) : Prop :=
  l ≠ [] → ∃ g o, A = some ⟨g, o, none⟩ ∧ g < B ∧ ∀ j (h : j < l.length), ActAt w B g (o + j * 5) l[j]
theorem ActAt.below {w w' : World} {B B' g o : Nat} {x : ActD} (h : ActAt w B g o x) (hb : Below B' w w') (hB : B ≤ B') (hg : g < B') : ActAt w' B g o x where
  op := (hb.cell (p := ⟨g, o, none⟩) hg).trans h.op
  at_ := (hb.cell (p := ⟨g, o + 1, none⟩) hg).trans h.at_
  torn := (hb.cell (p := ⟨g, o + 2, none⟩) hg).trans h.torn
  c := (hb.cell (p := ⟨g, o + 3, none⟩) hg).trans h.c
  keep := by
    obtain ⟨A, n, cp, h1, h2, h3, h4, h5⟩ := h.keep
    exact ⟨A, n, cp, (hb.cell (p := ⟨g, o + 4, none⟩) hg).trans h1, h2, h3, h4, h5.below hb hB⟩
  op_le := h.op_le
  at_le := h.at_le
  torn_le := h.torn_le
theorem Acts.below {w w' : World} {B B' : Nat} {A : Option Addr} {l : List ActD} (h : Acts w B A l) (hb : Below B' w w') (hB : B ≤ B') : Acts w' B A l := fun hn => by
  obtain ⟨g, o, e, hg, hc⟩ := h hn
  exact ⟨g, o, e, hg, fun j hj => (hc j hj).below hb hB (by omega)⟩

theorem int_of_wf {z : Int} (h : (Lit.int .i64 z).wf = true) : -9223372036854775808 ≤ z ∧ z ≤ 9223372036854775807 := by
  have h0 : IntKind.i64.min = -9223372036854775808 := rfl
  have h1 : IntKind.i64.max = 9223372036854775807 := rfl
  simp [Lit.wf, h0, h1] at h
  omega

section
variable {H : Type} {enc : TypeId × Value → H} {w : World} {base : Nat} {spare : Nat → Bool} {held : Bool}
theorem open_I {fuel : Nat} {A : Option Addr} {len cap : Nat} {x : DataW H × List MemPlace} (h : DataW.trod enc Try.prog w base spare held fuel 34 [.slice A len cap] = some x) :
    ∃ l : List Int, len = l.length ∧ len ≤ cap ∧ cap ≤ maxLen ∧ SeesI w w.heap.size A l := by
  rcases open_ints Try.underlying34 Try.underlying3 (by kernel_rfl) h with ⟨hcs, _⟩ | ⟨a, len', cap', zs, hcs, _, hl, hm, hz, _, hcell, hwz⟩
  · simp at hcs
    obtain ⟨rfl, rfl, rfl⟩ := hcs
    exact ⟨[], rfl, Nat.le_refl _, Nat.zero_le _, SeesI.nil _ _ _⟩
  · simp at hcs
    obtain ⟨rfl, rfl, rfl⟩ := hcs
    have hlen : len ≤ zs.length := by rw [hz]; split <;> omega
    refine ⟨zs.take len, by simp; omega, hl, hm, fun hn => ?_⟩
    have hpos : 0 < len := by
      have := List.length_pos_iff.2 hn
      simp at this; omega
    have h0 := hcell 0 (by omega)
    obtain ⟨g, o, e1, hg⟩ := addr_of_cell h0
    have ha : a = ⟨g, o, none⟩ := by
      have e2 : a.add 0 = a := by simp [Addr.add]
      rw [← e1, e2]
    subst ha
    refine ⟨g, o, rfl, hg, fun j hj => ?_⟩
    have hj' : j < zs.length := by simp at hj; omega
    have := hcell j hj'
    rw [add_to] at this
    rw [this, List.getElem_take]
    simp [List.getD, List.getElem?_eq_getElem hj']

/-- One cell of a struct of one-cell fields reads as its field's type does. -/
theorem field_reads {e : TypeId} {fs : Array Field} {k : Nat} {cs : List Value} {y : DataW H × List MemPlace} (he : Try.prog.underlying e = some (.struct fs)) (hone : oneCellFields Try.prog fs = true) (h : DataW.trod enc Try.prog w base spare held k e cs = some y)
    (j : Nat) (f : Field) (hj : fs[j]? = some f) (v : Value) (hv : cs[j]? = some v) : ∃ k' y', DataW.trod enc Try.prog w base spare held k' f.type [v] = some y' := by
  obtain ⟨ys, k', _, _, _, hy, hf⟩ := DataW.trod_struct he h
  obtain ⟨ho, hk⟩ := hone_of hone j f hj
  have h1 := hf j f hj
  have hlt : j < cs.length := (List.getElem?_eq_some_iff.1 hv).1
  have hjy : j < ys.length := by rw [hy]; exact (Array.getElem?_eq_some_iff.1 hj).1
  have h2 : (cs.drop f.offset).take (Try.prog.cellsOf f.type) = [v] := by
    rw [ho, hk, List.drop_eq_getElem_cons hlt, List.take_succ_cons, List.take_zero]
    rw [List.getElem?_eq_getElem hlt] at hv
    injection hv with hv
    rw [hv]
  rw [h2, List.getElem?_eq_getElem hjy] at h1
  exact ⟨_, _, h1⟩

theorem open_A {fuel : Nat} {A : Option Addr} {len cap : Nat} {x : DataW H × List MemPlace} (h : DataW.trod enc Try.prog w base spare held fuel 37 [.slice A len cap] = some x) :
    ∃ l : List ActD, len = l.length ∧ len ≤ cap ∧ cap ≤ maxLen ∧ Acts w w.heap.size A l := by
  rcases open_slice Try.underlying37 h with ⟨hcs, _⟩ | ⟨a, len', cap', m, n, D, Pl, hcs, _, hl, hm, hmm, _, hi⟩
  · simp at hcs
    obtain ⟨rfl, rfl, rfl⟩ := hcs
    exact ⟨[], rfl, Nat.le_refl _, Nat.zero_le _, fun h => absurd rfl h⟩
  · simp at hcs
    obtain ⟨rfl, rfl, rfl⟩ := hcs
    have hlm : len ≤ m := by rw [hmm]; split <;> omega
    have key : ∀ i, i < len → ∃ x : ActD, ∀ g o, a = ⟨g, o, none⟩ → ActAt w w.heap.size g (o + i * 5) x := fun i hi' => by
      obtain ⟨cs', hcs', ht'⟩ := hi i (by omega)
      rw [show Try.prog.cellsOf 41 = 5 from by kernel_rfl] at hcs'
      obtain ⟨_, hlen, hat⟩ := World.cells?_some hcs'
      match cs', hlen with
      | [v0, v1, v2, v3, v4], _ =>
      have c0 := hat 0 (by omega)
      have c1 := hat 1 (by omega)
      have c2 := hat 2 (by omega)
      have c3 := hat 3 (by omega)
      have c4 := hat 4 (by omega)
      obtain ⟨_, y0, t0⟩ := field_reads Try.underlying41 (by kernel_rfl) ht' 0 _ rfl v0 rfl
      obtain ⟨_, y1, t1⟩ := field_reads Try.underlying41 (by kernel_rfl) ht' 1 _ rfl v1 rfl
      obtain ⟨_, y2, t2⟩ := field_reads Try.underlying41 (by kernel_rfl) ht' 2 _ rfl v2 rfl
      obtain ⟨_, y3, t3⟩ := field_reads Try.underlying41 (by kernel_rfl) ht' 3 _ rfl v3 rfl
      obtain ⟨_, y4, t4⟩ := field_reads Try.underlying41 (by kernel_rfl) ht' 4 _ rfl v4 rfl
      obtain ⟨z0, e0, _, w0⟩ := DataW.trod_int Try.underlying3 t0
      obtain ⟨z1, e1, _, w1⟩ := DataW.trod_int Try.underlying3 t1
      obtain ⟨z2, e2, _, w2⟩ := DataW.trod_int Try.underlying3 t2
      obtain ⟨z3, e3, _, w3⟩ := DataW.trod_int Try.underlying5 t3
      simp at e0 e1 e2 e3
      subst e0 e1 e2 e3
      have hv4 : ∃ A' n' c', v4 = .slice A' n' c' := by
        rcases open_ints Try.underlying34 Try.underlying3 (by kernel_rfl) t4 with ⟨hcs, _⟩ | ⟨a', len', cap', zs, hcs, _⟩
        · simp at hcs; exact ⟨_, _, _, hcs⟩
        · simp at hcs; exact ⟨_, _, _, hcs⟩
      obtain ⟨A', n', c', rfl⟩ := hv4
      obtain ⟨l4, k1, k2, k3, k4⟩ := open_I t4
      have hb := byte_of_wf' w3
      have hz3 : (((UInt8.ofNat z3.toNat).toNat : Nat) : Int) = z3 := by
        rw [UInt8.toNat_ofNat', Nat.mod_eq_of_lt (by omega)]; omega
      refine ⟨⟨z0, z1, z2, UInt8.ofNat z3.toNat, l4⟩, fun g o ha => ?_⟩
      subst ha
      rw [add_to, add_to] at c0 c1 c2 c3 c4
      exact ⟨c0, c1, c2, by rw [hz3]; exact c3, ⟨A', n', c', c4, k1, k2, k3, k4⟩, int_of_wf w0, int_of_wf w1, int_of_wf w2⟩
    obtain ⟨f, hf⟩ := choose_lt key
    refine ⟨(List.range len).map f, by simp, hl, hm, fun hn => ?_⟩
    have hpos : 0 < len := by
      have := List.length_pos_iff.2 hn
      simp at this; omega
    obtain ⟨cs0, hcs0, _⟩ := hi 0 (by omega)
    rw [show Try.prog.cellsOf 41 = 5 from by kernel_rfl] at hcs0
    obtain ⟨_, hlen0, hat0⟩ := World.cells?_some hcs0
    have c0 := hat0 0 (by omega)
    rw [List.getElem?_eq_getElem (show 0 < cs0.length by omega)] at c0
    obtain ⟨g, o, e1, hg⟩ := addr_of_cell c0
    have ha : a = ⟨g, o, none⟩ := by
      have e2 : (a.add (0 * 5)).add 0 = a := by simp [Addr.add]
      exact e2.symm.trans e1
    subst ha
    refine ⟨g, o, rfl, hg, fun j hj => ?_⟩
    have hj' : j < len := by simpa using hj
    have e3 : ((List.range len).map f)[j]'hj = f j := by simp
    rw [e3]
    exact hf j hj' g o rfl
end
end Go.Proofs.Ytelcedbcegbbjaa
