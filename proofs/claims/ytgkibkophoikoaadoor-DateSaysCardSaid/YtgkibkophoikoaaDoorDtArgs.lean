/- An argument that is a date: how it reads. -/
import Derived.Test.YtgkibkophoikoaaDoorShelf
import Derived.Test.YtgkibkophoikoaaDoorArgs
import Derived.LoopTactic
import Derived.Lib.SmallJoins
import Derived.Deep.Slices
import Derived.Deep.Fields
import Derived.ChangeSame
namespace Go.Proofs.YtgkibkophoikoaaDoor
open Go.RowKit Go.ChangeShapes Go.WideShapes Go.Deep Go.Joins
set_option linter.unusedVariables false
set_option maxRecDepth 100000

section
variable {H : Type} {enc : TypeId × Value → H} {w : World} {base : Nat} {held : Bool}
/-- One cell of a struct of one-cell fields reads as its field's type does. -/
theorem field_reads {spare : Nat → Bool} {e : TypeId} {fs : Array Field} {k : Nat} {cs : List Value} {y : DataW H × List MemPlace} (he : Tryd.prog.underlying e = some (.struct fs)) (hone : oneCellFields Tryd.prog fs = true) (h : DataW.trod enc Tryd.prog w base spare held k e cs = some y)
    (j : Nat) (f : Field) (hj : fs[j]? = some f) (v : Value) (hv : cs[j]? = some v) : ∃ k' y', DataW.trod enc Tryd.prog w base spare held k' f.type [v] = some y' := by
  obtain ⟨ys, k', _, _, _, hy, hf⟩ := DataW.trod_struct he h
  obtain ⟨ho, hk⟩ := hone_of hone j f hj
  have h1 := hf j f hj
  have hlt : j < cs.length := (List.getElem?_eq_some_iff.1 hv).1
  have hjy : j < ys.length := by rw [hy]; exact (Array.getElem?_eq_some_iff.1 hj).1
  have h2 : (cs.drop f.offset).take (Tryd.prog.cellsOf f.type) = [v] := by
    rw [ho, hk, List.drop_eq_getElem_cons hlt, List.take_succ_cons, List.take_zero]
    rw [List.getElem?_eq_getElem hlt] at hv
    injection hv with hv
    rw [hv]
  rw [h2, List.getElem?_eq_getElem hjy] at h1
  exact ⟨_, _, h1⟩

theorem open_D {r : Reach} {b0 : Nat} {v : Value} {d : DataW H} {p : List MemPlace} (hv : Value.okWide Tryd.prog w r b0 24 v) (h : DataW.Trod enc Tryd.prog w base (fun _ => true) held 24 v d p) :
    ∃ z0 z1 z2 z3 z4 z5 z6 : Int, v = .agg #[.int .i64 z0, .int .i64 z1, .int .i64 z2, .int .i64 z3, .int .i64 z4, .int .i64 z5, .int .i64 z6] := by
  obtain ⟨cs, rfl, hsz⟩ := okWide_struct Tryd.underlying24 hv
  have hsz' : cs.size = 7 := hsz.trans (by kernel_rfl)
  obtain ⟨fuel, hf⟩ := h
  obtain ⟨l⟩ := cs
  match l, hsz' with
  | [v0, v1, v2, v3, v4, v5, v6], _ =>
  have hf' : DataW.trod enc Tryd.prog w base (fun _ => true) held fuel 24 [v0, v1, v2, v3, v4, v5, v6] = some (d, p) := by simpa [Value.cells] using hf
  obtain ⟨_, y0, t0⟩ := field_reads Tryd.underlying24 (by kernel_rfl) hf' 0 _ rfl v0 rfl
  obtain ⟨_, y1, t1⟩ := field_reads Tryd.underlying24 (by kernel_rfl) hf' 1 _ rfl v1 rfl
  obtain ⟨_, y2, t2⟩ := field_reads Tryd.underlying24 (by kernel_rfl) hf' 2 _ rfl v2 rfl
  obtain ⟨_, y3, t3⟩ := field_reads Tryd.underlying24 (by kernel_rfl) hf' 3 _ rfl v3 rfl
  obtain ⟨_, y4, t4⟩ := field_reads Tryd.underlying24 (by kernel_rfl) hf' 4 _ rfl v4 rfl
  obtain ⟨_, y5, t5⟩ := field_reads Tryd.underlying24 (by kernel_rfl) hf' 5 _ rfl v5 rfl
  obtain ⟨_, y6, t6⟩ := field_reads Tryd.underlying24 (by kernel_rfl) hf' 6 _ rfl v6 rfl
  obtain ⟨z0, e0, _, _⟩ := DataW.trod_int Tryd.underlying3 t0
  obtain ⟨z1, e1, _, _⟩ := DataW.trod_int Tryd.underlying3 t1
  obtain ⟨z2, e2, _, _⟩ := DataW.trod_int Tryd.underlying3 t2
  obtain ⟨z3, e3, _, _⟩ := DataW.trod_int Tryd.underlying3 t3
  obtain ⟨z4, e4, _, _⟩ := DataW.trod_int Tryd.underlying3 t4
  obtain ⟨z5, e5, _, _⟩ := DataW.trod_int Tryd.underlying3 t5
  obtain ⟨z6, e6, _, _⟩ := DataW.trod_int Tryd.underlying3 t6
  simp at e0 e1 e2 e3 e4 e5 e6
  subst e0 e1 e2 e3 e4 e5 e6
  exact ⟨_, _, _, _, _, _, _, rfl⟩
end
end Go.Proofs.YtgkibkophoikoaaDoor
