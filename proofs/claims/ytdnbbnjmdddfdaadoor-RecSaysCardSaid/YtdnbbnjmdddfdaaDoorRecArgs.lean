/- An argument that is a record: how it reads. -/
import Derived.Test.YtdnbbnjmdddfdaaDoorProg
import Derived.Test.YtdnbbnjmdddfdaaDoorArgs
import Derived.Lib.SmallJoins
import Derived.Deep.Slices
namespace Go.Proofs.YtdnbbnjmdddfdaaDoor
open Go.RowKit Go.ChangeShapes Go.WideShapes Go.Deep Go.Joins
set_option linter.unusedVariables false
set_option maxRecDepth 100000

section
variable {H : Type} {enc : TypeId × Value → H} {w : World} {base : Nat} {held : Bool}
theorem open_R {r : Reach} {b0 : Nat} {v : Value} {d : DataW H} {p : List MemPlace} (hv : Value.okWide Tryd.prog w r b0 28 v) (h : DataW.Trod enc Tryd.prog w base (fun _ => true) held 28 v d p) :
    ∃ (z : Int) (A : Option Addr) (n c : Nat) (l : List UInt8), v = .agg #[.int .i64 z, .slice A n c] ∧ n = l.length ∧ n ≤ c ∧ c ≤ maxLen ∧ (-9223372036854775808 ≤ z ∧ z ≤ 9223372036854775807) ∧ Sees w w.heap.size A l := by
  obtain ⟨v0, v1, y0, y1, n, rfl, _, _, t0, t1⟩ := open_agg2 Tryd.underlying28 (by kernel_rfl) (by kernel_rfl) hv h
  obtain ⟨z0, e0, _, w0⟩ := DataW.trod_int Tryd.underlying2 t0
  simp at e0
  subst e0
  have hv4 : ∃ A' n' c', v1 = .slice A' n' c' := by
    rcases open_ints Tryd.underlying23 Tryd.underlying5 (by kernel_rfl) t1 with ⟨hcs, _⟩ | ⟨a', len', cap', zs, hcs, _⟩
    · simp at hcs; exact ⟨_, _, _, hcs⟩
    · simp at hcs; exact ⟨_, _, _, hcs⟩
  obtain ⟨A', n', c', rfl⟩ := hv4
  obtain ⟨l, k1, k2, k3, k4, _⟩ := open_b Tryd.underlying23 Tryd.underlying5 (by kernel_rfl) t1
  have hz : -9223372036854775808 ≤ z0 ∧ z0 ≤ 9223372036854775807 := by
    have h0 : IntKind.i64.min = -9223372036854775808 := rfl
    have h1 : IntKind.i64.max = 9223372036854775807 := rfl
    simp [Lit.wf, h0, h1] at w0
    omega
  exact ⟨z0, A', n', c', l, rfl, k1, k2, k3, hz, k4⟩
end
end Go.Proofs.YtdnbbnjmdddfdaaDoor
