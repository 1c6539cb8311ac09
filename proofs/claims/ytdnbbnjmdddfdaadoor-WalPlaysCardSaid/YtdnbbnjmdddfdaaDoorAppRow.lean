/- append(append([]T{}, xs...), y): what is known while its operations come up in whatever order. -/
import Derived.Test.YtdnbbnjmdddfdaaDoorFlags
import Derived.Test.YtdnbbnjmdddfdaaDoorOnly
import Derived.Laws.AppendOwn
namespace Go.Proofs.YtdnbbnjmdddfdaaDoor
open Go.RowKit
set_option linter.unusedVariables false

/-- append of a row to an empty literal. -/
theorem run_append_lit {P : Program} (w : World) (N : Nat) (t ty e : TypeId) (i : TypeInfo) (z : Value) (size bytes : Nat) (ht : P.underlying t = some (.slice e)) (hi : P.info? e = some i) (hz : i.zero = some z)
    (hsize : i.size = size) (hby : i.bytes = bytes) (hzs : z.cells.size = size) (hsz : 0 < size) (b : Nat) (hb : w.heap[b]? = some (.cells #[] e (0, 0))) (hN : N ≤ b) (v : Value) (m : Nat) (olds : List Value) (base : Nat)
    (hv : w.ownsRow base e size v m olds) (h1 : ∀ u ∈ olds, u.oneCell' = true) (hm : m ≤ maxLen) (hbytes : m * bytes ≤ 140737488355328) (hNw : N ≤ w.heap.size) :
    ∃ v' w', (Builtin.append_ #[t, t] ty #[.slice (some ⟨b, 0, none⟩) 0 0, v]).run P w = .ok v' w' ∧ w'.ownsRow N e size v' m olds ∧ w.grownBy w' (some b) := by
  have hown : w.ownsRow N e size (.slice (some ⟨b, 0, none⟩) 0 0) 0 [] := ⟨by simp, .inr ⟨b, 0, #[], rfl, hN, hb, Nat.le_refl _, Nat.zero_le _, by simp, by simp⟩⟩
  rcases hv.2 with ⟨rfl, rfl⟩ | ⟨g, cap, cur, rfl, _, hg, hnc, hcm, hcs, htake⟩
  · have h0 : olds = [] := List.eq_nil_of_length_eq_zero (by simpa using hv.1)
    subst h0
    exact ⟨_, w, run_append_owned_none (P := P) (ht := ht) (hi := hi) (hown := hown) .., hown, ⟨rfl, rfl, rfl, Nat.le_refl _, fun _ _ _ => rfl⟩⟩
  · obtain ⟨v', w', hrun, h2, h3, _, _⟩ := run_append_own_at (P := P) w N t ty e i z size bytes ht hi hz hsize hby hzs hsz _ 0 [] hown ⟨g, 0, none⟩ m cap olds hv.1 (hv.cells (g := g) rfl) h1 (by omega) (by rw [Nat.zero_add]; exact hbytes) hNw
    rw [Nat.zero_add, List.nil_append] at h2
    exact ⟨v', w', hrun, h2, h3⟩

def RowS (e : TypeId) (size m : Nat) (olds ys : List Value) (w1 : World) (f : Nat → Bool) (R : Nat → Value) (w : World) : Prop :=
  Below w1.heap.size w1 w ∧ (f 0 = true → f 1 = false → ∃ b, R 0 = .slice (some ⟨b, 0, none⟩) 0 0 ∧ w.heap[b]? = some (.cells #[] e (0, 0)) ∧ w1.heap.size ≤ b) ∧
    (f 1 = true → f 3 = false → w.ownsRow w1.heap.size e size (R 1) m olds) ∧
    (f 2 = true → f 3 = false → ∃ b, R 2 = .slice (some ⟨b, 0, none⟩) 1 1 ∧ w.heap[b]? = some (.cells ys.toArray e (0, 0))) ∧ (f 3 = true → w.ownsRow w1.heap.size e size (R 3) (m + 1) (olds ++ ys))
section
variable {e : TypeId} {size m : Nat} {olds ys : List Value} {w1 w : World} {f : Nat → Bool} {R : Nat → Value}
theorem RowS.start (w1 : World) (R : Nat → Value) : RowS e size m olds ys w1 (fun _ => false) R w1.drew :=
  ⟨(Below.refl _ _).drew, fun h => absurd h (by simp), fun h => absurd h (by simp), fun h => absurd h (by simp), fun h => absurd h (by simp)⟩
theorem RowS.s0 (h : RowS e size m olds ys w1 f R w) (h1 : f 1 = false) (h3 : f 3 = false) : RowS e size m olds ys w1 (setF f 0) (setR R 0 (.slice (some ⟨w.heap.size, 0, none⟩) 0 0)) (w.alloc (.cells #[] e)) := by
  obtain ⟨a1, a2, a3, a4, a5⟩ := h
  refine ⟨a1.alloc a1.size _, fun _ _ => ⟨w.heap.size, setR_self .., heap_alloc_new w _, a1.size⟩, fun c => ?_, fun c c' => ?_, fun c => ?_⟩
  · rw [setF_ne _ (by decide), h1] at c; cases c
  · rw [setF_ne _ (by decide)] at c c'
    obtain ⟨b, b1, b2⟩ := a4 c c'
    exact ⟨b, by rw [setR_ne _ _ (by decide)]; exact b1, (((Only.refl [] w).alloc _).block b (Array.getElem?_eq_some_iff.1 b2).1 (by simp)).trans b2⟩
  · rw [setF_ne _ (by decide), h3] at c; cases c
theorem RowS.s2 (h : RowS e size m olds ys w1 f R w) (h3 : f 3 = false) : RowS e size m olds ys w1 (setF f 2) (setR R 2 (.slice (some ⟨w.heap.size, 0, none⟩) 1 1)) (w.alloc (.cells ys.toArray e)) := by
  obtain ⟨a1, a2, a3, a4, a5⟩ := h
  refine ⟨a1.alloc a1.size _, fun c c' => ?_, fun c c' => ?_, fun c c' => ⟨w.heap.size, setR_self .., heap_alloc_new w _⟩, fun c => ?_⟩
  · rw [setF_ne _ (by decide)] at c c'
    obtain ⟨b, b1, b2, b3⟩ := a2 c c'
    exact ⟨b, by rw [setR_ne _ _ (by decide)]; exact b1, (((Only.refl [] w).alloc _).block b (Array.getElem?_eq_some_iff.1 b2).1 (by simp)).trans b2, b3⟩
  · rw [setF_ne _ (by decide)] at c c'
    rw [setR_ne _ _ (by decide)]
    exact (a3 c c').alloc _
  · rw [setF_ne _ (by decide), h3] at c; cases c
theorem RowS.s1 (h : RowS e size m olds ys w1 f R w) (h3 : f 3 = false) (hys : ys ≠ []) {b : Nat} (hb : w.heap[b]? = some (.cells #[] e (0, 0))) (hbN : w1.heap.size ≤ b) {v' : Value} {w' : World} (ho : w'.ownsRow w1.heap.size e size v' m olds) (hg : w.grownBy w' (some b)) : RowS e size m olds ys w1 (setF f 1) (setR R 1 v') w' := by
  obtain ⟨a1, a2, a3, a4, a5⟩ := h
  refine ⟨a1.grown hg a1.size (fun k hk => by injection hk with hk; omega), fun c c' => ?_, fun c c' => by rw [setR_self]; exact ho, fun c c' => ?_, fun c => ?_⟩
  · rw [setF_self] at c'; cases c'
  · rw [setF_ne _ (by decide)] at c c'
    obtain ⟨b2, c1, c2⟩ := a4 c c'
    refine ⟨b2, by rw [setR_ne _ _ (by decide)]; exact c1, (hg.block b2 (Array.getElem?_eq_some_iff.1 c2).1 (fun he => ?_)).trans c2⟩
    injection he with he
    subst he
    rw [hb] at c2
    injection c2 with c2
    injection c2 with c2 _ _
    exact hys (by simpa using congrArg Array.toList c2.symm)
  · rw [setF_ne _ (by decide), h3] at c; cases c
theorem RowS.s3 (h : RowS e size m olds ys w1 f R w) (h1 : f 1 = true) (h3 : f 3 = false) {v' : Value} {w' : World} (ho : w'.ownsRow w1.heap.size e size v' (m + 1) (olds ++ ys)) (hg : w.grownBy w' (R 1).ownBlock) : RowS e size m olds ys w1 (setF f 3) (setR R 3 v') w' := by
  obtain ⟨a1, a2, a3, a4, a5⟩ := h
  refine ⟨a1.grown hg a1.size (fun k hk => ((a3 h1 h3).lt k hk).1), fun c c' => ?_, fun c c' => ?_, fun c c' => ?_, fun c => by rw [setR_self]; exact ho⟩
  · rw [setF_ne _ (by decide), h1] at c'; cases c'
  · rw [setF_self] at c'; cases c'
  · rw [setF_self] at c'; cases c'
end
end Go.Proofs.YtdnbbnjmdddfdaaDoor
