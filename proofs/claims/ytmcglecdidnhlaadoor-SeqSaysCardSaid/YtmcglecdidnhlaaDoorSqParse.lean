/- seq's Parse: the walk. -/
import Derived.Test.YtmcglecdidnhlaaDoorSqIter
import Derived.Test.YtmcglecdidnhlaaDoorSqApp
namespace Go.Proofs.YtmcglecdidnhlaaDoor
open Go.RowKit
set_option linter.unusedVariables false
attribute [local go_sem] Oper.semAt_some

def ParseEnd (l : List UInt8) (w : World) (e : Ending) (w' : World) : Prop :=
  ∃ v, e = .returned (.tuple #[v, .int .i64 (Sq.parse l).2]) ∧ SetAt w' v (Sq.parse l).1 ∧ Below w.heap.size w w'

/-- Between two rounds: b the first of the call's own six boxes. -/
structure PsInv (w : World) (s : Spl) (W : World) : Prop where
  bel : Below w.heap.size w W
  set : Blk W w.heap.size 25 #[.slice none 0 0]
  err : Blk W (w.heap.size + 1) 26 #[.int .i64 0]
  acc : ∃ A m c acc, Blk W (w.heap.size + 1 + 1) 23 #[.slice A m c] ∧ m = (acc.take 101).length ∧ W.ownsRow w.heap.size 48 2 (.slice A m c) m (sp (acc.take 101)) ∧ Sq.gather [] s.1 = some acc
  left : Blk W (w.heap.size + 1 + 1 + 1) 9 #[.string s.2]
  sep : Blk W (w.heap.size + 1 + 1 + 1 + 1) 9 #[.string ⟨#[44]⟩]
  save : Blk W (w.heap.size + 1 + 1 + 1 + 1 + 1) 3 #[.int .i64 0]
structure PsRet (w : World) (full : List (List UInt8)) (W : World) : Prop where
  bel : Below w.heap.size w W
  set : Blk W w.heap.size 25 #[.slice none 0 0]
  err : Blk W (w.heap.size + 1) 26 #[.int .i64 3]
  none : Sq.gather [] full = .none

theorem below_turned {B N : Nat} {w W W' : World} {row : Option Nat} (h : Below B w W) (hg : W.grownBy W' row) (hr : ∀ r, row = some r → N ≤ r ∧ ∃ o : Obj, W.heap[r]? = some o ∧ o.isCells = false) (hB : B ≤ w.heap.size) (hN : B ≤ N) : Below B w W' :=
  h.grown hg (Nat.le_trans hB h.size) (fun k hk => Nat.le_trans hN (hr k hk).1)
theorem PsInv.turned {w W W' : World} {s : Spl} {row : Option Nat} {N : Nat} (h : PsInv w s W) (hg : W.grownBy W' row) (hr : ∀ r, row = some r → N ≤ r ∧ ∃ o : Obj, W.heap[r]? = some o ∧ o.isCells = false) (hN : w.heap.size ≤ N) : PsInv w s W' := by
  have hr' := fun r e => (hr r e).2
  obtain ⟨A, m, c, acc, h1, h2, h3, h4⟩ := h.acc
  exact ⟨below_turned h.bel hg hr (Nat.le_refl _) hN, h.set.turned hg hr', h.err.turned hg hr', ⟨A, m, c, acc, h1.turned hg hr', h2, row_turned h3 hg hr', h4⟩, h.left.turned hg hr', h.sep.turned hg hr', h.save.turned hg hr'⟩
theorem PsRet.turned {w W W' : World} {full : List (List UInt8)} {row : Option Nat} {N : Nat} (h : PsRet w full W) (hg : W.grownBy W' row) (hr : ∀ r, row = some r → N ≤ r ∧ ∃ o : Obj, W.heap[r]? = some o ∧ o.isCells = false) (hN : w.heap.size ≤ N) : PsRet w full W' :=
  ⟨below_turned h.bel hg hr (Nat.le_refl _) hN, h.set.turned hg (fun r e => (hr r e).2), h.err.turned hg (fun r e => (hr r e).2), h.none⟩
theorem PsInv.left_set {w W : World} {s : Spl} (h : PsInv w s W) (r : ByteArray) : PsInv w (s.1, r) (W.setCell ⟨w.heap.size + 1 + 1 + 1, 0, .none⟩ (.string r)) := by
  obtain ⟨A, m, c, acc, h1, h2, h3, h4⟩ := h.acc
  exact ⟨below_set h.bel (by omega) _ _, h.set.other (by omega) _, h.err.other (by omega) _, ⟨A, m, c, acc, h1.other (by omega) _, h2, row_set h3 (h.left.apart (by decide) h3) _, h4⟩, h.left.set 0 _, h.sep.other (by omega) _, h.save.other (by omega) _⟩
/-- All that lies below lies on; so do the boxes. -/
theorem PsInv.below {w W W' : World} {s : Spl} (h : PsInv w s W) (hb : Below W.heap.size W W') : PsInv w s W' := by
  obtain ⟨A, m, c, acc, h1, h2, h3, h4⟩ := h.acc
  exact ⟨h.bel.trans (hb.mono h.bel.size), h.set.below hb h.set.lt, h.err.below hb h.err.lt, ⟨A, m, c, acc, h1.below hb h1.lt, h2, own_below h3 hb (Nat.le_refl _), h4⟩, h.left.below hb h.left.lt, h.sep.below hb h.sep.lt, h.save.below hb h.save.lt⟩
theorem gather_app : ∀ (q pre : List (List UInt8)) (a : List (Int × Int)), Sq.gather a (pre ++ q) = match Sq.gather a pre with | none => none | some b => Sq.gather b q := by
  intro q pre
  induction pre with
  | nil => intro a; rfl
  | cons p pre ih =>
    intro a
    rw [List.cons_append, Sq.gather_cons, Sq.gather_cons]
    cases Sq.pspan p with
    | none => rfl
    | some s => exact ih _
theorem gather_no (full : List (List UInt8)) (pre q : List (List UInt8)) (x : List UInt8) (acc : List (Int × Int)) (h : pre ++ x :: q = full) (hg : Sq.gather [] pre = some acc) (hx : Sq.pspan x = none) : Sq.gather [] full = none := by
  rw [← h, gather_app, hg]
  simp only
  rw [Sq.gather_cons, hx]
theorem take_more (acc : List (Int × Int)) (s : Int × Int) (h : acc.length ≤ 100) : (acc ++ [s]).take 101 = acc.take 101 ++ [s] := by
  rw [List.take_of_length_le (by simp; omega), List.take_of_length_le (by omega)]
theorem take_full (acc : List (Int × Int)) (s : Int × Int) (h : 101 ≤ acc.length) : (acc ++ [s]).take 101 = acc.take 101 := by
  rw [List.take_append_of_le_length h]
theorem part_le (c : UInt8) : ∀ (l : List UInt8), ∀ x ∈ Sq.parts c l, x.length ≤ l.length
  | [], x, h => by simp [Sq.parts] at h; subst h; simp
  | b :: r, x, h => by
    have ih := part_le c r
    unfold Sq.parts at h
    split at h
    · rcases List.mem_cons.1 h with rfl | h
      · simp
      · have := ih x h; simp; omega
    · split at h
      · rw [List.mem_singleton] at h; subst h; simp
      · rename_i p q hp
        rcases List.mem_cons.1 h with rfl | h
        · have := ih p (by rw [hp]; simp)
          simp; omega
        · have := ih x (by rw [hp]; simp [h])
          simp; omega
theorem parse_ret (w : World) (tmps : Array Value) (g g2 : Nat) (hp : tmps.getD 2 undef = .pointer (some ⟨g, 0, none⟩)) (hp2 : tmps.getD 3 undef = .pointer (some ⟨g2, 0, none⟩)) (v u : Value) (hg : Blk w g 25 #[v]) (hg2 : Blk w g2 26 #[u]) :
    (results Tryd.f9 tmps).run Tryd.prog w = .ok (.tuple #[.agg #[v], u]) w :=
  ret_cells2 rfl tmps w g g2 hp hp2 _ _ _ hg _ _ Tryd.underlying25 rfl (by kernel_rfl) u hg2 Tryd.underlying26 rfl
end Go.Proofs.YtmcglecdidnhlaaDoor
