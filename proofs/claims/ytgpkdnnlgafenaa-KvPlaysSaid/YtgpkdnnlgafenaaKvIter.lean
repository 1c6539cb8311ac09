/- The table's iterator: what it hands to each round, whatever the round does that keeps the table. -/
import Derived.RangeFuncNested
import Derived.RangeFuncBound
import Derived.RangeFuncCalls
import Derived.RangeFuncLeaves
import Derived.Shelf.Abstract
import Derived.Shelf.RegionOpen
import Derived.WalkKit
import Derived.OwnWalkIn
import Derived.TacticsInMore
import Derived.LoopNIn
import Derived.LoopIn
import Derived.Test.YtgpkdnnlgafenaaKvFnd
import Derived.Test.YtgpkdnnlgafenaaRowK
namespace Go.Proofs.Ytgpkdnnlgafenaa
open Go.RowKit Kv
set_option linter.unusedVariables false
attribute [local go_sem] Oper.semAt_some

/-- What lies below N, but for the blocks of X, is left alone. -/
structure KeepX (N : Nat) (X : List Nat) (w w' : World) : Prop where
  os : w'.os = w.os
  tape : w'.tape = w.tape
  output : w'.output = w.output
  size : w.heap.size ≤ w'.heap.size
  block : ∀ b, b < N → b ∉ X → w'.heap[b]? = w.heap[b]?
section
variable {N : Nat} {X : List Nat} {a b c : World}
theorem KeepX.refl (N : Nat) (X : List Nat) (a : World) : KeepX N X a a := ⟨rfl, rfl, rfl, Nat.le_refl _, fun _ _ _ => rfl⟩
theorem KeepX.trans (h : KeepX N X a b) (k : KeepX N X b c) : KeepX N X a c := ⟨k.os.trans h.os, k.tape.trans h.tape, k.output.trans h.output, Nat.le_trans h.size k.size, fun i h1 h2 => (k.block i h1 h2).trans (h.block i h1 h2)⟩
theorem KeepX.of_below (hb : Below a.heap.size a b) (hN : N ≤ a.heap.size) : KeepX N X a b := ⟨hb.os, hb.tape, hb.output, hb.size, fun i h1 _ => hb.block i (by omega)⟩
theorem KeepX.of_grown {row : Option Nat} (h : a.grownBy b row) (hr : ∀ r, row = some r → N ≤ r) (hN : N ≤ a.heap.size) : KeepX N X a b := ⟨h.os, h.tape, h.output, h.size, fun i h1 _ => h.block i (by omega) (fun e => by have := hr i e.symm; omega)⟩
theorem KeepX.setCell {p : Addr} (h : KeepX N X a b) (hp : p.block ∈ X ∨ N ≤ p.block) (u : Value) : KeepX N X a (b.setCell p u) := ⟨h.os, h.tape, h.output, by simpa [World.setCell] using h.size, fun i h1 h2 => by
  rw [Below.heap_setCell _ _ _ _ (fun e => by subst e; exact hp.elim h2 (fun h' => by omega))]; exact h.block i h1 h2⟩
theorem KeepX.cell (h : KeepX N X a b) {p : Addr} (hp : p.block < N) (hX : p.block ∉ X) : b.cell? p = a.cell? p := World.cell?_of_block (w := a) (h.block _ hp hX)
theorem Below.grownNone (h : Below a.heap.size a b) : a.grownBy b none := ⟨h.os, h.tape, h.output, h.size, fun i hi _ => h.block i hi⟩
theorem keepX_b {w : World} (hN : N ≤ w.heap.size) (W : World) (l : Nat) (o o' : Obj) (hl : w.heap.size ≤ l) (h1 : W.heap[l]? = some o) (h2 : o.isCells = false) (h3 : o.isWalk = false) : KeepX N X W (W.putObj l o') := by
  have hg := grownBy_putObj' W l o'
  exact ⟨hg.os, hg.tape, hg.output, hg.size, fun i hi _ => hg.block i (Nat.lt_of_lt_of_le hi (by have := (Array.getElem?_eq_some_iff.1 h1).1; omega)) (fun e => by injection e with e; omega)⟩
/-- A table behind such a turn. -/
theorem TabN.keepX {t r c1 g c2 : Nat} {F : List Nat} {L : List Ent} (h : TabN a t F r c1 g c2 L) (k : KeepX N X a b) (hF : ∀ i, i ∈ F → i < N ∧ i ∉ X) (hV : ∀ e, e ∈ L → ∀ i, i ∈ blk e.v → i < N ∧ i ∉ X) : TabN b t F r c1 g c2 L := by
  have ft := h.foot
  refine ⟨ft, ?_, ?_, ⟨?_, fun e he => ?_⟩, h.pos⟩
  · rw [k.block t (hF t (by rw [ft]; simp)).1 (hF t (by rw [ft]; simp)).2]; exact h.head
  · refine ⟨h.mid.1, ?_⟩
    rcases h.mid.2 with hn | ⟨g', cap, cur, e, hbg, hgg, rest⟩
    · exact .inl hn
    · have : g' = r := by injection e with e _ _; injection e with e; injection e with e _ _; exact e.symm
      subst this
      exact .inr ⟨g', cap, cur, e, hbg, by rw [k.block g' (hF g' (by rw [ft]; simp)).1 (hF g' (by rw [ft]; simp)).2]; exact hgg, rest⟩
  · refine ⟨h.row.row.1, ?_⟩
    rcases h.row.row.2 with hn | ⟨g', cap, cur, e, hbg, hgg, rest⟩
    · exact .inl hn
    · have : g' = g := by injection e with e _ _; injection e with e; injection e with e _ _; exact e.symm
      subst this
      exact .inr ⟨g', cap, cur, e, hbg, by rw [k.block g' (hF g' (by rw [ft]; simp)).1 (hF g' (by rw [ft]; simp)).2]; exact hgg, rest⟩
  · have hv := h.row.vals e he
    refine ⟨hv.1, ?_⟩
    rcases hv.2 with hn | ⟨g', cap, cur, e', hbg, hgg, rest⟩
    · exact .inl hn
    · have hm : g' ∈ blk e.v := by rw [e']; simp [blk, Value.ownBlock]
      exact .inr ⟨g', cap, cur, e', hbg, by rw [k.block g' (hV e he g' hm).1 (hV e he g' hm).2]; exact hgg, rest⟩
end

/-- The pairs that the iterator hands over. -/
def elems (L : List Ent) (p : Nat) : List {x : Ent // x ∈ L} := (L.drop p).attach.map fun x => ⟨x.1, List.mem_of_mem_drop x.2⟩
theorem elems_val (L : List Ent) (p : Nat) : (elems L p).map (·.1) = L.drop p := by
  unfold elems
  rw [List.map_map]
  show ((L.drop p).attach.map fun x => x.1) = _
  rw [List.attach_map_subtype_val]
theorem elems_length (L : List Ent) (p : Nat) : (elems L p).length = L.length - p := by
  have := congrArg List.length (elems_val L p)
  rwa [List.length_map, List.length_drop] at this
theorem elems_at (L : List Ent) (p j : Nat) (h : j < (elems L p).length) : ((elems L p)[j]).1 = L[p + j]'(by rw [elems_length] at h; omega) := by
  have h2 : ((elems L p).map (·.1))[j]'(by rw [List.length_map]; exact h) = ((elems L p)[j]).1 := List.getElem_map ..
  rw [← h2]
  simp only [elems_val, List.getElem_drop]
def encE {L : List Ent} (x : {x : Ent // x ∈ L}) : Array Value := #[.agg #[.string x.1.k, x.1.v]]

theorem pairs_any (w : World) (t : Nat) (key : ByteArray) :
    Calls Try.prog 33 #[.pointer (some ⟨t, 0, none⟩), .string key] w fun e w' => e = .returned (.func (.func 46) #[] #[.pointer (some ⟨w.heap.size, 0, none⟩), .pointer (some ⟨w.heap.size + 1, 0, none⟩)]) ∧
      w' = (w.alloc (.cells #[.pointer (some ⟨t, 0, none⟩)] 23)).alloc (.cells #[.string key] 9) := by
  go_enter Try.func33, Try.ntmps33
  go_wp2
  go_ret
  exact ⟨by simp, rfl⟩
end Go.Proofs.Ytgpkdnnlgafenaa
