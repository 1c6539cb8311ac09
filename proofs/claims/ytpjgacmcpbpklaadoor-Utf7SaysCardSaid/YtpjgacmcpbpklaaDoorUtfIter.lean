/- A range over a string beside rows of one's own: what is known of the world. -/
import Derived.Test.YtpjgacmcpbpklaaDoorUtfU
import Derived.Lib.OthersKept
import Derived.Laws.RangeAny
namespace Go.Proofs.YtpjgacmcpbpklaaDoor
open Go.RowKit
set_option linter.unusedVariables false

theorem only_iterAt (w : World) (it : Nat) (s : ByteArray) (p : Nat) : Only [it] w (w.iterAt it s p) :=
  ⟨rfl, rfl, rfl, by rw [Lib.iterAt_size]; exact Nat.le_refl _, fun b _ hn => Lib.iterAt_other w it b s p (fun e => hn (by simp [e]))⟩
theorem iterPos_at {w : World} {it : Nat} {s : ByteArray} {p : Nat} (h : w.heap[it]? = some (.stringIter s p)) : w.iterPos it = p := by unfold World.iterPos; rw [h]

/-- A string's iterator at it, a row of bytes v, a row of units vu; all of them new since w. -/
structure Ranging (w : World) (it : Nat) (s : ByteArray) (pos : Nat) (v : Value) (L : List UInt8) (vu : Value) (e : TypeId) (xs : List Value) (wr : World) : Prop where
  row : BRow wr v L
  urow : VRow wr e vu xs
  hne : e ≠ 5
  hit : wr.heap[it]? = some (.stringIter s pos)
  ge : w.heap.size ≤ it
  below : Below w.heap.size w wr
  far : ∀ k, k ∈ blk v → w.heap.size ≤ k
  ufar : ∀ k, k ∈ blk vu → w.heap.size ≤ k
section
variable {w wr W' : World} {it : Nat} {s : ByteArray} {pos : Nat} {v v' vu vu' : Value} {L L' : List UInt8} {e : TypeId} {xs xs' : List Value}
theorem Ranging.next (h : Ranging w it s pos v L vu e xs wr) (p : Nat) : Ranging w it s p v L vu e xs (wr.iterAt it s p) :=
  ⟨h.row.only (only_iterAt wr it s p) (fun k hk => by rw [List.mem_singleton]; rintro rfl; exact h.row.vrow.noIter h.hit hk),
   h.urow.only (only_iterAt wr it s p) (fun k hk => by rw [List.mem_singleton]; rintro rfl; exact h.urow.noIter h.hit hk),
   h.hne, Lib.iterAt_heap wr it s pos p h.hit, h.ge, Lib.below_iterAt h.below h.ge s p, h.far, h.ufar⟩
theorem Ranging.grow {F : List Nat} {F' : List Nat} (hf : ∀ k, k ∈ F → w.heap.size ≤ k) (hb : w.heap.size ≤ wr.heap.size) (hg : Grows F F' wr) : ∀ k, k ∈ F' → w.heap.size ≤ k := fun k hk => by
  rcases hg k hk with h1 | h1
  · exact hf k h1
  · omega
theorem Ranging.stepB (h : Ranging w it s pos v L vu e xs wr) (hr : BRow W' v' L') (ho : Only (blk v) wr W') (hg : Grows (blk v) (blk v') wr) : Ranging w it s pos v' L' vu e xs W' :=
  ⟨hr, h.urow.only ho (h.urow.apart h.row.vrow h.hne), h.hne, (ho.block it (Array.getElem?_eq_some_iff.1 h.hit).1 (h.row.vrow.noIter h.hit)).trans h.hit, h.ge,
   h.below.trans (ho.below h.below.size h.far), Ranging.grow h.far h.below.size hg, h.ufar⟩
theorem Ranging.stepU (h : Ranging w it s pos v L vu e xs wr) (hr : VRow W' e vu' xs') (ho : Only (blk vu) wr W') (hg : Grows (blk vu) (blk vu') wr) : Ranging w it s pos v L vu' e xs' W' :=
  ⟨h.row.only ho (h.urow.apart h.row.vrow h.hne).symm, hr, h.hne, (ho.block it (Array.getElem?_eq_some_iff.1 h.hit).1 (h.urow.noIter h.hit)).trans h.hit, h.ge,
   h.below.trans (ho.below h.below.size h.ufar), h.far, Ranging.grow h.ufar h.below.size hg⟩
end
end Go.Proofs.YtpjgacmcpbpklaaDoor
