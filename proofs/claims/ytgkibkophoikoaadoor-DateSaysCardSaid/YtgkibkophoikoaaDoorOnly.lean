/- What of the world an operation leaves alone: all but some blocks. -/
import Derived.Test.YtgkibkophoikoaaDoorSees
namespace Go.Proofs.YtgkibkophoikoaaDoor
open Go.RowKit

/-- w' is w but for the blocks of S, and for new ones. -/
structure Only (S : List Nat) (w w' : World) : Prop where
  os : w'.os = w.os
  tape : w'.tape = w.tape
  output : w'.output = w.output
  size : w.heap.size ≤ w'.heap.size
  block : ∀ b, b < w.heap.size → b ∉ S → w'.heap[b]? = w.heap[b]?

theorem Only.refl (S : List Nat) (w : World) : Only S w w := ⟨rfl, rfl, rfl, Nat.le_refl _, fun _ _ _ => rfl⟩
theorem Only.trans {S : List Nat} {a b c : World} (h : Only S a b) (k : Only S b c) : Only S a c :=
  ⟨k.os.trans h.os, k.tape.trans h.tape, k.output.trans h.output, Nat.le_trans h.size k.size, fun i hi hn => (k.block i (Nat.lt_of_lt_of_le hi h.size) hn).trans (h.block i hi hn)⟩
theorem Only.more {S S' : List Nat} {w w' : World} (h : Only S w w') (hs : ∀ b, b ∈ S → b ∈ S') : Only S' w w' :=
  ⟨h.os, h.tape, h.output, h.size, fun b hb hn => h.block b hb (fun hi => hn (hs b hi))⟩
theorem Only.of_below {S : List Nat} {w w' : World} (h : Below w.heap.size w w') : Only S w w' := ⟨h.os, h.tape, h.output, h.size, fun b hb _ => h.block b hb⟩
theorem Only.below {S : List Nat} {w w' : World} {B : Nat} (h : Only S w w') (hB : B ≤ w.heap.size) (hs : ∀ b, b ∈ S → B ≤ b) : Below B w w' :=
  ⟨h.os, h.tape, h.output, h.size, fun b hb => h.block b (by omega) (fun hi => by have := hs b hi; omega)⟩
theorem Only.below1 {s : Nat} {w w' : World} {B : Nat} (h : Only [s] w w') (hB : B ≤ w.heap.size) (hs : B ≤ s) : Below B w w' :=
  h.below hB (fun b hb => by rw [List.mem_singleton] at hb; omega)
theorem Only.drewN {S : List Nat} {a w : World} (h : Only S a w) (n : Nat) : Only S a (w.drewN n) := ⟨h.os, h.tape, h.output, h.size, h.block⟩

theorem only_setCell (w : World) (a : Addr) (u : Value) : Only [a.block] w (w.setCell a u) :=
  ⟨rfl, rfl, rfl, by simp [World.setCell], fun b _ hn => Below.heap_setCell _ _ _ _ (by simpa using hn)⟩

theorem Only.of_grown {S : List Nat} {w w' : World} {row : Option Nat} (h : w.grownBy w' row) (hs : ∀ k, row = some k → k ∈ S) : Only S w w' :=
  ⟨h.os, h.tape, h.output, h.size, fun b hb hn => h.block b hb (fun e => hn (hs b e.symm))⟩
theorem Only.alloc {S : List Nat} {a w : World} (h : Only S a w) (o : Obj) : Only S a (w.alloc o) :=
  h.trans (Only.of_below ((Below.refl _ _).alloc (Nat.le_refl _) _))
theorem Only.setCell {S : List Nat} {a w : World} (h : Only S a w) {p : Addr} (hp : p.block ∈ S ∨ a.heap.size ≤ p.block) (u : Value) : Only S a (w.setCell p u) :=
  ⟨h.os, h.tape, h.output, by simpa [World.setCell] using h.size, fun b hb hn => by
    rw [Below.heap_setCell _ _ _ _ (fun e => by
      subst e
      rcases hp with hp | hp
      · exact hn hp
      · omega)]
    exact h.block b hb hn⟩
theorem Only.cell {S : List Nat} {w w' : World} (h : Only S w w') {a : Addr} (ha : a.block < w.heap.size) (hn : a.block ∉ S) : w'.cell? a = w.cell? a := World.cell?_of_block (w := w) (h.block _ ha hn)
theorem Only.frozen {S : List Nat} {w w' : World} (h : Only S w w') {a : Addr} (ha : a.block < w.heap.size) (hn : a.block ∉ S) : w'.frozen? a = w.frozen? a := World.frozen?_of_block (w := w) (h.block _ ha hn)
theorem own_only {w w' : World} {S : List Nat} {base : Nat} {e : TypeId} {size : Nat} {v : Value} {n : Nat} {xs : List Value} (h : w.ownsRow base e size v n xs) (ho : Only S w w') (hv : ∀ k, v.ownBlock = some k → k ∉ S) : w'.ownsRow base e size v n xs := by
  refine ⟨h.1, ?_⟩
  rcases h.2 with hn | ⟨g, cap, cur, rfl, hbg, hgg, rest⟩
  · exact .inl hn
  · refine .inr ⟨g, cap, cur, rfl, hbg, ?_, rest⟩
    rw [ho.block g (Array.getElem?_eq_some_iff.1 hgg).1 (hv g rfl)]
    exact hgg
/-- The blocks of a footprint, turned or new. -/
def Grows (F F' : List Nat) (w : World) : Prop := ∀ b, b ∈ F' → b ∈ F ∨ w.heap.size ≤ b
theorem Grows.refl (F : List Nat) (w : World) : Grows F F w := fun _ h => .inl h
theorem Grows.trans {F F' F'' : List Nat} {w w' : World} (h : Grows F F' w) (k : Grows F' F'' w') (hs : w.heap.size ≤ w'.heap.size) : Grows F F'' w := fun b hb => by
  rcases k b hb with h1 | h1
  · exact h b h1
  · exact .inr (by omega)
theorem Only.step {F F' : List Nat} {a b c : World} (h : Only F a b) (k : Only F' b c) (hg : Grows F F' a) : Only F a c :=
  ⟨k.os.trans h.os, k.tape.trans h.tape, k.output.trans h.output, Nat.le_trans h.size k.size, fun i hi hn =>
    (k.block i (Nat.lt_of_lt_of_le hi h.size) (fun hF => by
      rcases hg i hF with h1 | h1
      · exact hn h1
      · omega)).trans (h.block i hi hn)⟩
def Apart (F G : List Nat) : Prop := ∀ b, b ∈ F → b ∉ G
theorem Apart.symm {F G : List Nat} (h : Apart F G) : Apart G F := fun b hb hF => h b hF hb
theorem Apart.grows {F F' G : List Nat} {w : World} (h : Apart F G) (hg : Grows F F' w) (hG : ∀ b, b ∈ G → b < w.heap.size) : Apart F' G := fun b hb hG' => by
  rcases hg b hb with h1 | h1
  · exact h b h1 hG'
  · have := hG b hG'; omega
end Go.Proofs.YtgkibkophoikoaaDoor
