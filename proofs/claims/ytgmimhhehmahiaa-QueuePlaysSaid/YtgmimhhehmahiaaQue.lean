/- Queues in memory: what of the world an operation leaves alone; a queue's two blocks; a call in the middle of a walk by single steps. -/
import Derived.Test.YtgmimhhehmahiaaSees
import Derived.Conc.LoneSelect
import Derived.Conc.LoneSelectN
namespace Go.Proofs.Ytgmimhhehmahiaa
open Go.Conc Go.RowKit

/-- w' is w but for the blocks of S, and for new ones. -/
structure Only (S : List Nat) (w w' : World) : Prop where
  os : w'.os = w.os
  tape : w'.tape = w.tape
  output : w'.output = w.output
  size : w.heap.size ≤ w'.heap.size
  block : ∀ b, b < w.heap.size → b ∉ S → w'.heap[b]? = w.heap[b]?

theorem Only.refl (S : List Nat) (w : World) : Only S w w := ⟨rfl, rfl, rfl, Nat.le_refl _, fun _ _ _ => rfl⟩
theorem Only.trans {S : List Nat} {a b c : World} (h : Only S a b) (k : Only S b c) : Only S a c :=
  ⟨k.os.trans h.os, k.tape.trans h.tape, k.output.trans h.output, Nat.le_trans h.size k.size, fun i hi hn => (k.block i (Nat.lt_of_lt_of_le hi h.size) hn).trans (h.block i hi hn)⟩
theorem Only.more {S S' : List Nat} {w w' : World} (h : Only S w w') (hs : ∀ b, b ∈ S → b ∈ S') : Only S' w w' :=
  ⟨h.os, h.tape, h.output, h.size, fun b hb hn => h.block b hb (fun hi => hn (hs b hi))⟩
theorem Only.of_below {S : List Nat} {w w' : World} (h : Below w.heap.size w w') : Only S w w' := ⟨h.os, h.tape, h.output, h.size, fun b hb _ => h.block b hb⟩
theorem Only.below {S : List Nat} {w w' : World} {B : Nat} (h : Only S w w') (hB : B ≤ w.heap.size) (hs : ∀ b, b ∈ S → B ≤ b) : Below B w w' :=
  ⟨h.os, h.tape, h.output, h.size, fun b hb => h.block b (by omega) (fun hi => by have := hs b hi; omega)⟩
theorem Only.below1 {s : Nat} {w w' : World} {B : Nat} (h : Only [s] w w') (hB : B ≤ w.heap.size) (hs : B ≤ s) : Below B w w' :=
  h.below hB (fun b hb => by rw [List.mem_singleton] at hb; omega)
theorem Only.drewN {S : List Nat} {a w : World} (h : Only S a w) (n : Nat) : Only S a (w.drewN n) := ⟨h.os, h.tape, h.output, h.size, h.block⟩

theorem only_setChan {w w' : World} (h : Below w.heap.size w w') {c : Nat} (cap : Nat) (buf : Array Value) (cl : Bool) (s r : Nat) (tm : Bool) : Only [c] w (w'.setChan c cap buf cl s r tm) :=
  ⟨h.os, h.tape, h.output, by rw [size_setChan]; exact h.size, fun b hb hn => by
    simp only [World.setChan]
    rw [Array.getElem?_setIfInBounds_ne (by simp at hn; omega)]
    exact h.block b hb⟩
theorem only_setCell (w : World) (a : Addr) (u : Value) : Only [a.block] w (w.setCell a u) :=
  ⟨rfl, rfl, rfl, by simp [World.setCell], fun b _ hn => Below.heap_setCell _ _ _ _ (by simpa using hn)⟩

/-- A block that holds no byte. -/
def NoByte (w : World) (b : Nat) : Prop := ∀ o n, w.cell? ⟨b, o, none⟩ ≠ some (.int .u8 n)
theorem noByte_chan {w : World} {b cap s r : Nat} {buf : Array Value} {cl tm : Bool} (h : w.heap[b]? = some (.chan cap buf cl s r tm)) : NoByte w b := fun o n e => by
  simp [World.cell?, h] at e

theorem Sees.only {w w' : World} {S : List Nat} {B : Nat} {A : Option Addr} {l : List UInt8} (h : Sees w B A l) (ho : Only S w w') (hn : ∀ s, s ∈ S → NoByte w s) : Sees w' B A l := fun hne => by
  obtain ⟨g, o, e, hg, hc⟩ := h hne
  have hpos : 0 < l.length := List.length_pos_iff.2 hne
  have h0 := hc 0 hpos
  have hlt : g < w.heap.size := World.block_lt_of_cell? w _ h0
  have hns : g ∉ S := fun hi => hn g hi _ _ h0
  refine ⟨g, o, e, hg, fun j hj => ?_⟩
  exact (World.cell?_of_block (w := w) (a := ⟨g, o + j, none⟩) (ho.block g hlt hns)).trans (hc j hj)

/-- The queue at q, its channel at c: its room, whether it is closed, its elements. -/
def Que (w : World) (q c room : Nat) (closed : Bool) (xs : List (List UInt8)) : Prop :=
  ∃ (vs : List Value) (s r : Nat), w.heap[q]? = some (.cells #[.chan (some c), .bool closed] 49 (0, 0)) ∧ w.heap[c]? = some (.chan room vs.toArray false s r false) ∧ xs.length ≤ room ∧ Views w w.heap.size vs xs

theorem Que.lt {w : World} {q c room : Nat} {closed : Bool} {xs : List (List UInt8)} (h : Que w q c room closed xs) : q < w.heap.size ∧ c < w.heap.size ∧ q ≠ c := by
  obtain ⟨vs, s, r, h1, h2, _⟩ := h
  refine ⟨(Array.getElem?_eq_some_iff.1 h1).1, (Array.getElem?_eq_some_iff.1 h2).1, fun e => ?_⟩
  subst e
  rw [h1] at h2
  cases h2
theorem Que.le {w : World} {q c room : Nat} {closed : Bool} {xs : List (List UInt8)} (h : Que w q c room closed xs) : xs.length ≤ room := by
  obtain ⟨vs, s, r, h1, h2, h3, _⟩ := h; exact h3
theorem Que.noByte {w : World} {q c room : Nat} {closed : Bool} {xs : List (List UInt8)} (h : Que w q c room closed xs) : NoByte w q ∧ NoByte w c := by
  obtain ⟨vs, s, r, h1, h2, _⟩ := h
  refine ⟨fun o n e => ?_, noByte_chan h2⟩
  simp [World.cell?, h1] at e
  match o, e with
  | 0, e => simp at e
  | 1, e => simp at e
  | k + 2, e => simp at e

theorem Views.only {w w' : World} {S : List Nat} {B : Nat} {vs : List Value} {ls : List (List UInt8)} (h : Views w B vs ls) (ho : Only S w w') (hn : ∀ s, s ∈ S → NoByte w s) : Views w' B vs ls :=
  ⟨h.1, fun i v l hv hl => by
    obtain ⟨A, c, e, h1, h2, h3⟩ := h.2 i v l hv hl
    exact ⟨A, c, e, h1, h2, h3.only ho hn⟩⟩

theorem Que.only {w w' : World} {S : List Nat} {q c room : Nat} {closed : Bool} {xs : List (List UInt8)} (h : Que w q c room closed xs) (ho : Only S w w') (hn : ∀ s, s ∈ S → NoByte w s) (hq : q ∉ S) (hc : c ∉ S) : Que w' q c room closed xs := by
  have hlt := h.lt
  obtain ⟨vs, s, r, h1, h2, h3, h4⟩ := h
  exact ⟨vs, s, r, (ho.block q hlt.1 hq).trans h1, (ho.block c hlt.2.1 hc).trans h2, h3, (h4.only ho hn).mono ho.size⟩
theorem Que.below {w w' : World} {q c room : Nat} {closed : Bool} {xs : List (List UInt8)} (h : Que w q c room closed xs) (hb : Below w.heap.size w w') : Que w' q c room closed xs :=
  h.only (S := []) (Only.of_below hb) (fun s hs => by cases hs) (by simp) (by simp)
theorem Que.drewN {w : World} {q c room : Nat} {closed : Bool} {xs : List (List UInt8)} (h : Que w q c room closed xs) (n : Nat) : Que (w.drewN n) q c room closed xs := h
/-- One queue is written to (at its block s), the other stands. -/
theorem Que.beside {w w' : World} {s q c room q2 c2 room2 : Nat} {closed cl2 : Bool} {xs ys : List (List UInt8)} (h : Que w q c room closed xs) (h2 : Que w q2 c2 room2 cl2 ys) (hs : s = q2 ∨ s = c2) (ho : Only [s] w w') (hq : q ≠ s) (hc : c ≠ s) : Que w' q c room closed xs :=
  h.only ho (fun b hb => by
    rw [List.mem_singleton] at hb; subst hb
    rcases hs with rfl | rfl
    · exact h2.noByte.1
    · exact h2.noByte.2) (by simpa using hq) (by simpa using hc)

/-! ### a call in the middle of a walk by single steps -/
section
variable {P : Program} {Q : Goroutine → World → Prop}
theorem LoneTo.steps {g g' : Goroutine} {w w' : World} (h : Steps P (solo g w) (solo g' w')) (h' : LoneTo P Q g' w') : LoneTo P Q g w :=
  let ⟨g₂, w₂, hs, hq⟩ := h'; ⟨g₂, w₂, Steps.trans h hs, hq⟩

theorem LoneTo.calls {b : Frame} {a : Act} {k : List Item} {cs : List Frame} {w : World} {ops : Array Oper} {i : Nat} {rest : List Nat} {o : Oper} {f : FuncId} {fn : Func} {c : Code} {as : Array Operand} {args : Array Value} {ats : Array TypeId} {R : Ending → World → Prop}
    (ho : ops[i]? = some o) (hw : Region.wanted o (yielded ops a.tmps) = true) (hk : b.kind ≠ .early) (hop : o.op = .call { callee := .value (.func f), args := as, argTypes := ats })
    (hf : P.funcs[f]? = some fn) (hname : (fn.name == "runtime.NumGoroutine") = false) (hb : fn.body = some c)
    (hargs : as.map a.eval = args) (h : Calls P f args w R)
    (hR : ∀ e w', R e w' → ∃ v, e = .returned v ∧ LoneTo P Q (G (b.at (a.put o.dst v) (.inRegion ops rest :: k)) cs) w') :
    LoneTo P Q (G (b.at a (.inRegion ops (i :: rest) :: k)) cs) w := by
  subst hargs
  have hb' : fn.body.isNone = false := by rw [hb]; rfl
  have h1 := stepG_enter (P := P) (main := true) (b := b) (a := a) (k := k) (cs := cs) (w := w) (rest := rest) ho hw hk (run_call_body hop hf hname hb')
  refine LoneTo.step (step_solo_go rfl h1) ?_
  obtain ⟨e, w', fr, hr, hcomes, _, hl⟩ := h (b.at a (.inRegion ops (i :: rest) :: k) :: cs)
  obtain ⟨v, rfl, hq⟩ := hR e w' hr
  refine LoneTo.steps (g' := G fr (b.at a (.inRegion ops (i :: rest) :: k) :: cs)) (w' := w') hcomes ?_
  refine LoneTo.step (step_leave_returned hl) ?_
  have hfin : (b.at a (.inRegion ops (i :: rest) :: k)).finish v = b.at (a.put o.dst v) (.inRegion ops rest :: k) := by rw [Frame.finish_at, ho]; rfl
  rw [hfin]
  exact hq
end
end Go.Proofs.Ytgmimhhehmahiaa
