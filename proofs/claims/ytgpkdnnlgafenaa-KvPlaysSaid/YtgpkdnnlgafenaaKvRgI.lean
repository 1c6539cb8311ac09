/- Range's invariant: the row of copies that a loop over the iterator makes. -/
import Derived.Test.YtgpkdnnlgafenaaKvItW
import Derived.Test.YtgpkdnnlgafenaaKvRg5
import Derived.Test.YtgpkdnnlgafenaaKvGet
namespace Go.Proofs.Ytgpkdnnlgafenaa
open Go.RowKit Kv
set_option linter.unusedVariables false

/-- What a table's iterator hands over, told of the table. -/
theorem pairs_stops (n : Nat) (hn : 2 ≤ n) (w1 : World) (t bt bk : Nat) (m : List Pr) (F X : List Nat) (key : ByteArray) (ht : Tab w1 t m F) (hasc : Asc m) (hlen : m.length ≤ 1000000)
    (hbt : bt ∉ X) (h1 : w1.cell? ⟨bt, 0, none⟩ = some (.pointer (some ⟨t, 0, none⟩))) (h2 : w1.cell? ⟨bk, 0, none⟩ = some (.string key)) (hF : ∀ i, i ∈ F → i ∉ X) (hX : ∀ b, b ∈ X → NoB w1 b) :
    ∃ L : List Ent, m = L.map Ent.pr ∧ (∀ e, e ∈ L → BRow w1 e.v e.l ∧ ∀ i, i ∈ blk e.v → i < w1.heap.size ∧ i ∉ X) ∧
      SeqStopsK Fence.wide n Try.prog 46 #[.pointer (some ⟨bt, 0, none⟩), .pointer (some ⟨bk, 0, none⟩)] (encE (L := L)) (KeepX w1.heap.size X) (fun xs => xs = elems L (pos m key)) (fun pre => pre <+: elems L (pos m key)) L.length w1 := by
  have hlt : bt < w1.heap.size := World.block_lt_of_cell? w1 _ h1
  have hlk : bk < w1.heap.size := World.block_lt_of_cell? w1 _ h2
  rcases ht with ⟨rfl, _, A, c, hh⟩ | ⟨r, c1, g, c2, L, rfl, ht⟩
  · refine ⟨[], rfl, (fun e he => by cases he), fun l J Jx W hW hJ hJx hY h0 => ?_⟩
    refine (pairs1_none n (by omega) l bt bk t A c _ key _ J W hJ ((hW.cell (p := ⟨bt, 0, none⟩) hlt).trans h1) ((hW.cell (p := ⟨bk, 0, none⟩) hlk).trans h2) (by rw [hW.block t (Array.getElem?_eq_some_iff.1 hh).1]; exact hh) h0).mono ?_
    rintro e W' ⟨he, hj⟩
    exact ⟨he, .inl ⟨[], rfl, hj⟩⟩
  · have hV : ∀ e, e ∈ L → ∀ i, i ∈ blk e.v → i < w1.heap.size ∧ i ∉ X := fun e he i hi => ⟨(ht.row.vals e he).lt i hi, fun hm => (ht.row.vals e he).noB (hX i hm) hi⟩
    have hFl : ∀ i, i ∈ F → i < w1.heap.size ∧ i ∉ X := fun i hi => by
      have : Tab w1 t (L.map Ent.pr) F := .inr ⟨r, c1, g, c2, L, rfl, ht⟩
      exact ⟨(this.noB i hi).2, hF i hi⟩
    rw [List.length_map] at hlen
    refine ⟨L, rfl, fun e he => ⟨ht.row.vals e he, hV e he⟩, fun l J Jx W hW hJ hJx hY h0 => ?_⟩
    exact pairs1_some n hn l bt bk t r c1 g c2 w1.heap.size X F L key J Jx W hJ ⟨hlt, hbt⟩ hW.size ((hW.cell (p := ⟨bt, 0, none⟩) hlt).trans h1) ((hW.cell (p := ⟨bk, 0, none⟩) hlk).trans h2) (ht.below hW) hasc hlen hFl hV hY h0

theorem BRow.keepX {N : Nat} {X : List Nat} {a b : World} {v : Value} {l : List UInt8} (h : BRow a v l) (k : KeepX N X a b) (hv : ∀ i, i ∈ blk v → i < N ∧ i ∉ X) : BRow b v l := own_same h fun i hi => k.block i (hv i hi).1 (hv i hi).2
/-- A block of cells behind the turn of one that is none. -/
theorem cells_turned {W W' : World} {row : Option Nat} (hg : W.grownBy W' row) (hr : ∀ r, row = some r → ∃ o : Obj, W.heap[r]? = some o ∧ o.isCells = false) {b : Nat} {C : Array Value} {e : TypeId} {fr : Nat × Nat} (h : W.heap[b]? = some (.cells C e fr)) : W'.heap[b]? = some (.cells C e fr) := by
  rw [hg.block b (Array.getElem?_eq_some_iff.1 h).1 (fun e' => by
    obtain ⟨o, h1, h2⟩ := hr b e'.symm
    rw [h] at h1
    injection h1 with h1
    subst h1
    cases h2)]
  exact h
theorem own_turned {W W' : World} {row : Option Nat} {base size n : Nat} {e : TypeId} {v : Value} {xs : List Value} (h : W.ownsRow base e size v n xs) (hg : W.grownBy W' row) (hr : ∀ r, row = some r → ∃ o : Obj, W.heap[r]? = some o ∧ o.isCells = false) : W'.ownsRow base e size v n xs := by
  refine ⟨h.1, ?_⟩
  rcases h.2 with hn | ⟨g, cap, cur, rfl, hbg, hgg, rest⟩
  · exact .inl hn
  · exact .inr ⟨g, cap, cur, rfl, hbg, cells_turned hg hr hgg, rest⟩
theorem PRow.turned {W W' : World} {row : Option Nat} {v : Value} {L : List Ent} (h : PRow W v L) (hg : W.grownBy W' row) (hr : ∀ r, row = some r → ∃ o : Obj, W.heap[r]? = some o ∧ o.isCells = false) : PRow W' v L :=
  ⟨own_turned h.row hg hr, fun e he => own_turned (h.vals e he) hg hr⟩
theorem keeps_only {S : List Nat} {W W' : World} (ho : Only S W W') (hS : ∀ b, b ∈ S → ∃ C e fr, W.heap[b]? = some (.cells C e fr)) : KeepsOthers W W' :=
  ⟨ho.size, fun b o h1 h2 => by
    rw [ho.block b (Array.getElem?_eq_some_iff.1 h1).1 (fun hm => by
      obtain ⟨C, e, fr, h3⟩ := hS b hm
      rw [h1] at h3
      injection h3 with h3
      subst h3
      cases h2)]
    exact h1⟩

/-- The row in the making: box lb holds it; all that lay at w1 lies, but for that box. -/
structure Making (w1 : World) (lb : Nat) (W : World) (v : Value) (L : List Ent) : Prop where
  keep : KeepX w1.heap.size [lb] w1 W
  box : W.heap[lb]? = some (.cells #[v] 37 (0, 0))
  row : PRow W v L
  high : ∀ b, b ∈ blk v → w1.heap.size ≤ b
theorem Making.turned {w1 W W' : World} {lb : Nat} {v : Value} {L : List Ent} {row : Option Nat} (h : Making w1 lb W v L) (hg : W.grownBy W' row) (hr : ∀ r, row = some r → w1.heap.size ≤ r ∧ ∃ o : Obj, W.heap[r]? = some o ∧ o.isCells = false) : Making w1 lb W' v L :=
  ⟨h.keep.trans (KeepX.of_grown hg (fun r e => (hr r e).1) h.keep.size), cells_turned hg (fun r e => (hr r e).2) h.box, h.row.turned hg (fun r e => (hr r e).2), h.high⟩
theorem Making.below {w1 W W' : World} {lb : Nat} {v : Value} {L : List Ent} (h : Making w1 lb W v L) (hb : Below W.heap.size W W') : Making w1 lb W' v L := h.turned (Below.grownNone hb) (fun r e => by cases e)

/-- While the region of Range comes up. -/
structure RgS (w3 : World) (lb pb : Nat) (v0 : Value) (n0 : Nat) (xs : List Value) (key : ByteArray) (nv : Nat) (l : List UInt8) (f : Nat → Bool) (R : Nat → Value) (W : World) : Prop where
  only : Only (lb :: blk v0) w3 W
  r0 : f 0 = true → ∃ A c, R 0 = .slice A nv c ∧ BRow W (.slice A nv c) l
  r1 : f 1 = true → ∃ A c, R 0 = .slice A nv c ∧ R 1 = .agg #[.string key, .slice A nv c]
  r2 : f 2 = true → f 3 = false → (R 0).oneCell' = true ∧ ∃ b, R 2 = .slice (some ⟨b, 0, none⟩) 1 1 ∧ W.heap[b]? = some (.cells #[.string key, R 0] 63 (0, 0)) ∧ w3.heap.size ≤ b
  row0 : f 3 = false → ∀ b, b ∈ blk v0 → W.heap[b]? = w3.heap[b]?
  box0 : f 4 = false → W.heap[lb]? = w3.heap[lb]?
  row3 : f 3 = true → W.ownsRow 0 63 2 (R 3) (n0 + 1) (xs ++ [.string key, R 0]) ∧ Grows (blk v0) (blk (R 3)) w3
  box4 : f 4 = true → W.heap[lb]? = some (.cells #[R 3] 37 (0, 0))
section
variable {w3 W W' : World} {lb pb n0 nv : Nat} {v0 : Value} {xs : List Value} {key : ByteArray} {l : List UInt8} {f : Nat → Bool} {R : Nat → Value}
theorem RgS.start (R : Nat → Value) : RgS w3 lb pb v0 n0 xs key nv l (fun _ => false) R w3.drew :=
  ⟨(Only.refl _ _).drewN 1, fun h => absurd h (by simp), fun h => absurd h (by simp), fun h => absurd h (by simp), fun _ _ _ => rfl, fun _ => rfl, fun h => absurd h (by simp), fun h => absurd h (by simp)⟩
theorem RgS.s0 (h : RgS w3 lb pb v0 n0 xs key nv l f R W) (h1 : f 1 = false) (h2 : f 2 = false) (h3 : f 3 = false) (h4 : f 4 = false) (hlb : lb < w3.heap.size) (hv : ∀ b, b ∈ blk v0 → b < w3.heap.size)
    {A : Option Addr} {c : Nat} (hb : Below W.heap.size W W') (hr : BRow W' (.slice A nv c) l) : RgS w3 lb pb v0 n0 xs key nv l (setF f 0) (setR R 0 (.slice A nv c)) W' := by
  have hsz := h.only.size
  refine ⟨h.only.trans ((Only.of_below (S := []) hb).more fun _ h => by cases h), fun _ => ⟨A, c, setR_self .., hr⟩, fun c' => ?_, fun c' => ?_, fun _ b hb' => ?_, fun _ => ?_, fun c' => ?_, fun c' => ?_⟩
  · rw [setF_ne _ (by decide), h1] at c'; cases c'
  · rw [setF_ne _ (by decide), h2] at c'; cases c'
  · rw [hb.block b (Nat.lt_of_lt_of_le (hv b hb') hsz)]; exact h.row0 h3 b hb'
  · rw [hb.block lb (by omega)]; exact h.box0 h4
  · rw [setF_ne _ (by decide), h3] at c'; cases c'
  · rw [setF_ne _ (by decide), h4] at c'; cases c'
theorem RgS.s1 (h : RgS w3 lb pb v0 n0 xs key nv l f R W) (h2 : f 2 = false) (h3 : f 3 = false) (h4 : f 4 = false) {A : Option Addr} {c : Nat} (e0 : R 0 = .slice A nv c) : RgS w3 lb pb v0 n0 xs key nv l (setF f 1) (setR R 1 (.agg #[.string key, .slice A nv c])) W := by
  refine ⟨h.only, fun c' => ?_, fun _ => ⟨A, c, by rw [setR_ne _ _ (by decide)]; exact e0, setR_self ..⟩, fun c' => ?_, fun _ => h.row0 h3, fun _ => h.box0 h4, fun c' => ?_, fun c' => ?_⟩
  · rw [setF_ne _ (by decide)] at c'; rw [setR_ne _ _ (by decide)]; exact h.r0 c'
  · rw [setF_ne _ (by decide), h2] at c'; cases c'
  · rw [setF_ne _ (by decide), h3] at c'; cases c'
  · rw [setF_ne _ (by decide), h4] at c'; cases c'
theorem RgS.s2 (h : RgS w3 lb pb v0 n0 xs key nv l f R W) (h3 : f 3 = false) (h4 : f 4 = false) (hlb : lb < w3.heap.size) (hv : ∀ b, b ∈ blk v0 → b < w3.heap.size) {A : Option Addr} {c : Nat} (e0 : R 0 = .slice A nv c) :
    RgS w3 lb pb v0 n0 xs key nv l (setF f 2) (setR R 2 (.slice (some ⟨W.heap.size, 0, none⟩) 1 1)) (W.alloc (.cells #[.string key, .slice A nv c] 63)) := by
  have hsz := h.only.size
  have hb : Below W.heap.size W (W.alloc (.cells #[.string key, .slice A nv c] 63)) := (Below.refl _ _).alloc (Nat.le_refl _) _
  refine ⟨h.only.alloc _, fun c' => ?_, fun c' => ?_, fun _ _ => ⟨by rw [setR_ne _ _ (by decide), e0]; rfl, _, setR_self .., by rw [setR_ne _ _ (by decide), e0]; exact heap_alloc_new W _, hsz⟩, fun _ b hb' => ?_, fun _ => ?_, fun c' => ?_, fun c' => ?_⟩
  · rw [setF_ne _ (by decide)] at c'
    rw [setR_ne _ _ (by decide)]
    obtain ⟨A', c'', q1, q2⟩ := h.r0 c'
    exact ⟨A', c'', q1, q2.alloc _⟩
  · rw [setF_ne _ (by decide)] at c'; rw [setR_ne _ _ (by decide), setR_ne _ _ (by decide)]; exact h.r1 c'
  · rw [hb.block b (Nat.lt_of_lt_of_le (hv b hb') hsz)]; exact h.row0 h3 b hb'
  · rw [hb.block lb (by omega)]; exact h.box0 h4
  · rw [setF_ne _ (by decide), h3] at c'; cases c'
  · rw [setF_ne _ (by decide), h4] at c'; cases c'
theorem RgS.s3 (h : RgS w3 lb pb v0 n0 xs key nv l f R W) (h4 : f 4 = false) (hlb : lb < w3.heap.size) (hlv : lb ∉ blk v0) (hvB : ∀ b, b ∈ blk v0 → NoB W b) {v' : Value} (ho : W'.ownsRow 0 63 2 v' (n0 + 1) (xs ++ [.string key, R 0])) (hon : Only (blk v0) W W') (hg : Grows (blk v0) (blk v') W) :
    RgS w3 lb pb v0 n0 xs key nv l (setF f 3) (setR R 3 v') W' := by
  have hsz := h.only.size
  refine ⟨h.only.trans (hon.more fun b hb => List.mem_cons_of_mem _ hb), fun c' => ?_, fun c' => ?_, fun _ c' => ?_, fun c' => ?_, fun _ => ?_, fun _ => ?_, fun c' => ?_⟩
  · rw [setF_ne _ (by decide)] at c'
    rw [setR_ne _ _ (by decide)]
    obtain ⟨A', c'', q1, q2⟩ := h.r0 c'
    exact ⟨A', c'', q1, q2.only hon fun b hb hm => q2.noB (hvB b hm) hb⟩
  · rw [setF_ne _ (by decide)] at c'; rw [setR_ne _ _ (by decide), setR_ne _ _ (by decide)]; exact h.r1 c'
  · rw [setF_self] at c'; cases c'
  · rw [setF_self] at c'; cases c'
  · rw [hon.block lb (by omega) hlv]; exact h.box0 h4
  · rw [setR_self, setR_ne _ _ (by decide)]
    exact ⟨ho, fun b hb => (hg b hb).imp id (fun h' => by omega)⟩
  · rw [setF_ne _ (by decide), h4] at c'; cases c'
theorem RgS.s4 (h : RgS w3 lb pb v0 n0 xs key nv l f R W) (h3 : f 3 = true) (h4 : f 4 = false) {u : Value} (hbox : w3.heap[lb]? = some (.cells #[u] 37 (0, 0))) (hlv : lb ∉ blk v0) :
    RgS w3 lb pb v0 n0 xs key nv l (setF f 4) R (W.setCell ⟨lb, 0, none⟩ (R 3)) := by
  obtain ⟨o1, o2⟩ := h.row3 h3
  have hlb : lb < w3.heap.size := (Array.getElem?_eq_some_iff.1 hbox).1
  have hbW : W.heap[lb]? = some (.cells #[u] 37 (0, 0)) := (h.box0 h4).trans hbox
  have hnr : lb ∉ blk (R 3) := fun hm => (o2 lb hm).elim hlv (fun h' => by omega)
  refine ⟨h.only.setCell (.inl (by simp)) _, fun c' => ?_, fun c' => ?_, fun _ c' => ?_, fun c' => ?_, fun c' => ?_, fun _ => ⟨?_, o2⟩, fun _ => ?_⟩
  · rw [setF_ne _ (by decide)] at c'
    obtain ⟨A', c'', q1, q2⟩ := h.r0 c'
    exact ⟨A', c'', q1, own_same q2 (fun b hb => Below.heap_setCell _ _ _ _ (fun e => (q2.noB (.of_cells hbW (by decide))) (by simp at e; rw [← e]; exact hb)))⟩
  · rw [setF_ne _ (by decide)] at c'; exact h.r1 c'
  · rw [setF_ne _ (by decide), h3] at c'; cases c'
  · rw [setF_ne _ (by decide), h3] at c'; cases c'
  · rw [setF_self] at c'; cases c'
  · exact own_same o1 (fun b hb => Below.heap_setCell _ _ _ _ (fun e => hnr (by simp at e; rw [← e]; exact hb)))
  · rw [setCell_heap hbW 0]; rfl
end
end Go.Proofs.Ytgpkdnnlgafenaa
