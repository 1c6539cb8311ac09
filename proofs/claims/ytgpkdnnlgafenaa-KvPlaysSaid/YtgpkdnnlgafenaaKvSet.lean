/- What the turns of set and remove make of a table. -/
import Derived.Test.YtgpkdnnlgafenaaKvSe5
import Derived.Test.YtgpkdnnlgafenaaKvRe2
import Derived.Laws.OwnMore
namespace Go.Proofs.Ytgpkdnnlgafenaa
open Go.RowKit Kv
set_option linter.unusedVariables false

theorem own_same {w w' : World} {base size n : Nat} {e : TypeId} {v : Value} {xs : List Value} (h : w.ownsRow base e size v n xs) (hs : ∀ b, b ∈ blk v → w'.heap[b]? = w.heap[b]?) : w'.ownsRow base e size v n xs := by
  refine ⟨h.1, ?_⟩
  rcases h.2 with hn | ⟨g, cap, cur, rfl, hbg, hgg, rest⟩
  · exact .inl hn
  · exact .inr ⟨g, cap, cur, rfl, hbg, by rw [hs g (by simp [blk, Value.ownBlock])]; exact hgg, rest⟩
theorem own_lt {w : World} {base size n : Nat} {e : TypeId} {v : Value} {xs : List Value} (h : w.ownsRow base e size v n xs) : ∀ b, b ∈ blk v → b < w.heap.size := fun b hb => (World.ownsRow.lt h b (mem_blk.1 hb)).2
theorem setCell_heap {w : World} {g : Nat} {C : Array Value} {e : TypeId} {fr : Nat × Nat} (h : w.heap[g]? = some (.cells C e fr)) (i : Nat) (u : Value) : (w.setCell ⟨g, i, none⟩ u).heap[g]? = some (.cells (C.setIfInBounds i u) e fr) := by
  simp [World.setCell, Array.getElem?_modify, h]
theorem pcells_insert (L : List Ent) (p : Nat) (x : Ent) : (pcells L).take (p * 2) ++ [.string x.k, x.v] ++ (pcells L).drop (p * 2) = pcells (L.take p ++ [x] ++ L.drop p) := by
  rw [pcells_take, pcells_drop, pcells_append, pcells_append]; rfl
theorem pcells_delete (L : List Ent) (p : Nat) : (pcells L).take (p * 2) ++ (pcells L).drop ((p + 1) * 2) = pcells (L.take p ++ L.drop (p + 1)) := by
  rw [pcells_take, pcells_drop, pcells_append]
theorem pcells_set (L : List Ent) (p : Nat) (hp : p < L.length) (u : Value) (l : List UInt8) : pcells (L.set p ⟨L[p].k, u, l⟩) = (pcells L).set (p * 2 + 1) u := by
  have e1 : L = L.take p ++ L[p] :: L.drop (p + 1) := by rw [List.getElem_cons_drop, List.take_append_drop]
  have e2 : L.set p ⟨L[p].k, u, l⟩ = L.take p ++ ⟨L[p].k, u, l⟩ :: L.drop (p + 1) := by rw [List.set_eq_take_append_cons_drop, if_pos hp]
  have hl : (pcells (L.take p)).length = p * 2 := by rw [pcells_length, List.length_take]; omega
  have e3 : pcells L = pcells (L.take p) ++ (.string L[p].k :: L[p].v :: pcells (L.drop (p + 1))) := by
    have := congrArg pcells e1
    rw [pcells_append] at this
    exact this
  rw [e2, e3, pcells_append, List.set_append_right _ _ (by omega), hl, show p * 2 + 1 - p * 2 = 1 by omega]
  rfl
theorem pcells_one {L : List Ent} {w : World} (h : ∀ e ∈ L, BRow w e.v e.l) : ∀ u ∈ pcells L, u.oneCell' = true := by
  intro u hu
  unfold pcells flat2 at hu
  rw [List.mem_flatMap] at hu
  obtain ⟨e, he, hu⟩ := hu
  simp at hu
  rcases hu with rfl | rfl
  · rfl
  · obtain ⟨A, c, e', _⟩ := (h e he).shape
    rw [e']; rfl

/-- The table while it is turned: its block may be empty. -/
structure TabP (w : World) (t r c1 : Nat) (v : Value) (L : List Ent) : Prop where
  head : w.heap[t]? = some (.cells #[.slice (some ⟨r, 0, none⟩) 1 c1, .int .i64 (L.length : Int)] 67 (0, 0))
  mid : w.ownsRow 0 37 1 (.slice (some ⟨r, 0, none⟩) 1 c1) 1 [v]
  row : PRow w v L
theorem TabN.toP {w : World} {t r c1 g c2 : Nat} {F : List Nat} {L : List Ent} (h : TabN w t F r c1 g c2 L) : TabP w t r c1 (.slice (some ⟨g, 0, none⟩) L.length c2) L := ⟨h.head, h.mid, h.row⟩
theorem TabP.toN {w : World} {t r c1 : Nat} {v : Value} {L : List Ent} (h : TabP w t r c1 v L) (hp : L ≠ []) : ∃ g c2, v = .slice (some ⟨g, 0, none⟩) L.length c2 ∧ TabN w t [t, r, g] r c1 g c2 L := by
  obtain ⟨g, c2, e, _⟩ := own_form h.row.row (List.length_pos_iff.2 hp)
  subst e
  exact ⟨g, c2, rfl, rfl, h.head, h.mid, h.row, hp⟩
section
variable {w w' : World} {t r c1 : Nat} {v : Value} {L : List Ent}
theorem TabP.rt (h : TabP w t r c1 v L) : r ≠ t ∧ t < w.heap.size ∧ r < w.heap.size := by
  obtain ⟨C, h1, _⟩ := own_block h.mid
  have h0 := h.head
  refine ⟨fun e => ?_, (Array.getElem?_eq_some_iff.1 h0).1, (Array.getElem?_eq_some_iff.1 h1).1⟩
  subst e; rw [h0] at h1; injection h1 with h1; injection h1 with _ h1 _; exact absurd h1 (by decide)
theorem TabP.rv (h : TabP w t r c1 v L) : r ∉ blk v ∧ t ∉ blk v := by
  obtain ⟨C, h1, _⟩ := own_block h.mid
  have h0 := h.head
  have key : ∀ g, g ∈ blk v → ∃ C, w.heap[g]? = some (.cells C 63 (0, 0)) := fun g hg => by
    rcases h.row.row.2 with ⟨rfl, _⟩ | ⟨g', cap, cur, rfl, _, hg', _⟩
    · simp [blk, Value.ownBlock] at hg
    · simp [blk, Value.ownBlock] at hg
      subst hg
      exact ⟨_, hg'⟩
  refine ⟨fun hm => ?_, fun hm => ?_⟩
  · obtain ⟨C', h2⟩ := key _ hm
    rw [h1] at h2; injection h2 with h2; injection h2 with _ h2 _; exact absurd h2 (by decide)
  · obtain ⟨C', h2⟩ := key _ hm
    rw [h0] at h2; injection h2 with h2; injection h2 with _ h2 _; exact absurd h2 (by decide)
theorem TabP.cells (h : TabP w t r c1 v L) : w.cell? ⟨t, 0, none⟩ = some (.slice (some ⟨r, 0, none⟩) 1 c1) ∧ w.cell? ⟨t, 1, none⟩ = some (.int .i64 (L.length : Int)) ∧ w.cell? ⟨r, 0, none⟩ = some v ∧ w.frozen? ⟨t, 1, none⟩ = false ∧ w.frozen? ⟨t, 0, none⟩ = false ∧ w.frozen? ⟨r, 0, none⟩ = false := by
  have h1 := h.mid.cells (g := r) rfl 0 _ rfl
  rw [add_at] at h1
  obtain ⟨C, h2, _⟩ := own_block h.mid
  exact ⟨by simp [World.cell?, h.head], by simp [World.cell?, h.head], h1, by simp [World.frozen?, h.head], by simp [World.frozen?, h.head], by simp [World.frozen?, h2]⟩
theorem TabP.noB (h : TabP w t r c1 v L) : NoB w t ∧ NoB w r ∧ ∀ b, b ∈ blk v → NoB w b := by
  obtain ⟨C1, h1, _⟩ := own_block h.mid
  refine ⟨.of_cells h.head (by decide), .of_cells h1 (by decide), fun b hb => ?_⟩
  rcases h.row.row.2 with ⟨rfl, _⟩ | ⟨g', cap, cur, rfl, _, hg', _⟩
  · simp [blk, Value.ownBlock] at hb
  · simp [blk, Value.ownBlock] at hb
    subst hb
    exact .of_cells hg' (by decide)

/-- While the region of set comes up. -/
structure SeS (w2 : World) (r c1 : Nat) (v0 : Value) (n : Nat) (xs ys : List Value) (u1 u2 : Value) (f : Nat → Bool) (R : Nat → Value) (W : World) : Prop where
  only : Only (r :: blk v0) w2 W
  mid0 : f 2 = false → W.heap[r]? = w2.heap[r]?
  row0 : f 1 = false → ∀ b, b ∈ blk v0 → W.heap[b]? = w2.heap[b]?
  lit : f 0 = true → f 1 = false → ∃ A2, R 0 = .slice (some ⟨A2, 0, none⟩) 1 1 ∧ W.heap[A2]? = some (.cells #[u1, u2] 63 (0, 0)) ∧ w2.heap.size ≤ A2
  row1 : f 1 = true → W.ownsRow 0 63 2 (R 1) (n + 1) ys ∧ Grows (blk v0) (blk (R 1)) w2
  mid1 : f 2 = true → W.ownsRow 0 37 1 (.slice (some ⟨r, 0, none⟩) 1 c1) 1 [R 1]
end
section
variable {w2 W W' : World} {r c1 n : Nat} {v0 u1 u2 : Value} {xs ys : List Value} {f : Nat → Bool} {R : Nat → Value}
theorem SeS.start (w2 : World) (R : Nat → Value) : SeS w2 r c1 v0 n xs ys u1 u2 (fun _ => false) R w2.drew :=
  ⟨(Only.refl _ _).drewN 1, fun _ => rfl, fun _ _ _ => rfl, fun h => absurd h (by simp), fun h => absurd h (by simp), fun h => absurd h (by simp)⟩
theorem SeS.s0 (h : SeS w2 r c1 v0 n xs ys u1 u2 f R W) (h1 : f 1 = false) (h2 : f 2 = false) (hr : r < w2.heap.size) (hv : ∀ b, b ∈ blk v0 → b < w2.heap.size) :
    SeS w2 r c1 v0 n xs ys u1 u2 (setF f 0) (setR R 0 (.slice (some ⟨W.heap.size, 0, none⟩) 1 1)) (W.alloc (.cells #[u1, u2] 63)) := by
  have hsz := h.only.size
  have old : ∀ b, b < w2.heap.size → (W.alloc (.cells #[u1, u2] 63)).heap[b]? = W.heap[b]? := fun b hb => ((Only.refl [] W).alloc _).block b (by omega) (by simp)
  refine ⟨h.only.alloc _, fun c => ?_, fun c b hb => ?_, fun _ _ => ⟨_, setR_self .., heap_alloc_new W _, hsz⟩, fun c => ?_, fun c => ?_⟩
  · rw [old r hr]; exact h.mid0 h2
  · rw [old b (hv b hb)]; exact h.row0 h1 b hb
  · rw [setF_ne _ (by decide), h1] at c; cases c
  · rw [setF_ne _ (by decide), h2] at c; cases c
theorem SeS.s1 (h : SeS w2 r c1 v0 n xs ys u1 u2 f R W) (h2 : f 2 = false) (hr : r < w2.heap.size) (hrv : r ∉ blk v0) {v' : Value} (ho : W'.ownsRow 0 63 2 v' (n + 1) ys) (hon : Only (blk v0) W W') (hg : Grows (blk v0) (blk v') W) :
    SeS w2 r c1 v0 n xs ys u1 u2 (setF f 1) (setR R 1 v') W' := by
  have hsz := h.only.size
  refine ⟨h.only.trans (hon.more fun b hb => List.mem_cons_of_mem _ hb), fun c => ?_, fun c => ?_, fun _ c => ?_, fun _ => ?_, fun c => ?_⟩
  · rw [hon.block r (by omega) hrv]; exact h.mid0 h2
  · rw [setF_self] at c; cases c
  · rw [setF_self] at c; cases c
  · rw [setR_self]
    exact ⟨ho, fun b hb => (hg b hb).imp id (fun h' => by omega)⟩
  · rw [setF_ne _ (by decide), h2] at c; cases c
theorem own_put {w : World} {r c1 : Nat} {v v' : Value} (h : w.ownsRow 0 37 1 (.slice (some ⟨r, 0, none⟩) 1 c1) 1 [v]) : (w.setCell ⟨r, 0, none⟩ v').ownsRow 0 37 1 (.slice (some ⟨r, 0, none⟩) 1 c1) 1 [v'] := (h.stored 0 v').1
theorem SeS.s2 (h : SeS w2 r c1 v0 n xs ys u1 u2 f R W) (h1 : f 1 = true) (h2 : f 2 = false) (hm : w2.ownsRow 0 37 1 (.slice (some ⟨r, 0, none⟩) 1 c1) 1 [v0]) (hr : r < w2.heap.size) (hrv : r ∉ blk v0) :
    SeS w2 r c1 v0 n xs ys u1 u2 (setF f 2) R (W.setCell ⟨r, 0, none⟩ (R 1)) := by
  obtain ⟨o1, o2⟩ := h.row1 h1
  have hmW : W.ownsRow 0 37 1 (.slice (some ⟨r, 0, none⟩) 1 c1) 1 [v0] := own_same hm (fun b hb => by simp [blk, Value.ownBlock] at hb; subst hb; exact h.mid0 h2)
  have hnr : r ∉ blk (R 1) := fun hm => (o2 r hm).elim hrv (fun h' => by omega)
  refine ⟨h.only.setCell (.inl (by simp)) _, fun c => ?_, fun c => ?_, fun _ c => ?_, fun _ => ?_, fun c => own_put hmW⟩
  · rw [setF_self] at c; cases c
  · rw [setF_ne _ (by decide), h1] at c; cases c
  · rw [setF_ne _ (by decide), h1] at c; cases c
  · exact ⟨own_same o1 (fun b hb => Below.heap_setCell _ _ _ _ (fun e => hnr (by simp at e; rw [← e]; exact hb))), o2⟩
end
end Go.Proofs.Ytgpkdnnlgafenaa
