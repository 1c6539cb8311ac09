/- Rows of one's own whose elements take one cell, whatever their type: append of what a literal holds, the empty head. -/
import Derived.Test.YtmcglecdidnhlaaDoorAppend
namespace Go.Proofs.YtmcglecdidnhlaaDoor
open Go.RowKit
set_option linter.unusedVariables false

/-- A row of one's own. -/
def VRow (w : World) (e : TypeId) (v : Value) (xs : List Value) : Prop := w.ownsRow 0 e 1 v xs.length xs
section
variable {w w' : World} {e : TypeId} {v : Value} {xs : List Value}
theorem VRow.lt (h : VRow w e v xs) : ∀ k, k ∈ blk v → k < w.heap.size := fun k hk => (World.ownsRow.lt h k (mem_blk.1 hk)).2
theorem VRow.only {S : List Nat} (h : VRow w e v xs) (ho : Only S w w') (hs : Apart (blk v) S) : VRow w' e v xs := own_only h ho (fun k hk => hs k (mem_blk.2 hk))
theorem VRow.below (h : VRow w e v xs) (hb : Below w.heap.size w w') : VRow w' e v xs := h.only (S := []) (Only.of_below hb) (fun _ _ hk => by cases hk)
theorem VRow.shape (h : VRow w e v xs) : ∃ A c, v = .slice A xs.length c ∧ xs.length ≤ c ∧ c ≤ maxLen := own_shape h
theorem VRow.nil (w : World) (e : TypeId) : VRow w e (.slice none 0 0) [] := World.ownsRow_nil w 0 e 1
theorem VRow.form (h : VRow w e v xs) (hn : 0 < xs.length) : ∃ g cap, v = .slice (some ⟨g, 0, none⟩) xs.length cap ∧ g < w.heap.size ∧ xs.length ≤ cap ∧ cap ≤ maxLen ∧ g ∈ blk v ∧ ∀ j (hj : j < xs.length), w.cell? ⟨g, j, none⟩ = some xs[j] := by
  obtain ⟨g, cap, rfl, _, hg, h1, h2⟩ := own_form h hn
  refine ⟨g, cap, rfl, hg, h1, h2, mem_blk.2 rfl, fun j hj => ?_⟩
  have := World.ownsRow.cells (g := g) h rfl j xs[j] (List.getElem?_eq_getElem hj)
  rw [add_to, Nat.zero_add] at this
  exact this
theorem VRow.apart {e' : TypeId} {v' : Value} {xs' : List Value} (h : VRow w e v xs) (h' : VRow w e' v' xs') (hne : e ≠ e') : Apart (blk v) (blk v') := fun k hk hk' => by
  rcases own_own_ne h h' hne with h0 | h0
  · have := mem_blk.1 hk
    rw [h0] at this; cases this
  · exact h0 ((mem_blk.1 hk).trans (mem_blk.1 hk').symm)
theorem VRow.noIter {k : Nat} {s : ByteArray} {p : Nat} (h : VRow w e v xs) (hk : w.heap[k]? = some (.stringIter s p)) : k ∉ blk v := fun hm => by
  rcases h.2 with ⟨rfl, _⟩ | ⟨g, cap, cur, rfl, _, hg, _⟩
  · have := mem_blk.1 hm; cases this
  · have := mem_blk.1 hm
    simp [Value.ownBlock] at this
    subst this
    rw [hk] at hg; cases hg
end
theorem BRow.vrow {w : World} {v : Value} {l : List UInt8} (h : BRow w v l) : VRow w 5 v (bv l) := by unfold VRow; rw [bv_length]; exact h

/-- append of what a literal holds, which the walk has just laid into a block of its own. -/
theorem vrow_lit {P : Program} (w : World) (t ty e : TypeId) (z : Value) (bytes : Nat) (hinfo : (P.info? e).map (fun i => (i.zero, i.size, i.bytes)) = some (some z, 1, bytes)) (ht : P.underlying t = some (.slice e)) (hzs : z.cells.size = 1)
    (v : Value) (xs : List Value) (h : VRow w e v xs) (news : List Value) (h1 : ∀ u ∈ news, u.oneCell' = true) (hpos : 0 < news.length) (hl : (xs.length + news.length) * bytes ≤ 140737488355328) (hb : 1 ≤ bytes) (m c : Nat) (hm : m = news.length) :
    ∃ v' w', (Builtin.append_ #[t, t] ty #[v, .slice (some ⟨w.heap.size, 0, none⟩) m c]).run P (w.alloc (.cells news.toArray e)) = .ok v' w' ∧ VRow w' e v' (xs ++ news) ∧ Only (blk v) w w' ∧ Grows (blk v) (blk v') w := by
  subst hm
  obtain ⟨i0, hi, hz0, hz1, hz2⟩ := info_parts hinfo
  have hle : xs.length + news.length ≤ 140737488355328 := Nat.le_trans (Nat.le_mul_of_pos_right _ (by omega)) hl
  have hown : (w.alloc (.cells news.toArray e)).ownsRow 0 e 1 v xs.length xs := World.ownsRow.alloc h _
  obtain ⟨v', w', hr, h2, h3, h4⟩ := run_append_here (P := P) (w.alloc (.cells news.toArray e)) t ty e i0 _ 1 bytes ht hi hz0 hz1 hz2 hzs (by decide)
    v xs.length xs hown ⟨w.heap.size, 0, none⟩ news.length c news (by simp) (fun j u hu => by
      rw [add_to, Nat.zero_add, World.cell?_alloc_at _ _ _ _ rfl, ← Array.getElem?_toList]; simpa using hu) h1 (by unfold maxLen; omega) hl
  refine ⟨v', w', hr, ?_, ?_, fun k hk => ?_⟩
  · unfold VRow; rw [List.length_append]; exact h2
  · exact ((Only.refl (blk v) w).alloc _).trans (Only.of_grown h3 (fun k hk => mem_blk.2 hk))
  · rcases h4 k (mem_blk.1 hk) with h5 | h5
    · exact .inl (mem_blk.2 h5)
    · refine .inr ?_
      simp at h5; omega

theorem vrow_head0 {w : World} {e : TypeId} {A : Option Addr} {n c : Nat} {xs : List Value} (h : VRow w e (.slice A n c) xs) : VRow w e (.slice A 0 c) [] ∧ blk (.slice A 0 c) = blk (.slice A n c) := by
  rcases h.2 with ⟨e1, h0⟩ | ⟨g, cap, cur, e1, hbg, hg, hnc, hcm, hcs, htake⟩
  · injection e1 with e1 e2 e3
    subst e1 e3
    exact ⟨VRow.nil w e, rfl⟩
  · injection e1 with e1 e2 e3
    subst e1 e3
    exact ⟨⟨rfl, .inr ⟨g, c, cur, rfl, Nat.zero_le _, hg, Nat.zero_le _, hcm, hcs, by simp⟩⟩, rfl⟩
/-- v[:0]. -/
theorem vrow_head {P : Program} {t e : TypeId} (ht : P.underlying t = some (.slice e)) (hz : ∀ w, (Go.sizeOf e).run P w = .ok 1 w) {w : World} {v : Value} {xs : List Value} (h : VRow w e v xs) :
    ∃ A c, (∀ W, (Instr.slice t v none (some (.int .i64 0)) none).run P W = .ok (.slice A 0 c) W) ∧ VRow w e (.slice A 0 c) [] ∧ blk (.slice A 0 c) = blk v := by
  have ht' : P.underlying t = some (.slice (P.elem t)) := by simp [Program.elem, ht]
  have he : P.elem t = e := by simp [Program.elem, ht]
  rcases h.2 with ⟨rfl, h0⟩ | ⟨g, cap, cur, rfl, hbg, hg, hnc, hcm, hcs, htake⟩
  · refine ⟨none, 0, fun W => ?_, VRow.nil w e, rfl⟩
    have := run_slice_h (P := P) W t none 0 0 ht' .i64 0 (by omega) (by omega)
    rw [this, he, hz]
    simp [Result.andThen, sliced]
  · refine ⟨some ⟨g, 0, none⟩, cap, fun W => ?_, ⟨rfl, .inr ⟨g, cap, cur, rfl, Nat.zero_le _, hg, Nat.zero_le _, hcm, hcs, by simp⟩⟩, rfl⟩
    have := run_slice_h (P := P) W t (some ⟨g, 0, none⟩) xs.length cap ht' .i64 0 (by omega) (by omega)
    rw [this, he, hz]
    simp [Result.andThen, sliced, Addr.add]
end Go.Proofs.YtmcglecdidnhlaaDoor
