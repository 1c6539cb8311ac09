/- kv's table in memory: its head, its row of blocks, its block of pairs. -/
import Derived.Test.YtgpkdnnlgafenaaBigNum
import Derived.Test.YtgpkdnnlgafenaaKvPure
import Derived.Test.YtgpkdnnlgafenaaFlat2
import Derived.Test.YtgpkdnnlgafenaaRow
namespace Go.Proofs.Ytgpkdnnlgafenaa
open Go.RowKit Kv
set_option linter.unusedVariables false

/-- Two boxes. -/
theorem box2 (w : World) (x y : Value) (a b : TypeId) : ((w.alloc (.cells #[x] a)).alloc (.cells #[y] b)).cell? ⟨w.heap.size, 0, none⟩ = some x ∧ ((w.alloc (.cells #[x] a)).alloc (.cells #[y] b)).cell? ⟨w.heap.size + 1, 0, none⟩ = some y := by
  refine ⟨?_, ?_⟩
  · have h := ((Below.refl (w.heap.size + 1) (w.alloc (.cells #[x] a))).alloc (by simp) (.cells #[y] b)).cell (p := ⟨w.heap.size, 0, none⟩) (by show w.heap.size < w.heap.size + 1; omega)
    rw [h, World.cell?_alloc_at _ _ _ _ rfl]; rfl
  · rw [World.cell?_alloc_at _ _ _ _ (by simp)]; rfl
/-- A pair in memory: its key, its value's slice, the value's bytes. -/
structure Ent where
  k : ByteArray
  v : Value
  l : List UInt8
def Ent.pr (e : Ent) : Pr := (e.k, e.l)
def pcells (L : List Ent) : List Value := flat2 (fun e => .string e.k) (fun e => e.v) L
theorem pcells_length (L : List Ent) : (pcells L).length = L.length * 2 := flat2_length L
theorem pcells_append (a b : List Ent) : pcells (a ++ b) = pcells a ++ pcells b := flat2_append a b
theorem pcells_take (L : List Ent) (i : Nat) : (pcells L).take (i * 2) = pcells (L.take i) := by
  rcases Nat.le_total i L.length with h | h
  · have : pcells L = pcells (L.take i) ++ pcells (L.drop i) := by rw [← pcells_append, List.take_append_drop]
    rw [this, List.take_append_of_le_length (by rw [pcells_length, List.length_take]; omega), List.take_of_length_le (by rw [pcells_length, List.length_take]; omega)]
  · rw [List.take_of_length_le (by rw [pcells_length]; omega), List.take_of_length_le h]
theorem pcells_drop (L : List Ent) (i : Nat) : (pcells L).drop (i * 2) = pcells (L.drop i) := by
  rcases Nat.le_total i L.length with h | h
  · have : pcells L = pcells (L.take i) ++ pcells (L.drop i) := by rw [← pcells_append, List.take_append_drop]
    rw [this, List.drop_append_of_le_length (by rw [pcells_length, List.length_take]; omega), List.drop_of_length_le (by rw [pcells_length, List.length_take]; omega), List.nil_append]
  · rw [List.drop_of_length_le (by rw [pcells_length]; omega), List.drop_of_length_le h]; rfl

/-- A row of pairs of one's own. -/
structure PRow (w : World) (v : Value) (L : List Ent) : Prop where
  row : w.ownsRow 0 63 2 v L.length (pcells L)
  vals : ∀ e ∈ L, BRow w e.v e.l
/-- No block of bytes. -/
def NoB (w : World) (b : Nat) : Prop := ∀ C fr, w.heap[b]? ≠ some (.cells C 5 fr)
theorem NoB.of_cells {w : World} {b : Nat} {C : Array Value} {e : TypeId} {fr : Nat × Nat} (h : w.heap[b]? = some (.cells C e fr)) (he : e ≠ 5) : NoB w b := fun C' fr' h' => by
  rw [h] at h'; injection h' with h'; injection h' with _ h' _; exact he h'
theorem BRow.noB {w : World} {v : Value} {l : List UInt8} (h : BRow w v l) {b : Nat} (hb : NoB w b) : b ∉ blk v := fun hm => by
  rcases h.2 with ⟨rfl, _⟩ | ⟨g, cap, cur, rfl, _, hg, _⟩
  · simp [blk, Value.ownBlock] at hm
  · simp [blk, Value.ownBlock] at hm
    subst hm
    exact hb _ _ hg
/-- What a turn leaves alone: none of F, and no bytes. -/
def Far (w : World) (F S : List Nat) : Prop := ∀ b, b ∈ S → b ∉ F ∧ NoB w b
theorem Far.nil (w : World) (F : List Nat) : Far w F [] := fun _ h => by cases h
theorem BRow.far {w w' : World} {v : Value} {l : List UInt8} {F S : List Nat} (h : BRow w v l) (ho : Only S w w') (hf : Far w F S) : BRow w' v l :=
  h.only ho fun b hb hS => h.noB (hf b hS).2 hb
theorem PRow.far {w w' : World} {v : Value} {L : List Ent} {F S : List Nat} (h : PRow w v L) (ho : Only S w w') (hf : Far w F S) (hv : ∀ b, b ∈ blk v → b ∈ F) : PRow w' v L :=
  ⟨own_only h.row ho (fun k hk hS => (hf k hS).1 (hv k (mem_blk.2 hk))), fun e he => (h.vals e he).far ho hf⟩

structure TabE (w : World) (t : Nat) (F : List Nat) : Prop where
  foot : F = [t]
  head : ∃ A c, w.heap[t]? = some (.cells #[.slice A 0 c, .int .i64 0] 67 (0, 0))
structure TabN (w : World) (t : Nat) (F : List Nat) (r c1 g c2 : Nat) (L : List Ent) : Prop where
  foot : F = [t, r, g]
  head : w.heap[t]? = some (.cells #[.slice (some ⟨r, 0, none⟩) 1 c1, .int .i64 (L.length : Int)] 67 (0, 0))
  mid : w.ownsRow 0 37 1 (.slice (some ⟨r, 0, none⟩) 1 c1) 1 [.slice (some ⟨g, 0, none⟩) L.length c2]
  row : PRow w (.slice (some ⟨g, 0, none⟩) L.length c2) L
  pos : L ≠ []
/-- The table at block t holds the pairs m; F: its blocks. -/
def Tab (w : World) (t : Nat) (m : List Pr) (F : List Nat) : Prop := (m = [] ∧ TabE w t F) ∨ ∃ r c1 g c2 L, m = L.map Ent.pr ∧ TabN w t F r c1 g c2 L

theorem own_block {w : World} {base g n c size : Nat} {e : TypeId} {xs : List Value} (h : w.ownsRow base e size (.slice (some ⟨g, 0, none⟩) n c) n xs) : ∃ C, w.heap[g]? = some (.cells C e (0, 0)) ∧ n ≤ c ∧ c ≤ maxLen ∧ C.size = c * size ∧ C.toList.take (n * size) = xs := by
  rcases h.2 with ⟨hv, _⟩ | ⟨g', cap, cur, hv, _, hg, h1, h2, h3, h4⟩
  · injection hv with hv _ _; cases hv
  · injection hv with hv _ hc
    injection hv with hv
    injection hv with hv _ _
    subst hv; subst hc
    exact ⟨cur, hg, h1, h2, h3, h4⟩
section
variable {w w' : World} {t r c1 g c2 : Nat} {F S : List Nat} {L : List Ent} {m : List Pr}
theorem TabN.cells (h : TabN w t F r c1 g c2 L) : w.cell? ⟨t, 0, none⟩ = some (.slice (some ⟨r, 0, none⟩) 1 c1) ∧ w.cell? ⟨t, 1, none⟩ = some (.int .i64 (L.length : Int)) ∧ w.cell? ⟨r, 0, none⟩ = some (.slice (some ⟨g, 0, none⟩) L.length c2) ∧ (1 ≤ c1 ∧ c1 ≤ maxLen ∧ L.length ≤ c2 ∧ c2 ≤ maxLen) := by
  have h1 := h.mid.cells (g := r) rfl 0 _ rfl
  rw [add_at] at h1
  obtain ⟨_, _, a1, a2, _⟩ := own_block h.mid
  obtain ⟨_, _, b1, b2, _⟩ := own_block h.row.row
  exact ⟨by simp [World.cell?, h.head], by simp [World.cell?, h.head], h1, a1, a2, b1, b2⟩
theorem TabN.rg (h : TabN w t F r c1 g c2 L) : t ≠ r ∧ t ≠ g ∧ r ≠ g := by
  obtain ⟨C1, h1, _⟩ := own_block h.mid
  obtain ⟨C2, h2, _⟩ := own_block h.row.row
  have h0 := h.head
  refine ⟨fun e => ?_, fun e => ?_, fun e => ?_⟩
  · subst e; rw [h0] at h1; injection h1 with h1; injection h1 with _ h1 _; exact absurd h1 (by decide)
  · subst e; rw [h0] at h2; injection h2 with h2; injection h2 with _ h2 _; exact absurd h2 (by decide)
  · subst e; rw [h1] at h2; injection h2 with h2; injection h2 with _ h2 _; exact absurd h2 (by decide)
theorem TabN.noB (h : TabN w t F r c1 g c2 L) : NoB w t ∧ NoB w r ∧ NoB w g := by
  obtain ⟨C1, h1, _⟩ := own_block h.mid
  obtain ⟨C2, h2, _⟩ := own_block h.row.row
  exact ⟨.of_cells h.head (by decide), .of_cells h1 (by decide), .of_cells h2 (by decide)⟩
theorem TabN.far (h : TabN w t F r c1 g c2 L) (ho : Only S w w') (hf : Far w F S) : TabN w' t F r c1 g c2 L := by
  refine ⟨h.foot, ?_, ?_, ?_, h.pos⟩
  · rw [ho.block t (Array.getElem?_eq_some_iff.1 h.head).1 (fun hS => (hf t hS).1 (by rw [h.foot]; simp))]; exact h.head
  · exact own_only h.mid ho (fun k hk hS => (hf k hS).1 (by simp [Value.ownBlock] at hk; subst hk; rw [h.foot]; simp))
  · exact h.row.far ho hf (fun b hb => by simp [blk, Value.ownBlock] at hb; subst hb; rw [h.foot]; simp)
theorem TabN.below (h : TabN w t F r c1 g c2 L) (hb : Below w.heap.size w w') : TabN w' t F r c1 g c2 L := h.far (Only.of_below (S := []) hb) (Far.nil _ _)
theorem Tab.noB (h : Tab w t m F) : ∀ b, b ∈ F → NoB w b ∧ b < w.heap.size := by
  rcases h with ⟨_, hf, A, c, hh⟩ | ⟨r, c1, g, c2, L, _, h⟩
  · subst hf
    intro b hb
    rw [List.mem_singleton] at hb
    subst hb
    exact ⟨.of_cells hh (by decide), (Array.getElem?_eq_some_iff.1 hh).1⟩
  · obtain ⟨n1, n2, n3⟩ := h.noB
    obtain ⟨C1, h1, _⟩ := own_block h.mid
    obtain ⟨C2, h2, _⟩ := own_block h.row.row
    rw [h.foot]
    intro b hb
    simp at hb
    rcases hb with rfl | rfl | rfl
    · exact ⟨n1, (Array.getElem?_eq_some_iff.1 h.head).1⟩
    · exact ⟨n2, (Array.getElem?_eq_some_iff.1 h1).1⟩
    · exact ⟨n3, (Array.getElem?_eq_some_iff.1 h2).1⟩
theorem Tab.head_mem (h : Tab w t m F) : t ∈ F := by
  rcases h with ⟨_, hf, _⟩ | ⟨r, c1, g, c2, L, _, h⟩
  · rw [hf]; simp
  · rw [h.foot]; simp
/-- Another's turn. -/
theorem Tab.far (h : Tab w t m F) (ho : Only S w w') (hf : Far w F S) : Tab w' t m F := by
  rcases h with ⟨hm, hF, A, c, hh⟩ | ⟨r, c1, g, c2, L, hm, h⟩
  · refine .inl ⟨hm, hF, A, c, ?_⟩
    rw [ho.block t (Array.getElem?_eq_some_iff.1 hh).1 (fun hS => (hf t hS).1 (by rw [hF]; simp))]; exact hh
  · exact .inr ⟨r, c1, g, c2, L, hm, h.far ho hf⟩
theorem Tab.below (h : Tab w t m F) (hb : Below w.heap.size w w') : Tab w' t m F := h.far (Only.of_below (S := []) hb) (Far.nil _ _)
theorem Far.of_tab {F' : List Nat} (h : Tab w t m F) (ha : Apart F F') : Far w F' F := fun b hb => ⟨ha b hb, (h.noB b hb).1⟩
end
end Go.Proofs.Ytgpkdnnlgafenaa
