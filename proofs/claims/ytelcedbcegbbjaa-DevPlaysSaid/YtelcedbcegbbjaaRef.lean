/- The reference's device in memory. -/
import Derived.Test.YtelcedbcegbbjaaDevSt
import Derived.Test.YtelcedbcegbbjaaFlags
namespace Go.Proofs.Ytelcedbcegbbjaa
open Go.RowKit Dk
set_option linter.unusedVariables false

def sval (l : List ByteArray) : List Value := l.map Value.string
theorem sval_length (l : List ByteArray) : (sval l).length = l.length := by simp [sval]
theorem sval_at (l : List ByteArray) (j : Nat) (h : j < l.length) : (sval l)[j]? = some (.string l[j]) := by simp [sval, List.getElem?_eq_getElem h]
theorem sval_set (l : List ByteArray) (j : Nat) (b : ByteArray) : (sval l).set j (.string b) = sval (l.set j b) := by simp [sval, List.map_set]

/-- The reference's device at block r. -/
structure RefC (w : World) (r : Nat) (n : Nat) (vs : Value) (safe : List ByteArray) (vl : Value) (cache : List Wr) (off : Bool) (fz : Int) (vk : Value) (tn : Int) : Prop where
  blk : w.heap[r]? = some (.cells #[.int .i64 (n : Int), .bool off, vs, vl, .int .i64 fz, vk, .int .i64 tn] 45 (0, 0))
  sec : w.ownsRow 0 9 1 vs safe.length (sval safe)
  wr : w.ownsRow 0 70 2 vl cache.length (wrVals cache)
section
variable {w w' : World} {r n : Nat} {vs : Value} {safe : List ByteArray} {vl : Value} {cache : List Wr} {off : Bool} {fz : Int} {vk : Value} {tn : Int}
theorem RefC.cells (h : RefC w r n vs safe vl cache off fz vk tn) :
    w.cell? ⟨r, 0, none⟩ = some (.int .i64 (n : Int)) ∧ w.cell? ⟨r, 1, none⟩ = some (.bool off) ∧ w.cell? ⟨r, 2, none⟩ = some vs ∧ w.cell? ⟨r, 3, none⟩ = some vl ∧ w.cell? ⟨r, 4, none⟩ = some (.int .i64 fz) ∧ w.cell? ⟨r, 5, none⟩ = some vk ∧ w.cell? ⟨r, 6, none⟩ = some (.int .i64 tn) := by
  have hb := h.blk
  refine ⟨?_, ?_, ?_, ?_, ?_, ?_, ?_⟩ <;> simp [World.cell?, hb]
theorem RefC.free (h : RefC w r n vs safe vl cache off fz vk tn) (j : Nat) : w.frozen? ⟨r, j, none⟩ = false := by
  have hb := h.blk
  simp [World.frozen?, hb]
theorem RefC.dlt (h : RefC w r n vs safe vl cache off fz vk tn) : r < w.heap.size := (Array.getElem?_eq_some_iff.1 h.blk).1
theorem RefC.only (h : RefC w r n vs safe vl cache off fz vk tn) {S : List Nat} (ho : Only S w w') (h1 : r ∉ S) (h2 : ∀ k, vs.ownBlock = some k → k ∉ S) (h3 : ∀ k, vl.ownBlock = some k → k ∉ S) : RefC w' r n vs safe vl cache off fz vk tn :=
  ⟨(ho.block r h.dlt h1).trans h.blk, own_only h.sec ho h2, own_only h.wr ho h3⟩
theorem RefC.below (h : RefC w r n vs safe vl cache off fz vk tn) (hb : Below w.heap.size w w') : RefC w' r n vs safe vl cache off fz vk tn :=
  h.only (S := []) (Only.of_below hb) (by simp) (by simp) (by simp)
theorem RefC.vsShape (h : RefC w r n vs safe vl cache off fz vk tn) : ∃ A c, vs = .slice A safe.length c ∧ safe.length ≤ c ∧ c ≤ maxLen := own_shape h.sec
theorem RefC.vlShape (h : RefC w r n vs safe vl cache off fz vk tn) : ∃ A c, vl = .slice A cache.length c ∧ cache.length ≤ c ∧ c ≤ maxLen := own_shape h.wr
theorem RefC.vlForm (h : RefC w r n vs safe vl cache off fz vk tn) (hn : 0 < cache.length) : ∃ cb c, vl = .slice (some ⟨cb, 0, none⟩) cache.length c ∧ cache.length ≤ c ∧ c ≤ maxLen := by
  obtain ⟨g, c, e, _, _, h1, h2⟩ := own_form h.wr hn
  exact ⟨g, c, e, h1, h2⟩
theorem RefC.vsForm (h : RefC w r n vs safe vl cache off fz vk tn) (hn : 0 < safe.length) : ∃ sb c, vs = .slice (some ⟨sb, 0, none⟩) safe.length c ∧ safe.length ≤ c ∧ c ≤ maxLen := by
  obtain ⟨g, c, e, _, _, h1, h2⟩ := own_form h.sec hn
  exact ⟨g, c, e, h1, h2⟩
theorem RefC.wrAt {cb c : Nat} (h : RefC w r n vs safe (.slice (some ⟨cb, 0, none⟩) cache.length c) cache off fz vk tn) (i : Nat) (hi : i < cache.length) : w.cell? ⟨cb, i * 2, none⟩ = some (.int .i64 (cache[i].1 : Int)) ∧ w.cell? ⟨cb, i * 2 + 1, none⟩ = some (.string cache[i].2) := by
  have h1 := h.wr.cellAt (i * 2) (by omega)
  have h2 := h.wr.cellAt (i * 2 + 1) (by omega)
  unfold wrVals at h1 h2
  rw [flat2_fst _ i hi] at h1
  rw [flat2_snd _ i hi] at h2
  exact ⟨h1, h2⟩
theorem RefC.secAt {sb c : Nat} (h : RefC w r n (.slice (some ⟨sb, 0, none⟩) safe.length c) safe vl cache off fz vk tn) (i : Nat) (hi : i < safe.length) : w.cell? ⟨sb, i, none⟩ = some (.string safe[i]) ∧ w.frozen? ⟨sb, i, none⟩ = false ∧ sb < w.heap.size :=
  ⟨by rw [h.sec.cellAt i (by omega), sval_at _ i hi], h.sec.frozenAt i, (h.sec.lt sb rfl).2⟩
/-- A store into a sector. -/
theorem RefC.put {sb c : Nat} (h : RefC w r n (.slice (some ⟨sb, 0, none⟩) safe.length c) safe vl cache off fz vk tn) (i : Nat) (b : ByteArray) : RefC (w.setCell ⟨sb, i, none⟩ (.string b)) r n (.slice (some ⟨sb, 0, none⟩) safe.length c) (safe.set i b) vl cache off fz vk tn := by
  have hs := (h.sec.stored i (.string b)).1
  rw [sval_set] at hs
  have hl : (safe.set i b).length = safe.length := by simp
  have hne : ∀ k, vl.ownBlock = some k → k ≠ sb := by
    rcases h.sec.2 with ⟨hv, _⟩ | ⟨g, cp, cur, hv, _, hg, _⟩
    · cases hv
    · injection hv with h1 h2 h3
      injection h1 with h1
      injection h1 with h1 _ _
      subst h1
      exact own_ne h.wr hg (by decide)
  have hr : r ≠ sb := fun e => by
    subst e
    rcases h.sec.2 with ⟨hv, _⟩ | ⟨g, cp, cur, hv, _, hg, _⟩
    · cases hv
    · injection hv with h1 h2 h3
      injection h1 with h1
      injection h1 with h1 _ _
      subst h1
      have hb := h.blk
      rw [hg] at hb
      injection hb with hb
      injection hb with _ hb
      exact absurd hb (by decide)
  refine ⟨?_, by rw [hl]; exact hs, own_only h.wr (only_setCell w _ _) (fun k hk => by simpa using hne k hk)⟩
  rw [Below.heap_setCell _ _ _ _ (by exact hr)]
  exact h.blk
theorem RefC.sec_ne (h : RefC w r n vs safe vl cache off fz vk tn) : ∀ k, vs.ownBlock = some k → k ≠ r := own_ne h.sec h.blk (by decide)
theorem RefC.wr_ne (h : RefC w r n vs safe vl cache off fz vk tn) : ∀ k, vl.ownBlock = some k → k ≠ r := own_ne h.wr h.blk (by decide)
theorem RefC.putOff (h : RefC w r n vs safe vl cache off fz vk tn) (b : Bool) : RefC (w.setCell ⟨r, 1, none⟩ (.bool b)) r n vs safe vl cache b fz vk tn :=
  ⟨heap_setCell_same w r 1 _ _ _ h.blk, own_only h.sec (only_setCell w _ _) (fun k hk => by simpa using h.sec_ne k hk), own_only h.wr (only_setCell w _ _) (fun k hk => by simpa using h.wr_ne k hk)⟩
theorem RefC.putSafe (h : RefC w r n vs safe vl cache off fz vk tn) (v' : Value) (s' : List ByteArray) (hs : w.ownsRow 0 9 1 v' s'.length (sval s')) : RefC (w.setCell ⟨r, 2, none⟩ v') r n v' s' vl cache off fz vk tn :=
  ⟨heap_setCell_same w r 2 _ _ _ h.blk, own_only hs (only_setCell w _ _) (fun k hk => by simpa using own_ne hs h.blk (by decide) k hk), own_only h.wr (only_setCell w _ _) (fun k hk => by simpa using h.wr_ne k hk)⟩
theorem RefC.putWr (h : RefC w r n vs safe vl cache off fz vk tn) (v' : Value) (c' : List Wr) (hs : w.ownsRow 0 70 2 v' c'.length (wrVals c')) : RefC (w.setCell ⟨r, 3, none⟩ v') r n vs safe v' c' off fz vk tn :=
  ⟨heap_setCell_same w r 3 _ _ _ h.blk, own_only h.sec (only_setCell w _ _) (fun k hk => by simpa using h.sec_ne k hk), own_only hs (only_setCell w _ _) (fun k hk => by simpa using own_ne hs h.blk (by decide) k hk)⟩
theorem RefC.putFz (h : RefC w r n vs safe vl cache off fz vk tn) (z : Int) : RefC (w.setCell ⟨r, 4, none⟩ (.int .i64 z)) r n vs safe vl cache off z vk tn :=
  ⟨heap_setCell_same w r 4 _ _ _ h.blk, own_only h.sec (only_setCell w _ _) (fun k hk => by simpa using h.sec_ne k hk), own_only h.wr (only_setCell w _ _) (fun k hk => by simpa using h.wr_ne k hk)⟩
theorem RefC.putKeep (h : RefC w r n vs safe vl cache off fz vk tn) (v : Value) : RefC (w.setCell ⟨r, 5, none⟩ v) r n vs safe vl cache off fz v tn :=
  ⟨heap_setCell_same w r 5 _ _ _ h.blk, own_only h.sec (only_setCell w _ _) (fun k hk => by simpa using h.sec_ne k hk), own_only h.wr (only_setCell w _ _) (fun k hk => by simpa using h.wr_ne k hk)⟩
theorem RefC.putTorn (h : RefC w r n vs safe vl cache off fz vk tn) (z : Int) : RefC (w.setCell ⟨r, 6, none⟩ (.int .i64 z)) r n vs safe vl cache off fz vk z :=
  ⟨heap_setCell_same w r 6 _ _ _ h.blk, own_only h.sec (only_setCell w _ _) (fun k hk => by simpa using h.sec_ne k hk), own_only h.wr (only_setCell w _ _) (fun k hk => by simpa using h.wr_ne k hk)⟩
end

/-- The reference's device at block r, its memory the blocks of G: what it holds. -/
def RefM (w : World) (G : List Nat) (r : Nat) (S : Disk) : Prop :=
  ∃ (vs vl vk : Value) (fz tn : Int), RefC w r S.dur.length vs S.dur vl S.cache S.off fz vk tn ∧ (∃ A n c, vk = .slice A n c) ∧ (S.calls = 0 → fz < 1) ∧ (S.calls ≠ 0 → fz = S.calls) ∧ -9223372036854775808 ≤ fz ∧
    (S.calls ≠ 0 → tn = S.torn ∧ w.ownsRow 0 3 1 vk S.keep.length (S.keep.map (Value.int .i64)) ∧ ∀ k, vk.ownBlock = some k → k ∈ G) ∧
    r ∈ G ∧ (∀ k, vs.ownBlock = some k → k ∈ G) ∧ (∀ k, vl.ownBlock = some k → k ∈ G) ∧ (∀ b, b ∈ G → b < w.heap.size) ∧ S.Ok ∧ (S.calls : Int) ≤ 9223372036854775807 ∧ S.dur.length ≤ 8192
theorem RefM.lt {w : World} {G : List Nat} {r : Nat} {S : Disk} (h : RefM w G r S) : ∀ b, b ∈ G → b < w.heap.size := by
  obtain ⟨vs, vl, vk, fz, tn, h1, h2, h3, h4, h5, h6, h7, h8, h9, h10, _⟩ := h; exact h10
theorem RefM.ok {w : World} {G : List Nat} {r : Nat} {S : Disk} (h : RefM w G r S) : S.Ok := by
  obtain ⟨vs, vl, vk, fz, tn, h1, h2, h3, h4, h5, h6, h7, h8, h9, h10, h11, _⟩ := h; exact h11
theorem RefM.only {w w' : World} {F G : List Nat} {r : Nat} {S : Disk} (h : RefM w G r S) (ho : Only F w w') (ha : Apart G F) : RefM w' G r S := by
  obtain ⟨vs, vl, vk, fz, tn, h1, h2, h3, h4, h5, h6, h7, h8, h9, h10, h11⟩ := h
  exact ⟨vs, vl, vk, fz, tn, h1.only ho (ha r h7) (fun k hk => ha k (h8 k hk)) (fun k hk => ha k (h9 k hk)), h2, h3, h4, h5, fun h0 => ⟨(h6 h0).1, own_only (h6 h0).2.1 ho (fun k hk => ha k ((h6 h0).2.2 k hk)), (h6 h0).2.2⟩, h7, h8, h9,
    fun b hb => Nat.lt_of_lt_of_le (h10 b hb) ho.size, h11⟩
theorem RefM.below {w w' : World} {G : List Nat} {r : Nat} {S : Disk} (h : RefM w G r S) (hb : Below w.heap.size w w') : RefM w' G r S :=
  h.only (F := []) (Only.of_below hb) (fun b hb => by simp)
def RefEnd (G : List Nat) (r : Nat) (S' : Disk) (v : Value) (w : World) (e : Ending) (w' : World) : Prop :=
  e = .returned v ∧ ∃ G', RefM w' G' r S' ∧ Only G w w' ∧ Grows G G' w
end Go.Proofs.Ytelcedbcegbbjaa
