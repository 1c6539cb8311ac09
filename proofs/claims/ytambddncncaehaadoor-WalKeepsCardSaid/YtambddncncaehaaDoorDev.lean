/- A device in memory. -/
import Derived.Test.YtambddncncaehaaDoorOnly
import Derived.Test.YtambddncncaehaaDoorDevPure
import Derived.Test.YtambddncncaehaaDoorRow
import Derived.Test.YtambddncncaehaaDoorFlat2
namespace Go.Proofs.YtambddncncaehaaDoor
open Go.RowKit Dk
set_option linter.unusedVariables false

def wrVals (c : List Wr) : List Value := flat2 (fun w => .int .i64 (w.1 : Int)) (fun w => .string w.2) c
def secVals (d l : List ByteArray) : List Value := flat2 (fun p => .string p.1) (fun p => .string p.2) (d.zip l)
theorem secVals_length {d l : List ByteArray} (h : l.length = d.length) : (secVals d l).length = d.length * 2 := by
  unfold secVals; rw [flat2_length, List.length_zip, h, Nat.min_self]
theorem secVals_fst {d l : List ByteArray} (h : l.length = d.length) (i : Nat) (hi : i < d.length) : (secVals d l)[i * 2]? = some (.string d[i]) := by
  unfold secVals; rw [flat2_fst _ i (by rw [List.length_zip]; omega)]; simp
theorem secVals_snd {d l : List ByteArray} (h : l.length = d.length) (i : Nat) (hi : i < l.length) : (secVals d l)[i * 2 + 1]? = some (.string l[i]) := by
  unfold secVals; rw [flat2_snd _ i (by rw [List.length_zip]; omega)]; simp
theorem secVals_ext {d l : List ByteArray} {xs : List Value} (h : l.length = d.length) (hx : xs.length = d.length * 2) (h1 : ∀ i (hi : i < d.length), xs[i * 2]? = some (.string d[i])) (h2 : ∀ i (hi : i < l.length), xs[i * 2 + 1]? = some (.string l[i])) : xs = secVals d l := by
  apply List.ext_getElem?
  intro j
  by_cases hj : j < d.length * 2
  · by_cases he : j % 2 = 0
    · have e : j = j / 2 * 2 := by omega
      rw [e, h1 (j / 2) (by omega), secVals_fst h (j / 2) (by omega)]
    · have e : j = j / 2 * 2 + 1 := by omega
      rw [e, h2 (j / 2) (by omega), secVals_snd h (j / 2) (by omega)]
  · rw [List.getElem?_eq_none (by omega), List.getElem?_eq_none (by rw [secVals_length h]; omega)]
theorem secVals_setFst {d l : List ByteArray} (h : l.length = d.length) (i : Nat) (b : ByteArray) : (secVals d l).set (i * 2) (.string b) = secVals (d.set i b) l := by
  refine secVals_ext (by simpa using h) (by simp [secVals_length h]) (fun j hj => ?_) (fun j hj => ?_)
  · have hj' : j < d.length := by simpa using hj
    by_cases e : i = j
    · subst e
      rw [List.getElem?_set_self (by rw [secVals_length h]; omega), List.getElem_set_self]
    · rw [List.getElem?_set_ne (by omega), secVals_fst h j hj', List.getElem_set_ne e]
  · rw [List.getElem?_set_ne (by omega), secVals_snd h j hj]
theorem secVals_setSnd {d l : List ByteArray} (h : l.length = d.length) (i : Nat) (b : ByteArray) : (secVals d l).set (i * 2 + 1) (.string b) = secVals d (l.set i b) := by
  refine secVals_ext (by simpa using h) (by simp [secVals_length h]) (fun j hj => ?_) (fun j hj => ?_)
  · rw [List.getElem?_set_ne (by omega), secVals_fst h j hj]
  · have hj' : j < l.length := by simpa using hj
    by_cases e : i = j
    · subst e
      rw [List.getElem?_set_self (by rw [secVals_length h]; omega), List.getElem_set_self]
    · rw [List.getElem?_set_ne (by omega), secVals_snd h j hj', List.getElem_set_ne e]

/-- The device at block d: its cells, its sectors (safe, last), its cache. -/
structure DevC (w : World) (d sb cap : Nat) (dur last : List ByteArray) (vc : Value) (cache : List Wr) (off : Bool) (calls : Nat) (vk : Value) (tn : Int) : Prop where
  blk : w.heap[d]? = some (.cells #[.slice (some ⟨sb, 0, none⟩) dur.length cap, vc, .bool off, .int .i64 (calls : Int), vk, .int .i64 tn] 56 (0, 0))
  sec : w.ownsRow 0 49 2 (.slice (some ⟨sb, 0, none⟩) dur.length cap) dur.length (secVals dur last)
  len : last.length = dur.length
  wr : w.ownsRow 0 69 2 vc cache.length (wrVals cache)

section
variable {w w' : World} {d sb cap : Nat} {dur last : List ByteArray} {vc : Value} {cache : List Wr} {off : Bool} {calls : Nat} {vk : Value} {tn : Int}
theorem DevC.cells (h : DevC w d sb cap dur last vc cache off calls vk tn) :
    w.cell? ⟨d, 0, none⟩ = some (.slice (some ⟨sb, 0, none⟩) dur.length cap) ∧ w.cell? ⟨d, 1, none⟩ = some vc ∧ w.cell? ⟨d, 2, none⟩ = some (.bool off) ∧ w.cell? ⟨d, 3, none⟩ = some (.int .i64 (calls : Int)) ∧ w.cell? ⟨d, 4, none⟩ = some vk ∧ w.cell? ⟨d, 5, none⟩ = some (.int .i64 tn) := by
  have hb := h.blk
  refine ⟨?_, ?_, ?_, ?_, ?_, ?_⟩ <;> simp [World.cell?, hb]
theorem DevC.free (h : DevC w d sb cap dur last vc cache off calls vk tn) (j : Nat) : w.frozen? ⟨d, j, none⟩ = false := by
  have hb := h.blk
  simp [World.frozen?, hb]
theorem DevC.dlt (h : DevC w d sb cap dur last vc cache off calls vk tn) : d < w.heap.size := (Array.getElem?_eq_some_iff.1 h.blk).1
theorem DevC.sec_blk (h : DevC w d sb cap dur last vc cache off calls vk tn) : (∃ cur, w.heap[sb]? = some (.cells cur 49 (0, 0))) ∨ dur.length = 0 := by
  rcases h.sec.2 with ⟨hv, _⟩ | ⟨g, cp, cur, hv, _, hg, _⟩
  · cases hv
  · injection hv with h1 h2 h3
    injection h1 with h1
    injection h1 with h1 _ _
    subst h1
    exact .inl ⟨cur, hg⟩
theorem DevC.slt (h : DevC w d sb cap dur last vc cache off calls vk tn) : sb < w.heap.size ∧ dur.length ≤ cap ∧ cap ≤ maxLen := by
  rcases h.sec.2 with ⟨hv, _⟩ | ⟨g, cp, cur, hv, _, hg, h4, h5, _⟩
  · cases hv
  · injection hv with h1 h2 h3
    injection h1 with h1
    injection h1 with h1 _ _
    subst h1; subst h3
    exact ⟨(Array.getElem?_eq_some_iff.1 hg).1, h4, h5⟩
theorem DevC.ds (h : DevC w d sb cap dur last vc cache off calls vk tn) : d ≠ sb := fun e => by
  rcases h.sec.2 with ⟨hv, _⟩ | ⟨g, cp, cur, hv, _, hg, _⟩
  · cases hv
  · injection hv with h1 h2 h3
    injection h1 with h1
    injection h1 with h1 _ _
    subst h1; subst e
    have hb := h.blk
    rw [hg] at hb
    injection hb with hb
    injection hb with _ hb
    exact absurd hb (by decide)
/-- A row of another type lies in another block. -/
theorem own_ne {w : World} {base : Nat} {e e2 : TypeId} {size : Nat} {v : Value} {n : Nat} {xs : List Value} (h : w.ownsRow base e size v n xs) {b : Nat} {cs : Array Value} {fr : Nat × Nat} (hb : w.heap[b]? = some (.cells cs e2 fr)) (hne : e ≠ e2) : ∀ k, v.ownBlock = some k → k ≠ b := fun k hk hkb => by
  subst hkb
  rcases h.2 with ⟨rfl, _⟩ | ⟨g, cp, cur, rfl, _, hg, _⟩
  · simp [Value.ownBlock] at hk
  · simp [Value.ownBlock] at hk
    subst hk
    rw [hg] at hb
    injection hb with hb
    injection hb with _ hb
    exact hne hb
theorem DevC.secFst (h : DevC w d sb cap dur last vc cache off calls vk tn) (i : Nat) (hi : i < dur.length) : w.cell? ⟨sb, i * 2, none⟩ = some (.string dur[i]) := by
  rw [h.sec.cellAt (i * 2) (by omega), secVals_fst h.len i hi]
theorem DevC.secSnd (h : DevC w d sb cap dur last vc cache off calls vk tn) (i : Nat) (hi : i < dur.length) : w.cell? ⟨sb, i * 2 + 1, none⟩ = some (.string (last[i]'(by have := h.len; omega))) := by
  rw [h.sec.cellAt (i * 2 + 1) (by omega), secVals_snd h.len i (by have := h.len; omega)]
theorem DevC.secFree (h : DevC w d sb cap dur last vc cache off calls vk tn) (j : Nat) : w.frozen? ⟨sb, j, none⟩ = false := h.sec.frozenAt j
theorem DevC.only (h : DevC w d sb cap dur last vc cache off calls vk tn) {S : List Nat} (ho : Only S w w') (h1 : d ∉ S) (h2 : sb ∉ S) (h3 : ∀ k, vc.ownBlock = some k → k ∉ S) : DevC w' d sb cap dur last vc cache off calls vk tn :=
  ⟨(ho.block d h.dlt h1).trans h.blk, own_only h.sec ho (fun k hk => by simp [Value.ownBlock] at hk; subst hk; exact h2), h.len, own_only h.wr ho h3⟩
theorem DevC.cacheShape (h : DevC w d sb cap dur last vc cache off calls vk tn) : ∃ A c, vc = .slice A cache.length c ∧ cache.length ≤ c ∧ c ≤ maxLen := own_shape h.wr
theorem DevC.cacheForm (h : DevC w d sb cap dur last vc cache off calls vk tn) (hn : 0 < cache.length) : ∃ cb c, vc = .slice (some ⟨cb, 0, none⟩) cache.length c ∧ cache.length ≤ c ∧ c ≤ maxLen := by
  obtain ⟨g, c, e, _, _, h1, h2⟩ := own_form h.wr hn
  exact ⟨g, c, e, h1, h2⟩
theorem DevC.cacheFst {cb c : Nat} (h : DevC w d sb cap dur last (.slice (some ⟨cb, 0, none⟩) cache.length c) cache off calls vk tn) (i : Nat) (hi : i < cache.length) : w.cell? ⟨cb, i * 2, none⟩ = some (.int .i64 (cache[i].1 : Int)) ∧ w.cell? ⟨cb, i * 2 + 1, none⟩ = some (.string cache[i].2) := by
  have h1 := h.wr.cellAt (i * 2) (by omega)
  have h2 := h.wr.cellAt (i * 2 + 1) (by omega)
  unfold wrVals at h1 h2
  rw [flat2_fst _ i hi] at h1
  rw [flat2_snd _ i hi] at h2
  exact ⟨h1, h2⟩
/-- A store into a sector. -/
theorem DevC.putFst (h : DevC w d sb cap dur last vc cache off calls vk tn) (i : Nat) (b : ByteArray) : DevC (w.setCell ⟨sb, i * 2, none⟩ (.string b)) d sb cap (dur.set i b) last vc cache off calls vk tn := by
  have hs := (h.sec.stored (i * 2) (.string b)).1
  rw [secVals_setFst h.len] at hs
  have hl : (dur.set i b).length = dur.length := by simp
  have hne : ∀ k, vc.ownBlock = some k → k ≠ sb := by
    rcases h.sec_blk with ⟨cur, hg⟩ | h0
    · exact own_ne h.wr hg (by decide)
    · intro k hk e
      subst e
      rcases h.sec.2 with ⟨hv, _⟩ | ⟨g, cp, cur, hv, _, hg, _⟩
      · cases hv
      · injection hv with h1 h2 h3
        injection h1 with h1
        injection h1 with h1 _ _
        subst h1
        exact own_ne h.wr hg (by decide) _ hk rfl
  refine ⟨?_, by rw [hl]; exact hs, by rw [hl]; exact h.len, own_only h.wr (only_setCell w _ _) (fun k hk => by simpa using hne k hk)⟩
  rw [Below.heap_setCell _ _ _ _ (by exact h.ds), hl]
  exact h.blk
theorem DevC.putSnd (h : DevC w d sb cap dur last vc cache off calls vk tn) (i : Nat) (b : ByteArray) : DevC (w.setCell ⟨sb, i * 2 + 1, none⟩ (.string b)) d sb cap dur (last.set i b) vc cache off calls vk tn := by
  have hs := (h.sec.stored (i * 2 + 1) (.string b)).1
  rw [secVals_setSnd h.len] at hs
  have hne : ∀ k, vc.ownBlock = some k → k ≠ sb := by
    rcases h.sec.2 with ⟨hv, _⟩ | ⟨g, cp, cur, hv, _, hg, _⟩
    · cases hv
    · injection hv with h1 h2 h3
      injection h1 with h1
      injection h1 with h1 _ _
      subst h1
      exact own_ne h.wr hg (by decide)
  refine ⟨?_, hs, by simpa using h.len, own_only h.wr (only_setCell w _ _) (fun k hk => by simpa using hne k hk)⟩
  rw [Below.heap_setCell _ _ _ _ (by exact h.ds)]
  exact h.blk
theorem DevC.put1 (h : DevC w d sb cap dur last vc cache off calls vk tn) (vc' : Value) (cache' : List Wr) (hw : w.ownsRow 0 69 2 vc' cache'.length (wrVals cache')) : DevC (w.setCell ⟨d, 1, none⟩ vc') d sb cap dur last vc' cache' off calls vk tn :=
  ⟨heap_setCell_same w d 1 _ _ vc' h.blk, own_only h.sec (only_setCell w _ _) (fun k hk => by simp [Value.ownBlock] at hk; subst hk; simpa using h.ds.symm), h.len, own_only hw (only_setCell w _ _) (fun k hk => by simpa using own_ne hw h.blk (by decide) k hk)⟩
theorem DevC.put2 (h : DevC w d sb cap dur last vc cache off calls vk tn) (b : Bool) : DevC (w.setCell ⟨d, 2, none⟩ (.bool b)) d sb cap dur last vc cache b calls vk tn :=
  ⟨heap_setCell_same w d 2 _ _ _ h.blk, own_only h.sec (only_setCell w _ _) (fun k hk => by simp [Value.ownBlock] at hk; subst hk; simpa using h.ds.symm), h.len, own_only h.wr (only_setCell w _ _) (fun k hk => by simpa using own_ne h.wr h.blk (by decide) k hk)⟩
theorem DevC.put3 (h : DevC w d sb cap dur last vc cache off calls vk tn) (n : Nat) : DevC (w.setCell ⟨d, 3, none⟩ (.int .i64 (n : Int))) d sb cap dur last vc cache off n vk tn :=
  ⟨heap_setCell_same w d 3 _ _ _ h.blk, own_only h.sec (only_setCell w _ _) (fun k hk => by simp [Value.ownBlock] at hk; subst hk; simpa using h.ds.symm), h.len, own_only h.wr (only_setCell w _ _) (fun k hk => by simpa using own_ne h.wr h.blk (by decide) k hk)⟩
theorem DevC.put4 (h : DevC w d sb cap dur last vc cache off calls vk tn) (v : Value) : DevC (w.setCell ⟨d, 4, none⟩ v) d sb cap dur last vc cache off calls v tn :=
  ⟨heap_setCell_same w d 4 _ _ _ h.blk, own_only h.sec (only_setCell w _ _) (fun k hk => by simp [Value.ownBlock] at hk; subst hk; simpa using h.ds.symm), h.len, own_only h.wr (only_setCell w _ _) (fun k hk => by simpa using own_ne h.wr h.blk (by decide) k hk)⟩
theorem DevC.put5 (h : DevC w d sb cap dur last vc cache off calls vk tn) (z : Int) : DevC (w.setCell ⟨d, 5, none⟩ (.int .i64 z)) d sb cap dur last vc cache off calls vk z :=
  ⟨heap_setCell_same w d 5 _ _ _ h.blk, own_only h.sec (only_setCell w _ _) (fun k hk => by simp [Value.ownBlock] at hk; subst hk; simpa using h.ds.symm), h.len, own_only h.wr (only_setCell w _ _) (fun k hk => by simpa using own_ne h.wr h.blk (by decide) k hk)⟩
theorem DevC.below (h : DevC w d sb cap dur last vc cache off calls vk tn) (hb : Below w.heap.size w w') : DevC w' d sb cap dur last vc cache off calls vk tn :=
  h.only (S := []) (Only.of_below hb) (by simp) (by simp) (by simp)
theorem DevC.step (h : DevC w d sb cap dur last vc cache off calls vk tn) (o : Obj) (q : Nat) : DevC ((w.alloc o).drewN q) d sb cap dur last vc cache off calls vk tn :=
  h.below (below_drewN ((Below.refl _ _).alloc (Nat.le_refl _) _) q)
end

/-- The device at block d, its memory the blocks of F: what it holds. -/
def DevM (w : World) (F : List Nat) (d : Nat) (S : Disk) : Prop :=
  ∃ (sb cap : Nat) (vc vk : Value) (tn : Int), DevC w d sb cap S.dur S.last vc S.cache S.off S.calls vk tn ∧
    (∃ A n c, vk = .slice A n c) ∧ (S.calls ≠ 0 → tn = S.torn ∧ w.ownsRow 0 3 1 vk S.keep.length (S.keep.map (Value.int .i64)) ∧ ∀ k, vk.ownBlock = some k → k ∈ F) ∧
    d ∈ F ∧ sb ∈ F ∧ (∀ k, vc.ownBlock = some k → k ∈ F) ∧ (∀ b, b ∈ F → b < w.heap.size) ∧ S.Ok ∧ (S.calls : Int) ≤ 9223372036854775807 ∧ S.dur.length ≤ 8192
theorem DevM.lt {w : World} {F : List Nat} {d : Nat} {S : Disk} (h : DevM w F d S) : ∀ b, b ∈ F → b < w.heap.size := by
  obtain ⟨sb, cap, vc, vk, tn, h1, h2, h3, h4, h5, h6, h7, _⟩ := h; exact h7
theorem DevM.ok {w : World} {F : List Nat} {d : Nat} {S : Disk} (h : DevM w F d S) : S.Ok := by
  obtain ⟨sb, cap, vc, vk, tn, h1, h2, h3, h4, h5, h6, h7, h8, _⟩ := h; exact h8
theorem DevM.only {w w' : World} {F G : List Nat} {d : Nat} {S : Disk} (h : DevM w F d S) (ho : Only G w w') (ha : Apart F G) : DevM w' F d S := by
  obtain ⟨sb, cap, vc, vk, tn, h1, h2, h3, h4, h5, h6, h7, h8⟩ := h
  exact ⟨sb, cap, vc, vk, tn, h1.only ho (ha d h4) (ha sb h5) (fun k hk => ha k (h6 k hk)), h2, fun h0 => ⟨(h3 h0).1, own_only (h3 h0).2.1 ho (fun k hk => ha k ((h3 h0).2.2 k hk)), (h3 h0).2.2⟩, h4, h5, h6,
    fun b hb => Nat.lt_of_lt_of_le (h7 b hb) ho.size, h8⟩
theorem DevM.below {w w' : World} {F : List Nat} {d : Nat} {S : Disk} (h : DevM w F d S) (hb : Below w.heap.size w w') : DevM w' F d S :=
  h.only (G := []) (Only.of_below hb) (fun b hb => by simp)
theorem DevM.drewN {w : World} {F : List Nat} {d : Nat} {S : Disk} (h : DevM w F d S) (n : Nat) : DevM (w.drewN n) F d S := h.below (below_drewN (Below.refl _ _) n)

/-- What a call that turns the device ends in. -/
def DevEnd (F : List Nat) (d : Nat) (S' : Disk) (v : Value) (w : World) (e : Ending) (w' : World) : Prop :=
  e = .returned v ∧ ∃ F', DevM w' F' d S' ∧ Only F w w' ∧ Grows F F' w
end Go.Proofs.YtambddncncaehaaDoor
