/- A log in memory, beside its device. -/
import Derived.Test.YtambddncncaehaaDoorDev
import Derived.Test.YtambddncncaehaaDoorRecScan
import Derived.Test.YtambddncncaehaaDoorWalPure
namespace Go.Proofs.YtambddncncaehaaDoor
open Go.RowKit Dk Wl
set_option linter.unusedVariables false

/-- The log at block l: its cells, its rows. -/
structure LogC (w : World) (l d sz half used : Nat) (vt : Value) (tl : List UInt8) (vb : Value) (base : List UInt8) (vr : Value) (vs : List Value) (recs : List (List UInt8)) (dn : Bool) : Prop where
  own : w.heap[l]? = some (.cells #[.pointer (some ⟨d, 0, none⟩), .int .i64 (sz : Int), .int .i64 (half : Int), .int .i64 (used : Int), vt, vb, vr, .bool dn] 58 (0, 0))
  tail : BRow w vt tl
  base : BRow w vb base
  row : w.ownsRow 0 31 1 vr recs.length vs
  parts : Parts w 0 5 vs recs

section
variable {w w' : World} {l d sz half used : Nat} {vt vb vr : Value} {tl base : List UInt8} {vs : List Value} {recs : List (List UInt8)} {dn : Bool}
theorem LogC.cells (h : LogC w l d sz half used vt tl vb base vr vs recs dn) :
    w.cell? ⟨l, 0, none⟩ = some (.pointer (some ⟨d, 0, none⟩)) ∧ w.cell? ⟨l, 1, none⟩ = some (.int .i64 (sz : Int)) ∧ w.cell? ⟨l, 2, none⟩ = some (.int .i64 (half : Int)) ∧ w.cell? ⟨l, 3, none⟩ = some (.int .i64 (used : Int)) ∧ w.cell? ⟨l, 4, none⟩ = some vt ∧ w.cell? ⟨l, 5, none⟩ = some vb ∧ w.cell? ⟨l, 6, none⟩ = some vr ∧ w.cell? ⟨l, 7, none⟩ = some (.bool dn) := by
  have hb := h.own
  refine ⟨?_, ?_, ?_, ?_, ?_, ?_, ?_, ?_⟩ <;> simp [World.cell?, hb]
theorem LogC.free (h : LogC w l d sz half used vt tl vb base vr vs recs dn) (j : Nat) : w.frozen? ⟨l, j, none⟩ = false := by
  have hb := h.own
  simp [World.frozen?, hb]
theorem LogC.llt (h : LogC w l d sz half used vt tl vb base vr vs recs dn) : l < w.heap.size := (Array.getElem?_eq_some_iff.1 h.own).1
theorem Parts.only {w w' : World} {base e : Nat} {vs : List Value} {ls : List (List UInt8)} {S : List Nat} (h : Parts w base e vs ls) (ho : Only S w w') (hs : ∀ v, v ∈ vs → ∀ k, v.ownBlock = some k → k ∉ S) : Parts w' base e vs ls :=
  ⟨h.1, fun i v m hv hm => own_only (h.2 i v m hv hm) ho (hs v (List.mem_of_getElem? hv))⟩
theorem LogC.only (h : LogC w l d sz half used vt tl vb base vr vs recs dn) {S : List Nat} (ho : Only S w w') (h1 : l ∉ S) (h2 : ∀ k, k ∈ blk vt → k ∉ S) (h3 : ∀ k, k ∈ blk vb → k ∉ S) (h4 : ∀ k, k ∈ blk vr → k ∉ S) (h5 : ∀ v, v ∈ vs → ∀ k, k ∈ blk v → k ∉ S) : LogC w' l d sz half used vt tl vb base vr vs recs dn :=
  ⟨(ho.block l h.llt h1).trans h.own, h.tail.only ho h2, h.base.only ho h3, own_only h.row ho (fun k hk => h4 k (mem_blk.2 hk)), h.parts.only ho (fun v hv k hk => h5 v hv k (mem_blk.2 hk))⟩
theorem LogC.apart (h : LogC w l d sz half used vt tl vb base vr vs recs dn) : (∀ k, k ∈ blk vt → k ∉ [l]) ∧ (∀ k, k ∈ blk vb → k ∉ [l]) ∧ (∀ k, k ∈ blk vr → k ∉ [l]) ∧ (∀ v, v ∈ vs → ∀ k, k ∈ blk v → k ∉ [l]) := by
  refine ⟨fun k hk => ?_, fun k hk => ?_, fun k hk => ?_, fun v hv k hk => ?_⟩
  · simpa using own_ne h.tail h.own (by decide) k (mem_blk.1 hk)
  · simpa using own_ne h.base h.own (by decide) k (mem_blk.1 hk)
  · simpa using own_ne h.row h.own (by decide) k (mem_blk.1 hk)
  · obtain ⟨i, hi, e⟩ := List.mem_iff_getElem.1 hv
    have hi' : i < recs.length := by rw [← h.parts.1]; exact hi
    simpa using own_ne (h.parts.2 i v recs[i] (by rw [List.getElem?_eq_getElem hi, e]) (List.getElem?_eq_getElem hi')) h.own (by decide) k (mem_blk.1 hk)
/-- A store into the log's own block. -/
theorem LogC.put2 (h : LogC w l d sz half used vt tl vb base vr vs recs dn) (n : Nat) : LogC (w.setCell ⟨l, 2, none⟩ (.int .i64 (n : Int))) l d sz n used vt tl vb base vr vs recs dn := by
  obtain ⟨a1, a2, a3, a4⟩ := h.apart
  have ho := only_setCell w ⟨l, 2, none⟩ (.int .i64 (n : Int))
  exact ⟨heap_setCell_same w l 2 _ _ _ h.own, h.tail.only ho a1, h.base.only ho a2, own_only h.row ho (fun k hk => a3 k (mem_blk.2 hk)), h.parts.only ho (fun v hv k hk => a4 v hv k (mem_blk.2 hk))⟩
theorem LogC.put3 (h : LogC w l d sz half used vt tl vb base vr vs recs dn) (n : Nat) : LogC (w.setCell ⟨l, 3, none⟩ (.int .i64 (n : Int))) l d sz half n vt tl vb base vr vs recs dn := by
  obtain ⟨a1, a2, a3, a4⟩ := h.apart
  have ho := only_setCell w ⟨l, 3, none⟩ (.int .i64 (n : Int))
  exact ⟨heap_setCell_same w l 3 _ _ _ h.own, h.tail.only ho a1, h.base.only ho a2, own_only h.row ho (fun k hk => a3 k (mem_blk.2 hk)), h.parts.only ho (fun v hv k hk => a4 v hv k (mem_blk.2 hk))⟩
theorem LogC.put4 (h : LogC w l d sz half used vt tl vb base vr vs recs dn) (v : Value) (t : List UInt8) (hv : BRow w v t) : LogC (w.setCell ⟨l, 4, none⟩ v) l d sz half used v t vb base vr vs recs dn := by
  obtain ⟨a1, a2, a3, a4⟩ := h.apart
  have ho := only_setCell w ⟨l, 4, none⟩ v
  exact ⟨heap_setCell_same w l 4 _ _ _ h.own, hv.only ho (fun k hk => by simpa using own_ne hv h.own (by decide) k (mem_blk.1 hk)), h.base.only ho a2, own_only h.row ho (fun k hk => a3 k (mem_blk.2 hk)), h.parts.only ho (fun v hv k hk => a4 v hv k (mem_blk.2 hk))⟩
theorem LogC.put5 (h : LogC w l d sz half used vt tl vb base vr vs recs dn) (v : Value) (b : List UInt8) (hv : BRow w v b) : LogC (w.setCell ⟨l, 5, none⟩ v) l d sz half used vt tl v b vr vs recs dn := by
  obtain ⟨a1, a2, a3, a4⟩ := h.apart
  have ho := only_setCell w ⟨l, 5, none⟩ v
  exact ⟨heap_setCell_same w l 5 _ _ _ h.own, h.tail.only ho a1, hv.only ho (fun k hk => by simpa using own_ne hv h.own (by decide) k (mem_blk.1 hk)), own_only h.row ho (fun k hk => a3 k (mem_blk.2 hk)), h.parts.only ho (fun v hv k hk => a4 v hv k (mem_blk.2 hk))⟩
theorem LogC.put6 (h : LogC w l d sz half used vt tl vb base vr vs recs dn) (v : Value) (vs' : List Value) (recs' : List (List UInt8)) (hv : w.ownsRow 0 31 1 v recs'.length vs') (hp : Parts w 0 5 vs' recs') : LogC (w.setCell ⟨l, 6, none⟩ v) l d sz half used vt tl vb base v vs' recs' dn := by
  obtain ⟨a1, a2, a3, a4⟩ := h.apart
  have ho := only_setCell w ⟨l, 6, none⟩ v
  exact ⟨heap_setCell_same w l 6 _ _ _ h.own, h.tail.only ho a1, h.base.only ho a2, own_only hv ho (fun k hk => by simpa using own_ne hv h.own (by decide) k hk), hp.only ho (fun x hx k hk => by
    obtain ⟨i, hi, e⟩ := List.mem_iff_getElem.1 hx
    have hi' : i < recs'.length := by rw [← hp.1]; exact hi
    simpa using own_ne (hp.2 i x recs'[i] (by rw [List.getElem?_eq_getElem hi, e]) (List.getElem?_eq_getElem hi')) h.own (by decide) k hk)⟩
theorem LogC.put7 (h : LogC w l d sz half used vt tl vb base vr vs recs dn) (b : Bool) : LogC (w.setCell ⟨l, 7, none⟩ (.bool b)) l d sz half used vt tl vb base vr vs recs b := by
  obtain ⟨a1, a2, a3, a4⟩ := h.apart
  have ho := only_setCell w ⟨l, 7, none⟩ (.bool b)
  exact ⟨heap_setCell_same w l 7 _ _ _ h.own, h.tail.only ho a1, h.base.only ho a2, own_only h.row ho (fun k hk => a3 k (mem_blk.2 hk)), h.parts.only ho (fun v hv k hk => a4 v hv k (mem_blk.2 hk))⟩
end

/-- The log at block l, its memory the blocks of G. -/
def LogI (w : World) (G : List Nat) (l d sz half used : Nat) (tl base : List UInt8) (recs : List (List UInt8)) (dn : Bool) : Prop :=
  ∃ vt vb vr vs, LogC w l d sz half used vt tl vb base vr vs recs dn ∧ l ∈ G ∧ (∀ k, k ∈ blk vt → k ∈ G) ∧ (∀ k, k ∈ blk vb → k ∈ G) ∧ (∀ k, k ∈ blk vr → k ∈ G) ∧ (∀ v, v ∈ vs → ∀ k, k ∈ blk v → k ∈ G) ∧ ∀ b, b ∈ G → b < w.heap.size
section
variable {w w' : World} {G : List Nat} {l d sz half used : Nat} {tl base : List UInt8} {recs : List (List UInt8)} {dn : Bool}
theorem LogI.lt (h : LogI w G l d sz half used tl base recs dn) : ∀ b, b ∈ G → b < w.heap.size := by
  obtain ⟨vt, vb, vr, vs, h1, h2, h3, h4, h5, h6, h7⟩ := h; exact h7
theorem LogI.mem (h : LogI w G l d sz half used tl base recs dn) : l ∈ G := by
  obtain ⟨vt, vb, vr, vs, h1, h2, h3, h4, h5, h6, h7⟩ := h; exact h2
theorem LogI.only {S : List Nat} (h : LogI w G l d sz half used tl base recs dn) (ho : Only S w w') (ha : Apart G S) : LogI w' G l d sz half used tl base recs dn := by
  obtain ⟨vt, vb, vr, vs, h1, h2, h3, h4, h5, h6, h7⟩ := h
  exact ⟨vt, vb, vr, vs, h1.only ho (ha l h2) (fun k hk => ha k (h3 k hk)) (fun k hk => ha k (h4 k hk)) (fun k hk => ha k (h5 k hk)) (fun v hv k hk => ha k (h6 v hv k hk)), h2, h3, h4, h5, h6, fun b hb => Nat.lt_of_lt_of_le (h7 b hb) ho.size⟩
theorem LogI.below (h : LogI w G l d sz half used tl base recs dn) (hb : Below w.heap.size w w') : LogI w' G l d sz half used tl base recs dn :=
  h.only (S := []) (Only.of_below hb) (fun b _ hm => by cases hm)
theorem LogI.cells (h : LogI w G l d sz half used tl base recs dn) : w.cell? ⟨l, 0, none⟩ = some (.pointer (some ⟨d, 0, none⟩)) ∧ w.cell? ⟨l, 1, none⟩ = some (.int .i64 (sz : Int)) ∧ w.cell? ⟨l, 2, none⟩ = some (.int .i64 (half : Int)) ∧ w.cell? ⟨l, 3, none⟩ = some (.int .i64 (used : Int)) ∧ w.cell? ⟨l, 7, none⟩ = some (.bool dn) := by
  obtain ⟨vt, vb, vr, vs, h1, h2⟩ := h
  obtain ⟨c0, c1, c2, c3, c4, c5, c6, c7⟩ := h1.cells
  exact ⟨c0, c1, c2, c3, c7⟩
theorem LogI.free (h : LogI w G l d sz half used tl base recs dn) (j : Nat) : w.frozen? ⟨l, j, none⟩ = false := by
  obtain ⟨vt, vb, vr, vs, h1, h2⟩ := h; exact h1.free j
theorem LogI.tailAt (h : LogI w G l d sz half used tl base recs dn) : ∃ A c, w.cell? ⟨l, 4, none⟩ = some (.slice A tl.length c) ∧ tl.length ≤ c ∧ c ≤ maxLen ∧ Sees w w.heap.size A tl := by
  obtain ⟨vt, vb, vr, vs, h1, h2⟩ := h
  obtain ⟨c0, c1, c2, c3, c4, c5, c6, c7⟩ := h1.cells
  obtain ⟨A, c, rfl, e1, e2⟩ := h1.tail.shape
  exact ⟨A, c, c4, e1, e2, h1.tail.sees⟩
theorem LogI.baseAt (h : LogI w G l d sz half used tl base recs dn) : ∃ A c, w.cell? ⟨l, 5, none⟩ = some (.slice A base.length c) ∧ base.length ≤ c ∧ c ≤ maxLen ∧ Sees w w.heap.size A base := by
  obtain ⟨vt, vb, vr, vs, h1, h2⟩ := h
  obtain ⟨c0, c1, c2, c3, c4, c5, c6, c7⟩ := h1.cells
  obtain ⟨A, c, rfl, e1, e2⟩ := h1.base.shape
  exact ⟨A, c, c5, e1, e2, h1.base.sees⟩
theorem LogI.recsAt (h : LogI w G l d sz half used tl base recs dn) : ∃ A c vs, w.cell? ⟨l, 6, none⟩ = some (.slice A recs.length c) ∧ recs.length ≤ c ∧ c ≤ maxLen ∧ w.ownsRow 0 31 1 (.slice A recs.length c) recs.length vs ∧ Parts w 0 5 vs recs := by
  obtain ⟨vt, vb, vr, vs, h1, h2⟩ := h
  obtain ⟨c0, c1, c2, c3, c4, c5, c6, c7⟩ := h1.cells
  obtain ⟨A, c, rfl, e1, e2⟩ := own_shape h1.row
  exact ⟨A, c, vs, c6, e1, e2, h1.row, h1.parts⟩
end

/-- crc's table. -/
abbrev tabG : Nat := 0
theorem TabAt.only {w w' : World} {g : Nat} {S : List Nat} (h : TabAt w g) (ho : Only S w w') (hs : g ∉ S) : TabAt w' g := fun i hi => by
  have hlt := World.block_lt_of_cell? w _ (h i hi)
  exact (ho.cell (a := ⟨g, i, none⟩) hlt hs).trans (h i hi)
theorem TabAt.lt {w : World} {g : Nat} (h : TabAt w g) : g < w.heap.size := World.block_lt_of_cell? w _ (h 0 (by decide))
theorem Sees.only {w w' : World} {S : List Nat} {A : Option Addr} {l : List UInt8} (h : Sees w w.heap.size A l) (ho : Only S w w') (hs : l ≠ [] → ∀ a, A = some a → a.block ∉ S) : Sees w' w'.heap.size A l := fun hne => by
  obtain ⟨g, o, e, hg, hcell⟩ := h hne
  exact ⟨g, o, e, Nat.lt_of_lt_of_le hg ho.size, fun j hj => (ho.cell (a := ⟨g, o + j, none⟩) hg (show g ∉ S from hs hne _ e)).trans (hcell j hj)⟩

/-- A device and a log beside one another, and crc's table. -/
structure Duo (w : World) (F G : List Nat) (d l : Nat) (S : Disk) (sz half used : Nat) (tl base : List UInt8) (recs : List (List UInt8)) (dn : Bool) : Prop where
  dev : DevM w F d S
  log : LogI w G l d sz half used tl base recs dn
  ap : Apart F G
  tab : TabAt w tabG
  tF : tabG ∉ F
  tG : tabG ∉ G
section
variable {w w' : World} {F F' G : List Nat} {d l sz half used : Nat} {S S' : Disk} {tl base : List UInt8} {recs : List (List UInt8)} {dn : Bool}
theorem Duo.below (h : Duo w F G d l S sz half used tl base recs dn) (hb : Below w.heap.size w w') : Duo w' F G d l S sz half used tl base recs dn :=
  ⟨h.dev.below hb, h.log.below hb, h.ap, h.tab.below hb (Nat.le_refl _), h.tF, h.tG⟩
theorem Duo.turn (h : Duo w F G d l S sz half used tl base recs dn) (hd : DevM w' F' d S') (ho : Only F w w') (hg : Grows F F' w) : Duo w' F' G d l S' sz half used tl base recs dn :=
  ⟨hd, h.log.only ho h.ap.symm, h.ap.grows hg h.log.lt, h.tab.only ho h.tF, fun hm => by
    rcases hg _ hm with h1 | h1
    · exact h.tF h1
    · have := h.tab.lt; omega, h.tG⟩
end
/-- The log L, whole. -/
def Both (w : World) (F G : List Nat) (d l : Nat) (S : Disk) (sz : Nat) (L : Lg) (dn : Bool) : Prop := Duo w F G d l S sz L.half L.used (tailOf L.stream) L.base L.recs dn ∧ L.Ok sz ∧ 1 ≤ sz ∧ 1 + 2 * sz ≤ S.dur.length
/-- What a call that turns log and device leaves alone. -/
structure Turns (F G F' G' : List Nat) (w w' : World) : Prop where
  only : Only (F ++ G) w w'
  gF : Grows F F' w
  gG : Grows G G' w
theorem Turns.refl (F G : List Nat) (w : World) : Turns F G F G w w := ⟨Only.refl _ _, Grows.refl _ _, Grows.refl _ _⟩
theorem Turns.trans {F G F' G' F'' G'' : List Nat} {a b c : World} (h : Turns F G F' G' a b) (k : Turns F' G' F'' G'' b c) : Turns F G F'' G'' a c :=
  ⟨h.only.step k.only (fun x hx => by
    rcases List.mem_append.1 hx with h1 | h1
    · rcases h.gF x h1 with h2 | h2
      · exact .inl (List.mem_append_left _ h2)
      · exact .inr h2
    · rcases h.gG x h1 with h2 | h2
      · exact .inl (List.mem_append_right _ h2)
      · exact .inr h2), h.gF.trans k.gF h.only.size, h.gG.trans k.gG h.only.size⟩
theorem Turns.of_below {F G : List Nat} {w w' : World} (h : Below w.heap.size w w') : Turns F G F G w w' := ⟨Only.of_below h, Grows.refl _ _, Grows.refl _ _⟩
theorem Turns.dev {F F' G : List Nat} {w w' : World} (ho : Only F w w') (hg : Grows F F' w) : Turns F G F' G w w' := ⟨ho.more (fun b hb => List.mem_append_left _ hb), hg, Grows.refl _ _⟩
theorem Turns.log {F G G' : List Nat} {w w' : World} (ho : Only G w w') (hg : Grows G G' w) : Turns F G F G' w w' := ⟨ho.more (fun b hb => List.mem_append_right _ hb), Grows.refl _ _, hg⟩

/-- bytes.Clone of whatever slice. -/
theorem clone_opt (A : Option Addr) (n c : Nat) (r : List UInt8) (B : Nat) (w : World) (hn : n = r.length) (hbig : n ≤ 140737488355328) (hs : Sees w B A r) :
    Calls Tryd.prog 29 #[.slice A n c] w fun e w' => ∃ A' c', e = .returned (.slice A' n c') ∧ BRow w' (.slice A' n c') r ∧ n ≤ c' ∧ c' ≤ maxLen ∧ Below w.heap.size w w' ∧ ∀ k, k ∈ blk (.slice A' n c') → w.heap.size ≤ k := by
  cases A with
  | none =>
    have h0 : r = [] := Classical.byContradiction fun hne => by
      obtain ⟨g, o, e, _⟩ := hs hne
      cases e
    subst h0
    subst hn
    refine (Tryd.bytes_Clone_nil _ c w).mono ?_
    rintro e w' ⟨rfl, rfl⟩
    exact ⟨none, 0, rfl, BRow.nil _, Nat.le_refl _, Nat.zero_le _, Below.refl _ _, fun k hk => by simp [blk, Value.ownBlock] at hk⟩
  | some a =>
    refine (clone_any a n c r B w hn hbig hs).mono ?_
    rintro e w' ⟨A', c', rfl, ho, h1, h2, hb⟩
    subst hn
    exact ⟨A', c', rfl, own_base ho (Nat.zero_le _), h1, h2, hb, fun k hk => (ho.lt k (mem_blk.1 hk)).1⟩
end Go.Proofs.YtambddncncaehaaDoor
