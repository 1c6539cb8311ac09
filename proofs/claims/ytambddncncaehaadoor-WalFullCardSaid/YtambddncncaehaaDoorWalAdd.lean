/- The walks of the log's Add and Keep. -/
import Derived.Test.YtambddncncaehaaDoorWalStore
import Derived.Test.YtambddncncaehaaDoorWalUse
import Derived.Test.YtambddncncaehaaDoorWalSpace
import Derived.StillTailTactics
namespace Go.Proofs.YtambddncncaehaaDoor
open Go.RowKit Dk Wl
set_option linter.unusedVariables false
set_option maxRecDepth 100000

/-- What Add and Keep end in, where there is space. -/
def WalEnd (F G : List Nat) (d l : Nat) (S : Disk) (sz : Nat) (L L' : Lg) (w : World) (e : Ending) (w' : World) : Prop :=
  ∃ er F' G' S', e = .returned (.int .i64 er) ∧ Turns F G F' G' w w' ∧ S'.dur.length = S.dur.length ∧
    ((er = 0 ∧ S'.off = false ∧ S'.cache = [] ∧ Holds S'.dur sz L' ∧ Both w' F' G' d l S' sz L' false ∧ (S.calls = 0 → S'.calls = 0) ∧ S.off = false) ∨
     (er = 7 ∧ S'.off = true ∧ (Holds S'.dur sz L ∨ Holds S'.dur sz L') ∧ Both w' F' G' d l S' sz L true ∧ (S.calls ≠ 0 ∨ S.off = true) ∧ (S.off = true → Holds S'.dur sz L)))

section
variable {w : World} {F G : List Nat} {d l sz half used : Nat} {S : Disk} {tl base : List UInt8} {recs : List (List UInt8)} {dn : Bool}
theorem Duo.snoc (h : Duo w F G d l S sz half used tl base recs dn) :
    ∃ Ar c vs, w.cell? ⟨l, 6, none⟩ = some (.slice Ar recs.length c) ∧ w.ownsRow 0 31 1 (.slice Ar recs.length c) recs.length vs ∧ l ∉ blk (.slice Ar recs.length c) ∧
      ∀ (body : List UInt8) A' c' A'' c'' w1, RowEnd2 w Ar recs.length c vs body body.length A' c' A'' c'' w1 → ∃ G', Duo (w1.setCell ⟨l, 6, none⟩ (.slice A'' (recs.length + 1) c'')) F G' d l S sz half used tl base (recs ++ [body]) dn ∧ Turns F G F G' w (w1.setCell ⟨l, 6, none⟩ (.slice A'' (recs.length + 1) c'')) := by
  obtain ⟨vt, vb, vr, vs, h1, h2, h3, h4, h5, h6, h7⟩ := h.log
  obtain ⟨c0, c1, c2, c3, c4, c5, c6, c7⟩ := h1.cells
  obtain ⟨Ar, c, rfl, e1, e2⟩ := own_shape h1.row
  obtain ⟨a1, a2, a3, a4⟩ := h1.apart
  have hlr : l ∉ blk (.slice Ar recs.length c) := fun hm => absurd (a3 l hm) (by simp)
  refine ⟨Ar, c, vs, c6, h1.row, hlr, fun body A' c' A'' c'' w1 hE => ?_⟩
  obtain ⟨⟨r1, r2, r3⟩, k1, k2⟩ := hE
  have hblt : ∀ k, k ∈ blk (.slice Ar recs.length c) → k < w.heap.size := fun k hk => h7 k (h5 k hk)
  have ap : ∀ v, (∃ l', BRow w v l') → ∀ k, k ∈ blk v → k ∉ blk (.slice Ar recs.length c) := fun v ⟨l', hv⟩ k hk hm => by
    rcases own_own_ne hv h1.row (by decide) with e | e
    · have := mem_blk.1 hk; rw [e] at this; cases this
    · exact e ((mem_blk.1 hk).trans (mem_blk.1 hm).symm)
  have hbl : w1.heap[l]? = w.heap[l]? := r2.block l (h7 l h2) hlr
  have own1 := hbl.trans h1.own
  have ht1 : BRow w1 vt tl := h1.tail.only r2 (ap vt ⟨_, h1.tail⟩)
  have hb1 : BRow w1 vb base := h1.base.only r2 (ap vb ⟨_, h1.base⟩)
  have hp1 : Parts w1 0 5 vs recs := h1.parts.only r2 (fun v hv k hk => by
    obtain ⟨i, hi, e⟩ := List.mem_iff_getElem.1 hv
    have hi' : i < recs.length := by rw [← h1.parts.1]; exact hi
    exact ap v ⟨_, h1.parts.2 i v recs[i] (by rw [List.getElem?_eq_getElem hi, e]) (List.getElem?_eq_getElem hi')⟩ k (mem_blk.2 hk))
  have hp2 : Parts w1 0 5 (vs ++ [.slice A' body.length c']) (recs ++ [body]) := hp1.snoc k1
  have ho := only_setCell w1 ⟨l, 6, none⟩ (.slice A'' (recs.length + 1) c'')
  have nl : ∀ v l', BRow w1 v l' → Apart (blk v) [l] := fun v l' hv k hk => by simpa using own_ne hv own1 (by decide) k (mem_blk.1 hk)
  have hr1 : w1.ownsRow 0 31 1 (.slice A'' (recs.length + 1) c'') (recs ++ [body]).length (vs ++ [.slice A' body.length c']) := by rw [List.length_append]; exact r1
  have hlog : LogC (w1.setCell ⟨l, 6, none⟩ (.slice A'' (recs.length + 1) c'')) l d sz half used vt tl vb base (.slice A'' (recs.length + 1) c'') (vs ++ [.slice A' body.length c']) (recs ++ [body]) dn :=
    ⟨heap_setCell_same w1 l 6 _ _ _ own1, ht1.only ho (nl _ _ ht1), hb1.only ho (nl _ _ hb1), own_only hr1 ho (fun k hk => by simpa using own_ne hr1 own1 (by decide) k hk), hp2.only ho (fun v hv k hk => by
      obtain ⟨i, hi, e⟩ := List.mem_iff_getElem.1 hv
      have hi' : i < (recs ++ [body]).length := by rw [← hp2.1]; exact hi
      exact nl v _ (hp2.2 i v (recs ++ [body])[i] (by rw [List.getElem?_eq_getElem hi, e]) (List.getElem?_eq_getElem hi')) k (mem_blk.2 hk))⟩
  have hoG : Only G w (w1.setCell ⟨l, 6, none⟩ (.slice A'' (recs.length + 1) c'')) := (r2.more (fun b hb => h5 b hb)).trans (ho.more (fun x hx => by rw [List.mem_singleton] at hx; subst hx; exact h2))
  have hgr : Grows G (blk (.slice A'' (recs.length + 1) c'') ++ (blk (.slice A' body.length c') ++ G)) w := fun b hb => by
    rcases List.mem_append.1 hb with hb | hb
    · rcases r3 b hb with h' | h'
      · exact .inl (h5 b h')
      · exact .inr h'
    · rcases List.mem_append.1 hb with hb | hb
      · exact .inr (k2 b hb)
      · exact .inl hb
  have hnew : ∀ b, b ∈ blk (.slice A'' (recs.length + 1) c'') ++ (blk (.slice A' body.length c') ++ G) → b ∈ G ∨ w.heap.size ≤ b := hgr
  refine ⟨_, ⟨h.dev.only hoG h.ap, ⟨vt, vb, _, _, hlog, List.mem_append_right _ (List.mem_append_right _ h2), fun k hk => List.mem_append_right _ (List.mem_append_right _ (h3 k hk)), fun k hk => List.mem_append_right _ (List.mem_append_right _ (h4 k hk)), fun k hk => List.mem_append_left _ hk, fun v hv k hk => ?_, fun b hb => ?_⟩,
    fun x hx hn => ?_, h.tab.only hoG h.tG, h.tF, fun hn => ?_⟩, Turns.log hoG hgr⟩
  · rcases List.mem_append.1 hv with hv | hv
    · exact List.mem_append_right _ (List.mem_append_right _ (h6 v hv k hk))
    · rw [List.mem_singleton] at hv; subst hv
      exact List.mem_append_right _ (List.mem_append_left _ hk)
  · have : b < w1.heap.size := by
      rcases List.mem_append.1 hb with hb | hb
      · exact (World.ownsRow.lt r1 b (mem_blk.1 hb)).2
      · rcases List.mem_append.1 hb with hb | hb
        · exact k1.lt b hb
        · exact Nat.lt_of_lt_of_le (h7 b hb) r2.size
    simpa [World.setCell] using this
  · rcases hnew x hn with h' | h'
    · exact h.ap x hx h'
    · have := h.dev.lt x hx; omega
  · rcases hnew _ hn with h' | h'
    · exact h.tG h'
    · have := h.tab.lt; omega
/-- A new base, no records. -/
theorem Duo.rebase (h : Duo w F G d l S sz half used tl base recs dn) (v : Value) (b : List UInt8) (hv : BRow w v b) (w0 : World) (hz : w0.heap.size ≤ w.heap.size) (hn : ∀ k, k ∈ blk v → w0.heap.size ≤ k ∧ k ∉ F ∧ k ≠ tabG) :
    Duo ((w.setCell ⟨l, 5, none⟩ v).setCell ⟨l, 6, none⟩ (.slice none 0 0)) F (blk v ++ G) d l S sz half used tl b [] dn ∧ Only G w ((w.setCell ⟨l, 5, none⟩ v).setCell ⟨l, 6, none⟩ (.slice none 0 0)) ∧ Grows G (blk v ++ G) w0 := by
  have hm := h.log.mem
  have ho : Only [l] w ((w.setCell ⟨l, 5, none⟩ v).setCell ⟨l, 6, none⟩ (.slice none 0 0)) := ((Only.refl [l] w).setCell (p := ⟨l, 5, none⟩) (.inl (by simp)) _).setCell (p := ⟨l, 6, none⟩) (.inl (by simp)) _
  refine ⟨⟨h.dev.only ho (fun x hx hn => by rw [List.mem_singleton] at hn; subst hn; exact h.ap _ hx hm), ?_, fun x hx hn' => ?_, h.tab.only ho (fun hn => by rw [List.mem_singleton] at hn; exact h.tG (by rw [hn]; exact hm)), h.tF, fun hn' => ?_⟩, ho.more (fun x hx => by rw [List.mem_singleton] at hx; subst hx; exact hm), fun x hx => ?_⟩
  · obtain ⟨vt, vb, vr, vs, h1, h2, h3, h4, h5, h6, h7⟩ := h.log
    refine ⟨vt, v, .slice none 0 0, [], (h1.put5 v b hv).put6 (.slice none 0 0) [] [] (World.ownsRow_nil _ _ _ _) (Parts.nil _ _ _), List.mem_append_right _ h2, fun k hk => List.mem_append_right _ (h3 k hk), fun k hk => List.mem_append_left _ hk, fun k hk => by simp [blk, Value.ownBlock] at hk, fun u hu => by simp at hu, fun b hb => ?_⟩
    have : b < w.heap.size := by
      rcases List.mem_append.1 hb with hb | hb
      · exact hv.lt b hb
      · exact h7 b hb
    simpa [World.setCell] using this
  · rcases List.mem_append.1 hn' with h1 | h1
    · exact (hn x h1).2.1 hx
    · exact h.ap x hx h1
  · rcases List.mem_append.1 hn' with h1 | h1
    · exact (hn _ h1).2.2 rfl
    · exact h.tG h1
  · rcases List.mem_append.1 hx with h1 | h1
    · exact .inr (hn x h1).1
    · exact .inl h1
end

theorem add_done {w : World} {F G : List Nat} {d l sz half used : Nat} {S : Disk} {tl base : List UInt8} {recs : List (List UInt8)} (h : Duo w F G d l S sz half used tl base recs true) (A : Option Addr) (n c : Nat) :
    Calls Tryd.prog 11 #[.pointer (some ⟨l, 0, none⟩), .slice A n c] w fun e w' => e = .returned (.int .i64 7) ∧ w = w' := by
  obtain ⟨q0, q1, q2, q3, q7⟩ := h.log.cells
  clear h q0 q1 q2 q3
  go_enter Tryd.func11, Tryd.ntmps11
  go_wp2
  go_ret
  exact ⟨rfl, rfl⟩
theorem keep_done {w : World} {F G : List Nat} {d l sz half used : Nat} {S : Disk} {tl base : List UInt8} {recs : List (List UInt8)} (h : Duo w F G d l S sz half used tl base recs true) (A : Option Addr) (n c : Nat) :
    Calls Tryd.prog 12 #[.pointer (some ⟨l, 0, none⟩), .slice A n c] w fun e w' => e = .returned (.int .i64 7) ∧ w = w' := by
  obtain ⟨q0, q1, q2, q3, q7⟩ := h.log.cells
  clear h q0 q1 q2 q3
  go_enter Tryd.func12, Tryd.ntmps12
  go_wp2
  go_ret
  exact ⟨rfl, rfl⟩

/-- The record that Add lays in memory. -/
structure Boxed2 (w w1 : World) (z : Int) (A : Option Addr) (n c : Nat) : Prop where
  c0 : w1.cell? ⟨w.heap.size, 0, none⟩ = some (.int .i64 z)
  c1 : w1.cell? ⟨w.heap.size, 1, none⟩ = some (.slice A n c)
  size : w1.heap.size = w.heap.size + 1
  below : Below w.heap.size w w1
theorem Boxed2.later {w w1 W : World} {z : Int} {A : Option Addr} {n c : Nat} (h : Boxed2 w w1 z A n c) (hb : Below w1.heap.size w1 W) :
    W.cell? ⟨w.heap.size, 0, none⟩ = some (.int .i64 z) ∧ W.cell? ⟨w.heap.size, 1, none⟩ = some (.slice A n c) ∧ Below w.heap.size w W := by
  have := h.size
  exact ⟨(hb.cell (p := ⟨w.heap.size, 0, none⟩) (by show w.heap.size < _; omega)).trans h.c0, (hb.cell (p := ⟨w.heap.size, 1, none⟩) (by show w.heap.size < _; omega)).trans h.c1, h.below.trans (hb.mono (by omega))⟩
theorem box_rec (w : World) (z : Int) (A : Option Addr) (n c : Nat) (W : World) (hW : W = w.alloc (.cells #[.int .i64 z, .slice A n c] 61)) : Boxed2 w W z A n c := by
  subst hW
  exact ⟨by rw [World.cell?_alloc_at _ _ _ _ rfl]; rfl, by rw [World.cell?_alloc_at _ _ _ _ rfl]; rfl, by simp, (Below.refl _ _).alloc (Nat.le_refl _) _⟩

/-- What Put leaves, behind the box. -/
def PutPost (W1 : World) (b0 : List UInt8) (x y : Value) (w' : World) : Prop :=
  ∃ A' c' b, Hid (b = b0) ∧ x = .slice A' b.length c' ∧ y = .int .i64 0 ∧ Below W1.heap.size W1 w' ∧ Sees w' w'.heap.size A' b ∧ (∀ a, A' = some a → W1.heap.size ≤ a.block) ∧ b.length ≤ c' ∧ c' ≤ maxLen
theorem put_post {W1 W : World} {b0 : List UInt8} {e : Ending} {w' : World} (he : ∃ A' c' L, Hid (L = b0) ∧ e = .returned (.tuple #[.slice A' L.length c', .int .i64 0]) ∧ w'.ownsRow W.heap.size 5 1 (.slice A' L.length c') L.length (bv L) ∧ Below W.heap.size W w' ∧ L.length ≤ c' ∧ c' ≤ maxLen) (hb : Below W1.heap.size W1 W) : ∃ x y, e = .returned (.tuple #[x, y]) ∧ PutPost W1 b0 x y w' := by
  obtain ⟨A', c', b, h1, rfl, h3, h4, h5, h6⟩ := he
  refine ⟨_, _, rfl, A', c', b, h1, rfl, rfl, hb.trans (h4.mono hb.size), Sees.of_own h3, fun a ha => ?_, h5, h6⟩
  subst ha
  rcases h3.2 with ⟨hv, _⟩ | ⟨g, cap, cur, hv, hg, _⟩
  · cases hv
  · injection hv with e1 _ _
    injection e1 with e1
    subst e1
    exact Nat.le_trans hb.size hg

/-- Add, where there may be space: what store is called with. -/
theorem add_store {w : World} {F G : List Nat} {d l sz : Nat} {S : Disk} {L : Lg} (h : Both w F G d l S sz L false) (hc0 : S.cache = []) (hH : Holds S.dur sz L) (body : List UInt8) (hb : body.length ≤ 200000) (hfit : L.used + (body.length + 16) ≤ sz * 512)
    (W : World) (hW : Below w.heap.size w W) (A' : Option Addr) (c' : Nat) (b : List UInt8) (hbb : b = tailOf L.stream ++ Rc.enc (2 + L.recs.length) body) (hs : Sees W W.heap.size A' b) (hA : ∀ a, A' = some a → w.heap.size ≤ a.block) (h1 : b.length ≤ c') (h2 : c' ≤ maxLen) (q : Nat) (hq : q = L.used / 512) :
    Calls Tryd.prog 28 #[.pointer (some ⟨l, 0, none⟩), .int .i64 (L.half : Int), .int .i64 (q : Int), .slice A' b.length c'] W (StoreEnd F G d l S sz L.half L.used (tailOf L.stream) L.base L.recs L (L.add body) W) := by
  obtain ⟨hd, hok, h1s, hlen⟩ := h
  have hsz : sz ≤ 8192 := by
    obtain ⟨_, _, _, _, _, _, _, _, _, _, _, _, _, _, hdl⟩ := hd.dev
    omega
  have hu : L.used = L.stream.length := rfl
  have hok' := Lg.add_ok hok body hb hfit
  have htl : (tailOf L.stream).length = L.used - q * 512 := by unfold tailOf; rw [List.length_drop, hq, hu]
  have hbl : b.length = L.used - q * 512 + (body.length + 16) := by rw [hbb, List.length_append, htl, Rc.enc_length]
  have hqu : q * 512 ≤ L.used ∧ L.used < q * 512 + 512 := by omega
  have hspace : q + (b.length + 511) / 512 ≤ sz := by omega
  have hhalf : L.half * sz ≤ sz := by have := Nat.mul_le_mul_right sz hok.half; omega
  have hD : 1 + L.half * sz + q + (b.length + 511) / 512 ≤ S.dur.length := by omega
  have hst := add_step (sz := sz) (n := S.dur.length) (L := L) (Rc.enc (2 + L.recs.length) body) (k := (b.length + 511) / 512) (by rw [← hq]; exact hD)
  have hpl := add_placed hH body (k := (b.length + 511) / 512) (by rw [← hq]; exact hD) (by rw [← hbb]; omega)
  rw [← hbb, ← hq] at hst hpl
  exact store_any L (L.add body) W (hd.below hW) hsz hok' A' b.length c' b (L.stream.take (q * 512)) rfl h1 h2 hs (fun a ha => ⟨fun hm => by have := hA a ha; have := hd.dev.lt _ hm; omega, fun hm => by have := hA a ha; have := hd.log.lt _ hm; omega⟩) (by omega) (by rw [List.length_take]; omega)
    (by rw [L.add_stream, hbb, ← List.append_assoc]; unfold tailOf; rw [← hu, ← hq, List.take_append_drop]) _ rfl (by intro e; rw [e] at hbl; simp at hbl) hc0 hD hH hst hpl

set_option maxHeartbeats 3200000 in
set_option maxRecDepth 100000 in
theorem add_ok {w : World} {F G : List Nat} {d l sz : Nat} {S : Disk} {L : Lg} (h : Both w F G d l S sz L false) (hc0 : S.cache = []) (hH : Holds S.dur sz L) (A : Option Addr) (n c : Nat) (body : List UInt8) (hn : n = body.length) (hnc : n ≤ c) (hcm : c ≤ maxLen) (hs : Sees w w.heap.size A body) (hA : body ≠ [] → ∀ a, A = some a → a.block ∉ F ∧ a.block ∉ G) (hb : body.length ≤ 200000) (hfit : L.used + (body.length + 16) ≤ sz * 512) :
    Calls Tryd.prog 11 #[.pointer (some ⟨l, 0, none⟩), .slice A n c] w (WalEnd F G d l S sz L (L.add body) w) := by
  subst hn
  have hup := L.used_pos
  have hul := h.2.1.used
  have hsz : sz ≤ 8192 := by
    obtain ⟨_, _, _, _, _, _, _, _, _, _, _, _, _, _, hdl⟩ := h.1.dev
    have := h.2.2.2; omega
  obtain ⟨zn, Hz⟩ : ∃ z : Nat, Hid (z = 2 + L.recs.length) := ⟨_, Lib.hid rfl⟩
  have hz : (2 : Int) + (L.recs.length : Int) = (zn : Int) := by have := Hz.out; omega
  obtain ⟨q, Hq⟩ : ∃ q : Nat, Hid (q = L.used / 512) := ⟨_, Lib.hid rfl⟩
  have hq : (L.used : Int) / 512 = (q : Int) := by have := Hq.out; omega
  obtain ⟨W1, HW1⟩ : ∃ W, Hid (W = w.alloc (.cells #[.int .i64 (zn : Int), .slice A body.length c] 61)) := ⟨_, Lib.hid rfl⟩
  have hbox := box_rec w (zn : Int) A body.length c W1 HW1.out
  obtain ⟨q0, q1, q2, q3, q7⟩ := h.1.log.cells
  obtain ⟨Ar, cr, vs, q6, hr1, hr2, _⟩ := h.1.log.recsAt
  obtain ⟨At, ct, q4, t1, t2, ts⟩ := h.1.log.tailAt
  have hll : l < w.heap.size := World.block_lt_of_cell? w _ q0
  have htl : (tailOf L.stream).length ≤ 100000000 := by
    unfold tailOf; rw [List.length_drop]
    have : L.used = L.stream.length := rfl
    omega
  have hput := fun W (hb' : Below W1.heap.size W1 W) => put_ok At (tailOf L.stream).length ct (tailOf L.stream) zn A body.length c body W rfl (ts.only (Only.of_below (hbox.later hb').2.2 (S := [])) (by simp)) rfl (hs.only (Only.of_below (hbox.later hb').2.2 (S := [])) (by simp)) (by have := Hz.out; omega) (by have := Hz.out; omega) hb (by omega) (h.1.tab.below (hbox.later hb').2.2 (Nat.le_refl _))
  have n4 : W1.cell? ⟨l, 4, none⟩ = some (.slice At (tailOf L.stream).length ct) := (hbox.below.cell (p := ⟨l, 4, none⟩) hll).trans q4
  have keep : ∀ W, Below W1.heap.size W1 W → W.cell? ⟨l, 1, none⟩ = some (.int .i64 (sz : Int)) ∧ W.cell? ⟨l, 2, none⟩ = some (.int .i64 (L.half : Int)) ∧ W.cell? ⟨l, 3, none⟩ = some (.int .i64 (L.used : Int)) := fun W hb => by
    have hb := (hbox.later hb).2.2
    exact ⟨(hb.cell (p := ⟨l, 1, none⟩) hll).trans q1, (hb.cell (p := ⟨l, 2, none⟩) hll).trans q2, (hb.cell (p := ⟨l, 3, none⟩) hll).trans q3⟩
  have HST := Lib.hid (fun W hW A' c' b hbb hs hA h1 h2 => add_store h hc0 hH body hb hfit W hW A' c' b hbb hs hA h1 h2 q Hq.out)
  have HP := Lib.hid hput
  have HBOX := Lib.hid hbox
  have HKEEP := Lib.hid keep
  have HB := Lib.hid h
  have HS := Lib.hid hs
  have HA := Lib.hid hA
  have HF := Lib.hid hfit
  have hcm' := hcm
  unfold maxLen at hcm' hr2
  have hbI : (body.length : Int) ≤ 200000 := by omega
  have hn0 := hbox.c0
  have hn1 := hbox.c1
  clear hput hbox h hc0 hH hs hA q0 q1 q2 q3 q4 hr1 t1 t2 ts keep
  go_enter Tryd.func11, Tryd.ntmps11
  go_wp2
  rw [← HW1.out]
  refine ad4_run l w.heap.size (tailOf L.stream).length ct body.length c At A (zn : Int) (PutPost W1 (tailOf L.stream ++ Rc.enc zn body)) (by show 29 < 69; omega) rfl rfl n4 hn0 hn1 (fun W hb => (HP.out W hb).mono fun e w' he => put_post he hb) ?_
  intro af w2 hfr hP
  obtain ⟨A2, c2, b, hb2, h6, h7, hbel2, hs2, hA2, hc2, hcm2⟩ := hP
  have ha := hfr.eq (by intro t ht; simp at ht; show t < 69; omega)
  simp only [List.foldl_cons, List.foldl_nil] at ha
  clear hfr
  rw [h6] at ha
  clear h6
  rw [h7] at ha
  clear h7
  generalize af.eval (.tmp 22) = u22 at ha
  generalize af.eval (.tmp 23) = u23 at ha
  generalize af.eval (.tmp 24) = u24 at ha
  generalize af.eval (.tmp 25) = u25 at ha
  generalize af.eval (.tmp 26) = u26 at ha
  generalize af.eval (.tmp 27) = u27 at ha
  generalize af.eval (.tmp 21) = u21 at ha
  generalize af.eval (.tmp 28) = u28 at ha
  generalize af.eval (.tmp 29) = u29 at ha
  subst ha
  simp only [Act.put, List.setIfInBounds_toArray, List.set_cons_zero, List.set_cons_succ]
  have HB2 := Lib.hid (⟨hb2, hs2, hA2, hc2, hcm2⟩ : _ ∧ _ ∧ _ ∧ _ ∧ _)
  have HBEL2 := Lib.hid hbel2
  obtain ⟨m0, m1, m2⟩ := HBOX.out.later hbel2
  obtain ⟨k1, k2, k3⟩ := HKEEP.out w2 hbel2
  have HM2 := Lib.hid m2
  clear hn0 hn1 n4 HP hb2 hs2 hA2 hc2 hcm2 hbel2 m2 k2
  have hbb : decide ((sz : Int) * 512 - (L.used : Int) < (body.length : Int) + 16) = false := by
    have := HF.out
    simp; omega
  go_wp2
  refine ad7_run l w.heap.size sz L.used body.length c (zn : Int) A false (by show 42 < 69; omega) rfl rfl hsz (by omega) k1 k3 m0 m1 hb (by have := Hz.out; omega) hbb ?_
  intro af w3 hfr h42 hbel3
  have ha := hfr.eq (by intro t ht; simp at ht; show t < 69; omega)
  simp only [List.foldl_cons, List.foldl_nil] at ha
  clear hfr
  rw [h42] at ha
  clear h42
  generalize af.eval (.tmp 33) = u33 at ha
  generalize af.eval (.tmp 34) = u34 at ha
  generalize af.eval (.tmp 35) = u35 at ha
  generalize af.eval (.tmp 36) = u36 at ha
  generalize af.eval (.tmp 37) = u37 at ha
  generalize af.eval (.tmp 38) = u38 at ha
  generalize af.eval (.tmp 39) = u39 at ha
  generalize af.eval (.tmp 40) = u40 at ha
  generalize af.eval (.tmp 41) = u41 at ha
  subst ha
  simp only [Act.put, List.setIfInBounds_toArray, List.set_cons_zero, List.set_cons_succ]
  have hb13 : Below W1.heap.size W1 w3 := HBEL2.out.trans (hbel3.mono HBEL2.out.size)
  obtain ⟨k1, k2, k3⟩ := HKEEP.out w3 hb13
  have HB3 := Lib.hid ((HBOX.out.later hb13).2.2)
  have HBEL3 := Lib.hid hbel3
  clear m0 m1 hb13 hbel3 k1 hbb
  go_wp2
  go_still_tail 11, (by kernel_rfl)
  go_wp2_with fail
  refine (HST.out w3.drew (HB3.out.trans ((Below.refl _ _).drew)) A2 c2 b (by rw [HB2.out.1.out, Hz.out]) ((HB2.out.2.1.below HBEL3.out (Nat.le_refl _)).mono HBEL3.out.size) (fun a ha => by have := HB2.out.2.2.1 a ha; have := HBOX.out.size; omega) HB2.out.2.2.2.1 HB2.out.2.2.2.2).mono ?_
  rintro e w4 ⟨er, F4, G4, S4, rfl, ht4, hl4, hcase⟩
  have hbw : Below w.heap.size w w3.drew := HB3.out.trans ((Below.refl _ _).drew)
  have ht04 : Turns F G F4 G4 w w4 := (Turns.of_below hbw).trans ht4
  rcases hcase with ⟨rfl, o1, o2, o3, o4, o5⟩ | ⟨rfl, o1, o2, o3, o5⟩
  · obtain ⟨Ar4, c4, vs4, q6, row4, hl6, hmk⟩ := o4.snoc
    have hfr6 := o4.log.free 6
    have hs4 : Sees w4 w4.heap.size A body := (HS.out.only (Only.of_below hbw (S := F ++ G)) (fun hne a ha hm => by
        rcases List.mem_append.1 hm with hm | hm
        · exact (HA.out hne a ha).1 hm
        · exact (HA.out hne a ha).2 hm)).only ht4.only (fun hne a ha hm => by
        rcases List.mem_append.1 hm with hm | hm
        · exact (HA.out hne a ha).1 hm
        · exact (HA.out hne a ha).2 hm)
    have HMK := Lib.hid hmk
    have HT4 := Lib.hid ht04
    have HO := Lib.hid (⟨o1, o2, o3, o5⟩ : _ ∧ _ ∧ _ ∧ _)
    have HL4 := Lib.hid hl4
    have HRM : Hid (L.recs.length + 1 ≤ 1000000) := Lib.hid (by omega)
    clear hmk ht04 ht4 hbw o1 o2 o3 o4 o5 hl4 HST k2 k3
    go_wp2
    refine ad12_run l L.recs.length c4 body.length c Ar4 A vs4 body (by show 68 < 69; omega) rfl rfl q6 hfr6 rfl (by omega) hs4 row4 hl6 HRM.out ?_
    intro af A5 c5 A6 c6 w5 hfr hE
    have ha := hfr.eq (by intro t ht; simp at ht; show t < 69; omega)
    simp only [List.foldl_cons, List.foldl_nil] at ha
    clear hfr
    generalize af.eval (.tmp 58) = u58 at ha
    generalize af.eval (.tmp 59) = u59 at ha
    generalize af.eval (.tmp 60) = u60 at ha
    generalize af.eval (.tmp 61) = u61 at ha
    generalize af.eval (.tmp 62) = u62 at ha
    generalize af.eval (.tmp 63) = u63 at ha
    generalize af.eval (.tmp 64) = u64 at ha
    generalize af.eval (.tmp 65) = u65 at ha
    generalize af.eval (.tmp 66) = u66 at ha
    generalize af.eval (.tmp 67) = u67 at ha
    generalize af.eval (.tmp 68) = u68 at ha
    subst ha
    simp only [Act.put, List.setIfInBounds_toArray, List.set_cons_zero, List.set_cons_succ]
    obtain ⟨G5, hd5, ht5⟩ := HMK.out body A5 c5 A6 c6 w5 hE
    have key : WalEnd F G d l S sz L (L.add body) w (.returned (.int .i64 0)) (w5.setCell ⟨l, 6, none⟩ (.slice A6 (L.recs.length + 1) c6)) :=
      ⟨0, F4, G5, S4, rfl, HT4.out.trans ht5, HL4.out, .inl ⟨rfl, HO.out.1, HO.out.2.1, HO.out.2.2.1, ⟨hd5, Lg.add_ok HB.out.2.1 body hb HF.out, HB.out.2.2.1, by rw [HL4.out]; exact HB.out.2.2.2⟩, HO.out.2.2.2⟩⟩
    have HK := Lib.hid key
    clear key hd5 ht5 hE q6 hfr6 hs4 row4 hl6
    go_wp2
    go_ret
    exact HK.out
  · have key : WalEnd F G d l S sz L (L.add body) w (.returned (.int .i64 7)) w4 :=
      ⟨7, F4, G4, S4, rfl, ht04, hl4, .inr ⟨rfl, o1, o2, ⟨o3, HB.out.2.1, HB.out.2.2.1, by rw [hl4]; exact HB.out.2.2.2⟩, o5⟩⟩
    have HK := Lib.hid key
    clear key ht04 ht4 hbw o1 o2 o3 o5 hl4 HST k2 k3
    go_wp2
    go_ret
    exact HK.out
end Go.Proofs.YtambddncncaehaaDoor
