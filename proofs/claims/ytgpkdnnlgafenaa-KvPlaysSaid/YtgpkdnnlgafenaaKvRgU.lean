/- Range's region from the row in the making, and behind it. -/
import Derived.Test.YtgpkdnnlgafenaaKvRgI
namespace Go.Proofs.Ytgpkdnnlgafenaa
open Go.RowKit Kv
set_option linter.unusedVariables false

theorem PRow.noB {W : World} {v : Value} {L : List Ent} (h : PRow W v L) : ∀ b, b ∈ blk v → NoB W b ∧ ∃ C, W.heap[b]? = some (.cells C 63 (0, 0)) := fun b hb => by
  rcases h.row.2 with ⟨rfl, _⟩ | ⟨g, cap, cur, rfl, _, hg, _⟩
  · simp [blk, Value.ownBlock] at hb
  · simp [blk, Value.ownBlock] at hb
    subst hb
    exact ⟨.of_cells hg (by decide), _, hg⟩
theorem Making.apart {w1 W : World} {lb : Nat} {v : Value} {L : List Ent} (h : Making w1 lb W v L) : lb ∉ blk v := fun hm => by
  obtain ⟨_, C, hC⟩ := h.row.noB lb hm
  have := h.box
  rw [hC] at this; injection this with this; injection this with _ this _; exact absurd this (by decide)

theorem Making.rg5 {w1 W3 : World} {lb pb n0 c0 nv cv : Nat} {A0 Av : Option Addr} {L : List Ent} {key : ByteArray} {l : List UInt8} (h : Making w1 lb W3 (.slice A0 n0 c0) L) (hn0 : n0 = L.length) (hlen : L.length ≤ 100000) (hpb : W3.heap[pb]? = some (.cells #[.string key, .slice Av nv cv] 63 (0, 0))) (hpl : pb ≠ lb) (hpv : pb ∉ blk (.slice A0 n0 c0))
    (hnv : nv = l.length) (hl : l.length ≤ 200000) (hs : Sees W3 w1.heap.size Av l) (hA : ∀ a, Av = some a → a.block ≠ lb) (S : (Nat → Bool) → (Nat → Value) → World → Prop) (hS : S = RgS W3 lb pb (.slice A0 n0 c0) L.length (pcells L) key nv l) :
    (∀ f R w, S f R w → f 4 = false → w.cell? ⟨lb, 0, none⟩ = some (.slice A0 n0 c0)) ∧ (∀ f R w, S f R w → w.cell? ⟨pb, 0, none⟩ = some (.string key) ∧ w.cell? ⟨pb, 1, none⟩ = some (.slice Av nv cv)) ∧
    (∀ f R w, S f R w → f 0 = false → f 1 = false → f 2 = false → f 3 = false → f 4 = false → Calls Try.prog 31 #[.slice Av nv cv] w fun e w' => ∃ v, e = .returned v ∧ S (setF f 0) (setR R 0 v) w') ∧
    (∀ f R w, S f R w → f 0 = true → f 1 = false → f 2 = false → f 3 = false → f 4 = false → ∃ A n c, R 0 = .slice A n c ∧ S (setF f 1) (setR R 1 (.agg #[.string key, .slice A n c])) w) ∧
    (∀ f R w, S f R w → f 1 = true → f 2 = false → f 3 = false → f 4 = false → ∃ A n c, R 1 = .agg #[.string key, .slice A n c] ∧ S (setF f 2) (setR R 2 (.slice (some ⟨w.heap.size, 0, none⟩) 1 1)) (w.alloc (.cells #[.string key, .slice A n c] 63))) ∧
    (∀ f R w, S f R w → f 2 = true → f 3 = false → f 4 = false → ∃ v w', (Builtin.append_ #[37, 37] 37 #[.slice A0 n0 c0, R 2]).run Try.prog w = .ok v w' ∧ S (setF f 3) (setR R 3 v) w') ∧
    (∀ f R w, S f R w → f 3 = true → f 4 = false → ∃ A n c, R 3 = .slice A n c ∧ w.frozen? ⟨lb, 0, none⟩ = false ∧ S (setF f 4) R (w.setCell ⟨lb, 0, none⟩ (.slice A n c))) := by
  subst hS; subst hn0
  have hlb : lb < W3.heap.size := (Array.getElem?_eq_some_iff.1 h.box).1
  have hpbl : pb < W3.heap.size := (Array.getElem?_eq_some_iff.1 hpb).1
  have hvl := own_lt h.row.row
  have hlv := h.apart
  refine ⟨fun f R w hs h4 => ?_, fun f R w hs => ?_, fun f R w hs' h0 h1 h2 h3 h4 => ?_, fun f R w hs h0 h1 h2 h3 h4 => ?_, fun f R w hs h1 h2 h3 h4 => ?_, fun f R w hs h2 h3 h4 => ?_, fun f R w hs h3 h4 => ?_⟩
  · simp [World.cell?, hs.box0 h4, h.box]
  · have : w.heap[pb]? = some (.cells #[.string key, .slice Av nv cv] 63 (0, 0)) := by
      rw [hs.only.block pb hpbl (by simp; exact ⟨hpl, hpv⟩)]; exact hpb
    exact ⟨by simp [World.cell?, this], by simp [World.cell?, this]⟩
  · have hsw : Sees w w1.heap.size Av l := fun hn => by
      obtain ⟨g, o, e, hg, hc⟩ := hs hn
      refine ⟨g, o, e, hg, fun j hj => ?_⟩
      have hgl : g ≠ lb := hA _ e
      have hgv : g ∉ blk (.slice A0 L.length c0) := fun hm => by have := h.high g hm; omega
      exact (hs'.only.cell (a := ⟨g, o + j, none⟩) (by show g < _; have := h.keep.size; omega) (by simp; exact ⟨hgl, hgv⟩)).trans (hc j hj)
    refine (clone_val Av nv cv w1.heap.size l w hnv (by omega) hsw).mono ?_
    rintro e w' ⟨A', c', rfl, _, _, q1, q2, _⟩
    exact ⟨_, rfl, hs'.s0 h1 h2 h3 h4 hlb hvl q2 q1⟩
  · obtain ⟨A, c, e, _⟩ := hs.r0 h0
    exact ⟨A, nv, c, e, hs.s1 h2 h3 h4 e⟩
  · obtain ⟨A, c, e0, e1⟩ := hs.r1 h1
    exact ⟨A, nv, c, e1, hs.s2 h3 h4 hlb hvl e0⟩
  · obtain ⟨hone, b, e2, hb, hb2⟩ := hs.r2 h2 h3
    obtain ⟨i0, hi, hz0, hz1, hz2⟩ := info_parts Try.infoPr
    have hw : w.ownsRow 0 63 2 (.slice A0 L.length c0) L.length (pcells L) := own_same h.row.row (hs.row0 h3)
    obtain ⟨v', w', hap, k1, k2, k3⟩ := run_append_here (P := Try.prog) w 37 37 63 i0 _ 2 40 Try.underlying37 hi hz0 hz1 hz2 rfl (by decide) _ L.length (pcells L) hw ⟨b, 0, none⟩ 1 1 [.string key, R 0] rfl (pair_lit hb) (by intro u hu; simp at hu; rcases hu with rfl | rfl; rfl; exact hone) (by unfold maxLen; omega) (by omega)
    rw [e2]
    refine ⟨v', w', hap, hs.s3 h4 hlb hlv (fun b hb => ?_) k1 (Only.of_grown k2 (fun k hk => mem_blk.2 hk)) (fun k hk => (k3 k (mem_blk.1 hk)).imp (fun h => mem_blk.2 h) id)⟩
    intro C fr e
    rw [hs.row0 h3 b hb] at e
    exact (h.row.noB b hb).1 C fr e
  · obtain ⟨o1, _⟩ := hs.row3 h3
    obtain ⟨A, c, e, _⟩ := own_shape o1
    refine ⟨A, _, c, e, ?_, ?_⟩
    · simp [World.frozen?, hs.box0 h4, h.box]
    · rw [← e]; exact hs.s4 h3 h4 h.box hlv

/-- One more pair. -/
theorem Making.added {w1 W3 W : World} {lb pb n0 c0 nv : Nat} {A0 : Option Addr} {L : List Ent} {key : ByteArray} {l : List UInt8} {f : Nat → Bool} {R : Nat → Value} (h : Making w1 lb W3 (.slice A0 n0 c0) L) (hs : RgS W3 lb pb (.slice A0 n0 c0) L.length (pcells L) key nv l f R W) (hf : ∀ j, j < 5 → f j = true) :
    Making w1 lb W (R 3) (L ++ [⟨key, R 0, l⟩]) := by
  obtain ⟨o1, o2⟩ := hs.row3 (hf 3 (by decide))
  have hlv := h.apart
  have hsz := h.keep.size
  refine ⟨h.keep.trans ?_, hs.box4 (hf 4 (by decide)), ⟨?_, ?_⟩, fun b hb => (o2 b hb).elim (h.high b) (fun h' => by omega)⟩
  · exact ⟨hs.only.os, hs.only.tape, hs.only.output, hs.only.size, fun i h1 h2 => hs.only.block i (by omega) (by
      simp at h2 ⊢
      exact ⟨h2, fun hm => by have := h.high i hm; omega⟩)⟩
  · have e : pcells (L ++ [⟨key, R 0, l⟩]) = pcells L ++ [.string key, R 0] := by rw [pcells_append]; rfl
    rw [e, List.length_append]; exact o1
  · intro e he
    rcases List.mem_append.1 he with he | he
    · have hv := h.row.vals e he
      refine hv.only hs.only (fun b hb hm => ?_)
      rcases List.mem_cons.1 hm with rfl | hm
      · exact hv.noB (.of_cells h.box (by decide)) hb
      · exact hv.noB (h.row.noB b hm).1 hb
    · rw [List.mem_singleton] at he
      subst he
      obtain ⟨A, c, q1, q2⟩ := hs.r0 (hf 0 (by decide))
      show BRow W (R 0) l
      rw [q1]; exact q2
end Go.Proofs.Ytgpkdnnlgafenaa
