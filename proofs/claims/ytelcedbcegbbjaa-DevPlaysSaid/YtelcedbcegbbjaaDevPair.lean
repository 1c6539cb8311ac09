/- DevPlays: the device and the reference's device side by side; what each call on one of them makes of both. -/
import Derived.Test.YtelcedbcegbbjaaRefNew
namespace Go.Proofs.Ytelcedbcegbbjaa
open Go.RowKit Dk
set_option linter.unusedVariables false

/-- All that has turned since w0 lies from block B on; the device at d and the reference's at r are among it, and share no block; the blocks of K lie in neither. -/
def Pair (B : Nat) (w0 w : World) (d : Nat) (Sa : Disk) (r : Nat) (Sb : Disk) (K : List Nat) : Prop :=
  ∃ F G, DevM w F d Sa ∧ RefM w G r Sb ∧ Apart F G ∧ (∀ x, x ∈ F → B ≤ x) ∧ (∀ x, x ∈ G → B ≤ x) ∧ Below B w0 w ∧ B ≤ w.heap.size ∧ ∀ b, b ∈ K → b ∉ F ∧ b ∉ G ∧ b < w.heap.size
def PairEnd (B : Nat) (w0 : World) (d : Nat) (Sa : Disk) (r : Nat) (Sb : Disk) (K : List Nat) (w : World) (v : Value) (e : Ending) (w' : World) : Prop := e = .returned v ∧ Pair B w0 w' d Sa r Sb K ∧ Keeps K w w'
section
variable {B d r : Nat} {w0 w w' : World} {Sa Sb : Disk} {K : List Nat}
theorem Pair.bel (h : Pair B w0 w d Sa r Sb K) : Below B w0 w := by obtain ⟨F, G, h1, h2, h3, h4, h5, h6, h7, h8⟩ := h; exact h6
theorem Pair.size (h : Pair B w0 w d Sa r Sb K) : B ≤ w.heap.size := by obtain ⟨F, G, h1, h2, h3, h4, h5, h6, h7, h8⟩ := h; exact h7
/-- The blocks that are the law's own may be more, or others, as long as they are new or were its own. -/
theorem Pair.past (h : Pair B w0 w d Sa r Sb K) (hb : Below w.heap.size w w') (K' : List Nat) (hK : ∀ b, b ∈ K' → b ∈ K ∨ (w.heap.size ≤ b ∧ b < w'.heap.size)) : Pair B w0 w' d Sa r Sb K' := by
  obtain ⟨F, G, h1, h2, h3, h4, h5, h6, h7, h8⟩ := h
  refine ⟨F, G, h1.below hb, h2.below hb, h3, h4, h5, h6.trans (hb.mono h7), Nat.le_trans h7 hb.size, fun b hbK => ?_⟩
  rcases hK b hbK with h | ⟨k1, k2⟩
  · obtain ⟨k1, k2, k3⟩ := h8 b h
    exact ⟨k1, k2, Nat.lt_of_lt_of_le k3 hb.size⟩
  · exact ⟨fun hf => by have := h1.lt _ hf; omega, fun hf => by have := h2.lt _ hf; omega, k2⟩
theorem Pair.of_dev {F G : List Nat} {S' : Disk} {v : Value} {e : Ending} (he : DevEnd F d S' v w e w') (h2 : RefM w G r Sb) (h3 : Apart F G) (h4 : ∀ x, x ∈ F → B ≤ x) (h5 : ∀ x, x ∈ G → B ≤ x) (h6 : Below B w0 w) (h7 : B ≤ w.heap.size) (h8 : ∀ b, b ∈ K → b ∉ F ∧ b ∉ G ∧ b < w.heap.size) : PairEnd B w0 d S' r Sb K w v e w' := by
  obtain ⟨e1, F', e2, e3, e4⟩ := he
  refine ⟨e1, ⟨F', G, e2, h2.only e3 h3.symm, h3.grows e4 h2.lt, fun x hx => by
    rcases e4 x hx with h | h
    · exact h4 x h
    · omega, h5, h6.trans (e3.below h7 h4), Nat.le_trans h7 e3.size, fun b hb => ?_⟩, fun b hb => e3.block b (h8 b hb).2.2 (h8 b hb).1⟩
  obtain ⟨k1, k2, k3⟩ := h8 b hb
  exact ⟨fun hf => (e4 _ hf).elim k1 (fun h => by omega), k2, Nat.lt_of_lt_of_le k3 e3.size⟩
theorem Pair.of_ref {F G : List Nat} {S' : Disk} {v : Value} {e : Ending} (he : RefEnd G r S' v w e w') (h1 : DevM w F d Sa) (h3 : Apart F G) (h4 : ∀ x, x ∈ F → B ≤ x) (h5 : ∀ x, x ∈ G → B ≤ x) (h6 : Below B w0 w) (h7 : B ≤ w.heap.size) (h8 : ∀ b, b ∈ K → b ∉ F ∧ b ∉ G ∧ b < w.heap.size) : PairEnd B w0 d Sa r S' K w v e w' := by
  obtain ⟨e1, G', e2, e3, e4⟩ := he
  refine ⟨e1, ⟨F, G', h1.only e3 h3, e2, (h3.symm.grows e4 h1.lt).symm, h4, fun x hx => by
    rcases e4 x hx with h | h
    · exact h5 x h
    · omega, h6.trans (e3.below h7 h5), Nat.le_trans h7 e3.size, fun b hb => ?_⟩, fun b hb => e3.block b (h8 b hb).2.2 (h8 b hb).2.1⟩
  obtain ⟨k1, k2, k3⟩ := h8 b hb
  exact ⟨k1, fun hf => (e4 _ hf).elim k2 (fun h => by omega), Nat.lt_of_lt_of_le k3 e3.size⟩

theorem pair_flush_d (h : Pair B w0 w d Sa r Sb K) (hcl : Sa.cache.length ≤ 1000) : Calls Try.prog 18 #[.pointer (some ⟨d, 0, none⟩)] w (PairEnd B w0 d Sa.flush r Sb K w (.int .i64 Sa.flushE)) := by
  obtain ⟨F, G, h1, h2, h3, h4, h5, h6, h7, h8⟩ := h
  exact (flush_any w h1 (by omega)).mono fun e w' he => Pair.of_dev he h2 h3 h4 h5 h6 h7 h8
theorem pair_flush_r (h : Pair B w0 w d Sa r Sb K) (hd : 0 < Sb.dur.length) : Calls Try.prog 23 #[.pointer (some ⟨r, 0, none⟩)] w (PairEnd B w0 d Sa r Sb.flush K w (.int .i64 Sb.flushE)) := by
  obtain ⟨F, G, h1, h2, h3, h4, h5, h6, h7, h8⟩ := h
  exact (ref_flush w h2 hd).mono fun e w' he => Pair.of_ref he h1 h3 h4 h5 h6 h7 h8
theorem pair_on_d (h : Pair B w0 w d Sa r Sb K) : Calls Try.prog 16 #[.pointer (some ⟨d, 0, none⟩)] w (PairEnd B w0 d Sa.on r Sb K w (.tuple #[])) := by
  obtain ⟨F, G, h1, h2, h3, h4, h5, h6, h7, h8⟩ := h
  exact (on_any w h1).mono fun e w' he => Pair.of_dev he h2 h3 h4 h5 h6 h7 h8
theorem pair_on_r (h : Pair B w0 w d Sa r Sb K) : Calls Try.prog 25 #[.pointer (some ⟨r, 0, none⟩)] w (PairEnd B w0 d Sa r Sb.on K w (.tuple #[])) := by
  obtain ⟨F, G, h1, h2, h3, h4, h5, h6, h7, h8⟩ := h
  exact (ref_on w h2).mono fun e w' he => Pair.of_ref he h1 h3 h4 h5 h6 h7 h8
theorem pair_off_d (h : Pair B w0 w d Sa r Sb K) : Calls Try.prog 15 #[.pointer (some ⟨d, 0, none⟩)] w fun e w' => e = .returned (.bool Sa.off) ∧ w = w' := by
  obtain ⟨F, G, h1, h2, h3, h4, h5, h6, h7, h8⟩ := h
  exact off_any w h1
theorem pair_off_r (h : Pair B w0 w d Sa r Sb K) : w.cell? ⟨r, 1, none⟩ = some (.bool Sb.off) := by
  obtain ⟨F, G, h1, h2, h3, h4, h5, h6, h7, h8⟩ := h
  obtain ⟨vs, vl, vk, fz, tn, k1, _⟩ := h2
  exact k1.cells.2.1
theorem pair_unsafe_d (h : Pair B w0 w d Sa r Sb K) : Calls Try.prog 13 #[.pointer (some ⟨d, 0, none⟩)] w fun e w' => e = .returned (.int .i64 (Sa.cache.length : Int)) ∧ w = w' := by
  obtain ⟨F, G, h1, h2, h3, h4, h5, h6, h7, h8⟩ := h
  exact unsafe_any w h1
theorem pair_unsafe_r (h : Pair B w0 w d Sa r Sb K) : Calls Try.prog 27 #[.pointer (some ⟨r, 0, none⟩)] w fun e w' => e = .returned (.int .i64 (Sb.cache.length : Int)) ∧ w = w' := by
  obtain ⟨F, G, h1, h2, h3, h4, h5, h6, h7, h8⟩ := h
  exact ref_unsafe w h2
theorem pair_sectors_d (h : Pair B w0 w d Sa r Sb K) : Calls Try.prog 19 #[.pointer (some ⟨d, 0, none⟩)] w fun e w' => e = .returned (.int .i64 (Sa.dur.length : Int)) ∧ w = w' := by
  obtain ⟨F, G, h1, h2, h3, h4, h5, h6, h7, h8⟩ := h
  exact sectors_any w h1
theorem pair_read_d (h : Pair B w0 w d Sa r Sb K) (at_ : Int) : Calls Try.prog 12 #[.pointer (some ⟨d, 0, none⟩), .int .i64 at_] w (ReadEnd Sa at_ w) := by
  obtain ⟨F, G, h1, h2, h3, h4, h5, h6, h7, h8⟩ := h
  exact read_any at_ w h1
theorem pair_read_r (h : Pair B w0 w d Sa r Sb K) (at_ : Int) : Calls Try.prog 22 #[.pointer (some ⟨r, 0, none⟩), .int .i64 at_] w (ReadEnd Sb at_ w) := by
  obtain ⟨F, G, h1, h2, h3, h4, h5, h6, h7, h8⟩ := h
  exact ref_read at_ w h2
theorem pair_write_d (h : Pair B w0 w d Sa r Sb K) (hcl : Sa.cache.length ≤ 1000) (at_ : Int) {A : Option Addr} {l : List UInt8} (hs : Sees w w.heap.size A l) (hA : ∀ a, A = some a → a.block ∈ K) (n c : Nat) (hn : n = l.length) (hnc : n ≤ c) (hcm : c ≤ maxLen) :
    Calls Try.prog 10 #[.pointer (some ⟨d, 0, none⟩), .int .i64 at_, .slice A n c] w (PairEnd B w0 d (Sa.write at_ ⟨l.toArray⟩) r Sb K w (.int .i64 (Sa.writeE at_ l.length))) := by
  obtain ⟨F, G, h1, h2, h3, h4, h5, h6, h7, h8⟩ := h
  exact (write_any w h1 hcl at_ A n c l hn hnc hcm hs (fun a ha => (h8 _ (hA a ha)).1)).mono fun e w' he => Pair.of_dev he h2 h3 h4 h5 h6 h7 h8
theorem pair_write_r (h : Pair B w0 w d Sa r Sb K) (hd : 0 < Sb.dur.length) (hcl : Sb.cache.length ≤ 1000) (at_ : Int) {A : Option Addr} {l : List UInt8} (hs : Sees w w.heap.size A l) (hA : ∀ a, A = some a → a.block ∈ K) (n c : Nat) (hn : n = l.length) (hnc : n ≤ c) (hcm : c ≤ maxLen) :
    Calls Try.prog 21 #[.pointer (some ⟨r, 0, none⟩), .int .i64 at_, .slice A n c] w (PairEnd B w0 d Sa r (Sb.write at_ ⟨l.toArray⟩) K w (.int .i64 (Sb.writeE at_ l.length))) := by
  obtain ⟨F, G, h1, h2, h3, h4, h5, h6, h7, h8⟩ := h
  exact (ref_write w h2 hd hcl at_ A n c l hn hnc hcm hs (fun a ha => (h8 _ (hA a ha)).2.1)).mono fun e w' he => Pair.of_ref he h1 h3 h4 h5 h6 h7 h8
/-- The numbers that came in lie below B, in every world since. -/
theorem Pair.keeps (h : Pair B w0 w d Sa r Sb K) (hB : B ≤ w0.heap.size) {A : Option Addr} {keep : List Int} (hs : SeesI w0 B A keep) : SeesI w w.heap.size A keep := (hs.below h.bel (Nat.le_refl _)).mono h.size
theorem SeesI.blk {w : World} {A : Option Addr} {keep : List Int} (hs : SeesI w B A keep) (hne : keep ≠ []) : ∀ a, A = some a → a.block < B := fun a ha => by
  obtain ⟨g, o, e, hg, _⟩ := hs hne
  rw [ha] at e
  injection e with e
  subst e
  exact hg
theorem pair_crash_d (h : Pair B w0 w d Sa r Sb K) (hB : B ≤ w0.heap.size) (hcl : Sa.cache.length ≤ 1000) (A : Option Addr) (n c : Nat) (keep : List Int) (hn : n = keep.length) (hnc : n ≤ c) (hcm : c ≤ maxLen) (hk : SeesI w0 B A keep) (torn : Int) :
    Calls Try.prog 14 #[.pointer (some ⟨d, 0, none⟩), .slice A n c, .int .i64 torn] w (PairEnd B w0 d (Sa.crash keep torn) r Sb K w (.tuple #[])) := by
  have hks := h.keeps hB hk
  obtain ⟨F, G, h1, h2, h3, h4, h5, h6, h7, h8⟩ := h
  exact (crash_any w h1 (by omega) A n c keep hn hnc hcm hks torn).mono fun e w' he => Pair.of_dev he h2 h3 h4 h5 h6 h7 h8
theorem pair_crash_r (h : Pair B w0 w d Sa r Sb K) (hB : B ≤ w0.heap.size) (hd : 0 < Sb.dur.length) (A : Option Addr) (n c : Nat) (keep : List Int) (hn : n = keep.length) (hnc : n ≤ c) (hcm : c ≤ maxLen) (hk : SeesI w0 B A keep) (torn : Int) :
    Calls Try.prog 24 #[.pointer (some ⟨r, 0, none⟩), .slice A n c, .int .i64 torn] w (PairEnd B w0 d Sa r (Sb.crash keep torn) K w (.tuple #[])) := by
  have hks := h.keeps hB hk
  obtain ⟨F, G, h1, h2, h3, h4, h5, h6, h7, h8⟩ := h
  exact (ref_crash w h2 hd A n c keep hn hnc hcm hks (fun a ha hne hg => by have := hk.blk hne a ha; have := h5 _ hg; omega) torn).mono fun e w' he => Pair.of_ref he h1 h3 h4 h5 h6 h7 h8
theorem pair_arm_d (h : Pair B w0 w d Sa r Sb K) (hB : B ≤ w0.heap.size) (calls : Int) (hcw : calls ≤ 9223372036854775807) (A : Option Addr) (n c : Nat) (keep : List Int) (hn : n = keep.length) (hk : keep.length ≤ 100000) (hs : SeesI w0 B A keep) (torn : Int) :
    Calls Try.prog 17 #[.pointer (some ⟨d, 0, none⟩), .int .i64 calls, .slice A n c, .int .i64 torn] w (PairEnd B w0 d (Sa.arm calls keep torn) r Sb K w (.tuple #[])) := by
  have hks := h.keeps hB hs
  obtain ⟨F, G, h1, h2, h3, h4, h5, h6, h7, h8⟩ := h
  exact (arm_any w h1 calls hcw A n c keep hn hk hks (fun hne a ha hg => by have := hs.blk hne a ha; have := h4 _ hg; omega) torn).mono fun e w' he => Pair.of_dev he h2 h3 h4 h5 h6 h7 h8
theorem pair_arm_r (h : Pair B w0 w d Sa r Sb K) (hB : B ≤ w0.heap.size) (calls : Int) (hc0 : -9223372036854775808 ≤ calls) (hcw : calls ≤ 9223372036854775807) (A : Option Addr) (n c : Nat) (keep : List Int) (hn : n = keep.length) (hk : keep.length ≤ 100000) (hs : SeesI w0 B A keep) (torn : Int) :
    Calls Try.prog 26 #[.pointer (some ⟨r, 0, none⟩), .int .i64 calls, .slice A n c, .int .i64 torn] w (PairEnd B w0 d Sa r (Sb.arm calls keep torn) K w (.tuple #[])) := by
  have hks := h.keeps hB hs
  obtain ⟨F, G, h1, h2, h3, h4, h5, h6, h7, h8⟩ := h
  exact (ref_fuse w h2 calls hc0 hcw A n c keep hn hk hks torn).mono fun e w' he => Pair.of_ref he h1 h3 h4 h5 h6 h7 h8
end
/-- The two, made one after the other. -/
theorem pair_new {n : Nat} {w0 w w1 w2 : World} {d : Nat} {F : List Nat} (hd : DevM w1 F d (fresh n)) (hb : Below w.heap.size w w1) (hF : ∀ b, b ∈ F → w.heap.size ≤ b) {e : Ending} (he : RefNewEnd n w1 e w2) (hw : Below w.heap.size w0 w) :
    ∃ r, e = .returned (.pointer (some ⟨r, 0, none⟩)) ∧ Pair w.heap.size w0 w2 d (fresh n) r (fresh n) [] := by
  obtain ⟨r, G, e1, e2, e3, e4⟩ := he
  exact ⟨r, e1, F, G, hd.below e3, e2, fun b hb hG => by have := hd.lt b hb; have := e4 b hG; omega, hF, fun x hx => Nat.le_trans hb.size (e4 x hx), (hw.trans hb).trans (e3.mono hb.size), Nat.le_trans hb.size e3.size, fun q hq => by cases hq⟩
end Go.Proofs.Ytelcedbcegbbjaa
