/- DevPlays: what is known while the operations of region 19 come up: a row of zeros made, written to the device; another one made, written to the reference's. -/
import Derived.Test.YtelcedbcegbbjaaDevPlS
namespace Go.Proofs.Ytelcedbcegbbjaa
open Go.RowKit Dk
set_option linter.unusedVariables false

theorem make_zeros (w : World) (k : Nat) (hk : k ≤ 600) : ∃ w', (Instr.makeSlice 28 (.int .i64 (k : Int)) (.int .i64 (k : Int))).run Try.prog w = .ok (.slice (some ⟨w.heap.size, 0, none⟩) k k) w' ∧
    Below w.heap.size w w' ∧ w.heap.size < w'.heap.size ∧ Sees w' w'.heap.size (some ⟨w.heap.size, 0, none⟩) (List.replicate k 0) := by
  obtain ⟨i0, hi, hz0, hz1, hz2⟩ := info_parts Try.infoByte
  obtain ⟨w2, hmk, hown2, hg2⟩ := run_make_full (P := Try.prog) (w := w) 0 28 5 i0 _ 1 Try.underlying28 hi hz0 hz1 .i64 .i64 k (by rw [hz2]; omega) (by unfold maxLen; omega) (Nat.zero_le _)
  rw [show (Value.int .u8 0).cells = #[Value.int .u8 0] from rfl] at hown2
  rw [toList_madeCells_one, Nat.mul_one] at hown2
  have hl : (List.replicate k (0 : UInt8)).length = k := List.length_replicate
  have hbv : bv (List.replicate k (0 : UInt8)) = List.replicate k (.int .u8 0) := List.map_replicate ..
  refine ⟨w2, hmk, (Below.refl _ _).grown hg2 (Nat.le_refl _) (fun q hq => by cases hq), (hown2.lt w.heap.size rfl).2, ?_⟩
  refine Sees.of_own (c := k) (base := 0) (e := 5) ?_
  rw [hl, hbv]; exact hown2

def kept19 (S S' : Disk) : Bool → Disk
  | false => S
  | true => S'
def P19 (B : Nat) (w0 wr : World) (d r : Nat) (S : Disk) (K0 : List Nat) (k : Nat) (f : Nat → Bool) (R : Nat → Value) (w : World) : Prop :=
  ∃ K, (∀ b, b ∈ K0 → b ∈ K) ∧ Keeps K0 wr w ∧ Pair B w0 w d (kept19 S (S.write 0 ⟨(List.replicate k (0 : UInt8)).toArray⟩) (f 1)) r (kept19 S (S.write 0 ⟨(List.replicate k (0 : UInt8)).toArray⟩) (f 3)) K ∧
    (f 0 = true → f 1 = false → ∃ b, R 0 = .slice (some ⟨b, 0, none⟩) k k ∧ b ∈ K ∧ Sees w w.heap.size (some ⟨b, 0, none⟩) (List.replicate k 0)) ∧
    (f 2 = true → f 3 = false → ∃ b, R 2 = .slice (some ⟨b, 0, none⟩) k k ∧ b ∈ K ∧ Sees w w.heap.size (some ⟨b, 0, none⟩) (List.replicate k 0)) ∧
    (f 1 = true → R 1 = .int .i64 (S.writeE 0 k)) ∧ (f 3 = true → R 3 = .int .i64 (S.writeE 0 k))
theorem Sees.stays {w w' : World} {B b : Nat} {l : List UInt8} {K : List Nat} (h : Sees w B (some ⟨b, 0, none⟩) l) (hk : Keeps K w w') (hb : b ∈ K) (hlt : b < w'.heap.size) : Sees w' w'.heap.size (some ⟨b, 0, none⟩) l := fun hne => by
  obtain ⟨g, o, e, hg, hcell⟩ := h hne
  injection e with e
  injection e with e1 e2 e3
  subst e1; subst e2
  exact ⟨b, 0, rfl, hlt, fun j hj => (hk.cell hb (0 + j)).trans (hcell j hj)⟩
section
variable {B d r k : Nat} {w0 wr w : World} {S : Disk} {K0 : List Nat} {f : Nat → Bool} {R : Nat → Value}
theorem P19.keeps (h : P19 B w0 wr d r S K0 k f R w) : Keeps K0 wr w := by obtain ⟨K, h1, h2, _⟩ := h; exact h2
theorem P19.start (h : Pair B w0 wr d S r S K0) : P19 B w0 wr d r S K0 k (fun _ => false) R wr.drew :=
  ⟨K0, fun _ hb => hb, h.stays (Below.refl _ _).drew, h.past (Below.refl _ _).drew K0 (fun b hb => .inl hb), fun h => absurd h (by simp), fun h => absurd h (by simp), fun h => absurd h (by simp), fun h => absurd h (by simp)⟩
theorem P19.m0 (hk : k ≤ 600) (h : P19 B w0 wr d r S K0 k f R w) (f1 : f 1 = false) :
    ∃ w', (Instr.makeSlice 28 (.int .i64 (k : Int)) (.int .i64 (k : Int))).run Try.prog w = .ok (.slice (some ⟨w.heap.size, 0, none⟩) k k) w' ∧ P19 B w0 wr d r S K0 k (setF f 0) (setR R 0 (.slice (some ⟨w.heap.size, 0, none⟩) k k)) w' := by
  obtain ⟨K, k1, k2, k3, k4, k5, k6, k7⟩ := h
  obtain ⟨w', hr, hb, hlt, hs⟩ := make_zeros w k hk
  refine ⟨w', hr, w.heap.size :: K, fun b hb => List.mem_cons_of_mem _ (k1 b hb), k2.trans ((k3.less k1).stays hb), ?_, fun _ _ => ⟨w.heap.size, setR_self .., by simp, hs⟩, fun c c' => ?_, fun c => ?_, fun c => ?_⟩
  · rw [setF_ne _ (by decide), setF_ne _ (by decide)]
    exact k3.past hb _ (fun b hb => (List.mem_cons.1 hb).elim (fun e => .inr ⟨by omega, by omega⟩) .inl)
  · rw [setF_ne _ (by decide)] at c c'
    obtain ⟨b, e1, e2, e3⟩ := k5 c c'
    exact ⟨b, by rw [setR_ne _ _ (by decide)]; exact e1, List.mem_cons_of_mem _ e2, e3.stays (k3.stays hb) e2 (Nat.lt_trans (k3.lt e2) hlt)⟩
  · rw [setF_ne _ (by decide), f1] at c; cases c
  · rw [setF_ne _ (by decide)] at c
    rw [setR_ne _ _ (by decide)]; exact k7 c
theorem P19.m2 (hk : k ≤ 600) (h : P19 B w0 wr d r S K0 k f R w) (f3 : f 3 = false) :
    ∃ w', (Instr.makeSlice 28 (.int .i64 (k : Int)) (.int .i64 (k : Int))).run Try.prog w = .ok (.slice (some ⟨w.heap.size, 0, none⟩) k k) w' ∧ P19 B w0 wr d r S K0 k (setF f 2) (setR R 2 (.slice (some ⟨w.heap.size, 0, none⟩) k k)) w' := by
  obtain ⟨K, k1, k2, k3, k4, k5, k6, k7⟩ := h
  obtain ⟨w', hr, hb, hlt, hs⟩ := make_zeros w k hk
  refine ⟨w', hr, w.heap.size :: K, fun b hb => List.mem_cons_of_mem _ (k1 b hb), k2.trans ((k3.less k1).stays hb), ?_, fun c c' => ?_, fun _ _ => ⟨w.heap.size, setR_self .., by simp, hs⟩, fun c => ?_, fun c => ?_⟩
  · rw [setF_ne _ (by decide), setF_ne _ (by decide)]
    exact k3.past hb _ (fun b hb => (List.mem_cons.1 hb).elim (fun e => .inr ⟨by omega, by omega⟩) .inl)
  · rw [setF_ne _ (by decide)] at c c'
    obtain ⟨b, e1, e2, e3⟩ := k4 c c'
    exact ⟨b, by rw [setR_ne _ _ (by decide)]; exact e1, List.mem_cons_of_mem _ e2, e3.stays (k3.stays hb) e2 (Nat.lt_trans (k3.lt e2) hlt)⟩
  · rw [setF_ne _ (by decide)] at c
    rw [setR_ne _ _ (by decide)]; exact k6 c
  · rw [setF_ne _ (by decide), f3] at c; cases c
theorem P19.w1 (hc : S.cache.length ≤ 1000) (hk : k ≤ 600) (h : P19 B w0 wr d r S K0 k f R w) (f0 : f 0 = true) (f1 : f 1 = false) (f3 : f 3 = false) :
    ∃ A2, R 0 = .slice A2 k k ∧ Calls Try.prog 10 #[.pointer (some ⟨d, 0, none⟩), .int .i64 0, .slice A2 k k] w fun e w' => ∃ v, e = .returned v ∧ P19 B w0 wr d r S K0 k (setF f 1) (setR R 1 v) w' := by
  obtain ⟨K, k1, k2, k3, k4, k5, k6, k7⟩ := h
  obtain ⟨b, e1, e2, e3⟩ := k4 f0 f1
  rw [f1] at k3
  have hw := pair_write_d k3 hc 0 e3 (fun a ha => by injection ha with ha; subst ha; exact e2) k k (by simp) (Nat.le_refl _) (by unfold maxLen; omega)
  rw [List.length_replicate] at hw
  refine ⟨_, e1, hw.mono ?_⟩
  rintro e w' ⟨rfl, h4, h5⟩
  refine ⟨_, rfl, K, k1, k2.trans (h5.less k1), ?_, fun c c' => ?_, fun c c' => ?_, fun c => setR_self .., fun c => ?_⟩
  · rw [setF_self, setF_ne _ (by decide)]; exact h4
  · rw [setF_self] at c'; cases c'
  · rw [setF_ne _ (by decide)] at c c'
    obtain ⟨b2, g1, g2, g3⟩ := k5 c c'
    exact ⟨b2, by rw [setR_ne _ _ (by decide)]; exact g1, g2, g3.stays h5 g2 (h4.lt g2)⟩
  · rw [setF_ne _ (by decide), f3] at c; cases c
theorem P19.w3 (hd : 0 < S.dur.length) (hc : S.cache.length ≤ 1000) (hk : k ≤ 600) (h : P19 B w0 wr d r S K0 k f R w) (f1 : f 1 = true) (f2 : f 2 = true) (f3 : f 3 = false) :
    ∃ A2, R 2 = .slice A2 k k ∧ Calls Try.prog 21 #[.pointer (some ⟨r, 0, none⟩), .int .i64 0, .slice A2 k k] w fun e w' => ∃ v, e = .returned v ∧ P19 B w0 wr d r S K0 k (setF f 3) (setR R 3 v) w' := by
  obtain ⟨K, k1, k2, k3, k4, k5, k6, k7⟩ := h
  obtain ⟨b, e1, e2, e3⟩ := k5 f2 f3
  rw [f3] at k3
  have hw := pair_write_r k3 hd hc 0 e3 (fun a ha => by injection ha with ha; subst ha; exact e2) k k (by simp) (Nat.le_refl _) (by unfold maxLen; omega)
  rw [List.length_replicate] at hw
  refine ⟨_, e1, hw.mono ?_⟩
  rintro e w' ⟨rfl, h4, h5⟩
  refine ⟨_, rfl, K, k1, k2.trans (h5.less k1), ?_, fun c c' => ?_, fun c c' => ?_, fun c => ?_, fun c => setR_self ..⟩
  · rw [setF_self, setF_ne _ (by decide)]; exact h4
  · rw [setF_ne _ (by decide), f1] at c'; cases c'
  · rw [setF_self] at c'; cases c'
  · rw [setR_ne _ _ (by decide)]; exact k6 f1
theorem P19.res (h : P19 B w0 wr d r S K0 k f R w) (f1 : f 1 = true) (f3 : f 3 = true) : R 1 = .int .i64 (S.writeE 0 k) ∧ R 3 = .int .i64 (S.writeE 0 k) := by
  obtain ⟨K, k1, k2, k3, k4, k5, k6, k7⟩ := h
  exact ⟨k6 f1, k7 f3⟩
theorem P19.last (h : P19 B w0 wr d r S K0 k f R w) (f1 : f 1 = true) (f3 : f 3 = true) : Pair B w0 w d (S.write 0 ⟨(List.replicate k (0 : UInt8)).toArray⟩) r (S.write 0 ⟨(List.replicate k (0 : UInt8)).toArray⟩) K0 := by
  obtain ⟨K, k1, k2, k3, k4, k5, k6, k7⟩ := h
  rw [f1, f3] at k3
  exact k3.less k1
end
end Go.Proofs.Ytelcedbcegbbjaa
