/- DevPlays: what is known while the operations of its drawn regions come up. -/
import Derived.Test.YtelcedbcegbbjaaDevPl21
import Derived.Test.YtelcedbcegbbjaaDevPl19
import Derived.Test.YtelcedbcegbbjaaDevPl37
namespace Go.Proofs.Ytelcedbcegbbjaa
open Go.RowKit Dk
set_option linter.unusedVariables false

section
variable {B d r : Nat} {w0 w w' : World} {Sa Sb : Disk} {K : List Nat}
theorem Pair.lt (h : Pair B w0 w d Sa r Sb K) {b : Nat} (hb : b ∈ K) : b < w.heap.size := by obtain ⟨F, G, h1, h2, h3, h4, h5, h6, h7, h8⟩ := h; exact (h8 b hb).2.2
theorem Pair.stays (h : Pair B w0 w d Sa r Sb K) (hb : Below w.heap.size w w') : Keeps K w w' := fun b hk => hb.block b (h.lt hk)
theorem Pair.less (h : Pair B w0 w d Sa r Sb K) {K' : List Nat} (hs : ∀ x, x ∈ K' → x ∈ K) : Pair B w0 w d Sa r Sb K' := h.past (Below.refl _ _) K' (fun b hb => .inl (hs b hb))
theorem pair_writeSec_d {w1 : World} {e1 : Ending} {c : UInt8} (h : Pair B w0 w d Sa r Sb K) (hs : SectorEnd c w e1 w1) (hcl : Sa.cache.length ≤ 1000) (at_ : Int) :
    Calls Try.prog 10 #[.pointer (some ⟨d, 0, none⟩), .int .i64 at_, .slice (some ⟨w.heap.size, 0, none⟩) 512 512] w1 (PairEnd B w0 d (Sa.write at_ (secB c)) r Sb K w (.int .i64 (Sa.writeE at_ 512))) := by
  obtain ⟨_, s1, s2, s3⟩ := hs
  have hp := h.past s3 (w.heap.size :: K) (fun b hb => (List.mem_cons.1 hb).elim (fun e => .inr ⟨by omega, by omega⟩) .inl)
  have := pair_write_d hp hcl at_ (l := secOf c) (A := some ⟨w.heap.size, 0, none⟩) (s1.mono s2) (fun a ha => by injection ha with ha; subst ha; simp) 512 512 (secOf_length c).symm (Nat.le_refl _) (by decide)
  rw [secOf_length] at this
  exact this.mono fun e w' ⟨e1, e2, e3⟩ => ⟨e1, e2.less (fun b hb => List.mem_cons_of_mem _ hb), (h.stays s3).trans (e3.less (fun b hb => List.mem_cons_of_mem _ hb))⟩
theorem pair_writeSec_r {w1 : World} {e1 : Ending} {c : UInt8} (h : Pair B w0 w d Sa r Sb K) (hs : SectorEnd c w e1 w1) (hd : 0 < Sb.dur.length) (hcl : Sb.cache.length ≤ 1000) (at_ : Int) :
    Calls Try.prog 21 #[.pointer (some ⟨r, 0, none⟩), .int .i64 at_, .slice (some ⟨w.heap.size, 0, none⟩) 512 512] w1 (PairEnd B w0 d Sa r (Sb.write at_ (secB c)) K w (.int .i64 (Sb.writeE at_ 512))) := by
  obtain ⟨_, s1, s2, s3⟩ := hs
  have hp := h.past s3 (w.heap.size :: K) (fun b hb => (List.mem_cons.1 hb).elim (fun e => .inr ⟨by omega, by omega⟩) .inl)
  have := pair_write_r hp hd hcl at_ (l := secOf c) (A := some ⟨w.heap.size, 0, none⟩) (s1.mono s2) (fun a ha => by injection ha with ha; subst ha; simp) 512 512 (secOf_length c).symm (Nat.le_refl _) (by decide)
  rw [secOf_length] at this
  exact this.mono fun e w' ⟨e1, e2, e3⟩ => ⟨e1, e2.less (fun b hb => List.mem_cons_of_mem _ hb), (h.stays s3).trans (e3.less (fun b hb => List.mem_cons_of_mem _ hb))⟩
end

/-- Region 21: a sector made, written to the device; another one made, written to the reference's. -/
def P21 (B : Nat) (w0 wr : World) (d r : Nat) (S : Disk) (K : List Nat) (at_ : Int) (x : UInt8) (p : Nat) (R : Nat → Value) (w : World) : Prop :=
  match p with
  | 0 => Below wr.heap.size wr w
  | 1 => ∃ w1, Below wr.heap.size wr w1 ∧ R 0 = .slice (some ⟨w1.heap.size, 0, none⟩) 512 512 ∧ SectorEnd x w1 (.returned (R 0)) w
  | 2 => (Pair B w0 w d (S.write at_ (secB x)) r S K ∧ Keeps K wr w) ∧ R 1 = .int .i64 (S.writeE at_ 512)
  | 3 => (∃ w3, (Pair B w0 w3 d (S.write at_ (secB x)) r S K ∧ Keeps K wr w3) ∧ R 2 = .slice (some ⟨w3.heap.size, 0, none⟩) 512 512 ∧ SectorEnd x w3 (.returned (R 2)) w) ∧ R 1 = .int .i64 (S.writeE at_ 512)
  | _ => (Pair B w0 w d (S.write at_ (secB x)) r (S.write at_ (secB x)) K ∧ Keeps K wr w) ∧ R 1 = .int .i64 (S.writeE at_ 512) ∧ R 3 = .int .i64 (S.writeE at_ 512)
section
variable {B d r : Nat} {w0 wr : World} {S : Disk} {K : List Nat} {at_ : Int} {x : UInt8}
theorem P21.keeps (h : Pair B w0 wr d S r S K) (p : Nat) (R : Nat → Value) (w : World) (hs : P21 B w0 wr d r S K at_ x p R w) : Keeps K wr w := by
  match p, hs with
  | 0, hs => exact h.stays hs
  | 1, hs =>
    obtain ⟨w1, h1, _, h2⟩ := hs
    exact (h.stays h1).trans ((h.past h1 K (fun b hb => .inl hb)).stays h2.2.2.2)
  | 2, hs => exact hs.1.2
  | 3, hs =>
    obtain ⟨⟨w3, h1, _, h2⟩, _⟩ := hs
    exact h1.2.trans (h1.1.stays h2.2.2.2)
  | p + 4, hs => exact hs.1.2
theorem P21.one (R : Nat → Value) (w : World) (hs : P21 B w0 wr d r S K at_ x 0 R w) :
    Calls Try.prog 11 #[.int .u8 (x.toNat : Int)] w fun e w' => ∃ v, e = .returned v ∧ P21 B w0 wr d r S K at_ x 1 (setR R 0 v) w' := by
  refine (sector_any x w).mono ?_
  rintro e w' he
  obtain ⟨h1, h2, h3, h4⟩ := he
  exact ⟨_, h1, w, hs, rfl, rfl, h2, h3, h4⟩
theorem P21.two (h : Pair B w0 wr d S r S K) (hc : S.cache.length ≤ 1000) (R : Nat → Value) (w : World) (hs : P21 B w0 wr d r S K at_ x 1 R w) :
    ∃ A2, R 0 = .slice A2 512 512 ∧ Calls Try.prog 10 #[.pointer (some ⟨d, 0, none⟩), .int .i64 at_, .slice A2 512 512] w fun e w' => ∃ v, e = .returned v ∧ P21 B w0 wr d r S K at_ x 2 (setR R 1 v) w' := by
  obtain ⟨w1, h1, h2, h3⟩ := hs
  refine ⟨_, h2, (pair_writeSec_d (h.past h1 K (fun b hb => .inl hb)) h3 hc at_).mono ?_⟩
  rintro e w' ⟨rfl, h4, h5⟩
  exact ⟨_, rfl, ⟨h4, (h.stays h1).trans h5⟩, rfl⟩
theorem P21.three (R : Nat → Value) (w : World) (hs : P21 B w0 wr d r S K at_ x 2 R w) :
    Calls Try.prog 11 #[.int .u8 (x.toNat : Int)] w fun e w' => ∃ v, e = .returned v ∧ P21 B w0 wr d r S K at_ x 3 (setR R 2 v) w' := by
  obtain ⟨hd, hr⟩ := hs
  refine (sector_any x w).mono ?_
  rintro e w' he
  obtain ⟨h1, h2, h3, h4⟩ := he
  exact ⟨_, h1, ⟨w, hd, rfl, rfl, h2, h3, h4⟩, hr⟩
theorem P21.four (hd : 0 < S.dur.length) (hc : S.cache.length ≤ 1000) (R : Nat → Value) (w : World) (hs : P21 B w0 wr d r S K at_ x 3 R w) :
    ∃ A2, R 2 = .slice A2 512 512 ∧ Calls Try.prog 21 #[.pointer (some ⟨r, 0, none⟩), .int .i64 at_, .slice A2 512 512] w fun e w' => ∃ v, e = .returned v ∧ P21 B w0 wr d r S K at_ x 4 (setR R 3 v) w' := by
  obtain ⟨⟨w3, h1, h2, h3⟩, hr⟩ := hs
  refine ⟨_, h2, (pair_writeSec_r h1.1 h3 hd hc at_).mono ?_⟩
  rintro e w' ⟨rfl, h4, h5⟩
  exact ⟨_, rfl, ⟨h4, h1.2.trans h5⟩, hr, rfl⟩
theorem P21.res (p : Nat) (R : Nat → Value) (w : World) (hs : P21 B w0 wr d r S K at_ x p R w) (hp : 3 < p) : R 1 = .int .i64 (S.writeE at_ 512) ∧ R 3 = .int .i64 (S.writeE at_ 512) := by
  obtain ⟨q, rfl⟩ : ∃ q, p = q + 4 := ⟨p - 4, by omega⟩
  exact hs.2
end

/-- Region 37: the world stays as it is. -/
def P37 (wr : World) (off : Bool) (u n : Nat) (p : Nat) (R : Nat → Value) (w : World) : Prop :=
  Below wr.heap.size wr w ∧ (0 < p → R 0 = .bool off) ∧ (1 < p → R 1 = .int .i64 (u : Int)) ∧ (2 < p → R 2 = .int .i64 (u : Int)) ∧ (3 < p → R 3 = .int .i64 (n : Int))
section
variable {B d r : Nat} {w0 wr : World} {S : Disk} {K : List Nat}
theorem P37.one (h : Pair B w0 wr d S r S K) {u n : Nat} (R : Nat → Value) (w : World) (hs : P37 wr S.off u n 0 R w) :
    Calls Try.prog 15 #[.pointer (some ⟨d, 0, none⟩)] w fun e w' => ∃ v, e = .returned v ∧ P37 wr S.off u n 1 (setR R 0 v) w' := by
  refine (pair_off_d (h.past hs.1 K (fun b hb => .inl hb))).mono ?_
  rintro e w' ⟨rfl, rfl⟩
  exact ⟨_, rfl, hs.1, fun _ => rfl, fun h => absurd h (by omega), fun h => absurd h (by omega), fun h => absurd h (by omega)⟩
theorem P37.two (h : Pair B w0 wr d S r S K) {n : Nat} (R : Nat → Value) (w : World) (hs : P37 wr S.off S.cache.length n 1 R w) :
    Calls Try.prog 13 #[.pointer (some ⟨d, 0, none⟩)] w fun e w' => ∃ v, e = .returned v ∧ P37 wr S.off S.cache.length n 2 (setR R 1 v) w' := by
  refine (pair_unsafe_d (h.past hs.1 K (fun b hb => .inl hb))).mono ?_
  rintro e w' ⟨rfl, rfl⟩
  exact ⟨_, rfl, hs.1, fun _ => hs.2.1 (by omega), fun _ => rfl, fun h => absurd h (by omega), fun h => absurd h (by omega)⟩
theorem P37.three (h : Pair B w0 wr d S r S K) {n : Nat} (R : Nat → Value) (w : World) (hs : P37 wr S.off S.cache.length n 2 R w) :
    Calls Try.prog 27 #[.pointer (some ⟨r, 0, none⟩)] w fun e w' => ∃ v, e = .returned v ∧ P37 wr S.off S.cache.length n 3 (setR R 2 v) w' := by
  refine (pair_unsafe_r (h.past hs.1 K (fun b hb => .inl hb))).mono ?_
  rintro e w' ⟨rfl, rfl⟩
  exact ⟨_, rfl, hs.1, fun _ => hs.2.1 (by omega), fun _ => hs.2.2.1 (by omega), fun _ => rfl, fun h => absurd h (by omega)⟩
theorem P37.four (h : Pair B w0 wr d S r S K) {u : Nat} (R : Nat → Value) (w : World) (hs : P37 wr S.off u S.dur.length 3 R w) :
    Calls Try.prog 19 #[.pointer (some ⟨d, 0, none⟩)] w fun e w' => ∃ v, e = .returned v ∧ P37 wr S.off u S.dur.length 4 (setR R 3 v) w' := by
  refine (pair_sectors_d (h.past hs.1 K (fun b hb => .inl hb))).mono ?_
  rintro e w' ⟨rfl, rfl⟩
  exact ⟨_, rfl, hs.1, fun _ => hs.2.1 (by omega), fun _ => hs.2.2.1 (by omega), fun _ => hs.2.2.2.1 (by omega), fun _ => rfl⟩
theorem P37.off (h : Pair B w0 wr d S r S K) {u n p : Nat} {R : Nat → Value} {w : World} (hs : P37 wr S.off u n p R w) : w.cell? ⟨r, 1, none⟩ = some (.bool S.off) := pair_off_r (h.past hs.1 K (fun b hb => .inl hb))
end
end Go.Proofs.Ytelcedbcegbbjaa
