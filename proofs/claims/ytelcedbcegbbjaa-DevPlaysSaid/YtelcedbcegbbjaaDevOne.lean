/- One device in a law's walk: what each call makes of it; blocks of the law's own stand beside it. -/
import Derived.Test.YtelcedbcegbbjaaDevWrite
import Derived.Test.YtelcedbcegbbjaaDevFlush
import Derived.Test.YtelcedbcegbbjaaDevArm
import Derived.Test.YtelcedbcegbbjaaDevSector
namespace Go.Proofs.Ytelcedbcegbbjaa
open Go.RowKit Dk
set_option linter.unusedVariables false

/-- All that has turned since w0 lies from block B on; the device at d is among it, and the blocks G are none of its own. -/
def DevB (B : Nat) (w0 : World) (G : List Nat) (w : World) (d : Nat) (S : Disk) : Prop := ∃ F, DevM w F d S ∧ (∀ b, b ∈ F → B ≤ b) ∧ Below B w0 w ∧ B ≤ w.heap.size ∧ Apart F G ∧ ∀ b, b ∈ G → B ≤ b ∧ b < w.heap.size
/-- The blocks G are as they were. -/
def Keeps (G : List Nat) (w w' : World) : Prop := ∀ b, b ∈ G → w'.heap[b]? = w.heap[b]?
theorem Keeps.cell {G : List Nat} {w w' : World} (h : Keeps G w w') {b : Nat} (hb : b ∈ G) (o : Nat) : w'.cell? ⟨b, o, none⟩ = w.cell? ⟨b, o, none⟩ := World.cell?_of_block (w := w) (a := ⟨b, o, none⟩) (h b hb)
theorem Keeps.frozen {G : List Nat} {w w' : World} (h : Keeps G w w') {b : Nat} (hb : b ∈ G) (o : Nat) : w'.frozen? ⟨b, o, none⟩ = w.frozen? ⟨b, o, none⟩ := World.frozen?_of_block (w := w) (a := ⟨b, o, none⟩) (h b hb)
theorem Keeps.refl (G : List Nat) (w : World) : Keeps G w w := fun _ _ => rfl
theorem Keeps.trans {G : List Nat} {a b c : World} (h : Keeps G a b) (k : Keeps G b c) : Keeps G a c := fun x hx => (k x hx).trans (h x hx)
theorem Keeps.less {G G' : List Nat} {a b : World} (h : Keeps G a b) (hs : ∀ x, x ∈ G' → x ∈ G) : Keeps G' a b := fun x hx => h x (hs x hx)
section
variable {B d : Nat} {w0 w w' : World} {S : Disk} {G : List Nat}
theorem DevB.bel (h : DevB B w0 G w d S) : Below B w0 w := by obtain ⟨F, h1, h2, h3, h4, h5, h6⟩ := h; exact h3
theorem DevB.size (h : DevB B w0 G w d S) : B ≤ w.heap.size := by obtain ⟨F, h1, h2, h3, h4, h5, h6⟩ := h; exact h4
theorem DevB.ok (h : DevB B w0 G w d S) : S.Ok := by obtain ⟨F, h1, h2, h3, h4, h5, h6⟩ := h; exact h1.ok
theorem DevB.glt (h : DevB B w0 G w d S) {b : Nat} (hb : b ∈ G) : B ≤ b ∧ b < w.heap.size := by obtain ⟨F, h1, h2, h3, h4, h5, h6⟩ := h; exact h6 b hb
theorem DevB.past (h : DevB B w0 G w d S) (hb : Below w.heap.size w w') : DevB B w0 G w' d S := by
  obtain ⟨F, h1, h2, h3, h4, h5, h6⟩ := h
  exact ⟨F, h1.below hb, h2, h3.trans (hb.mono h4), Nat.le_trans h4 hb.size, h5, fun b hb' => ⟨(h6 b hb').1, Nat.lt_of_lt_of_le (h6 b hb').2 hb.size⟩⟩
theorem DevB.keeps (h : DevB B w0 G w d S) (hb : Below w.heap.size w w') : Keeps G w w' := fun b hb' => hb.block b (h.glt hb').2
theorem DevB.drewN (h : DevB B w0 G w d S) (n : Nat) : DevB B w0 G (w.drewN n) d S := h.past (below_drewN (Below.refl _ _) n)
theorem DevB.less {G' : List Nat} (h : DevB B w0 G w d S) (hs : ∀ x, x ∈ G' → x ∈ G) : DevB B w0 G' w d S := by
  obtain ⟨F, h1, h2, h3, h4, h5, h6⟩ := h
  exact ⟨F, h1, h2, h3, h4, fun b hb hg => h5 b hb (hs b hg), fun b hb => h6 b (hs b hb)⟩
/-- New blocks are none of the device's. -/
theorem DevB.more (h : DevB B w0 G w d S) (hb : Below w.heap.size w w') (b : Nat) (h1 : w.heap.size ≤ b) (h2 : b < w'.heap.size) : DevB B w0 (b :: G) w' d S := by
  have hp := h.past hb
  obtain ⟨F, e1, e2, e3, e4, e5, e6⟩ := h
  obtain ⟨F', _, _, _, _, _, f6⟩ := hp
  refine ⟨F, e1.below hb, e2, e3.trans (hb.mono e4), Nat.le_trans e4 hb.size, fun x hx hg => ?_, fun x hx => ?_⟩
  · rcases List.mem_cons.1 hg with rfl | hg
    · have := e1.lt _ hx; omega
    · exact e5 x hx hg
  · rcases List.mem_cons.1 hx with rfl | hx
    · exact ⟨by omega, h2⟩
    · exact f6 x hx
theorem DevB.alloc (h : DevB B w0 G w d S) (o : Obj) : DevB B w0 (w.heap.size :: G) (w.alloc o) d S :=
  h.more ((Below.refl _ _).alloc (Nat.le_refl _) _) _ (Nat.le_refl _) (by simp)
/-- The law writes to a block of its own. -/
theorem DevB.put (h : DevB B w0 G w d S) {a : Addr} (ha : a.block ∈ G) (u : Value) : DevB B w0 G (w.setCell a u) d S := by
  obtain ⟨F, h1, h2, h3, h4, h5, h6⟩ := h
  exact ⟨F, h1.only (only_setCell w a u) (fun b hb hm => by rw [List.mem_singleton] at hm; subst hm; exact h5 _ hb ha), h2, h3.setCell (h6 _ ha).1 _, by simpa [World.setCell] using h4, h5, fun b hb => by simpa [World.setCell] using h6 b hb⟩
/-- What a call ends in. -/
def OneEnd (B : Nat) (w0 : World) (G : List Nat) (d : Nat) (S' : Disk) (v : Value) (w : World) (e : Ending) (w' : World) : Prop := e = .returned v ∧ DevB B w0 G w' d S' ∧ Keeps G w w'
theorem DevB.of_end {F : List Nat} {S' : Disk} {v : Value} {e : Ending} (he : DevEnd F d S' v w e w') (hF : ∀ b, b ∈ F → B ≤ b) (hb : Below B w0 w) (hB : B ≤ w.heap.size) (hA : Apart F G) (hG : ∀ b, b ∈ G → B ≤ b ∧ b < w.heap.size) : OneEnd B w0 G d S' v w e w' := by
  obtain ⟨h1, F', h2, h3, h4⟩ := he
  exact ⟨h1, ⟨F', h2, fun b hb => by
    rcases h4 b hb with h5 | h5
    · exact hF b h5
    · omega, hb.trans (h3.below hB hF), Nat.le_trans hB h3.size, hA.grows h4 (fun b hb => (hG b hb).2), fun b hb => ⟨(hG b hb).1, Nat.lt_of_lt_of_le (hG b hb).2 h3.size⟩⟩,
    fun b hb => h3.block b (hG b hb).2 (fun hf => hA b hf hb)⟩
theorem OneEnd.since {S' : Disk} {v : Value} {e : Ending} {w1 : World} (h : OneEnd B w0 G d S' v w1 e w') (hk : Keeps G w w1) : OneEnd B w0 G d S' v w e w' := ⟨h.1, h.2.1, hk.trans h.2.2⟩

theorem one_new (n : Nat) (h1 : 1 ≤ n) (h2 : n ≤ 8192) (hb : Below B w0 w) (hB : B ≤ w.heap.size) : Calls Try.prog 9 #[.int .i64 (n : Int)] w fun e w' => ∃ d, e = .returned (.tuple #[.pointer (some ⟨d, 0, none⟩), .int .i64 0]) ∧ DevB B w0 [] w' d (fresh n) :=
  (new_any n h1 h2 w).mono fun e w' ⟨d, F, h1, h2, h3, h4⟩ => ⟨d, h1, F, h2, fun b hb => by have := h4 b hb; omega, hb.trans (h3.mono hB), Nat.le_trans hB h3.size, (fun b _ hg => by cases hg), (fun b hg => by cases hg)⟩
theorem one_on (h : DevB B w0 G w d S) : Calls Try.prog 16 #[.pointer (some ⟨d, 0, none⟩)] w (OneEnd B w0 G d S.on (.tuple #[]) w) := by
  obtain ⟨F, h1, h2, h3, h4, h5, h6⟩ := h
  exact (on_any w h1).mono fun e w' he => DevB.of_end he h2 h3 h4 h5 h6
theorem one_off (h : DevB B w0 G w d S) : Calls Try.prog 15 #[.pointer (some ⟨d, 0, none⟩)] w fun e w' => e = .returned (.bool S.off) ∧ w = w' := by
  obtain ⟨F, h1, h2, h3, h4, h5, h6⟩ := h
  exact off_any w h1
theorem one_unsafe (h : DevB B w0 G w d S) : Calls Try.prog 13 #[.pointer (some ⟨d, 0, none⟩)] w fun e w' => e = .returned (.int .i64 (S.cache.length : Int)) ∧ w = w' := by
  obtain ⟨F, h1, h2, h3, h4, h5, h6⟩ := h
  exact unsafe_any w h1
theorem one_sectors (h : DevB B w0 G w d S) : Calls Try.prog 19 #[.pointer (some ⟨d, 0, none⟩)] w fun e w' => e = .returned (.int .i64 (S.dur.length : Int)) ∧ w = w' := by
  obtain ⟨F, h1, h2, h3, h4, h5, h6⟩ := h
  exact sectors_any w h1
theorem one_flush (h : DevB B w0 G w d S) (hcl : S.cache.length ≤ 1000) : Calls Try.prog 18 #[.pointer (some ⟨d, 0, none⟩)] w (OneEnd B w0 G d S.flush (.int .i64 S.flushE) w) := by
  obtain ⟨F, h1, h2, h3, h4, h5, h6⟩ := h
  exact (flush_any w h1 (by omega)).mono fun e w' he => DevB.of_end he h2 h3 h4 h5 h6
theorem one_crash (h : DevB B w0 G w d S) (hcl : S.cache.length ≤ 1000) (A : Option Addr) (n c : Nat) (keep : List Int) (hn : n = keep.length) (hnc : n ≤ c) (hcm : c ≤ maxLen) (hk : SeesI w w.heap.size A keep) (torn : Int) :
    Calls Try.prog 14 #[.pointer (some ⟨d, 0, none⟩), .slice A n c, .int .i64 torn] w (OneEnd B w0 G d (S.crash keep torn) (.tuple #[]) w) := by
  obtain ⟨F, h1, h2, h3, h4, h5, h6⟩ := h
  exact (crash_any w h1 (by omega) A n c keep hn hnc hcm hk torn).mono fun e w' he => DevB.of_end he h2 h3 h4 h5 h6
/-- Fuse, its list below B. -/
theorem one_arm (h : DevB B w0 G w d S) (calls : Int) (hcw : calls ≤ 9223372036854775807) (A : Option Addr) (n c : Nat) (keep : List Int) (hn : n = keep.length) (hk : keep.length ≤ 100000) (hs : SeesI w w.heap.size A keep) (hA : keep ≠ [] → ∀ a, A = some a → a.block < B) (torn : Int) :
    Calls Try.prog 17 #[.pointer (some ⟨d, 0, none⟩), .int .i64 calls, .slice A n c, .int .i64 torn] w (OneEnd B w0 G d (S.arm calls keep torn) (.tuple #[]) w) := by
  obtain ⟨F, h1, h2, h3, h4, h5, h6⟩ := h
  exact (arm_any w h1 calls hcw A n c keep hn hk hs (fun hne a ha hF => by have := hA hne a ha; have := h2 _ hF; omega) torn).mono fun e w' he => DevB.of_end he h2 h3 h4 h5 h6
theorem one_read (h : DevB B w0 G w d S) (at_ : Int) : Calls Try.prog 12 #[.pointer (some ⟨d, 0, none⟩), .int .i64 at_] w (ReadEnd S at_ w) := by
  obtain ⟨F, h1, h2, h3, h4, h5, h6⟩ := h
  exact read_any at_ w h1
/-- A Write of bytes that lie in a block behind the device's. -/
theorem one_write {w1 : World} (h : DevB B w0 G w d S) (hb : Below w.heap.size w w1) (hcl : S.cache.length ≤ 1000) (at_ : Int) (N n c : Nat) (l : List UInt8) (hn : n = l.length) (hnc : n ≤ c) (hcm : c ≤ maxLen) (hs : Sees w1 w1.heap.size (some ⟨N, 0, none⟩) l) (hN : w.heap.size ≤ N) :
    Calls Try.prog 10 #[.pointer (some ⟨d, 0, none⟩), .int .i64 at_, .slice (some ⟨N, 0, none⟩) n c] w1 (OneEnd B w0 G d (S.write at_ ⟨l.toArray⟩) (.int .i64 (S.writeE at_ l.length)) w1) := by
  obtain ⟨F, h1, h2, h3, h4, h5, h6⟩ := h
  exact (write_any w1 (h1.below hb) hcl at_ _ n c l hn hnc hcm hs (fun a ha hF => by injection ha with ha; subst ha; have := h1.lt _ hF; simp at this; omega)).mono fun e w' he => DevB.of_end he h2 (h3.trans (hb.mono h4)) (Nat.le_trans h4 hb.size) h5 (fun b hb' => ⟨(h6 b hb').1, Nat.lt_of_lt_of_le (h6 b hb').2 hb.size⟩)
/-- A Write of nil. -/
theorem one_writeNil (h : DevB B w0 G w d S) (hcl : S.cache.length ≤ 1000) (at_ : Int) :
    Calls Try.prog 10 #[.pointer (some ⟨d, 0, none⟩), .int .i64 at_, .slice none 0 0] w (OneEnd B w0 G d (S.write at_ ⟨#[]⟩) (.int .i64 (S.writeE at_ 0)) w) := by
  obtain ⟨F, h1, h2, h3, h4, h5, h6⟩ := h
  exact (write_any w h1 hcl at_ none 0 0 [] rfl (Nat.le_refl _) (Nat.zero_le _) (Sees.nil _ _ _) (fun a ha => by cases ha)).mono fun e w' he => DevB.of_end he h2 h3 h4 h5 h6
/-- d.Write(at, sector(c)). -/
theorem one_writeSec {w1 : World} {e1 : Ending} {c : UInt8} (h : DevB B w0 G w d S) (hs : SectorEnd c w e1 w1) (hcl : S.cache.length ≤ 1000) (at_ : Int) :
    Calls Try.prog 10 #[.pointer (some ⟨d, 0, none⟩), .int .i64 at_, .slice (some ⟨w.heap.size, 0, none⟩) 512 512] w1 (OneEnd B w0 G d (S.write at_ (secB c)) (.int .i64 (S.writeE at_ 512)) w) := by
  obtain ⟨_, s1, s2, s3⟩ := hs
  have := one_write h s3 hcl at_ w.heap.size 512 512 (secOf c) (secOf_length c).symm (Nat.le_refl _) (by decide) (s1.mono s2) (Nat.le_refl _)
  rw [secOf_length] at this
  exact this.mono fun e w' he => he.since (h.keeps s3)
end

/-- With power, without a fuse. -/
structure Dk.Disk.Plain (S : Disk) : Prop where
  on : S.off = false
  free : S.calls = 0
theorem Dk.Disk.Plain.write {S : Disk} (h : S.Plain) (i : Nat) (b : ByteArray) (hi : i < S.dur.length) (hb : b.size = 512) : S.write (i : Int) b = { S with cache := S.cache ++ [(i, b)] } := by
  obtain ⟨dur, cache, off, calls, keep, torn⟩ := S
  obtain rfl : off = false := h.on
  obtain rfl : calls = 0 := h.free
  have hi' : i < dur.length := hi
  simp [Disk.write, Disk.takes, Disk.blows, Disk.blow, hb, hi']
theorem Dk.Disk.Plain.writeE {S : Disk} (h : S.Plain) (i : Nat) (hi : i < S.dur.length) : S.writeE (i : Int) 512 = 0 := by
  unfold Disk.writeE Disk.takes Disk.blows
  have e1 : decide ((0 : Int) ≤ (i : Int)) = true := by simp
  have e2 : decide ((i : Int) < (S.dur.length : Int)) = true := by simp; exact hi
  rw [h.on, h.free, e1, e2]
  rfl
theorem Dk.Disk.Plain.flush {S : Disk} (h : S.Plain) : S.flush = { S with dur := S.last, cache := [] } := by
  obtain ⟨dur, cache, off, calls, keep, torn⟩ := S
  obtain rfl : off = false := h.on
  obtain rfl : calls = 0 := h.free
  simp [Disk.flush, Disk.blows, Disk.blow]
theorem Dk.Disk.Plain.flushE {S : Disk} (h : S.Plain) : S.flushE = 0 := by
  unfold Disk.flushE Disk.blows
  rw [h.on, h.free]
  rfl
theorem Dk.Disk.Plain.readE {S : Disk} (h : S.Plain) (i : Nat) (hi : i < S.dur.length) : S.readE (i : Int) = 0 := by
  unfold Disk.readE Disk.has
  have e1 : decide ((0 : Int) ≤ (i : Int)) = true := by simp
  have e2 : decide ((i : Int) < (S.dur.length : Int)) = true := by simp; exact hi
  rw [h.on, e1, e2]
  rfl
theorem Dk.Disk.Plain.readV {S : Disk} (h : S.Plain) (i : Nat) (hi : i < S.last.length) : S.readV (i : Int) = S.last[i].data.toList := by
  unfold Disk.readV Disk.has
  have e1 : decide ((0 : Int) ≤ (i : Int)) = true := by simp
  have hl : S.last.length = S.dur.length := putAll_length _ _
  have e2 : decide ((i : Int) < (S.dur.length : Int)) = true := by simp; omega
  rw [h.on, e1, e2]
  simp [List.getD, List.getElem?_eq_getElem hi]
end Go.Proofs.Ytelcedbcegbbjaa
