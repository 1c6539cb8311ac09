/- Two devices in a law's walk: what each call on one of them makes of both. -/
import Derived.Test.YtnbcdidenmakiaaDevSt
namespace Go.Proofs.Ytnbcdidenmakiaa
open Go.RowKit Dk
set_option linter.unusedVariables false

/-- All that has turned since w0 lies from block B on; the devices at a and b are among it, and share no block. -/
def Dev2 (B : Nat) (w0 w : World) (a : Nat) (Sa : Disk) (b : Nat) (Sb : Disk) : Prop :=
  ∃ F G, DevM w F a Sa ∧ DevM w G b Sb ∧ Apart F G ∧ (∀ x, x ∈ F → B ≤ x) ∧ (∀ x, x ∈ G → B ≤ x) ∧ Below B w0 w ∧ B ≤ w.heap.size
def TwoEnd (B : Nat) (w0 : World) (a : Nat) (Sa : Disk) (b : Nat) (Sb : Disk) (v : Value) (e : Ending) (w' : World) : Prop := e = .returned v ∧ Dev2 B w0 w' a Sa b Sb
section
variable {B a b : Nat} {w0 w w' : World} {Sa Sb : Disk}
theorem Dev2.symm (h : Dev2 B w0 w a Sa b Sb) : Dev2 B w0 w b Sb a Sa := by
  obtain ⟨F, G, h1, h2, h3, h4, h5, h6, h7⟩ := h
  exact ⟨G, F, h2, h1, h3.symm, h5, h4, h6, h7⟩
theorem TwoEnd.symm {v : Value} {e : Ending} (h : TwoEnd B w0 a Sa b Sb v e w') : TwoEnd B w0 b Sb a Sa v e w' := ⟨h.1, h.2.symm⟩
theorem Dev2.bel (h : Dev2 B w0 w a Sa b Sb) : Below B w0 w := by obtain ⟨F, G, h1, h2, h3, h4, h5, h6, h7⟩ := h; exact h6
theorem Dev2.size (h : Dev2 B w0 w a Sa b Sb) : B ≤ w.heap.size := by obtain ⟨F, G, h1, h2, h3, h4, h5, h6, h7⟩ := h; exact h7
theorem Dev2.ok (h : Dev2 B w0 w a Sa b Sb) : Sa.Ok := by obtain ⟨F, G, h1, h2, h3, h4, h5, h6, h7⟩ := h; exact h1.ok
theorem Dev2.past (h : Dev2 B w0 w a Sa b Sb) (hb : Below w.heap.size w w') : Dev2 B w0 w' a Sa b Sb := by
  obtain ⟨F, G, h1, h2, h3, h4, h5, h6, h7⟩ := h
  exact ⟨F, G, h1.below hb, h2.below hb, h3, h4, h5, h6.trans (hb.mono h7), Nat.le_trans h7 hb.size⟩
theorem Dev2.of_end {F G : List Nat} {S' : Disk} {v : Value} {e : Ending} (he : DevEnd F a S' v w e w') (h2 : DevM w G b Sb) (h3 : Apart F G) (h4 : ∀ x, x ∈ F → B ≤ x) (h5 : ∀ x, x ∈ G → B ≤ x) (h6 : Below B w0 w) (h7 : B ≤ w.heap.size) : TwoEnd B w0 a S' b Sb v e w' := by
  obtain ⟨e1, F', e2, e3, e4⟩ := he
  exact ⟨e1, F', G, e2, h2.only e3 h3.symm, h3.grows e4 h2.lt, fun x hx => by
    rcases e4 x hx with h | h
    · exact h4 x h
    · omega, h5, h6.trans (e3.below h7 h4), Nat.le_trans h7 e3.size⟩

theorem two_flush (h : Dev2 B w0 w a Sa b Sb) (hcl : Sa.cache.length ≤ 1000) : Calls Try.prog 18 #[.pointer (some ⟨a, 0, none⟩)] w (TwoEnd B w0 a Sa.flush b Sb (.int .i64 Sa.flushE)) := by
  obtain ⟨F, G, h1, h2, h3, h4, h5, h6, h7⟩ := h
  exact (flush_any w h1 (by omega)).mono fun e w' he => Dev2.of_end he h2 h3 h4 h5 h6 h7
theorem two_on (h : Dev2 B w0 w a Sa b Sb) : Calls Try.prog 16 #[.pointer (some ⟨a, 0, none⟩)] w (TwoEnd B w0 a Sa.on b Sb (.tuple #[])) := by
  obtain ⟨F, G, h1, h2, h3, h4, h5, h6, h7⟩ := h
  exact (on_any w h1).mono fun e w' he => Dev2.of_end he h2 h3 h4 h5 h6 h7
theorem two_off (h : Dev2 B w0 w a Sa b Sb) : Calls Try.prog 15 #[.pointer (some ⟨a, 0, none⟩)] w fun e w' => e = .returned (.bool Sa.off) ∧ w = w' := by
  obtain ⟨F, G, h1, h2, h3, h4, h5, h6, h7⟩ := h
  exact off_any w h1
theorem two_crash (h : Dev2 B w0 w a Sa b Sb) (hcl : Sa.cache.length ≤ 1000) (A : Option Addr) (n c : Nat) (keep : List Int) (hn : n = keep.length) (hnc : n ≤ c) (hcm : c ≤ maxLen) (hk : SeesI w w.heap.size A keep) (torn : Int) :
    Calls Try.prog 14 #[.pointer (some ⟨a, 0, none⟩), .slice A n c, .int .i64 torn] w (TwoEnd B w0 a (Sa.crash keep torn) b Sb (.tuple #[])) := by
  obtain ⟨F, G, h1, h2, h3, h4, h5, h6, h7⟩ := h
  exact (crash_any w h1 (by omega) A n c keep hn hnc hcm hk torn).mono fun e w' he => Dev2.of_end he h2 h3 h4 h5 h6 h7
theorem two_arm (h : Dev2 B w0 w a Sa b Sb) (calls : Int) (hcw : calls ≤ 9223372036854775807) (A : Option Addr) (n c : Nat) (keep : List Int) (hn : n = keep.length) (hk : keep.length ≤ 100000) (hs : SeesI w w.heap.size A keep) (hA : keep ≠ [] → ∀ a, A = some a → a.block < B) (torn : Int) :
    Calls Try.prog 17 #[.pointer (some ⟨a, 0, none⟩), .int .i64 calls, .slice A n c, .int .i64 torn] w (TwoEnd B w0 a (Sa.arm calls keep torn) b Sb (.tuple #[])) := by
  obtain ⟨F, G, h1, h2, h3, h4, h5, h6, h7⟩ := h
  exact (arm_any w h1 calls hcw A n c keep hn hk hs (fun hne x hx hF => by have := hA hne x hx; have := h4 _ hF; omega) torn).mono fun e w' he => Dev2.of_end he h2 h3 h4 h5 h6 h7
theorem two_writeSec {w1 : World} {e1 : Ending} {c : UInt8} (h : Dev2 B w0 w a Sa b Sb) (hs : SectorEnd c w e1 w1) (hcl : Sa.cache.length ≤ 1000) (at_ : Int) :
    Calls Try.prog 10 #[.pointer (some ⟨a, 0, none⟩), .int .i64 at_, .slice (some ⟨w.heap.size, 0, none⟩) 512 512] w1 (TwoEnd B w0 a (Sa.write at_ (secB c)) b Sb (.int .i64 (Sa.writeE at_ 512))) := by
  obtain ⟨_, s1, s2, s3⟩ := hs
  obtain ⟨F, G, h1, h2, h3, h4, h5, h6, h7⟩ := h
  have := write_any w1 (h1.below s3) hcl at_ (some ⟨w.heap.size, 0, none⟩) 512 512 (secOf c) (secOf_length c).symm (Nat.le_refl _) (by decide) (s1.mono s2) (fun x hx hF => by injection hx with hx; subst hx; have := h1.lt _ hF; simp at this)
  rw [secOf_length] at this
  exact this.mono fun e w' he => Dev2.of_end he (h2.below s3) h3 h4 h5 (h6.trans (s3.mono h7)) (Nat.le_trans h7 s3.size)
theorem two_new (n : Nat) (h1 : 1 ≤ n) (h2 : n ≤ 8192) (h : DevB B w0 [] w b Sb) : Calls Try.prog 9 #[.int .i64 (n : Int)] w fun e w' => ∃ d, e = .returned (.tuple #[.pointer (some ⟨d, 0, none⟩), .int .i64 0]) ∧ Dev2 B w0 w' d (fresh n) b Sb := by
  obtain ⟨G, g1, g2, g3, g4, _, _⟩ := h
  exact (new_any n h1 h2 w).mono fun e w' ⟨d, F, e1, e2, e3, e4⟩ => ⟨d, e1, F, G, e2, g1.below e3, fun x hx hg => by have := e4 x hx; have := g1.lt x hg; omega, fun x hx => by have := e4 x hx; omega, g2, g3.trans (e3.mono g4), Nat.le_trans g4 e3.size⟩
theorem two_read (h : Dev2 B w0 w a Sa b Sb) (hon : Sa.off = false) (i : Nat) (s : ByteArray) (hi : Sa.last[i]? = some s) :
    Calls Try.prog 12 #[.pointer (some ⟨a, 0, none⟩), .int .i64 (i : Int)] w (ReadsEnd s.data.toList 0 w) := by
  obtain ⟨hl, hs⟩ := List.getElem?_eq_some_iff.1 hi
  have hl2 : i < Sa.dur.length := by rw [Disk.last, putAll_length] at hl; exact hl
  have e1 : Sa.readE (i : Int) = 0 := by
    unfold Disk.readE Disk.has
    have d1 : decide ((0 : Int) ≤ (i : Int)) = true := by simp
    have d2 : decide ((i : Int) < (Sa.dur.length : Int)) = true := by simp; exact hl2
    rw [hon, d1, d2]; rfl
  have hv : Sa.readV (i : Int) = s.data.toList := by
    unfold Disk.readV Disk.has
    have d1 : decide ((0 : Int) ≤ (i : Int)) = true := by simp
    have d2 : decide ((i : Int) < (Sa.dur.length : Int)) = true := by simp; exact hl2
    rw [hon, d1, d2]
    simp [List.getD, hi]
  obtain ⟨F, G, h1, h2, h3, h4, h5, h6, h7⟩ := h
  refine (read_any (i : Int) w h1).mono ?_
  rintro e w' ⟨A, n, cp, rfl, e2, e3, e4, e5, e6, e7⟩
  obtain ⟨x, rfl, b1, b2⟩ := e7 e1
  rw [hv] at e2 e5
  subst e2
  exact ⟨x, cp, by rw [e1], e3, e4, e5, b1, b2, e6⟩
end

/-- An arranged fall, k calls on. -/
def armed (D : List ByteArray) (c : List Wr) (k : Nat) (keep : List Int) (torn : Int) : Disk := ⟨D, c, false, k, keep, torn⟩
/-- Behind k calls: before the fall, and from it on. -/
def FuRel (calls : Nat) (keep : List Int) (torn : Int) (k : Nat) (Sa Sb : Disk) : Prop :=
  (k < calls ∧ ∃ D c, c.length ≤ k ∧ D.length = 8 ∧ Sa = armed D c (calls - k) keep torn ∧ Sb = st D c) ∨ (calls ≤ k ∧ ∃ D, D.length = 8 ∧ Sa = dark D ∧ Sb = dark D)
/-- One round: what both answer, what comes of both. -/
structure Rnd (calls : Nat) (keep : List Int) (torn : Int) (k : Nat) (Sa Sb : Disk) (er : Int) (o : Bool) : Prop where
  fa : Sa.flushE = er
  fb : Sb.flushE = er
  wa : ∀ m : Nat, m < 8 → Sa.writeE (m : Int) 512 = er
  wb : ∀ m : Nat, m < 8 → Sb.writeE (m : Int) 512 = er
  nf : FuRel calls keep torn (k + 1) Sa.flush Sb.flush
  nw : ∀ (m : Nat) (x : UInt8), m < 8 → FuRel calls keep torn (k + 1) (Sa.write (m : Int) (secB x)) (Sb.write (m : Int) (secB x))
  e7 : (er == 7) = o
  on : decide (calls ≤ k + 1) = o
  ca : Sa.cache.length ≤ k ∧ Sb.cache.length ≤ k
theorem FuRel.off {calls k : Nat} {keep : List Int} {torn : Int} {Sa Sb : Disk} (h : FuRel calls keep torn k Sa Sb) : Sa.off = decide (calls ≤ k) ∧ Sb.off = decide (calls ≤ k) := by
  rcases h with ⟨h1, D, c, _, _, rfl, rfl⟩ | ⟨h1, D, _, rfl, rfl⟩
  · rw [decide_eq_false (by omega)]; exact ⟨rfl, rfl⟩
  · rw [decide_eq_true h1]; exact ⟨rfl, rfl⟩
theorem rnd_before {calls k : Nat} {keep : List Int} {torn : Int} {D : List ByteArray} {c : List Wr} (h : k + 1 < calls) (hc : c.length ≤ k) (hD : D.length = 8) : Rnd calls keep torn k (armed D c (calls - k) keep torn) (st D c) 0 false := by
  obtain ⟨q, hq⟩ : ∃ q, calls - k = q + 2 := ⟨calls - k - 2, by omega⟩
  have hq1 : calls - (k + 1) = q + 1 := by omega
  refine ⟨?_, rfl, fun m hm => ?_, fun m hm => (st_plain D c).writeE m (by show m < D.length; omega), ?_, fun m x hm => ?_, rfl, decide_eq_false (by omega), hc, hc⟩
  · simp [Disk.flushE, Disk.blows, armed, hq]
  · have h8 : (m : Int) < 8 := by omega
    simp [Disk.writeE, Disk.takes, Disk.blows, armed, hq, hD, h8]
  · refine .inl ⟨h, putAll D c, [], Nat.zero_le _, by rw [putAll_length]; exact hD, ?_, (st_plain D c).flush⟩
    rw [hq, hq1]
    simp [Disk.flush, Disk.blows, Disk.blow, armed, Disk.last]
  · refine .inl ⟨h, D, c ++ [(m, secB x)], by simp; omega, hD, ?_, (st_plain D c).write m (secB x) (by show m < D.length; omega) (secB_size x)⟩
    rw [hq, hq1]
    have h8 : (m : Int) < 8 := by omega
    simp [Disk.write, Disk.takes, Disk.blows, Disk.blow, armed, secB_size, hD, h8]
theorem rnd_at {calls k : Nat} {keep : List Int} {torn : Int} {D : List ByteArray} {c : List Wr} (h : k + 1 = calls) (hc : c.length ≤ k) (hD : D.length = 8) : Rnd calls keep torn k (armed D c (calls - k) keep torn) ((st D c).crash keep torn) 7 true := by
  have hq : calls - k = 1 := by omega
  have hl : (fallTo keep torn D c c.length).length = 8 := by rw [fallTo_length]; exact hD
  refine ⟨?_, rfl, fun m hm => ?_, fun m hm => rfl, ?_, fun m x hm => ?_, rfl, decide_eq_true (by omega), hc, Nat.zero_le _⟩
  · simp [Disk.flushE, Disk.blows, armed, hq]
  · have h8 : (m : Int) < 8 := by omega
    simp [Disk.writeE, Disk.takes, Disk.blows, armed, hq, hD, h8]
  · refine .inr ⟨by omega, _, hl, ?_, rfl⟩
    rw [hq]; rfl
  · refine .inr ⟨by omega, _, hl, ?_, rfl⟩
    have h8 : (m : Int) < 8 := by omega
    rw [hq]
    simp [Disk.write, Disk.takes, Disk.blows, Disk.blow, Disk.crash, armed, dark, secB_size, hD, h8]
theorem rnd_after {calls k : Nat} {keep : List Int} {torn : Int} {D : List ByteArray} (h : calls ≤ k) (hD : D.length = 8) : Rnd calls keep torn k (dark D) (dark D) 7 true :=
  ⟨rfl, rfl, fun _ _ => rfl, fun _ _ => rfl, .inr ⟨by omega, D, hD, rfl, rfl⟩, fun _ _ _ => .inr ⟨by omega, D, hD, rfl, rfl⟩, rfl, decide_eq_true (by omega), Nat.zero_le _, Nat.zero_le _⟩
theorem FuRel.last {calls k : Nat} {keep : List Int} {torn : Int} {Sa Sb : Disk} (h : FuRel calls keep torn k Sa Sb) : Sa.on.last = Sb.on.last ∧ Sa.on.last.length = 8 := by
  rcases h with ⟨h1, D, c, _, hD, rfl, rfl⟩ | ⟨h1, D, hD, rfl, rfl⟩
  · exact ⟨rfl, by show (putAll D c).length = 8; rw [putAll_length]; exact hD⟩
  · exact ⟨rfl, hD⟩
end Go.Proofs.Ytnbcdidenmakiaa
