/- One device with power and without a fuse, or without power: what each call makes of it. -/
import Derived.Test.YtelcedbcegbbjaaDevOne
namespace Go.Proofs.Ytelcedbcegbbjaa
open Go.RowKit Dk
set_option linter.unusedVariables false

def st (D : List ByteArray) (c : List Wr) : Disk := ⟨D, c, false, 0, [], 0⟩
def dark (D : List ByteArray) : Disk := ⟨D, [], true, 0, [], 0⟩
theorem st_plain (D : List ByteArray) (c : List Wr) : (st D c).Plain := ⟨rfl, rfl⟩
theorem fresh_st (n : Nat) : fresh n = st (List.replicate n (secB 0)) [] := rfl
theorem st_crash (D : List ByteArray) (c : List Wr) (keep : List Int) (torn : Int) : (st D c).crash keep torn = dark (fallTo keep torn D c c.length) := rfl
theorem dark_on (D : List ByteArray) : (dark D).on = st D [] := rfl

section
variable {B d : Nat} {w0 w : World} {D : List ByteArray} {c : List Wr} {G : List Nat}
theorem st_writeSec {w1 : World} {e1 : Ending} {x : UInt8} (h : DevB B w0 G w d (st D c)) (hs : SectorEnd x w e1 w1) (hcl : c.length ≤ 1000) (i : Nat) (hi : i < D.length) :
    Calls Try.prog 10 #[.pointer (some ⟨d, 0, none⟩), .int .i64 (i : Int), .slice (some ⟨w.heap.size, 0, none⟩) 512 512] w1 (OneEnd B w0 G d (st D (c ++ [(i, secB x)])) (.int .i64 0) w) := by
  have hw := one_writeSec h hs hcl (i : Int)
  rw [(st_plain D c).write i (secB x) hi (secB_size x), (st_plain D c).writeE i hi] at hw
  exact hw
theorem dark_writeSec {w1 : World} {e1 : Ending} {x : UInt8} (h : DevB B w0 G w d (dark D)) (hs : SectorEnd x w e1 w1) (at_ : Int) :
    Calls Try.prog 10 #[.pointer (some ⟨d, 0, none⟩), .int .i64 at_, .slice (some ⟨w.heap.size, 0, none⟩) 512 512] w1 (OneEnd B w0 G d (dark D) (.int .i64 7) w) :=
  one_writeSec h hs (Nat.zero_le _) at_
theorem st_flush (h : DevB B w0 G w d (st D c)) (hcl : c.length ≤ 1000) : Calls Try.prog 18 #[.pointer (some ⟨d, 0, none⟩)] w (OneEnd B w0 G d (st (putAll D c) []) (.int .i64 0) w) := by
  have hw := one_flush h hcl
  rw [(st_plain D c).flush, (st_plain D c).flushE] at hw
  exact hw
theorem st_crashes (h : DevB B w0 G w d (st D c)) (hcl : c.length ≤ 1000) (A : Option Addr) (n cp : Nat) (keep : List Int) (hn : n = keep.length) (hnc : n ≤ cp) (hcm : cp ≤ maxLen) (hk : SeesI w w.heap.size A keep) (torn : Int) :
    Calls Try.prog 14 #[.pointer (some ⟨d, 0, none⟩), .slice A n cp, .int .i64 torn] w (OneEnd B w0 G d (dark (fallTo keep torn D c c.length)) (.tuple #[]) w) :=
  one_crash h hcl A n cp keep hn hnc hcm hk torn
theorem dark_ons (h : DevB B w0 G w d (dark D)) : Calls Try.prog 16 #[.pointer (some ⟨d, 0, none⟩)] w (OneEnd B w0 G d (st D []) (.tuple #[]) w) := one_on h
/-- What Read ends in: bytes of a block of their own. -/
def ReadsEnd (l : List UInt8) (er : Int) (w : World) (e : Ending) (w' : World) : Prop :=
  ∃ b c, e = .returned (.tuple #[.slice (some ⟨b, 0, none⟩) l.length c, .int .i64 er]) ∧ l.length ≤ c ∧ c ≤ maxLen ∧ Sees w' w'.heap.size (some ⟨b, 0, none⟩) l ∧ w.heap.size ≤ b ∧ b < w'.heap.size ∧ Below w.heap.size w w'
theorem st_read (h : DevB B w0 G w d (st D c)) (i : Nat) (s : ByteArray) (hi : (putAll D c)[i]? = some s) :
    Calls Try.prog 12 #[.pointer (some ⟨d, 0, none⟩), .int .i64 (i : Int)] w (ReadsEnd s.data.toList 0 w) := by
  obtain ⟨hl, hs⟩ := List.getElem?_eq_some_iff.1 hi
  have hl2 : i < D.length := by rw [putAll_length] at hl; exact hl
  have e1 : (st D c).readE (i : Int) = 0 := (st_plain D c).readE i hl2
  have hv : (st D c).readV (i : Int) = s.data.toList := by rw [(st_plain D c).readV i hl]; show (putAll D c)[i].data.toList = _; rw [hs]
  refine (one_read h (i : Int)).mono ?_
  rintro e w' ⟨A, n, cp, rfl, e2, e3, e4, e5, e6, e7⟩
  obtain ⟨b, rfl, b1, b2⟩ := e7 e1
  rw [hv] at e2 e5
  subst e2
  exact ⟨b, cp, by rw [e1], e3, e4, e5, b1, b2, e6⟩
theorem secB_toList (c : UInt8) : (secB c).data.toList = secOf c := rfl
end

/-- A slice reads as a string: its bytes, and what its conversion answers. -/
def Reads (A : Option Addr) (n c : Nat) (B : Nat) (l : List UInt8) (s : ByteArray) (W : World) : Prop :=
  Sees W B A l ∧ (convert 28 9 (.slice A n c)).run Try.prog W = .ok (.string s) W
theorem Reads.mk {A : Option Addr} {n c B : Nat} {l : List UInt8} {s : ByteArray} {W : World} (h : Sees W B A l) (hn : n = l.length) (hs : s = ⟨l.toArray⟩) : Reads A n c B l s W := by
  subst hn; subst hs
  exact ⟨h, run_sees_string (P := Try.prog) W 28 9 5 Try.underlying28 Try.underlying5 Try.underlying9 h l.length c rfl⟩
theorem secs_len (i n : Nat) (x : ByteArray) (hi : i < n) : (putAll (List.replicate n (secB 0)) [(i, x)])[i]? = some x := by
  simp [putAll, hi]
end Go.Proofs.Ytelcedbcegbbjaa
