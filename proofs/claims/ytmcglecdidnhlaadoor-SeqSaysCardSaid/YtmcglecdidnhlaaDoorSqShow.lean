/- seq's appendNumber, Show: the walks. -/
import Derived.Test.YtmcglecdidnhlaaDoorSqHas
import Derived.Test.YtmcglecdidnhlaaDoorSqRet
import Derived.Test.YtmcglecdidnhlaaDoorSqApp
import Derived.Test.YtmcglecdidnhlaaDoorAppStr
import Derived.Lib.ItoaLen
namespace Go.Proofs.YtmcglecdidnhlaaDoor
open Go.RowKit
set_option linter.unusedVariables false
set_option maxRecDepth 100000

/-- A row of bytes of one's own, from block B on. -/
def RowB (w : World) (B : Nat) (v : Value) (l : List UInt8) : Prop := w.ownsRow B 5 1 v l.length (bv l)
abbrev OthB (w w' : World) : Prop := Lib.OthersKept 5 none w w'
theorem Blk.oth {w w' : World} {g t : Nat} {cs : Array Value} (h : Blk w g t cs) (ht : t ≠ 5) (ho : OthB w w') : Blk w' g t cs := ho g _ h (fun e => by cases e) (fun c fz e => ht (by injection e))
theorem oth_row {w w' : World} {B k : Nat} {v : Value} {xs : List Value} (hg : w.grownBy w' v.ownBlock) (h : w.ownsRow B 5 1 v k xs) : OthB w w' := fun i o ho _ hne => by
  rw [hg.block i (Array.getElem?_eq_some_iff.1 ho).1 (fun e => ?_)]
  · exact ho
  · rcases h.2 with ⟨rfl, _⟩ | ⟨g, cap, cur, rfl, _, hgg, _⟩
    · cases e
    · simp [Value.ownBlock] at e
      subst e
      rw [hgg] at ho
      injection ho with ho
      exact hne _ _ ho.symm
theorem oth_alloc (w : World) (o : Obj) : OthB w (w.alloc o) := fun i o' ho _ _ => (((Below.refl _ w).alloc (Nat.le_refl _) o).block i (Array.getElem?_eq_some_iff.1 ho).1).trans ho
theorem oth_trans {a b c : World} (h : OthB a b) (k : OthB b c) : OthB a c := fun i o ho hn hne => k i o (h i o ho hn hne) hn hne

theorem byte_app (w : World) (B : Nat) (v : Value) (l : List UInt8) (h : RowB w B v l) (b : UInt8) (z : Int) (hz : z = (b.toNat : Int)) (hl : l.length ≤ 1000000) (hB : B ≤ w.heap.size) (ty : TypeId) :
    ∃ A c L w', Hid (L = l ++ [b]) ∧ L.length ≤ l.length + 1 ∧ (Builtin.append_ #[58, 58] ty #[v, .slice (some ⟨w.heap.size, 0, none⟩) 1 1]).run Tryd.prog (w.alloc (.cells #[.int .u8 z] 5)) = .ok (.slice A L.length c) w' ∧ RowB w' B (.slice A L.length c) L ∧ Below B w w' ∧ OthB w w' := by
  subst hz
  obtain ⟨v', w', hr, h2, h3, h4, A, c, rfl⟩ := row_app w 58 ty 5 _ 1 1 Tryd.infoB1 Tryd.underlying58 rfl (by decide) (by decide) B v l.length (bv l) h [.int .u8 (b.toNat : Int)] rfl (by intro u hu; simp at hu; subst hu; rfl) (by omega) hB
  have e : (l ++ [b]).length = l.length + 1 := by simp
  refine ⟨A, c, l ++ [b], w', Lib.hid rfl, Nat.le_of_eq e, by rw [e]; exact hr, ?_, h4, oth_trans (oth_alloc w _) (oth_row h3 (World.ownsRow.alloc h _))⟩
  unfold RowB
  rw [e, bv_append]; exact h2
theorem str_app (w : World) (B : Nat) (v : Value) (l : List UInt8) (h : RowB w B v l) (s : ByteArray) (hs : s.size ≤ 1000) (hl : l.length ≤ 1000000) (hB : B ≤ w.heap.size) (ty : TypeId) :
    ∃ A c L w', Hid (L = l ++ s.data.toList) ∧ L.length = l.length + s.size ∧ (Builtin.append_ #[58, 9] ty #[v, .string s]).run Tryd.prog w = .ok (.slice A L.length c) w' ∧ RowB w' B (.slice A L.length c) L ∧ Below B w w' ∧ OthB w w' := by
  obtain ⟨i0, hi, hz0, hz1, hz2⟩ := info_parts Tryd.infoB1
  obtain ⟨v', w', hr, h2, h3, _⟩ := Lib.run_append_own_string (P := Tryd.prog) w B 58 9 ty 5 i0 Tryd.underlying58 Tryd.underlying9 hi hz0 hz1 hz2 v l.length (bv l) h s (by unfold maxLen; omega) (by omega) hB
  rw [strCells_bv, ← bv_append] at h2
  have e : (l ++ s.data.toList).length = l.length + s.size := by rw [List.length_append]; rfl
  obtain ⟨A, c, rfl, _⟩ := own_shape h2
  refine ⟨A, c, _, w', Lib.hid rfl, e, by rw [e]; exact hr, ?_, (Below.refl B w).grown h3 hB (fun k hk => (World.ownsRow.lt h k hk).1), oth_row h3 h⟩
  unfold RowB
  rw [e]; exact h2
theorem num1_len (n : Int) (h0 : 0 ≤ n) (h1 : n ≤ 4294967295) : (Sq.num1 n).length ≤ 21 := by
  unfold Sq.num1
  split
  · simp
  · exact Lib.itoa_length_le n (by omega) (by omega)

/-- What a call makes of a row of bytes under way. -/
def AppEnd (B : Nat) (l : List UInt8) (w : World) (e : Ending) (w' : World) : Prop := ∃ A c L, e = .returned (.slice A L.length c) ∧ Hid (L = l) ∧ RowB w' B (.slice A L.length c) L ∧ Below B w w' ∧ OthB w w'
set_option maxHeartbeats 800000 in
theorem appNum_any (B : Nat) (A : Option Addr) (m c : Nat) (l : List UInt8) (n : Int) (w : World) (hm : m = l.length) (h : RowB w B (.slice A m c) l) (hB : B ≤ w.heap.size) (hl : l.length ≤ 1000000) (h0 : 0 ≤ n) (h1 : n ≤ 4294967295) (hT : Lib.TabBelow Tryd.prog B w "internal/strconv.uint64pow10" .u64 Lib.pow10Tab) :
    Calls Tryd.prog 26 #[.slice A m c, .int .i64 n] w (AppEnd B (l ++ Sq.num1 n) w) := by
  subst hm
  by_cases hn : n = 0
  · have h2 : (n == 0) = true := by simpa using hn
    obtain ⟨A', c', L, w', HL, hll, hr, h3, h4, h5⟩ := str_app w B _ l h ⟨#[42]⟩ (by decide) hl hB 58
    have HR := Lib.hid hr
    have key : AppEnd B (l ++ Sq.num1 n) w (.returned (.slice A' L.length c')) w' := ⟨A', c', L, rfl, Lib.hid (by rw [HL.out]; unfold Sq.num1; rw [if_pos hn]), h3, h4, h5⟩
    have KEY := Lib.hid key
    clear hr key hn h hT hll h3 h4 h5
    go_enter Tryd.func26, Tryd.ntmps26
    go_wp2_with (at_builtin; refine wpList_append_run2 rfl _ _ 58 9 rfl _ _ _ rfl rfl _ _ (by exact HR.out) ?_)
    go_ret
    exact KEY.out
  · have h2 : (n == 0) = false := by simpa using hn
    have HC := Lib.hid (Tryd.strconv_AppendInt_10 B l.length n (by omega) (by omega) _ _ w h hB (by omega) hT)
    have HN : Hid (Sq.num1 n = Lib.itoa n) := Lib.hid (by unfold Sq.num1; rw [if_neg hn])
    clear hn h hT
    go_enter Tryd.func26, Tryd.ntmps26
    go_wp2_with fail
    refine HC.out.mono ?_
    rintro e w1 ⟨v', rfl, q1, q2, q3⟩
    have e : (l ++ Sq.num1 n).length = l.length + (Lib.itoa n).length := by rw [HN.out, List.length_append]
    obtain ⟨A', c', rfl, _⟩ := own_shape q1
    have key : AppEnd B (l ++ Sq.num1 n) w (.returned (.slice A' (l.length + (Lib.itoa n).length) c')) w1 := by
      refine ⟨A', c', l ++ Sq.num1 n, by rw [e], Lib.hid rfl, ?_, q2, q3⟩
      unfold RowB
      rw [e, HN.out, bv_append]
      exact q1
    have KEY := Lib.hid key
    clear q1 q2 q3 key e
    go_wp2
    go_ret
    exact KEY.out
end Go.Proofs.YtmcglecdidnhlaaDoor
