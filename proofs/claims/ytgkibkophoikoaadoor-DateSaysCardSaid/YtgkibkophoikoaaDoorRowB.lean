/- Rows of bytes of one's own, from a block on: append of a byte, of bytes just laid, of a string; what lies in memory beside them. -/
import Derived.Test.YtgkibkophoikoaaDoorAppStr
import Derived.Test.YtgkibkophoikoaaDoorSqRet
import Derived.Laws.AppendOwn
import Derived.Lib.OthersKept
namespace Go.Proofs.YtgkibkophoikoaaDoor
open Go.RowKit
set_option linter.unusedVariables false
set_option maxRecDepth 100000

theorem row_app {P : Program} (w : World) (t ty e : TypeId) (z : Value) (size bytes : Nat) (hinfo : (P.info? e).map (fun i => (i.zero, i.size, i.bytes)) = some (some z, size, bytes)) (ht : P.underlying t = some (.slice e)) (hzs : z.cells.size = size) (hsz : 0 < size) (hb8 : bytes ≤ 16)
    (base : Nat) (v : Value) (n : Nat) (xs : List Value) (h : w.ownsRow base e size v n xs) (news : List Value) (hn : news.length = size) (h1 : ∀ u ∈ news, u.oneCell' = true) (hl : n ≤ 1000000000000) (hbase : base ≤ w.heap.size) :
    ∃ v' w', (Builtin.append_ #[t, t] ty #[v, .slice (some ⟨w.heap.size, 0, none⟩) 1 1]).run P (w.alloc (.cells news.toArray e)) = .ok v' w' ∧ w'.ownsRow base e size v' (n + 1) (xs ++ news) ∧ (w.alloc (.cells news.toArray e)).grownBy w' v.ownBlock ∧ Below base w w' ∧ ∃ A c, v' = .slice A (n + 1) c := by
  obtain ⟨i0, hi, hz0, hz1, hz2⟩ := info_parts hinfo
  have hmul : (n + 1) * bytes ≤ (n + 1) * 16 := Nat.mul_le_mul_left _ hb8
  obtain ⟨v', w', hr, h2, h3, _⟩ := run_append_own (P := P) (w.alloc (.cells news.toArray e)) base t ty e i0 _ size bytes ht hi hz0 hz1 hz2 hzs hsz v n xs (h.alloc _) ⟨w.heap.size, 0, none⟩ 1 1 news (by omega) (fun j u hu => by
    rw [add_to, Nat.zero_add, World.cell?_alloc_at _ _ _ _ rfl, ← Array.getElem?_toList]; simpa using hu) h1 (by unfold maxLen; omega) (by omega) (by simp; omega)
  refine ⟨v', w', hr, h2, h3, ((Below.refl base w).alloc hbase _).grown h3 (by simp; omega) (fun k hk => (h.lt k hk).1), ?_⟩
  obtain ⟨A, c, e, _⟩ := own_shape h2
  exact ⟨A, c, e⟩

/-- A row of bytes of one's own, from block B on. -/
def RowB (w : World) (B : Nat) (v : Value) (l : List UInt8) : Prop := w.ownsRow B 5 1 v l.length (bv l)
abbrev OthB (w w' : World) : Prop := Lib.OthersKept 5 none w w'
theorem Blk.oth {w w' : World} {g t : Nat} {cs : Array Value} (h : Blk w g t cs) (ht : t ≠ 5) (ho : OthB w w') : Blk w' g t cs := ho g _ h (fun e => by cases e) (fun c fz e => ht (by injection e))
theorem oth_row {w w' : World} {B k : Nat} {v : Value} {xs : List Value} (hg : w.grownBy w' v.ownBlock) (h : w.ownsRow B 5 1 v k xs) : OthB w w' := fun i o ho _ hne => by
  rw [hg.block i (Array.getElem?_eq_some_iff.1 ho).1 (fun e => ?_)]
  · exact ho
  · rcases h.2 with ⟨rfl, _⟩ | ⟨g, cap, cur, rfl, _, hgg, _⟩
    · cases e
    · simp [Value.ownBlock] at e
      subst e
      rw [hgg] at ho
      injection ho with ho
      exact hne _ _ ho.symm
theorem oth_alloc (w : World) (o : Obj) : OthB w (w.alloc o) := fun i o' ho _ _ => (((Below.refl _ w).alloc (Nat.le_refl _) o).block i (Array.getElem?_eq_some_iff.1 ho).1).trans ho
theorem oth_trans {a b c : World} (h : OthB a b) (k : OthB b c) : OthB a c := fun i o ho hn hne => k i o (h i o ho hn hne) hn hne

theorem byte_app (w : World) (B : Nat) (v : Value) (l : List UInt8) (h : RowB w B v l) (b : UInt8) (z : Int) (hz : z = (b.toNat : Int)) (hl : l.length ≤ 1000000) (hB : B ≤ w.heap.size) (ty : TypeId) :
    ∃ A c L w', Hid (L = l ++ [b]) ∧ L.length ≤ l.length + 1 ∧ (Builtin.append_ #[55, 55] ty #[v, .slice (some ⟨w.heap.size, 0, none⟩) 1 1]).run Tryd.prog (w.alloc (.cells #[.int .u8 z] 5)) = .ok (.slice A L.length c) w' ∧ RowB w' B (.slice A L.length c) L ∧ Below B w w' ∧ OthB w w' := by
  subst hz
  obtain ⟨v', w', hr, h2, h3, h4, A, c, rfl⟩ := row_app w 55 ty 5 _ 1 1 Tryd.infoB1 Tryd.underlying55 rfl (by decide) (by decide) B v l.length (bv l) h [.int .u8 (b.toNat : Int)] rfl (by intro u hu; simp at hu; subst hu; rfl) (by omega) hB
  have e : (l ++ [b]).length = l.length + 1 := by simp
  refine ⟨A, c, l ++ [b], w', Lib.hid rfl, Nat.le_of_eq e, by rw [e]; exact hr, ?_, h4, oth_trans (oth_alloc w _) (oth_row h3 (World.ownsRow.alloc h _))⟩
  unfold RowB
  rw [e, bv_append]; exact h2
theorem str_app (w : World) (B : Nat) (v : Value) (l : List UInt8) (h : RowB w B v l) (s : ByteArray) (hs : s.size ≤ 1000) (hl : l.length ≤ 1000000) (hB : B ≤ w.heap.size) (ty : TypeId) :
    ∃ A c L w', Hid (L = l ++ s.data.toList) ∧ L.length = l.length + s.size ∧ (Builtin.append_ #[55, 9] ty #[v, .string s]).run Tryd.prog w = .ok (.slice A L.length c) w' ∧ RowB w' B (.slice A L.length c) L ∧ Below B w w' ∧ OthB w w' := by
  obtain ⟨i0, hi, hz0, hz1, hz2⟩ := info_parts Tryd.infoB1
  obtain ⟨v', w', hr, h2, h3, _⟩ := Lib.run_append_own_string (P := Tryd.prog) w B 55 9 ty 5 i0 Tryd.underlying55 Tryd.underlying9 hi hz0 hz1 hz2 v l.length (bv l) h s (by unfold maxLen; omega) (by omega) hB
  rw [strCells_bv, ← bv_append] at h2
  have e : (l ++ s.data.toList).length = l.length + s.size := by rw [List.length_append]; rfl
  obtain ⟨A, c, rfl, _⟩ := own_shape h2
  refine ⟨A, c, _, w', Lib.hid rfl, e, by rw [e]; exact hr, ?_, (Below.refl B w).grown h3 hB (fun k hk => (World.ownsRow.lt h k hk).1), oth_row h3 h⟩
  unfold RowB
  rw [e]; exact h2
theorem bytes_app (w : World) (B : Nat) (v : Value) (l : List UInt8) (h : RowB w B v l) (r : List UInt8) (cs : Array Value) (hcs : cs.toList = bv r) (k : Nat) (hk : k = r.length) (hl : l.length ≤ 1000000) (hr0 : r.length ≤ 1000) (hB : B ≤ w.heap.size) (ty : TypeId) :
    ∃ A c L w', Hid (L = l ++ r) ∧ L.length = l.length + r.length ∧ (Builtin.append_ #[55, 55] ty #[v, .slice (some ⟨w.heap.size, 0, none⟩) k k]).run Tryd.prog (w.alloc (.cells cs 5)) = .ok (.slice A L.length c) w' ∧ RowB w' B (.slice A L.length c) L ∧ Below B w w' ∧ OthB w w' := by
  subst hk
  obtain ⟨i0, hi, hz0, hz1, hz2⟩ := info_parts Tryd.infoB1
  obtain ⟨v', w', hr, h2, h3, _⟩ := run_append_own (P := Tryd.prog) (w.alloc (.cells cs 5)) B 55 ty 5 i0 _ 1 1 Tryd.underlying55 hi hz0 hz1 hz2 rfl (by decide) v l.length (bv l) (World.ownsRow.alloc h _) ⟨w.heap.size, 0, none⟩ r.length r.length (bv r) (by rw [bv_length, Nat.mul_one]) (fun j u hu => by
    rw [add_to, Nat.zero_add, World.cell?_alloc_at _ _ _ _ rfl, ← Array.getElem?_toList, hcs]; exact hu) (by intro u hu; unfold bv at hu; simp at hu; obtain ⟨b, _, rfl⟩ := hu; rfl) (by unfold maxLen; omega) (by omega) (by simp; omega)
  obtain ⟨A, c, rfl, _⟩ := own_shape h2
  have e : (l ++ r).length = l.length + r.length := List.length_append
  refine ⟨A, c, l ++ r, w', Lib.hid rfl, e, by rw [e]; exact hr, ?_, ((Below.refl B w).alloc hB _).grown h3 (by simp; omega) (fun k hk => (World.ownsRow.lt h k hk).1), oth_trans (oth_alloc w _) (oth_row h3 (World.ownsRow.alloc h _))⟩
  unfold RowB
  rw [e, bv_append]; exact h2

/-- What a call makes of a row of bytes under way. -/
def AppEnd (B : Nat) (l : List UInt8) (w : World) (e : Ending) (w' : World) : Prop := ∃ A c L, e = .returned (.slice A L.length c) ∧ Hid (L = l) ∧ RowB w' B (.slice A L.length c) L ∧ Below B w w' ∧ OthB w w'
theorem own_bytes {w : World} {B : Nat} {v : Value} {l : List UInt8} (h : RowB w B v l) : (convert 55 9 v).run Tryd.prog w = .ok (.string ⟨l.toArray⟩) w :=
  run_own_string w 55 9 5 Tryd.underlying55 Tryd.underlying5 Tryd.underlying9 B v l h
end Go.Proofs.YtgkibkophoikoaaDoor
