/- append of a string's bytes; a row of bytes under way. -/
import Derived.Test.YtgkibkophoikoaaDoorAppend
import Derived.Lib.AppendStr
namespace Go.Proofs.YtgkibkophoikoaaDoor
open Go.RowKit
set_option linter.unusedVariables false
set_option maxRecDepth 20000

theorem wpList_append_run2 {P : Program} {ops : Array Oper} {rest : List Oper} {o : Oper} {a : Act} {Q : Exit → Act → World → Prop} (hgd : o.guard = none) (d s : Operand) (t t' : TypeId)
    (ho : o.op = .call { callee := .builtin .append, args := #[d, s], argTypes := #[t, t'] }) (w : World) (v u : Value) (hd : a.eval d = v) (hs : a.eval s = u) (v' : Value) (w' : World)
    (hr : (Builtin.append_ #[t, t'] o.type #[v, u]).run P w = .ok v' w') (h : wpList P ops Q rest (a.put o.dst v') w') : wpList P ops Q (o :: rest) a w := by
  refine wpList_plain hgd fun K hK => ?_
  unfold Oper.wp execOp
  simp only [ho, resolve, invoke, builtin, Sem.run_bind, Sem.run_pure, Result.andThen_ok, List.map_toArray, List.map_cons, List.map_nil, hd, hs, hr]
  exact hK _ _ h
theorem strCells_bv (s : ByteArray) : Lib.strCells s = bv s.data.toList := rfl
/-- append of a string's bytes. -/
theorem brow_str (w : World) (v : Value) (l : List UInt8) (h : BRow w v l) (s : ByteArray) (hl : l.length + s.size ≤ 140737488355328) (ty : TypeId) :
    ∃ v' w', (Builtin.append_ #[55, 9] ty #[v, .string s]).run Tryd.prog w = .ok v' w' ∧ BRow w' v' (l ++ s.data.toList) ∧ Only (blk v) w w' ∧ Grows (blk v) (blk v') w := by
  obtain ⟨i0, hi, hz0, hz1, hz2⟩ := info_parts Tryd.infoB1
  have fin : ∀ base, base ≤ w.heap.size → w.ownsRow base 5 1 v l.length (bv l) → ∃ v' w', (Builtin.append_ #[55, 9] ty #[v, .string s]).run Tryd.prog w = .ok v' w' ∧ BRow w' v' (l ++ s.data.toList) ∧ Only (blk v) w w' ∧ ∀ b, b ∈ blk v' → base ≤ b := fun base hb hown => by
    obtain ⟨v', w', hr, h2, h3, _⟩ := Lib.run_append_own_string (P := Tryd.prog) w base 55 9 ty 5 i0 Tryd.underlying55 Tryd.underlying9 hi hz0 hz1 hz2 v l.length (bv l) hown s (by unfold maxLen; omega) hl hb
    rw [strCells_bv, ← bv_append] at h2
    refine ⟨v', w', hr, ?_, Only.of_grown h3 (fun k hk => mem_blk.2 hk), fun b hb => (h2.lt b (mem_blk.1 hb)).1⟩
    have h4 := own_base h2 (Nat.zero_le _)
    unfold BRow
    rw [List.length_append, show s.data.toList.length = s.size from by simp]
    exact h4
  rcases h.2 with ⟨rfl, hx⟩ | ⟨g, cap, cur, rfl, hbg, hg, hnc, hcm, hcs, htake⟩
  · have hl0 : l = [] := List.eq_nil_of_length_eq_zero hx
    subst hl0
    obtain ⟨v', w', hr, h2, h3, h4⟩ := fin w.heap.size (Nat.le_refl _) (World.ownsRow_nil w _ _ _)
    exact ⟨v', w', hr, h2, h3, fun b hb => .inr (h4 b hb)⟩
  · obtain ⟨v', w', hr, h2, h3, _⟩ := fin 0 (Nat.zero_le _) h
    refine ⟨v', w', hr, h2, h3, fun b hb => ?_⟩
    by_cases hroom : l.length + s.size ≤ cap
    · have hr2 := Lib.run_append_room_string (P := Tryd.prog) w 55 9 ty 5 i0 Tryd.underlying55 Tryd.underlying9 hi hz1 g l.length cap cur hg s hroom (by omega)
      rw [hr] at hr2
      injection hr2 with e1 e2
      subst e1
      exact .inl hb
    · have holds : ∀ j u, (bv l)[j]? = some u → w.cell? ((⟨g, 0, none⟩ : Addr).add j) = some u := World.ownsRow.cells (g := g) h rfl
      have hr2 := Lib.run_append_grow_string (P := Tryd.prog) w 55 9 ty 5 i0 _ Tryd.underlying55 Tryd.underlying9 hi hz0 ⟨g, 0, none⟩ l.length cap (bv l) (by rw [hz1, bv_length, Nat.mul_one]) holds s (by omega) (by omega) (by rw [hz2]; exact growslice_fits (by omega) (by omega))
      rw [hr] at hr2
      injection hr2 with e1 e2
      subst e1
      simp [blk, Value.ownBlock] at hb
      exact .inr (by omega)

/-- A row under way since w1, which began as v0. -/
structure RowAt (v0 : Value) (w1 W : World) (v : Value) (l : List UInt8) : Prop where
  row : BRow W v l
  only : Only (blk v0) w1 W
  grows : Grows (blk v0) (blk v) w1
section
variable {v0 v v' : Value} {w1 W W' : World} {l l' : List UInt8}
theorem RowAt.step (h : RowAt v0 w1 W v l) (hr : BRow W' v' l') (ho : Only (blk v) W W') (hg : Grows (blk v) (blk v') W) : RowAt v0 w1 W' v' l' :=
  ⟨hr, h.only.step ho h.grows, h.grows.trans hg h.only.size⟩
theorem RowAt.start (h : BRow w1 v l) : RowAt v w1 w1 v l := ⟨h, Only.refl _ _, Grows.refl _ _⟩
theorem RowAt.shape (h : RowAt v0 w1 W v l) : ∃ A c, v = .slice A l.length c ∧ l.length ≤ c ∧ c ≤ maxLen := h.row.shape
theorem RowAt.cell (h : RowAt v0 w1 W v l) (b j : Nat) (hb : b < w1.heap.size) (hn : b ∉ blk v0) : W.cell? ⟨b, j, none⟩ = w1.cell? ⟨b, j, none⟩ := h.only.cell (a := ⟨b, j, none⟩) hb hn
theorem RowAt.str (h : RowAt v0 w1 W v l) (s : ByteArray) (hl : l.length + s.size ≤ 140737488355328) :
    ∃ A c L W', Hid (L = l ++ s.data.toList) ∧ (Builtin.append_ #[55, 9] 55 #[v, .string s]).run Tryd.prog W = .ok (.slice A L.length c) W' ∧ RowAt v0 w1 W' (.slice A L.length c) L := by
  obtain ⟨v', W', hr, q1, q2, q3⟩ := brow_str W v l h.row s hl 55
  obtain ⟨A, c, rfl, _, _⟩ := q1.shape
  exact ⟨A, c, _, W', Lib.hid rfl, hr, h.step q1 q2 q3⟩
theorem RowAt.sees (h : RowAt v0 w1 W v l) (B : Nat) (A : Option Addr) (m c : Nat) (r : List UInt8) (hm : m = r.length) (hr : Sees W B A r) (hl : l.length + r.length ≤ 140737488355328) :
    ∃ A' c' L W', Hid (L = l ++ r) ∧ (Builtin.append_ #[55, 55] 55 #[v, .slice A m c]).run Tryd.prog W = .ok (.slice A' L.length c') W' ∧ RowAt v0 w1 W' (.slice A' L.length c') L := by
  obtain ⟨v', W', hr, q1, q2, q3⟩ := brow_sees W v l h.row B A m c r hm hr hl 55
  obtain ⟨A, c, rfl, _, _⟩ := q1.shape
  exact ⟨A, c, _, W', Lib.hid rfl, hr, h.step q1 q2 q3⟩
theorem RowAt.one (h : RowAt v0 w1 W v l) (b : UInt8) (z : Int) (hz : z = (b.toNat : Int)) (hl : l.length + 1 ≤ 140737488355328) :
    ∃ A' c' L W', Hid (L = l ++ [b]) ∧ (Builtin.append_ #[55, 55] 55 #[v, .slice (some ⟨W.heap.size, 0, none⟩) 1 1]).run Tryd.prog (W.alloc (.cells #[.int .u8 z] 5)) = .ok (.slice A' L.length c') W' ∧ RowAt v0 w1 W' (.slice A' L.length c') L := by
  obtain ⟨v', W', hr, q1, q2, q3⟩ := brow_one W v l h.row b z hz hl 55
  obtain ⟨A, c, rfl, _, _⟩ := q1.shape
  exact ⟨A, c, _, W', Lib.hid rfl, hr, h.step q1 q2 q3⟩
end

end Go.Proofs.YtgkibkophoikoaaDoor
