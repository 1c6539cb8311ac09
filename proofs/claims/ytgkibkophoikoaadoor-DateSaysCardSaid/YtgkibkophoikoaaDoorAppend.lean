/- append to a row of one's own: where the new row lies; rows of bytes of one's own, each with its block. -/
import Derived.Test.YtgkibkophoikoaaDoorOnly
import Derived.Test.YtgkibkophoikoaaDoorProg
import Derived.Laws.AppendOwn
namespace Go.Proofs.YtgkibkophoikoaaDoor
open Go.RowKit
set_option linter.unusedVariables false
set_option maxRecDepth 100000

/-- append to a row of one's own: where the new row lies. -/
theorem run_append_here {P : Program} (w : World) (t ty e : TypeId) (i : TypeInfo) (z : Value) (size bytes : Nat) (ht : P.underlying t = some (.slice e)) (hi : P.info? e = some i) (hz : i.zero = some z)
    (hsize : i.size = size) (hby : i.bytes = bytes) (hzs : z.cells.size = size) (hsz : 0 < size)
    (v : Value) (n : Nat) (xs : List Value) (hown : w.ownsRow 0 e size v n xs)
    (a : Addr) (m c : Nat) (news : List Value) (hl : news.length = m * size) (hnews : ∀ j u, news[j]? = some u → w.cell? (a.add j) = some u) (h1 : ∀ u ∈ news, u.oneCell' = true)
    (h63 : n + m ≤ maxLen) (hbytes : (n + m) * bytes ≤ 140737488355328) :
    ∃ v' w', (Builtin.append_ #[t, t] ty #[v, .slice (some a) m c]).run P w = .ok v' w' ∧ w'.ownsRow 0 e size v' (n + m) (xs ++ news) ∧ w.grownBy w' v.ownBlock ∧ (∀ k, v'.ownBlock = some k → v.ownBlock = some k ∨ w.heap.size ≤ k) := by
  rcases hown.2 with ⟨rfl, rfl⟩ | ⟨g, cap, cur, rfl, hbg, hg, hnc, hcm, hcs, htake⟩
  · have hx : xs = [] := List.eq_nil_of_length_eq_zero (by simpa using hown.1)
    subst hx
    obtain ⟨v', w', hr, h2, h3, h4⟩ := run_append_own (P := P) w w.heap.size t ty e i z size bytes ht hi hz hsize hby hzs hsz _ 0 [] (World.ownsRow_nil w w.heap.size e size) a m c news hl hnews h1 h63 hbytes (Nat.le_refl _)
    exact ⟨v', w', hr, own_base h2 (Nat.zero_le _), h3, fun k hk => .inr (h2.lt k hk).1⟩
  · obtain ⟨v', w', hr, h2, h3, h4⟩ := run_append_own (P := P) w 0 t ty e i z size bytes ht hi hz hsize hby hzs hsz _ n xs hown a m c news hl hnews h1 h63 hbytes (Nat.zero_le _)
    refine ⟨v', w', hr, h2, h3, fun k hk => ?_⟩
    subst hsize
    by_cases hroom : n + m ≤ cap
    · have hfit : n * i.size + news.length ≤ cur.size := by rw [hl, hcs, ← Nat.add_mul]; exact Nat.mul_le_mul_right _ hroom
      have hr2 := run_append_room (P := P) w t ty e i ht hi g n cap cur hg a m c news hl hnews h1 hroom hfit
      rw [hr] at hr2
      injection hr2 with e1 e2
      subst e1
      exact .inl hk
    · have holds : ∀ j u, xs[j]? = some u → w.cell? ((⟨g, 0, none⟩ : Addr).add j) = some u := hown.cells (g := g) rfl
      subst hby
      have hr2 := run_append_grow (P := P) w t ty e i z ht hi hz ⟨g, 0, none⟩ n cap xs hown.1 holds a m c news hl hnews (by omega) (by simp only [maxLen] at h63; omega) (growslice_fits (by omega) hbytes)
      rw [hr] at hr2
      injection hr2 with e1 e2
      subst e1
      simp [Value.ownBlock] at hk
      exact .inr (by omega)

/-- append, its run known. -/
theorem wpList_append_run {P : Program} {ops : Array Oper} {rest : List Oper} {o : Oper} {a : Act} {Q : Exit → Act → World → Prop} (hgd : o.guard = none) (s x : Operand) (t : TypeId)
    (ho : o.op = .call { callee := .builtin .append, args := #[s, x], argTypes := #[t, t] }) (w : World) (v vx : Value) (hs : a.eval s = v) (hx : a.eval x = vx) (v' : Value) (w' : World)
    (hr : (Builtin.append_ #[t, t] o.type #[v, vx]).run P w = .ok v' w') (h : wpList P ops Q rest (a.put o.dst v') w') : wpList P ops Q (o :: rest) a w := by
  refine wpList_plain hgd fun K hK => ?_
  unfold Oper.wp
  simp [execOp, ho, resolve, invoke, builtin, hs, hx, hr, Result.andThen]
  exact hK _ _ h


theorem oper_append_run {P : Program} {o : Oper} {a : Act} {K : Act → World → Prop} {Q : Exit → Act → World → Prop} (s x : Operand) (t : TypeId)
    (ho : o.op = .call { callee := .builtin .append, args := #[s, x], argTypes := #[t, t] }) (w : World) (v vx : Value) (hs : a.eval s = v) (hx : a.eval x = vx) (v' : Value) (w' : World)
    (hr : (Builtin.append_ #[t, t] o.type #[v, vx]).run P w = .ok v' w') (h : K (a.put o.dst v') w') : Oper.wp P o a w K Q := by
  unfold Oper.wp
  simp [execOp, ho, resolve, invoke, builtin, hs, hx, hr, Result.andThen]
  exact h
theorem Tryd.infoB1 : (Tryd.prog.info? 5).map (fun i => (i.zero, i.size, i.bytes)) = some (some (.int .u8 0), 1, 1) := by kernel_rfl

/-- A row of bytes of one's own. -/
def BRow (w : World) (v : Value) (l : List UInt8) : Prop := w.ownsRow 0 5 1 v l.length (bv l)
def blk (v : Value) : List Nat := v.ownBlock.toList
theorem mem_blk {v : Value} {k : Nat} : k ∈ blk v ↔ v.ownBlock = some k := by unfold blk; cases v.ownBlock <;> simp [eq_comm]
theorem BRow.lt {w : World} {v : Value} {l : List UInt8} (h : BRow w v l) : ∀ k, k ∈ blk v → k < w.heap.size := fun k hk => (World.ownsRow.lt h k (mem_blk.1 hk)).2
theorem BRow.only {w w' : World} {v : Value} {l : List UInt8} {S : List Nat} (h : BRow w v l) (ho : Only S w w') (hs : Apart (blk v) S) : BRow w' v l := own_only h ho (fun k hk => hs k (mem_blk.2 hk))
theorem BRow.alloc {w : World} {v : Value} {l : List UInt8} (h : BRow w v l) (o : Obj) : BRow (w.alloc o) v l := h.only (S := []) ((Only.refl [] w).alloc o) (fun k _ hk => by cases hk)
theorem BRow.shape {w : World} {v : Value} {l : List UInt8} (h : BRow w v l) : ∃ A c, v = .slice A l.length c ∧ l.length ≤ c ∧ c ≤ maxLen := own_shape h
theorem BRow.sees {w : World} {A : Option Addr} {n c : Nat} {l : List UInt8} (h : BRow w (.slice A n c) l) : Sees w w.heap.size A l := by
  obtain ⟨A', c', e, _⟩ := h.shape
  injection e with e1 e2 e3
  subst e1 e2 e3
  exact Sees.of_own h
theorem BRow.nil (w : World) : BRow w (.slice none 0 0) [] := World.ownsRow_nil w 0 5 1
theorem BRow.lit (w : World) (n : Nat) : BRow (w.alloc (.cells #[] 5)) (.slice (some ⟨w.heap.size, 0, none⟩) 0 0) [] := World.ownsRow_lit w #[] 0 (Nat.zero_le _) (by decide) rfl

/-- append of one byte, which the walk has just laid into a block of its own. -/
theorem brow_one (w : World) (v : Value) (l : List UInt8) (h : BRow w v l) (b : UInt8) (z : Int) (hz : z = (b.toNat : Int)) (hl : l.length + 1 ≤ 140737488355328) (ty : TypeId) :
    ∃ v' w', (Builtin.append_ #[55, 55] ty #[v, .slice (some ⟨w.heap.size, 0, none⟩) 1 1]).run Tryd.prog (w.alloc (.cells #[.int .u8 z] 5)) = .ok v' w' ∧ BRow w' v' (l ++ [b]) ∧ Only (blk v) w w' ∧ Grows (blk v) (blk v') w := by
  subst hz
  obtain ⟨i0, hi, hz0, hz1, hz2⟩ := info_parts Tryd.infoB1
  obtain ⟨v', w', hr, h2, h3, h4⟩ := run_append_here (P := Tryd.prog) (w.alloc (.cells #[.int .u8 (b.toNat : Int)] 5)) 55 ty 5 i0 _ 1 1 Tryd.underlying55 hi hz0 hz1 hz2 rfl (by decide)
    v l.length (bv l) (h.alloc _) ⟨w.heap.size, 0, none⟩ 1 1 [.int .u8 (b.toNat : Int)] rfl (fun j u hu => by
      match j, hu with
      | 0, hu => simp at hu; subst hu; simp [Addr.add]) (by intro u hu; simp at hu; subst hu; rfl) (by unfold maxLen; omega) (by omega)
  refine ⟨v', w', hr, ?_, ?_, fun k hk => ?_⟩
  · have e1 : (l ++ [b]).length = l.length + 1 := by simp
    have e2 : bv (l ++ [b]) = bv l ++ [.int .u8 (b.toNat : Int)] := by rw [bv_append]; rfl
    unfold BRow; rw [e1, e2]; exact h2
  · exact (((Only.refl (blk v) w).alloc _)).trans (Only.of_grown h3 (fun k hk => mem_blk.2 hk))
  · rcases h4 k (mem_blk.1 hk) with h5 | h5
    · exact .inl (mem_blk.2 h5)
    · refine .inr ?_
      simp at h5; omega

/-- append of the bytes of whatever slice. -/
theorem brow_sees (w : World) (v : Value) (l : List UInt8) (h : BRow w v l) (B : Nat) (A : Option Addr) (m c : Nat) (r : List UInt8) (hm : m = r.length) (hr : Sees w B A r) (hl : l.length + r.length ≤ 140737488355328) (ty : TypeId) :
    ∃ v' w', (Builtin.append_ #[55, 55] ty #[v, .slice A m c]).run Tryd.prog w = .ok v' w' ∧ BRow w' v' (l ++ r) ∧ Only (blk v) w w' ∧ Grows (blk v) (blk v') w := by
  subst hm
  obtain ⟨i0, hi, hz0, hz1, hz2⟩ := info_parts Tryd.infoB1
  cases A with
  | none =>
    have h0 : r = [] := Classical.byContradiction fun hn => by
      obtain ⟨g, o, e, _⟩ := hr hn
      cases e
    subst h0
    refine ⟨v, w, ?_, by simpa using h, Only.refl _ _, Grows.refl _ _⟩
    rcases h.2 with ⟨rfl, _⟩ | ⟨g, cap, cur, rfl, _, _, hnc, _⟩
    · simp [Builtin.append_, run_underlying Tryd.underlying55, sizeOf, typeInfo, hi, Builtin.lenOf, Builtin.firstCells]
    · simp [Builtin.append_, run_underlying Tryd.underlying55, sizeOf, typeInfo, hi, Builtin.lenOf, Builtin.firstCells, hnc, storeCells]
  | some ad =>
    have hcells : ∀ (j : Nat) (u : Value), (bv r)[j]? = some u → w.cell? (ad.add j) = some u := fun j u hu => by
      have hj : j < r.length := by
        have := (List.getElem?_eq_some_iff.1 hu).1
        rwa [bv_length] at this
      have hn : r ≠ [] := fun h => by rw [h] at hj; simp at hj
      obtain ⟨g, o, he, _, hc⟩ := hr hn
      injection he with he
      subst he
      rw [add_to, hc j hj, ← hu, bv_at r j hj]
    obtain ⟨v', w', hrun, h2, h3, h4⟩ := run_append_here (P := Tryd.prog) w 55 ty 5 i0 _ 1 1 Tryd.underlying55 hi hz0 hz1 hz2 rfl (by decide) v l.length (bv l) h ad r.length c (bv r) (by rw [bv_length, Nat.mul_one]) hcells
      (by intro u hu; unfold bv at hu; simp at hu; obtain ⟨b, _, rfl⟩ := hu; rfl) (by unfold maxLen; omega) (by omega)
    refine ⟨v', w', hrun, ?_, Only.of_grown h3 (fun k hk => mem_blk.2 hk), fun k hk => ?_⟩
    · unfold BRow; rw [List.length_append, bv_append]; exact h2
    · rcases h4 k (mem_blk.1 hk) with h5 | h5
      · exact .inl (mem_blk.2 h5)
      · exact .inr h5

/-- A row of bytes handed back: what a call made of the row v. -/
def RowEnd (v : Value) (l : List UInt8) (w : World) (e : Ending) (w' : World) : Prop := ∃ v', e = .returned v' ∧ BRow w' v' l ∧ Only (blk v) w w' ∧ Grows (blk v) (blk v') w
end Go.Proofs.YtgkibkophoikoaaDoor
