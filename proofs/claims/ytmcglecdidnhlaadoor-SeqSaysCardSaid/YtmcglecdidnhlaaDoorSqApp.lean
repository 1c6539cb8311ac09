/- append of one pair, of one number, which the walk has just laid into a block of its own, to a row of the call's own. -/
import Derived.Test.YtmcglecdidnhlaaDoorSqMem
import Derived.Laws.AppendOwn
import Derived.OwnWalkIn
namespace Go.Proofs.YtmcglecdidnhlaaDoor
open Go.RowKit
set_option linter.unusedVariables false

theorem row_app {P : Program} (w : World) (t ty e : TypeId) (z : Value) (size bytes : Nat) (hinfo : (P.info? e).map (fun i => (i.zero, i.size, i.bytes)) = some (some z, size, bytes)) (ht : P.underlying t = some (.slice e)) (hzs : z.cells.size = size) (hsz : 0 < size) (hb8 : bytes ≤ 16)
    (base : Nat) (v : Value) (n : Nat) (xs : List Value) (h : w.ownsRow base e size v n xs) (news : List Value) (hn : news.length = size) (h1 : ∀ u ∈ news, u.oneCell' = true) (hl : n ≤ 1000000000000) (hbase : base ≤ w.heap.size) :
    ∃ v' w', (Builtin.append_ #[t, t] ty #[v, .slice (some ⟨w.heap.size, 0, none⟩) 1 1]).run P (w.alloc (.cells news.toArray e)) = .ok v' w' ∧ w'.ownsRow base e size v' (n + 1) (xs ++ news) ∧ (w.alloc (.cells news.toArray e)).grownBy w' v.ownBlock ∧ Below base w w' ∧ ∃ A c, v' = .slice A (n + 1) c := by
  obtain ⟨i0, hi, hz0, hz1, hz2⟩ := info_parts hinfo
  have hmul : (n + 1) * bytes ≤ (n + 1) * 16 := Nat.mul_le_mul_left _ hb8
  obtain ⟨v', w', hr, h2, h3, _⟩ := run_append_own (P := P) (w.alloc (.cells news.toArray e)) base t ty e i0 _ size bytes ht hi hz0 hz1 hz2 hzs hsz v n xs (h.alloc _) ⟨w.heap.size, 0, none⟩ 1 1 news (by omega) (fun j u hu => by
    rw [add_to, Nat.zero_add, World.cell?_alloc_at _ _ _ _ rfl, ← Array.getElem?_toList]; simpa using hu) h1 (by unfold maxLen; omega) (by omega) (by simp; omega)
  refine ⟨v', w', hr, h2, h3, ((Below.refl base w).alloc hbase _).grown h3 (by simp; omega) (fun k hk => (h.lt k hk).1), ?_⟩
  obtain ⟨A, c, e, _⟩ := own_shape h2
  exact ⟨A, c, e⟩
theorem Tryd.infoSpan : (Tryd.prog.info? 48).map (fun i => (i.zero, i.size, i.bytes)) = some (some (.agg #[.int .i64 0, .int .i64 0]), 2, 16) := by kernel_rfl
theorem Tryd.infoSpanR : (Tryd.prog.info? 65).map (fun i => (i.zero, i.size, i.bytes)) = some (some (.agg #[.int .i64 0, .int .i64 0]), 2, 16) := by kernel_rfl
theorem Tryd.infoI64 : (Tryd.prog.info? 2).map (fun i => (i.zero, i.size, i.bytes)) = some (some (.int .i64 0), 1, 8) := by kernel_rfl
/-- A pair more. -/
theorem span_app (w : World) (t ty e : TypeId) (hinfo : (Tryd.prog.info? e).map (fun i => (i.zero, i.size, i.bytes)) = some (some (.agg #[.int .i64 0, .int .i64 0]), 2, 16)) (ht : Tryd.prog.underlying t = some (.slice e)) (base : Nat) (v : Value) (L : List (Int × Int)) (n : Nat) (hn : n = L.length) (h : w.ownsRow base e 2 v n (sp L)) (a b : Int) (hl : n ≤ 1000000000000) (hbase : base ≤ w.heap.size) :
    ∃ v' w', (Builtin.append_ #[t, t] ty #[v, .slice (some ⟨w.heap.size, 0, none⟩) 1 1]).run Tryd.prog (w.alloc (.cells #[.int .i64 a, .int .i64 b] e)) = .ok v' w' ∧ w'.ownsRow base e 2 v' (n + 1) (sp (L ++ [(a, b)])) ∧ (w.alloc (.cells #[.int .i64 a, .int .i64 b] e)).grownBy w' v.ownBlock ∧ Below base w w' ∧ ∃ A c, v' = .slice A (n + 1) c := by
  rw [sp_append]
  exact row_app w t ty e _ 2 16 hinfo ht rfl (by decide) (by decide) base v n _ h [.int .i64 a, .int .i64 b] rfl (by intro u hu; simp at hu; rcases hu with rfl | rfl <;> rfl) hl hbase
theorem int_app (w : World) (ty : TypeId) (base : Nat) (v : Value) (l : List Int) (n : Nat) (hn : n = l.length) (h : w.ownsRow base 2 1 v n (li l)) (a : Int) (hl : n ≤ 1000000000000) (hbase : base ≤ w.heap.size) :
    ∃ v' w', (Builtin.append_ #[30, 30] ty #[v, .slice (some ⟨w.heap.size, 0, none⟩) 1 1]).run Tryd.prog (w.alloc (.cells #[.int .i64 a] 2)) = .ok v' w' ∧ w'.ownsRow base 2 1 v' (n + 1) (li (l ++ [a])) ∧ (w.alloc (.cells #[.int .i64 a] 2)).grownBy w' v.ownBlock ∧ Below base w w' ∧ ∃ A c, v' = .slice A (n + 1) c := by
  rw [li_append]
  exact row_app w _ ty _ _ 1 8 Tryd.infoI64 Tryd.underlying30 rfl (by decide) (by decide) base v n _ h [.int .i64 a] rfl (by intro u hu; simp at hu; subst hu; rfl) hl hbase
theorem wpListIn_append_run {F : Fence} {n : Nat} {P : Program} {ops : Array Oper} {rest : List Oper} {o : Oper} {a : Act} {Q : Exit → Act → World → Prop} (hg : o.guard = none) (s x : Operand) (t : TypeId)
    (ho : o.op = .call { callee := .builtin .append, args := #[s, x], argTypes := #[t, t] }) (w : World) (v vx : Value) (hs : a.eval s = v) (hx : a.eval x = vx) (v' : Value) (w' : World)
    (hr : (Builtin.append_ #[t, t] o.type #[v, vx]).run P w = .ok v' w') (h : wpListIn F n P ops Q rest (a.put o.dst v') w') : wpListIn F n P ops Q (o :: rest) a w := by
  refine wpListIn_plain hg fun K hK => ?_
  unfold Oper.wpIn
  refine ⟨by simp [Oper.about, ho, resolve, Target.leads, Sem.run_pure], ?_⟩
  rw [Oper.semAt_plain F _ _ (by rw [ho]; intro c hc; cases hc)]
  simp [execOp, ho, resolve, invoke, builtin, hs, hx, hr, Result.andThen]
  exact hK _ _ h
end Go.Proofs.YtmcglecdidnhlaaDoor
