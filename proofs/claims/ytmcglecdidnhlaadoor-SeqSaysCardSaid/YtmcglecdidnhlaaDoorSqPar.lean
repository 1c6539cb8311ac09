/- t.L = append(t.L, Span{..}): what is known while its operations come up, at whichever of the two types. -/
import Derived.Test.YtmcglecdidnhlaaDoorFlags
import Derived.Test.YtmcglecdidnhlaaDoorSqApp
import Derived.Test.YtmcglecdidnhlaaDoorSqRet
namespace Go.Proofs.YtmcglecdidnhlaaDoor
open Go.RowKit
set_option linter.unusedVariables false
set_option maxRecDepth 100000

/-- append of one pair that lies in a block of its own, wherever. -/
theorem pair_app_at {t e : TypeId} (hinfo : (Tryd.prog.info? e).map (fun i => (i.zero, i.size, i.bytes)) = some (some (.agg #[.int .i64 0, .int .i64 0]), 2, 16)) (ht : Tryd.prog.underlying t = some (.slice e)) (w : World) (ty : TypeId) (base : Nat) (v : Value) (L : List (Int × Int)) (n : Nat) (hn : n = L.length) (h : w.ownsRow base e 2 v n (sp L)) (a b : Int) (q : Nat) (hq : Blk w q e #[.int .i64 a, .int .i64 b]) (hl : n ≤ 1000000000000) (hbase : base ≤ w.heap.size) :
    ∃ v' w', (Builtin.append_ #[t, t] ty #[v, .slice (some ⟨q, 0, none⟩) 1 1]).run Tryd.prog w = .ok v' w' ∧ w'.ownsRow base e 2 v' (n + 1) (sp (L ++ [(a, b)])) ∧ w.grownBy w' v.ownBlock ∧ ∃ A c, v' = .slice A (n + 1) c := by
  obtain ⟨i0, hi, hz0, hz1, hz2⟩ := info_parts hinfo
  obtain ⟨v', w', hr, h2, h3, _⟩ := run_append_own (P := Tryd.prog) w base t ty e i0 _ 2 16 ht hi hz0 hz1 hz2 rfl (by decide) v n (sp L) h ⟨q, 0, none⟩ 1 1 [.int .i64 a, .int .i64 b] rfl (fun j u hu => by
    rw [add_to, Nat.zero_add]; exact hq.cell j u (by simpa using hu)) (by intro u hu; simp at hu; rcases hu with rfl | rfl <;> rfl) (by unfold maxLen; omega) (by omega) hbase
  obtain ⟨A, c, e, _⟩ := own_shape h2
  exact ⟨v', w', hr, by rw [sp_append]; exact h2, h3, A, c, e⟩

structure PaS (ts te : TypeId) (B : Nat) (w1 : World) (bt : Nat) (v : Value) (m : Nat) (L : List (Int × Int)) (a b : Int) (f : Nat → Bool) (R : Nat → Value) (w : World) : Prop where
  only : Only (bt :: blk v) w1 w
  box0 : f 2 = false → Blk w bt ts #[v]
  box1 : f 2 = true → Blk w bt ts #[R 1]
  row0 : f 1 = false → w.ownsRow B te 2 v m (sp L)
  lit : f 0 = true → f 1 = false → ∃ q, R 0 = .slice (some ⟨q, 0, none⟩) 1 1 ∧ Blk w q te #[.int .i64 a, .int .i64 b]
  row1 : f 1 = true → w.ownsRow B te 2 (R 1) (m + 1) (sp (L ++ [(a, b)])) ∧ ∃ A c, R 1 = .slice A (m + 1) c
section
variable {ts te tl : TypeId} {B : Nat} {w1 w : World} {bt m : Nat} {v : Value} {L : List (Int × Int)} {a b : Int} {f : Nat → Bool} {R : Nat → Value}
theorem PaS.start (hb : Blk w1 bt ts #[v]) (hr : w1.ownsRow B te 2 v m (sp L)) : PaS ts te B w1 bt v m L a b (fun _ => false) R w1.drew :=
  ⟨Only.of_below (Below.refl _ _).drew, fun _ => hb, fun h => absurd h (by simp), fun _ => hr, fun h => absurd h (by simp), fun h => absurd h (by simp)⟩
theorem PaS.s0 (h : PaS ts te B w1 bt v m L a b f R w) (h1 : f 1 = false) (h2 : f 2 = false) : PaS ts te B w1 bt v m L a b (setF f 0) (setR R 0 (.slice (some ⟨w.heap.size, 0, none⟩) 1 1)) (w.alloc (.cells #[.int .i64 a, .int .i64 b] te)) := by
  refine ⟨h.only.alloc _, fun c => ?_, fun c => ?_, fun c => ?_, fun _ _ => ⟨w.heap.size, setR_self .., Blk.new w _ _⟩, fun c => ?_⟩
  · rw [setF_ne _ (by decide)] at c; exact (h.box0 c).alloc _
  · rw [setF_ne _ (by decide), h2] at c; cases c
  · rw [setF_ne _ (by decide)] at c; exact (h.row0 c).alloc _
  · rw [setF_ne _ (by decide), h1] at c; cases c
theorem PaS.s1 (h : PaS ts te B w1 bt v m L a b f R w) (hinfo : (Tryd.prog.info? te).map (fun i => (i.zero, i.size, i.bytes)) = some (some (.agg #[.int .i64 0, .int .i64 0]), 2, 16)) (ht : Tryd.prog.underlying tl = some (.slice te)) (hne : ts ≠ te) (h0 : f 0 = true) (h1 : f 1 = false) (h2 : f 2 = false) (hm : m = L.length) (hl : m ≤ 1000000) (hB : B ≤ w1.heap.size) (ty : TypeId) :
    ∃ v' w', (Builtin.append_ #[tl, tl] ty #[v, R 0]).run Tryd.prog w = .ok v' w' ∧ PaS ts te B w1 bt v m L a b (setF f 1) (setR R 1 v') w' := by
  obtain ⟨q, b1, b2⟩ := h.lit h0 h1
  obtain ⟨v', w', hr, q1, q2, q3⟩ := pair_app_at hinfo ht w ty B v L m hm (h.row0 h1) a b q b2 (by omega) (Nat.le_trans hB h.only.size)
  refine ⟨v', w', by rw [b1]; exact hr, ⟨h.only.trans ((Only.of_grown q2 (fun k hk => List.mem_cons_of_mem _ (mem_blk.2 hk)))), fun c => ?_, fun c => ?_, fun c => ?_, fun c c' => ?_, fun c => ?_⟩⟩
  · exact (h.box0 h2).grown q2 ((h.box0 h2).apart hne (h.row0 h1))
  · rw [setF_ne _ (by decide), h2] at c; cases c
  · rw [setF_self] at c; cases c
  · rw [setF_self] at c'; cases c'
  · rw [setR_self]; exact ⟨q1, q3⟩
theorem PaS.s2 (h : PaS ts te B w1 bt v m L a b f R w) (hne : ts ≠ te) (h1 : f 1 = true) (h2 : f 2 = false) : ∃ A n c, R 1 = .slice A n c ∧ w.frozen? ⟨bt, 0, none⟩ = false ∧ PaS ts te B w1 bt v m L a b (setF f 2) R (w.setCell ⟨bt, 0, none⟩ (.slice A n c)) := by
  obtain ⟨q1, A, c, q2⟩ := h.row1 h1
  have hb := h.box0 h2
  refine ⟨A, m + 1, c, q2, hb.frozen 0, ⟨h.only.setCell (.inl (by simp)) _, fun c => ?_, fun c => ?_, fun c => ?_, fun c c' => ?_, fun c => ?_⟩⟩
  · rw [setF_self] at c; cases c
  · rw [q2]; exact hb.set 0 _
  · rw [setF_ne _ (by decide), h1] at c; cases c
  · rw [setF_ne _ (by decide), h1] at c'; cases c'
  · exact ⟨row_set q1 (hb.apart hne q1) _, A, _, q2⟩
/-- What is neither the box nor the row is left alone. -/
theorem PaS.far (h : PaS ts te B w1 bt v m L a b f R w) (hr : w1.ownsRow B te 2 v m (sp L)) (hB : B ≤ bt) {i : Nat} (hi : i < B) (hiw : i < w1.heap.size) : w.heap[i]? = w1.heap[i]? := h.only.block i hiw (fun hm => by
  rcases List.mem_cons.1 hm with e | hm
  · omega
  · have := (hr.lt i (mem_blk.1 hm)).1; omega)
end

/-- A set in the making: x.L read below block B (its box bs), t's box bt and row above. -/
structure PaInv (ts te : TypeId) (B : Nat) (w1 wr : World) (bt : Nat) (A : Option Addr) (m c : Nat) (L : List (Int × Int)) : Prop where
  bel : Below B w1 wr
  box : Blk wr bt ts #[.slice A m c]
  len : m = L.length
  row : wr.ownsRow B te 2 (.slice A m c) m (sp L)
theorem PaInv.more {ts te : TypeId} {B : Nat} {w1 wr w' : World} {bt : Nat} {A : Option Addr} {m c : Nat} {L : List (Int × Int)} {a b : Int} {f : Nat → Bool} {R : Nat → Value} (h : PaInv ts te B w1 wr bt A m c L) (hB : B ≤ bt) (hBw : B ≤ w1.heap.size) (hS : PaS ts te B wr bt (.slice A m c) m L a b f R w') (hall : ∀ j, j < 3 → f j = true) :
    ∃ A' c', PaInv ts te B w1 w' bt A' (m + 1) c' (L ++ [(a, b)]) := by
  obtain ⟨q1, A', c', q2⟩ := hS.row1 (hall 1 (by decide))
  have hbx := hS.box1 (hall 2 (by decide))
  rw [q2] at q1 hbx
  exact ⟨A', c', ⟨⟨hS.only.os.trans h.bel.os, hS.only.tape.trans h.bel.tape, hS.only.output.trans h.bel.output, Nat.le_trans h.bel.size hS.only.size, fun i hi => (hS.far h.row hB hi (by have := h.bel.size; omega)).trans (h.bel.block i hi)⟩, hbx, by rw [List.length_append, ← h.len]; rfl, q1⟩⟩
end Go.Proofs.YtmcglecdidnhlaaDoor
