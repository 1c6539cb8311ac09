/- append of whatever slice, as a step of a region that draws its order; rows of strings. -/
import Derived.Test.YtgmimhhehmahiaaQueLive
import Derived.Maps.AppendAt
namespace Go.Proofs.Ytgmimhhehmahiaa
open Go.Conc Go.RowKit
set_option linter.unusedVariables false

/-- The cells of strings. -/
def sv (ss : List ByteArray) : List Value := ss.map Value.string
theorem sv_length (ss : List ByteArray) : (sv ss).length = ss.length := by simp [sv]
theorem sv_append (a b : List ByteArray) : sv (a ++ b) = sv a ++ sv b := by simp [sv]
theorem sv_at (ss : List ByteArray) (j : Nat) (h : j < ss.length) : (sv ss)[j]? = some (.string ss[j]) := by simp [sv, List.getElem?_eq_getElem h]
theorem sv_one (ss : List ByteArray) : ∀ u, u ∈ sv ss → u.oneCell' = true := by
  intro u hu; unfold sv at hu; simp at hu; obtain ⟨b, _, rfl⟩ := hu; rfl

theorem run_append_vals {P : Program} (w : World) (base : Nat) (t ty e : TypeId) (i : TypeInfo) (z : Value) (bytes : Nat) (ht : P.underlying t = some (.slice e)) (hi : P.info? e = some i) (hz : i.zero = some z)
    (hsize : i.size = 1) (hby : i.bytes = bytes) (hzs : z.cells.size = 1)
    (v : Value) (n : Nat) (xs : List Value) (hown : w.ownsRow base e 1 v n xs) (A : Option Addr) (news : List Value) (m c : Nat) (hm : news.length = m)
    (hnews : ∀ j u, news[j]? = some u → ∃ ad, A = some ad ∧ w.cell? (ad.add j) = some u) (h1 : ∀ u, u ∈ news → u.oneCell' = true)
    (h63 : n + m ≤ maxLen) (hbytes : (n + m) * bytes ≤ 140737488355328) (hbase : base ≤ w.heap.size) :
    ∃ v' w', (Builtin.append_ #[t, t] ty #[v, .slice A m c]).run P w = .ok v' w' ∧ w'.ownsRow base e 1 v' (n + m) (xs ++ news) ∧ w.grownBy w' v.ownBlock := by
  subst hm
  have kept : w.grownBy w v.ownBlock := ⟨rfl, rfl, rfl, Nat.le_refl _, fun _ _ _ => rfl⟩
  cases A with
  | none =>
    obtain rfl : news = [] := Classical.byContradiction fun hn => by
      have hp := List.length_pos_iff.2 hn
      obtain ⟨_, h, _⟩ := hnews 0 news[0] (List.getElem?_eq_getElem hp)
      cases h
    refine ⟨v, w, ?_, by simpa using hown, kept⟩
    rcases hown.2 with ⟨rfl, _⟩ | ⟨g, cap, cur, rfl, _, _, hnc, _⟩
    · simp [Builtin.append_, run_underlying ht, sizeOf, typeInfo, hi, Builtin.lenOf, Builtin.firstCells]
    · simp [Builtin.append_, run_underlying ht, sizeOf, typeInfo, hi, Builtin.lenOf, Builtin.firstCells, hnc, storeCells]
  | some ad =>
    have hcells : ∀ (j : Nat) (u : Value), news[j]? = some u → w.cell? (ad.add j) = some u := fun j u hu => by
      obtain ⟨ad', e, h⟩ := hnews j u hu
      injection e with e; subst e; exact h
    obtain ⟨v', w', hrun, h2, h3, _, _⟩ := run_append_own_at (P := P) w base t ty e i z 1 bytes ht hi hz hsize hby hzs (by decide) v n xs hown ad news.length c news (by rw [Nat.mul_one]) hcells h1 h63 hbytes hbase
    exact ⟨v', w', hrun, h2, h3⟩

theorem step_append_vals {P : Program} {ops : Array Oper} {o : Oper} {a : Act} {K : Act → World → Prop} {Q : Exit → Act → World → Prop} {E : Prop} {w : World} (hgd : o.guard = none) (s x : Operand) (t : TypeId)
    (ho : o.op = .call { callee := .builtin .append, args := #[s, x], argTypes := #[t, t] })
    (base : Nat) (e : TypeId) (i : TypeInfo) (z : Value) (bytes : Nat) (ht : P.underlying t = some (.slice e)) (hi : P.info? e = some i) (hz : i.zero = some z)
    (hsize : i.size = 1) (hby : i.bytes = bytes) (hzs : z.cells.size = 1)
    (v : Value) (A : Option Addr) (m c : Nat) (hs : a.eval s = v) (hx : a.eval x = .slice A m c)
    (n : Nat) (xs : List Value) (hown : w.ownsRow base e 1 v n xs) (news : List Value) (hm : news.length = m)
    (hnews : ∀ j u, news[j]? = some u → ∃ ad, A = some ad ∧ w.cell? (ad.add j) = some u) (h1 : ∀ u, u ∈ news → u.oneCell' = true)
    (h63 : n + m ≤ maxLen) (hbytes : (n + m) * bytes ≤ 140737488355328) (hbase : base ≤ w.heap.size)
    (h : ∀ v' w', w'.ownsRow base e 1 v' (n + m) (xs ++ news) → w.grownBy w' v.ownBlock → Below base w w' → K (a.put o.dst v') w') :
    if Region.wanted o (yielded ops a.tmps) = true then Oper.wp P o a w K Q else E := by
  have hw : Region.wanted o (yielded ops a.tmps) = true := by simp [Region.wanted, hgd]
  rw [if_pos hw]
  obtain ⟨v', w', hrun, h2, h3⟩ := run_append_vals (P := P) w base t o.type e i z bytes ht hi hz hsize hby hzs v n xs hown A news m c hm hnews h1 h63 hbytes hbase
  have hbl : Below base w w' := (Below.refl base w).grown h3 hbase (fun k hk => (hown.lt k hk).1)
  unfold Oper.wp execOp
  simp only [ho, resolve, invoke, builtin, Sem.run_bind, Sem.run_pure, Result.andThen_ok, List.map_toArray, List.map_cons, List.map_nil, hs, hx, hrun]
  exact h v' w' h2 h3 hbl

theorem heap_at (W : World) (b : Nat) (h : b = W.heap.size) (o : Obj) : (W.alloc o).heap[b]? = some o := by subst h; exact heap_alloc_new _ _
theorem heap_past (W : World) (b : Nat) (h : b < W.heap.size) (o : Obj) {x : Obj} (hx : W.heap[b]? = some x) : (W.alloc o).heap[b]? = some x := (Below.heap_alloc _ _ _ h).trans hx
theorem heap_drew {W : World} {b : Nat} {x : Option Obj} (h : W.heap[b]? = x) : W.drew.heap[b]? = x := h
theorem own_drew {W : World} {base e size n : Nat} {v : Value} {xs : List Value} (h : W.ownsRow base e size v n xs) : W.drew.ownsRow base e size v n xs := h
theorem bel_alloc {w W : World} (h : Below w.heap.size w W) (o : Obj) : Below w.heap.size w (W.alloc o) := h.alloc h.size o
theorem heap_grown {wX w1 : World} {row : Option Nat} (hg : wX.grownBy w1 row) (b : Nat) (hb : b < wX.heap.size) (hne : some b ≠ row) {x : Obj} (hx : wX.heap[b]? = some x) : w1.heap[b]? = some x := (hg.block b hb hne).trans hx

section
variable {B : Nat} {w0 wp : World} {N rm xb : Nat} {op : Int} {kq kt : Nat} {s : ByteArray} {Fq Fw : Nat → List ByteArray} {Cq Ck : Nat → Bool}
/-- What the loads of the act and of one row read stays readable while new blocks come and while the row's own cell is written. -/
def rdCell (w : World) (a : Addr) : Value := (w.cell? a).getD undef
theorem rdCell_of {w : World} {a : Addr} {v : Value} (h : w.cell? a = some v) : w.cell? a = some (rdCell w a) ∧ rdCell w a = v := by unfold rdCell; rw [h]; exact ⟨rfl, rfl⟩
theorem rdCell_alloc (b o : Nat) (W : World) (x : Obj) (h : b < W.heap.size) : rdCell (W.alloc x) ⟨b, o, none⟩ = rdCell W ⟨b, o, none⟩ := by unfold rdCell; rw [World.cell?_of_block (w := W) (a := ⟨b, o, none⟩) (Below.heap_alloc _ _ _ h)]
theorem keep_row (hL : Live B w0 N rm xb op kq kt s Fq Fw Cq Ck wp) {k : Nat} (hk : k < 3) {A : Option Addr} {n cap : Nat} (hr : wp.cell? ⟨N + 6 + 1, k, none⟩ = some (.slice A n cap)) {w' : World} (hb : Below wp.heap.size wp w') :
    w'.cell? ⟨xb, 1, none⟩ = some (.int .i64 kq) ∧ w'.cell? ⟨xb, 2, none⟩ = some (.int .i64 kt) ∧ w'.cell? ⟨xb, 3, none⟩ = some (.string s) ∧ w'.cell? ⟨N + 6 + 1, k, none⟩ = some (rdCell w' ⟨N + 6 + 1, k, none⟩) ∧ w'.frozen? ⟨N + 6 + 1, k, none⟩ = false := by
  have hl := hL.act.lt
  have hz := hL.inv.size
  exact ⟨(hb.cell (p := ⟨xb, 1, none⟩) hl).trans hL.act.x1, (hb.cell (p := ⟨xb, 2, none⟩) hl).trans hL.act.x2, (hb.cell (p := ⟨xb, 3, none⟩) hl).trans hL.act.x3,
    (rdCell_of ((hb.cell (p := ⟨N + 6 + 1, k, none⟩) (by show N + 6 + 1 < _; omega)).trans hr)).1, (hb.frozen (p := ⟨N + 6 + 1, k, none⟩) (by show N + 6 + 1 < _; omega)).trans (hL.inv.rowf k hk)⟩
theorem keep_store {W : World} {k : Nat} {a b c : Value} (hx : N + 9 ≤ xb) (h : W.cell? ⟨xb, 1, none⟩ = some a ∧ W.cell? ⟨xb, 2, none⟩ = some b ∧ W.cell? ⟨xb, 3, none⟩ = some c ∧ W.cell? ⟨N + 6 + 1, k, none⟩ = some (rdCell W ⟨N + 6 + 1, k, none⟩) ∧ W.frozen? ⟨N + 6 + 1, k, none⟩ = false) (v : Value) :
    (W.setCell ⟨N + 6 + 1, k, none⟩ v).cell? ⟨xb, 1, none⟩ = some a ∧ (W.setCell ⟨N + 6 + 1, k, none⟩ v).cell? ⟨xb, 2, none⟩ = some b ∧ (W.setCell ⟨N + 6 + 1, k, none⟩ v).cell? ⟨xb, 3, none⟩ = some c ∧
      (W.setCell ⟨N + 6 + 1, k, none⟩ v).cell? ⟨N + 6 + 1, k, none⟩ = some (rdCell (W.setCell ⟨N + 6 + 1, k, none⟩ v) ⟨N + 6 + 1, k, none⟩) ∧ (W.setCell ⟨N + 6 + 1, k, none⟩ v).frozen? ⟨N + 6 + 1, k, none⟩ = false := by
  obtain ⟨h1, h2, h3, h4, h5⟩ := h
  have ne : ∀ i, (⟨N + 6 + 1, k, none⟩ : Addr) ≠ ⟨xb, i, none⟩ := fun i e => by injection e with e _ _; omega
  exact ⟨(World.cell?_setCell_other _ _ _ _ (ne _)).trans h1, (World.cell?_setCell_other _ _ _ _ (ne _)).trans h2, (World.cell?_setCell_other _ _ _ _ (ne _)).trans h3, (rdCell_of (World.cell?_setCell_same _ _ _ h4)).1, (World.frozen?_setCell _ _ _ _).trans h5⟩
theorem keep_row2 (hL : Live B w0 N rm xb op kq kt s Fq Fw Cq Ck wp) {k k2 : Nat} (hk : k < 3) (hk2 : k2 < 3) {A A2 : Option Addr} {n cap n2 cap2 g o : Nat} {x : ByteArray} (hr : wp.cell? ⟨N + 6 + 1, k, none⟩ = some (.slice A n cap)) (hr2 : wp.cell? ⟨N + 6 + 1, k2, none⟩ = some (.slice A2 n2 cap2)) (hg : g < wp.heap.size) (hc : wp.cell? ⟨g, o, none⟩ = some (.string x)) {w' : World} (hb : Below wp.heap.size wp w') :
    w'.cell? ⟨xb, 1, none⟩ = some (.int .i64 kq) ∧ w'.cell? ⟨xb, 2, none⟩ = some (.int .i64 kt) ∧ w'.cell? ⟨N + 6 + 1, k, none⟩ = some (.slice A n cap) ∧ w'.cell? ⟨N + 6 + 1, k2, none⟩ = some (rdCell w' ⟨N + 6 + 1, k2, none⟩) ∧ w'.frozen? ⟨N + 6 + 1, k2, none⟩ = false ∧ w'.cell? ⟨g, o, none⟩ = some (.string x) := by
  have h2 := keep_row hL hk2 hr2 hb
  have hz := hL.inv.size
  exact ⟨h2.1, h2.2.1, (hb.cell (p := ⟨N + 6 + 1, k, none⟩) (by show N + 6 + 1 < _; omega)).trans hr, h2.2.2.2.1, h2.2.2.2.2, (hb.cell (p := ⟨g, o, none⟩) hg).trans hc⟩
theorem keep_store2 {W : World} {k k2 g o : Nat} {a b c : Value} {x : ByteArray} (hx : N + 9 ≤ xb) (hkk : k ≠ k2) (h : W.cell? ⟨xb, 1, none⟩ = some a ∧ W.cell? ⟨xb, 2, none⟩ = some b ∧ W.cell? ⟨N + 6 + 1, k, none⟩ = some c ∧ W.cell? ⟨N + 6 + 1, k2, none⟩ = some (rdCell W ⟨N + 6 + 1, k2, none⟩) ∧ W.frozen? ⟨N + 6 + 1, k2, none⟩ = false ∧ W.cell? ⟨g, o, none⟩ = some (.string x)) (v : Value) (hgo : (⟨N + 6 + 1, k2, none⟩ : Addr) ≠ ⟨g, o, none⟩) :
    (W.setCell ⟨N + 6 + 1, k2, none⟩ v).cell? ⟨xb, 1, none⟩ = some a ∧ (W.setCell ⟨N + 6 + 1, k2, none⟩ v).cell? ⟨xb, 2, none⟩ = some b ∧ (W.setCell ⟨N + 6 + 1, k2, none⟩ v).cell? ⟨N + 6 + 1, k, none⟩ = some c ∧
      (W.setCell ⟨N + 6 + 1, k2, none⟩ v).cell? ⟨N + 6 + 1, k2, none⟩ = some (rdCell (W.setCell ⟨N + 6 + 1, k2, none⟩ v) ⟨N + 6 + 1, k2, none⟩) ∧ (W.setCell ⟨N + 6 + 1, k2, none⟩ v).frozen? ⟨N + 6 + 1, k2, none⟩ = false ∧ (W.setCell ⟨N + 6 + 1, k2, none⟩ v).cell? ⟨g, o, none⟩ = some (.string x) := by
  obtain ⟨h1, h2, h3, h4, h5, h6⟩ := h
  have ne : ∀ i, (⟨N + 6 + 1, k2, none⟩ : Addr) ≠ ⟨xb, i, none⟩ := fun i e => by injection e with e _ _; omega
  exact ⟨(World.cell?_setCell_other _ _ _ _ (ne _)).trans h1, (World.cell?_setCell_other _ _ _ _ (ne _)).trans h2, (World.cell?_setCell_other _ _ _ _ (fun e => hkk (by injection e with _ e _; exact e.symm))).trans h3, (rdCell_of (World.cell?_setCell_same _ _ _ h4)).1, (World.frozen?_setCell _ _ _ _).trans h5, (World.cell?_setCell_other _ _ _ _ hgo).trans h6⟩
end

/-- A literal without elements. -/
theorem own_new0 {w : World} {b base e : Nat} (h : w.heap[b]? = some (.cells #[] e (0, 0))) (hb : base ≤ b) : w.ownsRow base e 1 (.slice (some ⟨b, 0, none⟩) 0 0) 0 [] :=
  ⟨rfl, .inr ⟨b, 0, #[], rfl, hb, h, Nat.le_refl _, Nat.zero_le _, rfl, rfl⟩⟩

theorem Strs.news {w w' : World} {B : Nat} {A : Option Addr} {ss : List ByteArray} (h : Strs w B A ss) (hb : Below B w w') : ∀ j u, (sv ss)[j]? = some u → ∃ ad, A = some ad ∧ w'.cell? (ad.add j) = some u := fun j u hu => by
  have hj : j < ss.length := by
    have := (List.getElem?_eq_some_iff.1 hu).1
    rwa [sv_length] at this
  obtain ⟨g, o, e, hg, hc⟩ := h (fun h0 => by rw [h0] at hj; simp at hj)
  refine ⟨_, e, ?_⟩
  rw [add_to, (hb.cell (p := ⟨g, o + j, none⟩) hg).trans (hc j hj), ← hu, sv_at ss j hj]
theorem news_one {w : World} {b : Nat} {s : ByteArray} {t : TypeId} (h : w.heap[b]? = some (.cells #[.string s] t (0, 0))) : ∀ j u, (sv [s])[j]? = some u → ∃ ad, some (⟨b, 0, none⟩ : Addr) = some ad ∧ w.cell? (ad.add j) = some u := fun j u hu => by
  refine ⟨_, rfl, ?_⟩
  rw [add_to, Nat.zero_add]
  match j, hu with
  | 0, hu => simp [World.cell?, h]; simpa [sv] using hu

theorem Strs.of_own {w : World} {base e c n : Nat} {A : Option Addr} {ss : List ByteArray} (h : w.ownsRow base e 1 (.slice A n c) n (sv ss)) : Strs w w.heap.size A ss ∧ n = ss.length := by
  have hn : n = ss.length := by have := h.1; rw [sv_length] at this; omega
  subst hn
  refine ⟨fun hne => ?_, rfl⟩
  have hpos : 0 < ss.length := List.length_pos_iff.2 hne
  rcases h.2 with ⟨hv, h0⟩ | ⟨g, cap, cur, hv, hb, hg, rest⟩
  · omega
  · injection hv with h1 h2 h3
    subst h1
    refine ⟨g, 0, rfl, (Array.getElem?_eq_some_iff.1 hg).1, fun j hj => ?_⟩
    have := h.cells (g := g) rfl j (.string ss[j]) (sv_at ss j hj)
    rw [add_to] at this
    exact this
/-- s[1:] of a row of strings. -/
theorem run_tail_strs {P : Program} {t e : TypeId} (ht : P.underlying t = some (.slice e)) (hz : ∀ w, (Go.sizeOf e).run P w = .ok 1 w) {A : Option Addr} (n c : Nat) (hc : n + 1 ≤ c) :
    ∃ A', (∀ W, (Instr.slice t (.slice A (n + 1) c) (some (.int .i64 1)) none none).run P W = .ok (.slice A' n (c - 1)) W) ∧ ∀ (w : World) (B : Nat) (x : ByteArray) (r : List ByteArray), r.length = n → Strs w B A (x :: r) → Strs w B A' r := by
  refine ⟨if c = 1 then A else A.map (·.add (1 * 1)), fun W => ?_, fun w B x r hn h hd => ?_⟩
  · have ht' : P.underlying t = some (.slice (P.elem t)) := by simp [Program.elem, ht]
    have he : P.elem t = e := by simp [Program.elem, ht]
    have := run_slice_l W t A (n + 1) c ht' .i64 1 (by omega) (by omega)
    rw [he, hz] at this
    simpa [Result.andThen, sliced] using this
  · obtain ⟨g, o, rfl, hg, hcell⟩ := h (by simp)
    have hpos := List.length_pos_iff.2 hd
    rw [if_neg (by omega)]
    refine ⟨g, o + 1, by rw [Option.map_some, Nat.mul_one, add_to], hg, fun j hj => ?_⟩
    have := hcell (j + 1) (by simp; omega)
    rw [show o + 1 + j = o + (j + 1) by omega, this]
    simp
/-- append(E{}, x..): the empty literal's block is found by the frame, in whatever order the region came to it. -/
theorem step_append_lit0 {P : Program} {ops : Array Oper} {o : Oper} {a : Act} {K : Act → World → Prop} {Q : Exit → Act → World → Prop} {E : Prop} {w : World} (hgd : o.guard = none) (s x : Operand) (t : TypeId)
    (ho : o.op = .call { callee := .builtin .append, args := #[s, x], argTypes := #[t, t] })
    (base : Nat) (e : TypeId) (i : TypeInfo) (z : Value) (bytes : Nat) (ht : P.underlying t = some (.slice e)) (hi : P.info? e = some i) (hz : i.zero = some z)
    (hsize : i.size = 1) (hby : i.bytes = bytes) (hzs : z.cells.size = 1) (news : List Value) (m : Nat) (hm : news.length = m)
    (hs : ∃ b, a.eval s = .slice (some ⟨b, 0, none⟩) 0 0 ∧ w.heap[b]? = some (.cells #[] e (0, 0)) ∧ base ≤ b)
    (hx : ∃ A c, a.eval x = .slice A m c ∧ ∀ j u, news[j]? = some u → ∃ ad, A = some ad ∧ w.cell? (ad.add j) = some u) (h1 : ∀ u, u ∈ news → u.oneCell' = true)
    (h63 : m ≤ maxLen) (hbytes : m * bytes ≤ 140737488355328) (hbase : base ≤ w.heap.size)
    (h : ∀ v' w', w'.ownsRow base e 1 v' m news → (∃ b, w.grownBy w' (some b) ∧ w.heap[b]? = some (.cells #[] e (0, 0))) → Below base w w' → K (a.put o.dst v') w') :
    if Region.wanted o (yielded ops a.tmps) = true then Oper.wp P o a w K Q else E := by
  obtain ⟨b, e1, e2, e3⟩ := hs
  obtain ⟨A, c, e4, e5⟩ := hx
  refine step_append_vals hgd s x t ho base e i z bytes ht hi hz hsize hby hzs _ A m c e1 e4 0 [] (own_new0 e2 e3) news hm e5 h1 (by omega) (by rw [Nat.zero_add]; exact hbytes) hbase fun v' w' a1 a2 a3 => ?_
  rw [Nat.zero_add, List.nil_append] at a1
  exact h v' w' a1 ⟨b, a2, e2⟩ a3
/-- append(v, u) of one element that lies in a block of its own. -/
theorem step_append_lit1 {P : Program} {ops : Array Oper} {o : Oper} {a : Act} {K : Act → World → Prop} {Q : Exit → Act → World → Prop} {E : Prop} {w : World} (hgd : o.guard = none) (s x : Operand) (t : TypeId)
    (ho : o.op = .call { callee := .builtin .append, args := #[s, x], argTypes := #[t, t] })
    (base : Nat) (e : TypeId) (i : TypeInfo) (z : Value) (bytes : Nat) (ht : P.underlying t = some (.slice e)) (hi : P.info? e = some i) (hz : i.zero = some z)
    (hsize : i.size = 1) (hby : i.bytes = bytes) (hzs : z.cells.size = 1) (v : Value) (n : Nat) (xs : List Value) (hs : a.eval s = v) (hown : w.ownsRow base e 1 v n xs) (y : ByteArray)
    (hx : ∃ b c t', a.eval x = .slice (some ⟨b, 0, none⟩) 1 c ∧ w.heap[b]? = some (.cells #[.string y] t' (0, 0)))
    (h63 : n + 1 ≤ maxLen) (hbytes : (n + 1) * bytes ≤ 140737488355328) (hbase : base ≤ w.heap.size)
    (h : ∀ v' w', w'.ownsRow base e 1 v' (n + 1) (xs ++ sv [y]) → Below base w w' → K (a.put o.dst v') w') :
    if Region.wanted o (yielded ops a.tmps) = true then Oper.wp P o a w K Q else E := by
  obtain ⟨b, c, t', e1, e2⟩ := hx
  exact step_append_vals hgd s x t ho base e i z bytes ht hi hz hsize hby hzs v _ 1 c hs e1 n xs hown (sv [y]) rfl (news_one e2) (sv_one _) h63 hbytes hbase fun v' w' a1 _ a3 => h v' w' a1 a3
theorem heap_grown' {wX w1 : World} {e : TypeId} (hg : ∃ b, wX.grownBy w1 (some b) ∧ wX.heap[b]? = some (.cells #[] e (0, 0))) (b : Nat) {x : Obj} (hx : wX.heap[b]? = some x) (hne : x ≠ .cells #[] e (0, 0)) : w1.heap[b]? = some x := by
  obtain ⟨b', h1, h2⟩ := hg
  refine (h1.block b (Array.getElem?_eq_some_iff.1 hx).1 (fun e => ?_)).trans hx
  injection e with e
  subst e
  rw [hx] at h2
  exact hne (Option.some.inj h2)
theorem ownBlock_ge {w : World} {base e n size : Nat} {v : Value} {xs : List Value} (h : w.ownsRow base e size v n xs) : ∀ k, v.ownBlock = some k → base ≤ k := fun k hk => (h.lt k hk).1
end Go.Proofs.Ytgmimhhehmahiaa
