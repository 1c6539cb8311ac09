/- Memory of sets and lists of numbers: slices of pairs, slices of numbers, read below a block; what the walks of package seq ask of the world. -/
import Derived.Test.YtmcglecdidnhlaaDoorSqOf
import Derived.Test.YtmcglecdidnhlaaDoorVRow
import Derived.Test.YtmcglecdidnhlaaDoorFlat2
import Derived.Test.YtmcglecdidnhlaaDoorShelf
import Derived.LoopTactic
namespace Go.Proofs.YtmcglecdidnhlaaDoor
open Go.RowKit
set_option linter.unusedVariables false
set_option maxRecDepth 100000

def iv (n : Int) : Value := .int .i64 n
/-- The slice at A reads the pairs L, below block B. -/
def Pairs (w : World) (B : Nat) (A : Option Addr) (L : List (Int × Int)) : Prop :=
  L ≠ [] → ∃ g o, A = some ⟨g, o, none⟩ ∧ g < B ∧ ∀ j (h : j < L.length), w.cell? ⟨g, o + j * 2, none⟩ = some (.int .i64 L[j].1) ∧ w.cell? ⟨g, o + j * 2 + 1, none⟩ = some (.int .i64 L[j].2)
/-- The slice at A reads the numbers l, below block B. -/
def Ints (w : World) (B : Nat) (A : Option Addr) (l : List Int) : Prop :=
  l ≠ [] → ∃ g o, A = some ⟨g, o, none⟩ ∧ g < B ∧ ∀ j (h : j < l.length), w.cell? ⟨g, o + j, none⟩ = some (.int .i64 l[j])
section
variable {w w' : World} {B B' : Nat} {A : Option Addr} {L : List (Int × Int)} {l : List Int}
theorem Pairs.below (h : Pairs w B A L) (hb : Below B' w w') (hB : B ≤ B') : Pairs w' B A L := fun hn => by
  obtain ⟨g, o, e, hg, hc⟩ := h hn
  exact ⟨g, o, e, hg, fun j hj => ⟨(hb.cell (p := ⟨g, o + j * 2, none⟩) (by show g < B'; omega)).trans (hc j hj).1, (hb.cell (p := ⟨g, o + j * 2 + 1, none⟩) (by show g < B'; omega)).trans (hc j hj).2⟩⟩
theorem Ints.below (h : Ints w B A l) (hb : Below B' w w') (hB : B ≤ B') : Ints w' B A l := fun hn => by
  obtain ⟨g, o, e, hg, hc⟩ := h hn
  exact ⟨g, o, e, hg, fun j hj => (hb.cell (p := ⟨g, o + j, none⟩) (by show g < B'; omega)).trans (hc j hj)⟩
theorem Pairs.mono (h : Pairs w B A L) (hB : B ≤ B') : Pairs w B' A L := fun hn => by
  obtain ⟨g, o, e, hg, hc⟩ := h hn
  exact ⟨g, o, e, by omega, hc⟩
theorem Ints.mono (h : Ints w B A l) (hB : B ≤ B') : Ints w B' A l := fun hn => by
  obtain ⟨g, o, e, hg, hc⟩ := h hn
  exact ⟨g, o, e, by omega, hc⟩
theorem Pairs.at (h : Pairs w B A L) (k : Nat) (hk : k < L.length) : ∃ g o, A = some ⟨g, o, none⟩ ∧ g < B ∧ w.cell? ⟨g, o + k * 2, none⟩ = some (.int .i64 L[k].1) ∧ w.cell? ⟨g, o + k * 2 + 1, none⟩ = some (.int .i64 L[k].2) := by
  obtain ⟨g, o, e, h1, h2⟩ := h (by intro e; simp [e] at hk)
  exact ⟨g, o, e, h1, (h2 k hk).1, (h2 k hk).2⟩
theorem Ints.at (h : Ints w B A l) (k : Nat) (hk : k < l.length) : ∃ g o, A = some ⟨g, o, none⟩ ∧ g < B ∧ w.cell? ⟨g, o + k, none⟩ = some (.int .i64 l[k]) := by
  obtain ⟨g, o, e, h1, h2⟩ := h (by intro e; simp [e] at hk)
  exact ⟨g, o, e, h1, h2 k hk⟩
theorem Pairs.nil (w : World) (B : Nat) (A : Option Addr) : Pairs w B A [] := fun h => absurd rfl h
theorem Ints.nil (w : World) (B : Nat) (A : Option Addr) : Ints w B A [] := fun h => absurd rfl h
end
/-- The cells of pairs. -/
def sp (L : List (Int × Int)) : List Value := flat2 (fun s : Int × Int => .int .i64 s.1) (fun s => .int .i64 s.2) L
def li (l : List Int) : List Value := l.map (.int .i64)
theorem sp_append (a b : List (Int × Int)) : sp (a ++ b) = sp a ++ sp b := flat2_append a b
theorem li_append (a b : List Int) : li (a ++ b) = li a ++ li b := by simp [li]
theorem li_length (l : List Int) : (li l).length = l.length := by simp [li]
theorem li_at (l : List Int) (j : Nat) (h : j < l.length) : (li l)[j]? = some (.int .i64 l[j]) := by simp [li, List.getElem?_eq_getElem h]
theorem Pairs.of_own {w : World} {base e c n : Nat} {A : Option Addr} {L : List (Int × Int)} (h : w.ownsRow base e 2 (.slice A n c) L.length (sp L)) : Pairs w w.heap.size A L := fun hn => by
  have hpos : 0 < L.length := List.length_pos_iff.2 hn
  rcases h.2 with ⟨hv, h0⟩ | ⟨g, cap, cur, hv, hb, hg, rest⟩
  · omega
  · injection hv with h1 h2 h3
    subst h1
    refine ⟨g, 0, rfl, (Array.getElem?_eq_some_iff.1 hg).1, fun j hj => ⟨?_, ?_⟩⟩
    · have := h.cells (g := g) rfl (j * 2) _ (flat2_fst L j hj)
      rw [add_to] at this
      exact this
    · have := h.cells (g := g) rfl (j * 2 + 1) _ (flat2_snd L j hj)
      rw [add_to] at this
      rw [Nat.add_assoc]
      exact this
theorem Ints.of_own {w : World} {base e c n : Nat} {A : Option Addr} {l : List Int} (h : w.ownsRow base e 1 (.slice A n c) l.length (li l)) : Ints w w.heap.size A l := fun hn => by
  have hpos : 0 < l.length := List.length_pos_iff.2 hn
  rcases h.2 with ⟨hv, h0⟩ | ⟨g, cap, cur, hv, hb, hg, rest⟩
  · omega
  · injection hv with h1 h2 h3
    subst h1
    refine ⟨g, 0, rfl, (Array.getElem?_eq_some_iff.1 hg).1, fun j hj => ?_⟩
    have := h.cells (g := g) rfl j _ (li_at l j hj)
    rw [add_to] at this
    exact this
/-- A set's slice. -/
def SetAt (w : World) (v : Value) (L : List (Int × Int)) : Prop := ∃ A c, v = .agg #[.slice A L.length c] ∧ L.length ≤ c ∧ c ≤ maxLen ∧ Pairs w w.heap.size A L
def ListAt (w : World) (v : Value) (l : List Int) : Prop := ∃ A c, v = .slice A l.length c ∧ l.length ≤ c ∧ c ≤ maxLen ∧ Ints w w.heap.size A l
theorem SetAt.below {w w' : World} {v : Value} {L : List (Int × Int)} (h : SetAt w v L) (hb : Below w.heap.size w w') : SetAt w' v L := by
  obtain ⟨A, c, e, h1, h2, h3⟩ := h
  exact ⟨A, c, e, h1, h2, (h3.below hb (Nat.le_refl _)).mono hb.size⟩
theorem ListAt.below {w w' : World} {v : Value} {l : List Int} (h : ListAt w v l) (hb : Below w.heap.size w w') : ListAt w' v l := by
  obtain ⟨A, c, e, h1, h2, h3⟩ := h
  exact ⟨A, c, e, h1, h2, (h3.below hb (Nat.le_refl _)).mono hb.size⟩
theorem SetAt.empty (w : World) : SetAt w (.agg #[.slice none 0 0]) [] := ⟨none, 0, rfl, Nat.le_refl _, Nat.zero_le _, Pairs.nil _ _ _⟩
theorem ListAt.empty (w : World) : ListAt w (.slice none 0 0) [] := ⟨none, 0, rfl, Nat.le_refl _, Nat.zero_le _, Ints.nil _ _ _⟩
theorem SetAt.own {w : World} {base e : Nat} {v : Value} {L : List (Int × Int)} (h : w.ownsRow base e 2 v L.length (sp L)) : SetAt w (.agg #[v]) L := by
  obtain ⟨A, c, rfl, h1, h2⟩ := own_shape h
  exact ⟨A, c, rfl, h1, h2, Pairs.of_own h⟩
theorem ListAt.own {w : World} {base e : Nat} {v : Value} {l : List Int} (h : w.ownsRow base e 1 v l.length (li l)) : ListAt w v l := by
  obtain ⟨A, c, rfl, h1, h2⟩ := own_shape h
  exact ⟨A, c, rfl, h1, h2, Ints.of_own h⟩

/-- What the walks ask of the world. -/
structure SW (w : World) : Prop where
  max : ∃ m, w.cell? ⟨2, 0, none⟩ = some (.int .i64 m)
  esyn : ∃ ev, w.cell? ⟨3, 0, none⟩ = some ev ∧ (ev = .nilIface ∨ ∃ te pe, ev = .iface te pe)
  erng : ∃ ev, w.cell? ⟨4, 0, none⟩ = some ev ∧ (ev = .nilIface ∨ ∃ te pe, ev = .iface te pe)
  pow : Lib.TabIs Tryd.prog w "internal/strconv.uint64pow10" .u64 Lib.pow10Tab
theorem SW.below {w w' : World} (h : SW w) (hb : Below w.heap.size w w') : SW w' := by
  obtain ⟨m, hm⟩ := h.max
  obtain ⟨ev, h1, h2⟩ := h.esyn
  obtain ⟨ev', h1', h2'⟩ := h.erng
  exact ⟨⟨m, (hb.cell (p := ⟨2, 0, none⟩) (World.block_lt_of_cell? w _ hm)).trans hm⟩,
    ⟨ev, (hb.cell (p := ⟨3, 0, none⟩) (World.block_lt_of_cell? w _ h1)).trans h1, h2⟩,
    ⟨ev', (hb.cell (p := ⟨4, 0, none⟩) (World.block_lt_of_cell? w _ h1')).trans h1', h2'⟩,
    ((Lib.tabBelow_of_tabIs h.pow).on hb).here⟩
theorem SW.drewN {w : World} (h : SW w) (n : Nat) : SW (w.drewN n) := h.below (below_drewN (Below.refl _ _) n)
end Go.Proofs.YtmcglecdidnhlaaDoor
