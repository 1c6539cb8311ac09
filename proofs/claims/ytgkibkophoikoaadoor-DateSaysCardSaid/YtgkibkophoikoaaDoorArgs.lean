/- Arguments that are slices of strings, slices of rows of bytes: how they read in memory, how a reading opens, how large they can be. -/
import Derived.Test.YtgkibkophoikoaaDoorSees
import Derived.SliceStrings
import Derived.Deep.Matrix
import Derived.HandedShaped
import Derived.SizedLaws
import Derived.ChangeSlices
namespace Go.Proofs.YtgkibkophoikoaaDoor
open Go.RowKit Go.ChangeShapes Go.WideShapes Go.Deep

/-- The slice at A reads the strings ss, and lies below block B. -/
def Strs (w : World) (B : Nat) (A : Option Addr) (ss : List ByteArray) : Prop :=
  ss ≠ [] → ∃ g o, A = some ⟨g, o, none⟩ ∧ g < B ∧ ∀ j (h : j < ss.length), w.cell? ⟨g, o + j, none⟩ = some (.string ss[j])
theorem Strs.below {w w' : World} {B B' : Nat} {A : Option Addr} {ss : List ByteArray} (h : Strs w B A ss) (hb : Below B' w w') (hB : B ≤ B') : Strs w' B A ss := fun hn => by
  obtain ⟨g, o, e, hg, hc⟩ := h hn
  exact ⟨g, o, e, hg, fun j hj => (hb.cell (p := ⟨g, o + j, none⟩) (by show g < B'; omega)).trans (hc j hj)⟩
theorem Strs.drewN {w : World} {B : Nat} {A : Option Addr} {ss : List ByteArray} (h : Strs w B A ss) (q : Nat) : Strs (w.drewN q) B A ss := h

/-- The slice at A holds slices that read the rows ls; all lies below block B. -/
def Grid (w : World) (B : Nat) (A : Option Addr) (ls : List (List UInt8)) : Prop :=
  ls ≠ [] → ∃ g o, A = some ⟨g, o, none⟩ ∧ g < B ∧ ∀ j (h : j < ls.length), ∃ A' c, w.cell? ⟨g, o + j, none⟩ = some (.slice A' ls[j].length c) ∧ ls[j].length ≤ c ∧ c ≤ maxLen ∧ Sees w B A' ls[j]
theorem Grid.below {w w' : World} {B B' : Nat} {A : Option Addr} {ls : List (List UInt8)} (h : Grid w B A ls) (hb : Below B' w w') (hB : B ≤ B') : Grid w' B A ls := fun hn => by
  obtain ⟨g, o, e, hg, hc⟩ := h hn
  refine ⟨g, o, e, hg, fun j hj => ?_⟩
  obtain ⟨A', c, h1, h2, h3, h4⟩ := hc j hj
  exact ⟨A', c, (hb.cell (p := ⟨g, o + j, none⟩) (by show g < B'; omega)).trans h1, h2, h3, h4.below hb hB⟩

theorem addr_of_cell {w : World} {a : Addr} {v : Value} (h : w.cell? a = some v) : ∃ g o, a = ⟨g, o, none⟩ ∧ g < w.heap.size := by
  obtain ⟨g, o, spot⟩ := a
  have hs : spot = none := World.cell?_spot h
  subst hs
  exact ⟨g, o, rfl, World.block_lt_of_cell? w _ h⟩

section
variable {H : Type} {enc : TypeId × Value → H} {P : Program} {w : World} {base : Nat} {spare : Nat → Bool} {held : Bool}
theorem open_S {t e : TypeId} {fuel : Nat} {A : Option Addr} {len cap : Nat} {x : DataW H × List MemPlace} (ht : P.underlying t = some (.slice e)) (he : P.underlying e = some .string) (hc : P.cellsOf e = 1)
    (h : DataW.trod enc P w base spare held fuel t [.slice A len cap] = some x) :
    ∃ ss : List ByteArray, len = ss.length ∧ len ≤ cap ∧ cap ≤ maxLen ∧ Strs w w.heap.size A ss ∧ (x.1 = .nil ∧ ss = [] ∨ ∃ ys, x.1 = .slice (strs ss) ys) := by
  rcases open_strings ht he hc h with ⟨hcs, rfl⟩ | ⟨a, len', cap', ss, hcs, _, hl, hm, hz, hx, hcell, hsz⟩
  · simp at hcs
    obtain ⟨rfl, rfl, rfl⟩ := hcs
    exact ⟨[], rfl, Nat.le_refl _, Nat.zero_le _, fun h => absurd rfl h, .inl ⟨rfl, rfl⟩⟩
  · simp at hcs
    obtain ⟨rfl, rfl, rfl⟩ := hcs
    have hlen : len ≤ ss.length := by rw [hz]; split <;> omega
    refine ⟨ss.take len, by simp; omega, hl, hm, fun hn => ?_, .inr ⟨_, by rw [hx]⟩⟩
    have hpos : 0 < len := by
      have := List.length_pos_iff.2 hn
      simp at this; omega
    have h0 := hcell 0 (by omega)
    obtain ⟨g, o, e1, hg⟩ := addr_of_cell h0
    have ha : a = ⟨g, o, none⟩ := by
      have e2 : a.add 0 = a := by simp [Addr.add]
      rw [← e1, e2]
    subst ha
    refine ⟨g, o, rfl, hg, fun j hj => ?_⟩
    have hj' : j < ss.length := by simp at hj; omega
    have := hcell j hj'
    rw [add_to] at this
    rw [this, List.getElem_take]
    simp [List.getD, List.getElem?_eq_getElem hj']

theorem open_B {t e q : TypeId} {fuel : Nat} {A : Option Addr} {len cap : Nat} {x : DataW H × List MemPlace} (ht : P.underlying t = some (.slice e)) (he : P.underlying e = some (.slice q)) (hq : P.underlying q = some (.int .u8)) (ce : P.cellsOf e = 1) (cq : P.cellsOf q = 1)
    (h : DataW.trod enc P w base (fun _ => true) held fuel t [.slice A len cap] = some x) :
    ∃ ls : List (List UInt8), len = ls.length ∧ len ≤ cap ∧ cap ≤ maxLen ∧ Grid w w.heap.size A ls := by
  rcases open_int_rows ht he hq ce cq h with ⟨hcs, _⟩ | ⟨a, len', cap', R, L, C, Z, hcs, _, hl, hm, _, hrow⟩
  · simp at hcs
    obtain ⟨rfl, rfl, rfl⟩ := hcs
    exact ⟨[], rfl, Nat.le_refl _, Nat.zero_le _, fun h => absurd rfl h⟩
  · simp at hcs
    obtain ⟨rfl, rfl, rfl⟩ := hcs
    have key : ∀ r, r < len → ∃ l : List UInt8, L r = l.length ∧ Sees w w.heap.size (R r) l := fun r hr => by
      obtain ⟨_, h2, h3, h4, h5, h6, h7⟩ := hrow r (by omega)
      cases hR : R r with
      | none =>
        have := h6 hR
        exact ⟨[], by simp; omega, Sees.nil _ _ _⟩
      | some a' =>
        obtain ⟨_, hc⟩ := h7 a' hR
        obtain ⟨l, e1, e2⟩ := sees_of_ints (x := a') h2 h4 (by rw [h4]; exact hc) h5
        exact ⟨l, e1, e2⟩
    obtain ⟨f, hf⟩ := choose_lt key
    refine ⟨(List.range len).map f, by simp, hl, hm, fun hn => ?_⟩
    have hpos : 0 < len := by
      have := List.length_pos_iff.2 hn
      simp at this; omega
    obtain ⟨g, o, e1, hg⟩ := addr_of_cell (hrow 0 (by omega)).1
    have ha : a = ⟨g, o, none⟩ := by
      have e2 : a.add 0 = a := by simp [Addr.add]
      rw [← e1, e2]
    subst ha
    refine ⟨g, o, rfl, hg, fun j hj => ?_⟩
    have hj' : j < len := by simpa using hj
    obtain ⟨h1, h2, h3, _⟩ := hrow j (by omega)
    rw [add_to] at h1
    have e3 : ((List.range len).map f)[j]'hj = f j := by simp
    rw [e3]
    exact ⟨R j, C j, by rw [h1, (hf j hj').1], by rw [← (hf j hj').1]; exact h2, h3, (hf j hj').2⟩

theorem open_b {t e : TypeId} {fuel : Nat} {A : Option Addr} {len cap : Nat} {x : DataW H × List MemPlace} (ht : P.underlying t = some (.slice e)) (he : P.underlying e = some (.int .u8)) (hc : P.cellsOf e = 1)
    (h : DataW.trod enc P w base (fun _ => true) held fuel t [.slice A len cap] = some x) :
    ∃ l : List UInt8, len = l.length ∧ len ≤ cap ∧ cap ≤ maxLen ∧ Sees w w.heap.size A l ∧ (cap = 0 ∨ ∃ E S, x.1 = .slice E S ∧ E.length + S.length = cap) := by
  rcases open_ints ht he hc h with ⟨hcs, _⟩ | ⟨a, l, c, zs, hcs, _, hl, hm, hz, hx, hcell, hwz⟩
  · simp at hcs
    obtain ⟨rfl, rfl, rfl⟩ := hcs
    exact ⟨[], rfl, Nat.le_refl _, Nat.zero_le _, Sees.nil _ _ _, .inl rfl⟩
  · simp at hcs
    obtain ⟨rfl, rfl, rfl⟩ := hcs
    obtain ⟨bl, e1, e2⟩ := sees_of_ints hl (by simpa using hz) hcell hwz
    have hz' : zs.length = cap := by simpa using hz
    exact ⟨bl, e1, hl, hm, e2, .inr ⟨_, _, by rw [hx], by unfold lits; simp; omega⟩⟩
theorem reach_b {ts : List TypeId} {ds : List (DataW H)} (h : (DataW.weightsEach P ts ds).all (· ≤ reachBytes) = true) {j : Nat} {t e : TypeId} {cap : Nat} {d : DataW H} (ht : ts[j]? = some t) (hd : ds[j]? = some d) (hx : cap = 0 ∨ ∃ E S, d = .slice E S ∧ E.length + S.length = cap) (hu : P.underlying t = some (.slice e)) (hb : P.bytesOf e = 1) :
    cap ≤ 140737488351232 := by
  rcases hx with rfl | ⟨E, S, rfl, hl⟩
  · omega
  · have := sized_slice h ht hd hu
    rw [hb, hl, Nat.mul_one] at this
    exact this
theorem reach_S {ts : List TypeId} {ds : List (DataW H)} (h : (DataW.weightsEach P ts ds).all (· ≤ reachBytes) = true) {j : Nat} {t e : TypeId} {ss : List ByteArray} {d : DataW H} (ht : ts[j]? = some t) (hd : ds[j]? = some d) (hx : d = .nil ∧ ss = [] ∨ ∃ ys, d = .slice (strs ss) ys) (hu : P.underlying t = some (.slice e)) :
    ∀ s ∈ ss, s.size ≤ 140737488351232 := by
  rcases hx with ⟨_, rfl⟩ | ⟨ys, rfl⟩
  · intro s hs; cases hs
  · intro s hs
    have hmem : ∀ (l : List ByteArray), s ∈ l → s.size ∈ DataW.weightsAll (H := H) P e (strs l) := by
      intro l
      induction l with
      | nil => intro h; cases h
      | cons x r ih =>
        intro h
        rw [show strs (H := H) (x :: r) = .lit (.string x.data.toList) :: strs r from rfl, DataW.weightsAll, DataW.weights]
        rcases List.mem_cons.1 h with rfl | h
        · exact List.mem_append_left _ (by rw [List.mem_singleton]; rfl)
        · exact List.mem_append_right _ (ih h)
    have := List.all_eq_true.1 h _ (DataW.weights_mem_each ht hd s.size (by simp only [DataW.weights, hu]; exact List.mem_cons_of_mem _ (List.mem_append_left _ (hmem ss hs))))
    have e : reachBytes = 140737488351232 := rfl
    rw [e] at this
    simpa using this
theorem reach_s {ts : List TypeId} {ds : List (DataW H)} (h : (DataW.weightsEach P ts ds).all (· ≤ reachBytes) = true) {j : Nat} {t : TypeId} {s : ByteArray} (ht : ts[j]? = some t) (hd : ds[j]? = some (.lit (.string s.data.toList))) : s.size ≤ 140737488351232 :=
  sized_string h ht hd
end
end Go.Proofs.YtgkibkophoikoaaDoor
