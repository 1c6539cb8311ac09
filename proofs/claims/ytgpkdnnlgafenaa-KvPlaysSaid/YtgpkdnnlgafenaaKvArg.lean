/- Puts in memory: how they read, what a call on them asks; bytes.Clone. -/
import Derived.Test.YtgpkdnnlgafenaaKv
import Derived.Test.YtgpkdnnlgafenaaShelf
import Derived.WalkLawsBesides
import Derived.WalkSpells
import Derived.IntWalk
import Derived.Outline
namespace Go.Proofs.Ytgpkdnnlgafenaa
open Go.RowKit Kv
set_option linter.unusedVariables false

/-- The program's order of strings. -/
theorem less_eq (x : List UInt8) : ∀ y, Op.bytesLess x y = decide (x < y) := by
  induction x with
  | nil => intro y; cases y <;> simp [Op.bytesLess]
  | cons a x ih =>
    intro y
    cases y with
    | nil => simp [Op.bytesLess]
    | cons b y =>
      rw [Op.bytesLess, ih y]
      simp only [List.cons_lt_cons_iff]
      by_cases h1 : a < b <;> by_cases h2 : a = b <;> by_cases h3 : x < y <;> simp [h1, h2, h3]
theorem less_ltb (a b : ByteArray) : Op.bytesLess a.toList b.toList = ltb a b := by
  rw [less_eq, Lib.toList_data, Lib.toList_data]; rfl
theorem str_empty {k : ByteArray} (h : k.size = 0) : k.toList.isEmpty = true ∧ k.toList = [] := by
  have : k.toList = [] := by
    rw [Lib.toList_data]; exact List.eq_nil_of_length_eq_zero (by rw [ba_len]; exact h)
  rw [this]; exact ⟨rfl, rfl⟩
theorem str_some {k : ByteArray} (h : ¬ k.size = 0) : k.toList.isEmpty = false ∧ ¬ k.toList = [] := by
  have : k.toList ≠ [] := fun e => h (by rw [← ba_len, ← Lib.toList_data, e]; rfl)
  refine ⟨?_, this⟩
  cases e : k.toList with
  | nil => exact absurd e this
  | cons _ _ => rfl
/-- Bytes in a block below N that is none of X. -/
def SeesX (w : World) (N : Nat) (X : List Nat) (A : Option Addr) (l : List UInt8) : Prop :=
  l ≠ [] → ∃ g o, A = some ⟨g, o, none⟩ ∧ g < N ∧ g ∉ X ∧ ∀ j (h : j < l.length), w.cell? ⟨g, o + j, none⟩ = some (.int .u8 (l[j].toNat : Int))
section
variable {w w' : World} {N : Nat} {X X' : List Nat} {A : Option Addr} {l : List UInt8}
theorem SeesX.sees (h : SeesX w N X A l) : Sees w N A l := fun hn => by
  obtain ⟨g, o, e, h1, _, h2⟩ := h hn
  exact ⟨g, o, e, h1, h2⟩
theorem Sees.x (h : Sees w N A l) (hX : ∀ b, b ∈ X → N ≤ b) : SeesX w N X A l := fun hn => by
  obtain ⟨g, o, e, h1, h2⟩ := h hn
  exact ⟨g, o, e, h1, fun hm => by have := hX g hm; omega, h2⟩
theorem SeesX.only (h : SeesX w N X A l) (ho : Only X w w') (hN : N ≤ w.heap.size) : SeesX w' N X A l := fun hn => by
  obtain ⟨g, o, e, h1, h2, h3⟩ := h hn
  exact ⟨g, o, e, h1, h2, fun j hj => (ho.cell (a := ⟨g, o + j, none⟩) (by show g < _; omega) h2).trans (h3 j hj)⟩
theorem SeesX.grows (h : SeesX w N X A l) (hg : Grows X X' w') (hN : N ≤ w'.heap.size) : SeesX w N X' A l := fun hn => by
  obtain ⟨g, o, e, h1, h2, h3⟩ := h hn
  exact ⟨g, o, e, h1, fun hm => (hg g hm).elim h2 (fun h' => by omega), h3⟩
theorem SeesX.less (h : SeesX w N X A l) (hs : ∀ b, b ∈ X' → b ∈ X) : SeesX w N X' A l := fun hn => by
  obtain ⟨g, o, e, h1, h2, h3⟩ := h hn
  exact ⟨g, o, e, h1, fun hm => h2 (hs g hm), h3⟩
theorem SeesX.wide {N' : Nat} (h : SeesX w N X A l) (hN : N ≤ N') : SeesX w N' X A l := fun hn => by
  obtain ⟨g, o, e, h1, h2, h3⟩ := h hn
  exact ⟨g, o, e, by omega, h2, h3⟩
theorem SeesX.nil (w : World) (N : Nat) (X : List Nat) (A : Option Addr) : SeesX w N X A [] := fun h => absurd rfl h
end

/-- Puts in a block below N that is none of X, their values likewise. -/
def Puts (w : World) (N : Nat) (X : List Nat) (A : Option Addr) (l : List Pt) : Prop :=
  l ≠ [] → ∃ g o, A = some ⟨g, o, none⟩ ∧ g < N ∧ g ∉ X ∧ ∀ j (h : j < l.length), w.cell? ⟨g, o + j * 3, none⟩ = some (.string l[j].k) ∧
    (∃ A' c', w.cell? ⟨g, o + j * 3 + 1, none⟩ = some (.slice A' l[j].v.length c') ∧ l[j].v.length ≤ c' ∧ c' ≤ maxLen ∧ SeesX w N X A' l[j].v) ∧ w.cell? ⟨g, o + j * 3 + 2, none⟩ = some (.bool l[j].g)
section
variable {w w' : World} {N : Nat} {X X' : List Nat} {A : Option Addr} {l : List Pt}
theorem Puts.only (h : Puts w N X A l) (ho : Only X w w') (hN : N ≤ w.heap.size) : Puts w' N X A l := fun hn => by
  obtain ⟨g, o, e, h1, h2, h3⟩ := h hn
  have cell : ∀ i, w'.cell? ⟨g, i, none⟩ = w.cell? ⟨g, i, none⟩ := fun i => ho.cell (a := ⟨g, i, none⟩) (by show g < _; omega) h2
  refine ⟨g, o, e, h1, h2, fun j hj => ?_⟩
  obtain ⟨k1, ⟨A', c', k2, k3, k4, k5⟩, k6⟩ := h3 j hj
  exact ⟨(cell _).trans k1, ⟨A', c', (cell _).trans k2, k3, k4, k5.only ho hN⟩, (cell _).trans k6⟩
theorem Puts.grows (h : Puts w N X A l) (hg : Grows X X' w') (hN : N ≤ w'.heap.size) : Puts w N X' A l := fun hn => by
  obtain ⟨g, o, e, h1, h2, h3⟩ := h hn
  refine ⟨g, o, e, h1, fun hm => (hg g hm).elim h2 (fun h' => by omega), fun j hj => ?_⟩
  obtain ⟨k1, ⟨A', c', k2, k3, k4, k5⟩, k6⟩ := h3 j hj
  exact ⟨k1, ⟨A', c', k2, k3, k4, k5.grows hg hN⟩, k6⟩
theorem Puts.less (h : Puts w N X A l) (hs : ∀ b, b ∈ X' → b ∈ X) : Puts w N X' A l := fun hn => by
  obtain ⟨g, o, e, h1, h2, h3⟩ := h hn
  refine ⟨g, o, e, h1, fun hm => h2 (hs g hm), fun j hj => ?_⟩
  obtain ⟨k1, ⟨A', c', k2, k3, k4, k5⟩, k6⟩ := h3 j hj
  exact ⟨k1, ⟨A', c', k2, k3, k4, k5.less hs⟩, k6⟩
theorem Puts.wide {N' : Nat} (h : Puts w N X A l) (hN : N ≤ N') : Puts w N' X A l := fun hn => by
  obtain ⟨g, o, e, h1, h2, h3⟩ := h hn
  refine ⟨g, o, e, by omega, h2, fun j hj => ?_⟩
  obtain ⟨k1, ⟨A', c', k2, k3, k4, k5⟩, k6⟩ := h3 j hj
  exact ⟨k1, ⟨A', c', k2, k3, k4, k5.wide hN⟩, k6⟩
theorem Puts.below (h : Puts w N X A l) (hb : Below w.heap.size w w') (hN : N ≤ w.heap.size) : Puts w' N X A l := h.only ((Only.of_below (S := []) hb).more fun b hb => by cases hb) hN
theorem Puts.nil (w : World) (N : Nat) (X : List Nat) (A : Option Addr) : Puts w N X A [] := fun h => absurd rfl h
end

set_option maxHeartbeats 400000 in
theorem clone_val (A : Option Addr) (n c B : Nat) (l : List UInt8) (w : World) (hn : n = l.length) (hbig : n ≤ 140737488355328) (hs : Sees w B A l) :
    Calls Try.prog 31 #[.slice A n c] w fun e w' => ∃ A' c', e = .returned (.slice A' n c') ∧ n ≤ c' ∧ c' ≤ maxLen ∧ BRow w' (.slice A' n c') l ∧ Below w.heap.size w w' ∧ ∀ b, b ∈ blk (.slice A' n c') → w.heap.size ≤ b := by
  subst hn
  cases A with
  | none =>
    have hl : l = [] := Classical.byContradiction fun h => by
      obtain ⟨g, o, e, _⟩ := hs h
      cases e
    subst hl
    refine (Try.bytes_Clone_nil _ _ _).mono ?_
    rintro e w' ⟨rfl, rfl⟩
    exact ⟨none, 0, rfl, Nat.le_refl _, Nat.zero_le _, BRow.nil _, Below.refl _ _, fun b hb => by simp [blk, Value.ownBlock] at hb⟩
  | some a =>
    have hcell : ∀ i, i < l.length → w.cell? (a.add i) = some (.int .u8 ((l.map fun b => (b.toNat : Int)).getD i 0)) := fun i hi => by
      obtain ⟨g, o, e, _, hc⟩ := hs (by intro e; rw [e] at hi; simp at hi)
      injection e with e
      subst e
      rw [add_to, hc i hi]
      simp [List.getD, hi]
    refine (Try.bytes_Clone_at a l.length c (l.map fun b => (b.toNat : Int)) w (by simp) hbig hcell).mono ?_
    rintro e w' ⟨v', rfl, ho, _, hb⟩
    rw [show (l.map fun b => (b.toNat : Int)).map (Value.int .u8) = bv l by unfold bv; rw [List.map_map]; rfl] at ho
    obtain ⟨A', c', rfl, h1, h2⟩ := own_shape ho
    exact ⟨A', c', rfl, h1, h2, own_base ho (Nat.zero_le _), hb, fun b hb => (World.ownsRow.lt ho b (mem_blk.1 hb)).1⟩

theorem str_nil (k : ByteArray) (h : k.size = 0) : k = ⟨#[]⟩ := ba_ext (by
  have : k.data.toList.length = 0 := by rw [ba_len]; exact h
  rw [List.eq_nil_of_length_eq_zero this])

set_option maxHeartbeats 800000 in
theorem allowed_any (k : ByteArray) (A : Option Addr) (n c : Nat) (g : Bool) (v : List UInt8) (w : World) (hn : n = v.length) (hm : n ≤ maxLen) (hk : k.size ≤ maxLen) (B : Bool) (hB : B = ok1 ⟨k, v, g⟩) :
    Calls Try.prog 40 #[.agg #[.string k, .slice A n c, .bool g]] w fun e w' => e = .returned (.bool B) ∧ Below w.heap.size w w' := by
  subst hn
  unfold maxLen at hm hk
  have hb : Below w.heap.size w (w.alloc (.cells #[.string k, .slice A v.length c, .bool g] 29)) := (Below.refl _ _).alloc (Nat.le_refl _) _
  have HB := Lib.hid hb
  clear hb
  by_cases h0 : k.size = 0
  · obtain rfl := str_nil k h0
    have hBf : B = false := by rw [hB]; rfl
    subst hBf
    clear hB
    go_enter Try.func40, Try.ntmps40
    go_wp2
    go_ret
    exact ⟨rfl, HB.out⟩
  · have e1 : k.toList.isEmpty = false := by
      rw [Lib.toList_data]
      cases h : k.data.toList with
      | nil => exact absurd (by rw [← ba_len, h]; rfl) h0
      | cons _ _ => rfl
    have e2 : ¬ k.toList = [] := by intro e; rw [e] at e1; cases e1
    have HBB := Lib.hid hB
    clear hB
    cases g
    all_goals
      go_enter Try.func40, Try.ntmps40
      go_wp2
      all_goals
        go_ret
        refine ⟨?_, HB.out⟩
        rw [HBB.out]
        simp [ok1]
        try omega
end Go.Proofs.Ytgpkdnnlgafenaa
