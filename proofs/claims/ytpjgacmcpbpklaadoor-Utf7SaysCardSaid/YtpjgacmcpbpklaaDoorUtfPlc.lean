/- Match's places, as lists. -/
import Derived.Test.YtpjgacmcpbpklaaDoorUtfPure2
namespace Go.Proofs.YtpjgacmcpbpklaaDoor.U7
set_option linter.unusedVariables false
set_option linter.unusedSimpArgs false

/-- Behind what stands at a, a star goes on to k. -/
def Rch (c : UInt8) (s : List UInt8) (a k : Nat) : Prop := a ≤ k ∧ (c = 42 ∨ ∀ i, a ≤ i → i < k → s.getD i 0 ≠ 47)
/-- By the byte c one comes from a to k. -/
def hit (c : UInt8) (s : List UInt8) (a k : Nat) : Prop := (star c = true ∧ k ≤ s.length ∧ Rch c s a k) ∨ (star c = false ∧ a < s.length ∧ s.getD a 0 = c ∧ k = a + 1)
abbrev Asc (l : List Nat) : Prop := l.Pairwise (· < ·)
def Nx (c : UInt8) (s : List UInt8) (as nx : List Nat) : Prop := Asc nx ∧ ∀ k, k ∈ nx ↔ ∃ a ∈ as, hit c s a k
def Pl (s : List UInt8) (f : Nat → Bool) (ps : List Nat) : Prop := Asc ps ∧ ∀ k, k ∈ ps ↔ k ≤ s.length ∧ f k = true

theorem Nx.nil (c : UInt8) (s : List UInt8) : Nx c s [] [] := ⟨List.Pairwise.nil, fun k => by simp⟩
theorem asc_snoc {l : List Nat} {x : Nat} (h : Asc l) (hx : ∀ y ∈ l, y < x) : Asc (l ++ [x]) := by
  refine List.pairwise_append.2 ⟨h, List.pairwise_singleton _ _, fun a ha b hb => ?_⟩
  rw [List.mem_singleton] at hb
  subst hb
  exact hx a ha
theorem Nx.plain_no {c : UInt8} {s : List UInt8} {as nx : List Nat} {at' : Nat} (h : Nx c s as nx) (hc : star c = false) (hn : ¬ (at' < s.length ∧ s.getD at' 0 = c)) : Nx c s (as ++ [at']) nx := by
  refine ⟨h.1, fun k => ?_⟩
  rw [h.2]
  constructor
  · rintro ⟨a, ha, hh⟩; exact ⟨a, by simp [ha], hh⟩
  · rintro ⟨a, ha, hh⟩
    rcases List.mem_append.1 ha with ha | ha
    · exact ⟨a, ha, hh⟩
    · rw [List.mem_singleton] at ha
      subst ha
      rcases hh with ⟨h1, _⟩ | ⟨_, h2, h3, _⟩
      · rw [hc] at h1; cases h1
      · exact absurd ⟨h2, h3⟩ hn
theorem Nx.plain_yes {c : UInt8} {s : List UInt8} {as nx : List Nat} {at' : Nat} (h : Nx c s as nx) (hc : star c = false) (ha : ∀ a ∈ as, a < at') (h1 : at' < s.length) (h2 : s.getD at' 0 = c) : Nx c s (as ++ [at']) (nx ++ [at' + 1]) := by
  refine ⟨asc_snoc h.1 fun y hy => ?_, fun k => ?_⟩
  · obtain ⟨a, haa, hh⟩ := (h.2 y).1 hy
    have := ha a haa
    rcases hh with ⟨h3, _⟩ | ⟨_, _, _, h4⟩
    · rw [hc] at h3; cases h3
    · omega
  · rw [List.mem_append, h.2, List.mem_singleton]
    constructor
    · rintro (⟨a, haa, hh⟩ | rfl)
      · exact ⟨a, by simp [haa], hh⟩
      · exact ⟨at', by simp, .inr ⟨hc, h1, h2, rfl⟩⟩
    · rintro ⟨a, haa, hh⟩
      rcases List.mem_append.1 haa with haa | haa
      · exact .inl ⟨a, haa, hh⟩
      · rw [List.mem_singleton] at haa
        subst haa
        rcases hh with ⟨h3, _⟩ | ⟨_, _, _, h4⟩
        · rw [hc] at h3; cases h3
        · exact .inr h4
theorem Nx.skip {c : UInt8} {s : List UInt8} {as nx : List Nat} {at' b : Nat} (h : Nx c s as nx) (hc : star c = true) (ha : ∀ a ∈ as, a < at') (hb : b ∈ nx) (hab : at' ≤ b) : Nx c s (as ++ [at']) nx := by
  refine ⟨h.1, fun k => ?_⟩
  rw [h.2]
  constructor
  · rintro ⟨a, haa, hh⟩; exact ⟨a, by simp [haa], hh⟩
  · rintro ⟨a, haa, hh⟩
    rcases List.mem_append.1 haa with haa | haa
    · exact ⟨a, haa, hh⟩
    · rw [List.mem_singleton] at haa
      subst haa
      obtain ⟨a0, ha0, hh0⟩ := (h.2 b).1 hb
      have := ha a0 ha0
      rcases hh with ⟨_, h2, h3, h4⟩ | ⟨h1, _⟩
      · rcases hh0 with ⟨_, g2, g3, g4⟩ | ⟨g1, _⟩
        · refine ⟨a0, ha0, .inl ⟨hc, h2, by omega, ?_⟩⟩
          rcases h4 with h4 | h4
          · exact .inl h4
          · rcases g4 with g4 | g4
            · exact .inl g4
            · refine .inr fun i i1 i2 => ?_
              by_cases hi : i < a
              · exact g4 i i1 (by omega)
              · exact h4 i (by omega) i2
        · rw [hc] at g1; cases g1
      · rw [hc] at h1; cases h1

/-- While the places behind at' are laid down, up to x. -/
def Mid (c : UInt8) (s : List UInt8) (nx : List Nat) (at' x : Nat) (l : List Nat) : Prop :=
  Asc l ∧ (∀ k, k ∈ l ↔ k ∈ nx ∨ (at' ≤ k ∧ k < x)) ∧ at' ≤ x ∧ x ≤ s.length ∧ (c = 42 ∨ ∀ i, at' ≤ i → i < x → s.getD i 0 ≠ 47)
theorem Mid.start {c : UInt8} {s : List UInt8} {as nx : List Nat} {at' : Nat} (h : Nx c s as nx) (h1 : at' ≤ s.length) : Mid c s nx at' at' nx :=
  ⟨h.1, fun k => ⟨.inl, fun h => h.elim id (fun h => by omega)⟩, Nat.le_refl _, h1, .inr fun i h1 h2 => by omega⟩
theorem Mid.asc {c : UInt8} {s : List UInt8} {nx l : List Nat} {at' x : Nat} (h : Mid c s nx at' x l) (hn : ∀ y ∈ nx, y < at') : Asc (l ++ [x]) :=
  asc_snoc h.1 fun y hy => by
    have h3 := h.2.2.1
    rcases (h.2.1 y).1 hy with h1 | h1
    · have := hn y h1; omega
    · omega
theorem Mid.mem {c : UInt8} {s : List UInt8} {nx l : List Nat} {at' x : Nat} (h : Mid c s nx at' x l) (k : Nat) : k ∈ l ++ [x] ↔ k ∈ nx ∨ (at' ≤ k ∧ k ≤ x) := by
  have h3 := h.2.2.1
  rw [List.mem_append, h.2.1, List.mem_singleton]
  constructor
  · rintro ((h | h) | h)
    · exact .inl h
    · exact .inr (by omega)
    · exact .inr (by omega)
  · rintro (h | h)
    · exact .inl (.inl h)
    · by_cases hk : k = x
      · exact .inr hk
      · exact .inl (.inr (by omega))
theorem Mid.on {c : UInt8} {s : List UInt8} {nx l : List Nat} {at' x : Nat} (h : Mid c s nx at' x l) (hn : ∀ y ∈ nx, y < at') (hx : x < s.length) (hs : c = 42 ∨ s.getD x 0 ≠ 47) : Mid c s nx at' (x + 1) (l ++ [x]) := by
  refine ⟨h.asc hn, fun k => ?_, by have := h.2.2.1; omega, hx, ?_⟩
  · rw [h.mem]
    constructor
    · rintro (h | h)
      · exact .inl h
      · exact .inr (by omega)
    · rintro (h | h)
      · exact .inl h
      · exact .inr (by omega)
  · rcases h.2.2.2.2 with h1 | h1
    · exact .inl h1
    · rcases hs with hs | hs
      · exact .inl hs
      · refine .inr fun i i1 i2 => ?_
        by_cases hi : i = x
        · subst hi; exact hs
        · exact h1 i i1 (by omega)
theorem Mid.slash {c : UInt8} {s : List UInt8} {as nx l : List Nat} {at' x : Nat} (h : Mid c s nx at' x l) (hN : Nx c s as nx) (hc : star c = true) (hn : ∀ y ∈ nx, y < at') (h37 : c ≠ 42) (hx : x < s.length) (hs : s.getD x 0 = 47) : Nx c s (as ++ [at']) (l ++ [x]) := by
  refine ⟨h.asc hn, fun k => ?_⟩
  rw [h.mem, hN.2]
  constructor
  · rintro (⟨a, ha, hh⟩ | ⟨k1, k2⟩)
    · exact ⟨a, by simp [ha], hh⟩
    · refine ⟨at', by simp, .inl ⟨hc, by omega, k1, .inr fun i i1 i2 => ?_⟩⟩
      rcases h.2.2.2.2 with h1 | h1
      · exact absurd h1 h37
      · exact h1 i i1 (by omega)
  · rintro ⟨a, ha, hh⟩
    rcases List.mem_append.1 ha with ha | ha
    · exact .inl ⟨a, ha, hh⟩
    · rw [List.mem_singleton] at ha
      subst ha
      rcases hh with ⟨_, h2, h3, h4⟩ | ⟨h1, _⟩
      · refine .inr ⟨h3, ?_⟩
        rcases h4 with h4 | h4
        · exact absurd h4 h37
        · refine Classical.byContradiction fun hk => h4 x h.2.2.1 (by omega) hs
      · rw [hc] at h1; cases h1
theorem Mid.last {c : UInt8} {s : List UInt8} {as nx l rest : List Nat} {at' : Nat} (h : Mid c s nx at' s.length l) (hN : Nx c s as nx) (hc : star c = true) (hn : ∀ y ∈ nx, y < at') (hr : ∀ a ∈ rest, at' < a) : Nx c s (as ++ at' :: rest) (l ++ [s.length]) := by
  refine ⟨h.asc hn, fun k => ?_⟩
  rw [h.mem, hN.2]
  constructor
  · rintro (⟨a, ha, hh⟩ | ⟨k1, k2⟩)
    · exact ⟨a, by simp [ha], hh⟩
    · refine ⟨at', by simp, .inl ⟨hc, k2, k1, ?_⟩⟩
      rcases h.2.2.2.2 with h1 | h1
      · exact .inl h1
      · exact .inr fun i i1 i2 => h1 i i1 (by omega)
  · rintro ⟨a, ha, hh⟩
    rcases List.mem_append.1 ha with ha | ha
    · exact .inl ⟨a, ha, hh⟩
    · have hka : at' ≤ a := by
        rcases List.mem_cons.1 ha with rfl | ha
        · exact Nat.le_refl _
        · have := hr a ha; omega
      rcases hh with ⟨_, h2, h3, h4⟩ | ⟨h1, _⟩
      · exact .inr ⟨by omega, h2⟩
      · rw [hc] at h1; cases h1

theorem Pl.start (s : List UInt8) : Pl s (fits [] s) [0] := ⟨List.pairwise_singleton _ _, fun k => by
  rw [fits_nil, List.mem_singleton]
  constructor
  · rintro rfl; exact ⟨Nat.zero_le _, rfl⟩
  · rintro ⟨_, h⟩; simpa using h⟩
theorem step_hit (c : UInt8) (s : List UInt8) (f : Nat → Bool) (ps : List Nat) (h : Pl s f ps) (k : Nat) (hk : k ≤ s.length) : stepF c s f k = true ↔ ∃ a ∈ ps, hit c s a k := by
  cases hc : star c with
  | true =>
    constructor
    · intro hs
      obtain ⟨j, hj, hf, hr⟩ := step_reach c s f hc k hs
      exact ⟨j, (h.2 j).2 ⟨by omega, hf⟩, .inl ⟨hc, hk, hj, hr⟩⟩
    · rintro ⟨a, ha, hh⟩
      rcases hh with ⟨_, h2, h3, h4⟩ | ⟨h1, _⟩
      · have hf := ((h.2 a).1 ha).2
        have := step_far c s f hc a (step_star c s f hc a hf) (k - a) (h4.imp id fun h4 j j1 j2 => h4 j j1 (by omega))
        rwa [show a + (k - a) = k from by omega] at this
      · rw [hc] at h1; cases h1
  | false =>
    cases k with
    | zero =>
      rw [stepF, if_neg (by rw [hc]; decide)]
      constructor
      · intro h; cases h
      · rintro ⟨a, ha, hh⟩
        rcases hh with ⟨h1, _⟩ | ⟨_, _, _, h4⟩
        · rw [hc] at h1; cases h1
        · omega
    | succ k =>
      rw [stepF, if_neg (by rw [hc]; decide), Bool.and_eq_true, beq_iff_eq]
      constructor
      · rintro ⟨h1, h2⟩
        exact ⟨k, (h.2 k).2 ⟨by omega, h1⟩, .inr ⟨hc, by omega, h2, rfl⟩⟩
      · rintro ⟨a, ha, hh⟩
        rcases hh with ⟨h1, _⟩ | ⟨_, h2, h3, h4⟩
        · rw [hc] at h1; cases h1
        · obtain rfl : a = k := by omega
          exact ⟨((h.2 a).1 ha).2, h3⟩
theorem hit_le {c : UInt8} {s : List UInt8} {a k : Nat} (h : hit c s a k) : k ≤ s.length := by
  rcases h with ⟨_, h, _⟩ | ⟨_, h, _, h2⟩ <;> omega
theorem Nx.done {c : UInt8} {s p : List UInt8} {ps nx : List Nat} (h : Nx c s ps nx) (hp : Pl s (fits p s) ps) : Pl s (fits (p ++ [c]) s) nx := by
  rw [fits_snoc]
  refine ⟨h.1, fun k => ?_⟩
  rw [h.2]
  constructor
  · rintro ⟨a, ha, hh⟩
    have hk := hit_le hh
    exact ⟨hk, (step_hit c s _ ps hp k hk).2 ⟨a, ha, hh⟩⟩
  · rintro ⟨hk, hs⟩
    exact (step_hit c s _ ps hp k hk).1 hs
/-- Where none is left, none will be. -/
theorem fits_none (s : List UInt8) : ∀ (q p : List UInt8), (∀ k, k ≤ s.length → fits p s k = false) → ∀ k, k ≤ s.length → fits (p ++ q) s k = false
  | [], p, h => by simpa using h
  | c :: t, p, h => by
    have e : p ++ c :: t = (p ++ [c]) ++ t := by simp
    rw [e]
    refine fits_none s t (p ++ [c]) fun k hk => ?_
    have hp : Pl s (fits p s) [] := ⟨List.Pairwise.nil, fun k => by
      constructor
      · intro h; cases h
      · rintro ⟨h1, h2⟩; rw [h k h1] at h2; cases h2⟩
    rw [← Bool.not_eq_true, fits_snoc, step_hit c s _ [] hp k hk]
    rintro ⟨a, ha, _⟩
    cases ha
theorem Pl.none {s p q : List UInt8} (h : Pl s (fits p s) []) : fits (p ++ q) s s.length = false :=
  fits_none s q p (fun k hk => by
    rw [← Bool.not_eq_true]
    intro h1
    have := (h.2 k).2 ⟨hk, h1⟩
    cases this) s.length (Nat.le_refl _)
theorem asc_last : ∀ {ps : List Nat} (h : Asc ps) (hne : ps ≠ []), ∀ y ∈ ps, y ≤ ps.getLast hne
  | [], _, hne => absurd rfl hne
  | [a], _, _ => by intro y hy; simp at hy; simp [hy]
  | a :: b :: t, h, _ => by
    intro y hy
    rw [List.getLast_cons (by simp)]
    have h1 := (List.pairwise_cons.1 h)
    have hl : (b :: t).getLast (by simp) ∈ b :: t := List.getLast_mem _
    rcases List.mem_cons.1 hy with rfl | hy
    · exact Nat.le_of_lt (h1.1 _ hl)
    · exact asc_last h1.2 (by simp) y hy
theorem Pl.final {s p : List UInt8} {ps : List Nat} (h : Pl s (fits p s) ps) (hne : ps ≠ []) : (ps.getLast hne == s.length) = fits p s s.length := by
  rw [Bool.eq_iff_iff, beq_iff_eq]
  constructor
  · intro e
    have := (h.2 (ps.getLast hne)).1 (List.getLast_mem hne)
    rw [e] at this
    exact this.2
  · intro e
    have h1 := (h.2 s.length).2 ⟨Nat.le_refl _, e⟩
    have h2 := asc_last h.1 hne _ h1
    have h3 := ((h.2 (ps.getLast hne)).1 (List.getLast_mem hne)).1
    omega
end Go.Proofs.YtpjgacmcpbpklaaDoor.U7
