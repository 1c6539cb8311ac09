/- WalRow, WalTup: these texts in one. -/
import Derived.Test.YtambddncncaehaaDoorWal
import Derived.Test.YtambddncncaehaaDoorWalRegs
namespace Go.Proofs.YtambddncncaehaaDoor
open Go.RowKit
set_option linter.unusedVariables false

theorem Tryd.infoBs : (Tryd.prog.info? 31).map (fun i => (i.zero, i.size, i.bytes)) = some (some (.slice none 0 0), 1, 24) := by kernel_rfl
theorem row_append (w : World) (A : Option Addr) (n c : Nat) (vs : List Value) (h : w.ownsRow 0 31 1 (.slice A n c) n vs) (u : Value) (hu : u.oneCell' = true) (b : Nat) (hb : w.cell? ⟨b, 0, none⟩ = some u) (hbig : n + 1 ≤ 1000000) (ty : TypeId) :
    ∃ A' c' w', (Builtin.append_ #[33, 33] ty #[.slice A n c, .slice (some ⟨b, 0, none⟩) 1 1]).run Tryd.prog w = .ok (.slice A' (n + 1) c') w' ∧ w'.ownsRow 0 31 1 (.slice A' (n + 1) c') (n + 1) (vs ++ [u]) ∧ Only (blk (.slice A n c)) w w' ∧ Grows (blk (.slice A n c)) (blk (.slice A' (n + 1) c')) w := by
  obtain ⟨i0, hi, hz0, hz1, hz2⟩ := info_parts Tryd.infoBs
  obtain ⟨v', w', hr, h2, h3, h4⟩ := run_append_here (P := Tryd.prog) w 33 ty 31 i0 _ 1 24 Tryd.underlying33 hi hz0 hz1 hz2 rfl (by decide)
    (.slice A n c) n vs h ⟨b, 0, none⟩ 1 1 [u] rfl (fun j x hx => by
      match j, hx with
      | 0, hx => simp at hx; subst hx; exact hb
      | j + 1, hx => simp at hx) (by intro x hx; simp at hx; subst hx; exact hu) (by unfold maxLen; omega) (by omega)
  obtain ⟨A', c', rfl, _, _⟩ := own_shape h2
  refine ⟨A', c', w', hr, h2, Only.of_grown h3 (fun k hk => mem_blk.2 hk), fun k hk => ?_⟩
  rcases h4 k (mem_blk.1 hk) with h5 | h5
  · exact .inl (mem_blk.2 h5)
  · exact .inr h5

def RowEnd1 (wz : World) (A : Option Addr) (n c : Nat) (vs : List Value) (u : Value) (A' : Option Addr) (c' : Nat) (w : World) : Prop :=
  w.ownsRow 0 31 1 (.slice A' (n + 1) c') (n + 1) (vs ++ [u]) ∧ Only (blk (.slice A n c)) wz w ∧ Grows (blk (.slice A n c)) (blk (.slice A' (n + 1) c')) wz
def LdS (wz : World) (l : Nat) (A : Option Addr) (n c : Nat) (vs : List Value) (u : Value) (f : Nat → Bool) (R : Nat → Value) (w : World) : Prop :=
  (f 0 = false ∧ f 1 = false ∧ f 2 = false ∧ Below wz.heap.size wz w) ∨
  (f 0 = true ∧ f 1 = false ∧ f 2 = false ∧ Below wz.heap.size wz w ∧ ∃ b, R 0 = .slice (some ⟨b, 0, none⟩) 1 1 ∧ w.cell? ⟨b, 0, none⟩ = some u) ∨
  (f 0 = true ∧ f 1 = true ∧ f 2 = false ∧ ∃ A' c', R 1 = .slice A' (n + 1) c' ∧ RowEnd1 wz A n c vs u A' c' w) ∨
  (f 2 = true ∧ ∃ A' c' w1, w = w1.setCell ⟨l, 6, none⟩ (.slice A' (n + 1) c') ∧ RowEnd1 wz A n c vs u A' c' w1)

theorem ld20_run {Q : Exit → Act → World → Prop} {a0 : Act} {wp : World} (l rb n c n2 c2 : Nat) (Ar A2 : Option Addr) (vs : List Value) (hsz : 86 < a0.tmps.size) (in0 : a0.eval (.tmp 0) = .pointer (some ⟨l, 0, none⟩)) (in12 : a0.eval (.tmp 12) = .pointer (some ⟨rb, 0, none⟩))
    (h6 : wp.cell? ⟨l, 6, none⟩ = some (.slice Ar n c)) (hfr : wp.frozen? ⟨l, 6, none⟩ = false) (hrb : wp.cell? ⟨rb, 1, none⟩ = some (.slice A2 n2 c2)) (hrow : wp.ownsRow 0 31 1 (.slice Ar n c) n vs) (hl : l ∉ blk (.slice Ar n c)) (hbig : n + 1 ≤ 1000000)
    (fin2 : ∀ a A' c' w1, Fr [76, 77, 78, 79, 80, 81, 82, 83, 84, 85, 86] a0 a → RowEnd1 wp Ar n c vs (.slice A2 n2 c2) A' c' w1 → Q .normal a (w1.setCell ⟨l, 6, none⟩ (.slice A' (n + 1) c'))) :
    (Code.region 20 opsLd20 true).wp Tryd.prog Q a0 wp := by
  have hl6 : l < wp.heap.size := World.block_lt_of_cell? wp _ h6
  have hrb6 : rb < wp.heap.size := World.block_lt_of_cell? wp _ hrb
  refine ld20 l rb n c n2 c2 Ar A2 (LdS wp l Ar n c vs (.slice A2 n2 c2)) hsz in0 in12 ?_ ?_ ?_ ?_ ?_ ?_ ?_
  · intro f R w hS e1 e2
    rcases hS with ⟨_, _, _, hb⟩ | ⟨_, _, _, hb, _⟩ | ⟨_, h, _⟩ | ⟨h, _⟩
    · exact (hb.cell (p := ⟨l, 6, none⟩) hl6).trans h6
    · exact (hb.cell (p := ⟨l, 6, none⟩) hl6).trans h6
    · rw [e1] at h; cases h
    · rw [e2] at h; cases h
  · intro f R w hS e0 e1 e2
    rcases hS with ⟨_, _, _, hb⟩ | ⟨h, _⟩ | ⟨_, h, _⟩ | ⟨h, _⟩
    · exact (hb.cell (p := ⟨rb, 1, none⟩) hrb6).trans hrb
    · rw [e0] at h; cases h
    · rw [e1] at h; cases h
    · rw [e2] at h; cases h
  · intro f R w hS e0 e1 e2
    rcases hS with ⟨_, _, _, hb⟩ | ⟨h, _⟩ | ⟨_, h, _⟩ | ⟨h, _⟩
    · refine .inr (.inl ⟨setF_self _ _, by rw [setF_ne _ (by decide)]; exact e1, by rw [setF_ne _ (by decide)]; exact e2, hb.alloc hb.size _, w.heap.size, setR_self _ _ _, ?_⟩)
      rw [World.cell?_alloc_at _ _ _ _ rfl]; rfl
    · rw [e0] at h; cases h
    · rw [e1] at h; cases h
    · rw [e2] at h; cases h
  · intro f R w hS e0 e1 e2
    rcases hS with ⟨h, _⟩ | ⟨_, _, _, hb, b, hR, hc⟩ | ⟨_, h, _⟩ | ⟨h, _⟩
    · rw [e0] at h; cases h
    · obtain ⟨A', c', w', hr, k1, k2, k3⟩ := row_append w Ar n c vs (own_below hrow hb (Nat.le_refl _)) (.slice A2 n2 c2) rfl b hc hbig 33
      rw [hR]
      refine ⟨_, w', hr, .inr (.inr (.inl ⟨by rw [setF_ne _ (by decide)]; exact e0, setF_self _ _, by rw [setF_ne _ (by decide)]; exact e2, A', c', setR_self _ _ _, k1, (Only.of_below hb).trans k2, fun x hx => (k3 x hx).imp id (fun h => Nat.le_trans hb.size h)⟩))⟩
    · rw [e1] at h; cases h
    · rw [e2] at h; cases h
  · intro f R w hS e1 e2
    rcases hS with ⟨_, h, _⟩ | ⟨_, h, _⟩ | ⟨_, _, _, A', c', hR, hE⟩ | ⟨h, _⟩
    · rw [e1] at h; cases h
    · rw [e1] at h; cases h
    · refine ⟨A', n + 1, c', hR, (hE.2.1.cell (a := ⟨l, 6, none⟩) hl6 hl).trans h6, (hE.2.1.frozen (a := ⟨l, 6, none⟩) hl6 hl).trans hfr, .inr (.inr (.inr ⟨setF_self _ _, A', c', w, rfl, hE⟩))⟩
    · rw [e2] at h; cases h
  · exact .inl ⟨rfl, rfl, rfl, (Below.refl _ _).drew⟩
  · intro a w f hfr hall hS
    rcases hS with ⟨h, _⟩ | ⟨_, h, _⟩ | ⟨_, _, h, _⟩ | ⟨_, A', c', w1, rfl, hE⟩
    · rw [hall 0 (by decide)] at h; cases h
    · rw [hall 1 (by decide)] at h; cases h
    · rw [hall 2 (by decide)] at h; cases h
    · exact fin2 a A' c' w1 hfr hE

def RowEnd2 (wz : World) (A : Option Addr) (n c : Nat) (vs : List Value) (body : List UInt8) (nb : Nat) (A' : Option Addr) (c' : Nat) (A'' : Option Addr) (c'' : Nat) (w : World) : Prop :=
  RowEnd1 wz A n c vs (.slice A' nb c') A'' c'' w ∧ BRow w (.slice A' nb c') body ∧ ∀ k, k ∈ blk (.slice A' nb c') → wz.heap.size ≤ k
def AdS (wz : World) (l : Nat) (A : Option Addr) (n c : Nat) (vs : List Value) (body : List UInt8) (nb : Nat) (f : Nat → Bool) (R : Nat → Value) (w : World) : Prop :=
  (f 0 = false ∧ f 1 = false ∧ f 2 = false ∧ f 3 = false ∧ Below wz.heap.size wz w) ∨
  (f 0 = true ∧ f 1 = false ∧ f 2 = false ∧ f 3 = false ∧ Below wz.heap.size wz w ∧ ∃ A' c', R 0 = .slice A' nb c' ∧ BRow w (.slice A' nb c') body ∧ ∀ k, k ∈ blk (.slice A' nb c') → wz.heap.size ≤ k) ∨
  (f 0 = true ∧ f 1 = true ∧ f 2 = false ∧ f 3 = false ∧ Below wz.heap.size wz w ∧ ∃ A' c' b, R 1 = .slice (some ⟨b, 0, none⟩) 1 1 ∧ w.cell? ⟨b, 0, none⟩ = some (.slice A' nb c') ∧ BRow w (.slice A' nb c') body ∧ ∀ k, k ∈ blk (.slice A' nb c') → wz.heap.size ≤ k) ∨
  (f 1 = true ∧ f 2 = true ∧ f 3 = false ∧ ∃ A' c' A'' c'', R 2 = .slice A'' (n + 1) c'' ∧ RowEnd2 wz A n c vs body nb A' c' A'' c'' w) ∨
  (f 3 = true ∧ ∃ A' c' A'' c'' w1, w = w1.setCell ⟨l, 6, none⟩ (.slice A'' (n + 1) c'') ∧ RowEnd2 wz A n c vs body nb A' c' A'' c'' w1)
theorem ad12_run {Q : Exit → Act → World → Prop} {a0 : Act} {wp : World} (l n c n2 c2 : Nat) (Ar A2 : Option Addr) (vs : List Value) (body : List UInt8) (hsz : 68 < a0.tmps.size) (in0 : a0.eval (.tmp 0) = .pointer (some ⟨l, 0, none⟩)) (in1 : a0.eval (.tmp 1) = .slice A2 n2 c2)
    (h6 : wp.cell? ⟨l, 6, none⟩ = some (.slice Ar n c)) (hfr : wp.frozen? ⟨l, 6, none⟩ = false) (hbody : n2 = body.length) (hbb : n2 ≤ 140737488355328) (hsee : Sees wp wp.heap.size A2 body) (hrow : wp.ownsRow 0 31 1 (.slice Ar n c) n vs) (hl : l ∉ blk (.slice Ar n c)) (hbig : n + 1 ≤ 1000000)
    (fin2 : ∀ a A' c' A'' c'' w1, Fr [58, 59, 60, 61, 62, 63, 64, 65, 66, 67, 68] a0 a → RowEnd2 wp Ar n c vs body n2 A' c' A'' c'' w1 → Q .normal a (w1.setCell ⟨l, 6, none⟩ (.slice A'' (n + 1) c''))) :
    (Code.region 12 opsAd12 true).wp Tryd.prog Q a0 wp := by
  have hl6 : l < wp.heap.size := World.block_lt_of_cell? wp _ h6
  have hblt : ∀ k, k ∈ blk (.slice Ar n c) → k < wp.heap.size := fun k hk => (World.ownsRow.lt hrow k (mem_blk.1 hk)).2
  refine ad12 l n c n2 c2 Ar A2 (AdS wp l Ar n c vs body n2) hsz in0 in1 ?_ ?_ ?_ ?_ ?_ ?_ ?_
  · intro f R w hS e2 e3
    rcases hS with ⟨_, _, _, _, hb⟩ | ⟨_, _, _, _, hb, _⟩ | ⟨_, _, _, _, hb, _⟩ | ⟨_, h, _⟩ | ⟨h, _⟩
    · exact (hb.cell (p := ⟨l, 6, none⟩) hl6).trans h6
    · exact (hb.cell (p := ⟨l, 6, none⟩) hl6).trans h6
    · exact (hb.cell (p := ⟨l, 6, none⟩) hl6).trans h6
    · rw [e2] at h; cases h
    · rw [e3] at h; cases h
  · intro f R w hS e0 e1 e2 e3
    rcases hS with ⟨_, _, _, _, hb⟩ | ⟨h, _⟩ | ⟨h, _⟩ | ⟨h, _⟩ | ⟨h, _⟩
    · refine (clone_opt A2 n2 c2 body wp.heap.size w hbody hbb (hsee.below hb (Nat.le_refl _))).mono ?_
      rintro e w' ⟨A', c', rfl, k1, k2, k3, k4, k5⟩
      exact ⟨_, rfl, .inr (.inl ⟨setF_self _ _, by rw [setF_ne _ (by decide)]; exact e1, by rw [setF_ne _ (by decide)]; exact e2, by rw [setF_ne _ (by decide)]; exact e3, hb.trans (k4.mono hb.size), A', c', setR_self _ _ _, k1, fun k hk => Nat.le_trans hb.size (k5 k hk)⟩)⟩
    · rw [e0] at h; cases h
    · rw [e0] at h; cases h
    · rw [e1] at h; cases h
    · rw [e3] at h; cases h
  · intro f R w hS e0 e1 e2 e3
    rcases hS with ⟨h, _⟩ | ⟨_, _, _, _, hb, A', c', hR, k1, k2⟩ | ⟨_, h, _⟩ | ⟨h, _⟩ | ⟨h, _⟩
    · rw [e0] at h; cases h
    · refine ⟨A', n2, c', hR, .inr (.inr (.inl ⟨by rw [setF_ne _ (by decide)]; exact e0, setF_self _ _, by rw [setF_ne _ (by decide)]; exact e2, by rw [setF_ne _ (by decide)]; exact e3, hb.alloc hb.size _, A', c', w.heap.size, setR_self _ _ _, ?_, k1.alloc _, k2⟩))⟩
      rw [World.cell?_alloc_at _ _ _ _ rfl]; rfl
    · rw [e1] at h; cases h
    · rw [e1] at h; cases h
    · rw [e3] at h; cases h
  · intro f R w hS e1 e2 e3
    rcases hS with ⟨_, h, _⟩ | ⟨_, h, _⟩ | ⟨e0, _, _, _, hb, A', c', b, hR, hc, k1, k2⟩ | ⟨_, h, _⟩ | ⟨h, _⟩
    · rw [e1] at h; cases h
    · rw [e1] at h; cases h
    · obtain ⟨A'', c'', w', hr, m1, m2, m3⟩ := row_append w Ar n c vs (own_below hrow hb (Nat.le_refl _)) (.slice A' n2 c') rfl b hc hbig 33
      rw [hR]
      refine ⟨_, w', hr, .inr (.inr (.inr (.inl ⟨by rw [setF_ne _ (by decide)]; exact e1, setF_self _ _, by rw [setF_ne _ (by decide)]; exact e3, A', c', A'', c'', setR_self _ _ _, ⟨m1, (Only.of_below hb).trans m2, fun x hx => (m3 x hx).imp id (fun h => Nat.le_trans hb.size h)⟩, k1.only m2 (fun k hk hm => by have := k2 k hk; have := hblt k hm; omega), k2⟩)))⟩
    · rw [e2] at h; cases h
    · rw [e3] at h; cases h
  · intro f R w hS e2 e3
    rcases hS with ⟨_, _, h, _⟩ | ⟨_, _, h, _⟩ | ⟨_, _, h, _⟩ | ⟨_, _, _, A', c', A'', c'', hR, hE⟩ | ⟨h, _⟩
    · rw [e2] at h; cases h
    · rw [e2] at h; cases h
    · rw [e2] at h; cases h
    · refine ⟨A'', n + 1, c'', hR, (hE.1.2.1.cell (a := ⟨l, 6, none⟩) hl6 hl).trans h6, (hE.1.2.1.frozen (a := ⟨l, 6, none⟩) hl6 hl).trans hfr, .inr (.inr (.inr (.inr ⟨setF_self _ _, A', c', A'', c'', w, rfl, hE⟩)))⟩
    · rw [e3] at h; cases h
  · exact .inl ⟨rfl, rfl, rfl, rfl, (Below.refl _ _).drew⟩
  · intro a w f hfr hall hS
    rcases hS with ⟨h, _⟩ | ⟨_, h, _⟩ | ⟨_, _, h, _⟩ | ⟨_, _, h, _⟩ | ⟨_, A', c', A'', c'', w1, rfl, hE⟩
    · rw [hall 0 (by decide)] at h; cases h
    · rw [hall 1 (by decide)] at h; cases h
    · rw [hall 2 (by decide)] at h; cases h
    · rw [hall 3 (by decide)] at h; cases h
    · exact fin2 a A' c' A'' c'' w1 hfr hE
end Go.Proofs.YtambddncncaehaaDoor

namespace Go.Proofs.YtambddncncaehaaDoor
open Go.RowKit
set_option linter.unusedVariables false

def tupAt (b : Nat) (x y : Value) (j : Nat) : Value := if j = b + 1 then .tuple #[x, y] else if j = b + 2 ∨ j = b + 4 then x else y
/-- Behind the call, or ahead of it. -/
def TupS (wz : World) (Post : Value → Value → World → Prop) (b : Nat) (pre : (Nat → Bool) → (Nat → Value) → Prop) (f : Nat → Bool) (R : Nat → Value) (w : World) : Prop :=
  (f b = false ∧ (∀ j, b < j → f j = false) ∧ pre f R ∧ Below wz.heap.size wz w) ∨
  (f b = true ∧ ∃ x y, R b = .tuple #[x, y] ∧ (∀ j, b < j → f j = true → R j = tupAt b x y j) ∧ Post x y w)
section
variable {wz : World} {Post : Value → Value → World → Prop} {b : Nat} {pre : (Nat → Bool) → (Nat → Value) → Prop} {f : Nat → Bool} {R : Nat → Value} {w w' : World}
theorem TupS.ahead (h : TupS wz Post b pre f R w) (hb : f b = false) : (∀ j, b < j → f j = false) ∧ pre f R ∧ Below wz.heap.size wz w := by
  rcases h with ⟨_, h⟩ | ⟨h, _⟩
  · exact h
  · rw [hb] at h; cases h
theorem TupS.call (h : TupS wz Post b pre f R w) (hb : f b = false) (x y : Value) (hp : Post x y w') : TupS wz Post b pre (setF f b) (setR R b (.tuple #[x, y])) w' :=
  .inr ⟨setF_self _ _, x, y, setR_self _ _ _, fun j hj hf => (by
    rw [setF_ne _ (by omega), (h.ahead hb).1 j hj] at hf; cases hf), hp⟩
theorem TupS.behind (h : TupS wz Post b pre f R w) (j : Nat) (hj : b ≤ j) (hf : f j = true) : f b = true ∧ ∃ x y, R b = .tuple #[x, y] ∧ (∀ j, b < j → f j = true → R j = tupAt b x y j) ∧ Post x y w := by
  rcases h with ⟨h, h2, _⟩ | h
  · rcases Nat.lt_or_ge b j with h3 | h3
    · rw [h2 j h3] at hf; cases hf
    · obtain rfl : j = b := by omega
      rw [hf] at h; cases h
  · exact h
theorem TupS.set (h : TupS wz Post b pre f R w) (i : Nat) (hi : b ≤ i) (hf : f i = true) (j : Nat) (hj : b < j) (v : Value) (hv : ∀ x y, R b = .tuple #[x, y] → (∀ j, b < j → f j = true → R j = tupAt b x y j) → v = tupAt b x y j) : TupS wz Post b pre (setF f j) (setR R j v) w := by
  obtain ⟨h1, x, y, h2, h3, h4⟩ := h.behind i hi hf
  refine .inr ⟨by rw [setF_ne _ (by omega)]; exact h1, x, y, by rw [setR_ne _ _ (by omega)]; exact h2, fun k hk hfk => ?_, h4⟩
  by_cases e : k = j
  · subst e; rw [setR_self]; exact hv x y h2 h3
  · rw [setR_ne _ _ e]; rw [setF_ne _ e] at hfk; exact h3 k hk hfk
end

theorem ad4_run {Q : Exit → Act → World → Prop} {a0 : Act} {wp : World} (l rb n c n2 c2 : Nat) (At A2 : Option Addr) (z : Int) (Post : Value → Value → World → Prop) (hsz : 29 < a0.tmps.size) (in0 : a0.eval (.tmp 0) = .pointer (some ⟨l, 0, none⟩)) (in5 : a0.eval (.tmp 5) = .pointer (some ⟨rb, 0, none⟩))
    (h4 : wp.cell? ⟨l, 4, none⟩ = some (.slice At n c)) (c0 : wp.cell? ⟨rb, 0, none⟩ = some (.int .i64 z)) (c1 : wp.cell? ⟨rb, 1, none⟩ = some (.slice A2 n2 c2))
    (hcall : ∀ W, Below wp.heap.size wp W → Calls Tryd.prog 25 #[.slice At n c, .agg #[.int .i64 z, .slice A2 n2 c2]] W fun e w' => ∃ x y, e = .returned (.tuple #[x, y]) ∧ Post x y w')
    (fin : ∀ a w, Fr [22, 23, 24, 25, 26, 27, 21, 28, 29, 6, 7] a0 a → Post (a.eval (.tmp 6)) (a.eval (.tmp 7)) w → Q .normal a w) :
    (Code.region 4 opsAd4 true).wp Tryd.prog Q a0 wp := by
  have hl4 : l < wp.heap.size := World.block_lt_of_cell? wp _ h4
  have hrb : rb < wp.heap.size := World.block_lt_of_cell? wp _ c0
  refine ad4 l rb n c n2 c2 At A2 z (TupS wp Post 0 (fun _ _ => True)) hsz in0 in5 ?_ ?_ ?_ ?_ ?_ ?_ ?_ ?_ ?_ ?_ ?_
  · intro f R w hS e0; exact ((hS.ahead e0).2.2.cell (p := ⟨l, 4, none⟩) hl4).trans h4
  · intro f R w hS e0; exact ((hS.ahead e0).2.2.cell (p := ⟨rb, 0, none⟩) hrb).trans c0
  · intro f R w hS e0; exact ((hS.ahead e0).2.2.cell (p := ⟨rb, 1, none⟩) hrb).trans c1
  · intro f R w hS e0
    refine (hcall w (hS.ahead e0).2.2).mono ?_
    rintro e w' ⟨x, y, rfl, hp⟩
    exact ⟨_, rfl, hS.call e0 x y hp⟩
  · intro f R w hS e0 e1; exact hS.set 0 (Nat.le_refl _) e0 1 (by omega) _ (fun x y h1 _ => h1)
  · intro f R w hS e1 e2
    obtain ⟨_, x, y, k1, k2, _⟩ := hS.behind 1 (by omega) e1
    exact ⟨x, y, k2 1 (by omega) e1, hS.set 1 (by omega) e1 2 (by omega) _ (fun x' y' q1 _ => by
      rw [k1] at q1; injection q1 with q1; simp at q1; exact q1.1)⟩
  · intro f R w hS e1 e2
    obtain ⟨_, x, y, k1, k2, _⟩ := hS.behind 1 (by omega) e1
    exact ⟨x, y, k2 1 (by omega) e1, hS.set 1 (by omega) e1 3 (by omega) _ (fun x' y' q1 _ => by
      rw [k1] at q1; injection q1 with q1; simp at q1; exact q1.2)⟩
  · intro f R w hS e1 e2; exact hS.set 2 (by omega) e1 4 (by omega) _ (fun x y _ h2 => h2 2 (by omega) e1)
  · intro f R w hS e1 e2; exact hS.set 3 (by omega) e1 5 (by omega) _ (fun x y _ h2 => h2 3 (by omega) e1)
  · exact .inl ⟨rfl, fun _ _ => rfl, trivial, (Below.refl _ _).drew⟩
  · intro a w f hfr hall hS
    obtain ⟨_, x, y, k1, k2, k3⟩ := hS.behind 0 (Nat.le_refl _) (hall 0 (by decide))
    have q4 := k2 4 (by omega) (hall 4 (by decide))
    have q5 := k2 5 (by omega) (hall 5 (by decide))
    have e4 : a.eval (.tmp 6) = x := q4
    have e5 : a.eval (.tmp 7) = y := q5
    exact fin a w hfr (by rw [e4, e5]; exact k3)

theorem rd5_run {Q : Exit → Act → World → Prop} {a0 : Act} {wp : World} (l d : Nat) (half at_ fs : Int) (Post : Value → Value → World → Prop) (hsz : 29 < a0.tmps.size) (in0 : a0.eval (.tmp 0) = .pointer (some ⟨l, 0, none⟩)) (in1 : a0.eval (.tmp 1) = .int .i64 half) (in9 : a0.eval (.tmp 9) = .int .i64 at_)
    (h0 : wp.cell? ⟨l, 0, none⟩ = some (.pointer (some ⟨d, 0, none⟩)))
    (hsec : ∀ W, Below wp.heap.size wp W → Calls Tryd.prog 41 #[.pointer (some ⟨l, 0, none⟩), .int .i64 half, .int .i64 at_] W fun e w' => e = .returned (.int .i64 fs) ∧ W = w')
    (hcall : ∀ W, Below wp.heap.size wp W → Calls Tryd.prog 33 #[.pointer (some ⟨d, 0, none⟩), .int .i64 fs] W fun e w' => ∃ x y, e = .returned (.tuple #[x, y]) ∧ Post x y w')
    (fin : ∀ a w, Fr [19, 20, 21, 22, 23, 24, 25, 26, 27, 18, 28, 29, 10, 11] a0 a → Post (a.eval (.tmp 10)) (a.eval (.tmp 11)) w → Q .normal a w) :
    (Code.region 5 opsRd5 true).wp Tryd.prog Q a0 wp := by
  have hl0 : l < wp.heap.size := World.block_lt_of_cell? wp _ h0
  refine rd5 l d half at_ fs (TupS wp Post 1 (fun f R => f 0 = true → R 0 = .int .i64 fs)) hsz in0 in1 in9 ?_ ?_ ?_ ?_ ?_ ?_ ?_ ?_ ?_ ?_
  · intro f R w hS e0; exact ((hS.ahead e0).2.2.cell (p := ⟨l, 0, none⟩) hl0).trans h0
  · intro f R w hS e0 e1
    refine (hsec w (hS.ahead e1).2.2).mono ?_
    rintro e w' ⟨rfl, rfl⟩
    exact ⟨_, rfl, .inl ⟨by rw [setF_ne _ (by decide)]; exact e1, fun j hj => by rw [setF_ne _ (by omega)]; exact (hS.ahead e1).1 j hj, fun _ => setR_self _ _ _, (hS.ahead e1).2.2⟩⟩
  · intro f R w hS e0 e1
    refine ⟨(hS.ahead e1).2.1 e0, (hcall w (hS.ahead e1).2.2).mono ?_⟩
    rintro e w' ⟨x, y, rfl, hp⟩
    exact ⟨_, rfl, hS.call e1 x y hp⟩
  · intro f R w hS e0 e1; exact hS.set 1 (Nat.le_refl _) e0 2 (by omega) _ (fun x y h1 _ => h1)
  · intro f R w hS e1 e2
    obtain ⟨_, x, y, k1, k2, _⟩ := hS.behind 2 (by omega) e1
    exact ⟨x, y, k2 2 (by omega) e1, hS.set 2 (by omega) e1 3 (by omega) _ (fun x' y' q1 _ => by
      rw [k1] at q1; injection q1 with q1; simp at q1; exact q1.1)⟩
  · intro f R w hS e1 e2
    obtain ⟨_, x, y, k1, k2, _⟩ := hS.behind 2 (by omega) e1
    exact ⟨x, y, k2 2 (by omega) e1, hS.set 2 (by omega) e1 4 (by omega) _ (fun x' y' q1 _ => by
      rw [k1] at q1; injection q1 with q1; simp at q1; exact q1.2)⟩
  · intro f R w hS e1 e2; exact hS.set 3 (by omega) e1 5 (by omega) _ (fun x y _ h2 => h2 3 (by omega) e1)
  · intro f R w hS e1 e2; exact hS.set 4 (by omega) e1 6 (by omega) _ (fun x y _ h2 => h2 4 (by omega) e1)
  · exact .inl ⟨rfl, fun _ _ => rfl, fun h => (by cases h), (Below.refl _ _).drew⟩
  · intro a w f hfr hall hS
    obtain ⟨_, x, y, k1, k2, k3⟩ := hS.behind 1 (Nat.le_refl _) (hall 1 (by decide))
    have q4 := k2 5 (by omega) (hall 5 (by decide))
    have q5 := k2 6 (by omega) (hall 6 (by decide))
    have e4 : a.eval (.tmp 10) = x := q4
    have e5 : a.eval (.tmp 11) = y := q5
    exact fin a w hfr (by rw [e4, e5]; exact k3)
end Go.Proofs.YtambddncncaehaaDoor
