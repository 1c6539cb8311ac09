/- cutCounted. -/
import Derived.Test.YtpmgnmknjmnecaaKvArg
import Derived.Deep.QuietTactic
import Derived.BigQuiet
import Derived.OwnWalk
namespace Go.Proofs.Ytpmgnmknjmnecaa
open Go.RowKit Kv
set_option linter.unusedVariables false

theorem run_tail_u {P : Program} {t e : TypeId} (ht : P.underlying t = some (.slice e)) (hz : ∀ w, (Go.sizeOf e).run P w = .ok 1 w) {w : World} {B : Nat} {A : Option Addr} {l : List UInt8} (h : Sees w B A l) (n c k : Nat) (hn : n = l.length) (hk : k ≤ n) (hc : n ≤ c) :
    ∃ A', (∀ W, (Instr.slice t (.slice A n c) (some (.int .u64 (k : Int))) none none).run P W = .ok (.slice A' (n - k) (c - k)) W) ∧ Sees w B A' (l.drop k) := by
  subst hn
  refine ⟨if c = k then A else A.map (·.add (k * 1)), fun W => ?_, fun hd => ?_⟩
  · have ht' : P.underlying t = some (.slice (P.elem t)) := by simp [Program.elem, ht]
    have he : P.elem t = e := by simp [Program.elem, ht]
    rw [run_slice_l W t A _ _ ht' .u64 _ (by omega) (by omega), he, hz]
    simp [Result.andThen, sliced]
  · have hkl : k < l.length := by
      have : 0 < (l.drop k).length := List.length_pos_iff.2 hd
      rw [List.length_drop] at this; omega
    obtain ⟨g, o, rfl, hg, hcell⟩ := h (by intro e0; simp [e0] at hkl)
    rw [if_neg (by omega)]
    refine ⟨g, o + k, by rw [Option.map_some, Nat.mul_one, add_to], hg, fun j hj => ?_⟩
    have hj' : k + j < l.length := by simp at hj; omega
    rw [Nat.add_assoc, hcell (k + j) hj', List.getElem_drop]
theorem run_head_u {P : Program} {t e : TypeId} (ht : P.underlying t = some (.slice e)) (hz : ∀ w, (Go.sizeOf e).run P w = .ok 1 w) (A : Option Addr) (n c k : Nat) (hk : k ≤ c) :
    ∃ A', (∀ W, (Instr.slice t (.slice A n c) none (some (.int .u64 (k : Int))) none).run P W = .ok (.slice A' k c) W) ∧ ∀ w B l, Sees w B A l → Sees w B A' l := by
  refine ⟨if c = 0 then A else A.map (·.add (0 * 1)), fun W => ?_, fun w B l h hn => ?_⟩
  · have ht' : P.underlying t = some (.slice (P.elem t)) := by simp [Program.elem, ht]
    have he : P.elem t = e := by simp [Program.elem, ht]
    rw [run_slice_h W t A _ _ ht' .u64 _ (by omega) (by omega), he, hz]
    simp [Result.andThen, sliced]
  · obtain ⟨g, o, rfl, hg, hcell⟩ := h hn
    refine ⟨g, o, ?_, hg, hcell⟩
    by_cases hc : c = 0
    · rw [if_pos hc]
    · rw [if_neg hc, Option.map_some, Nat.zero_mul, add_to]; rfl

/-- What is cut off behind a number of s bytes. -/
def cutC (l : List UInt8) (s : Nat) : Option (List UInt8 × List UInt8) :=
  if l.length < s then none else if (l.drop s).length < Rc.num (l.take s) then none else some ((l.drop s).take (Rc.num (l.take s)), (l.drop s).drop (Rc.num (l.take s)))
/-- A slice that reads l, below B. -/
def Rd (w : World) (B : Nat) (v : Value) (l : List UInt8) : Prop := ∃ A c, v = .slice A l.length c ∧ l.length ≤ c ∧ c ≤ maxLen ∧ Sees w B A l
theorem Rd.below {w w' : World} {B : Nat} {v : Value} {l : List UInt8} (h : Rd w B v l) (hb : Below w.heap.size w w') (hB : B ≤ w.heap.size) : Rd w' B v l := by
  obtain ⟨A, c, h1, h2, h3, h4⟩ := h
  exact ⟨A, c, h1, h2, h3, h4.below hb hB⟩
def CutEnd (l : List UInt8) (s B : Nat) (w : World) (e : Ending) (w' : World) : Prop :=
  (match cutC l s with
   | none => e = .returned (.tuple #[.slice none 0 0, .slice none 0 0, .bool false])
   | some (a, r) => ∃ v1 v2, e = .returned (.tuple #[v1, v2, .bool true]) ∧ Rd w B v1 a ∧ Rd w B v2 r) ∧ Below w.heap.size w w'
theorem CutEnd.none {l : List UInt8} {s B : Nat} {w w' : World} (h : cutC l s = none) (hb : Below w.heap.size w w') : CutEnd l s B w (.returned (.tuple #[.slice none 0 0, .slice none 0 0, .bool false])) w' := ⟨by rw [h], hb⟩
theorem CutEnd.some {l : List UInt8} {s B : Nat} {w w' : World} {a r : List UInt8} {v1 v2 : Value} (h : cutC l s = some (a, r)) (h1 : Rd w B v1 a) (h2 : Rd w B v2 r) (hb : Below w.heap.size w w') : CutEnd l s B w (.returned (.tuple #[v1, v2, .bool true])) w' := ⟨by rw [h]; exact ⟨v1, v2, rfl, h1, h2⟩, hb⟩

set_option maxHeartbeats 1600000 in
set_option maxRecDepth 100000 in
theorem cutC_any (w : World) (B : Nat) (A : Option Addr) (n c s : Nat) (S : Int) (l : List UInt8) (hn : n = l.length) (hnc : n ≤ c) (hcm : c ≤ maxLen) (hs : Sees w B A l) (hS : S = (s : Int)) (hs4 : s ≤ 4) :
    Calls Try.prog 45 #[.slice A n c, .int .i64 S] w (CutEnd l s B w) := by
  subst hn hS
  have hcm' : c ≤ 9223372036854775807 := by unfold maxLen at hcm; omega
  by_cases h1 : l.length < s
  · have KEY := Lib.hid (CutEnd.none (B := B) (show cutC l s = none by unfold cutC; rw [if_pos h1]) (Below.refl w.heap.size w))
    have h1' : (l.length : Int) < (s : Int) := by omega
    clear hs
    go_enter Try.func45, Try.ntmps45
    go_wp2
    go_ret3
    exact KEY.out
  · have h1' : ¬ (l.length : Int) < (s : Int) := by omega
    obtain ⟨A3, hsl3, hsee3⟩ := run_head (P := Try.prog) Try.underlying27 (fun w => by exact Try.sizeOf5 w) A l.length c s (by omega)
    obtain ⟨A5, hsl5, hsee5⟩ := run_tail (P := Try.prog) Try.underlying27 (fun w => by exact Try.sizeOf5 w) hs l.length c s rfl (by omega) hnc
    obtain ⟨x, Hx⟩ : ∃ x, Hid (x = Rc.num (l.take s)) := ⟨_, Lib.hid rfl⟩
    have hnum := number_any A3 s c (l.take s) B w (by rw [List.length_take]; omega) (by rw [List.length_take]; omega) (hsee3 w B _ (hs.take s))
    rw [← Hx.out] at hnum
    have hx32 : x < 4294967296 := by
      have h2 := Rc.num_lt (l.take s)
      have h3 : 256 ^ (l.take s).length ≤ 256 ^ 4 := Nat.pow_le_pow_right (by omega) (by rw [List.length_take]; omega)
      rw [← Hx.out] at h2
      have h4 : (256 : Nat) ^ 4 = 4294967296 := by decide
      omega
    obtain ⟨r, Hr⟩ : ∃ r, Hid (r = l.drop s) := ⟨_, Lib.hid rfl⟩
    have hrl : l.length - s = r.length := by rw [Hr.out, List.length_drop]
    rw [hrl] at hsl5
    rw [← Hr.out] at hsee5
    have hrc : r.length ≤ c - s := by omega
    obtain ⟨c5, Hc5⟩ : ∃ c5, Hid (c5 = c - s) := ⟨_, Lib.hid rfl⟩
    rw [← Hc5.out] at hsl5 hrc
    have hc5 : c5 ≤ c := by have := Hc5.out; omega
    have HNUM := Lib.hid hnum
    by_cases h2 : r.length < x
    · have KEY := Lib.hid (CutEnd.none (B := B) (show cutC l s = none by unfold cutC; rw [if_neg h1, ← Hr.out, ← Hx.out, if_pos h2]) (Below.refl w.heap.size w))
      have h2' : (r.length : Int) < (x : Int) := by omega
      clear hs hsee3 hsee5 hnum hrl
      go_enter Try.func45, Try.ntmps45
      go_wp2_with fail
      refine HNUM.out.mono ?_
      rintro e w2 ⟨rfl, rfl⟩
      go_wp2
      go_ret3
      exact KEY.out
    · have h2' : ¬ (r.length : Int) < (x : Int) := by omega
      obtain ⟨A6, hsl6, hsee6⟩ := run_head_u (P := Try.prog) Try.underlying27 (fun w => by exact Try.sizeOf5 w) A5 r.length c5 x (by omega)
      obtain ⟨A7, hsl7, hsee7⟩ := run_tail_u (P := Try.prog) Try.underlying27 (fun w => by exact Try.sizeOf5 w) hsee5 r.length c5 x rfl (by omega) hrc
      have hr1 : Rd w B (.slice A6 x c5) (r.take x) := ⟨A6, c5, by rw [List.length_take]; congr 1; omega, by rw [List.length_take]; omega, by omega, hsee6 w B _ (hsee5.take x)⟩
      have hr2 : Rd w B (.slice A7 (r.length - x) (c5 - x)) (r.drop x) := ⟨A7, c5 - x, by rw [List.length_drop], by rw [List.length_drop]; omega, by omega, hsee7⟩
      have KEY := Lib.hid (fun w' (hb : Below w.heap.size w w') => CutEnd.some (show cutC l s = some (r.take x, r.drop x) by unfold cutC; rw [if_neg h1, ← Hr.out, ← Hx.out, if_neg h2]) hr1 hr2 hb)
      clear hs hsee3 hsee5 hnum hrl hsee6 hsee7 hr1 hr2
      go_enter Try.func45, Try.ntmps45
      go_wp2_with fail
      refine HNUM.out.mono ?_
      rintro e w2 ⟨rfl, rfl⟩
      go_wp2
      go_quiet (fail)
      go_wp2
      go_ret3
      exact KEY.out _ (below_drewN (Below.refl _ _) _)
end Go.Proofs.Ytpmgnmknjmnecaa
