/- KvCut, KvCpR, KvCPut, KvDec, KvLoad, KvLaw2: these texts in one. -/
import Derived.Test.YtgpkdnnlgafenaaKvArg
import Derived.Deep.QuietTactic
import Derived.BigQuiet
import Derived.OwnWalk
import Derived.Test.YtgpkdnnlgafenaaFlags
import Derived.WalkKit
import Derived.WalkSpells
import Derived.WalkLawsBesides
import Derived.Lib.Hide
import Derived.Test.YtgpkdnnlgafenaaKvSet
import Derived.Test.YtgpkdnnlgafenaaRet
import Derived.Test.YtgpkdnnlgafenaaKvEncR
import Derived.Test.YtgpkdnnlgafenaaKvLaw
import Derived.Test.YtgpkdnnlgafenaaKvAwake
import Derived.Test.YtgpkdnnlgafenaaKvByt
namespace Go.Proofs.Ytgpkdnnlgafenaa
open Go.RowKit Kv
set_option linter.unusedVariables false

theorem run_tail_u {P : Program} {t e : TypeId} (ht : P.underlying t = some (.slice e)) (hz : ∀ w, (Go.sizeOf e).run P w = .ok 1 w) {w : World} {B : Nat} {A : Option Addr} {l : List UInt8} (h : Sees w B A l) (n c k : Nat) (hn : n = l.length) (hk : k ≤ n) (hc : n ≤ c) :
    ∃ A', (∀ W, (Instr.slice t (.slice A n c) (some (.int .u64 (k : Int))) none none).run P W = .ok (.slice A' (n - k) (c - k)) W) ∧ Sees w B A' (l.drop k) := by
  subst hn
  refine ⟨if c = k then A else A.map (·.add (k * 1)), fun W => ?_, fun hd => ?_⟩
  · have ht' : P.underlying t = some (.slice (P.elem t)) := by simp [Program.elem, ht]
    have he : P.elem t = e := by simp [Program.elem, ht]
    rw [run_slice_l W t A _ _ ht' .u64 _ (by omega) (by omega), he, hz]
    simp [Result.andThen, sliced]
  · have hkl : k < l.length := by
      have : 0 < (l.drop k).length := List.length_pos_iff.2 hd
      rw [List.length_drop] at this; omega
    obtain ⟨g, o, rfl, hg, hcell⟩ := h (by intro e0; simp [e0] at hkl)
    rw [if_neg (by omega)]
    refine ⟨g, o + k, by rw [Option.map_some, Nat.mul_one, add_to], hg, fun j hj => ?_⟩
    have hj' : k + j < l.length := by simp at hj; omega
    rw [Nat.add_assoc, hcell (k + j) hj', List.getElem_drop]
theorem run_head_u {P : Program} {t e : TypeId} (ht : P.underlying t = some (.slice e)) (hz : ∀ w, (Go.sizeOf e).run P w = .ok 1 w) (A : Option Addr) (n c k : Nat) (hk : k ≤ c) :
    ∃ A', (∀ W, (Instr.slice t (.slice A n c) none (some (.int .u64 (k : Int))) none).run P W = .ok (.slice A' k c) W) ∧ ∀ w B l, Sees w B A l → Sees w B A' l := by
  refine ⟨if c = 0 then A else A.map (·.add (0 * 1)), fun W => ?_, fun w B l h hn => ?_⟩
  · have ht' : P.underlying t = some (.slice (P.elem t)) := by simp [Program.elem, ht]
    have he : P.elem t = e := by simp [Program.elem, ht]
    rw [run_slice_h W t A _ _ ht' .u64 _ (by omega) (by omega), he, hz]
    simp [Result.andThen, sliced]
  · obtain ⟨g, o, rfl, hg, hcell⟩ := h hn
    refine ⟨g, o, ?_, hg, hcell⟩
    by_cases hc : c = 0
    · rw [if_pos hc]
    · rw [if_neg hc, Option.map_some, Nat.zero_mul, add_to]; rfl

/-- What is cut off behind a number of s bytes. -/
def cutC (l : List UInt8) (s : Nat) : Option (List UInt8 × List UInt8) :=
  if l.length < s then none else if (l.drop s).length < Rc.num (l.take s) then none else some ((l.drop s).take (Rc.num (l.take s)), (l.drop s).drop (Rc.num (l.take s)))
/-- A slice that reads l, below B. -/
def Rd (w : World) (B : Nat) (v : Value) (l : List UInt8) : Prop := ∃ A c, v = .slice A l.length c ∧ l.length ≤ c ∧ c ≤ maxLen ∧ Sees w B A l
theorem Rd.below {w w' : World} {B : Nat} {v : Value} {l : List UInt8} (h : Rd w B v l) (hb : Below w.heap.size w w') (hB : B ≤ w.heap.size) : Rd w' B v l := by
  obtain ⟨A, c, h1, h2, h3, h4⟩ := h
  exact ⟨A, c, h1, h2, h3, h4.below hb hB⟩
def CutEnd (l : List UInt8) (s B : Nat) (w : World) (e : Ending) (w' : World) : Prop :=
  (match cutC l s with
   | none => e = .returned (.tuple #[.slice none 0 0, .slice none 0 0, .bool false])
   | some (a, r) => ∃ v1 v2, e = .returned (.tuple #[v1, v2, .bool true]) ∧ Rd w B v1 a ∧ Rd w B v2 r) ∧ Below w.heap.size w w'
theorem CutEnd.none {l : List UInt8} {s B : Nat} {w w' : World} (h : cutC l s = none) (hb : Below w.heap.size w w') : CutEnd l s B w (.returned (.tuple #[.slice none 0 0, .slice none 0 0, .bool false])) w' := ⟨by rw [h], hb⟩
theorem CutEnd.some {l : List UInt8} {s B : Nat} {w w' : World} {a r : List UInt8} {v1 v2 : Value} (h : cutC l s = some (a, r)) (h1 : Rd w B v1 a) (h2 : Rd w B v2 r) (hb : Below w.heap.size w w') : CutEnd l s B w (.returned (.tuple #[v1, v2, .bool true])) w' := ⟨by rw [h]; exact ⟨v1, v2, rfl, h1, h2⟩, hb⟩

set_option maxHeartbeats 1600000 in
set_option maxRecDepth 100000 in
theorem cutC_any (w : World) (B : Nat) (A : Option Addr) (n c s : Nat) (S : Int) (l : List UInt8) (hn : n = l.length) (hnc : n ≤ c) (hcm : c ≤ maxLen) (hs : Sees w B A l) (hS : S = (s : Int)) (hs4 : s ≤ 4) :
    Calls Try.prog 45 #[.slice A n c, .int .i64 S] w (CutEnd l s B w) := by
  subst hn hS
  have hcm' : c ≤ 9223372036854775807 := by unfold maxLen at hcm; omega
  by_cases h1 : l.length < s
  · have KEY := Lib.hid (CutEnd.none (B := B) (show cutC l s = none by unfold cutC; rw [if_pos h1]) (Below.refl w.heap.size w))
    have h1' : (l.length : Int) < (s : Int) := by omega
    clear hs
    go_enter Try.func45, Try.ntmps45
    go_wp2
    go_ret3
    exact KEY.out
  · have h1' : ¬ (l.length : Int) < (s : Int) := by omega
    obtain ⟨A3, hsl3, hsee3⟩ := run_head (P := Try.prog) Try.underlying27 (fun w => by exact Try.sizeOf5 w) A l.length c s (by omega)
    obtain ⟨A5, hsl5, hsee5⟩ := run_tail (P := Try.prog) Try.underlying27 (fun w => by exact Try.sizeOf5 w) hs l.length c s rfl (by omega) hnc
    obtain ⟨x, Hx⟩ : ∃ x, Hid (x = Rc.num (l.take s)) := ⟨_, Lib.hid rfl⟩
    have hnum := number_any A3 s c (l.take s) B w (by rw [List.length_take]; omega) (by rw [List.length_take]; omega) (hsee3 w B _ (hs.take s))
    rw [← Hx.out] at hnum
    have hx32 : x < 4294967296 := by
      have h2 := Rc.num_lt (l.take s)
      have h3 : 256 ^ (l.take s).length ≤ 256 ^ 4 := Nat.pow_le_pow_right (by omega) (by rw [List.length_take]; omega)
      rw [← Hx.out] at h2
      have h4 : (256 : Nat) ^ 4 = 4294967296 := by decide
      omega
    obtain ⟨r, Hr⟩ : ∃ r, Hid (r = l.drop s) := ⟨_, Lib.hid rfl⟩
    have hrl : l.length - s = r.length := by rw [Hr.out, List.length_drop]
    rw [hrl] at hsl5
    rw [← Hr.out] at hsee5
    have hrc : r.length ≤ c - s := by omega
    obtain ⟨c5, Hc5⟩ : ∃ c5, Hid (c5 = c - s) := ⟨_, Lib.hid rfl⟩
    rw [← Hc5.out] at hsl5 hrc
    have hc5 : c5 ≤ c := by have := Hc5.out; omega
    have HNUM := Lib.hid hnum
    by_cases h2 : r.length < x
    · have KEY := Lib.hid (CutEnd.none (B := B) (show cutC l s = none by unfold cutC; rw [if_neg h1, ← Hr.out, ← Hx.out, if_pos h2]) (Below.refl w.heap.size w))
      have h2' : (r.length : Int) < (x : Int) := by omega
      clear hs hsee3 hsee5 hnum hrl
      go_enter Try.func45, Try.ntmps45
      go_wp2_with fail
      refine HNUM.out.mono ?_
      rintro e w2 ⟨rfl, rfl⟩
      go_wp2
      go_ret3
      exact KEY.out
    · have h2' : ¬ (r.length : Int) < (x : Int) := by omega
      obtain ⟨A6, hsl6, hsee6⟩ := run_head_u (P := Try.prog) Try.underlying27 (fun w => by exact Try.sizeOf5 w) A5 r.length c5 x (by omega)
      obtain ⟨A7, hsl7, hsee7⟩ := run_tail_u (P := Try.prog) Try.underlying27 (fun w => by exact Try.sizeOf5 w) hsee5 r.length c5 x rfl (by omega) hrc
      have hr1 : Rd w B (.slice A6 x c5) (r.take x) := ⟨A6, c5, by rw [List.length_take]; congr 1; omega, by rw [List.length_take]; omega, by omega, hsee6 w B _ (hsee5.take x)⟩
      have hr2 : Rd w B (.slice A7 (r.length - x) (c5 - x)) (r.drop x) := ⟨A7, c5 - x, by rw [List.length_drop], by rw [List.length_drop]; omega, by omega, hsee7⟩
      have KEY := Lib.hid (fun w' (hb : Below w.heap.size w w') => CutEnd.some (show cutC l s = some (r.take x, r.drop x) by unfold cutC; rw [if_neg h1, ← Hr.out, ← Hx.out, if_neg h2]) hr1 hr2 hb)
      clear hs hsee3 hsee5 hnum hrl hsee6 hsee7 hr1 hr2
      go_enter Try.func45, Try.ntmps45
      go_wp2_with fail
      refine HNUM.out.mono ?_
      rintro e w2 ⟨rfl, rfl⟩
      go_wp2
      go_quiet (fail)
      go_wp2
      go_ret3
      exact KEY.out _ (below_drewN (Below.refl _ _) _)
end Go.Proofs.Ytgpkdnnlgafenaa

namespace Go.Proofs.Ytgpkdnnlgafenaa
open Go.RowKit
set_option linter.unusedVariables false
set_option linter.unusedSimpArgs false

def opsCp10 : Array Oper := #[
  { dst := some 41, op := Op.load 29 (Operand.tmp 2), type := 29, pos := "kv.go:188", after := #[], guard := none },
  { dst := some 42, op := Op.move (Operand.tmp 3), type := 27, pos := "kv.go:188", after := #[{ on := 7, ground := Ground.gcOnly Departure.lateStores }], guard := none },
  { dst := some 43, op := Op.move (Operand.tmp 4), type := 4, pos := "kv.go:188", after := #[], guard := none },
  { dst := some 44, op := Op.move (Operand.tmp 43), type := 4, pos := "kv.go:188", after := #[{ on := 2, ground := Ground.data }], guard := none },
  { dst := some 45, op := Op.load 29 (Operand.tmp 2), type := 29, pos := "kv.go:188", after := #[{ on := 3, ground := Ground.guard }], guard := some (3, true) },
  { dst := some 46, op := Op.call { callee := Callee.value (Operand.func 40), args := #[Operand.tmp 45], argTypes := #[29] }, type := 4, pos := "kv.go:188", after := #[{ on := 4, ground := Ground.data }, { on := 3, ground := Ground.chain }, { on := 3, ground := Ground.guard }], guard := some (3, true) },
  { dst := some 47, op := Op.pick (Operand.tmp 44) (Operand.tmp 46) (Operand.const (Value.bool false)), type := 4, pos := "kv.go:188", after := #[{ on := 3, ground := Ground.data }, { on := 5, ground := Ground.data }, { on := 8, ground := Ground.gcOnly Departure.lateStores }], guard := none },
  { dst := none, op := Op.store 29 (Operand.tmp 2) (Operand.tmp 41), type := 0, pos := "kv.go:188", after := #[{ on := 0, ground := Ground.data }, { on := 5, ground := Ground.chain }, { on := 0, ground := Ground.phase }, { on := 1, ground := Ground.textOnly Departure.lateStores }, { on := 2, ground := Ground.textOnly Departure.lateStores }, { on := 3, ground := Ground.textOnly Departure.lateStores }, { on := 4, ground := Ground.phase }, { on := 5, ground := Ground.textOnly Departure.lateStoresUnsure }, { on := 6, ground := Ground.textOnly Departure.lateStores }], guard := none },
  { dst := some 3, op := Op.assign (Operand.tmp 42), type := 27, pos := "kv.go:188", after := #[{ on := 1, ground := Ground.data }, { on := 7, ground := Ground.chain }, { on := 0, ground := Ground.phase }, { on := 1, ground := Ground.phase }, { on := 2, ground := Ground.textOnly Departure.lateStores }, { on := 3, ground := Ground.textOnly Departure.lateStores }, { on := 4, ground := Ground.phase }, { on := 5, ground := Ground.textOnly Departure.lateStoresUnsure }, { on := 6, ground := Ground.textOnly Departure.lateStores }, { on := 7, ground := Ground.phase }], guard := none },
  { dst := some 4, op := Op.assign (Operand.tmp 47), type := 4, pos := "kv.go:188", after := #[{ on := 6, ground := Ground.data }, { on := 8, ground := Ground.chain }, { on := 0, ground := Ground.phase }, { on := 1, ground := Ground.phase }, { on := 2, ground := Ground.phase }, { on := 3, ground := Ground.phase }, { on := 4, ground := Ground.phase }, { on := 5, ground := Ground.phase }, { on := 6, ground := Ground.phase }, { on := 7, ground := Ground.phase }, { on := 8, ground := Ground.phase }], guard := none }]

def cp10Vals (pb n c : Nat) (A : Option Addr) (key : ByteArray) (g okb : Bool) (v2 : Value) : List (Nat × Nat × Value) := [(0, 41, .agg #[.string key, .slice A n c, .bool g]), (1, 42, v2), (2, 43, .bool true), (3, 44, .bool true), (4, 45, .agg #[.string key, .slice A n c, .bool g]), (6, 47, .bool okb)]
def cp10C : List (Nat × Nat) := [(5, 46), (7, 1000007), (8, 3), (9, 4)]

set_option maxHeartbeats 4000000 in
set_option maxRecDepth 100000 in
theorem cp10 {Q : Exit → Act → World → Prop} {a0 : Act} {wp : World} (pb n c : Nat) (A : Option Addr) (key : ByteArray) (g okb : Bool) (v2 : Value) (S : (Nat → Bool) → (Nat → Value) → World → Prop)
    (hsz : 47 < a0.tmps.size) (in2 : a0.eval (.tmp 2) = .pointer (some ⟨pb, 0, none⟩))
    (hbox : ∀ f R w, S f R w → (w.cell? ⟨pb, 0, none⟩ = some (.string key) ∧ w.cell? ⟨pb, 1, none⟩ = some (.slice A n c) ∧ w.cell? ⟨pb, 2, none⟩ = some (.bool g)) ∧ (w.frozen? ⟨pb, 0, none⟩ = false ∧ w.frozen? ⟨pb, 1, none⟩ = false ∧ w.frozen? ⟨pb, 2, none⟩ = false))
    (hr : ∀ f R w, S f R w → f 0 = true → R 0 = .bool okb)
    (hc0 : ∀ f R w, S f R w → f 0 = false → Calls Try.prog 40 #[.agg #[.string key, .slice A n c, .bool g]] w fun e w' => ∃ v, e = .returned v ∧ S (setF f 0) (setR R 0 v) w')
    (hs0 : ∀ f R w, S f R w → f 1 = false → S (setF f 1) R (((w.setCell ⟨pb, 0, none⟩ (.string key)).setCell ⟨pb, 1, none⟩ (.slice A n c)).setCell ⟨pb, 2, none⟩ (.bool g)))
    (hv : ∀ f R w, S f R w → (f 2 = false → R 2 = v2) ∧ (f 3 = false → R 3 = .bool true))
    (h8 : ∀ f R w, S f R w → f 2 = false → S (setF f 2) (setR R 2 v2) w) (h9 : ∀ f R w, S f R w → f 3 = false → S (setF f 3) (setR R 3 (.bool okb)) w)
    (hS : S (fun _ => false) (resOf cp10C fun t => a0.eval (.tmp t)) wp.drew)
    (fin : ∀ a w f, Fr [41, 42, 43, 44, 45, 46, 47, 3, 4] a0 a → (∀ j, j < 4 → f j = true) → S f (resOf cp10C fun t => a.eval (.tmp t)) w → Q .normal a w) :
    (Code.region 10 opsCp10 true).wp Try.prog Q a0 wp := by
  refine region_inv (by kernel_rfl) [41, 42, 43, 44, 45, 46, 47, 3, 4] (by kernel_rfl) (by kernel_rfl) (fun t ht => by simp at ht; omega) (GF (cp10Vals pb n c A key g okb v2) cp10C S) (.start hS) ?_
    (fun L a w hf hall hG => fin a w (flagsOf cp10C L) hf  (fun j hj => by
      match j, hj with
      | 0, _ => exact (flagsOf_at (C := cp10C) (j := 0) rfl L).trans (hall 5 (by decide))
      | 1, _ => exact (flagsOf_at (C := cp10C) (j := 1) rfl L).trans (hall 7 (by decide))
      | 2, _ => exact (flagsOf_at (C := cp10C) (j := 2) rfl L).trans (hall 8 (by decide))
      | 3, _ => exact (flagsOf_at (C := cp10C) (j := 3) rfl L).trans (hall 9 (by decide))
      | n + 4, h => exact absurd h (by omega)) hG.1)
  clear hS fin
  intro ix oo ho L a w hfr hG hLi hdep hcl K hK
  have e2 : a.tmps[2]?.getD undef = .pointer (some ⟨pb, 0, none⟩) := by rw [← ev]; exact (hfr.same 2 (by decide)).trans in2
  clear in2
  match ix, ho with
  | 0, ho =>
    simp only [opsCp10, List.getElem?_toArray, List.getElem?_cons_zero, Option.some.injEq] at ho
    subst ho
    rw [if_pos (show Region.wanted _ _ = true from rfl)]
    have hSp := hG.1
    have hf1 : flagsOf cp10C L 1 = false := (flagsOf_at (C := cp10C) (j := 1) rfl L).trans (by
      cases hl : L 7 with
      | false => rfl
      | true => exact absurd (hcl 7 _ rfl (hl) ⟨0, .data⟩ (by simp [opsCp10]) rfl) (by rw [hLi]; decide))
    have hf2 : flagsOf cp10C L 2 = false := (flagsOf_at (C := cp10C) (j := 2) rfl L).trans (by
      cases hl : L 8 with
      | false => rfl
      | true => exact absurd (hcl 8 _ rfl (hl) ⟨0, .phase⟩ (by simp [opsCp10]) rfl) (by rw [hLi]; decide))
    have hf3 : flagsOf cp10C L 3 = false := (flagsOf_at (C := cp10C) (j := 3) rfl L).trans (by
      cases hl : L 9 with
      | false => rfl
      | true => exact absurd (hcl 9 _ rfl (hl) ⟨0, .phase⟩ (by simp [opsCp10]) rfl) (by rw [hLi]; decide))
    have hfin := hK (.agg #[.string key, .slice A n c, .bool g]) w (hG.quiet 0 0 41 _ rfl (by kernel_rfl) (by kernel_rfl))
    have HK := Lib.hid hfin
    generalize (resOf cp10C fun t => a.eval (.tmp t)) = R at *
    generalize flagsOf cp10C L = f at *
    obtain ⟨⟨q1, q2, q3⟩, _⟩ := hbox _ _ _ hSp
    clear hbox hr hc0 hs0 hv h8 h9
    clear hSp
    clear hG hcl hdep hfr hK hfin hLi 
    go_simp
    exact HK.out
  | 1, ho =>
    simp only [opsCp10, List.getElem?_toArray, List.getElem?_cons_succ, List.getElem?_cons_zero, Option.some.injEq] at ho
    subst ho
    rw [if_pos (show Region.wanted _ _ = true from rfl)]
    have hSp := hG.1
    have hf2 : flagsOf cp10C L 2 = false := (flagsOf_at (C := cp10C) (j := 2) rfl L).trans (by
      cases hl : L 8 with
      | false => rfl
      | true => exact absurd (hcl 8 _ rfl (hl) ⟨1, .data⟩ (by simp [opsCp10]) rfl) (by rw [hLi]; decide))
    have hf3 : flagsOf cp10C L 3 = false := (flagsOf_at (C := cp10C) (j := 3) rfl L).trans (by
      cases hl : L 9 with
      | false => rfl
      | true => exact absurd (hcl 9 _ rfl (hl) ⟨1, .phase⟩ (by simp [opsCp10]) rfl) (by rw [hLi]; decide))
    have r3 : a.tmps[3]?.getD undef = resOf cp10C (fun t => a.eval (.tmp t)) 2 := by rw [← ev]; exact (resOf_at (C := cp10C) (j := 2) rfl a).symm
    have hfin := hK (v2) w (hG.quiet 1 1 42 _ rfl (by kernel_rfl) (by kernel_rfl))
    have HK := Lib.hid hfin
    generalize (resOf cp10C fun t => a.eval (.tmp t)) = R at *
    generalize flagsOf cp10C L = f at *
    rw [(hv _ _ _ hSp).1 hf2] at r3
    clear hbox hr hc0 hs0 hv h8 h9
    clear hSp
    clear hG hcl hdep hfr hK hfin hLi 
    go_simp
    exact HK.out
  | 2, ho =>
    simp only [opsCp10, List.getElem?_toArray, List.getElem?_cons_succ, List.getElem?_cons_zero, Option.some.injEq] at ho
    subst ho
    rw [if_pos (show Region.wanted _ _ = true from rfl)]
    have hSp := hG.1
    have hf0 : flagsOf cp10C L 0 = false := (flagsOf_at (C := cp10C) (j := 0) rfl L).trans (by
      cases hl : L 5 with
      | false => rfl
      | true => exact absurd (hcl 3 _ rfl (hcl 5 _ rfl (hl) ⟨3, .chain⟩ (by simp [opsCp10]) rfl) ⟨2, .data⟩ (by simp [opsCp10]) rfl) (by rw [hLi]; decide))
    have hf1 : flagsOf cp10C L 1 = false := (flagsOf_at (C := cp10C) (j := 1) rfl L).trans (by
      cases hl : L 7 with
      | false => rfl
      | true => exact absurd (hcl 3 _ rfl (hcl 5 _ rfl (hcl 7 _ rfl (hl) ⟨5, .chain⟩ (by simp [opsCp10]) rfl) ⟨3, .chain⟩ (by simp [opsCp10]) rfl) ⟨2, .data⟩ (by simp [opsCp10]) rfl) (by rw [hLi]; decide))
    have hf2 : flagsOf cp10C L 2 = false := (flagsOf_at (C := cp10C) (j := 2) rfl L).trans (by
      cases hl : L 8 with
      | false => rfl
      | true => exact absurd (hcl 3 _ rfl (hcl 4 _ rfl (hcl 8 _ rfl (hl) ⟨4, .phase⟩ (by simp [opsCp10]) rfl) ⟨3, .guard⟩ (by simp [opsCp10]) rfl) ⟨2, .data⟩ (by simp [opsCp10]) rfl) (by rw [hLi]; decide))
    have hf3 : flagsOf cp10C L 3 = false := (flagsOf_at (C := cp10C) (j := 3) rfl L).trans (by
      cases hl : L 9 with
      | false => rfl
      | true => exact absurd (hcl 9 _ rfl (hl) ⟨2, .phase⟩ (by simp [opsCp10]) rfl) (by rw [hLi]; decide))
    have r4 : a.tmps[4]?.getD undef = resOf cp10C (fun t => a.eval (.tmp t)) 3 := by rw [← ev]; exact (resOf_at (C := cp10C) (j := 3) rfl a).symm
    have hfin := hK (.bool true) w (hG.quiet 2 2 43 _ rfl (by kernel_rfl) (by kernel_rfl))
    have HK := Lib.hid hfin
    generalize (resOf cp10C fun t => a.eval (.tmp t)) = R at *
    generalize flagsOf cp10C L = f at *
    rw [(hv _ _ _ hSp).2 hf3] at r4
    clear hbox hr hc0 hs0 hv h8 h9
    clear hSp
    clear hG hcl hdep hfr hK hfin hLi 
    go_simp
    exact HK.out
  | 3, ho =>
    simp only [opsCp10, List.getElem?_toArray, List.getElem?_cons_succ, List.getElem?_cons_zero, Option.some.injEq] at ho
    subst ho
    have x43 : a.tmps[43]?.getD undef = .bool true := by rw [← ev]; exact hG.val 2 2 43 _ rfl (hdep ⟨2, .data⟩ (by simp) rfl)
    rw [if_pos (show Region.wanted _ _ = true from rfl)]
    have hfin := hK (.bool true) w (hG.quiet 3 3 44 _ rfl (by kernel_rfl) (by kernel_rfl))
    have HK := Lib.hid hfin
    clear hG hcl hdep hfr hK hfin hLi 
    go_simp
    exact HK.out
  | 4, ho =>
    simp only [opsCp10, List.getElem?_toArray, List.getElem?_cons_succ, List.getElem?_cons_zero, Option.some.injEq] at ho
    subst ho
    have xg : a.tmps[44]?.getD undef = .bool true := by rw [← ev]; exact hG.val 3 3 44 _ rfl (hdep ⟨3, .guard⟩ (by simp) rfl)
    have hw := wanted_of (ops := opsCp10) (a := a) (o := { dst := some 45, op := Op.load 29 (Operand.tmp 2), type := 29, pos := "kv.go:188", after := #[{ on := 3, ground := Ground.guard }], guard := some (3, true) }) (g := 3) (s := 44) (b := true) (b' := true) rfl rfl xg
    replace hw := hw.trans (show (true == true) = true from rfl)
    rw [if_pos hw]
    clear hw xg
    have hSp := hG.1
    have hf0 : flagsOf cp10C L 0 = false := (flagsOf_at (C := cp10C) (j := 0) rfl L).trans (by
      cases hl : L 5 with
      | false => rfl
      | true => exact absurd (hcl 5 _ rfl (hl) ⟨4, .data⟩ (by simp [opsCp10]) rfl) (by rw [hLi]; decide))
    have hf1 : flagsOf cp10C L 1 = false := (flagsOf_at (C := cp10C) (j := 1) rfl L).trans (by
      cases hl : L 7 with
      | false => rfl
      | true => exact absurd (hcl 7 _ rfl (hl) ⟨4, .phase⟩ (by simp [opsCp10]) rfl) (by rw [hLi]; decide))
    have hf2 : flagsOf cp10C L 2 = false := (flagsOf_at (C := cp10C) (j := 2) rfl L).trans (by
      cases hl : L 8 with
      | false => rfl
      | true => exact absurd (hcl 8 _ rfl (hl) ⟨4, .phase⟩ (by simp [opsCp10]) rfl) (by rw [hLi]; decide))
    have hf3 : flagsOf cp10C L 3 = false := (flagsOf_at (C := cp10C) (j := 3) rfl L).trans (by
      cases hl : L 9 with
      | false => rfl
      | true => exact absurd (hcl 9 _ rfl (hl) ⟨4, .phase⟩ (by simp [opsCp10]) rfl) (by rw [hLi]; decide))
    have hfin := hK (.agg #[.string key, .slice A n c, .bool g]) w (hG.quiet 4 4 45 _ rfl (by kernel_rfl) (by kernel_rfl))
    have HK := Lib.hid hfin
    generalize (resOf cp10C fun t => a.eval (.tmp t)) = R at *
    generalize flagsOf cp10C L = f at *
    obtain ⟨⟨q1, q2, q3⟩, _⟩ := hbox _ _ _ hSp
    clear hbox hr hc0 hs0 hv h8 h9
    clear hSp
    clear hG hcl hdep hfr hK hfin hLi 
    go_simp
    exact HK.out
  | 5, ho =>
    simp only [opsCp10, List.getElem?_toArray, List.getElem?_cons_succ, List.getElem?_cons_zero, Option.some.injEq] at ho
    subst ho
    have x45 : a.tmps[45]?.getD undef = .agg #[.string key, .slice A n c, .bool g] := by rw [← ev]; exact hG.val 4 4 45 _ rfl (hdep ⟨4, .data⟩ (by simp) rfl)
    have xg : a.tmps[44]?.getD undef = .bool true := by rw [← ev]; exact hG.val 3 3 44 _ rfl (hdep ⟨3, .chain⟩ (by simp) rfl)
    have hw := wanted_of (ops := opsCp10) (a := a) (o := { dst := some 46, op := Op.call { callee := Callee.value (Operand.func 40), args := #[Operand.tmp 45], argTypes := #[29] }, type := 4, pos := "kv.go:188", after := #[{ on := 4, ground := Ground.data }, { on := 3, ground := Ground.chain }, { on := 3, ground := Ground.guard }], guard := some (3, true) }) (g := 3) (s := 44) (b := true) (b' := true) rfl rfl xg
    replace hw := hw.trans (show (true == true) = true from rfl)
    rw [if_pos hw]
    clear hw xg
    have hSj := hG.1
    have hf0 : flagsOf cp10C L 0 = false := (flagsOf_at (C := cp10C) (j := 0) rfl L).trans hLi
    have hf1 : flagsOf cp10C L 1 = false := (flagsOf_at (C := cp10C) (j := 1) rfl L).trans (by
      cases hl : L 7 with
      | false => rfl
      | true => exact absurd (hcl 7 _ rfl (hl) ⟨5, .chain⟩ (by simp [opsCp10]) rfl) (by rw [hLi]; decide))
    have hf2 : flagsOf cp10C L 2 = false := (flagsOf_at (C := cp10C) (j := 2) rfl L).trans (by
      cases hl : L 8 with
      | false => rfl
      | true => exact absurd (hcl 7 _ rfl (hcl 8 _ rfl (hl) ⟨7, .chain⟩ (by simp [opsCp10]) rfl) ⟨5, .chain⟩ (by simp [opsCp10]) rfl) (by rw [hLi]; decide))
    have hf3 : flagsOf cp10C L 3 = false := (flagsOf_at (C := cp10C) (j := 3) rfl L).trans (by
      cases hl : L 9 with
      | false => rfl
      | true => exact absurd (hcl 9 _ rfl (hl) ⟨5, .phase⟩ (by simp [opsCp10]) rfl) (by rw [hLi]; decide))
    have hfin := fun v w' hs => hK v w' (hG.call 0 (5, 46) rfl (by kernel_rfl) v w' hs)
    have HK := Lib.hid hfin
    generalize (resOf cp10C fun t => a.eval (.tmp t)) = R at *
    generalize flagsOf cp10C L = f at *
    clear hG hcl hdep hfr hK hfin hLi
    have hc := Lib.hid (hc0 _ _ _ hSj hf0)
    clear hSj hbox hr hc0 hs0 hv h8 h9
    go_simp
    go_at_call 40
    refine hc.out.mono ?_
    rintro e w' ⟨v, rfl, hs⟩
    exact HK.out v w' hs
  | 6, ho =>
    simp only [opsCp10, List.getElem?_toArray, List.getElem?_cons_succ, List.getElem?_cons_zero, Option.some.injEq] at ho
    subst ho
    have x44 : a.tmps[44]?.getD undef = .bool true := by rw [← ev]; exact hG.val 3 3 44 _ rfl (hdep ⟨3, .data⟩ (by simp) rfl)
    rw [if_pos (show Region.wanted _ _ = true from rfl)]
    have hSp := hG.1
    have hf0 : flagsOf cp10C L 0 = true := (flagsOf_at (C := cp10C) (j := 0) rfl L).trans (hdep ⟨5, .data⟩ (by simp) rfl)
    have hf3 : flagsOf cp10C L 3 = false := (flagsOf_at (C := cp10C) (j := 3) rfl L).trans (by
      cases hl : L 9 with
      | false => rfl
      | true => exact absurd (hcl 9 _ rfl (hl) ⟨6, .data⟩ (by simp [opsCp10]) rfl) (by rw [hLi]; decide))
    have r46 : a.tmps[46]?.getD undef = resOf cp10C (fun t => a.eval (.tmp t)) 0 := by rw [← ev]; exact (resOf_at (C := cp10C) (j := 0) rfl a).symm
    have hfin := hK (.bool okb) w (hG.quiet 5 6 47 _ rfl (by kernel_rfl) (by kernel_rfl))
    have HK := Lib.hid hfin
    generalize (resOf cp10C fun t => a.eval (.tmp t)) = R at *
    generalize flagsOf cp10C L = f at *
    rw [hr _ _ _ hSp hf0] at r46
    clear hbox hr hc0 hs0 hv h8 h9
    clear hSp
    clear hG hcl hdep hfr hK hfin hLi 
    go_simp
    exact HK.out
  | 7, ho =>
    simp only [opsCp10, List.getElem?_toArray, List.getElem?_cons_succ, List.getElem?_cons_zero, Option.some.injEq] at ho
    subst ho
    have x41 : a.tmps[41]?.getD undef = .agg #[.string key, .slice A n c, .bool g] := by rw [← ev]; exact hG.val 0 0 41 _ rfl (hdep ⟨0, .data⟩ (by simp) rfl)
    rw [if_pos (show Region.wanted _ _ = true from rfl)]
    have hSj := hG.1
    have hf0 : flagsOf cp10C L 0 = true := (flagsOf_at (C := cp10C) (j := 0) rfl L).trans (hdep ⟨5, .chain⟩ (by simp) rfl)
    have hf1 : flagsOf cp10C L 1 = false := (flagsOf_at (C := cp10C) (j := 1) rfl L).trans hLi
    have hf2 : flagsOf cp10C L 2 = false := (flagsOf_at (C := cp10C) (j := 2) rfl L).trans (by
      cases hl : L 8 with
      | false => rfl
      | true => exact absurd (hcl 8 _ rfl (hl) ⟨7, .chain⟩ (by simp [opsCp10]) rfl) (by rw [hLi]; decide))
    have hf3 : flagsOf cp10C L 3 = false := (flagsOf_at (C := cp10C) (j := 3) rfl L).trans (by
      cases hl : L 9 with
      | false => rfl
      | true => exact absurd (hcl 9 _ rfl (hl) ⟨7, .phase⟩ (by simp [opsCp10]) rfl) (by rw [hLi]; decide))
    have hfin := fun w' hs => hK undef w' (hG.store 1 (7, 1000007) rfl (by kernel_rfl) undef w' hs)
    have HK := Lib.hid hfin
    generalize (resOf cp10C fun t => a.eval (.tmp t)) = R at *
    generalize flagsOf cp10C L = f at *
    clear hG hcl hdep hfr hK hfin hLi
    obtain ⟨⟨q1, q2, q3⟩, q4, q5, q6⟩ := hbox _ _ _ hSj
    have hs := hs0 _ _ _ hSj hf1
    have hk := HK.out _ hs
    have HK2 := Lib.hid hk
    clear hs hk HK hSj hbox hr hc0 hs0 hv h8 h9
    go_simp
    exact HK2.out
  | 8, ho =>
    simp only [opsCp10, List.getElem?_toArray, List.getElem?_cons_succ, List.getElem?_cons_zero, Option.some.injEq] at ho
    subst ho
    have x42 : a.tmps[42]?.getD undef = v2 := by rw [← ev]; exact hG.val 1 1 42 _ rfl (hdep ⟨1, .data⟩ (by simp) rfl)
    rw [if_pos (show Region.wanted _ _ = true from rfl)]
    have hSj := hG.1
    have hf0 : flagsOf cp10C L 0 = true := (flagsOf_at (C := cp10C) (j := 0) rfl L).trans (hcl 7 _ rfl (hdep ⟨7, .chain⟩ (by simp) rfl) ⟨5, .chain⟩ (by simp [opsCp10]) rfl)
    have hf1 : flagsOf cp10C L 1 = true := (flagsOf_at (C := cp10C) (j := 1) rfl L).trans (hdep ⟨7, .chain⟩ (by simp) rfl)
    have hf2 : flagsOf cp10C L 2 = false := (flagsOf_at (C := cp10C) (j := 2) rfl L).trans hLi
    have hf3 : flagsOf cp10C L 3 = false := (flagsOf_at (C := cp10C) (j := 3) rfl L).trans (by
      cases hl : L 9 with
      | false => rfl
      | true => exact absurd (hcl 9 _ rfl (hl) ⟨8, .chain⟩ (by simp [opsCp10]) rfl) (by rw [hLi]; decide))
    have hfin := fun v w' hs => hK v w' (hG.call 2 (8, 3) rfl (by kernel_rfl) v w' hs)
    have HK := Lib.hid hfin
    generalize (resOf cp10C fun t => a.eval (.tmp t)) = R at *
    generalize flagsOf cp10C L = f at *
    clear hG hcl hdep hfr hK hfin hLi
    have hs := h8 _ _ _ hSj hf2
    have hk := HK.out _ _ hs
    have HK2 := Lib.hid hk
    clear hs hk HK hSj hbox hr hc0 hs0 hv h8 h9
    go_simp
    exact HK2.out
  | 9, ho =>
    simp only [opsCp10, List.getElem?_toArray, List.getElem?_cons_succ, List.getElem?_cons_zero, Option.some.injEq] at ho
    subst ho
    have x47 : a.tmps[47]?.getD undef = .bool okb := by rw [← ev]; exact hG.val 5 6 47 _ rfl (hdep ⟨6, .data⟩ (by simp) rfl)
    rw [if_pos (show Region.wanted _ _ = true from rfl)]
    have hSj := hG.1
    have hf0 : flagsOf cp10C L 0 = true := (flagsOf_at (C := cp10C) (j := 0) rfl L).trans (hdep ⟨5, .phase⟩ (by simp) rfl)
    have hf1 : flagsOf cp10C L 1 = true := (flagsOf_at (C := cp10C) (j := 1) rfl L).trans (hdep ⟨7, .phase⟩ (by simp) rfl)
    have hf2 : flagsOf cp10C L 2 = true := (flagsOf_at (C := cp10C) (j := 2) rfl L).trans (hdep ⟨8, .chain⟩ (by simp) rfl)
    have hf3 : flagsOf cp10C L 3 = false := (flagsOf_at (C := cp10C) (j := 3) rfl L).trans hLi
    have hfin := fun v w' hs => hK v w' (hG.call 3 (9, 4) rfl (by kernel_rfl) v w' hs)
    have HK := Lib.hid hfin
    generalize (resOf cp10C fun t => a.eval (.tmp t)) = R at *
    generalize flagsOf cp10C L = f at *
    clear hG hcl hdep hfr hK hfin hLi
    have hs := h9 _ _ _ hSj hf3
    have hk := HK.out _ _ hs
    have HK2 := Lib.hid hk
    clear hs hk HK hSj hbox hr hc0 hs0 hv h8 h9
    go_simp
    exact HK2.out
  | n + 10, ho => exact absurd (Array.getElem?_eq_some_iff.1 ho).1 (by show ¬ n + 10 < 10; omega)
end Go.Proofs.Ytgpkdnnlgafenaa

namespace Go.Proofs.Ytgpkdnnlgafenaa
open Go.RowKit
set_option linter.unusedVariables false
set_option linter.unusedSimpArgs false

def opsCf10 : Array Oper := #[
  { dst := some 41, op := Op.load 29 (Operand.tmp 2), type := 29, pos := "kv.go:188", after := #[], guard := none },
  { dst := some 42, op := Op.move (Operand.tmp 3), type := 27, pos := "kv.go:188", after := #[{ on := 7, ground := Ground.gcOnly Departure.lateStores }], guard := none },
  { dst := some 43, op := Op.move (Operand.tmp 4), type := 4, pos := "kv.go:188", after := #[], guard := none },
  { dst := some 44, op := Op.move (Operand.tmp 43), type := 4, pos := "kv.go:188", after := #[{ on := 2, ground := Ground.data }], guard := none },
  { dst := some 45, op := Op.load 29 (Operand.tmp 2), type := 29, pos := "kv.go:188", after := #[{ on := 3, ground := Ground.guard }], guard := some (3, true) },
  { dst := some 46, op := Op.call { callee := Callee.value (Operand.func 40), args := #[Operand.tmp 45], argTypes := #[29] }, type := 4, pos := "kv.go:188", after := #[{ on := 4, ground := Ground.data }, { on := 3, ground := Ground.chain }, { on := 3, ground := Ground.guard }], guard := some (3, true) },
  { dst := some 47, op := Op.pick (Operand.tmp 44) (Operand.tmp 46) (Operand.const (Value.bool false)), type := 4, pos := "kv.go:188", after := #[{ on := 3, ground := Ground.data }, { on := 5, ground := Ground.data }, { on := 8, ground := Ground.gcOnly Departure.lateStores }], guard := none },
  { dst := none, op := Op.store 29 (Operand.tmp 2) (Operand.tmp 41), type := 0, pos := "kv.go:188", after := #[{ on := 0, ground := Ground.data }, { on := 5, ground := Ground.chain }, { on := 0, ground := Ground.phase }, { on := 1, ground := Ground.textOnly Departure.lateStores }, { on := 2, ground := Ground.textOnly Departure.lateStores }, { on := 3, ground := Ground.textOnly Departure.lateStores }, { on := 4, ground := Ground.phase }, { on := 5, ground := Ground.textOnly Departure.lateStoresUnsure }, { on := 6, ground := Ground.textOnly Departure.lateStores }], guard := none },
  { dst := some 3, op := Op.assign (Operand.tmp 42), type := 27, pos := "kv.go:188", after := #[{ on := 1, ground := Ground.data }, { on := 7, ground := Ground.chain }, { on := 0, ground := Ground.phase }, { on := 1, ground := Ground.phase }, { on := 2, ground := Ground.textOnly Departure.lateStores }, { on := 3, ground := Ground.textOnly Departure.lateStores }, { on := 4, ground := Ground.phase }, { on := 5, ground := Ground.textOnly Departure.lateStoresUnsure }, { on := 6, ground := Ground.textOnly Departure.lateStores }, { on := 7, ground := Ground.phase }], guard := none },
  { dst := some 4, op := Op.assign (Operand.tmp 47), type := 4, pos := "kv.go:188", after := #[{ on := 6, ground := Ground.data }, { on := 8, ground := Ground.chain }, { on := 0, ground := Ground.phase }, { on := 1, ground := Ground.phase }, { on := 2, ground := Ground.phase }, { on := 3, ground := Ground.phase }, { on := 4, ground := Ground.phase }, { on := 5, ground := Ground.phase }, { on := 6, ground := Ground.phase }, { on := 7, ground := Ground.phase }, { on := 8, ground := Ground.phase }], guard := none }]

def cf10Vals (pb n c : Nat) (A : Option Addr) (key : ByteArray) (g : Bool) (v2 : Value) : List (Nat × Nat × Value) := [(0, 41, .agg #[.string key, .slice A n c, .bool g]), (1, 42, v2), (2, 43, .bool false), (3, 44, .bool false), (4, 45, undef), (5, 46, undef), (6, 47, .bool false)]
def cf10C : List (Nat × Nat) := [(7, 1000007), (8, 3), (9, 4)]

set_option maxHeartbeats 4000000 in
set_option maxRecDepth 100000 in
theorem cf10 {Q : Exit → Act → World → Prop} {a0 : Act} {wp : World} (pb n c : Nat) (A : Option Addr) (key : ByteArray) (g : Bool) (v2 : Value) (S : (Nat → Bool) → (Nat → Value) → World → Prop)
    (hsz : 47 < a0.tmps.size) (in2 : a0.eval (.tmp 2) = .pointer (some ⟨pb, 0, none⟩))
    (hbox : ∀ f R w, S f R w → (w.cell? ⟨pb, 0, none⟩ = some (.string key) ∧ w.cell? ⟨pb, 1, none⟩ = some (.slice A n c) ∧ w.cell? ⟨pb, 2, none⟩ = some (.bool g)) ∧ (w.frozen? ⟨pb, 0, none⟩ = false ∧ w.frozen? ⟨pb, 1, none⟩ = false ∧ w.frozen? ⟨pb, 2, none⟩ = false))
    (hs0 : ∀ f R w, S f R w → f 0 = false → S (setF f 0) R (((w.setCell ⟨pb, 0, none⟩ (.string key)).setCell ⟨pb, 1, none⟩ (.slice A n c)).setCell ⟨pb, 2, none⟩ (.bool g)))
    (hv : ∀ f R w, S f R w → (f 1 = false → R 1 = v2) ∧ (f 2 = false → R 2 = .bool false))
    (h8 : ∀ f R w, S f R w → f 1 = false → S (setF f 1) (setR R 1 v2) w) (h9 : ∀ f R w, S f R w → f 2 = false → S (setF f 2) (setR R 2 (.bool false)) w)
    (hS : S (fun _ => false) (resOf cf10C fun t => a0.eval (.tmp t)) wp.drew)
    (fin : ∀ a w f, Fr [41, 42, 43, 44, 45, 46, 47, 3, 4] a0 a → (∀ j, j < 3 → f j = true) → S f (resOf cf10C fun t => a.eval (.tmp t)) w → Q .normal a w) :
    (Code.region 10 opsCf10 true).wp Try.prog Q a0 wp := by
  refine region_inv (by kernel_rfl) [41, 42, 43, 44, 45, 46, 47, 3, 4] (by kernel_rfl) (by kernel_rfl) (fun t ht => by simp at ht; omega) (GF (cf10Vals pb n c A key g v2) cf10C S) (.start hS) ?_
    (fun L a w hf hall hG => fin a w (flagsOf cf10C L) hf  (fun j hj => by
      match j, hj with
      | 0, _ => exact (flagsOf_at (C := cf10C) (j := 0) rfl L).trans (hall 7 (by decide))
      | 1, _ => exact (flagsOf_at (C := cf10C) (j := 1) rfl L).trans (hall 8 (by decide))
      | 2, _ => exact (flagsOf_at (C := cf10C) (j := 2) rfl L).trans (hall 9 (by decide))
      | n + 3, h => exact absurd h (by omega)) hG.1)
  clear hS fin
  intro ix oo ho L a w hfr hG hLi hdep hcl K hK
  have e2 : a.tmps[2]?.getD undef = .pointer (some ⟨pb, 0, none⟩) := by rw [← ev]; exact (hfr.same 2 (by decide)).trans in2
  clear in2
  match ix, ho with
  | 0, ho =>
    simp only [opsCf10, List.getElem?_toArray, List.getElem?_cons_zero, Option.some.injEq] at ho
    subst ho
    rw [if_pos (show Region.wanted _ _ = true from rfl)]
    have hSp := hG.1
    have hf0 : flagsOf cf10C L 0 = false := (flagsOf_at (C := cf10C) (j := 0) rfl L).trans (by
      cases hl : L 7 with
      | false => rfl
      | true => exact absurd (hcl 7 _ rfl (hl) ⟨0, .data⟩ (by simp [opsCf10]) rfl) (by rw [hLi]; decide))
    have hf1 : flagsOf cf10C L 1 = false := (flagsOf_at (C := cf10C) (j := 1) rfl L).trans (by
      cases hl : L 8 with
      | false => rfl
      | true => exact absurd (hcl 8 _ rfl (hl) ⟨0, .phase⟩ (by simp [opsCf10]) rfl) (by rw [hLi]; decide))
    have hf2 : flagsOf cf10C L 2 = false := (flagsOf_at (C := cf10C) (j := 2) rfl L).trans (by
      cases hl : L 9 with
      | false => rfl
      | true => exact absurd (hcl 9 _ rfl (hl) ⟨0, .phase⟩ (by simp [opsCf10]) rfl) (by rw [hLi]; decide))
    have hfin := hK (.agg #[.string key, .slice A n c, .bool g]) w (hG.quiet 0 0 41 _ rfl (by kernel_rfl) (by kernel_rfl))
    have HK := Lib.hid hfin
    generalize (resOf cf10C fun t => a.eval (.tmp t)) = R at *
    generalize flagsOf cf10C L = f at *
    obtain ⟨⟨q1, q2, q3⟩, _⟩ := hbox _ _ _ hSp
    clear hbox hs0 hv h8 h9
    clear hSp
    clear hG hcl hdep hfr hK hfin hLi 
    go_simp
    exact HK.out
  | 1, ho =>
    simp only [opsCf10, List.getElem?_toArray, List.getElem?_cons_succ, List.getElem?_cons_zero, Option.some.injEq] at ho
    subst ho
    rw [if_pos (show Region.wanted _ _ = true from rfl)]
    have hSp := hG.1
    have hf1 : flagsOf cf10C L 1 = false := (flagsOf_at (C := cf10C) (j := 1) rfl L).trans (by
      cases hl : L 8 with
      | false => rfl
      | true => exact absurd (hcl 8 _ rfl (hl) ⟨1, .data⟩ (by simp [opsCf10]) rfl) (by rw [hLi]; decide))
    have hf2 : flagsOf cf10C L 2 = false := (flagsOf_at (C := cf10C) (j := 2) rfl L).trans (by
      cases hl : L 9 with
      | false => rfl
      | true => exact absurd (hcl 9 _ rfl (hl) ⟨1, .phase⟩ (by simp [opsCf10]) rfl) (by rw [hLi]; decide))
    have r3 : a.tmps[3]?.getD undef = resOf cf10C (fun t => a.eval (.tmp t)) 1 := by rw [← ev]; exact (resOf_at (C := cf10C) (j := 1) rfl a).symm
    have hfin := hK (v2) w (hG.quiet 1 1 42 _ rfl (by kernel_rfl) (by kernel_rfl))
    have HK := Lib.hid hfin
    generalize (resOf cf10C fun t => a.eval (.tmp t)) = R at *
    generalize flagsOf cf10C L = f at *
    rw [(hv _ _ _ hSp).1 hf1] at r3
    clear hbox hs0 hv h8 h9
    clear hSp
    clear hG hcl hdep hfr hK hfin hLi 
    go_simp
    exact HK.out
  | 2, ho =>
    simp only [opsCf10, List.getElem?_toArray, List.getElem?_cons_succ, List.getElem?_cons_zero, Option.some.injEq] at ho
    subst ho
    rw [if_pos (show Region.wanted _ _ = true from rfl)]
    have hSp := hG.1
    have hf0 : flagsOf cf10C L 0 = false := (flagsOf_at (C := cf10C) (j := 0) rfl L).trans (by
      cases hl : L 7 with
      | false => rfl
      | true => exact absurd (hcl 3 _ rfl (hcl 5 _ rfl (hcl 7 _ rfl (hl) ⟨5, .chain⟩ (by simp [opsCf10]) rfl) ⟨3, .chain⟩ (by simp [opsCf10]) rfl) ⟨2, .data⟩ (by simp [opsCf10]) rfl) (by rw [hLi]; decide))
    have hf1 : flagsOf cf10C L 1 = false := (flagsOf_at (C := cf10C) (j := 1) rfl L).trans (by
      cases hl : L 8 with
      | false => rfl
      | true => exact absurd (hcl 3 _ rfl (hcl 4 _ rfl (hcl 8 _ rfl (hl) ⟨4, .phase⟩ (by simp [opsCf10]) rfl) ⟨3, .guard⟩ (by simp [opsCf10]) rfl) ⟨2, .data⟩ (by simp [opsCf10]) rfl) (by rw [hLi]; decide))
    have hf2 : flagsOf cf10C L 2 = false := (flagsOf_at (C := cf10C) (j := 2) rfl L).trans (by
      cases hl : L 9 with
      | false => rfl
      | true => exact absurd (hcl 9 _ rfl (hl) ⟨2, .phase⟩ (by simp [opsCf10]) rfl) (by rw [hLi]; decide))
    have r4 : a.tmps[4]?.getD undef = resOf cf10C (fun t => a.eval (.tmp t)) 2 := by rw [← ev]; exact (resOf_at (C := cf10C) (j := 2) rfl a).symm
    have hfin := hK (.bool false) w (hG.quiet 2 2 43 _ rfl (by kernel_rfl) (by kernel_rfl))
    have HK := Lib.hid hfin
    generalize (resOf cf10C fun t => a.eval (.tmp t)) = R at *
    generalize flagsOf cf10C L = f at *
    rw [(hv _ _ _ hSp).2 hf2] at r4
    clear hbox hs0 hv h8 h9
    clear hSp
    clear hG hcl hdep hfr hK hfin hLi 
    go_simp
    exact HK.out
  | 3, ho =>
    simp only [opsCf10, List.getElem?_toArray, List.getElem?_cons_succ, List.getElem?_cons_zero, Option.some.injEq] at ho
    subst ho
    have x43 : a.tmps[43]?.getD undef = .bool false := by rw [← ev]; exact hG.val 2 2 43 _ rfl (hdep ⟨2, .data⟩ (by simp) rfl)
    rw [if_pos (show Region.wanted _ _ = true from rfl)]
    have hfin := hK (.bool false) w (hG.quiet 3 3 44 _ rfl (by kernel_rfl) (by kernel_rfl))
    have HK := Lib.hid hfin
    clear hG hcl hdep hfr hK hfin hLi 
    go_simp
    exact HK.out
  | 4, ho =>
    simp only [opsCf10, List.getElem?_toArray, List.getElem?_cons_succ, List.getElem?_cons_zero, Option.some.injEq] at ho
    subst ho
    have xg : a.tmps[44]?.getD undef = .bool false := by rw [← ev]; exact hG.val 3 3 44 _ rfl (hdep ⟨3, .guard⟩ (by simp) rfl)
    have hw := wanted_of (ops := opsCf10) (a := a) (o := { dst := some 45, op := Op.load 29 (Operand.tmp 2), type := 29, pos := "kv.go:188", after := #[{ on := 3, ground := Ground.guard }], guard := some (3, true) }) (g := 3) (s := 44) (b := true) (b' := false) rfl rfl xg
    rw [if_neg (fun h => by rw [hw] at h; exact absurd h (by decide))]
    clear hw xg
    have hfin := hK (undef) w (hG.quiet 4 4 45 _ rfl (by kernel_rfl) (by kernel_rfl))
    have HK := Lib.hid hfin
    clear hG hcl hdep hfr hK hfin hLi 
    exact HK.out
  | 5, ho =>
    simp only [opsCf10, List.getElem?_toArray, List.getElem?_cons_succ, List.getElem?_cons_zero, Option.some.injEq] at ho
    subst ho
    have x45 : a.tmps[45]?.getD undef = undef := by rw [← ev]; exact hG.val 4 4 45 _ rfl (hdep ⟨4, .data⟩ (by simp) rfl)
    have xg : a.tmps[44]?.getD undef = .bool false := by rw [← ev]; exact hG.val 3 3 44 _ rfl (hdep ⟨3, .chain⟩ (by simp) rfl)
    have hw := wanted_of (ops := opsCf10) (a := a) (o := { dst := some 46, op := Op.call { callee := Callee.value (Operand.func 40), args := #[Operand.tmp 45], argTypes := #[29] }, type := 4, pos := "kv.go:188", after := #[{ on := 4, ground := Ground.data }, { on := 3, ground := Ground.chain }, { on := 3, ground := Ground.guard }], guard := some (3, true) }) (g := 3) (s := 44) (b := true) (b' := false) rfl rfl xg
    rw [if_neg (fun h => by rw [hw] at h; exact absurd h (by decide))]
    clear hw xg
    have hfin := hK (undef) w (hG.quiet 5 5 46 _ rfl (by kernel_rfl) (by kernel_rfl))
    have HK := Lib.hid hfin
    clear hG hcl hdep hfr hK hfin hLi 
    exact HK.out
  | 6, ho =>
    simp only [opsCf10, List.getElem?_toArray, List.getElem?_cons_succ, List.getElem?_cons_zero, Option.some.injEq] at ho
    subst ho
    have x44 : a.tmps[44]?.getD undef = .bool false := by rw [← ev]; exact hG.val 3 3 44 _ rfl (hdep ⟨3, .data⟩ (by simp) rfl)
    have x46 : a.tmps[46]?.getD undef = undef := by rw [← ev]; exact hG.val 5 5 46 _ rfl (hdep ⟨5, .data⟩ (by simp) rfl)
    rw [if_pos (show Region.wanted _ _ = true from rfl)]
    have hfin := hK (.bool false) w (hG.quiet 6 6 47 _ rfl (by kernel_rfl) (by kernel_rfl))
    have HK := Lib.hid hfin
    clear hG hcl hdep hfr hK hfin hLi 
    go_simp
    exact HK.out
  | 7, ho =>
    simp only [opsCf10, List.getElem?_toArray, List.getElem?_cons_succ, List.getElem?_cons_zero, Option.some.injEq] at ho
    subst ho
    have x41 : a.tmps[41]?.getD undef = .agg #[.string key, .slice A n c, .bool g] := by rw [← ev]; exact hG.val 0 0 41 _ rfl (hdep ⟨0, .data⟩ (by simp) rfl)
    rw [if_pos (show Region.wanted _ _ = true from rfl)]
    have hSj := hG.1
    have hf0 : flagsOf cf10C L 0 = false := (flagsOf_at (C := cf10C) (j := 0) rfl L).trans hLi
    have hf1 : flagsOf cf10C L 1 = false := (flagsOf_at (C := cf10C) (j := 1) rfl L).trans (by
      cases hl : L 8 with
      | false => rfl
      | true => exact absurd (hcl 8 _ rfl (hl) ⟨7, .chain⟩ (by simp [opsCf10]) rfl) (by rw [hLi]; decide))
    have hf2 : flagsOf cf10C L 2 = false := (flagsOf_at (C := cf10C) (j := 2) rfl L).trans (by
      cases hl : L 9 with
      | false => rfl
      | true => exact absurd (hcl 9 _ rfl (hl) ⟨7, .phase⟩ (by simp [opsCf10]) rfl) (by rw [hLi]; decide))
    have hfin := fun w' hs => hK undef w' (hG.store 0 (7, 1000007) rfl (by kernel_rfl) undef w' hs)
    have HK := Lib.hid hfin
    generalize (resOf cf10C fun t => a.eval (.tmp t)) = R at *
    generalize flagsOf cf10C L = f at *
    clear hG hcl hdep hfr hK hfin hLi
    obtain ⟨⟨q1, q2, q3⟩, q4, q5, q6⟩ := hbox _ _ _ hSj
    have hs := hs0 _ _ _ hSj hf0
    have hk := HK.out _ hs
    have HK2 := Lib.hid hk
    clear hs hk HK hSj hbox hs0 hv h8 h9
    go_simp
    exact HK2.out
  | 8, ho =>
    simp only [opsCf10, List.getElem?_toArray, List.getElem?_cons_succ, List.getElem?_cons_zero, Option.some.injEq] at ho
    subst ho
    have x42 : a.tmps[42]?.getD undef = v2 := by rw [← ev]; exact hG.val 1 1 42 _ rfl (hdep ⟨1, .data⟩ (by simp) rfl)
    rw [if_pos (show Region.wanted _ _ = true from rfl)]
    have hSj := hG.1
    have hf0 : flagsOf cf10C L 0 = true := (flagsOf_at (C := cf10C) (j := 0) rfl L).trans (hdep ⟨7, .chain⟩ (by simp) rfl)
    have hf1 : flagsOf cf10C L 1 = false := (flagsOf_at (C := cf10C) (j := 1) rfl L).trans hLi
    have hf2 : flagsOf cf10C L 2 = false := (flagsOf_at (C := cf10C) (j := 2) rfl L).trans (by
      cases hl : L 9 with
      | false => rfl
      | true => exact absurd (hcl 9 _ rfl (hl) ⟨8, .chain⟩ (by simp [opsCf10]) rfl) (by rw [hLi]; decide))
    have hfin := fun v w' hs => hK v w' (hG.call 1 (8, 3) rfl (by kernel_rfl) v w' hs)
    have HK := Lib.hid hfin
    generalize (resOf cf10C fun t => a.eval (.tmp t)) = R at *
    generalize flagsOf cf10C L = f at *
    clear hG hcl hdep hfr hK hfin hLi
    have hs := h8 _ _ _ hSj hf1
    have hk := HK.out _ _ hs
    have HK2 := Lib.hid hk
    clear hs hk HK hSj hbox hs0 hv h8 h9
    go_simp
    exact HK2.out
  | 9, ho =>
    simp only [opsCf10, List.getElem?_toArray, List.getElem?_cons_succ, List.getElem?_cons_zero, Option.some.injEq] at ho
    subst ho
    have x47 : a.tmps[47]?.getD undef = .bool false := by rw [← ev]; exact hG.val 6 6 47 _ rfl (hdep ⟨6, .data⟩ (by simp) rfl)
    rw [if_pos (show Region.wanted _ _ = true from rfl)]
    have hSj := hG.1
    have hf0 : flagsOf cf10C L 0 = true := (flagsOf_at (C := cf10C) (j := 0) rfl L).trans (hdep ⟨7, .phase⟩ (by simp) rfl)
    have hf1 : flagsOf cf10C L 1 = true := (flagsOf_at (C := cf10C) (j := 1) rfl L).trans (hdep ⟨8, .chain⟩ (by simp) rfl)
    have hf2 : flagsOf cf10C L 2 = false := (flagsOf_at (C := cf10C) (j := 2) rfl L).trans hLi
    have hfin := fun v w' hs => hK v w' (hG.call 2 (9, 4) rfl (by kernel_rfl) v w' hs)
    have HK := Lib.hid hfin
    generalize (resOf cf10C fun t => a.eval (.tmp t)) = R at *
    generalize flagsOf cf10C L = f at *
    clear hG hcl hdep hfr hK hfin hLi
    have hs := h9 _ _ _ hSj hf2
    have hk := HK.out _ _ hs
    have HK2 := Lib.hid hk
    clear hs hk HK hSj hbox hs0 hv h8 h9
    go_simp
    exact HK2.out
  | n + 10, ho => exact absurd (Array.getElem?_eq_some_iff.1 ho).1 (by show ¬ n + 10 < 10; omega)
end Go.Proofs.Ytgpkdnnlgafenaa

namespace Go.Proofs.Ytgpkdnnlgafenaa
open Go.RowKit Kv
set_option linter.unusedVariables false

theorem cutK_eq (c : UInt8) (t : List UInt8) : cutK c t = (cutC t 2).bind fun y => if c = 0 then some (⟨⟨y.1.toArray⟩, [], true⟩, y.2) else (cutC y.2 4).map fun z => (⟨⟨y.1.toArray⟩, z.1, false⟩, z.2) := by
  by_cases h1 : t.length < 2
  · simp only [cutK, cutC, if_pos h1, Option.bind_none]
  · by_cases h2 : (t.drop 2).length < Rc.num (t.take 2)
    · simp only [cutK, cutC, if_neg h1, if_pos h2, Option.bind_none]
    · have e : cutC t 2 = some ((t.drop 2).take (Rc.num (t.take 2)), (t.drop 2).drop (Rc.num (t.take 2))) := by unfold cutC; rw [if_neg h1, if_neg h2]
      rw [e]
      simp only [Option.bind_some]
      unfold cutK
      rw [if_neg h1, if_neg h2]
      by_cases hc : c = 0
      · rw [if_pos hc, if_pos hc]
      · rw [if_neg hc, if_neg hc]
        generalize (t.drop 2).drop (Rc.num (t.take 2)) = r
        generalize (t.drop 2).take (Rc.num (t.take 2)) = k
        unfold cutV cutC
        by_cases h3 : r.length < 4
        · rw [if_pos h3, if_pos h3]; rfl
        · rw [if_neg h3, if_neg h3]
          by_cases h4 : (r.drop 4).length < Rc.num (r.take 4)
          · rw [if_pos h4, if_pos h4]; rfl
          · rw [if_neg h4, if_neg h4]; rfl
/-- What cutPut answers. -/
def PutEnd (l : List UInt8) (B : Nat) (w : World) (e : Ending) (w' : World) : Prop :=
  ∃ k A n c g v2 ok, e = .returned (.tuple #[.agg #[.string k, .slice A n c, .bool g], v2, .bool ok]) ∧ Below w.heap.size w w' ∧
    (match cutP l with | none => ok = false | some (x, r) => ok = true ∧ x.k = k ∧ x.g = g ∧ n = x.v.length ∧ n ≤ c ∧ c ≤ maxLen ∧ Sees w B A x.v ∧ Rd w B v2 r)
theorem PutEnd.no {l : List UInt8} {B : Nat} {w w' : World} (h : cutP l = none) (k : ByteArray) (A : Option Addr) (n c : Nat) (g : Bool) (v2 : Value) (hb : Below w.heap.size w w') : PutEnd l B w (.returned (.tuple #[.agg #[.string k, .slice A n c, .bool g], v2, .bool false])) w' :=
  ⟨k, A, n, c, g, v2, false, rfl, hb, by rw [h]⟩
theorem PutEnd.of {l : List UInt8} {B : Nat} {w w' : World} {x : Pt} {r : List UInt8} (h : cut l = some (x, r)) (A : Option Addr) (c : Nat) (v2 : Value) (hc : x.v.length ≤ c) (hm : c ≤ maxLen) (hs : Sees w B A x.v) (hr : Rd w B v2 r) (hb : Below w.heap.size w w') : PutEnd l B w (.returned (.tuple #[.agg #[.string x.k, .slice A x.v.length c, .bool x.g], v2, .bool (ok1 x)])) w' := by
  refine ⟨x.k, A, _, c, x.g, v2, ok1 x, rfl, hb, ?_⟩
  unfold cutP
  rw [h]
  cases ho : ok1 x with
  | false => simp [ho]
  | true => simp [ho]; exact ⟨hc, hm, hs, hr⟩
/-- The result's box. -/
def PBox (w : World) (b : Nat) (k : ByteArray) (A : Option Addr) (n c : Nat) (g : Bool) : Prop := w.heap[b]? = some (.cells #[.string k, .slice A n c, .bool g] 29 (0, 0))
theorem PBox.cells {w : World} {b : Nat} {k : ByteArray} {A : Option Addr} {n c : Nat} {g : Bool} (h : PBox w b k A n c g) : (w.cell? ⟨b, 0, none⟩ = some (.string k) ∧ w.cell? ⟨b, 1, none⟩ = some (.slice A n c) ∧ w.cell? ⟨b, 2, none⟩ = some (.bool g)) ∧ (w.frozen? ⟨b, 0, none⟩ = false ∧ w.frozen? ⟨b, 1, none⟩ = false ∧ w.frozen? ⟨b, 2, none⟩ = false) := by
  unfold PBox at h
  refine ⟨⟨?_, ?_, ?_⟩, ?_, ?_, ?_⟩ <;> simp [World.cell?, World.frozen?, h]
theorem PBox.set {w : World} {b : Nat} {k k' : ByteArray} {A A' : Option Addr} {n c n' c' : Nat} {g g' : Bool} (h : PBox w b k A n c g) : PBox (((w.setCell ⟨b, 0, none⟩ (.string k')).setCell ⟨b, 1, none⟩ (.slice A' n' c')).setCell ⟨b, 2, none⟩ (.bool g')) b k' A' n' c' g' := by
  unfold PBox at h ⊢
  have h1 := setCell_heap h 0 (.string k')
  have h2 := setCell_heap h1 1 (.slice A' n' c')
  have h3 := setCell_heap h2 2 (.bool g')
  simpa using h3
theorem PBox.set1 {w : World} {b : Nat} {k : ByteArray} {A A' : Option Addr} {n c n' c' : Nat} {g : Bool} (h : PBox w b k A n c g) : PBox (w.setCell ⟨b, 1, none⟩ (.slice A' n' c')) b k A' n' c' g := by
  unfold PBox at h ⊢
  have h2 := setCell_heap h 1 (.slice A' n' c')
  simpa using h2
theorem PBox.below {w w' : World} {b : Nat} {k : ByteArray} {A : Option Addr} {n c : Nat} {g : Bool} (h : PBox w b k A n c g) (hb : Below w.heap.size w w') : PBox w' b k A n c g := by
  unfold PBox at h ⊢
  rw [hb.block b (Array.getElem?_eq_some_iff.1 h).1]; exact h
theorem set3_below {w w' : World} {N b : Nat} (h : Below N w w') (hb : N ≤ b) (x y z : Value) : Below N w (((w'.setCell ⟨b, 0, none⟩ x).setCell ⟨b, 1, none⟩ y).setCell ⟨b, 2, none⟩ z) := ((h.setCell hb _).setCell hb _).setCell hb _
theorem put_ret (w : World) (tmps : Array Value) (g : Nat) (hp : tmps.getD 2 undef = .pointer (some ⟨g, 0, none⟩)) (k : ByteArray) (A : Option Addr) (n c : Nat) (gg : Bool) (x y : Value) (hx : tmps.getD 3 undef = x) (hy : tmps.getD 4 undef = y) (hg : PBox w g k A n c gg) :
    (results Try.f32 tmps).run Try.prog w = .ok (.tuple #[.agg #[.string k, .slice A n c, .bool gg], x, y]) w :=
  ret_cell3 rfl tmps w g hp #[.string k, .slice A n c, .bool gg] _ hg _ Try.underlying29 rfl (by kernel_rfl) x y hx hy

/-- What the region at the end leaves. -/
structure CpS (N b : Nat) (k : ByteArray) (A : Option Addr) (n c : Nat) (g : Bool) (W : World) (w : World) : Prop where
  bel : Below N W w
  size : N ≤ w.heap.size
  box : PBox w b k A n c g
theorem CpS.store {N b : Nat} {k : ByteArray} {A : Option Addr} {n c : Nat} {g : Bool} {W w : World} (h : CpS N b k A n c g W w) (hb : N ≤ b) : CpS N b k A n c g W (((w.setCell ⟨b, 0, none⟩ (.string k)).setCell ⟨b, 1, none⟩ (.slice A n c)).setCell ⟨b, 2, none⟩ (.bool g)) :=
  ⟨set3_below h.bel hb _ _ _, Nat.le_trans h.size (by simp [World.setCell]), h.box.set⟩
theorem cp10_run {Q : Exit → Act → World → Prop} {a0 : Act} {W : World} (N b n c : Nat) (A : Option Addr) (k : ByteArray) (g : Bool) (v2 : Value) (val : List UInt8) (hn : n = val.length) (hm : n ≤ maxLen) (hk : k.size ≤ maxLen) (hNb : N ≤ b) (hW : CpS N b k A n c g W W)
    (hsz : 47 < a0.tmps.size) (in2 : a0.eval (.tmp 2) = .pointer (some ⟨b, 0, none⟩)) (in3 : a0.eval (.tmp 3) = v2) (in4 : a0.eval (.tmp 4) = .bool true)
    (fin : ∀ a w, Fr [41, 42, 43, 44, 45, 46, 47, 3, 4] a0 a → a.eval (.tmp 3) = v2 → a.eval (.tmp 4) = .bool (ok1 ⟨k, val, g⟩) → CpS N b k A n c g W w → Q .normal a w) :
    (Code.region 10 opsCp10 true).wp Try.prog Q a0 W := by
  refine cp10 b n c A k g (ok1 ⟨k, val, g⟩) v2 (fun f R w => CpS N b k A n c g W w ∧ (f 0 = true → R 0 = .bool (ok1 ⟨k, val, g⟩)) ∧ R 2 = v2 ∧ (f 3 = false → R 3 = .bool true) ∧ (f 3 = true → R 3 = .bool (ok1 ⟨k, val, g⟩))) hsz in2 ?_ ?_ ?_ ?_ ?_ ?_ ?_ ?_ ?_
  · intro f R w hS; exact hS.1.box.cells
  · intro f R w hS; exact hS.2.1
  · intro f R w hS h0
    refine (allowed_any k A n c g val w hn hm hk _ rfl).mono ?_
    rintro e w' ⟨rfl, hb⟩
    exact ⟨_, rfl, ⟨hS.1.bel.trans (hb.mono hS.1.size), Nat.le_trans hS.1.size hb.size, hS.1.box.below hb⟩, fun _ => setR_self .., by rw [setR_ne _ _ (by decide)]; exact hS.2.2.1, fun h3 => by rw [setR_ne _ _ (by decide)]; rw [setF_ne _ (by decide)] at h3; exact hS.2.2.2.1 h3, fun h3 => by rw [setR_ne _ _ (by decide)]; rw [setF_ne _ (by decide)] at h3; exact hS.2.2.2.2 h3⟩
  · intro f R w hS h1
    exact ⟨hS.1.store hNb, fun h0 => by rw [setF_ne _ (by decide)] at h0; exact hS.2.1 h0, hS.2.2.1, fun h3 => by rw [setF_ne _ (by decide)] at h3; exact hS.2.2.2.1 h3, fun h3 => by rw [setF_ne _ (by decide)] at h3; exact hS.2.2.2.2 h3⟩
  · intro f R w hS; exact ⟨fun _ => hS.2.2.1, hS.2.2.2.1⟩
  · intro f R w hS h2
    exact ⟨hS.1, fun h0 => by rw [setF_ne _ (by decide)] at h0; rw [setR_ne _ _ (by decide)]; exact hS.2.1 h0, setR_self .., fun h3 => by rw [setF_ne _ (by decide)] at h3; rw [setR_ne _ _ (by decide)]; exact hS.2.2.2.1 h3, fun h3 => by rw [setF_ne _ (by decide)] at h3; rw [setR_ne _ _ (by decide)]; exact hS.2.2.2.2 h3⟩
  · intro f R w hS h3
    exact ⟨hS.1, fun h0 => by rw [setF_ne _ (by decide)] at h0; rw [setR_ne _ _ (by decide)]; exact hS.2.1 h0, by rw [setR_ne _ _ (by decide)]; exact hS.2.2.1, (fun h => by rw [setF_self] at h; cases h), fun _ => setR_self ..⟩
  · refine ⟨⟨hW.bel.drew, hW.size, hW.box⟩, (fun h => by cases h), (resOf_at (C := cp10C) (j := 2) rfl a0).trans in3, fun _ => (resOf_at (C := cp10C) (j := 3) rfl a0).trans in4, (fun h => by cases h)⟩
  · intro a w f hfr hall hS
    exact fin a w hfr ((resOf_at (C := cp10C) (j := 2) rfl a).symm.trans hS.2.2.1) ((resOf_at (C := cp10C) (j := 3) rfl a).symm.trans (hS.2.2.2.2 (hall 3 (by decide)))) hS.1
theorem cf10_run {Q : Exit → Act → World → Prop} {a0 : Act} {W : World} (N b n c : Nat) (A : Option Addr) (k : ByteArray) (g : Bool) (v2 : Value) (hNb : N ≤ b) (hW : CpS N b k A n c g W W)
    (hsz : 47 < a0.tmps.size) (in2 : a0.eval (.tmp 2) = .pointer (some ⟨b, 0, none⟩)) (in3 : a0.eval (.tmp 3) = v2) (in4 : a0.eval (.tmp 4) = .bool false)
    (fin : ∀ a w, Fr [41, 42, 43, 44, 45, 46, 47, 3, 4] a0 a → a.eval (.tmp 3) = v2 → a.eval (.tmp 4) = .bool false → CpS N b k A n c g W w → Q .normal a w) :
    (Code.region 10 opsCf10 true).wp Try.prog Q a0 W := by
  refine cf10 b n c A k g v2 (fun f R w => CpS N b k A n c g W w ∧ R 1 = v2 ∧ R 2 = .bool false) hsz in2 ?_ ?_ ?_ ?_ ?_ ?_ ?_
  · intro f R w hS; exact hS.1.box.cells
  · intro f R w hS h1
    exact ⟨hS.1.store hNb, hS.2⟩
  · intro f R w hS; exact ⟨fun _ => hS.2.1, fun _ => hS.2.2⟩
  · intro f R w hS h2
    exact ⟨hS.1, setR_self .., by rw [setR_ne _ _ (by decide)]; exact hS.2.2⟩
  · intro f R w hS h3
    exact ⟨hS.1, by rw [setR_ne _ _ (by decide)]; exact hS.2.1, setR_self ..⟩
  · exact ⟨⟨hW.bel.drew, hW.size, hW.box⟩, (resOf_at (C := cf10C) (j := 1) rfl a0).trans in3, (resOf_at (C := cf10C) (j := 2) rfl a0).trans in4⟩
  · intro a w f hfr hall hS
    exact fin a w hfr ((resOf_at (C := cf10C) (j := 1) rfl a).symm.trans hS.2.1) ((resOf_at (C := cf10C) (j := 2) rfl a).symm.trans hS.2.2) hS.1
def bstr (l : List UInt8) : ByteArray := ⟨l.toArray⟩

theorem Sees.back {w w' : World} {B N : Nat} {A : Option Addr} {l : List UInt8} (h : Sees w' B A l) (hb : Below N w w') (hB : B ≤ N) : Sees w B A l := fun hn => by
  obtain ⟨g, o, e, hg, hc⟩ := h hn
  exact ⟨g, o, e, hg, fun j hj => (hb.cell (p := ⟨g, o + j, none⟩) (by show g < N; omega)).symm.trans (hc j hj)⟩
/-- The box and what the first byte tells. -/
structure CpW (w w1 : World) (c0 : UInt8) (t : List UInt8) (g o n c : Nat) (B : Nat) : Prop where
  eq : w1 = w.alloc (.cells #[.string ⟨#[]⟩, .slice none 0 0, .bool false] 29)
  size : w1.heap.size = w.heap.size + 1
  bel : Below w.heap.size w w1
  box : PBox w1 w.heap.size ⟨#[]⟩ none 0 0 false
  head : w1.cell? ⟨g, o, none⟩ = some (.int .u8 (c0.toNat : Int))
  tail : ∃ A1, (∀ W, (Instr.slice 27 (.slice (some ⟨g, o, none⟩) n c) (some (.int .i64 1)) none none).run Try.prog W = .ok (.slice A1 t.length (c - 1)) W) ∧ Sees w1 B A1 t
  le : t.length ≤ c - 1
  max : c ≤ maxLen
theorem cpw_new (w : World) (B : Nat) (g o n c : Nat) (c0 : UInt8) (t : List UInt8) (hn : n = (c0 :: t).length) (hnc : n ≤ c) (hcm : c ≤ maxLen) (hs : Sees w B (some ⟨g, o, none⟩) (c0 :: t)) (hB : B ≤ w.heap.size) : ∃ w1, Hid (CpW w w1 c0 t g o n c B) := by
  subst hn
  refine ⟨w.alloc (.cells #[.string ⟨#[]⟩, .slice none 0 0, .bool false] 29), Lib.hid ?_⟩
  have hb : Below w.heap.size w (w.alloc (.cells #[.string ⟨#[]⟩, .slice none 0 0, .bool false] 29)) := (Below.refl _ _).alloc (Nat.le_refl _) _
  have hs1 := hs.below hb hB
  obtain ⟨A1, h1, h2⟩ := run_tail (P := Try.prog) Try.underlying27 (fun w => by exact Try.sizeOf5 w) hs1 (c0 :: t).length c 1 rfl (by simp) hnc
  obtain ⟨g', o', e, _, hc⟩ := hs1 (by simp)
  injection e with e; injection e with e1 e2 _; subst e1 e2
  simp only [List.length_cons] at hnc
  refine ⟨rfl, by simp, hb, heap_alloc_new w _, hc 0 (by simp), ⟨A1, ?_, h2⟩, by omega, hcm⟩
  intro W
  have := h1 W
  simpa using this

set_option maxHeartbeats 3200000 in
set_option maxRecDepth 100000 in
theorem cutPut_any (w : World) (B : Nat) (g o n c : Nat) (c0 : UInt8) (t : List UInt8) (hn : n = (c0 :: t).length) (hnc : n ≤ c) (hcm : c ≤ maxLen) (hs : Sees w B (some ⟨g, o, none⟩) (c0 :: t)) (hB : B ≤ w.heap.size) :
    Calls Try.prog 32 #[.slice (some ⟨g, o, none⟩) n c] w (PutEnd (c0 :: t) B w) := by
  obtain ⟨w1, HW⟩ := cpw_new w B g o n c c0 t hn hnc hcm hs hB
  have hnpos : 0 < n := by rw [hn]; simp
  have hnI : (0 : Int) < (n : Int) := by omega
  have HCUT : cut (c0 :: t) = if c0 = 0 ∨ c0 = 1 then cutK c0 t else none := rfl
  clear hs hn
  obtain ⟨y1, y2⟩ := HW.out.box.cells
  obtain ⟨y3, y4, y5⟩ := y1
  obtain ⟨z3, z4, z5⟩ := y2
  obtain ⟨A1, hsl, hse⟩ := HW.out.tail
  have hhead := HW.out.head
  have hcut := cutC_any w1 B A1 t.length (c - 1) 2 2 t rfl HW.out.le (by have := HW.out.max; omega) hse rfl (by omega)
  have HC := Lib.hid hcut
  clear hcut hse
  by_cases hk : c0 = 0 ∨ c0 = 1
  case neg =>
    have hno : cutP (c0 :: t) = none := by unfold cutP; rw [HCUT, if_neg hk]; rfl
    obtain ⟨z, Hz⟩ : ∃ z : Int, Hid (z = (c0.toNat : Int)) := ⟨_, Lib.hid rfl⟩
    rw [← Hz.out] at hhead
    have hz0 : z ≠ 0 := fun e => hk (.inl (by
      have := Hz.out
      have h : c0.toNat = 0 := by omega
      exact UInt8.toNat.inj h))
    have hz1 : z ≠ 1 := fun e => hk (.inr (by
      have := Hz.out
      have h : c0.toNat = 1 := by omega
      exact UInt8.toNat.inj h))
    have hz0b : (z != 0) = true := by simp [hz0]
    have hz1b : (z != 1) = true := by simp [hz1]
    have KEY := Lib.hid (PutEnd.no (B := B) hno ⟨#[]⟩ none 0 0 false (.slice none 0 0) HW.out.bel)
    have HBOX := Lib.hid HW.out.box
    rw [HW.out.eq] at hhead y3 y4 y5 z3 z4 z5 KEY HBOX
    clear HC hsl hno HCUT hk HW
    go_enter Try.func32, Try.ntmps32
    go_wp2
    refine bodyPost_ret (put_ret _ _ w.heap.size rfl _ _ _ _ _ _ _ rfl rfl HBOX.out) rfl ?_
    exact KEY.out
  have HCK : Hid (cut (c0 :: t) = cutK c0 t) := Lib.hid (by rw [HCUT, if_pos hk])
  clear HCUT
  obtain ⟨z, Hz⟩ : ∃ z : Int, Hid (z = (c0.toNat : Int)) := ⟨_, Lib.hid rfl⟩
  rw [← Hz.out] at hhead
  have hhead0 := hhead
  rw [HW.out.eq] at hhead0
  have hN1 : w.heap.size ≤ w1.heap.size := HW.out.bel.size
  cases hc2 : cutC t 2 with
  | none =>
    have hno : cutP (c0 :: t) = none := by unfold cutP; rw [HCK.out, cutK_eq, hc2]; rfl
    have fin : ∀ w2, Below w1.heap.size w1 w2 → (PBox w2 w.heap.size ⟨#[]⟩ none 0 0 false) ∧ ∃ w3, Hid (w3 = (((w2.setCell ⟨w.heap.size, 0, none⟩ (.string ⟨#[]⟩)).setCell ⟨w.heap.size, 1, none⟩ (.slice none 0 0)).setCell ⟨w.heap.size, 2, none⟩ (.bool false))) ∧ PBox w3 w.heap.size ⟨#[]⟩ none 0 0 false ∧ PutEnd (c0 :: t) B w (.returned (.tuple #[.agg #[.string ⟨#[]⟩, .slice none 0 0, .bool false], .slice none 0 0, .bool false])) w3 := fun w2 hb2 =>
      ⟨HW.out.box.below hb2, _, Lib.hid rfl, (HW.out.box.below hb2).set, PutEnd.no hno _ _ _ _ _ _ (set3_below (HW.out.bel.trans (hb2.mono hN1)) (Nat.le_refl _) _ _ _)⟩
    have FIN := Lib.hid fin
    clear hno fin hhead y3 y4 y5 z3 z4 z5
    have hz01 : z = 0 ∨ z = 1 := by rw [Hz.out]; rcases hk with rfl | rfl <;> first | exact .inl rfl | exact .inr rfl
    clear hk Hz
    rcases hz01 with rfl | rfl
    all_goals
      go_enter Try.func32, Try.ntmps32
      go_wp2_with fail
      rw [← HW.out.eq]
      refine HC.out.mono ?_
      rintro e w2 ⟨hm, hb2⟩
      rw [hc2] at hm
      simp only at hm
      subst hm
      obtain ⟨hbx, w3, Hw3, hb3, hp3⟩ := FIN.out w2 hb2
      obtain ⟨⟨q1, q2, q3⟩, q4, q5, q6⟩ := hbx.cells
      have HB3 := Lib.hid hb3
      have HP3 := Lib.hid hp3
      clear hb2 hbx hb3 hp3 FIN HC hsl hhead0
      go_wp2
      rw [← Hw3.out]
      refine bodyPost_ret (put_ret w3 _ w.heap.size rfl _ _ _ _ _ _ _ rfl rfl HB3.out) rfl ?_
      exact HP3.out
  | some y =>
    obtain ⟨key, r⟩ := y
    have hsplit : ∀ w2 e, CutEnd t 2 B w1 e w2 → ∃ Ak ck A2 c2, e = .returned (.tuple #[.slice Ak key.length ck, .slice A2 r.length c2, .bool true]) ∧ (key.length ≤ ck ∧ ck ≤ maxLen ∧ Sees w B Ak key) ∧ (r.length ≤ c2 ∧ c2 ≤ maxLen ∧ Sees w B A2 r) ∧ Below w.heap.size w w2 ∧ PBox w2 w.heap.size ⟨#[]⟩ none 0 0 false := fun w2 e h => by
      obtain ⟨hm, hb2⟩ := h
      rw [hc2] at hm
      obtain ⟨v1, v2, rfl, ⟨Ak, ck, rfl, k1, k2, k3⟩, A2, c2, rfl, m1, m2, m3⟩ := hm
      exact ⟨Ak, ck, A2, c2, rfl, ⟨k1, k2, k3.back HW.out.bel hB⟩, ⟨m1, m2, m3.back HW.out.bel hB⟩, HW.out.bel.trans (hb2.mono hN1), HW.out.box.below hb2⟩
    have HSPL := Lib.hid hsplit
    clear hsplit hhead y3 y4 y5 z3 z4 z5
    rcases hk with rfl | rfl
    · have hcut : cut (0 :: t) = some (⟨bstr key, [], true⟩, r) := by rw [HCK.out, cutK_eq, hc2]; rfl
      have HCUT := Lib.hid hcut
      obtain rfl : z = 0 := Hz.out
      clear hcut
      go_enter Try.func32, Try.ntmps32
      go_wp2_with fail
      rw [← HW.out.eq]
      refine HC.out.mono ?_
      intro e w2 hq
      obtain ⟨Ak, ck, A2, c2, rfl, ⟨k1, k2, k3⟩, ⟨m1, m2, m3⟩, hb2, hbx⟩ := HSPL.out w2 e hq
      obtain ⟨⟨q1, q2, q3⟩, q4, q5, q6⟩ := hbx.cells
      have hcv := run_sees_string (P := Try.prog) w2 27 9 5 Try.underlying27 Try.underlying5 Try.underlying9 (k3.below hb2 hB) key.length ck rfl
      have hcv' : (convert 27 9 (.slice Ak key.length ck)).run Try.prog w2 = .ok (.string (bstr key)) w2 := hcv
      obtain ⟨kb, Hkb⟩ : ∃ kb, Hid (kb = bstr key) := ⟨_, Lib.hid rfl⟩
      rw [← Hkb.out] at hcv'
      obtain ⟨w3, Hw3⟩ : ∃ w3, Hid (w3 = (((w2.setCell ⟨w.heap.size, 0, none⟩ (.string kb)).setCell ⟨w.heap.size, 1, none⟩ (.slice none 0 0)).setCell ⟨w.heap.size, 2, none⟩ (.bool true))) := ⟨_, Lib.hid rfl⟩
      have HW3 : Hid (CpS w.heap.size w.heap.size kb none 0 0 true w3 w3 ∧ Below w.heap.size w w3) := Lib.hid (by
        rw [Hw3.out]
        have h5 := set3_below hb2 (Nat.le_refl _) (.string kb) (.slice none 0 0) (.bool true)
        exact ⟨⟨Below.refl _ _, h5.size, hbx.set⟩, h5⟩)
      have HKS : Hid (kb.size ≤ maxLen) := Lib.hid (by rw [Hkb.out]; show key.toArray.size ≤ maxLen; simp; omega)
      have HR : Hid (Rd w B (.slice A2 r.length c2) r) := Lib.hid ⟨A2, c2, rfl, m1, m2, m3⟩
      clear hq k1 k2 k3 m1 m2 m3 hb2 hbx hcv HC HSPL hsl hhead0
      go_wp2
      rw [← Hw3.out]
      refine cp10_run w.heap.size w.heap.size 0 0 none kb true (.slice A2 r.length c2) [] rfl (Nat.zero_le _) HKS.out (Nat.le_refl _) HW3.out.1 (by show 47 < 48; omega) rfl rfl rfl ?_
      intro af wN hfr h3 h4 hS
      have KEY : Hid (PutEnd (0 :: t) B w (.returned (.tuple #[.agg #[.string kb, .slice none 0 0, .bool true], .slice A2 r.length c2, .bool (ok1 ⟨kb, [], true⟩)])) wN) := Lib.hid (by
        have := PutEnd.of (B := B) (w := w) (w' := wN) HCUT.out none 0 (.slice A2 r.length c2) (Nat.zero_le _) (Nat.zero_le _) (Sees.nil _ _ _) HR.out (HW3.out.2.trans hS.bel)
        rw [Hkb.out]; exact this)
      have HBX := Lib.hid hS.box
      clear hS
      have ha := hfr.eq (by intro t ht; simp at ht; show t < 48; omega)
      simp only [List.foldl_cons, List.foldl_nil] at ha
      clear hfr
      rw [h3] at ha
      clear h3
      rw [h4] at ha
      clear h4
      generalize af.eval (.tmp 41) = u41 at ha
      generalize af.eval (.tmp 42) = u42 at ha
      generalize af.eval (.tmp 43) = u43 at ha
      generalize af.eval (.tmp 44) = u44 at ha
      generalize af.eval (.tmp 45) = u45 at ha
      generalize af.eval (.tmp 46) = u46 at ha
      generalize af.eval (.tmp 47) = u47 at ha
      subst ha
      simp only [Act.put, List.setIfInBounds_toArray, List.set_cons_zero, List.set_cons_succ]
      go_wp2
      refine bodyPost_ret (put_ret wN _ w.heap.size rfl _ _ _ _ _ _ _ rfl rfl HBX.out) rfl ?_
      exact KEY.out
    · obtain rfl : z = 1 := Hz.out
      have hcut : cut (1 :: t) = (cutC r 4).map fun y => (⟨bstr key, y.1, false⟩, y.2) := by rw [HCK.out, cutK_eq, hc2]; rfl
      have HCUT := Lib.hid hcut
      clear hcut
      go_enter Try.func32, Try.ntmps32
      go_wp2_with fail
      rw [← HW.out.eq]
      refine HC.out.mono ?_
      intro e w2 hq
      obtain ⟨Ak, ck, A2, c2, rfl, ⟨k1, k2, k3⟩, ⟨m1, m2, m3⟩, hb2, hbx⟩ := HSPL.out w2 e hq
      obtain ⟨⟨q1, q2, q3⟩, q4, q5, q6⟩ := hbx.cells
      have hcv := run_sees_string (P := Try.prog) w2 27 9 5 Try.underlying27 Try.underlying5 Try.underlying9 (k3.below hb2 hB) key.length ck rfl
      have hcv' : (convert 27 9 (.slice Ak key.length ck)).run Try.prog w2 = .ok (.string (bstr key)) w2 := hcv
      obtain ⟨kb, Hkb⟩ : ∃ kb, Hid (kb = bstr key) := ⟨_, Lib.hid rfl⟩
      rw [← Hkb.out] at hcv'
      obtain ⟨w3, Hw3⟩ : ∃ w3, Hid (w3 = (((w2.setCell ⟨w.heap.size, 0, none⟩ (.string kb)).setCell ⟨w.heap.size, 1, none⟩ (.slice none 0 0)).setCell ⟨w.heap.size, 2, none⟩ (.bool false))) := ⟨_, Lib.hid rfl⟩
      have hw3 : PBox w3 w.heap.size kb none 0 0 false ∧ Below w.heap.size w w3 := by
        rw [Hw3.out]
        exact ⟨hbx.set, set3_below hb2 (Nat.le_refl _) (.string kb) (.slice none 0 0) (.bool false)⟩
      have HKS : Hid (kb.size ≤ maxLen) := Lib.hid (by rw [Hkb.out]; show key.toArray.size ≤ maxLen; simp; omega)
      have hc4 := cutC_any w3 B A2 r.length c2 4 4 r rfl m1 m2 (m3.below hw3.2 hB) rfl (by omega)
      have HC4 := Lib.hid hc4
      have HW3 := Lib.hid hw3
      clear hq k1 k2 k3 m1 m2 m3 hb2 hbx hcv HC HSPL hsl hhead0 hc4 hw3
      go_wp2_with fail
      rw [← Hw3.out]
      refine HC4.out.mono ?_
      rintro e w4 ⟨hm, hb4⟩
      have hbx4 := HW3.out.1.below hb4
      have hbel4 : Below w.heap.size w w4 := HW3.out.2.trans (hb4.mono HW3.out.2.size)
      obtain ⟨⟨q1, q2, q3⟩, q4, q5, q6⟩ := hbx4.cells
      cases hcr : cutC r 4 with
      | none =>
        rw [hcr] at hm
        simp only at hm
        subst hm
        have hno : cutP (1 :: t) = none := by unfold cutP; rw [HCUT.out, hcr]; rfl
        obtain ⟨w5, Hw5⟩ : ∃ w5, Hid (w5 = w4.setCell ⟨w.heap.size, 1, none⟩ (.slice none 0 0)) := ⟨_, Lib.hid rfl⟩
        have HW5 : Hid (CpS w.heap.size w.heap.size kb none 0 0 false w5 w5 ∧ Below w.heap.size w w5) := Lib.hid (by
          rw [Hw5.out]
          have h5 := hbel4.setCell (p := ⟨w.heap.size, 1, none⟩) (Nat.le_refl _) (.slice none 0 0)
          exact ⟨⟨Below.refl _ _, h5.size, hbx4.set1⟩, h5⟩)
        have HNO := Lib.hid hno
        clear hb4 hbx4 hbel4 hno HC4 HW3
        go_wp2
        rw [← Hw5.out]
        refine cf10_run w.heap.size w.heap.size 0 0 none kb false (.slice none 0 0) (Nat.le_refl _) HW5.out.1 (by show 47 < 48; omega) rfl rfl rfl ?_
        intro af wN hfr h3 h4 hS
        have KEY := Lib.hid (PutEnd.no (B := B) HNO.out kb none 0 0 false (.slice none 0 0) (HW5.out.2.trans hS.bel))
        have HBX := Lib.hid hS.box
        clear hS
        have ha := hfr.eq (by intro t ht; simp at ht; show t < 48; omega)
        simp only [List.foldl_cons, List.foldl_nil] at ha
        clear hfr
        rw [h3] at ha
        clear h3
        rw [h4] at ha
        clear h4
        generalize af.eval (.tmp 41) = u41 at ha
        generalize af.eval (.tmp 42) = u42 at ha
        generalize af.eval (.tmp 43) = u43 at ha
        generalize af.eval (.tmp 44) = u44 at ha
        generalize af.eval (.tmp 45) = u45 at ha
        generalize af.eval (.tmp 46) = u46 at ha
        generalize af.eval (.tmp 47) = u47 at ha
        subst ha
        simp only [Act.put, List.setIfInBounds_toArray, List.set_cons_zero, List.set_cons_succ]
        go_wp2
        refine bodyPost_ret (put_ret wN _ w.heap.size rfl _ _ _ _ _ _ _ rfl rfl HBX.out) rfl ?_
        exact KEY.out
      | some y =>
        obtain ⟨v, r2⟩ := y
        rw [hcr] at hm
        obtain ⟨u1, u2, rfl, ⟨Av, cv, rfl, k1, k2, k3⟩, A5, c5, rfl, m1, m2, m3⟩ := hm
        obtain ⟨w5, Hw5⟩ : ∃ w5, Hid (w5 = w4.setCell ⟨w.heap.size, 1, none⟩ (.slice Av v.length cv)) := ⟨_, Lib.hid rfl⟩
        have HW5 : Hid (CpS w.heap.size w.heap.size kb Av v.length cv false w5 w5 ∧ Below w.heap.size w w5) := Lib.hid (by
          rw [Hw5.out]
          have h5 := hbel4.setCell (p := ⟨w.heap.size, 1, none⟩) (Nat.le_refl _) (.slice Av v.length cv)
          exact ⟨⟨Below.refl _ _, h5.size, hbx4.set1⟩, h5⟩)
        have HK3 := Lib.hid (k3.back HW3.out.2 hB)
        have HR : Hid (Rd w B (.slice A5 r2.length c5) r2) := Lib.hid ⟨A5, c5, rfl, m1, m2, m3.back HW3.out.2 hB⟩
        have HV := Lib.hid (⟨k1, k2⟩ : _ ∧ _)
        have hcutv : cut (1 :: t) = some (⟨bstr key, v, false⟩, r2) := by rw [HCUT.out, hcr]; rfl
        have HCV := Lib.hid hcutv
        clear hb4 hbx4 hbel4 HC4 HW3 k1 k2 k3 m1 m2 m3 hcutv
        go_wp2
        rw [← Hw5.out]
        refine cp10_run w.heap.size w.heap.size v.length cv Av kb false (.slice A5 r2.length c5) v rfl (Nat.le_trans HV.out.1 HV.out.2) HKS.out (Nat.le_refl _) HW5.out.1 (by show 47 < 48; omega) rfl rfl rfl ?_
        intro af wN hfr h3 h4 hS
        have KEY : Hid (PutEnd (1 :: t) B w (.returned (.tuple #[.agg #[.string kb, .slice Av v.length cv, .bool false], .slice A5 r2.length c5, .bool (ok1 ⟨kb, v, false⟩)])) wN) := Lib.hid (by
          have := PutEnd.of (B := B) (w := w) (w' := wN) HCV.out Av cv (.slice A5 r2.length c5) HV.out.1 HV.out.2 HK3.out HR.out (HW5.out.2.trans hS.bel)
          rw [Hkb.out]; exact this)
        have HBX := Lib.hid hS.box
        clear hS
        have ha := hfr.eq (by intro t ht; simp at ht; show t < 48; omega)
        simp only [List.foldl_cons, List.foldl_nil] at ha
        clear hfr
        rw [h3] at ha
        clear h3
        rw [h4] at ha
        clear h4
        generalize af.eval (.tmp 41) = u41 at ha
        generalize af.eval (.tmp 42) = u42 at ha
        generalize af.eval (.tmp 43) = u43 at ha
        generalize af.eval (.tmp 44) = u44 at ha
        generalize af.eval (.tmp 45) = u45 at ha
        generalize af.eval (.tmp 46) = u46 at ha
        generalize af.eval (.tmp 47) = u47 at ha
        subst ha
        simp only [Act.put, List.setIfInBounds_toArray, List.set_cons_zero, List.set_cons_succ]
        go_wp2
        refine bodyPost_ret (put_ret wN _ w.heap.size rfl _ _ _ _ _ _ _ rfl rfl HBX.out) rfl ?_
        exact KEY.out
end Go.Proofs.Ytgpkdnnlgafenaa

namespace Go.Proofs.Ytgpkdnnlgafenaa
open Go.RowKit Kv
set_option linter.unusedVariables false

def DecEnd (l : List UInt8) (w : World) (e : Ending) (w' : World) : Prop :=
  match decP l with
  | none => e = .returned (.tuple #[.slice none 0 0, .int .i64 3]) ∧ Below w.heap.size w w'
  | some L => ∃ A n c D, e = .returned (.tuple #[.slice A n c, .int .i64 0]) ∧ n = L.length ∧ D.map DEnt.pt = L ∧ DRow w' (.slice A n c) D ∧ Below w.heap.size w w' ∧ ∀ b, b ∈ blk (.slice A n c) → w.heap.size ≤ b
/-- What has been read of l0: the Puts D, what is left lb. -/
structure DAt (w0 wr : World) (l0 lb : List UInt8) (Ab Al : Option Addr) (cb cl : Nat) (D : List DEnt) : Prop where
  rd : lb.length ≤ cb ∧ cb ≤ maxLen ∧ Sees wr w0.heap.size Ab lb
  row : DRow wr (.slice Al D.length cl) D
  bel : Below w0.heap.size w0 wr
  high : ∀ b, b ∈ blk (.slice Al D.length cl) → w0.heap.size ≤ b
  dec : decP l0 = (decP lb).map fun t => D.map DEnt.pt ++ t
  few : D.length + lb.length ≤ l0.length

set_option maxHeartbeats 3200000 in
set_option maxRecDepth 100000 in
theorem decode_any (w : World) (A : Option Addr) (n c : Nat) (l : List UInt8) (hn : n = l.length) (hnc : n ≤ c) (hcm : c ≤ maxLen) (hbig : n ≤ 100000000) (hs : Sees w w.heap.size A l) :
    Calls Try.prog 12 #[.slice A n c] w (DecEnd l w) := by
  subst hn
  obtain ⟨w0, rfl⟩ : ∃ w0, w0 = w := ⟨_, rfl⟩
  have HS := Lib.hid hs
  clear hs
  go_enter Try.func12, Try.ntmps12
  go_wp2
  go_loopw [0, 4] (fun b d wr => ∃ (lb : List UInt8) (Ab Al : Option Addr) (cb cl : Nat) (D : List DEnt), b = .slice Ab lb.length cb ∧ d = .slice Al D.length cl ∧ Hid (DAt w0 wr l lb Ab Al cb cl D)) (fun b _ _ => match b with | .slice _ n _ => n | _ => 0)
  case atStart => exact ⟨l, A, none, c, 0, [], rfl, rfl, Lib.hid ⟨⟨hnc, hcm, HS.out⟩, DRow.nil _, Below.refl _ _, fun b hb => by simp [blk, Value.ownBlock] at hb, by simp, by simp⟩⟩
  case round =>
    obtain ⟨lb, Ab, Al, cb, cl, D, rfl, rfl, HI⟩ := hrel
    cases lb with
    | nil =>
      have hd : decP l = some (D.map DEnt.pt) := by rw [HI.out.dec, show decP [] = some [] from rfl]; simp
      have key : DecEnd l w0 (.returned (.tuple #[.slice Al D.length cl, .int .i64 0])) wr := by
        unfold DecEnd
        rw [hd]
        exact ⟨Al, _, cl, D, rfl, by simp, rfl, HI.out.row, HI.out.bel, HI.out.high⟩
      have KEY := Lib.hid key
      clear key hd
      go_wp2
      go_ret2
      exact KEY.out
    | cons c0 t =>
      obtain ⟨g, o, rfl, hg, _⟩ := HI.out.rd.2.2 (by simp)
      obtain ⟨N, HN⟩ : ∃ N, Hid (N = (c0 :: t).length) := ⟨_, Lib.hid rfl⟩
      have hcut := cutPut_any wr w0.heap.size g o (c0 :: t).length cb c0 t rfl HI.out.rd.1 HI.out.rd.2.1 HI.out.rd.2.2 HI.out.bel.size
      have hNp : 0 < N := by rw [HN.out]; simp
      have hNI : (0 : Int) < (N : Int) := by omega
      rw [← HN.out] at hcut ⊢
      have HCUT := Lib.hid hcut
      clear hcut
      go_wp2_with fail
      refine HCUT.out.mono ?_
      rintro e w2 ⟨k, A2, n2, c2, gg, v2, ok, rfl, hb2, hm⟩
      have hst := dec_step eatsP (b := c0 :: t) (by simp)
      have hdl := HI.out.dec
      rw [show decP (c0 :: t) = decG cutP (c0 :: t).length (c0 :: t) from rfl, hst] at hdl
      have hb2w : Below w0.heap.size w0 w2 := HI.out.bel.trans (hb2.mono HI.out.bel.size)
      cases hc : cutP (c0 :: t) with
      | none =>
        rw [hc] at hm hdl
        simp only at hm
        subst hm
        have hno : decP l = none := by rw [hdl]; rfl
        have key : ∀ W, Below w2.heap.size w2 W → DecEnd l w0 (.returned (.tuple #[.slice none 0 0, .int .i64 3])) W := fun W hW => by
          unfold DecEnd
          rw [hno]
          exact ⟨rfl, hb2w.trans (hW.mono hb2w.size)⟩
        have KEY := Lib.hid key
        clear key hno hst hdl hb2 hb2w HCUT
        go_wp2
        go_ret2
        exact KEY.out _ ((Below.refl _ _).alloc (Nat.le_refl _) _)
      | some y =>
        obtain ⟨x, r⟩ := y
        rw [hc] at hm hdl
        obtain ⟨rfl, e1, e2, e3, m1, m2, m3, A6, c6, rfl, m4, m5, m6⟩ := hm
        have hcs := cutP_some hc
        have hsh := cut_shorter hcs.1
        have hokx := ok1_iff.1 hcs.2
        obtain ⟨xk, xv, xg⟩ := x
        simp only at e1 e2 e3 m3 hokx
        subst e1 e2 e3
        have hw0r : w0.heap.size ≤ wr.heap.size := HI.out.bel.size
        obtain ⟨w3, Hw3⟩ : ∃ w3, Hid (w3 = w2.alloc (.cells #[.string xk, .slice A2 xv.length c2, .bool xg] 29)) := ⟨_, Lib.hid rfl⟩
        have hb3 : Below w2.heap.size w2 w3 := by rw [Hw3.out]; exact (Below.refl _ _).alloc (Nat.le_refl _) _
        have hbx3 : PBox w3 w2.heap.size xk A2 xv.length c2 xg := by rw [Hw3.out]; exact heap_alloc_new w2 _
        have hb3w : Below w0.heap.size w0 w3 := hb2w.trans (hb3.mono hb2w.size)
        have hse3 : Sees w3 w0.heap.size A2 xv := (m3.below hb2 hw0r).below hb3 (Nat.le_trans hw0r hb2.size)
        have hcl := clone_val A2 xv.length c2 w0.heap.size xv w3 rfl (by omega) hse3
        have hrow3 := (HI.out.row.below hb2).below hb3
        have HLT : Hid (∀ b, b ∈ blk (.slice Al D.length cl) → b < w2.heap.size) := Lib.hid (own_lt (HI.out.row.below hb2).row)
        have HST : Hid (decP l = (decP r).map fun t => D.map DEnt.pt ++ ⟨xk, xv, xg⟩ :: t) := Lib.hid (by
          rw [hdl]
          simp only [Option.map_map]
          rfl)
        have HFEW : Hid (D.length + 1 + r.length ≤ l.length) := Lib.hid (by have := HI.out.few; omega)
        have HRD : Hid (r.length ≤ c6 ∧ c6 ≤ maxLen ∧ Sees w3 w0.heap.size A6 r) := Lib.hid ⟨m4, m5, (m6.below hb2 hw0r).below hb3 (Nat.le_trans hw0r hb2.size)⟩
        have HSH : Hid (r.length < N) := Lib.hid (by rw [HN.out]; exact hsh)
        have HCL := Lib.hid hcl
        have HROW3 := Lib.hid hrow3
        have HBX3 := Lib.hid hbx3
        have HB3W := Lib.hid hb3w
        have HHI := Lib.hid HI.out.high
        have hpb : w0.heap.size ≤ w2.heap.size := hb2w.size
        have hps : w2.heap.size < w3.heap.size := by rw [Hw3.out]; simp
        obtain ⟨y1, y2⟩ := hbx3.cells
        obtain ⟨y3, y4, y5⟩ := y1
        have y4' := y4
        rw [Hw3.out] at y4'
        have hlD : D.length + 1 ≤ 1000000000 := by have := HFEW.out; omega
        clear hst hdl hb2 hb2w hc m1 m2 m3 m4 m5 m6 hcs hsh hokx hb3 hbx3 hb3w hse3 hcl hrow3 HCUT HI hg
        go_wp2_with fail
        rw [← Hw3.out]
        refine HCL.out.mono ?_
        rintro e w4 ⟨A4, c4, rfl, _, _, hr4, hb4, _⟩
        have hbx4 := HBX3.out.below hb4
        obtain ⟨⟨q1, q2, q3⟩, q4, q5, q6⟩ := hbx4.cells
        obtain ⟨⟨x1, x2, x3⟩, _⟩ := (hbx4.set1 (A' := A4) (n' := xv.length) (c' := c4)).cells
        have hset : Only [w2.heap.size] w4 (w4.setCell ⟨w2.heap.size, 1, none⟩ (.slice A4 xv.length c4)) := only_setCell w4 ⟨w2.heap.size, 1, none⟩ _
        have hbxn := (NoB.of_cells hbx4 (by decide))
        have hfar5 : Far w4 (blk (.slice Al D.length cl)) [w2.heap.size] := fun b hb => by
          rw [List.mem_singleton] at hb; subst hb
          exact ⟨fun hm => by have := HLT.out _ hm; omega, hbxn⟩
        have hrow5 := (HROW3.out.below hb4).far hset hfar5
        have hr5 : BRow (w4.setCell ⟨w2.heap.size, 1, none⟩ (.slice A4 xv.length c4)) (.slice A4 xv.length c4) xv := hr4.far hset (fun b hb => by rw [List.mem_singleton] at hb; subst hb; exact ⟨by simp, hbxn⟩ : Far w4 [] [w2.heap.size])
        obtain ⟨A7, c7, D7, w7, HD7, hap, hd7, ho7, hg7⟩ := drow_one (w4.setCell ⟨w2.heap.size, 1, none⟩ (.slice A4 xv.length c4)) _ D hrow5 xk A4 xv.length c4 xg xv hr5 hlD
        have hsz5 : (w4.setCell ⟨w2.heap.size, 1, none⟩ (.slice A4 xv.length c4)).heap.size = w4.heap.size := by simp [World.setCell]
        have hb4w : Below w0.heap.size w0 w4 := HB3W.out.trans (hb4.mono HB3W.out.size)
        have hb5w : Below w0.heap.size w0 (w4.setCell ⟨w2.heap.size, 1, none⟩ (.slice A4 xv.length c4)) := hb4w.setCell hpb _
        have hb7 : Below w0.heap.size (w4.setCell ⟨w2.heap.size, 1, none⟩ (.slice A4 xv.length c4)) w7 := ho7.below hb5w.size HHI.out
        have HNEXT : Hid (DAt w0 w7 l r A6 A7 c6 c7 D7) := Lib.hid ⟨⟨HRD.out.1, HRD.out.2.1, ((HRD.out.2.2.below hb4 HB3W.out.size).below (Below.setCell (Below.refl w0.heap.size w4) hpb _) (Nat.le_refl _)).below hb7 (Nat.le_refl _)⟩, hd7, hb5w.trans hb7, fun b hb => (hg7 b hb).elim (HHI.out b) (fun h' => Nat.le_trans hb5w.size h'),
          by rw [HST.out, HD7.out, List.map_append]; simp [DEnt.pt], by rw [HD7.out, List.length_append]; simp; have := HFEW.out; omega⟩
        rw [hsz5] at hap
        have HAP := Lib.hid hap
        clear hset hbxn hfar5 hrow5 hr5 hap hd7 ho7 hg7 hsz5 hb4w hb5w hb7 hr4 hb4 hbx4 HCL HROW3 HBX3 HB3W HHI HRD HST HFEW HLT y3 y4 y5 y4' y2
        go_wp2_with (at_builtin; refine wpList_append_run rfl _ _ 31 rfl _ (.slice Al D.length cl) (.slice (some ⟨w4.heap.size, 0, none⟩) 1 1) rfl rfl (.slice A7 D7.length c7) w7 (by exact HAP.out) ?_)
        go_roundw
        case rel => exact ⟨r, A6, A7, c6, c7, D7, rfl, rfl, HNEXT⟩
        case measure => exact HSH.out
end Go.Proofs.Ytgpkdnnlgafenaa

namespace Go.Proofs.Ytgpkdnnlgafenaa
open Go.RowKit Kv
set_option linter.unusedVariables false

noncomputable instance (L : List Pt) : Decidable (Rises L) := Classical.propDecidable _
/-- What Load makes of bytes. -/
noncomputable def loadM (l : List UInt8) : Option (List Pr) := match decP l with
  | none => none
  | some L => if Rises L then some (L.map kvOf) else none
def LoadEnd (l : List UInt8) (w : World) (e : Ending) (w' : World) : Prop :=
  match loadM l with
  | none => e = .returned (.tuple #[.pointer none, .int .i64 3]) ∧ Below w.heap.size w w'
  | some m => ∃ t F, e = .returned (.tuple #[.pointer (some ⟨t, 0, none⟩), .int .i64 0]) ∧ Tab w' t m F ∧ Below w.heap.size w w' ∧ ∀ b, b ∈ F → w.heap.size ≤ b
theorem LoadEnd.no {l : List UInt8} {w w' : World} (h : loadM l = none) (hb : Below w.heap.size w w') : LoadEnd l w (.returned (.tuple #[.pointer none, .int .i64 3])) w' := by
  unfold LoadEnd; rw [h]; exact ⟨rfl, hb⟩
/-- The Puts rise up to k. -/
def RisesTo (L : List Pt) (k : Nat) : Prop := ∀ j (h : j < L.length), j < k → L[j].g = false ∧ (∀ h0 : 0 < j, ltb (L[j - 1]'(by omega)).k L[j].k = true)

set_option maxHeartbeats 3200000 in
set_option maxRecDepth 100000 in
theorem load_any (w : World) (A : Option Addr) (n c : Nat) (l : List UInt8) (hn : n = l.length) (hnc : n ≤ c) (hcm : c ≤ maxLen) (hbig : n ≤ 100000000) (hs : Sees w w.heap.size A l) (hfew : ∀ L, decP l = some L → L.length ≤ 255) :
    Calls Try.prog 13 #[.slice A n c] w (LoadEnd l w) := by
  have hdec := decode_any w A n c l hn hnc hcm hbig hs
  unfold DecEnd at hdec
  have HDEC := Lib.hid hdec
  subst hn
  clear hdec hs
  go_enter Try.func13, Try.ntmps13
  go_wp2_with fail
  refine HDEC.out.mono ?_
  intro e w2 hq
  cases hd : decP l with
  | none =>
    rw [hd] at hq
    obtain ⟨rfl, hb2⟩ := hq
    have KEY := Lib.hid (LoadEnd.no (w := w) (w' := w2) (show loadM l = none by unfold loadM; rw [hd]) hb2)
    clear HDEC hb2
    go_wp2
    go_ret2
    exact KEY.out
  | some L =>
    rw [hd] at hq
    obtain ⟨A2, n2, c2, D, rfl, rfl, hDL, hrow, hb2, hhi⟩ := hq
    have hlen := hfew L hd
    have hmay := (decP_some hd).2
    have hps : Puts w2 w2.heap.size [] A2 L := by
      have := hrow.puts [] (fun b hb => by cases hb) (fun b _ hb => by cases hb)
      rwa [hDL] at this
    have HPS := Lib.hid hps
    have HROW := Lib.hid hrow
    have HB2 := Lib.hid hb2
    have HHI := Lib.hid hhi
    have HD := Lib.hid hd
    have HMAY := Lib.hid hmay
    have HDL := Lib.hid hDL
    clear HDEC hrow hb2 hhi hd hmay hps hDL
    have hlI : (L.length : Int) ≤ 255 := by omega
    go_wp2
    go_loopw [19] (fun i wr => ∃ k : Nat, k ≤ L.length ∧ i = .int .i64 k ∧ Hid (RisesTo L k) ∧ Hid (Below w2.heap.size w2 wr)) (fun i _ => L.length - (intOf i).toNat)
    case atStart => exact ⟨0, Nat.zero_le _, rfl, Lib.hid (fun j h hj => absurd hj (by omega)), Lib.hid (Below.refl _ _)⟩
    case round =>
      obtain ⟨k, hk, rfl, HRI, HBR⟩ := hrel
      by_cases hlt : k < L.length
      · have hpw := HPS.out.below HBR.out (Nat.le_refl _)
        obtain ⟨g, o, A', c', rfl, hg, k1, k2, k3, _, _, _⟩ := hpw.at k hlt
        have hgr : g < wr.heap.size := Nat.lt_of_lt_of_le hg HBR.out.size
        have hkI : (k : Int) < (L.length : Int) := by omega
        have HNO : Hid (¬ Rises L → ∀ W, Below wr.heap.size wr W → LoadEnd l w (.returned (.tuple #[.pointer none, .int .i64 3])) W) := Lib.hid (fun h W hW => LoadEnd.no (show loadM l = none by unfold loadM; rw [HD.out]; simp only; rw [if_neg h]) (HB2.out.trans ((HBR.out.mono HB2.out.size).trans (hW.mono (Nat.le_trans HB2.out.size HBR.out.size)))))
        have HYES : Hid ((L[k].g = false ∧ ∀ h0 : 0 < k, ltb (L[k - 1]'(by omega)).k L[k].k = true) → RisesTo L (k + 1)) := Lib.hid (fun h j hj hjk => by
          by_cases e : j = k
          · subst e; exact h
          · exact HRI.out j hj (by omega))
        have HNR : Hid (¬ (L[k].g = false ∧ ∀ h0 : 0 < k, ltb (L[k - 1]'(by omega)).k L[k].k = true) → ¬ Rises L) := Lib.hid (fun h h' => h (h' k hlt))
        obtain ⟨w3, Hw3⟩ : ∃ w3, Hid (w3 = wr.alloc (.cells #[.string L[k].k, .slice A' L[k].v.length c', .bool L[k].g] 29)) := ⟨_, Lib.hid rfl⟩
        have hb3 : Below wr.heap.size wr w3 := by rw [Hw3.out]; exact (Below.refl _ _).alloc (Nat.le_refl _) _
        have hbx : PBox w3 wr.heap.size L[k].k A' L[k].v.length c' L[k].g := by rw [Hw3.out]; exact heap_alloc_new wr _
        obtain ⟨⟨y1, y2, y3⟩, _⟩ := hbx.cells
        have HB3 := Lib.hid hb3
        have HBW : Hid (Below w2.heap.size w2 w3) := Lib.hid (HBR.out.trans (hb3.mono HBR.out.size))
        have hprev : ∀ q, q + 1 = k → w3.cell? ⟨g, o + q * 3, none⟩ = some (.string (L[k - 1]'(by omega)).k) := fun q hq => by
          subst hq
          obtain ⟨g', o', A'', c'', ee, _, z1, _⟩ := hpw.at q (by omega)
          injection ee with ee; injection ee with e1 e2 _; subst e1 e2
          exact (hb3.cell (p := ⟨g, o + q * 3, none⟩) hgr).trans z1
        have HPREV := Lib.hid hprev
        clear hpw hb3 hbx hprev
        obtain ⟨gg, Hgg⟩ : ∃ gg, Hid (gg = L[k].g) := ⟨_, Lib.hid rfl⟩
        obtain ⟨kk, Hkk⟩ : ∃ kk, Hid (kk = L[k].k) := ⟨_, Lib.hid rfl⟩
        obtain ⟨vl, Hvl⟩ : ∃ vl, Hid (vl = L[k].v.length) := ⟨_, Lib.hid rfl⟩
        rw [← Hgg.out, ← Hkk.out] at HYES HNR
        rw [← Hgg.out] at Hw3 k3 y3
        rw [← Hkk.out] at Hw3 k1 y1
        rw [← Hvl.out] at Hw3 k2 y2
        cases gg with
        | true =>
          have HN := Lib.hid (HNO.out (HNR.out (fun h => by cases h.1)))
          clear HNO HNR HYES
          go_wp2
          rw [← Hw3.out]
          go_quiet (fail)
          go_wp2
          go_ret2
          exact HN.out _ (below_drewN HB3.out _)
        | false =>
          cases k with
          | zero =>
            simp only [Nat.zero_mul, Nat.add_zero] at k1 k2 k3
            have HY := Lib.hid (HYES.out ⟨rfl, fun h => absurd h (by omega)⟩)
            clear HNO HNR HYES HPREV
            go_wp2
            rw [← Hw3.out]
            go_quiet (fail)
            go_wp2
            go_roundw
            case rel => exact ⟨1, by omega, rfl, HY, Lib.hid (below_drewN HBW.out _)⟩
            case measure => simp [intOf]; omega
          | succ q =>
            have z1 := HPREV.out q rfl
            have hbl : Op.bytesLess (L[q + 1 - 1]'(by omega)).k.toList kk.toList = ltb (L[q + 1 - 1]'(by omega)).k kk := less_ltb _ _
            obtain ⟨kq, Hkq⟩ : ∃ kq, Hid (kq = (L[q + 1 - 1]'(by omega)).k) := ⟨_, Lib.hid rfl⟩
            rw [← Hkq.out] at z1 hbl
            cases hlb : ltb kq kk with
            | true =>
              rw [hlb] at hbl
              have HY := Lib.hid (HYES.out ⟨rfl, fun _ => by have h5 := hlb; rw [Hkq.out] at h5; exact h5⟩)
              clear HNO HNR HYES HPREV hlb
              go_wp2
              rw [← Hw3.out]
              go_quiet (fail)
              go_wp2
              go_roundw
              case rel => exact ⟨q + 1 + 1, by omega, by go_num, HY, Lib.hid (below_drewN HBW.out _)⟩
              case measure => simp [intOf]; omega
            | false =>
              rw [hlb] at hbl
              have HN := Lib.hid (HNO.out (HNR.out (fun h => by have h5 := h.2 (by omega); have h6 := hlb; rw [Hkq.out] at h6; rw [h6] at h5; cases h5)))
              clear HNO HNR HYES HPREV hlb
              go_wp2
              rw [← Hw3.out]
              go_quiet (fail)
              go_wp2
              go_ret2
              exact HN.out _ (below_drewN HB3.out _)
      · obtain rfl : k = L.length := by omega
        have hri : Rises L := fun j hj => HRI.out j hj hj
        have hlm : loadM l = some (L.map kvOf) := by unfold loadM; rw [HD.out]; simp only; rw [if_pos hri]
        have hbw : Below w.heap.size w wr := HB2.out.trans (HBR.out.mono HB2.out.size)
        have HN := Lib.hid (new_any wr)
        have HBWR := Lib.hid hbw
        have HRI2 := Lib.hid hri
        have HLM := Lib.hid hlm
        clear hri hlm hbw
        go_wp2_with fail
        refine HN.out.mono ?_
        rintro e w4 ⟨t, rfl, ht4, hb4, hts⟩
        have hrow4 := (HROW.out.below HBR.out).below hb4
        have hps4 : Puts w4 w4.heap.size [t] A2 L := by
          have := hrow4.puts [t] (fun b hb => (ht4.noB b hb).1) (fun b hb hm => by
            rw [List.mem_singleton] at hm; subst hm
            have := own_lt (HROW.out.below HBR.out).row _ hb
            omega)
          rwa [HDL.out] at this
        have hcom := commit_ok w4 t [] [t] A2 L.length c2 L ht4 Asc.nil (by simp; omega) rfl hps4 HMAY.out
        have HCOM := Lib.hid hcom
        have HB4 := Lib.hid (HBWR.out.trans (hb4.mono HBWR.out.size))
        have HTS : Hid (w.heap.size ≤ t) := Lib.hid (Nat.le_trans HBWR.out.size hts)
        clear HN ht4 hb4 hts hrow4 hps4 hcom
        go_wp2_with fail
        refine HCOM.out.mono ?_
        rintro e w5 (⟨_, rfl, F', k1, k2, k3⟩ | ⟨h, _⟩)
        · have key : LoadEnd l w (.returned (.tuple #[.pointer (some ⟨t, 0, none⟩), .int .i64 0])) w5 := by
            unfold LoadEnd
            rw [HLM.out]
            refine ⟨t, F', rfl, by rw [← HRI2.out.steps_all]; exact k1, HB4.out.trans (k2.below HB4.out.size (fun b hb => by rw [List.mem_singleton] at hb; subst hb; exact HTS.out)), fun b hb => ?_⟩
            rcases k3 b hb with h | h
            · rw [List.mem_singleton] at h; subst h; exact HTS.out
            · exact Nat.le_trans HB4.out.size h
          have KEY := Lib.hid key
          clear HCOM k1 k2 k3 key
          go_wp2
          go_ret2
          exact KEY.out
        · rw [HMAY.out] at h; cases h
end Go.Proofs.Ytgpkdnnlgafenaa

namespace Go.Proofs.Ytgpkdnnlgafenaa
open Go.RowKit Kv
set_option linter.unusedVariables false

/-- One Put that has just been written. -/
theorem puts_lit1 (w : World) (ka : ByteArray) (va : List UInt8) (Aa : Option Addr) (na : Nat) (ga : Bool) (X : List Nat) (b : Nat) (hb : b = w.heap.size) (hX : ∀ x, x ∈ X → x < w.heap.size) (ha : SeesX w w.heap.size X Aa va) (hla : na = va.length) (ca : Nat) (hca : na ≤ ca ∧ ca ≤ maxLen) (fr : Nat × Nat) :
    Puts (w.alloc (.cells #[.string ka, .slice Aa na ca, .bool ga] 29 fr)) (w.heap.size + 1) X (some ⟨b, 0, none⟩) [⟨ka, va, ga⟩] := fun _ => by
  subst hb hla
  have ho : Only X w (w.alloc (.cells #[.string ka, .slice Aa va.length ca, .bool ga] 29 fr)) := (Only.refl X w).alloc _
  have cell : ∀ j, (w.alloc (.cells #[.string ka, .slice Aa va.length ca, .bool ga] 29 fr)).cell? ⟨w.heap.size, j, none⟩ = (#[Value.string ka, .slice Aa va.length ca, .bool ga])[j]? := fun j => by simp only [World.cell?, heap_alloc_new]; rfl
  refine ⟨w.heap.size, 0, rfl, by omega, fun hm => by have := hX _ hm; omega, fun j hj => ?_⟩
  match j, hj with
  | 0, _ => exact ⟨(cell _).trans rfl, ⟨Aa, ca, (cell _).trans rfl, hca.1, hca.2, (ha.only ho (Nat.le_refl _)).wide (by omega)⟩, (cell _).trans rfl⟩
  | j + 1, hj => exact absurd hj (by simp)
theorem law_bytes {B : Nat} {w0 w : World} {t : Nat} {m : List Pr} {F : List Nat} (h : LTab B w0 w t m F) (hl : m.length ≤ 400) : Calls Try.prog 14 #[.pointer (some ⟨t, 0, none⟩)] w (BytesEnd m w) := bytes_any w t m F h.tab h.asc hl h.good


theorem load_bytes {m : List Pr} (ha : Asc m) (hg : Kv.Good m) : loadM (Kv.bytes m) = some m := by
  unfold loadM
  rw [decP_bytes hg]
  simp only
  rw [if_pos ha.rises, map_put1_kvOf]
theorem law_load {B : Nat} {w0 w : World} {m : List Pr} (hbw : Below B w0 w) (hsz : B ≤ w.heap.size) (ha : Asc m) (hg : Kv.Good m) (hl : m.length ≤ 255) (A : Option Addr) (n c : Nat) (hn : n = (Kv.bytes m).length) (hnc : n ≤ c) (hcm : c ≤ maxLen) (hs : Sees w w.heap.size A (Kv.bytes m)) :
    Calls Try.prog 13 #[.slice A n c] w fun e w' => ∃ t F, e = .returned (.tuple #[.pointer (some ⟨t, 0, none⟩), .int .i64 0]) ∧ LTab B w0 w' t m F ∧ Below w.heap.size w w' ∧ ∀ b, b ∈ F → w.heap.size ≤ b := by
  have hbl := bytes_le hg
  have hbl2 : m.length * 200207 ≤ 255 * 200207 := Nat.mul_le_mul_right _ hl
  refine (load_any w A n c (Kv.bytes m) hn hnc hcm (by omega) hs (fun L hL => by
    rw [decP_bytes hg] at hL
    injection hL with hL
    rw [← hL, List.length_map]; exact hl)).mono ?_
  intro e w' h
  unfold LoadEnd at h
  rw [load_bytes ha hg] at h
  obtain ⟨t, F, rfl, h1, h2, h3⟩ := h
  exact ⟨t, F, rfl, ⟨h1, fun b hb => Nat.le_trans hsz (h3 b hb), hbw.trans (h2.mono hsz), Nat.le_trans hsz h2.size, ha, hg⟩, h2, h3⟩
end Go.Proofs.Ytgpkdnnlgafenaa
