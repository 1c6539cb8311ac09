/- KvCp10, KvCf10: these texts in one. -/
import Derived.Test.YtpmgnmknjmnecaaFlags
import Derived.Test.YtpmgnmknjmnecaaKvArg
import Derived.WalkKit
import Derived.WalkSpells
import Derived.WalkLawsBesides
import Derived.Lib.Hide
namespace Go.Proofs.Ytpmgnmknjmnecaa
open Go.RowKit
set_option linter.unusedVariables false
set_option linter.unusedSimpArgs false

def opsCp10 : Array Oper := #[
  { dst := some 41, op := Op.load 29 (Operand.tmp 2), type := 29, pos := "kv.go:188", after := #[], guard := none },
  { dst := some 42, op := Op.move (Operand.tmp 3), type := 27, pos := "kv.go:188", after := #[{ on := 7, ground := Ground.gcOnly Departure.lateStores }], guard := none },
  { dst := some 43, op := Op.move (Operand.tmp 4), type := 4, pos := "kv.go:188", after := #[], guard := none },
  { dst := some 44, op := Op.move (Operand.tmp 43), type := 4, pos := "kv.go:188", after := #[{ on := 2, ground := Ground.data }], guard := none },
  { dst := some 45, op := Op.load 29 (Operand.tmp 2), type := 29, pos := "kv.go:188", after := #[{ on := 3, ground := Ground.guard }], guard := some (3, true) },
  { dst := some 46, op := Op.call { callee := Callee.value (Operand.func 40), args := #[Operand.tmp 45], argTypes := #[29] }, type := 4, pos := "kv.go:188", after := #[{ on := 4, ground := Ground.data }, { on := 3, ground := Ground.chain }, { on := 3, ground := Ground.guard }], guard := some (3, true) },
  { dst := some 47, op := Op.pick (Operand.tmp 44) (Operand.tmp 46) (Operand.const (Value.bool false)), type := 4, pos := "kv.go:188", after := #[{ on := 3, ground := Ground.data }, { on := 5, ground := Ground.data }, { on := 8, ground := Ground.gcOnly Departure.lateStores }], guard := none },
  { dst := none, op := Op.store 29 (Operand.tmp 2) (Operand.tmp 41), type := 0, pos := "kv.go:188", after := #[{ on := 0, ground := Ground.data }, { on := 5, ground := Ground.chain }, { on := 0, ground := Ground.phase }, { on := 1, ground := Ground.textOnly Departure.lateStores }, { on := 2, ground := Ground.textOnly Departure.lateStores }, { on := 3, ground := Ground.textOnly Departure.lateStores }, { on := 4, ground := Ground.phase }, { on := 5, ground := Ground.textOnly Departure.lateStoresUnsure }, { on := 6, ground := Ground.textOnly Departure.lateStores }], guard := none },
  { dst := some 3, op := Op.assign (Operand.tmp 42), type := 27, pos := "kv.go:188", after := #[{ on := 1, ground := Ground.data }, { on := 7, ground := Ground.chain }, { on := 0, ground := Ground.phase }, { on := 1, ground := Ground.phase }, { on := 2, ground := Ground.textOnly Departure.lateStores }, { on := 3, ground := Ground.textOnly Departure.lateStores }, { on := 4, ground := Ground.phase }, { on := 5, ground := Ground.textOnly Departure.lateStoresUnsure }, { on := 6, ground := Ground.textOnly Departure.lateStores }, { on := 7, ground := Ground.phase }], guard := none },
  { dst := some 4, op := Op.assign (Operand.tmp 47), type := 4, pos := "kv.go:188", after := #[{ on := 6, ground := Ground.data }, { on := 8, ground := Ground.chain }, { on := 0, ground := Ground.phase }, { on := 1, ground := Ground.phase }, { on := 2, ground := Ground.phase }, { on := 3, ground := Ground.phase }, { on := 4, ground := Ground.phase }, { on := 5, ground := Ground.phase }, { on := 6, ground := Ground.phase }, { on := 7, ground := Ground.phase }, { on := 8, ground := Ground.phase }], guard := none }]

def cp10Vals (pb n c : Nat) (A : Option Addr) (key : ByteArray) (g okb : Bool) (v2 : Value) : List (Nat × Nat × Value) := [(0, 41, .agg #[.string key, .slice A n c, .bool g]), (1, 42, v2), (2, 43, .bool true), (3, 44, .bool true), (4, 45, .agg #[.string key, .slice A n c, .bool g]), (6, 47, .bool okb)]
def cp10C : List (Nat × Nat) := [(5, 46), (7, 1000007), (8, 3), (9, 4)]

set_option maxHeartbeats 4000000 in
set_option maxRecDepth 100000 in
theorem cp10 {Q : Exit → Act → World → Prop} {a0 : Act} {wp : World} (pb n c : Nat) (A : Option Addr) (key : ByteArray) (g okb : Bool) (v2 : Value) (S : (Nat → Bool) → (Nat → Value) → World → Prop)
    (hsz : 47 < a0.tmps.size) (in2 : a0.eval (.tmp 2) = .pointer (some ⟨pb, 0, none⟩))
    (hbox : ∀ f R w, S f R w → (w.cell? ⟨pb, 0, none⟩ = some (.string key) ∧ w.cell? ⟨pb, 1, none⟩ = some (.slice A n c) ∧ w.cell? ⟨pb, 2, none⟩ = some (.bool g)) ∧ (w.frozen? ⟨pb, 0, none⟩ = false ∧ w.frozen? ⟨pb, 1, none⟩ = false ∧ w.frozen? ⟨pb, 2, none⟩ = false))
    (hr : ∀ f R w, S f R w → f 0 = true → R 0 = .bool okb)
    (hc0 : ∀ f R w, S f R w → f 0 = false → Calls Try.prog 40 #[.agg #[.string key, .slice A n c, .bool g]] w fun e w' => ∃ v, e = .returned v ∧ S (setF f 0) (setR R 0 v) w')
    (hs0 : ∀ f R w, S f R w → f 1 = false → S (setF f 1) R (((w.setCell ⟨pb, 0, none⟩ (.string key)).setCell ⟨pb, 1, none⟩ (.slice A n c)).setCell ⟨pb, 2, none⟩ (.bool g)))
    (hv : ∀ f R w, S f R w → (f 2 = false → R 2 = v2) ∧ (f 3 = false → R 3 = .bool true))
    (h8 : ∀ f R w, S f R w → f 2 = false → S (setF f 2) (setR R 2 v2) w) (h9 : ∀ f R w, S f R w → f 3 = false → S (setF f 3) (setR R 3 (.bool okb)) w)
    (hS : S (fun _ => false) (resOf cp10C fun t => a0.eval (.tmp t)) wp.drew)
    (fin : ∀ a w f, Fr [41, 42, 43, 44, 45, 46, 47, 3, 4] a0 a → (∀ j, j < 4 → f j = true) → S f (resOf cp10C fun t => a.eval (.tmp t)) w → Q .normal a w) :
    (Code.region 10 opsCp10 true).wp Try.prog Q a0 wp := by
  refine region_inv (by kernel_rfl) [41, 42, 43, 44, 45, 46, 47, 3, 4] (by kernel_rfl) (by kernel_rfl) (fun t ht => by simp at ht; omega) (GF (cp10Vals pb n c A key g okb v2) cp10C S) (.start hS) ?_
    (fun L a w hf hall hG => fin a w (flagsOf cp10C L) hf  (fun j hj => by
      match j, hj with
      | 0, _ => exact (flagsOf_at (C := cp10C) (j := 0) rfl L).trans (hall 5 (by decide))
      | 1, _ => exact (flagsOf_at (C := cp10C) (j := 1) rfl L).trans (hall 7 (by decide))
      | 2, _ => exact (flagsOf_at (C := cp10C) (j := 2) rfl L).trans (hall 8 (by decide))
      | 3, _ => exact (flagsOf_at (C := cp10C) (j := 3) rfl L).trans (hall 9 (by decide))
      | n + 4, h => exact absurd h (by omega)) hG.1)
  clear hS fin
  intro ix oo ho L a w hfr hG hLi hdep hcl K hK
  have e2 : a.tmps[2]?.getD undef = .pointer (some ⟨pb, 0, none⟩) := by rw [← ev]; exact (hfr.same 2 (by decide)).trans in2
  clear in2
  match ix, ho with
  | 0, ho =>
    simp only [opsCp10, List.getElem?_toArray, List.getElem?_cons_zero, Option.some.injEq] at ho
    subst ho
    rw [if_pos (show Region.wanted _ _ = true from rfl)]
    have hSp := hG.1
    have hf1 : flagsOf cp10C L 1 = false := (flagsOf_at (C := cp10C) (j := 1) rfl L).trans (by
      cases hl : L 7 with
      | false => rfl
      | true => exact absurd (hcl 7 _ rfl (hl) ⟨0, .data⟩ (by simp [opsCp10]) rfl) (by rw [hLi]; decide))
    have hf2 : flagsOf cp10C L 2 = false := (flagsOf_at (C := cp10C) (j := 2) rfl L).trans (by
      cases hl : L 8 with
      | false => rfl
      | true => exact absurd (hcl 8 _ rfl (hl) ⟨0, .phase⟩ (by simp [opsCp10]) rfl) (by rw [hLi]; decide))
    have hf3 : flagsOf cp10C L 3 = false := (flagsOf_at (C := cp10C) (j := 3) rfl L).trans (by
      cases hl : L 9 with
      | false => rfl
      | true => exact absurd (hcl 9 _ rfl (hl) ⟨0, .phase⟩ (by simp [opsCp10]) rfl) (by rw [hLi]; decide))
    have hfin := hK (.agg #[.string key, .slice A n c, .bool g]) w (hG.quiet 0 0 41 _ rfl (by kernel_rfl) (by kernel_rfl))
    have HK := Lib.hid hfin
    generalize (resOf cp10C fun t => a.eval (.tmp t)) = R at *
    generalize flagsOf cp10C L = f at *
    obtain ⟨⟨q1, q2, q3⟩, _⟩ := hbox _ _ _ hSp
    clear hbox hr hc0 hs0 hv h8 h9
    clear hSp
    clear hG hcl hdep hfr hK hfin hLi 
    go_simp
    exact HK.out
  | 1, ho =>
    simp only [opsCp10, List.getElem?_toArray, List.getElem?_cons_succ, List.getElem?_cons_zero, Option.some.injEq] at ho
    subst ho
    rw [if_pos (show Region.wanted _ _ = true from rfl)]
    have hSp := hG.1
    have hf2 : flagsOf cp10C L 2 = false := (flagsOf_at (C := cp10C) (j := 2) rfl L).trans (by
      cases hl : L 8 with
      | false => rfl
      | true => exact absurd (hcl 8 _ rfl (hl) ⟨1, .data⟩ (by simp [opsCp10]) rfl) (by rw [hLi]; decide))
    have hf3 : flagsOf cp10C L 3 = false := (flagsOf_at (C := cp10C) (j := 3) rfl L).trans (by
      cases hl : L 9 with
      | false => rfl
      | true => exact absurd (hcl 9 _ rfl (hl) ⟨1, .phase⟩ (by simp [opsCp10]) rfl) (by rw [hLi]; decide))
    have r3 : a.tmps[3]?.getD undef = resOf cp10C (fun t => a.eval (.tmp t)) 2 := by rw [← ev]; exact (resOf_at (C := cp10C) (j := 2) rfl a).symm
    have hfin := hK (v2) w (hG.quiet 1 1 42 _ rfl (by kernel_rfl) (by kernel_rfl))
    have HK := Lib.hid hfin
    generalize (resOf cp10C fun t => a.eval (.tmp t)) = R at *
    generalize flagsOf cp10C L = f at *
    rw [(hv _ _ _ hSp).1 hf2] at r3
    clear hbox hr hc0 hs0 hv h8 h9
    clear hSp
    clear hG hcl hdep hfr hK hfin hLi 
    go_simp
    exact HK.out
  | 2, ho =>
    simp only [opsCp10, List.getElem?_toArray, List.getElem?_cons_succ, List.getElem?_cons_zero, Option.some.injEq] at ho
    subst ho
    rw [if_pos (show Region.wanted _ _ = true from rfl)]
    have hSp := hG.1
    have hf0 : flagsOf cp10C L 0 = false := (flagsOf_at (C := cp10C) (j := 0) rfl L).trans (by
      cases hl : L 5 with
      | false => rfl
      | true => exact absurd (hcl 3 _ rfl (hcl 5 _ rfl (hl) ⟨3, .chain⟩ (by simp [opsCp10]) rfl) ⟨2, .data⟩ (by simp [opsCp10]) rfl) (by rw [hLi]; decide))
    have hf1 : flagsOf cp10C L 1 = false := (flagsOf_at (C := cp10C) (j := 1) rfl L).trans (by
      cases hl : L 7 with
      | false => rfl
      | true => exact absurd (hcl 3 _ rfl (hcl 5 _ rfl (hcl 7 _ rfl (hl) ⟨5, .chain⟩ (by simp [opsCp10]) rfl) ⟨3, .chain⟩ (by simp [opsCp10]) rfl) ⟨2, .data⟩ (by simp [opsCp10]) rfl) (by rw [hLi]; decide))
    have hf2 : flagsOf cp10C L 2 = false := (flagsOf_at (C := cp10C) (j := 2) rfl L).trans (by
      cases hl : L 8 with
      | false => rfl
      | true => exact absurd (hcl 3 _ rfl (hcl 4 _ rfl (hcl 8 _ rfl (hl) ⟨4, .phase⟩ (by simp [opsCp10]) rfl) ⟨3, .guard⟩ (by simp [opsCp10]) rfl) ⟨2, .data⟩ (by simp [opsCp10]) rfl) (by rw [hLi]; decide))
    have hf3 : flagsOf cp10C L 3 = false := (flagsOf_at (C := cp10C) (j := 3) rfl L).trans (by
      cases hl : L 9 with
      | false => rfl
      | true => exact absurd (hcl 9 _ rfl (hl) ⟨2, .phase⟩ (by simp [opsCp10]) rfl) (by rw [hLi]; decide))
    have r4 : a.tmps[4]?.getD undef = resOf cp10C (fun t => a.eval (.tmp t)) 3 := by rw [← ev]; exact (resOf_at (C := cp10C) (j := 3) rfl a).symm
    have hfin := hK (.bool true) w (hG.quiet 2 2 43 _ rfl (by kernel_rfl) (by kernel_rfl))
    have HK := Lib.hid hfin
    generalize (resOf cp10C fun t => a.eval (.tmp t)) = R at *
    generalize flagsOf cp10C L = f at *
    rw [(hv _ _ _ hSp).2 hf3] at r4
    clear hbox hr hc0 hs0 hv h8 h9
    clear hSp
    clear hG hcl hdep hfr hK hfin hLi 
    go_simp
    exact HK.out
  | 3, ho =>
    simp only [opsCp10, List.getElem?_toArray, List.getElem?_cons_succ, List.getElem?_cons_zero, Option.some.injEq] at ho
    subst ho
    have x43 : a.tmps[43]?.getD undef = .bool true := by rw [← ev]; exact hG.val 2 2 43 _ rfl (hdep ⟨2, .data⟩ (by simp) rfl)
    rw [if_pos (show Region.wanted _ _ = true from rfl)]
    have hfin := hK (.bool true) w (hG.quiet 3 3 44 _ rfl (by kernel_rfl) (by kernel_rfl))
    have HK := Lib.hid hfin
    clear hG hcl hdep hfr hK hfin hLi 
    go_simp
    exact HK.out
  | 4, ho =>
    simp only [opsCp10, List.getElem?_toArray, List.getElem?_cons_succ, List.getElem?_cons_zero, Option.some.injEq] at ho
    subst ho
    have xg : a.tmps[44]?.getD undef = .bool true := by rw [← ev]; exact hG.val 3 3 44 _ rfl (hdep ⟨3, .guard⟩ (by simp) rfl)
    have hw := wanted_of (ops := opsCp10) (a := a) (o := { dst := some 45, op := Op.load 29 (Operand.tmp 2), type := 29, pos := "kv.go:188", after := #[{ on := 3, ground := Ground.guard }], guard := some (3, true) }) (g := 3) (s := 44) (b := true) (b' := true) rfl rfl xg
    replace hw := hw.trans (show (true == true) = true from rfl)
    rw [if_pos hw]
    clear hw xg
    have hSp := hG.1
    have hf0 : flagsOf cp10C L 0 = false := (flagsOf_at (C := cp10C) (j := 0) rfl L).trans (by
      cases hl : L 5 with
      | false => rfl
      | true => exact absurd (hcl 5 _ rfl (hl) ⟨4, .data⟩ (by simp [opsCp10]) rfl) (by rw [hLi]; decide))
    have hf1 : flagsOf cp10C L 1 = false := (flagsOf_at (C := cp10C) (j := 1) rfl L).trans (by
      cases hl : L 7 with
      | false => rfl
      | true => exact absurd (hcl 7 _ rfl (hl) ⟨4, .phase⟩ (by simp [opsCp10]) rfl) (by rw [hLi]; decide))
    have hf2 : flagsOf cp10C L 2 = false := (flagsOf_at (C := cp10C) (j := 2) rfl L).trans (by
      cases hl : L 8 with
      | false => rfl
      | true => exact absurd (hcl 8 _ rfl (hl) ⟨4, .phase⟩ (by simp [opsCp10]) rfl) (by rw [hLi]; decide))
    have hf3 : flagsOf cp10C L 3 = false := (flagsOf_at (C := cp10C) (j := 3) rfl L).trans (by
      cases hl : L 9 with
      | false => rfl
      | true => exact absurd (hcl 9 _ rfl (hl) ⟨4, .phase⟩ (by simp [opsCp10]) rfl) (by rw [hLi]; decide))
    have hfin := hK (.agg #[.string key, .slice A n c, .bool g]) w (hG.quiet 4 4 45 _ rfl (by kernel_rfl) (by kernel_rfl))
    have HK := Lib.hid hfin
    generalize (resOf cp10C fun t => a.eval (.tmp t)) = R at *
    generalize flagsOf cp10C L = f at *
    obtain ⟨⟨q1, q2, q3⟩, _⟩ := hbox _ _ _ hSp
    clear hbox hr hc0 hs0 hv h8 h9
    clear hSp
    clear hG hcl hdep hfr hK hfin hLi 
    go_simp
    exact HK.out
  | 5, ho =>
    simp only [opsCp10, List.getElem?_toArray, List.getElem?_cons_succ, List.getElem?_cons_zero, Option.some.injEq] at ho
    subst ho
    have x45 : a.tmps[45]?.getD undef = .agg #[.string key, .slice A n c, .bool g] := by rw [← ev]; exact hG.val 4 4 45 _ rfl (hdep ⟨4, .data⟩ (by simp) rfl)
    have xg : a.tmps[44]?.getD undef = .bool true := by rw [← ev]; exact hG.val 3 3 44 _ rfl (hdep ⟨3, .chain⟩ (by simp) rfl)
    have hw := wanted_of (ops := opsCp10) (a := a) (o := { dst := some 46, op := Op.call { callee := Callee.value (Operand.func 40), args := #[Operand.tmp 45], argTypes := #[29] }, type := 4, pos := "kv.go:188", after := #[{ on := 4, ground := Ground.data }, { on := 3, ground := Ground.chain }, { on := 3, ground := Ground.guard }], guard := some (3, true) }) (g := 3) (s := 44) (b := true) (b' := true) rfl rfl xg
    replace hw := hw.trans (show (true == true) = true from rfl)
    rw [if_pos hw]
    clear hw xg
    have hSj := hG.1
    have hf0 : flagsOf cp10C L 0 = false := (flagsOf_at (C := cp10C) (j := 0) rfl L).trans hLi
    have hf1 : flagsOf cp10C L 1 = false := (flagsOf_at (C := cp10C) (j := 1) rfl L).trans (by
      cases hl : L 7 with
      | false => rfl
      | true => exact absurd (hcl 7 _ rfl (hl) ⟨5, .chain⟩ (by simp [opsCp10]) rfl) (by rw [hLi]; decide))
    have hf2 : flagsOf cp10C L 2 = false := (flagsOf_at (C := cp10C) (j := 2) rfl L).trans (by
      cases hl : L 8 with
      | false => rfl
      | true => exact absurd (hcl 7 _ rfl (hcl 8 _ rfl (hl) ⟨7, .chain⟩ (by simp [opsCp10]) rfl) ⟨5, .chain⟩ (by simp [opsCp10]) rfl) (by rw [hLi]; decide))
    have hf3 : flagsOf cp10C L 3 = false := (flagsOf_at (C := cp10C) (j := 3) rfl L).trans (by
      cases hl : L 9 with
      | false => rfl
      | true => exact absurd (hcl 9 _ rfl (hl) ⟨5, .phase⟩ (by simp [opsCp10]) rfl) (by rw [hLi]; decide))
    have hfin := fun v w' hs => hK v w' (hG.call 0 (5, 46) rfl (by kernel_rfl) v w' hs)
    have HK := Lib.hid hfin
    generalize (resOf cp10C fun t => a.eval (.tmp t)) = R at *
    generalize flagsOf cp10C L = f at *
    clear hG hcl hdep hfr hK hfin hLi
    have hc := Lib.hid (hc0 _ _ _ hSj hf0)
    clear hSj hbox hr hc0 hs0 hv h8 h9
    go_simp
    go_at_call 40
    refine hc.out.mono ?_
    rintro e w' ⟨v, rfl, hs⟩
    exact HK.out v w' hs
  | 6, ho =>
    simp only [opsCp10, List.getElem?_toArray, List.getElem?_cons_succ, List.getElem?_cons_zero, Option.some.injEq] at ho
    subst ho
    have x44 : a.tmps[44]?.getD undef = .bool true := by rw [← ev]; exact hG.val 3 3 44 _ rfl (hdep ⟨3, .data⟩ (by simp) rfl)
    rw [if_pos (show Region.wanted _ _ = true from rfl)]
    have hSp := hG.1
    have hf0 : flagsOf cp10C L 0 = true := (flagsOf_at (C := cp10C) (j := 0) rfl L).trans (hdep ⟨5, .data⟩ (by simp) rfl)
    have hf3 : flagsOf cp10C L 3 = false := (flagsOf_at (C := cp10C) (j := 3) rfl L).trans (by
      cases hl : L 9 with
      | false => rfl
      | true => exact absurd (hcl 9 _ rfl (hl) ⟨6, .data⟩ (by simp [opsCp10]) rfl) (by rw [hLi]; decide))
    have r46 : a.tmps[46]?.getD undef = resOf cp10C (fun t => a.eval (.tmp t)) 0 := by rw [← ev]; exact (resOf_at (C := cp10C) (j := 0) rfl a).symm
    have hfin := hK (.bool okb) w (hG.quiet 5 6 47 _ rfl (by kernel_rfl) (by kernel_rfl))
    have HK := Lib.hid hfin
    generalize (resOf cp10C fun t => a.eval (.tmp t)) = R at *
    generalize flagsOf cp10C L = f at *
    rw [hr _ _ _ hSp hf0] at r46
    clear hbox hr hc0 hs0 hv h8 h9
    clear hSp
    clear hG hcl hdep hfr hK hfin hLi 
    go_simp
    exact HK.out
  | 7, ho =>
    simp only [opsCp10, List.getElem?_toArray, List.getElem?_cons_succ, List.getElem?_cons_zero, Option.some.injEq] at ho
    subst ho
    have x41 : a.tmps[41]?.getD undef = .agg #[.string key, .slice A n c, .bool g] := by rw [← ev]; exact hG.val 0 0 41 _ rfl (hdep ⟨0, .data⟩ (by simp) rfl)
    rw [if_pos (show Region.wanted _ _ = true from rfl)]
    have hSj := hG.1
    have hf0 : flagsOf cp10C L 0 = true := (flagsOf_at (C := cp10C) (j := 0) rfl L).trans (hdep ⟨5, .chain⟩ (by simp) rfl)
    have hf1 : flagsOf cp10C L 1 = false := (flagsOf_at (C := cp10C) (j := 1) rfl L).trans hLi
    have hf2 : flagsOf cp10C L 2 = false := (flagsOf_at (C := cp10C) (j := 2) rfl L).trans (by
      cases hl : L 8 with
      | false => rfl
      | true => exact absurd (hcl 8 _ rfl (hl) ⟨7, .chain⟩ (by simp [opsCp10]) rfl) (by rw [hLi]; decide))
    have hf3 : flagsOf cp10C L 3 = false := (flagsOf_at (C := cp10C) (j := 3) rfl L).trans (by
      cases hl : L 9 with
      | false => rfl
      | true => exact absurd (hcl 9 _ rfl (hl) ⟨7, .phase⟩ (by simp [opsCp10]) rfl) (by rw [hLi]; decide))
    have hfin := fun w' hs => hK undef w' (hG.store 1 (7, 1000007) rfl (by kernel_rfl) undef w' hs)
    have HK := Lib.hid hfin
    generalize (resOf cp10C fun t => a.eval (.tmp t)) = R at *
    generalize flagsOf cp10C L = f at *
    clear hG hcl hdep hfr hK hfin hLi
    obtain ⟨⟨q1, q2, q3⟩, q4, q5, q6⟩ := hbox _ _ _ hSj
    have hs := hs0 _ _ _ hSj hf1
    have hk := HK.out _ hs
    have HK2 := Lib.hid hk
    clear hs hk HK hSj hbox hr hc0 hs0 hv h8 h9
    go_simp
    exact HK2.out
  | 8, ho =>
    simp only [opsCp10, List.getElem?_toArray, List.getElem?_cons_succ, List.getElem?_cons_zero, Option.some.injEq] at ho
    subst ho
    have x42 : a.tmps[42]?.getD undef = v2 := by rw [← ev]; exact hG.val 1 1 42 _ rfl (hdep ⟨1, .data⟩ (by simp) rfl)
    rw [if_pos (show Region.wanted _ _ = true from rfl)]
    have hSj := hG.1
    have hf0 : flagsOf cp10C L 0 = true := (flagsOf_at (C := cp10C) (j := 0) rfl L).trans (hcl 7 _ rfl (hdep ⟨7, .chain⟩ (by simp) rfl) ⟨5, .chain⟩ (by simp [opsCp10]) rfl)
    have hf1 : flagsOf cp10C L 1 = true := (flagsOf_at (C := cp10C) (j := 1) rfl L).trans (hdep ⟨7, .chain⟩ (by simp) rfl)
    have hf2 : flagsOf cp10C L 2 = false := (flagsOf_at (C := cp10C) (j := 2) rfl L).trans hLi
    have hf3 : flagsOf cp10C L 3 = false := (flagsOf_at (C := cp10C) (j := 3) rfl L).trans (by
      cases hl : L 9 with
      | false => rfl
      | true => exact absurd (hcl 9 _ rfl (hl) ⟨8, .chain⟩ (by simp [opsCp10]) rfl) (by rw [hLi]; decide))
    have hfin := fun v w' hs => hK v w' (hG.call 2 (8, 3) rfl (by kernel_rfl) v w' hs)
    have HK := Lib.hid hfin
    generalize (resOf cp10C fun t => a.eval (.tmp t)) = R at *
    generalize flagsOf cp10C L = f at *
    clear hG hcl hdep hfr hK hfin hLi
    have hs := h8 _ _ _ hSj hf2
    have hk := HK.out _ _ hs
    have HK2 := Lib.hid hk
    clear hs hk HK hSj hbox hr hc0 hs0 hv h8 h9
    go_simp
    exact HK2.out
  | 9, ho =>
    simp only [opsCp10, List.getElem?_toArray, List.getElem?_cons_succ, List.getElem?_cons_zero, Option.some.injEq] at ho
    subst ho
    have x47 : a.tmps[47]?.getD undef = .bool okb := by rw [← ev]; exact hG.val 5 6 47 _ rfl (hdep ⟨6, .data⟩ (by simp) rfl)
    rw [if_pos (show Region.wanted _ _ = true from rfl)]
    have hSj := hG.1
    have hf0 : flagsOf cp10C L 0 = true := (flagsOf_at (C := cp10C) (j := 0) rfl L).trans (hdep ⟨5, .phase⟩ (by simp) rfl)
    have hf1 : flagsOf cp10C L 1 = true := (flagsOf_at (C := cp10C) (j := 1) rfl L).trans (hdep ⟨7, .phase⟩ (by simp) rfl)
    have hf2 : flagsOf cp10C L 2 = true := (flagsOf_at (C := cp10C) (j := 2) rfl L).trans (hdep ⟨8, .chain⟩ (by simp) rfl)
    have hf3 : flagsOf cp10C L 3 = false := (flagsOf_at (C := cp10C) (j := 3) rfl L).trans hLi
    have hfin := fun v w' hs => hK v w' (hG.call 3 (9, 4) rfl (by kernel_rfl) v w' hs)
    have HK := Lib.hid hfin
    generalize (resOf cp10C fun t => a.eval (.tmp t)) = R at *
    generalize flagsOf cp10C L = f at *
    clear hG hcl hdep hfr hK hfin hLi
    have hs := h9 _ _ _ hSj hf3
    have hk := HK.out _ _ hs
    have HK2 := Lib.hid hk
    clear hs hk HK hSj hbox hr hc0 hs0 hv h8 h9
    go_simp
    exact HK2.out
  | n + 10, ho => exact absurd (Array.getElem?_eq_some_iff.1 ho).1 (by show ¬ n + 10 < 10; omega)
end Go.Proofs.Ytpmgnmknjmnecaa

namespace Go.Proofs.Ytpmgnmknjmnecaa
open Go.RowKit
set_option linter.unusedVariables false
set_option linter.unusedSimpArgs false

def opsCf10 : Array Oper := #[
  { dst := some 41, op := Op.load 29 (Operand.tmp 2), type := 29, pos := "kv.go:188", after := #[], guard := none },
  { dst := some 42, op := Op.move (Operand.tmp 3), type := 27, pos := "kv.go:188", after := #[{ on := 7, ground := Ground.gcOnly Departure.lateStores }], guard := none },
  { dst := some 43, op := Op.move (Operand.tmp 4), type := 4, pos := "kv.go:188", after := #[], guard := none },
  { dst := some 44, op := Op.move (Operand.tmp 43), type := 4, pos := "kv.go:188", after := #[{ on := 2, ground := Ground.data }], guard := none },
  { dst := some 45, op := Op.load 29 (Operand.tmp 2), type := 29, pos := "kv.go:188", after := #[{ on := 3, ground := Ground.guard }], guard := some (3, true) },
  { dst := some 46, op := Op.call { callee := Callee.value (Operand.func 40), args := #[Operand.tmp 45], argTypes := #[29] }, type := 4, pos := "kv.go:188", after := #[{ on := 4, ground := Ground.data }, { on := 3, ground := Ground.chain }, { on := 3, ground := Ground.guard }], guard := some (3, true) },
  { dst := some 47, op := Op.pick (Operand.tmp 44) (Operand.tmp 46) (Operand.const (Value.bool false)), type := 4, pos := "kv.go:188", after := #[{ on := 3, ground := Ground.data }, { on := 5, ground := Ground.data }, { on := 8, ground := Ground.gcOnly Departure.lateStores }], guard := none },
  { dst := none, op := Op.store 29 (Operand.tmp 2) (Operand.tmp 41), type := 0, pos := "kv.go:188", after := #[{ on := 0, ground := Ground.data }, { on := 5, ground := Ground.chain }, { on := 0, ground := Ground.phase }, { on := 1, ground := Ground.textOnly Departure.lateStores }, { on := 2, ground := Ground.textOnly Departure.lateStores }, { on := 3, ground := Ground.textOnly Departure.lateStores }, { on := 4, ground := Ground.phase }, { on := 5, ground := Ground.textOnly Departure.lateStoresUnsure }, { on := 6, ground := Ground.textOnly Departure.lateStores }], guard := none },
  { dst := some 3, op := Op.assign (Operand.tmp 42), type := 27, pos := "kv.go:188", after := #[{ on := 1, ground := Ground.data }, { on := 7, ground := Ground.chain }, { on := 0, ground := Ground.phase }, { on := 1, ground := Ground.phase }, { on := 2, ground := Ground.textOnly Departure.lateStores }, { on := 3, ground := Ground.textOnly Departure.lateStores }, { on := 4, ground := Ground.phase }, { on := 5, ground := Ground.textOnly Departure.lateStoresUnsure }, { on := 6, ground := Ground.textOnly Departure.lateStores }, { on := 7, ground := Ground.phase }], guard := none },
  { dst := some 4, op := Op.assign (Operand.tmp 47), type := 4, pos := "kv.go:188", after := #[{ on := 6, ground := Ground.data }, { on := 8, ground := Ground.chain }, { on := 0, ground := Ground.phase }, { on := 1, ground := Ground.phase }, { on := 2, ground := Ground.phase }, { on := 3, ground := Ground.phase }, { on := 4, ground := Ground.phase }, { on := 5, ground := Ground.phase }, { on := 6, ground := Ground.phase }, { on := 7, ground := Ground.phase }, { on := 8, ground := Ground.phase }], guard := none }]

def cf10Vals (pb n c : Nat) (A : Option Addr) (key : ByteArray) (g : Bool) (v2 : Value) : List (Nat × Nat × Value) := [(0, 41, .agg #[.string key, .slice A n c, .bool g]), (1, 42, v2), (2, 43, .bool false), (3, 44, .bool false), (4, 45, undef), (5, 46, undef), (6, 47, .bool false)]
def cf10C : List (Nat × Nat) := [(7, 1000007), (8, 3), (9, 4)]

set_option maxHeartbeats 4000000 in
set_option maxRecDepth 100000 in
theorem cf10 {Q : Exit → Act → World → Prop} {a0 : Act} {wp : World} (pb n c : Nat) (A : Option Addr) (key : ByteArray) (g : Bool) (v2 : Value) (S : (Nat → Bool) → (Nat → Value) → World → Prop)
    (hsz : 47 < a0.tmps.size) (in2 : a0.eval (.tmp 2) = .pointer (some ⟨pb, 0, none⟩))
    (hbox : ∀ f R w, S f R w → (w.cell? ⟨pb, 0, none⟩ = some (.string key) ∧ w.cell? ⟨pb, 1, none⟩ = some (.slice A n c) ∧ w.cell? ⟨pb, 2, none⟩ = some (.bool g)) ∧ (w.frozen? ⟨pb, 0, none⟩ = false ∧ w.frozen? ⟨pb, 1, none⟩ = false ∧ w.frozen? ⟨pb, 2, none⟩ = false))
    (hs0 : ∀ f R w, S f R w → f 0 = false → S (setF f 0) R (((w.setCell ⟨pb, 0, none⟩ (.string key)).setCell ⟨pb, 1, none⟩ (.slice A n c)).setCell ⟨pb, 2, none⟩ (.bool g)))
    (hv : ∀ f R w, S f R w → (f 1 = false → R 1 = v2) ∧ (f 2 = false → R 2 = .bool false))
    (h8 : ∀ f R w, S f R w → f 1 = false → S (setF f 1) (setR R 1 v2) w) (h9 : ∀ f R w, S f R w → f 2 = false → S (setF f 2) (setR R 2 (.bool false)) w)
    (hS : S (fun _ => false) (resOf cf10C fun t => a0.eval (.tmp t)) wp.drew)
    (fin : ∀ a w f, Fr [41, 42, 43, 44, 45, 46, 47, 3, 4] a0 a → (∀ j, j < 3 → f j = true) → S f (resOf cf10C fun t => a.eval (.tmp t)) w → Q .normal a w) :
    (Code.region 10 opsCf10 true).wp Try.prog Q a0 wp := by
  refine region_inv (by kernel_rfl) [41, 42, 43, 44, 45, 46, 47, 3, 4] (by kernel_rfl) (by kernel_rfl) (fun t ht => by simp at ht; omega) (GF (cf10Vals pb n c A key g v2) cf10C S) (.start hS) ?_
    (fun L a w hf hall hG => fin a w (flagsOf cf10C L) hf  (fun j hj => by
      match j, hj with
      | 0, _ => exact (flagsOf_at (C := cf10C) (j := 0) rfl L).trans (hall 7 (by decide))
      | 1, _ => exact (flagsOf_at (C := cf10C) (j := 1) rfl L).trans (hall 8 (by decide))
      | 2, _ => exact (flagsOf_at (C := cf10C) (j := 2) rfl L).trans (hall 9 (by decide))
      | n + 3, h => exact absurd h (by omega)) hG.1)
  clear hS fin
  intro ix oo ho L a w hfr hG hLi hdep hcl K hK
  have e2 : a.tmps[2]?.getD undef = .pointer (some ⟨pb, 0, none⟩) := by rw [← ev]; exact (hfr.same 2 (by decide)).trans in2
  clear in2
  match ix, ho with
  | 0, ho =>
    simp only [opsCf10, List.getElem?_toArray, List.getElem?_cons_zero, Option.some.injEq] at ho
    subst ho
    rw [if_pos (show Region.wanted _ _ = true from rfl)]
    have hSp := hG.1
    have hf0 : flagsOf cf10C L 0 = false := (flagsOf_at (C := cf10C) (j := 0) rfl L).trans (by
      cases hl : L 7 with
      | false => rfl
      | true => exact absurd (hcl 7 _ rfl (hl) ⟨0, .data⟩ (by simp [opsCf10]) rfl) (by rw [hLi]; decide))
    have hf1 : flagsOf cf10C L 1 = false := (flagsOf_at (C := cf10C) (j := 1) rfl L).trans (by
      cases hl : L 8 with
      | false => rfl
      | true => exact absurd (hcl 8 _ rfl (hl) ⟨0, .phase⟩ (by simp [opsCf10]) rfl) (by rw [hLi]; decide))
    have hf2 : flagsOf cf10C L 2 = false := (flagsOf_at (C := cf10C) (j := 2) rfl L).trans (by
      cases hl : L 9 with
      | false => rfl
      | true => exact absurd (hcl 9 _ rfl (hl) ⟨0, .phase⟩ (by simp [opsCf10]) rfl) (by rw [hLi]; decide))
    have hfin := hK (.agg #[.string key, .slice A n c, .bool g]) w (hG.quiet 0 0 41 _ rfl (by kernel_rfl) (by kernel_rfl))
    have HK := Lib.hid hfin
    generalize (resOf cf10C fun t => a.eval (.tmp t)) = R at *
    generalize flagsOf cf10C L = f at *
    obtain ⟨⟨q1, q2, q3⟩, _⟩ := hbox _ _ _ hSp
    clear hbox hs0 hv h8 h9
    clear hSp
    clear hG hcl hdep hfr hK hfin hLi 
    go_simp
    exact HK.out
  | 1, ho =>
    simp only [opsCf10, List.getElem?_toArray, List.getElem?_cons_succ, List.getElem?_cons_zero, Option.some.injEq] at ho
    subst ho
    rw [if_pos (show Region.wanted _ _ = true from rfl)]
    have hSp := hG.1
    have hf1 : flagsOf cf10C L 1 = false := (flagsOf_at (C := cf10C) (j := 1) rfl L).trans (by
      cases hl : L 8 with
      | false => rfl
      | true => exact absurd (hcl 8 _ rfl (hl) ⟨1, .data⟩ (by simp [opsCf10]) rfl) (by rw [hLi]; decide))
    have hf2 : flagsOf cf10C L 2 = false := (flagsOf_at (C := cf10C) (j := 2) rfl L).trans (by
      cases hl : L 9 with
      | false => rfl
      | true => exact absurd (hcl 9 _ rfl (hl) ⟨1, .phase⟩ (by simp [opsCf10]) rfl) (by rw [hLi]; decide))
    have r3 : a.tmps[3]?.getD undef = resOf cf10C (fun t => a.eval (.tmp t)) 1 := by rw [← ev]; exact (resOf_at (C := cf10C) (j := 1) rfl a).symm
    have hfin := hK (v2) w (hG.quiet 1 1 42 _ rfl (by kernel_rfl) (by kernel_rfl))
    have HK := Lib.hid hfin
    generalize (resOf cf10C fun t => a.eval (.tmp t)) = R at *
    generalize flagsOf cf10C L = f at *
    rw [(hv _ _ _ hSp).1 hf1] at r3
    clear hbox hs0 hv h8 h9
    clear hSp
    clear hG hcl hdep hfr hK hfin hLi 
    go_simp
    exact HK.out
  | 2, ho =>
    simp only [opsCf10, List.getElem?_toArray, List.getElem?_cons_succ, List.getElem?_cons_zero, Option.some.injEq] at ho
    subst ho
    rw [if_pos (show Region.wanted _ _ = true from rfl)]
    have hSp := hG.1
    have hf0 : flagsOf cf10C L 0 = false := (flagsOf_at (C := cf10C) (j := 0) rfl L).trans (by
      cases hl : L 7 with
      | false => rfl
      | true => exact absurd (hcl 3 _ rfl (hcl 5 _ rfl (hcl 7 _ rfl (hl) ⟨5, .chain⟩ (by simp [opsCf10]) rfl) ⟨3, .chain⟩ (by simp [opsCf10]) rfl) ⟨2, .data⟩ (by simp [opsCf10]) rfl) (by rw [hLi]; decide))
    have hf1 : flagsOf cf10C L 1 = false := (flagsOf_at (C := cf10C) (j := 1) rfl L).trans (by
      cases hl : L 8 with
      | false => rfl
      | true => exact absurd (hcl 3 _ rfl (hcl 4 _ rfl (hcl 8 _ rfl (hl) ⟨4, .phase⟩ (by simp [opsCf10]) rfl) ⟨3, .guard⟩ (by simp [opsCf10]) rfl) ⟨2, .data⟩ (by simp [opsCf10]) rfl) (by rw [hLi]; decide))
    have hf2 : flagsOf cf10C L 2 = false := (flagsOf_at (C := cf10C) (j := 2) rfl L).trans (by
      cases hl : L 9 with
      | false => rfl
      | true => exact absurd (hcl 9 _ rfl (hl) ⟨2, .phase⟩ (by simp [opsCf10]) rfl) (by rw [hLi]; decide))
    have r4 : a.tmps[4]?.getD undef = resOf cf10C (fun t => a.eval (.tmp t)) 2 := by rw [← ev]; exact (resOf_at (C := cf10C) (j := 2) rfl a).symm
    have hfin := hK (.bool false) w (hG.quiet 2 2 43 _ rfl (by kernel_rfl) (by kernel_rfl))
    have HK := Lib.hid hfin
    generalize (resOf cf10C fun t => a.eval (.tmp t)) = R at *
    generalize flagsOf cf10C L = f at *
    rw [(hv _ _ _ hSp).2 hf2] at r4
    clear hbox hs0 hv h8 h9
    clear hSp
    clear hG hcl hdep hfr hK hfin hLi 
    go_simp
    exact HK.out
  | 3, ho =>
    simp only [opsCf10, List.getElem?_toArray, List.getElem?_cons_succ, List.getElem?_cons_zero, Option.some.injEq] at ho
    subst ho
    have x43 : a.tmps[43]?.getD undef = .bool false := by rw [← ev]; exact hG.val 2 2 43 _ rfl (hdep ⟨2, .data⟩ (by simp) rfl)
    rw [if_pos (show Region.wanted _ _ = true from rfl)]
    have hfin := hK (.bool false) w (hG.quiet 3 3 44 _ rfl (by kernel_rfl) (by kernel_rfl))
    have HK := Lib.hid hfin
    clear hG hcl hdep hfr hK hfin hLi 
    go_simp
    exact HK.out
  | 4, ho =>
    simp only [opsCf10, List.getElem?_toArray, List.getElem?_cons_succ, List.getElem?_cons_zero, Option.some.injEq] at ho
    subst ho
    have xg : a.tmps[44]?.getD undef = .bool false := by rw [← ev]; exact hG.val 3 3 44 _ rfl (hdep ⟨3, .guard⟩ (by simp) rfl)
    have hw := wanted_of (ops := opsCf10) (a := a) (o := { dst := some 45, op := Op.load 29 (Operand.tmp 2), type := 29, pos := "kv.go:188", after := #[{ on := 3, ground := Ground.guard }], guard := some (3, true) }) (g := 3) (s := 44) (b := true) (b' := false) rfl rfl xg
    rw [if_neg (fun h => by rw [hw] at h; exact absurd h (by decide))]
    clear hw xg
    have hfin := hK (undef) w (hG.quiet 4 4 45 _ rfl (by kernel_rfl) (by kernel_rfl))
    have HK := Lib.hid hfin
    clear hG hcl hdep hfr hK hfin hLi 
    exact HK.out
  | 5, ho =>
    simp only [opsCf10, List.getElem?_toArray, List.getElem?_cons_succ, List.getElem?_cons_zero, Option.some.injEq] at ho
    subst ho
    have x45 : a.tmps[45]?.getD undef = undef := by rw [← ev]; exact hG.val 4 4 45 _ rfl (hdep ⟨4, .data⟩ (by simp) rfl)
    have xg : a.tmps[44]?.getD undef = .bool false := by rw [← ev]; exact hG.val 3 3 44 _ rfl (hdep ⟨3, .chain⟩ (by simp) rfl)
    have hw := wanted_of (ops := opsCf10) (a := a) (o := { dst := some 46, op := Op.call { callee := Callee.value (Operand.func 40), args := #[Operand.tmp 45], argTypes := #[29] }, type := 4, pos := "kv.go:188", after := #[{ on := 4, ground := Ground.data }, { on := 3, ground := Ground.chain }, { on := 3, ground := Ground.guard }], guard := some (3, true) }) (g := 3) (s := 44) (b := true) (b' := false) rfl rfl xg
    rw [if_neg (fun h => by rw [hw] at h; exact absurd h (by decide))]
    clear hw xg
    have hfin := hK (undef) w (hG.quiet 5 5 46 _ rfl (by kernel_rfl) (by kernel_rfl))
    have HK := Lib.hid hfin
    clear hG hcl hdep hfr hK hfin hLi 
    exact HK.out
  | 6, ho =>
    simp only [opsCf10, List.getElem?_toArray, List.getElem?_cons_succ, List.getElem?_cons_zero, Option.some.injEq] at ho
    subst ho
    have x44 : a.tmps[44]?.getD undef = .bool false := by rw [← ev]; exact hG.val 3 3 44 _ rfl (hdep ⟨3, .data⟩ (by simp) rfl)
    have x46 : a.tmps[46]?.getD undef = undef := by rw [← ev]; exact hG.val 5 5 46 _ rfl (hdep ⟨5, .data⟩ (by simp) rfl)
    rw [if_pos (show Region.wanted _ _ = true from rfl)]
    have hfin := hK (.bool false) w (hG.quiet 6 6 47 _ rfl (by kernel_rfl) (by kernel_rfl))
    have HK := Lib.hid hfin
    clear hG hcl hdep hfr hK hfin hLi 
    go_simp
    exact HK.out
  | 7, ho =>
    simp only [opsCf10, List.getElem?_toArray, List.getElem?_cons_succ, List.getElem?_cons_zero, Option.some.injEq] at ho
    subst ho
    have x41 : a.tmps[41]?.getD undef = .agg #[.string key, .slice A n c, .bool g] := by rw [← ev]; exact hG.val 0 0 41 _ rfl (hdep ⟨0, .data⟩ (by simp) rfl)
    rw [if_pos (show Region.wanted _ _ = true from rfl)]
    have hSj := hG.1
    have hf0 : flagsOf cf10C L 0 = false := (flagsOf_at (C := cf10C) (j := 0) rfl L).trans hLi
    have hf1 : flagsOf cf10C L 1 = false := (flagsOf_at (C := cf10C) (j := 1) rfl L).trans (by
      cases hl : L 8 with
      | false => rfl
      | true => exact absurd (hcl 8 _ rfl (hl) ⟨7, .chain⟩ (by simp [opsCf10]) rfl) (by rw [hLi]; decide))
    have hf2 : flagsOf cf10C L 2 = false := (flagsOf_at (C := cf10C) (j := 2) rfl L).trans (by
      cases hl : L 9 with
      | false => rfl
      | true => exact absurd (hcl 9 _ rfl (hl) ⟨7, .phase⟩ (by simp [opsCf10]) rfl) (by rw [hLi]; decide))
    have hfin := fun w' hs => hK undef w' (hG.store 0 (7, 1000007) rfl (by kernel_rfl) undef w' hs)
    have HK := Lib.hid hfin
    generalize (resOf cf10C fun t => a.eval (.tmp t)) = R at *
    generalize flagsOf cf10C L = f at *
    clear hG hcl hdep hfr hK hfin hLi
    obtain ⟨⟨q1, q2, q3⟩, q4, q5, q6⟩ := hbox _ _ _ hSj
    have hs := hs0 _ _ _ hSj hf0
    have hk := HK.out _ hs
    have HK2 := Lib.hid hk
    clear hs hk HK hSj hbox hs0 hv h8 h9
    go_simp
    exact HK2.out
  | 8, ho =>
    simp only [opsCf10, List.getElem?_toArray, List.getElem?_cons_succ, List.getElem?_cons_zero, Option.some.injEq] at ho
    subst ho
    have x42 : a.tmps[42]?.getD undef = v2 := by rw [← ev]; exact hG.val 1 1 42 _ rfl (hdep ⟨1, .data⟩ (by simp) rfl)
    rw [if_pos (show Region.wanted _ _ = true from rfl)]
    have hSj := hG.1
    have hf0 : flagsOf cf10C L 0 = true := (flagsOf_at (C := cf10C) (j := 0) rfl L).trans (hdep ⟨7, .chain⟩ (by simp) rfl)
    have hf1 : flagsOf cf10C L 1 = false := (flagsOf_at (C := cf10C) (j := 1) rfl L).trans hLi
    have hf2 : flagsOf cf10C L 2 = false := (flagsOf_at (C := cf10C) (j := 2) rfl L).trans (by
      cases hl : L 9 with
      | false => rfl
      | true => exact absurd (hcl 9 _ rfl (hl) ⟨8, .chain⟩ (by simp [opsCf10]) rfl) (by rw [hLi]; decide))
    have hfin := fun v w' hs => hK v w' (hG.call 1 (8, 3) rfl (by kernel_rfl) v w' hs)
    have HK := Lib.hid hfin
    generalize (resOf cf10C fun t => a.eval (.tmp t)) = R at *
    generalize flagsOf cf10C L = f at *
    clear hG hcl hdep hfr hK hfin hLi
    have hs := h8 _ _ _ hSj hf1
    have hk := HK.out _ _ hs
    have HK2 := Lib.hid hk
    clear hs hk HK hSj hbox hs0 hv h8 h9
    go_simp
    exact HK2.out
  | 9, ho =>
    simp only [opsCf10, List.getElem?_toArray, List.getElem?_cons_succ, List.getElem?_cons_zero, Option.some.injEq] at ho
    subst ho
    have x47 : a.tmps[47]?.getD undef = .bool false := by rw [← ev]; exact hG.val 6 6 47 _ rfl (hdep ⟨6, .data⟩ (by simp) rfl)
    rw [if_pos (show Region.wanted _ _ = true from rfl)]
    have hSj := hG.1
    have hf0 : flagsOf cf10C L 0 = true := (flagsOf_at (C := cf10C) (j := 0) rfl L).trans (hdep ⟨7, .phase⟩ (by simp) rfl)
    have hf1 : flagsOf cf10C L 1 = true := (flagsOf_at (C := cf10C) (j := 1) rfl L).trans (hdep ⟨8, .chain⟩ (by simp) rfl)
    have hf2 : flagsOf cf10C L 2 = false := (flagsOf_at (C := cf10C) (j := 2) rfl L).trans hLi
    have hfin := fun v w' hs => hK v w' (hG.call 2 (9, 4) rfl (by kernel_rfl) v w' hs)
    have HK := Lib.hid hfin
    generalize (resOf cf10C fun t => a.eval (.tmp t)) = R at *
    generalize flagsOf cf10C L = f at *
    clear hG hcl hdep hfr hK hfin hLi
    have hs := h9 _ _ _ hSj hf2
    have hk := HK.out _ _ hs
    have HK2 := Lib.hid hk
    clear hs hk HK hSj hbox hs0 hv h8 h9
    go_simp
    exact HK2.out
  | n + 10, ho => exact absurd (Array.getElem?_eq_some_iff.1 ho).1 (by show ¬ n + 10 < 10; omega)
end Go.Proofs.Ytpmgnmknjmnecaa
