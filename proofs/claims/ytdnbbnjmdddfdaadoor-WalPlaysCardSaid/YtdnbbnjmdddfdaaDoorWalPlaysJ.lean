/- WalPl23, WalActs, WalPlaysI: these texts in one. -/
import Derived.Test.YtdnbbnjmdddfdaaDoorFlags
import Derived.Test.YtdnbbnjmdddfdaaDoorAppend
import Derived.Test.YtdnbbnjmdddfdaaDoorAppRow
import Derived.WalkKit
import Derived.WalkSpells
import Derived.WalkLawsBesides
import Derived.Lib.Hide
import Derived.Test.YtdnbbnjmdddfdaaDoorDevCrash
import Derived.Deep.Slices
import Derived.Deep.Fields
import Derived.ChangeSame
import Derived.Test.YtdnbbnjmdddfdaaDoorArgs
import Derived.Test.YtdnbbnjmdddfdaaDoorIntArgs
import Derived.Test.YtdnbbnjmdddfdaaDoorWalKnownW
set_option maxRecDepth 100000
namespace Go.Proofs.YtdnbbnjmdddfdaaDoor
open Go.RowKit
set_option linter.unusedVariables false
set_option maxRecDepth 100000
set_option linter.unusedSimpArgs false

def opsWpl23 : Array Oper := #[
  { dst := some 84, op := Op.move (Operand.tmp 9), type := 9, pos := "law.go:102", after := #[], guard := none },
  { dst := some 85, op := Op.buildSlice 58 0 #[], type := 58, pos := "law.go:102", after := #[], guard := none },
  { dst := some 86, op := Op.move (Operand.tmp 10), type := 58, pos := "law.go:102", after := #[], guard := none },
  { dst := some 87, op := Op.call { callee := Callee.builtin Builtin.append, args := #[Operand.tmp 85, Operand.tmp 86], argTypes := #[58, 58] }, type := 58, pos := "law.go:102", after := #[{ on := 1, ground := Ground.data }, { on := 2, ground := Ground.data }], guard := none },
  { dst := some 88, op := Op.fieldAddr 62 (Operand.tmp 15) 3, type := 0, pos := "law.go:102", after := #[], guard := none },
  { dst := some 89, op := Op.load 23 (Operand.tmp 88), type := 23, pos := "law.go:102", after := #[{ on := 4, ground := Ground.data }], guard := none },
  { dst := some 90, op := Op.convert 23 9 (Operand.tmp 89), type := 9, pos := "law.go:102", after := #[{ on := 5, ground := Ground.data }], guard := none },
  { dst := some 91, op := Op.buildSlice 58 1 #[(0, Operand.tmp 90)], type := 58, pos := "law.go:102", after := #[{ on := 6, ground := Ground.data }], guard := none },
  { dst := some 92, op := Op.call { callee := Callee.builtin Builtin.append, args := #[Operand.tmp 87, Operand.tmp 91], argTypes := #[58, 58] }, type := 58, pos := "law.go:102", after := #[{ on := 3, ground := Ground.data }, { on := 7, ground := Ground.data }, { on := 3, ground := Ground.chain }], guard := none },
  { dst := some 16, op := Op.assign (Operand.tmp 84), type := 9, pos := "law.go:102", after := #[{ on := 0, ground := Ground.data }, { on := 8, ground := Ground.chain }, { on := 0, ground := Ground.phase }, { on := 1, ground := Ground.textOnly Departure.lateStores }, { on := 2, ground := Ground.textOnly Departure.lateStores }, { on := 3, ground := Ground.textOnly Departure.lateStoresUnsure }, { on := 4, ground := Ground.textOnly Departure.lateStores }, { on := 5, ground := Ground.textOnly Departure.lateStores }, { on := 6, ground := Ground.textOnly Departure.lateStores }, { on := 7, ground := Ground.textOnly Departure.lateStores }, { on := 8, ground := Ground.textOnly Departure.lateStoresUnsure }], guard := none },
  { dst := some 17, op := Op.assign (Operand.tmp 92), type := 58, pos := "law.go:102", after := #[{ on := 8, ground := Ground.data }, { on := 9, ground := Ground.chain }, { on := 0, ground := Ground.phase }, { on := 1, ground := Ground.phase }, { on := 2, ground := Ground.phase }, { on := 3, ground := Ground.phase }, { on := 4, ground := Ground.phase }, { on := 5, ground := Ground.phase }, { on := 6, ground := Ground.phase }, { on := 7, ground := Ground.phase }, { on := 8, ground := Ground.phase }, { on := 9, ground := Ground.phase }], guard := none }]

def wpl23Vals (xb nr cr nb cb : Nat) (Ar Ab : Option Addr) (vb sb : ByteArray) : List (Nat × Nat × Value) := [(0, 84, .string vb), (2, 86, .slice Ar nr cr), (4, 88, .pointer (some ⟨xb, 3, none⟩)), (5, 89, .slice Ab nb cb), (6, 90, .string sb), (9, 16, .string vb)]
def wpl23C : List (Nat × Nat) := [(1, 85), (3, 87), (7, 91), (8, 92), (10, 17)]

set_option maxHeartbeats 4000000 in
set_option maxRecDepth 100000 in
theorem wpl23 {Q : Exit → Act → World → Prop} {a0 : Act} {wp : World} (xb nr cr nb cb : Nat) (Ar Ab : Option Addr) (vb sb : ByteArray) (S : (Nat → Bool) → (Nat → Value) → World → Prop)
    (hsz : 92 < a0.tmps.size) (in9 : a0.eval (.tmp 9) = .string vb) (in10 : a0.eval (.tmp 10) = .slice Ar nr cr) (in15 : a0.eval (.tmp 15) = .pointer (some ⟨xb, 0, none⟩))
    (hload : ∀ f R w, S f R w → w.cell? ⟨xb, 3, none⟩ = some (.slice Ab nb cb)) (hconv : ∀ f R w, S f R w → (convert 23 9 (.slice Ab nb cb)).run Tryd.prog w = .ok (.string sb) w)
    (h0 : ∀ f R w, S f R w → f 0 = false → f 1 = false → f 3 = false → S (setF f 0) (setR R 0 (.slice (some ⟨w.heap.size, 0, none⟩) 0 0)) (w.alloc (.cells #[] 9)))
    (h1 : ∀ f R w, S f R w → f 0 = true → f 1 = false → f 3 = false → ∃ v' w', (Builtin.append_ #[58, 58] 58 #[R 0, .slice Ar nr cr]).run Tryd.prog w = .ok v' w' ∧ S (setF f 1) (setR R 1 v') w')
    (h2 : ∀ f R w, S f R w → f 2 = false → f 3 = false → S (setF f 2) (setR R 2 (.slice (some ⟨w.heap.size, 0, none⟩) 1 1)) (w.alloc (.cells #[.string sb] 9)))
    (h3 : ∀ f R w, S f R w → f 1 = true → f 2 = true → f 3 = false → ∃ v' w', (Builtin.append_ #[58, 58] 58 #[R 1, R 2]).run Tryd.prog w = .ok v' w' ∧ S (setF f 3) (setR R 3 v') w')
    (h4 : ∀ f R w, S f R w → f 3 = true → f 4 = false → S (setF f 4) (setR R 4 (R 3)) w)
    (hS : S (fun _ => false) (resOf wpl23C fun t => a0.eval (.tmp t)) wp.drew)
    (fin : ∀ a w f, Fr [84, 85, 86, 87, 88, 89, 90, 91, 92, 16, 17] a0 a → a.eval (.tmp 16) = .string vb → (∀ j, j < 5 → f j = true) → S f (resOf wpl23C fun t => a.eval (.tmp t)) w → Q .normal a w) :
    (Code.region 23 opsWpl23 true).wp Tryd.prog Q a0 wp := by
  refine region_inv (by kernel_rfl) [84, 85, 86, 87, 88, 89, 90, 91, 92, 16, 17] (by kernel_rfl) (by kernel_rfl) (fun t ht => by simp at ht; omega) (GF (wpl23Vals xb nr cr nb cb Ar Ab vb sb) wpl23C S) (.start hS) ?_
    (fun L a w hf hall hG => fin a w (flagsOf wpl23C L) hf (hG.val 5 9 16 _ rfl (hall 9 (by decide))) (fun j hj => by
      match j, hj with
      | 0, _ => exact (flagsOf_at (C := wpl23C) (j := 0) rfl L).trans (hall 1 (by decide))
      | 1, _ => exact (flagsOf_at (C := wpl23C) (j := 1) rfl L).trans (hall 3 (by decide))
      | 2, _ => exact (flagsOf_at (C := wpl23C) (j := 2) rfl L).trans (hall 7 (by decide))
      | 3, _ => exact (flagsOf_at (C := wpl23C) (j := 3) rfl L).trans (hall 8 (by decide))
      | 4, _ => exact (flagsOf_at (C := wpl23C) (j := 4) rfl L).trans (hall 10 (by decide))
      | n + 5, h => exact absurd h (by omega)) hG.1)
  clear hS fin
  intro ix oo ho L a w hfr hG hLi hdep hcl K hK
  have e9 : a.tmps[9]?.getD undef = .string vb := by rw [← ev]; exact (hfr.same 9 (by decide)).trans in9
  have e10 : a.tmps[10]?.getD undef = .slice Ar nr cr := by rw [← ev]; exact (hfr.same 10 (by decide)).trans in10
  have e15 : a.tmps[15]?.getD undef = .pointer (some ⟨xb, 0, none⟩) := by rw [← ev]; exact (hfr.same 15 (by decide)).trans in15
  clear in9 in10 in15
  match ix, ho with
  | 0, ho =>
    simp only [opsWpl23, List.getElem?_toArray, List.getElem?_cons_zero, Option.some.injEq] at ho
    subst ho
    rw [if_pos (show Region.wanted _ _ = true from rfl)]
    have hfin := hK (.string vb) w (hG.quiet 0 0 84 _ rfl (by kernel_rfl) (by kernel_rfl))
    have HK := Lib.hid hfin
    clear hG hcl hdep hfr hK hfin hLi 
    go_simp
    exact HK.out
  | 1, ho =>
    simp only [opsWpl23, List.getElem?_toArray, List.getElem?_cons_succ, List.getElem?_cons_zero, Option.some.injEq] at ho
    subst ho
    rw [if_pos (show Region.wanted _ _ = true from rfl)]
    have hSj := hG.1
    have hf0 : flagsOf wpl23C L 0 = false := (flagsOf_at (C := wpl23C) (j := 0) rfl L).trans hLi
    have hf1 : flagsOf wpl23C L 1 = false := (flagsOf_at (C := wpl23C) (j := 1) rfl L).trans (by
      cases hl : L 3 with
      | false => rfl
      | true => exact absurd (hcl 3 _ rfl (hl) ⟨1, .data⟩ (by simp [opsWpl23]) rfl) (by rw [hLi]; decide))
    have hf3 : flagsOf wpl23C L 3 = false := (flagsOf_at (C := wpl23C) (j := 3) rfl L).trans (by
      cases hl : L 8 with
      | false => rfl
      | true => exact absurd (hcl 3 _ rfl (hcl 8 _ rfl (hl) ⟨3, .data⟩ (by simp [opsWpl23]) rfl) ⟨1, .data⟩ (by simp [opsWpl23]) rfl) (by rw [hLi]; decide))
    have hf4 : flagsOf wpl23C L 4 = false := (flagsOf_at (C := wpl23C) (j := 4) rfl L).trans (by
      cases hl : L 10 with
      | false => rfl
      | true => exact absurd (hcl 10 _ rfl (hl) ⟨1, .phase⟩ (by simp [opsWpl23]) rfl) (by rw [hLi]; decide))
    have hfin := fun v w' hs => hK v w' (hG.call 0 (1, 85) rfl (by kernel_rfl) v w' hs)
    have HK := Lib.hid hfin
    generalize (resOf wpl23C fun t => a.eval (.tmp t)) = R at *
    generalize flagsOf wpl23C L = f at *
    clear hG hcl hdep hfr hK hfin hLi
    have hs := h0 _ _ _ hSj hf0 hf1 hf3
    have hk := HK.out _ _ hs
    have HK2 := Lib.hid hk
    clear hs hk HK hSj hload hconv h0 h1 h2 h3 h4
    go_simp
    exact HK2.out
  | 2, ho =>
    simp only [opsWpl23, List.getElem?_toArray, List.getElem?_cons_succ, List.getElem?_cons_zero, Option.some.injEq] at ho
    subst ho
    rw [if_pos (show Region.wanted _ _ = true from rfl)]
    have hfin := hK (.slice Ar nr cr) w (hG.quiet 1 2 86 _ rfl (by kernel_rfl) (by kernel_rfl))
    have HK := Lib.hid hfin
    clear hG hcl hdep hfr hK hfin hLi 
    go_simp
    exact HK.out
  | 3, ho =>
    simp only [opsWpl23, List.getElem?_toArray, List.getElem?_cons_succ, List.getElem?_cons_zero, Option.some.injEq] at ho
    subst ho
    have x86 : a.tmps[86]?.getD undef = .slice Ar nr cr := by rw [← ev]; exact hG.val 1 2 86 _ rfl (hdep ⟨2, .data⟩ (by simp) rfl)
    rw [if_pos (show Region.wanted _ _ = true from rfl)]
    have hSj := hG.1
    have hf0 : flagsOf wpl23C L 0 = true := (flagsOf_at (C := wpl23C) (j := 0) rfl L).trans (hdep ⟨1, .data⟩ (by simp) rfl)
    have hf1 : flagsOf wpl23C L 1 = false := (flagsOf_at (C := wpl23C) (j := 1) rfl L).trans hLi
    have hf3 : flagsOf wpl23C L 3 = false := (flagsOf_at (C := wpl23C) (j := 3) rfl L).trans (by
      cases hl : L 8 with
      | false => rfl
      | true => exact absurd (hcl 8 _ rfl (hl) ⟨3, .data⟩ (by simp [opsWpl23]) rfl) (by rw [hLi]; decide))
    have hf4 : flagsOf wpl23C L 4 = false := (flagsOf_at (C := wpl23C) (j := 4) rfl L).trans (by
      cases hl : L 10 with
      | false => rfl
      | true => exact absurd (hcl 10 _ rfl (hl) ⟨3, .phase⟩ (by simp [opsWpl23]) rfl) (by rw [hLi]; decide))
    have r85 : a.tmps[85]?.getD undef = resOf wpl23C (fun t => a.eval (.tmp t)) 0 := by rw [← ev]; exact (resOf_at (C := wpl23C) (j := 0) rfl a).symm
    have hfin := fun v w' hs => hK v w' (hG.call 1 (3, 87) rfl (by kernel_rfl) v w' hs)
    have HK := Lib.hid hfin
    generalize (resOf wpl23C fun t => a.eval (.tmp t)) = R at *
    generalize flagsOf wpl23C L = f at *
    clear hG hcl hdep hfr hK hfin hLi
    obtain ⟨v', w', hrun, hs⟩ := h1 _ _ _ hSj hf0 hf1 hf3
    exact oper_append_run (.tmp 85) (.tmp 86) 58 rfl w _ _ (by rw [ev]; exact r85) (by rw [ev]; exact x86) v' w' hrun (HK.out v' w' hs)
  | 4, ho =>
    simp only [opsWpl23, List.getElem?_toArray, List.getElem?_cons_succ, List.getElem?_cons_zero, Option.some.injEq] at ho
    subst ho
    rw [if_pos (show Region.wanted _ _ = true from rfl)]
    have hfin := hK (.pointer (some ⟨xb, 3, none⟩)) w (hG.quiet 2 4 88 _ rfl (by kernel_rfl) (by kernel_rfl))
    have HK := Lib.hid hfin
    clear hG hcl hdep hfr hK hfin hLi 
    go_simp
    exact HK.out
  | 5, ho =>
    simp only [opsWpl23, List.getElem?_toArray, List.getElem?_cons_succ, List.getElem?_cons_zero, Option.some.injEq] at ho
    subst ho
    have x88 : a.tmps[88]?.getD undef = .pointer (some ⟨xb, 3, none⟩) := by rw [← ev]; exact hG.val 2 4 88 _ rfl (hdep ⟨4, .data⟩ (by simp) rfl)
    rw [if_pos (show Region.wanted _ _ = true from rfl)]
    have hSp := hG.1
    have hf2 : flagsOf wpl23C L 2 = false := (flagsOf_at (C := wpl23C) (j := 2) rfl L).trans (by
      cases hl : L 7 with
      | false => rfl
      | true => exact absurd (hcl 6 _ rfl (hcl 7 _ rfl (hl) ⟨6, .data⟩ (by simp [opsWpl23]) rfl) ⟨5, .data⟩ (by simp [opsWpl23]) rfl) (by rw [hLi]; decide))
    have hf3 : flagsOf wpl23C L 3 = false := (flagsOf_at (C := wpl23C) (j := 3) rfl L).trans (by
      cases hl : L 8 with
      | false => rfl
      | true => exact absurd (hcl 6 _ rfl (hcl 7 _ rfl (hcl 8 _ rfl (hl) ⟨7, .data⟩ (by simp [opsWpl23]) rfl) ⟨6, .data⟩ (by simp [opsWpl23]) rfl) ⟨5, .data⟩ (by simp [opsWpl23]) rfl) (by rw [hLi]; decide))
    have hf4 : flagsOf wpl23C L 4 = false := (flagsOf_at (C := wpl23C) (j := 4) rfl L).trans (by
      cases hl : L 10 with
      | false => rfl
      | true => exact absurd (hcl 10 _ rfl (hl) ⟨5, .phase⟩ (by simp [opsWpl23]) rfl) (by rw [hLi]; decide))
    have hfin := hK (.slice Ab nb cb) w (hG.quiet 3 5 89 _ rfl (by kernel_rfl) (by kernel_rfl))
    have HK := Lib.hid hfin
    generalize (resOf wpl23C fun t => a.eval (.tmp t)) = R at *
    generalize flagsOf wpl23C L = f at *
    have hcv := hload _ _ _ hSp
    clear hload hconv h0 h1 h2 h3 h4
    clear hSp
    clear hG hcl hdep hfr hK hfin hLi 
    go_simp
    exact HK.out
  | 6, ho =>
    simp only [opsWpl23, List.getElem?_toArray, List.getElem?_cons_succ, List.getElem?_cons_zero, Option.some.injEq] at ho
    subst ho
    have x89 : a.tmps[89]?.getD undef = .slice Ab nb cb := by rw [← ev]; exact hG.val 3 5 89 _ rfl (hdep ⟨5, .data⟩ (by simp) rfl)
    rw [if_pos (show Region.wanted _ _ = true from rfl)]
    have hSp := hG.1
    have hf2 : flagsOf wpl23C L 2 = false := (flagsOf_at (C := wpl23C) (j := 2) rfl L).trans (by
      cases hl : L 7 with
      | false => rfl
      | true => exact absurd (hcl 7 _ rfl (hl) ⟨6, .data⟩ (by simp [opsWpl23]) rfl) (by rw [hLi]; decide))
    have hf3 : flagsOf wpl23C L 3 = false := (flagsOf_at (C := wpl23C) (j := 3) rfl L).trans (by
      cases hl : L 8 with
      | false => rfl
      | true => exact absurd (hcl 7 _ rfl (hcl 8 _ rfl (hl) ⟨7, .data⟩ (by simp [opsWpl23]) rfl) ⟨6, .data⟩ (by simp [opsWpl23]) rfl) (by rw [hLi]; decide))
    have hf4 : flagsOf wpl23C L 4 = false := (flagsOf_at (C := wpl23C) (j := 4) rfl L).trans (by
      cases hl : L 10 with
      | false => rfl
      | true => exact absurd (hcl 10 _ rfl (hl) ⟨6, .phase⟩ (by simp [opsWpl23]) rfl) (by rw [hLi]; decide))
    have hfin := hK (.string sb) w (hG.quiet 4 6 90 _ rfl (by kernel_rfl) (by kernel_rfl))
    have HK := Lib.hid hfin
    generalize (resOf wpl23C fun t => a.eval (.tmp t)) = R at *
    generalize flagsOf wpl23C L = f at *
    have hcv := hconv _ _ _ hSp
    clear hload hconv h0 h1 h2 h3 h4
    clear hSp
    clear hG hcl hdep hfr hK hfin hLi 
    go_simp
    exact HK.out
  | 7, ho =>
    simp only [opsWpl23, List.getElem?_toArray, List.getElem?_cons_succ, List.getElem?_cons_zero, Option.some.injEq] at ho
    subst ho
    have x90 : a.tmps[90]?.getD undef = .string sb := by rw [← ev]; exact hG.val 4 6 90 _ rfl (hdep ⟨6, .data⟩ (by simp) rfl)
    rw [if_pos (show Region.wanted _ _ = true from rfl)]
    have hSj := hG.1
    have hf2 : flagsOf wpl23C L 2 = false := (flagsOf_at (C := wpl23C) (j := 2) rfl L).trans hLi
    have hf3 : flagsOf wpl23C L 3 = false := (flagsOf_at (C := wpl23C) (j := 3) rfl L).trans (by
      cases hl : L 8 with
      | false => rfl
      | true => exact absurd (hcl 8 _ rfl (hl) ⟨7, .data⟩ (by simp [opsWpl23]) rfl) (by rw [hLi]; decide))
    have hf4 : flagsOf wpl23C L 4 = false := (flagsOf_at (C := wpl23C) (j := 4) rfl L).trans (by
      cases hl : L 10 with
      | false => rfl
      | true => exact absurd (hcl 10 _ rfl (hl) ⟨7, .phase⟩ (by simp [opsWpl23]) rfl) (by rw [hLi]; decide))
    have hfin := fun v w' hs => hK v w' (hG.call 2 (7, 91) rfl (by kernel_rfl) v w' hs)
    have HK := Lib.hid hfin
    generalize (resOf wpl23C fun t => a.eval (.tmp t)) = R at *
    generalize flagsOf wpl23C L = f at *
    clear hG hcl hdep hfr hK hfin hLi
    have hs := h2 _ _ _ hSj hf2 hf3
    have hk := HK.out _ _ hs
    have HK2 := Lib.hid hk
    clear hs hk HK hSj hload hconv h0 h1 h2 h3 h4
    go_simp
    exact HK2.out
  | 8, ho =>
    simp only [opsWpl23, List.getElem?_toArray, List.getElem?_cons_succ, List.getElem?_cons_zero, Option.some.injEq] at ho
    subst ho
    rw [if_pos (show Region.wanted _ _ = true from rfl)]
    have hSj := hG.1
    have hf0 : flagsOf wpl23C L 0 = true := (flagsOf_at (C := wpl23C) (j := 0) rfl L).trans (hcl 3 _ rfl (hdep ⟨3, .data⟩ (by simp) rfl) ⟨1, .data⟩ (by simp [opsWpl23]) rfl)
    have hf1 : flagsOf wpl23C L 1 = true := (flagsOf_at (C := wpl23C) (j := 1) rfl L).trans (hdep ⟨3, .data⟩ (by simp) rfl)
    have hf2 : flagsOf wpl23C L 2 = true := (flagsOf_at (C := wpl23C) (j := 2) rfl L).trans (hdep ⟨7, .data⟩ (by simp) rfl)
    have hf3 : flagsOf wpl23C L 3 = false := (flagsOf_at (C := wpl23C) (j := 3) rfl L).trans hLi
    have hf4 : flagsOf wpl23C L 4 = false := (flagsOf_at (C := wpl23C) (j := 4) rfl L).trans (by
      cases hl : L 10 with
      | false => rfl
      | true => exact absurd (hcl 10 _ rfl (hl) ⟨8, .data⟩ (by simp [opsWpl23]) rfl) (by rw [hLi]; decide))
    have r87 : a.tmps[87]?.getD undef = resOf wpl23C (fun t => a.eval (.tmp t)) 1 := by rw [← ev]; exact (resOf_at (C := wpl23C) (j := 1) rfl a).symm
    have r91 : a.tmps[91]?.getD undef = resOf wpl23C (fun t => a.eval (.tmp t)) 2 := by rw [← ev]; exact (resOf_at (C := wpl23C) (j := 2) rfl a).symm
    have hfin := fun v w' hs => hK v w' (hG.call 3 (8, 92) rfl (by kernel_rfl) v w' hs)
    have HK := Lib.hid hfin
    generalize (resOf wpl23C fun t => a.eval (.tmp t)) = R at *
    generalize flagsOf wpl23C L = f at *
    clear hG hcl hdep hfr hK hfin hLi
    obtain ⟨v', w', hrun, hs⟩ := h3 _ _ _ hSj hf1 hf2 hf3
    exact oper_append_run (.tmp 87) (.tmp 91) 58 rfl w _ _ (by rw [ev]; exact r87) (by rw [ev]; exact r91) v' w' hrun (HK.out v' w' hs)
  | 9, ho =>
    simp only [opsWpl23, List.getElem?_toArray, List.getElem?_cons_succ, List.getElem?_cons_zero, Option.some.injEq] at ho
    subst ho
    have x84 : a.tmps[84]?.getD undef = .string vb := by rw [← ev]; exact hG.val 0 0 84 _ rfl (hdep ⟨0, .data⟩ (by simp) rfl)
    rw [if_pos (show Region.wanted _ _ = true from rfl)]
    have hfin := hK (.string vb) w (hG.quiet 5 9 16 _ rfl (by kernel_rfl) (by kernel_rfl))
    have HK := Lib.hid hfin
    clear hG hcl hdep hfr hK hfin hLi 
    go_simp
    exact HK.out
  | 10, ho =>
    simp only [opsWpl23, List.getElem?_toArray, List.getElem?_cons_succ, List.getElem?_cons_zero, Option.some.injEq] at ho
    subst ho
    rw [if_pos (show Region.wanted _ _ = true from rfl)]
    have hSj := hG.1
    have hf0 : flagsOf wpl23C L 0 = true := (flagsOf_at (C := wpl23C) (j := 0) rfl L).trans (hdep ⟨1, .phase⟩ (by simp) rfl)
    have hf1 : flagsOf wpl23C L 1 = true := (flagsOf_at (C := wpl23C) (j := 1) rfl L).trans (hdep ⟨3, .phase⟩ (by simp) rfl)
    have hf2 : flagsOf wpl23C L 2 = true := (flagsOf_at (C := wpl23C) (j := 2) rfl L).trans (hdep ⟨7, .phase⟩ (by simp) rfl)
    have hf3 : flagsOf wpl23C L 3 = true := (flagsOf_at (C := wpl23C) (j := 3) rfl L).trans (hdep ⟨8, .data⟩ (by simp) rfl)
    have hf4 : flagsOf wpl23C L 4 = false := (flagsOf_at (C := wpl23C) (j := 4) rfl L).trans hLi
    have r92 : a.tmps[92]?.getD undef = resOf wpl23C (fun t => a.eval (.tmp t)) 3 := by rw [← ev]; exact (resOf_at (C := wpl23C) (j := 3) rfl a).symm
    have hfin := fun v w' hs => hK v w' (hG.call 4 (10, 17) rfl (by kernel_rfl) v w' hs)
    have HK := Lib.hid hfin
    generalize (resOf wpl23C fun t => a.eval (.tmp t)) = R at *
    generalize flagsOf wpl23C L = f at *
    clear hG hcl hdep hfr hK hfin hLi
    have hs := h4 _ _ _ hSj hf3 hf4
    have hk := HK.out _ _ hs
    have HK2 := Lib.hid hk
    clear hs hk HK hSj hload hconv h0 h1 h2 h3 h4
    go_simp
    exact HK2.out
  | n + 11, ho => exact absurd (Array.getElem?_eq_some_iff.1 ho).1 (by show ¬ n + 11 < 11; omega)
end Go.Proofs.YtdnbbnjmdddfdaaDoor

namespace Go.Proofs.YtdnbbnjmdddfdaaDoor
open Go.RowKit Go.ChangeShapes Go.WideShapes Go.Deep Dk
set_option linter.unusedVariables false

structure WAct where
  op : Int
  n : Int
  torn : Int
  b : List UInt8
  keep : List Int

instance : Inhabited WAct := ⟨⟨0, 0, 0, [], []⟩⟩
/-- What an act's five cells hold. -/
structure WActAt (w : World) (B g o : Nat) (x : WAct) : Prop where
  op : w.cell? ⟨g, o, none⟩ = some (.int .i64 x.op)
  n : w.cell? ⟨g, o + 1, none⟩ = some (.int .i64 x.n)
  torn : w.cell? ⟨g, o + 2, none⟩ = some (.int .i64 x.torn)
  b : ∃ A n cp, w.cell? ⟨g, o + 3, none⟩ = some (.slice A n cp) ∧ n = x.b.length ∧ n ≤ cp ∧ cp ≤ maxLen ∧ Sees w B A x.b
  keep : ∃ A n cp, w.cell? ⟨g, o + 4, none⟩ = some (.slice A n cp) ∧ n = x.keep.length ∧ n ≤ cp ∧ cp ≤ maxLen ∧ SeesI w B A x.keep
  op_le : -9223372036854775808 ≤ x.op ∧ x.op ≤ 9223372036854775807
  n_le : -9223372036854775808 ≤ x.n ∧ x.n ≤ 9223372036854775807
  torn_le : -9223372036854775808 ≤ x.torn ∧ x.torn ≤ 9223372036854775807
/-- The slice at A reads the acts l, and lies below block B. -/
def WActs (w : World) (B : Nat) (A : Option Addr) (l : List WAct) : Prop :=
  l ≠ [] → ∃ g o, A = some ⟨g, o, none⟩ ∧ g < B ∧ ∀ j (h : j < l.length), WActAt w B g (o + j * 5) l[j]
theorem WActAt.below {w w' : World} {B B' g o : Nat} {x : WAct} (h : WActAt w B g o x) (hb : Below B' w w') (hB : B ≤ B') (hg : g < B') : WActAt w' B g o x where
  op := (hb.cell (p := ⟨g, o, none⟩) hg).trans h.op
  n := (hb.cell (p := ⟨g, o + 1, none⟩) hg).trans h.n
  torn := (hb.cell (p := ⟨g, o + 2, none⟩) hg).trans h.torn
  b := by
    obtain ⟨A, n, cp, h1, h2, h3, h4, h5⟩ := h.b
    exact ⟨A, n, cp, (hb.cell (p := ⟨g, o + 3, none⟩) hg).trans h1, h2, h3, h4, h5.below hb hB⟩
  keep := by
    obtain ⟨A, n, cp, h1, h2, h3, h4, h5⟩ := h.keep
    exact ⟨A, n, cp, (hb.cell (p := ⟨g, o + 4, none⟩) hg).trans h1, h2, h3, h4, h5.below hb hB⟩
  op_le := h.op_le
  n_le := h.n_le
  torn_le := h.torn_le
theorem WActs.below {w w' : World} {B B' : Nat} {A : Option Addr} {l : List WAct} (h : WActs w B A l) (hb : Below B' w w') (hB : B ≤ B') : WActs w' B A l := fun hn => by
  obtain ⟨g, o, e, hg, hc⟩ := h hn
  exact ⟨g, o, e, hg, fun j hj => (hc j hj).below hb hB (by omega)⟩

section
variable {H : Type} {enc : TypeId × Value → H} {w : World} {base : Nat} {held : Bool}
theorem open_W {fuel : Nat} {A : Option Addr} {len cap : Nat} {x : DataW H × List MemPlace} (h : DataW.trod enc Tryd.prog w base (fun _ => true) held fuel 59 [.slice A len cap] = some x) :
    ∃ l : List WAct, len = l.length ∧ len ≤ cap ∧ cap ≤ maxLen ∧ WActs w w.heap.size A l := by
  rcases open_slice Tryd.underlying59 h with ⟨hcs, _⟩ | ⟨a, len', cap', m, n, D, Pl, hcs, _, hl, hm, hmm, _, hi⟩
  · simp at hcs
    obtain ⟨rfl, rfl, rfl⟩ := hcs
    exact ⟨[], rfl, Nat.le_refl _, Nat.zero_le _, fun h => absurd rfl h⟩
  · simp at hcs
    obtain ⟨rfl, rfl, rfl⟩ := hcs
    have hlm : len ≤ m := by rw [hmm]; split <;> omega
    have key : ∀ i, i < len → ∃ x : WAct, ∀ g o, a = ⟨g, o, none⟩ → WActAt w w.heap.size g (o + i * 5) x := fun i hi' => by
      obtain ⟨cs', hcs', ht'⟩ := hi i (by omega)
      rw [show Tryd.prog.cellsOf 62 = 5 from by kernel_rfl] at hcs'
      obtain ⟨_, hlen, hat⟩ := World.cells?_some hcs'
      match cs', hlen with
      | [v0, v1, v2, v3, v4], _ =>
      have c0 := hat 0 (by omega)
      have c1 := hat 1 (by omega)
      have c2 := hat 2 (by omega)
      have c3 := hat 3 (by omega)
      have c4 := hat 4 (by omega)
      obtain ⟨_, y0, t0⟩ := field_reads Tryd.underlying62 (by kernel_rfl) ht' 0 _ rfl v0 rfl
      obtain ⟨_, y1, t1⟩ := field_reads Tryd.underlying62 (by kernel_rfl) ht' 1 _ rfl v1 rfl
      obtain ⟨_, y2, t2⟩ := field_reads Tryd.underlying62 (by kernel_rfl) ht' 2 _ rfl v2 rfl
      obtain ⟨_, y3, t3⟩ := field_reads Tryd.underlying62 (by kernel_rfl) ht' 3 _ rfl v3 rfl
      obtain ⟨_, y4, t4⟩ := field_reads Tryd.underlying62 (by kernel_rfl) ht' 4 _ rfl v4 rfl
      obtain ⟨z0, e0, _, w0⟩ := DataW.trod_int Tryd.underlying3 t0
      obtain ⟨z1, e1, _, w1⟩ := DataW.trod_int Tryd.underlying3 t1
      obtain ⟨z2, e2, _, w2⟩ := DataW.trod_int Tryd.underlying3 t2
      simp at e0 e1 e2
      subst e0 e1 e2
      have hv3 : ∃ A' n' c', v3 = .slice A' n' c' := by
        rcases open_ints Tryd.underlying23 Tryd.underlying5 (by kernel_rfl) t3 with ⟨hcs, _⟩ | ⟨a', len', cap', zs, hcs, _⟩
        · simp at hcs; exact ⟨_, _, _, hcs⟩
        · simp at hcs; exact ⟨_, _, _, hcs⟩
      obtain ⟨A3, n3, c3', rfl⟩ := hv3
      obtain ⟨l3, j1, j2, j3, j4, _⟩ := open_b Tryd.underlying23 Tryd.underlying5 (by kernel_rfl) t3
      have hv4 : ∃ A' n' c', v4 = .slice A' n' c' := by
        rcases open_ints Tryd.underlying60 Tryd.underlying3 (by kernel_rfl) t4 with ⟨hcs, _⟩ | ⟨a', len', cap', zs, hcs, _⟩
        · simp at hcs; exact ⟨_, _, _, hcs⟩
        · simp at hcs; exact ⟨_, _, _, hcs⟩
      obtain ⟨A', n', c', rfl⟩ := hv4
      obtain ⟨l4, k1, k2, k3, k4⟩ := open_I t4
      refine ⟨⟨z0, z1, z2, l3, l4⟩, fun g o ha => ?_⟩
      subst ha
      rw [add_to, add_to] at c0 c1 c2 c3 c4
      exact ⟨c0, c1, c2, ⟨A3, n3, c3', c3, j1, j2, j3, j4⟩, ⟨A', n', c', c4, k1, k2, k3, k4⟩, int_of_wf w0, int_of_wf w1, int_of_wf w2⟩
    obtain ⟨f, hf⟩ := choose_lt key
    refine ⟨(List.range len).map f, by simp, hl, hm, fun hn => ?_⟩
    have hpos : 0 < len := by
      have := List.length_pos_iff.2 hn
      simp at this; omega
    obtain ⟨cs0, hcs0, _⟩ := hi 0 (by omega)
    rw [show Tryd.prog.cellsOf 62 = 5 from by kernel_rfl] at hcs0
    obtain ⟨_, hlen0, hat0⟩ := World.cells?_some hcs0
    have c0 := hat0 0 (by omega)
    rw [List.getElem?_eq_getElem (show 0 < cs0.length by omega)] at c0
    obtain ⟨g, o, e1, hg⟩ := addr_of_cell c0
    have ha : a = ⟨g, o, none⟩ := by
      have e2 : (a.add (0 * 5)).add 0 = a := by simp [Addr.add]
      exact e2.symm.trans e1
    subst ha
    refine ⟨g, o, rfl, hg, fun j hj => ?_⟩
    have hj' : j < len := by simpa using hj
    have e3 : ((List.range len).map f)[j]'hj = f j := by simp
    rw [e3]
    exact hf j hj' g o rfl
end
end Go.Proofs.YtdnbbnjmdddfdaaDoor

namespace Go.Proofs.YtdnbbnjmdddfdaaDoor
open Go.RowKit Dk Wl
set_option linter.unusedVariables false

/-- A row of strings of the law's own, beside device and log. -/
def SW (w : World) (F G : List Nat) (v : Value) (ss : List ByteArray) : Prop := w.ownsRow 0 9 1 v ss.length (ss.map Value.string) ∧ ∀ k, k ∈ blk v → k ∉ F ∧ k ∉ G
section
variable {w w' : World} {F G F' G' : List Nat} {v : Value} {ss : List ByteArray}
theorem SW.nil (w : World) (F G : List Nat) : SW w F G (.slice none 0 0) [] := ⟨World.ownsRow_nil _ _ _ _, fun k hk => by simp [blk, Value.ownBlock] at hk⟩
theorem SW.turns (h : SW w F G v ss) (ht : Turns F G F' G' w w') : SW w' F' G' v ss := by
  refine ⟨own_only h.1 ht.only (fun k hk hm => (List.mem_append.1 hm).elim (h.2 k (mem_blk.2 hk)).1 (h.2 k (mem_blk.2 hk)).2), fun k hk => ?_⟩
  have hlt := (World.ownsRow.lt h.1 k (mem_blk.1 hk)).2
  exact ⟨fun hm => (ht.gF k hm).elim (h.2 k hk).1 (fun h' => by omega), fun hm => (ht.gG k hm).elim (h.2 k hk).2 (fun h' => by omega)⟩
theorem SW.below (h : SW w F G v ss) (hb : Below w.heap.size w w') : SW w' F G v ss := h.turns (Turns.of_below hb)
/-- Another log in the first one's place. -/
theorem SW.other {F2 G2 : List Nat} (h : SW w F G v ss) (hb : Below w.heap.size w w') (hF : F2 = F) (hG : ∀ b, b ∈ G2 → w.heap.size ≤ b) : SW w' F2 G2 v ss := by
  subst hF
  have h2 := h.below hb
  refine ⟨h2.1, fun k hk => ⟨(h2.2 k hk).1, fun hm => ?_⟩⟩
  have := (World.ownsRow.lt h.1 k (mem_blk.1 hk)).2
  have := hG k hm
  omega
theorem SW.shape (h : SW w F G v ss) : ∃ A c, v = .slice A ss.length c ∧ ss.length ≤ c ∧ c ≤ maxLen := own_shape h.1
theorem SW.strs {A : Option Addr} {n c : Nat} (h : SW w F G (.slice A n c) ss) : Strs w w.heap.size A ss := fun hne => by
  have hpos := List.length_pos_iff.2 hne
  obtain ⟨g, cap, e, _, hg, _⟩ := own_form h.1 hpos
  injection e with e1 _ _
  subst e1
  refine ⟨g, 0, rfl, hg, fun j hj => ?_⟩
  have := h.1.cells (g := g) rfl j (.string ss[j]) (by rw [List.getElem?_map, List.getElem?_eq_getElem hj]; rfl)
  rw [add_to] at this
  exact this
end
/-- What the log holds against what it may hold behind a fall. -/
def PSt (S : Disk) (sz : Nat) (L : Lg) (dn may : Bool) (va : ByteArray) (os : List ByteArray) : Prop :=
  (dn = false ∧ may = false ∧ S.off = false ∧ Holds S.dur sz L) ∨
  (dn = true ∧ may = true ∧ S.off = true ∧ ∃ L' : Lg, L'.Ok sz ∧ va = bstr L'.base ∧ os = L'.recs.map bstr ∧ (Holds S.dur sz L ∨ Holds S.dur sz L'))
structure PIn (B : Nat) (w0 w : World) (F G : List Nat) (d l : Nat) (S : Disk) (sz n : Nat) (L : Lg) (dn : Bool) (vb : ByteArray) (vr : Value) (va : ByteArray) (vo : Value) (os : List ByteArray) (may : Bool) : Prop where
  law : Law B w0 w F G d l S sz L dn
  safe : S.cache = []
  len : S.dur.length = n
  base : vb = bstr L.base
  recs : SW w F G vr (L.recs.map bstr)
  other : SW w F G vo os
  st : PSt S sz L dn may va os
/-- .. as it stands in the frame. -/
def PInv (B : Nat) (w0 : World) (d sz n : Nat) (s7 s9 s10 s11 s12 s13 : Value) (w : World) : Prop :=
  ∃ F G l S L dn vb Ar nr cr va Ao no co os may, s7 = .pointer (some ⟨l, 0, none⟩) ∧ s9 = .string vb ∧ s10 = .slice Ar nr cr ∧ s11 = .string va ∧ s12 = .slice Ao no co ∧ s13 = .bool may ∧ PIn B w0 w F G d l S sz n L dn vb (.slice Ar nr cr) va (.slice Ao no co) os may
section
variable {B : Nat} {w0 w w' : World} {F G F' G' : List Nat} {d l sz n : Nat} {S S' : Disk} {L L' : Lg} {dn dn' may : Bool} {vb va : ByteArray} {vr vo : Value} {os : List ByteArray}
theorem PIn.below (h : PIn B w0 w F G d l S sz n L dn vb vr va vo os may) (hb : Below w.heap.size w w') : PIn B w0 w' F G d l S sz n L dn vb vr va vo os may :=
  ⟨h.law.below hb, h.safe, h.len, h.base, h.recs.below hb, h.other.below hb, h.st⟩
theorem PIn.recLen (h : PIn B w0 w F G d l S sz n L dn vb vr va vo os may) : L.recs.length ≤ 300000 := by
  have h1 := L.used_pos
  have h2 := h.law.both.2.1.used
  have h3 := h.law.szLe
  omega
theorem PIn.small (h : PIn B w0 w F G d l S sz n L dn vb vr va vo os may) : L.base.length ≤ 200000 := h.law.both.2.1.small _ (List.mem_cons_self ..)
end

/-- The region that makes the new account, put to use. -/
theorem wpl23_run {Q : Exit → Act → World → Prop} {a0 : Act} {wp : World} (xb nr cr nb cb : Nat) (Ar Ab : Option Addr) (vb : ByteArray) (b : List UInt8) (rs : List ByteArray) (hsz : 92 < a0.tmps.size) (in9 : a0.eval (.tmp 9) = .string vb) (in10 : a0.eval (.tmp 10) = .slice Ar nr cr) (in15 : a0.eval (.tmp 15) = .pointer (some ⟨xb, 0, none⟩))
    (hcell : wp.cell? ⟨xb, 3, none⟩ = some (.slice Ab nb cb)) (hnb : nb = b.length) (hb : Sees wp wp.heap.size Ab b) (hr : wp.ownsRow 0 9 1 (.slice Ar nr cr) rs.length (rs.map Value.string)) (hrl : rs.length ≤ 300000)
    (fin : ∀ a A' c' w, Fr [84, 85, 86, 87, 88, 89, 90, 91, 92, 16, 17] a0 a → a.eval (.tmp 16) = .string vb → a.eval (.tmp 17) = .slice A' (rs.length + 1) c' → w.ownsRow 0 9 1 (.slice A' (rs.length + 1) c') (rs ++ [bstr b]).length ((rs ++ [bstr b]).map Value.string) → (∀ k, k ∈ blk (.slice A' (rs.length + 1) c') → wp.heap.size ≤ k) → Below wp.heap.size wp w → Q .normal a w) :
    (Code.region 23 opsWpl23 true).wp Tryd.prog Q a0 wp := by
  have hxb : xb < wp.heap.size := World.block_lt_of_cell? wp _ hcell
  have ones : ∀ u ∈ rs.map Value.string, u.oneCell' = true := fun u hu => by obtain ⟨x, _, rfl⟩ := List.mem_map.1 hu; rfl
  obtain ⟨i0, hi, hz0, hz1, hz2⟩ := info_parts (show (Tryd.prog.info? 9).map (fun i => (i.zero, i.size, i.bytes)) = some (some (.string ByteArray.empty), 1, 16) by kernel_rfl)
  refine wpl23 xb nr cr nb cb Ar Ab vb (bstr b) (fun f R w => RowS 9 1 rs.length (rs.map Value.string) [.string (bstr b)] wp f R w ∧ (f 4 = true → f 3 = true ∧ R 4 = R 3)) hsz in9 in10 in15 ?_ ?_ ?_ ?_ ?_ ?_ ?_ ?_ ?_
  · intro f R w hS; exact (hS.1.1.cell (p := ⟨xb, 3, none⟩) hxb).trans hcell
  · intro f R w hS
    exact run_sees_string (P := Tryd.prog) w 23 9 5 Tryd.underlying23 Tryd.underlying5 Tryd.underlying9 (hb.below hS.1.1 (Nat.le_refl _)) nb cb hnb
  · intro f R w hS e0 e1 e3
    exact ⟨hS.1.s0 e1 e3, fun h => by rw [setF_ne _ (by decide)] at h; have := (hS.2 h).1; rw [e3] at this; cases this⟩
  · intro f R w hS e0 e1 e3
    obtain ⟨bk, q1, q2, q3⟩ := hS.1.2.1 e0 e1
    obtain ⟨v', w', hrun, ho2, hg⟩ := run_append_lit (P := Tryd.prog) w wp.heap.size 58 58 9 i0 _ 1 16 Tryd.underlying58 hi hz0 hz1 hz2 rfl (by decide) bk q2 q3 _ rs.length (rs.map Value.string) 0 (own_below hr hS.1.1 (Nat.le_refl _)) ones (by unfold maxLen; omega) (by omega) hS.1.1.size
    rw [q1]
    exact ⟨v', w', hrun, hS.1.s1 e3 (by simp) q2 q3 ho2 hg, fun h => by rw [setF_ne _ (by decide)] at h; have := (hS.2 h).1; rw [e3] at this; cases this⟩
  · intro f R w hS e2 e3
    exact ⟨hS.1.s2 e3, fun h => by rw [setF_ne _ (by decide)] at h; have := (hS.2 h).1; rw [e3] at this; cases this⟩
  · intro f R w hS e1 e2 e3
    obtain ⟨bk, q1, q2⟩ := hS.1.2.2.2.1 e2 e3
    have o1 := hS.1.2.2.1 e1 e3
    obtain ⟨v', w', hrun, ho2, hg, _, _⟩ := run_append_own_at (P := Tryd.prog) w wp.heap.size 58 58 9 i0 _ 1 16 Tryd.underlying58 hi hz0 hz1 hz2 rfl (by decide) _ rs.length (rs.map Value.string) o1 ⟨bk, 0, none⟩ 1 1 [.string (bstr b)] rfl (fun j u hu => by
      rw [add_to, Nat.zero_add]; simp only [World.cell?, q2]; simpa using hu) (by intro u hu; simp at hu; subst hu; rfl) (by unfold maxLen; omega) (by omega) hS.1.1.size
    rw [q1]
    exact ⟨v', w', hrun, hS.1.s3 e1 e3 ho2 hg, fun h => ⟨setF_self _ _, by rw [setF_ne _ (by decide)] at h; have := (hS.2 h).1; rw [e3] at this; cases this⟩⟩
  · intro f R w hS e3 e4
    obtain ⟨a1, a2, a3, a4, a5⟩ := hS.1
    refine ⟨⟨a1, fun c c' => ?_, fun c c' => ?_, fun c c' => ?_, fun c => ?_⟩, fun _ => ⟨by rw [setF_ne _ (by decide)]; exact e3, by rw [setR_self, setR_ne _ _ (by decide)]⟩⟩
    · rw [setF_ne _ (by decide)] at c c'
      obtain ⟨bk, q⟩ := a2 c c'
      exact ⟨bk, by rw [setR_ne _ _ (by decide)]; exact q.1, q.2⟩
    · rw [setF_ne _ (by decide)] at c c'
      rw [setR_ne _ _ (by decide)]; exact a3 c c'
    · rw [setF_ne _ (by decide)] at c c'
      obtain ⟨bk, q⟩ := a4 c c'
      exact ⟨bk, by rw [setR_ne _ _ (by decide)]; exact q.1, q.2⟩
    · rw [setF_ne _ (by decide)] at c
      rw [setR_ne _ _ (by decide)]; exact a5 c
  · exact ⟨RowS.start _ _, fun h => by cases h⟩
  · intro a w f hfr h16 hall hS
    have h3 := hS.1.2.2.2.2 (hall 3 (by decide))
    obtain ⟨_, e4⟩ := hS.2 (hall 4 (by decide))
    obtain ⟨A', c', e5, _, _⟩ := own_shape h3
    have e6 : a.eval (.tmp 17) = .slice A' (rs.length + 1) c' := Eq.trans (b := _) e4 e5
    rw [e5] at h3
    refine fin a A' c' w hfr h16 e6 ?_ (fun k hk => (h3.lt k (mem_blk.1 hk)).1) hS.1.1
    have := own_base h3 (Nat.zero_le _)
    rw [List.length_append, List.map_append]
    exact this

theorem SeesI.up {w : World} {B B' : Nat} {A : Option Addr} {l : List Int} (h : SeesI w B A l) (hB : B ≤ B') : SeesI w B' A l := fun hn => by
  obtain ⟨g, o, e, hg, hc⟩ := h hn
  exact ⟨g, o, e, by omega, hc⟩
theorem SW.num {w : World} {F G : List Nat} {A : Option Addr} {n c : Nat} {ss : List ByteArray} (h : SW w F G (.slice A n c) ss) : n = ss.length ∧ n ≤ c ∧ c ≤ maxLen := by
  obtain ⟨A', c', e, h1, h2⟩ := h.shape
  injection e with _ e2 e3
  subst e2; subst e3
  exact ⟨rfl, h1, h2⟩
/-- What a call of Add or Keep ends in. -/
def PAct (B : Nat) (w0 : World) (d l sz n : Nat) (vb : ByteArray) (vr : Value) (va : ByteArray) (vo : Value) (os : List ByteArray) (may : Bool) (nb : ByteArray) (vn : Value) (e : Ending) (w' : World) : Prop :=
  ∃ er, e = .returned (.int .i64 er) ∧
    ((er = 0 ∧ ∃ F' G' S' L', PIn B w0 w' F' G' d l S' sz n L' false nb vn va vo os false) ∨
     (er = 7 ∧ may = false ∧ ∃ F' G' S' L' os', PIn B w0 w' F' G' d l S' sz n L' true vb vr nb vn os' true) ∨
     (er = 7 ∧ may = true ∧ ∃ F' G' S' L', PIn B w0 w' F' G' d l S' sz n L' true vb vr va vo os true) ∨
     (er = 6 ∧ ∃ F' G' S' L', PIn B w0 w' F' G' d l S' sz n L' false vb vr va vo os may))
section
variable {B : Nat} {w0 w w' : World} {F G F' G' : List Nat} {d l sz n : Nat} {S S' : Disk} {L L' : Lg} {dn dn' may : Bool} {vb va : ByteArray} {vr vo : Value} {os : List ByteArray}
theorem PIn.live (h : PIn B w0 w F G d l S sz n L false vb vr va vo os may) : may = false ∧ S.off = false ∧ Holds S.dur sz L := by
  rcases h.st with ⟨_, h2, h3, h4⟩ | ⟨h1, _⟩
  · exact ⟨h2, h3, h4⟩
  · cases h1
theorem PIn.dead (h : PIn B w0 w F G d l S sz n L true vb vr va vo os may) : may = true ∧ S.off = true := by
  rcases h.st with ⟨h1, _⟩ | ⟨_, h2, h3, _⟩
  · cases h1
  · exact ⟨h2, h3⟩
theorem PAct.of_wal {e : Ending} (h : PIn B w0 w F G d l S sz n L false vb vr va vo os may) (he : WalEnd F G d l S sz L L' w e w') (hok : L'.Ok sz) (nb : ByteArray) (vn : Value) (hnb : nb = bstr L'.base) (hvn : SW w F G vn (L'.recs.map bstr)) : PAct B w0 d l sz n vb vr va vo os may nb vn e w' := by
  obtain ⟨er, F', G', S', rfl, ht, hl, ⟨rfl, o1, o2, o3, o4, o5⟩ | ⟨rfl, o1, o2, o3, o5⟩⟩ := he
  · exact ⟨0, rfl, .inl ⟨rfl, F', G', S', L', ⟨h.law.turn o4 ht, o2, hl.trans h.len, hnb, hvn.turns ht, h.other.turns ht, .inl ⟨rfl, rfl, o1, o3⟩⟩⟩⟩
  · exact ⟨7, rfl, .inr (.inl ⟨rfl, h.live.1, F', G', S', L, L'.recs.map bstr, ⟨h.law.turn o3 ht, ((h.law.turn o3 ht).both.1.dev.ok.dark o1).1, hl.trans h.len, h.base, h.recs.turns ht, hvn.turns ht, .inr ⟨rfl, rfl, o1, L', hok, hnb, rfl, o2⟩⟩⟩)⟩
theorem plays_add (h : PIn B w0 w F G d l S sz n L dn vb vr va vo os may) (A : Option Addr) (nn c : Nat) (body : List UInt8) (hn : nn = body.length) (hnc : nn ≤ c) (hcm : c ≤ maxLen) (hse : Sees w w.heap.size A body) (hA : body ≠ [] → ∀ a, A = some a → a.block < B) (hb : body.length ≤ 2000) (vn : Value) (hvn : SW w F G vn (L.recs.map bstr ++ [bstr body])) :
    Calls Tryd.prog 21 #[.pointer (some ⟨l, 0, none⟩), .slice A nn c] w (PAct B w0 d l sz n vb vr va vo os may vb vn) := by
  cases dn with
  | true =>
    refine (add_done h.law.both.1 A nn c).mono ?_
    rintro e w' ⟨rfl, rfl⟩
    obtain ⟨rfl, _⟩ := h.dead
    exact ⟨7, rfl, .inr (.inr (.inl ⟨rfl, rfl, F, G, S, L, h⟩))⟩
  | false =>
    obtain ⟨rfl, h1, h2⟩ := h.live
    by_cases hfit : L.used + (body.length + 16) ≤ sz * 512
    · refine (add_ok h.law.both h.safe h2 A nn c body hn hnc hcm hse (fun hne a ha => ⟨fun hm => by have := hA hne a ha; have := h.law.fB _ hm; omega, fun hm => by have := hA hne a ha; have := h.law.gB _ hm; omega⟩) (by omega) hfit).mono ?_
      intro e w' he
      exact PAct.of_wal h he (Lg.add_ok h.law.both.2.1 body (by omega) hfit) vb vn h.base (by
        have e1 : (L.add body).recs.map bstr = L.recs.map bstr ++ [bstr body] := by show (L.recs ++ [body]).map bstr = _; simp
        rw [e1]; exact hvn)
    · refine (add_full h.law.both A nn c body hn hse (by omega) (by omega)).mono ?_
      rintro e w' ⟨rfl, hbel⟩
      exact ⟨6, rfl, .inr (.inr (.inr ⟨rfl, F, G, S, L, h.below hbel⟩))⟩
theorem plays_keep (h : PIn B w0 w F G d l S sz n L dn vb vr va vo os may) (A : Option Addr) (nn c : Nat) (body : List UInt8) (hn : nn = body.length) (hnc : nn ≤ c) (hcm : c ≤ maxLen) (hse : Sees w w.heap.size A body) (hA : body ≠ [] → ∀ a, A = some a → a.block < B) (hb : body.length ≤ 2000) :
    Calls Tryd.prog 22 #[.pointer (some ⟨l, 0, none⟩), .slice A nn c] w (PAct B w0 d l sz n vb vr va vo os may (bstr body) (.slice none 0 0)) := by
  cases dn with
  | true =>
    refine (keep_done h.law.both.1 A nn c).mono ?_
    rintro e w' ⟨rfl, rfl⟩
    obtain ⟨rfl, _⟩ := h.dead
    exact ⟨7, rfl, .inr (.inr (.inl ⟨rfl, rfl, F, G, S, L, h⟩))⟩
  | false =>
    obtain ⟨rfl, h1, h2⟩ := h.live
    by_cases hfit : body.length + 16 ≤ sz * 512
    · refine (keep_ok h.law.both h.safe h2 A nn c body hn hse (fun hne a ha => ⟨fun hm => by have := hA hne a ha; have := h.law.fB _ hm; omega, fun hm => by have := hA hne a ha; have := h.law.gB _ hm; omega⟩) (by omega) hfit).mono ?_
      intro e w' he
      exact PAct.of_wal h he (Lg.keep_ok body (by omega) hfit) (bstr body) (.slice none 0 0) rfl (SW.nil _ _ _)
    · refine (keep_full h.law.both A nn c body hn hse (by omega) (by omega)).mono ?_
      rintro e w' ⟨rfl, hbel⟩
      exact ⟨6, rfl, .inr (.inr (.inr ⟨rfl, F, G, S, L, h.below hbel⟩))⟩

/-- Between a fall and the next opening. -/
structure PMid (B : Nat) (w0 w : World) (F G : List Nat) (d : Nat) (S1 : Disk) (sz n : Nat) (L : Lg) (vb : ByteArray) (vr : Value) (va : ByteArray) (vo : Value) (os : List ByteArray) (may : Bool) : Prop where
  dev : LawD B w0 w F d S1
  safe : S1.cache = []
  len : S1.dur.length = n
  base : vb = bstr L.base
  recs : SW w F G vr (L.recs.map bstr)
  other : SW w F G vo os
  ok : L.Ok sz
  st : (may = false ∧ Holds S1.dur sz L) ∨ (may = true ∧ ∃ L' : Lg, L'.Ok sz ∧ va = bstr L'.base ∧ os = L'.recs.map bstr ∧ (Holds S1.dur sz L ∨ Holds S1.dur sz L'))
theorem crash_dur {S : Disk} (hc : S.cache = []) (keep : List Int) (torn : Int) : (S.crash keep torn).dur = S.dur ∧ (S.crash keep torn).cache = [] := by
  unfold Disk.crash
  cases S.off
  · rw [hc]; exact ⟨rfl, rfl⟩
  · exact ⟨rfl, hc⟩
theorem plays_crash (h : PIn B w0 w F G d l S sz n L dn vb vr va vo os may) (A : Option Addr) (nk c : Nat) (keep : List Int) (hn : nk = keep.length) (hnc : nk ≤ c) (hcm : c ≤ maxLen) (hk : SeesI w w.heap.size A keep) (torn : Int) :
    Calls Tryd.prog 25 #[.pointer (some ⟨d, 0, none⟩), .slice A nk c, .int .i64 torn] w fun e w' => e = .returned (.tuple #[]) ∧ ∃ F' S1, PMid B w0 w' F' G d S1 sz n L vb vr va vo os may ∧ Turns F G F' G w w' := by
  refine (crash_any w h.law.both.1.dev (by rw [h.safe]; simp) A nk c keep hn hnc hcm hk torn).mono ?_
  rintro e w' ⟨h1, F', h2, h3, h4⟩
  obtain ⟨e1, e2⟩ := crash_dur h.safe keep torn
  have ht : Turns F G F' G w w' := Turns.dev h3 h4
  refine ⟨h1, F', S.crash keep torn, ⟨h.law.toD.turn h2 h3 h4, e2, by rw [e1]; exact h.len, h.base, h.recs.turns ht, h.other.turns ht, h.law.both.2.1, ?_⟩, ht⟩
  rw [e1]
  rcases h.st with ⟨_, q2, _, q4⟩ | ⟨_, q2, _, q4⟩
  · exact .inl ⟨q2, q4⟩
  · exact .inr ⟨q2, q4⟩
theorem plays_on {S1 : Disk} (h : PMid B w0 w F G d S1 sz n L vb vr va vo os may) :
    Calls Tryd.prog 27 #[.pointer (some ⟨d, 0, none⟩)] w fun e w' => e = .returned (.tuple #[]) ∧ ∃ F' S2, PMid B w0 w' F' G d S2 sz n L vb vr va vo os may ∧ S2.off = false ∧ Turns F G F' G w w' := by
  refine (on_any w h.dev.dev).mono ?_
  rintro e w' ⟨h1, F', h2, h3, h4⟩
  have ht : Turns F G F' G w w' := Turns.dev h3 h4
  exact ⟨h1, F', S1.on, ⟨h.dev.turn h2 h3 h4, h.safe, h.len, h.base, h.recs.turns ht, h.other.turns ht, h.ok, h.st⟩, rfl, ht⟩
/-- Opened again: the old log, or what the last call might have done. -/
theorem plays_open {S1 : Disk} (h : PMid B w0 w F G d S1 sz n L vb vr va vo os may) (ho : S1.off = false) (hn : 8 ≤ n) (hsz : sz = (n - 1) / 2) :
    Calls Tryd.prog 20 #[.pointer (some ⟨d, 0, none⟩)] w fun e w' => ∃ m G2 Lx, e = .returned (.tuple #[.pointer (some ⟨m, 0, none⟩), .int .i64 0]) ∧ Law B w0 w' F G2 d m S1 sz Lx false ∧ Holds S1.dur sz Lx ∧ SW w' F G2 vr (L.recs.map bstr) ∧ SW w' F G2 vo os ∧ (Lx = L ∨ may = true ∧ va = bstr Lx.base ∧ os = Lx.recs.map bstr) ∧ (may = true → os.length ≤ 300000) := by
  have hlong : may = true → os.length ≤ 300000 := fun hm => by
    have hdl : S1.dur.length ≤ 8192 := by
      obtain ⟨_, _, _, _, _, _, _, _, _, _, _, _, _, _, hdl⟩ := h.dev.dev
      exact hdl
    have hl := h.len
    rcases h.st with ⟨q, _⟩ | ⟨_, L', q2, _, q4, _⟩
    · rw [q] at hm; cases hm
    · have h1 := L'.used_pos
      have h2 := q2.used
      rw [q4, List.length_map]; omega
  have key : ∃ Lx : Lg, Lx.Ok sz ∧ Holds S1.dur sz Lx ∧ (Lx = L ∨ may = true ∧ va = bstr Lx.base ∧ os = Lx.recs.map bstr) := by
    rcases h.st with ⟨_, q⟩ | ⟨q1, L', q2, q3, q4, q5 | q5⟩
    · exact ⟨L, h.ok, q, .inl rfl⟩
    · exact ⟨L, h.ok, q5, .inl rfl⟩
    · exact ⟨L', q2, q5, .inr ⟨q1, q3, q4⟩⟩
  obtain ⟨Lx, k1, k2, k3⟩ := key
  refine (law_open h.dev ho h.safe k2 (by rw [h.len]; exact hn) (by rw [h.len]; exact hsz) k1).mono ?_
  rintro e w' ⟨m, G2, rfl, hl, hb, hG⟩
  exact ⟨m, G2, Lx, rfl, hl, k2, h.recs.other hb rfl hG, h.other.other hb rfl hG, k3, hlong⟩
theorem plays_arm (h : PIn B w0 w F G d l S sz n L dn vb vr va vo os may) (ho : S.off = false) (calls : Int) (hcw : calls ≤ 9223372036854775807) (A : Option Addr) (nk c : Nat) (keep : List Int) (hn : nk = keep.length) (hk : keep.length ≤ 100000) (hs : SeesI w w.heap.size A keep) (hA : keep ≠ [] → ∀ a, A = some a → a.block < B) (torn : Int) :
    Calls Tryd.prog 30 #[.pointer (some ⟨d, 0, none⟩), .int .i64 calls, .slice A nk c, .int .i64 torn] w fun e w' => e = .returned (.tuple #[]) ∧ ∃ F' S', PIn B w0 w' F' G d l S' sz n L dn vb vr va vo os may := by
  refine (arm_any w h.law.both.1.dev calls hcw A nk c keep hn hk hs (fun hne a ha hm => by have := hA hne a ha; have := h.law.fB _ hm; omega) torn).mono ?_
  rintro e w' ⟨h1, F', h2, h3, h4⟩
  have ht : Turns F G F' G w w' := Turns.dev h3 h4
  have e1 : (S.arm calls keep torn).dur = S.dur ∧ (S.arm calls keep torn).cache = S.cache ∧ (S.arm calls keep torn).off = S.off := by
    unfold Disk.arm; rw [ho]; simp only [cond_false]; split <;> exact ⟨rfl, rfl, by first | rfl | exact ho.symm | exact ho⟩
  refine ⟨h1, F', _, ⟨h.law.turnD h2 h3 h4 (S.arm_len _ _ _), by rw [e1.2.1]; exact h.safe, by rw [e1.1]; exact h.len, h.base, h.recs.turns ht, h.other.turns ht, ?_⟩⟩
  unfold PSt
  rw [e1.1, e1.2.2]
  exact h.st
theorem plays_off (h : PIn B w0 w F G d l S sz n L dn vb vr va vo os may) : Calls Tryd.prog 29 #[.pointer (some ⟨d, 0, none⟩)] w fun e w' => e = .returned (.bool S.off) ∧ w = w' := off_any w h.law.both.1.dev
end
end Go.Proofs.YtdnbbnjmdddfdaaDoor
