/- WalLd20, WalAd12, WalAd4, WalRd5, WalFr1, WalAd7: these texts in one. -/
import Derived.Test.YtambddncncaehaaDoorFlags
import Derived.Test.YtambddncncaehaaDoorAppend
import Derived.WalkKit
import Derived.WalkSpells
import Derived.WalkLawsBesides
import Derived.Lib.Hide
import Derived.Test.YtambddncncaehaaDoorVals
import Derived.IntWalk
namespace Go.Proofs.YtambddncncaehaaDoor
open Go.RowKit
set_option linter.unusedVariables false
set_option linter.unusedSimpArgs false

def opsLd20 : Array Oper := #[
  { dst := some 76, op := Op.move (Operand.tmp 0), type := 27, pos := "wal.go:75", after := #[], guard := none },
  { dst := some 77, op := Op.move (Operand.tmp 0), type := 27, pos := "wal.go:75", after := #[], guard := none },
  { dst := some 78, op := Op.nilCheck (Operand.tmp 77), type := 0, pos := "wal.go:75", after := #[{ on := 1, ground := Ground.data }], guard := none },
  { dst := some 79, op := Op.fieldAddr 58 (Operand.tmp 78) 6, type := 0, pos := "wal.go:75", after := #[{ on := 2, ground := Ground.data }], guard := none },
  { dst := some 80, op := Op.load 33 (Operand.tmp 79), type := 33, pos := "wal.go:75", after := #[{ on := 3, ground := Ground.data }], guard := none },
  { dst := some 81, op := Op.fieldAddr 61 (Operand.tmp 12) 1, type := 0, pos := "wal.go:75", after := #[], guard := none },
  { dst := some 82, op := Op.load 31 (Operand.tmp 81), type := 31, pos := "wal.go:75", after := #[{ on := 5, ground := Ground.data }], guard := none },
  { dst := some 83, op := Op.buildSlice 33 1 #[(0, Operand.tmp 82)], type := 33, pos := "wal.go:75", after := #[{ on := 6, ground := Ground.data }], guard := none },
  { dst := some 84, op := Op.call { callee := Callee.builtin Builtin.append, args := #[Operand.tmp 80, Operand.tmp 83], argTypes := #[33, 33] }, type := 33, pos := "wal.go:75", after := #[{ on := 4, ground := Ground.data }, { on := 7, ground := Ground.data }], guard := none },
  { dst := some 85, op := Op.nilCheck (Operand.tmp 76), type := 0, pos := "wal.go:75", after := #[{ on := 0, ground := Ground.data }, { on := 0, ground := Ground.phase }, { on := 1, ground := Ground.phase }, { on := 2, ground := Ground.phase }, { on := 3, ground := Ground.phase }, { on := 4, ground := Ground.phase }, { on := 5, ground := Ground.phase }, { on := 6, ground := Ground.phase }, { on := 7, ground := Ground.phase }, { on := 8, ground := Ground.phase }], guard := none },
  { dst := some 86, op := Op.fieldAddr 58 (Operand.tmp 85) 6, type := 0, pos := "wal.go:75", after := #[{ on := 9, ground := Ground.data }, { on := 0, ground := Ground.phase }, { on := 1, ground := Ground.phase }, { on := 2, ground := Ground.phase }, { on := 3, ground := Ground.phase }, { on := 4, ground := Ground.phase }, { on := 5, ground := Ground.phase }, { on := 6, ground := Ground.phase }, { on := 7, ground := Ground.phase }, { on := 8, ground := Ground.phase }], guard := none },
  { dst := none, op := Op.store 33 (Operand.tmp 86) (Operand.tmp 84), type := 0, pos := "wal.go:75", after := #[{ on := 10, ground := Ground.data }, { on := 8, ground := Ground.data }, { on := 8, ground := Ground.chain }, { on := 0, ground := Ground.phase }, { on := 1, ground := Ground.phase }, { on := 2, ground := Ground.phase }, { on := 3, ground := Ground.phase }, { on := 4, ground := Ground.phase }, { on := 5, ground := Ground.phase }, { on := 6, ground := Ground.phase }, { on := 7, ground := Ground.phase }, { on := 8, ground := Ground.phase }], guard := none }]

def ld20Vals (l rb n c n2 c2 : Nat) (Ar A2 : Option Addr) : List (Nat × Nat × Value) := [(0, 76, .pointer (some ⟨l, 0, none⟩)), (1, 77, .pointer (some ⟨l, 0, none⟩)), (2, 78, .pointer (some ⟨l, 0, none⟩)), (3, 79, .pointer (some ⟨l, 6, none⟩)), (4, 80, .slice Ar n c), (5, 81, .pointer (some ⟨rb, 1, none⟩)), (6, 82, .slice A2 n2 c2), (9, 85, .pointer (some ⟨l, 0, none⟩)), (10, 86, .pointer (some ⟨l, 6, none⟩))]
def ld20C : List (Nat × Nat) := [(7, 83), (8, 84), (11, 1000011)]

set_option maxHeartbeats 4000000 in
set_option maxRecDepth 100000 in
theorem ld20 {Q : Exit → Act → World → Prop} {a0 : Act} {wp : World} (l rb n c n2 c2 : Nat) (Ar A2 : Option Addr) (S : (Nat → Bool) → (Nat → Value) → World → Prop)
    (hsz : 86 < a0.tmps.size) (in0 : a0.eval (.tmp 0) = .pointer (some ⟨l, 0, none⟩)) (in12 : a0.eval (.tmp 12) = .pointer (some ⟨rb, 0, none⟩))
    (hload : ∀ f R w, S f R w → f 1 = false → f 2 = false → w.cell? ⟨l, 6, none⟩ = some (.slice Ar n c)) (hload2 : ∀ f R w, S f R w → f 0 = false → f 1 = false → f 2 = false → w.cell? ⟨rb, 1, none⟩ = some (.slice A2 n2 c2))
    (h0 : ∀ f R w, S f R w → f 0 = false → f 1 = false → f 2 = false → S (setF f 0) (setR R 0 (.slice (some ⟨w.heap.size, 0, none⟩) 1 1)) (w.alloc (.cells #[.slice A2 n2 c2] 31)))
    (h1 : ∀ f R w, S f R w → f 0 = true → f 1 = false → f 2 = false → ∃ v' w', (Builtin.append_ #[33, 33] 33 #[.slice Ar n c, R 0]).run Tryd.prog w = .ok v' w' ∧ S (setF f 1) (setR R 1 v') w')
    (h2 : ∀ f R w, S f R w → f 1 = true → f 2 = false → ∃ A n' c', R 1 = .slice A n' c' ∧ w.cell? ⟨l, 6, none⟩ = some (.slice Ar n c) ∧ w.frozen? ⟨l, 6, none⟩ = false ∧ S (setF f 2) R (w.setCell ⟨l, 6, none⟩ (.slice A n' c')))
    (hS : S (fun _ => false) (resOf ld20C fun t => a0.eval (.tmp t)) wp.drew)
    (fin : ∀ a w f, Fr [76, 77, 78, 79, 80, 81, 82, 83, 84, 85, 86] a0 a → (∀ j, j < 3 → f j = true) → S f (resOf ld20C fun t => a.eval (.tmp t)) w → Q .normal a w) :
    (Code.region 20 opsLd20 true).wp Tryd.prog Q a0 wp := by
  refine region_inv (by kernel_rfl) [76, 77, 78, 79, 80, 81, 82, 83, 84, 85, 86] (by kernel_rfl) (by kernel_rfl) (fun t ht => by simp at ht; omega) (GF (ld20Vals l rb n c n2 c2 Ar A2) ld20C S) (.start hS) ?_
    (fun L a w hf hall hG => fin a w (flagsOf ld20C L) hf  (fun j hj => by
      match j, hj with
      | 0, _ => exact (flagsOf_at (C := ld20C) (j := 0) rfl L).trans (hall 7 (by decide))
      | 1, _ => exact (flagsOf_at (C := ld20C) (j := 1) rfl L).trans (hall 8 (by decide))
      | 2, _ => exact (flagsOf_at (C := ld20C) (j := 2) rfl L).trans (hall 11 (by decide))
      | n + 3, h => exact absurd h (by omega)) hG.1)
  clear hS fin
  intro ix oo ho L a w hfr hG hLi hdep hcl K hK
  have e0 : a.tmps[0]?.getD undef = .pointer (some ⟨l, 0, none⟩) := by rw [← ev]; exact (hfr.same 0 (by decide)).trans in0
  have e12 : a.tmps[12]?.getD undef = .pointer (some ⟨rb, 0, none⟩) := by rw [← ev]; exact (hfr.same 12 (by decide)).trans in12
  clear in0 in12
  match ix, ho with
  | 0, ho =>
    simp only [opsLd20, List.getElem?_toArray, List.getElem?_cons_zero, Option.some.injEq] at ho
    subst ho
    rw [if_pos (show Region.wanted _ _ = true from rfl)]
    have hfin := hK (.pointer (some ⟨l, 0, none⟩)) w (hG.quiet 0 0 76 _ rfl (by kernel_rfl) (by kernel_rfl))
    have HK := Lib.hid hfin
    clear hG hcl hdep hfr hK hfin hLi 
    go_simp
    exact HK.out
  | 1, ho =>
    simp only [opsLd20, List.getElem?_toArray, List.getElem?_cons_succ, List.getElem?_cons_zero, Option.some.injEq] at ho
    subst ho
    rw [if_pos (show Region.wanted _ _ = true from rfl)]
    have hfin := hK (.pointer (some ⟨l, 0, none⟩)) w (hG.quiet 1 1 77 _ rfl (by kernel_rfl) (by kernel_rfl))
    have HK := Lib.hid hfin
    clear hG hcl hdep hfr hK hfin hLi 
    go_simp
    exact HK.out
  | 2, ho =>
    simp only [opsLd20, List.getElem?_toArray, List.getElem?_cons_succ, List.getElem?_cons_zero, Option.some.injEq] at ho
    subst ho
    have x77 : a.tmps[77]?.getD undef = .pointer (some ⟨l, 0, none⟩) := by rw [← ev]; exact hG.val 1 1 77 _ rfl (hdep ⟨1, .data⟩ (by simp) rfl)
    rw [if_pos (show Region.wanted _ _ = true from rfl)]
    have hfin := hK (.pointer (some ⟨l, 0, none⟩)) w (hG.quiet 2 2 78 _ rfl (by kernel_rfl) (by kernel_rfl))
    have HK := Lib.hid hfin
    clear hG hcl hdep hfr hK hfin hLi 
    go_simp
    exact HK.out
  | 3, ho =>
    simp only [opsLd20, List.getElem?_toArray, List.getElem?_cons_succ, List.getElem?_cons_zero, Option.some.injEq] at ho
    subst ho
    have x78 : a.tmps[78]?.getD undef = .pointer (some ⟨l, 0, none⟩) := by rw [← ev]; exact hG.val 2 2 78 _ rfl (hdep ⟨2, .data⟩ (by simp) rfl)
    rw [if_pos (show Region.wanted _ _ = true from rfl)]
    have hfin := hK (.pointer (some ⟨l, 6, none⟩)) w (hG.quiet 3 3 79 _ rfl (by kernel_rfl) (by kernel_rfl))
    have HK := Lib.hid hfin
    clear hG hcl hdep hfr hK hfin hLi 
    go_simp
    exact HK.out
  | 4, ho =>
    simp only [opsLd20, List.getElem?_toArray, List.getElem?_cons_succ, List.getElem?_cons_zero, Option.some.injEq] at ho
    subst ho
    have x79 : a.tmps[79]?.getD undef = .pointer (some ⟨l, 6, none⟩) := by rw [← ev]; exact hG.val 3 3 79 _ rfl (hdep ⟨3, .data⟩ (by simp) rfl)
    rw [if_pos (show Region.wanted _ _ = true from rfl)]
    have hSp := hG.1
    have hf1 : flagsOf ld20C L 1 = false := (flagsOf_at (C := ld20C) (j := 1) rfl L).trans (by
      cases hl : L 8 with
      | false => rfl
      | true => exact absurd (hcl 8 _ rfl (hl) ⟨4, .data⟩ (by simp [opsLd20]) rfl) (by rw [hLi]; decide))
    have hf2 : flagsOf ld20C L 2 = false := (flagsOf_at (C := ld20C) (j := 2) rfl L).trans (by
      cases hl : L 11 with
      | false => rfl
      | true => exact absurd (hcl 11 _ rfl (hl) ⟨4, .phase⟩ (by simp [opsLd20]) rfl) (by rw [hLi]; decide))
    have hfin := hK (.slice Ar n c) w (hG.quiet 4 4 80 _ rfl (by kernel_rfl) (by kernel_rfl))
    have HK := Lib.hid hfin
    generalize (resOf ld20C fun t => a.eval (.tmp t)) = R at *
    generalize flagsOf ld20C L = f at *
    have hcv := hload _ _ _ hSp hf1 hf2
    clear hload hload2 h0 h1 h2
    clear hSp
    clear hG hcl hdep hfr hK hfin hLi 
    go_simp
    exact HK.out
  | 5, ho =>
    simp only [opsLd20, List.getElem?_toArray, List.getElem?_cons_succ, List.getElem?_cons_zero, Option.some.injEq] at ho
    subst ho
    rw [if_pos (show Region.wanted _ _ = true from rfl)]
    have hfin := hK (.pointer (some ⟨rb, 1, none⟩)) w (hG.quiet 5 5 81 _ rfl (by kernel_rfl) (by kernel_rfl))
    have HK := Lib.hid hfin
    clear hG hcl hdep hfr hK hfin hLi 
    go_simp
    exact HK.out
  | 6, ho =>
    simp only [opsLd20, List.getElem?_toArray, List.getElem?_cons_succ, List.getElem?_cons_zero, Option.some.injEq] at ho
    subst ho
    have x81 : a.tmps[81]?.getD undef = .pointer (some ⟨rb, 1, none⟩) := by rw [← ev]; exact hG.val 5 5 81 _ rfl (hdep ⟨5, .data⟩ (by simp) rfl)
    rw [if_pos (show Region.wanted _ _ = true from rfl)]
    have hSp := hG.1
    have hf0 : flagsOf ld20C L 0 = false := (flagsOf_at (C := ld20C) (j := 0) rfl L).trans (by
      cases hl : L 7 with
      | false => rfl
      | true => exact absurd (hcl 7 _ rfl (hl) ⟨6, .data⟩ (by simp [opsLd20]) rfl) (by rw [hLi]; decide))
    have hf1 : flagsOf ld20C L 1 = false := (flagsOf_at (C := ld20C) (j := 1) rfl L).trans (by
      cases hl : L 8 with
      | false => rfl
      | true => exact absurd (hcl 7 _ rfl (hcl 8 _ rfl (hl) ⟨7, .data⟩ (by simp [opsLd20]) rfl) ⟨6, .data⟩ (by simp [opsLd20]) rfl) (by rw [hLi]; decide))
    have hf2 : flagsOf ld20C L 2 = false := (flagsOf_at (C := ld20C) (j := 2) rfl L).trans (by
      cases hl : L 11 with
      | false => rfl
      | true => exact absurd (hcl 11 _ rfl (hl) ⟨6, .phase⟩ (by simp [opsLd20]) rfl) (by rw [hLi]; decide))
    have hfin := hK (.slice A2 n2 c2) w (hG.quiet 6 6 82 _ rfl (by kernel_rfl) (by kernel_rfl))
    have HK := Lib.hid hfin
    generalize (resOf ld20C fun t => a.eval (.tmp t)) = R at *
    generalize flagsOf ld20C L = f at *
    have hcv := hload2 _ _ _ hSp hf0 hf1 hf2
    clear hload hload2 h0 h1 h2
    clear hSp
    clear hG hcl hdep hfr hK hfin hLi 
    go_simp
    exact HK.out
  | 7, ho =>
    simp only [opsLd20, List.getElem?_toArray, List.getElem?_cons_succ, List.getElem?_cons_zero, Option.some.injEq] at ho
    subst ho
    have x82 : a.tmps[82]?.getD undef = .slice A2 n2 c2 := by rw [← ev]; exact hG.val 6 6 82 _ rfl (hdep ⟨6, .data⟩ (by simp) rfl)
    rw [if_pos (show Region.wanted _ _ = true from rfl)]
    have hSj := hG.1
    have hf0 : flagsOf ld20C L 0 = false := (flagsOf_at (C := ld20C) (j := 0) rfl L).trans hLi
    have hf1 : flagsOf ld20C L 1 = false := (flagsOf_at (C := ld20C) (j := 1) rfl L).trans (by
      cases hl : L 8 with
      | false => rfl
      | true => exact absurd (hcl 8 _ rfl (hl) ⟨7, .data⟩ (by simp [opsLd20]) rfl) (by rw [hLi]; decide))
    have hf2 : flagsOf ld20C L 2 = false := (flagsOf_at (C := ld20C) (j := 2) rfl L).trans (by
      cases hl : L 11 with
      | false => rfl
      | true => exact absurd (hcl 11 _ rfl (hl) ⟨7, .phase⟩ (by simp [opsLd20]) rfl) (by rw [hLi]; decide))
    have hfin := fun v w' hs => hK v w' (hG.call 0 (7, 83) rfl (by kernel_rfl) v w' hs)
    have HK := Lib.hid hfin
    generalize (resOf ld20C fun t => a.eval (.tmp t)) = R at *
    generalize flagsOf ld20C L = f at *
    clear hG hcl hdep hfr hK hfin hLi
    have hs := h0 _ _ _ hSj hf0 hf1 hf2
    have hk := HK.out _ _ hs
    have HK2 := Lib.hid hk
    clear hs hk HK hSj hload hload2 h0 h1 h2
    go_simp
    exact HK2.out
  | 8, ho =>
    simp only [opsLd20, List.getElem?_toArray, List.getElem?_cons_succ, List.getElem?_cons_zero, Option.some.injEq] at ho
    subst ho
    have x80 : a.tmps[80]?.getD undef = .slice Ar n c := by rw [← ev]; exact hG.val 4 4 80 _ rfl (hdep ⟨4, .data⟩ (by simp) rfl)
    rw [if_pos (show Region.wanted _ _ = true from rfl)]
    have hSj := hG.1
    have hf0 : flagsOf ld20C L 0 = true := (flagsOf_at (C := ld20C) (j := 0) rfl L).trans (hdep ⟨7, .data⟩ (by simp) rfl)
    have hf1 : flagsOf ld20C L 1 = false := (flagsOf_at (C := ld20C) (j := 1) rfl L).trans hLi
    have hf2 : flagsOf ld20C L 2 = false := (flagsOf_at (C := ld20C) (j := 2) rfl L).trans (by
      cases hl : L 11 with
      | false => rfl
      | true => exact absurd (hcl 11 _ rfl (hl) ⟨8, .data⟩ (by simp [opsLd20]) rfl) (by rw [hLi]; decide))
    have r83 : a.tmps[83]?.getD undef = resOf ld20C (fun t => a.eval (.tmp t)) 0 := by rw [← ev]; exact (resOf_at (C := ld20C) (j := 0) rfl a).symm
    have hfin := fun v w' hs => hK v w' (hG.call 1 (8, 84) rfl (by kernel_rfl) v w' hs)
    have HK := Lib.hid hfin
    generalize (resOf ld20C fun t => a.eval (.tmp t)) = R at *
    generalize flagsOf ld20C L = f at *
    clear hG hcl hdep hfr hK hfin hLi
    obtain ⟨v', w', hrun, hs⟩ := h1 _ _ _ hSj hf0 hf1 hf2
    exact oper_append_run (.tmp 80) (.tmp 83) 33 rfl w _ _ (by rw [ev]; exact x80) (by rw [ev]; exact r83) v' w' hrun (HK.out v' w' hs)
  | 9, ho =>
    simp only [opsLd20, List.getElem?_toArray, List.getElem?_cons_succ, List.getElem?_cons_zero, Option.some.injEq] at ho
    subst ho
    have x76 : a.tmps[76]?.getD undef = .pointer (some ⟨l, 0, none⟩) := by rw [← ev]; exact hG.val 0 0 76 _ rfl (hdep ⟨0, .data⟩ (by simp) rfl)
    rw [if_pos (show Region.wanted _ _ = true from rfl)]
    have hfin := hK (.pointer (some ⟨l, 0, none⟩)) w (hG.quiet 7 9 85 _ rfl (by kernel_rfl) (by kernel_rfl))
    have HK := Lib.hid hfin
    clear hG hcl hdep hfr hK hfin hLi 
    go_simp
    exact HK.out
  | 10, ho =>
    simp only [opsLd20, List.getElem?_toArray, List.getElem?_cons_succ, List.getElem?_cons_zero, Option.some.injEq] at ho
    subst ho
    have x85 : a.tmps[85]?.getD undef = .pointer (some ⟨l, 0, none⟩) := by rw [← ev]; exact hG.val 7 9 85 _ rfl (hdep ⟨9, .data⟩ (by simp) rfl)
    rw [if_pos (show Region.wanted _ _ = true from rfl)]
    have hfin := hK (.pointer (some ⟨l, 6, none⟩)) w (hG.quiet 8 10 86 _ rfl (by kernel_rfl) (by kernel_rfl))
    have HK := Lib.hid hfin
    clear hG hcl hdep hfr hK hfin hLi 
    go_simp
    exact HK.out
  | 11, ho =>
    simp only [opsLd20, List.getElem?_toArray, List.getElem?_cons_succ, List.getElem?_cons_zero, Option.some.injEq] at ho
    subst ho
    have x86 : a.tmps[86]?.getD undef = .pointer (some ⟨l, 6, none⟩) := by rw [← ev]; exact hG.val 8 10 86 _ rfl (hdep ⟨10, .data⟩ (by simp) rfl)
    rw [if_pos (show Region.wanted _ _ = true from rfl)]
    have hSj := hG.1
    have hf0 : flagsOf ld20C L 0 = true := (flagsOf_at (C := ld20C) (j := 0) rfl L).trans (hdep ⟨7, .phase⟩ (by simp) rfl)
    have hf1 : flagsOf ld20C L 1 = true := (flagsOf_at (C := ld20C) (j := 1) rfl L).trans (hdep ⟨8, .data⟩ (by simp) rfl)
    have hf2 : flagsOf ld20C L 2 = false := (flagsOf_at (C := ld20C) (j := 2) rfl L).trans hLi
    have r84 : a.tmps[84]?.getD undef = resOf ld20C (fun t => a.eval (.tmp t)) 1 := by rw [← ev]; exact (resOf_at (C := ld20C) (j := 1) rfl a).symm
    have hfin := fun w' hs => hK undef w' (hG.store 2 (11, 1000011) rfl (by kernel_rfl) undef w' hs)
    have HK := Lib.hid hfin
    generalize (resOf ld20C fun t => a.eval (.tmp t)) = R at *
    generalize flagsOf ld20C L = f at *
    clear hG hcl hdep hfr hK hfin hLi
    obtain ⟨A3, n3, c3, e3, hcell2, hfree2, hs⟩ := h2 _ _ _ hSj hf1 hf2
    rw [e3] at r84
    have hk := HK.out _ hs
    have HK2 := Lib.hid hk
    clear hs hk HK hSj e3 hload hload2 h0 h1 h2
    go_simp
    exact HK2.out
  | n + 12, ho => exact absurd (Array.getElem?_eq_some_iff.1 ho).1 (by show ¬ n + 12 < 12; omega)
end Go.Proofs.YtambddncncaehaaDoor

namespace Go.Proofs.YtambddncncaehaaDoor
open Go.RowKit
set_option linter.unusedVariables false
set_option linter.unusedSimpArgs false

def opsAd12 : Array Oper := #[
  { dst := some 58, op := Op.move (Operand.tmp 0), type := 27, pos := "wal.go:134", after := #[], guard := none },
  { dst := some 59, op := Op.move (Operand.tmp 0), type := 27, pos := "wal.go:134", after := #[], guard := none },
  { dst := some 60, op := Op.nilCheck (Operand.tmp 59), type := 0, pos := "wal.go:134", after := #[{ on := 1, ground := Ground.data }], guard := none },
  { dst := some 61, op := Op.fieldAddr 58 (Operand.tmp 60) 6, type := 0, pos := "wal.go:134", after := #[{ on := 2, ground := Ground.data }], guard := none },
  { dst := some 62, op := Op.load 33 (Operand.tmp 61), type := 33, pos := "wal.go:134", after := #[{ on := 3, ground := Ground.data }], guard := none },
  { dst := some 63, op := Op.move (Operand.tmp 1), type := 31, pos := "wal.go:134", after := #[], guard := none },
  { dst := some 64, op := Op.call { callee := Callee.value (Operand.func 29), args := #[Operand.tmp 63], argTypes := #[31] }, type := 31, pos := "wal.go:134", after := #[{ on := 5, ground := Ground.data }], guard := none },
  { dst := some 65, op := Op.buildSlice 33 1 #[(0, Operand.tmp 64)], type := 33, pos := "wal.go:134", after := #[{ on := 6, ground := Ground.data }], guard := none },
  { dst := some 66, op := Op.call { callee := Callee.builtin Builtin.append, args := #[Operand.tmp 62, Operand.tmp 65], argTypes := #[33, 33] }, type := 33, pos := "wal.go:134", after := #[{ on := 4, ground := Ground.data }, { on := 7, ground := Ground.data }, { on := 6, ground := Ground.chain }], guard := none },
  { dst := some 67, op := Op.nilCheck (Operand.tmp 58), type := 0, pos := "wal.go:134", after := #[{ on := 0, ground := Ground.data }, { on := 0, ground := Ground.phase }, { on := 1, ground := Ground.phase }, { on := 2, ground := Ground.phase }, { on := 3, ground := Ground.phase }, { on := 4, ground := Ground.phase }, { on := 5, ground := Ground.phase }, { on := 6, ground := Ground.phase }, { on := 7, ground := Ground.phase }, { on := 8, ground := Ground.phase }], guard := none },
  { dst := some 68, op := Op.fieldAddr 58 (Operand.tmp 67) 6, type := 0, pos := "wal.go:134", after := #[{ on := 9, ground := Ground.data }, { on := 0, ground := Ground.phase }, { on := 1, ground := Ground.phase }, { on := 2, ground := Ground.phase }, { on := 3, ground := Ground.phase }, { on := 4, ground := Ground.phase }, { on := 5, ground := Ground.phase }, { on := 6, ground := Ground.phase }, { on := 7, ground := Ground.phase }, { on := 8, ground := Ground.phase }], guard := none },
  { dst := none, op := Op.store 33 (Operand.tmp 68) (Operand.tmp 66), type := 0, pos := "wal.go:134", after := #[{ on := 10, ground := Ground.data }, { on := 8, ground := Ground.data }, { on := 8, ground := Ground.chain }, { on := 0, ground := Ground.phase }, { on := 1, ground := Ground.phase }, { on := 2, ground := Ground.phase }, { on := 3, ground := Ground.phase }, { on := 4, ground := Ground.phase }, { on := 5, ground := Ground.phase }, { on := 6, ground := Ground.phase }, { on := 7, ground := Ground.phase }, { on := 8, ground := Ground.phase }], guard := none }]

def ad12Vals (l n c n2 c2 : Nat) (Ar A2 : Option Addr) : List (Nat × Nat × Value) := [(0, 58, .pointer (some ⟨l, 0, none⟩)), (1, 59, .pointer (some ⟨l, 0, none⟩)), (2, 60, .pointer (some ⟨l, 0, none⟩)), (3, 61, .pointer (some ⟨l, 6, none⟩)), (4, 62, .slice Ar n c), (5, 63, .slice A2 n2 c2), (9, 67, .pointer (some ⟨l, 0, none⟩)), (10, 68, .pointer (some ⟨l, 6, none⟩))]
def ad12C : List (Nat × Nat) := [(6, 64), (7, 65), (8, 66), (11, 1000011)]

set_option maxHeartbeats 4000000 in
set_option maxRecDepth 100000 in
theorem ad12 {Q : Exit → Act → World → Prop} {a0 : Act} {wp : World} (l n c n2 c2 : Nat) (Ar A2 : Option Addr) (S : (Nat → Bool) → (Nat → Value) → World → Prop)
    (hsz : 68 < a0.tmps.size) (in0 : a0.eval (.tmp 0) = .pointer (some ⟨l, 0, none⟩)) (in1 : a0.eval (.tmp 1) = .slice A2 n2 c2)
    (hload : ∀ f R w, S f R w → f 2 = false → f 3 = false → w.cell? ⟨l, 6, none⟩ = some (.slice Ar n c))
    (h0 : ∀ f R w, S f R w → f 0 = false → f 1 = false → f 2 = false → f 3 = false → Calls Tryd.prog 29 #[.slice A2 n2 c2] w fun e w' => ∃ v, e = .returned v ∧ S (setF f 0) (setR R 0 v) w')
    (h1 : ∀ f R w, S f R w → f 0 = true → f 1 = false → f 2 = false → f 3 = false → ∃ A n' c', R 0 = .slice A n' c' ∧ S (setF f 1) (setR R 1 (.slice (some ⟨w.heap.size, 0, none⟩) 1 1)) (w.alloc (.cells #[.slice A n' c'] 31)))
    (h2 : ∀ f R w, S f R w → f 1 = true → f 2 = false → f 3 = false → ∃ v' w', (Builtin.append_ #[33, 33] 33 #[.slice Ar n c, R 1]).run Tryd.prog w = .ok v' w' ∧ S (setF f 2) (setR R 2 v') w')
    (h3 : ∀ f R w, S f R w → f 2 = true → f 3 = false → ∃ A n' c', R 2 = .slice A n' c' ∧ w.cell? ⟨l, 6, none⟩ = some (.slice Ar n c) ∧ w.frozen? ⟨l, 6, none⟩ = false ∧ S (setF f 3) R (w.setCell ⟨l, 6, none⟩ (.slice A n' c')))
    (hS : S (fun _ => false) (resOf ad12C fun t => a0.eval (.tmp t)) wp.drew)
    (fin : ∀ a w f, Fr [58, 59, 60, 61, 62, 63, 64, 65, 66, 67, 68] a0 a → (∀ j, j < 4 → f j = true) → S f (resOf ad12C fun t => a.eval (.tmp t)) w → Q .normal a w) :
    (Code.region 12 opsAd12 true).wp Tryd.prog Q a0 wp := by
  refine region_inv (by kernel_rfl) [58, 59, 60, 61, 62, 63, 64, 65, 66, 67, 68] (by kernel_rfl) (by kernel_rfl) (fun t ht => by simp at ht; omega) (GF (ad12Vals l n c n2 c2 Ar A2) ad12C S) (.start hS) ?_
    (fun L a w hf hall hG => fin a w (flagsOf ad12C L) hf  (fun j hj => by
      match j, hj with
      | 0, _ => exact (flagsOf_at (C := ad12C) (j := 0) rfl L).trans (hall 6 (by decide))
      | 1, _ => exact (flagsOf_at (C := ad12C) (j := 1) rfl L).trans (hall 7 (by decide))
      | 2, _ => exact (flagsOf_at (C := ad12C) (j := 2) rfl L).trans (hall 8 (by decide))
      | 3, _ => exact (flagsOf_at (C := ad12C) (j := 3) rfl L).trans (hall 11 (by decide))
      | n + 4, h => exact absurd h (by omega)) hG.1)
  clear hS fin
  intro ix oo ho L a w hfr hG hLi hdep hcl K hK
  have e0 : a.tmps[0]?.getD undef = .pointer (some ⟨l, 0, none⟩) := by rw [← ev]; exact (hfr.same 0 (by decide)).trans in0
  have e1 : a.tmps[1]?.getD undef = .slice A2 n2 c2 := by rw [← ev]; exact (hfr.same 1 (by decide)).trans in1
  clear in0 in1
  match ix, ho with
  | 0, ho =>
    simp only [opsAd12, List.getElem?_toArray, List.getElem?_cons_zero, Option.some.injEq] at ho
    subst ho
    rw [if_pos (show Region.wanted _ _ = true from rfl)]
    have hfin := hK (.pointer (some ⟨l, 0, none⟩)) w (hG.quiet 0 0 58 _ rfl (by kernel_rfl) (by kernel_rfl))
    have HK := Lib.hid hfin
    clear hG hcl hdep hfr hK hfin hLi 
    go_simp
    exact HK.out
  | 1, ho =>
    simp only [opsAd12, List.getElem?_toArray, List.getElem?_cons_succ, List.getElem?_cons_zero, Option.some.injEq] at ho
    subst ho
    rw [if_pos (show Region.wanted _ _ = true from rfl)]
    have hfin := hK (.pointer (some ⟨l, 0, none⟩)) w (hG.quiet 1 1 59 _ rfl (by kernel_rfl) (by kernel_rfl))
    have HK := Lib.hid hfin
    clear hG hcl hdep hfr hK hfin hLi 
    go_simp
    exact HK.out
  | 2, ho =>
    simp only [opsAd12, List.getElem?_toArray, List.getElem?_cons_succ, List.getElem?_cons_zero, Option.some.injEq] at ho
    subst ho
    have x59 : a.tmps[59]?.getD undef = .pointer (some ⟨l, 0, none⟩) := by rw [← ev]; exact hG.val 1 1 59 _ rfl (hdep ⟨1, .data⟩ (by simp) rfl)
    rw [if_pos (show Region.wanted _ _ = true from rfl)]
    have hfin := hK (.pointer (some ⟨l, 0, none⟩)) w (hG.quiet 2 2 60 _ rfl (by kernel_rfl) (by kernel_rfl))
    have HK := Lib.hid hfin
    clear hG hcl hdep hfr hK hfin hLi 
    go_simp
    exact HK.out
  | 3, ho =>
    simp only [opsAd12, List.getElem?_toArray, List.getElem?_cons_succ, List.getElem?_cons_zero, Option.some.injEq] at ho
    subst ho
    have x60 : a.tmps[60]?.getD undef = .pointer (some ⟨l, 0, none⟩) := by rw [← ev]; exact hG.val 2 2 60 _ rfl (hdep ⟨2, .data⟩ (by simp) rfl)
    rw [if_pos (show Region.wanted _ _ = true from rfl)]
    have hfin := hK (.pointer (some ⟨l, 6, none⟩)) w (hG.quiet 3 3 61 _ rfl (by kernel_rfl) (by kernel_rfl))
    have HK := Lib.hid hfin
    clear hG hcl hdep hfr hK hfin hLi 
    go_simp
    exact HK.out
  | 4, ho =>
    simp only [opsAd12, List.getElem?_toArray, List.getElem?_cons_succ, List.getElem?_cons_zero, Option.some.injEq] at ho
    subst ho
    have x61 : a.tmps[61]?.getD undef = .pointer (some ⟨l, 6, none⟩) := by rw [← ev]; exact hG.val 3 3 61 _ rfl (hdep ⟨3, .data⟩ (by simp) rfl)
    rw [if_pos (show Region.wanted _ _ = true from rfl)]
    have hSp := hG.1
    have hf2 : flagsOf ad12C L 2 = false := (flagsOf_at (C := ad12C) (j := 2) rfl L).trans (by
      cases hl : L 8 with
      | false => rfl
      | true => exact absurd (hcl 8 _ rfl (hl) ⟨4, .data⟩ (by simp [opsAd12]) rfl) (by rw [hLi]; decide))
    have hf3 : flagsOf ad12C L 3 = false := (flagsOf_at (C := ad12C) (j := 3) rfl L).trans (by
      cases hl : L 11 with
      | false => rfl
      | true => exact absurd (hcl 11 _ rfl (hl) ⟨4, .phase⟩ (by simp [opsAd12]) rfl) (by rw [hLi]; decide))
    have hfin := hK (.slice Ar n c) w (hG.quiet 4 4 62 _ rfl (by kernel_rfl) (by kernel_rfl))
    have HK := Lib.hid hfin
    generalize (resOf ad12C fun t => a.eval (.tmp t)) = R at *
    generalize flagsOf ad12C L = f at *
    have hcv := hload _ _ _ hSp hf2 hf3
    clear hload h0 h1 h2 h3
    clear hSp
    clear hG hcl hdep hfr hK hfin hLi 
    go_simp
    exact HK.out
  | 5, ho =>
    simp only [opsAd12, List.getElem?_toArray, List.getElem?_cons_succ, List.getElem?_cons_zero, Option.some.injEq] at ho
    subst ho
    rw [if_pos (show Region.wanted _ _ = true from rfl)]
    have hfin := hK (.slice A2 n2 c2) w (hG.quiet 5 5 63 _ rfl (by kernel_rfl) (by kernel_rfl))
    have HK := Lib.hid hfin
    clear hG hcl hdep hfr hK hfin hLi 
    go_simp
    exact HK.out
  | 6, ho =>
    simp only [opsAd12, List.getElem?_toArray, List.getElem?_cons_succ, List.getElem?_cons_zero, Option.some.injEq] at ho
    subst ho
    have x63 : a.tmps[63]?.getD undef = .slice A2 n2 c2 := by rw [← ev]; exact hG.val 5 5 63 _ rfl (hdep ⟨5, .data⟩ (by simp) rfl)
    rw [if_pos (show Region.wanted _ _ = true from rfl)]
    have hSj := hG.1
    have hf0 : flagsOf ad12C L 0 = false := (flagsOf_at (C := ad12C) (j := 0) rfl L).trans hLi
    have hf1 : flagsOf ad12C L 1 = false := (flagsOf_at (C := ad12C) (j := 1) rfl L).trans (by
      cases hl : L 7 with
      | false => rfl
      | true => exact absurd (hcl 7 _ rfl (hl) ⟨6, .data⟩ (by simp [opsAd12]) rfl) (by rw [hLi]; decide))
    have hf2 : flagsOf ad12C L 2 = false := (flagsOf_at (C := ad12C) (j := 2) rfl L).trans (by
      cases hl : L 8 with
      | false => rfl
      | true => exact absurd (hcl 8 _ rfl (hl) ⟨6, .chain⟩ (by simp [opsAd12]) rfl) (by rw [hLi]; decide))
    have hf3 : flagsOf ad12C L 3 = false := (flagsOf_at (C := ad12C) (j := 3) rfl L).trans (by
      cases hl : L 11 with
      | false => rfl
      | true => exact absurd (hcl 11 _ rfl (hl) ⟨6, .phase⟩ (by simp [opsAd12]) rfl) (by rw [hLi]; decide))
    have hfin := fun v w' hs => hK v w' (hG.call 0 (6, 64) rfl (by kernel_rfl) v w' hs)
    have HK := Lib.hid hfin
    generalize (resOf ad12C fun t => a.eval (.tmp t)) = R at *
    generalize flagsOf ad12C L = f at *
    clear hG hcl hdep hfr hK hfin hLi
    have hc := Lib.hid (h0 _ _ _ hSj hf0 hf1 hf2 hf3)
    clear hSj hload h0 h1 h2 h3
    go_simp
    go_at_call 29
    refine hc.out.mono ?_
    rintro e w' ⟨v, rfl, hs⟩
    exact HK.out v w' hs
  | 7, ho =>
    simp only [opsAd12, List.getElem?_toArray, List.getElem?_cons_succ, List.getElem?_cons_zero, Option.some.injEq] at ho
    subst ho
    rw [if_pos (show Region.wanted _ _ = true from rfl)]
    have hSj := hG.1
    have hf0 : flagsOf ad12C L 0 = true := (flagsOf_at (C := ad12C) (j := 0) rfl L).trans (hdep ⟨6, .data⟩ (by simp) rfl)
    have hf1 : flagsOf ad12C L 1 = false := (flagsOf_at (C := ad12C) (j := 1) rfl L).trans hLi
    have hf2 : flagsOf ad12C L 2 = false := (flagsOf_at (C := ad12C) (j := 2) rfl L).trans (by
      cases hl : L 8 with
      | false => rfl
      | true => exact absurd (hcl 8 _ rfl (hl) ⟨7, .data⟩ (by simp [opsAd12]) rfl) (by rw [hLi]; decide))
    have hf3 : flagsOf ad12C L 3 = false := (flagsOf_at (C := ad12C) (j := 3) rfl L).trans (by
      cases hl : L 11 with
      | false => rfl
      | true => exact absurd (hcl 11 _ rfl (hl) ⟨7, .phase⟩ (by simp [opsAd12]) rfl) (by rw [hLi]; decide))
    have r64 : a.tmps[64]?.getD undef = resOf ad12C (fun t => a.eval (.tmp t)) 0 := by rw [← ev]; exact (resOf_at (C := ad12C) (j := 0) rfl a).symm
    have hfin := fun v w' hs => hK v w' (hG.call 1 (7, 65) rfl (by kernel_rfl) v w' hs)
    have HK := Lib.hid hfin
    generalize (resOf ad12C fun t => a.eval (.tmp t)) = R at *
    generalize flagsOf ad12C L = f at *
    clear hG hcl hdep hfr hK hfin hLi
    obtain ⟨A3, n3, c3, e3, hs⟩ := h1 _ _ _ hSj hf0 hf1 hf2 hf3
    rw [e3] at r64
    have hk := HK.out _ _ hs
    have HK2 := Lib.hid hk
    clear hs hk HK hSj e3 hload h0 h1 h2 h3
    go_simp
    exact HK2.out
  | 8, ho =>
    simp only [opsAd12, List.getElem?_toArray, List.getElem?_cons_succ, List.getElem?_cons_zero, Option.some.injEq] at ho
    subst ho
    have x62 : a.tmps[62]?.getD undef = .slice Ar n c := by rw [← ev]; exact hG.val 4 4 62 _ rfl (hdep ⟨4, .data⟩ (by simp) rfl)
    rw [if_pos (show Region.wanted _ _ = true from rfl)]
    have hSj := hG.1
    have hf0 : flagsOf ad12C L 0 = true := (flagsOf_at (C := ad12C) (j := 0) rfl L).trans (hdep ⟨6, .chain⟩ (by simp) rfl)
    have hf1 : flagsOf ad12C L 1 = true := (flagsOf_at (C := ad12C) (j := 1) rfl L).trans (hdep ⟨7, .data⟩ (by simp) rfl)
    have hf2 : flagsOf ad12C L 2 = false := (flagsOf_at (C := ad12C) (j := 2) rfl L).trans hLi
    have hf3 : flagsOf ad12C L 3 = false := (flagsOf_at (C := ad12C) (j := 3) rfl L).trans (by
      cases hl : L 11 with
      | false => rfl
      | true => exact absurd (hcl 11 _ rfl (hl) ⟨8, .data⟩ (by simp [opsAd12]) rfl) (by rw [hLi]; decide))
    have r65 : a.tmps[65]?.getD undef = resOf ad12C (fun t => a.eval (.tmp t)) 1 := by rw [← ev]; exact (resOf_at (C := ad12C) (j := 1) rfl a).symm
    have hfin := fun v w' hs => hK v w' (hG.call 2 (8, 66) rfl (by kernel_rfl) v w' hs)
    have HK := Lib.hid hfin
    generalize (resOf ad12C fun t => a.eval (.tmp t)) = R at *
    generalize flagsOf ad12C L = f at *
    clear hG hcl hdep hfr hK hfin hLi
    obtain ⟨v', w', hrun, hs⟩ := h2 _ _ _ hSj hf1 hf2 hf3
    exact oper_append_run (.tmp 62) (.tmp 65) 33 rfl w _ _ (by rw [ev]; exact x62) (by rw [ev]; exact r65) v' w' hrun (HK.out v' w' hs)
  | 9, ho =>
    simp only [opsAd12, List.getElem?_toArray, List.getElem?_cons_succ, List.getElem?_cons_zero, Option.some.injEq] at ho
    subst ho
    have x58 : a.tmps[58]?.getD undef = .pointer (some ⟨l, 0, none⟩) := by rw [← ev]; exact hG.val 0 0 58 _ rfl (hdep ⟨0, .data⟩ (by simp) rfl)
    rw [if_pos (show Region.wanted _ _ = true from rfl)]
    have hfin := hK (.pointer (some ⟨l, 0, none⟩)) w (hG.quiet 6 9 67 _ rfl (by kernel_rfl) (by kernel_rfl))
    have HK := Lib.hid hfin
    clear hG hcl hdep hfr hK hfin hLi 
    go_simp
    exact HK.out
  | 10, ho =>
    simp only [opsAd12, List.getElem?_toArray, List.getElem?_cons_succ, List.getElem?_cons_zero, Option.some.injEq] at ho
    subst ho
    have x67 : a.tmps[67]?.getD undef = .pointer (some ⟨l, 0, none⟩) := by rw [← ev]; exact hG.val 6 9 67 _ rfl (hdep ⟨9, .data⟩ (by simp) rfl)
    rw [if_pos (show Region.wanted _ _ = true from rfl)]
    have hfin := hK (.pointer (some ⟨l, 6, none⟩)) w (hG.quiet 7 10 68 _ rfl (by kernel_rfl) (by kernel_rfl))
    have HK := Lib.hid hfin
    clear hG hcl hdep hfr hK hfin hLi 
    go_simp
    exact HK.out
  | 11, ho =>
    simp only [opsAd12, List.getElem?_toArray, List.getElem?_cons_succ, List.getElem?_cons_zero, Option.some.injEq] at ho
    subst ho
    have x68 : a.tmps[68]?.getD undef = .pointer (some ⟨l, 6, none⟩) := by rw [← ev]; exact hG.val 7 10 68 _ rfl (hdep ⟨10, .data⟩ (by simp) rfl)
    rw [if_pos (show Region.wanted _ _ = true from rfl)]
    have hSj := hG.1
    have hf0 : flagsOf ad12C L 0 = true := (flagsOf_at (C := ad12C) (j := 0) rfl L).trans (hdep ⟨6, .phase⟩ (by simp) rfl)
    have hf1 : flagsOf ad12C L 1 = true := (flagsOf_at (C := ad12C) (j := 1) rfl L).trans (hdep ⟨7, .phase⟩ (by simp) rfl)
    have hf2 : flagsOf ad12C L 2 = true := (flagsOf_at (C := ad12C) (j := 2) rfl L).trans (hdep ⟨8, .data⟩ (by simp) rfl)
    have hf3 : flagsOf ad12C L 3 = false := (flagsOf_at (C := ad12C) (j := 3) rfl L).trans hLi
    have r66 : a.tmps[66]?.getD undef = resOf ad12C (fun t => a.eval (.tmp t)) 2 := by rw [← ev]; exact (resOf_at (C := ad12C) (j := 2) rfl a).symm
    have hfin := fun w' hs => hK undef w' (hG.store 3 (11, 1000011) rfl (by kernel_rfl) undef w' hs)
    have HK := Lib.hid hfin
    generalize (resOf ad12C fun t => a.eval (.tmp t)) = R at *
    generalize flagsOf ad12C L = f at *
    clear hG hcl hdep hfr hK hfin hLi
    obtain ⟨A3, n3, c3, e3, hcell2, hfree2, hs⟩ := h3 _ _ _ hSj hf2 hf3
    rw [e3] at r66
    have hk := HK.out _ hs
    have HK2 := Lib.hid hk
    clear hs hk HK hSj e3 hload h0 h1 h2 h3
    go_simp
    exact HK2.out
  | n + 12, ho => exact absurd (Array.getElem?_eq_some_iff.1 ho).1 (by show ¬ n + 12 < 12; omega)
end Go.Proofs.YtambddncncaehaaDoor

namespace Go.Proofs.YtambddncncaehaaDoor
open Go.RowKit
set_option linter.unusedVariables false
set_option linter.unusedSimpArgs false

def opsAd4 : Array Oper := #[
  { dst := some 22, op := Op.move (Operand.tmp 0), type := 27, pos := "wal.go:124", after := #[], guard := none },
  { dst := some 23, op := Op.nilCheck (Operand.tmp 22), type := 0, pos := "wal.go:124", after := #[{ on := 0, ground := Ground.data }], guard := none },
  { dst := some 24, op := Op.fieldAddr 58 (Operand.tmp 23) 4, type := 0, pos := "wal.go:124", after := #[{ on := 1, ground := Ground.data }], guard := none },
  { dst := some 25, op := Op.load 31 (Operand.tmp 24), type := 31, pos := "wal.go:124", after := #[{ on := 2, ground := Ground.data }], guard := none },
  { dst := some 26, op := Op.load 61 (Operand.tmp 5), type := 61, pos := "wal.go:124", after := #[], guard := none },
  { dst := some 27, op := Op.call { callee := Callee.value (Operand.func 25), args := #[Operand.tmp 25, Operand.tmp 26], argTypes := #[31, 61] }, type := 62, pos := "wal.go:124", after := #[{ on := 3, ground := Ground.data }, { on := 4, ground := Ground.data }], guard := none },
  { dst := some 21, op := Op.move (Operand.tmp 27), type := 62, pos := "wal.go:124", after := #[{ on := 5, ground := Ground.data }], guard := none },
  { dst := some 28, op := Op.extract (Operand.tmp 21) 0, type := 31, pos := "wal.go:124", after := #[{ on := 6, ground := Ground.data }], guard := none },
  { dst := some 29, op := Op.extract (Operand.tmp 21) 1, type := 24, pos := "wal.go:124", after := #[{ on := 6, ground := Ground.data }, { on := 9, ground := Ground.gcOnly Departure.lateStores }], guard := none },
  { dst := some 6, op := Op.assign (Operand.tmp 28), type := 31, pos := "wal.go:124", after := #[{ on := 7, ground := Ground.data }, { on := 5, ground := Ground.chain }, { on := 0, ground := Ground.phase }, { on := 1, ground := Ground.phase }, { on := 2, ground := Ground.phase }, { on := 3, ground := Ground.phase }, { on := 4, ground := Ground.phase }, { on := 5, ground := Ground.phase }, { on := 6, ground := Ground.phase }, { on := 7, ground := Ground.phase }, { on := 8, ground := Ground.textOnly Departure.lateStores }], guard := none },
  { dst := some 7, op := Op.assign (Operand.tmp 29), type := 24, pos := "wal.go:124", after := #[{ on := 8, ground := Ground.data }, { on := 9, ground := Ground.chain }, { on := 0, ground := Ground.phase }, { on := 1, ground := Ground.phase }, { on := 2, ground := Ground.phase }, { on := 3, ground := Ground.phase }, { on := 4, ground := Ground.phase }, { on := 5, ground := Ground.phase }, { on := 6, ground := Ground.phase }, { on := 7, ground := Ground.phase }, { on := 8, ground := Ground.phase }, { on := 9, ground := Ground.phase }], guard := none }]

def ad4Vals (l rb n c n2 c2 : Nat) (At A2 : Option Addr) (z : Int) : List (Nat × Nat × Value) := [(0, 22, .pointer (some ⟨l, 0, none⟩)), (1, 23, .pointer (some ⟨l, 0, none⟩)), (2, 24, .pointer (some ⟨l, 4, none⟩)), (3, 25, .slice At n c), (4, 26, .agg #[.int .i64 z, .slice A2 n2 c2])]
def ad4C : List (Nat × Nat) := [(5, 27), (6, 21), (7, 28), (8, 29), (9, 6), (10, 7)]

set_option maxHeartbeats 4000000 in
set_option maxRecDepth 100000 in
theorem ad4 {Q : Exit → Act → World → Prop} {a0 : Act} {wp : World} (l rb n c n2 c2 : Nat) (At A2 : Option Addr) (z : Int) (S : (Nat → Bool) → (Nat → Value) → World → Prop)
    (hsz : 29 < a0.tmps.size) (in0 : a0.eval (.tmp 0) = .pointer (some ⟨l, 0, none⟩)) (in5 : a0.eval (.tmp 5) = .pointer (some ⟨rb, 0, none⟩))
    (hload : ∀ f R w, S f R w → f 0 = false → w.cell? ⟨l, 4, none⟩ = some (.slice At n c)) (hload0 : ∀ f R w, S f R w → f 0 = false → w.cell? ⟨rb, 0, none⟩ = some (.int .i64 z)) (hload1 : ∀ f R w, S f R w → f 0 = false → w.cell? ⟨rb, 1, none⟩ = some (.slice A2 n2 c2))
    (h0 : ∀ f R w, S f R w → f 0 = false → Calls Tryd.prog 25 #[.slice At n c, .agg #[.int .i64 z, .slice A2 n2 c2]] w fun e w' => ∃ v, e = .returned v ∧ S (setF f 0) (setR R 0 v) w')
    (h1 : ∀ f R w, S f R w → f 0 = true → f 1 = false → S (setF f 1) (setR R 1 (R 0)) w)
    (h2 : ∀ f R w, S f R w → f 1 = true → f 2 = false → ∃ x y, R 1 = .tuple #[x, y] ∧ S (setF f 2) (setR R 2 x) w)
    (h3 : ∀ f R w, S f R w → f 1 = true → f 3 = false → ∃ x y, R 1 = .tuple #[x, y] ∧ S (setF f 3) (setR R 3 y) w)
    (h4 : ∀ f R w, S f R w → f 2 = true → f 4 = false → S (setF f 4) (setR R 4 (R 2)) w)
    (h5 : ∀ f R w, S f R w → f 3 = true → f 5 = false → S (setF f 5) (setR R 5 (R 3)) w)
    (hS : S (fun _ => false) (resOf ad4C fun t => a0.eval (.tmp t)) wp.drew)
    (fin : ∀ a w f, Fr [22, 23, 24, 25, 26, 27, 21, 28, 29, 6, 7] a0 a → (∀ j, j < 6 → f j = true) → S f (resOf ad4C fun t => a.eval (.tmp t)) w → Q .normal a w) :
    (Code.region 4 opsAd4 true).wp Tryd.prog Q a0 wp := by
  refine region_inv (by kernel_rfl) [22, 23, 24, 25, 26, 27, 21, 28, 29, 6, 7] (by kernel_rfl) (by kernel_rfl) (fun t ht => by simp at ht; omega) (GF (ad4Vals l rb n c n2 c2 At A2 z) ad4C S) (.start hS) ?_
    (fun L a w hf hall hG => fin a w (flagsOf ad4C L) hf  (fun j hj => by
      match j, hj with
      | 0, _ => exact (flagsOf_at (C := ad4C) (j := 0) rfl L).trans (hall 5 (by decide))
      | 1, _ => exact (flagsOf_at (C := ad4C) (j := 1) rfl L).trans (hall 6 (by decide))
      | 2, _ => exact (flagsOf_at (C := ad4C) (j := 2) rfl L).trans (hall 7 (by decide))
      | 3, _ => exact (flagsOf_at (C := ad4C) (j := 3) rfl L).trans (hall 8 (by decide))
      | 4, _ => exact (flagsOf_at (C := ad4C) (j := 4) rfl L).trans (hall 9 (by decide))
      | 5, _ => exact (flagsOf_at (C := ad4C) (j := 5) rfl L).trans (hall 10 (by decide))
      | n + 6, h => exact absurd h (by omega)) hG.1)
  clear hS fin
  intro ix oo ho L a w hfr hG hLi hdep hcl K hK
  have e0 : a.tmps[0]?.getD undef = .pointer (some ⟨l, 0, none⟩) := by rw [← ev]; exact (hfr.same 0 (by decide)).trans in0
  have e5 : a.tmps[5]?.getD undef = .pointer (some ⟨rb, 0, none⟩) := by rw [← ev]; exact (hfr.same 5 (by decide)).trans in5
  clear in0 in5
  match ix, ho with
  | 0, ho =>
    simp only [opsAd4, List.getElem?_toArray, List.getElem?_cons_zero, Option.some.injEq] at ho
    subst ho
    rw [if_pos (show Region.wanted _ _ = true from rfl)]
    have hfin := hK (.pointer (some ⟨l, 0, none⟩)) w (hG.quiet 0 0 22 _ rfl (by kernel_rfl) (by kernel_rfl))
    have HK := Lib.hid hfin
    clear hG hcl hdep hfr hK hfin hLi 
    go_simp
    exact HK.out
  | 1, ho =>
    simp only [opsAd4, List.getElem?_toArray, List.getElem?_cons_succ, List.getElem?_cons_zero, Option.some.injEq] at ho
    subst ho
    have x22 : a.tmps[22]?.getD undef = .pointer (some ⟨l, 0, none⟩) := by rw [← ev]; exact hG.val 0 0 22 _ rfl (hdep ⟨0, .data⟩ (by simp) rfl)
    rw [if_pos (show Region.wanted _ _ = true from rfl)]
    have hfin := hK (.pointer (some ⟨l, 0, none⟩)) w (hG.quiet 1 1 23 _ rfl (by kernel_rfl) (by kernel_rfl))
    have HK := Lib.hid hfin
    clear hG hcl hdep hfr hK hfin hLi 
    go_simp
    exact HK.out
  | 2, ho =>
    simp only [opsAd4, List.getElem?_toArray, List.getElem?_cons_succ, List.getElem?_cons_zero, Option.some.injEq] at ho
    subst ho
    have x23 : a.tmps[23]?.getD undef = .pointer (some ⟨l, 0, none⟩) := by rw [← ev]; exact hG.val 1 1 23 _ rfl (hdep ⟨1, .data⟩ (by simp) rfl)
    rw [if_pos (show Region.wanted _ _ = true from rfl)]
    have hfin := hK (.pointer (some ⟨l, 4, none⟩)) w (hG.quiet 2 2 24 _ rfl (by kernel_rfl) (by kernel_rfl))
    have HK := Lib.hid hfin
    clear hG hcl hdep hfr hK hfin hLi 
    go_simp
    exact HK.out
  | 3, ho =>
    simp only [opsAd4, List.getElem?_toArray, List.getElem?_cons_succ, List.getElem?_cons_zero, Option.some.injEq] at ho
    subst ho
    have x24 : a.tmps[24]?.getD undef = .pointer (some ⟨l, 4, none⟩) := by rw [← ev]; exact hG.val 2 2 24 _ rfl (hdep ⟨2, .data⟩ (by simp) rfl)
    rw [if_pos (show Region.wanted _ _ = true from rfl)]
    have hSp := hG.1
    have hf0 : flagsOf ad4C L 0 = false := (flagsOf_at (C := ad4C) (j := 0) rfl L).trans (by
      cases hl : L 5 with
      | false => rfl
      | true => exact absurd (hcl 5 _ rfl (hl) ⟨3, .data⟩ (by simp [opsAd4]) rfl) (by rw [hLi]; decide))
    have hf1 : flagsOf ad4C L 1 = false := (flagsOf_at (C := ad4C) (j := 1) rfl L).trans (by
      cases hl : L 6 with
      | false => rfl
      | true => exact absurd (hcl 5 _ rfl (hcl 6 _ rfl (hl) ⟨5, .data⟩ (by simp [opsAd4]) rfl) ⟨3, .data⟩ (by simp [opsAd4]) rfl) (by rw [hLi]; decide))
    have hf2 : flagsOf ad4C L 2 = false := (flagsOf_at (C := ad4C) (j := 2) rfl L).trans (by
      cases hl : L 7 with
      | false => rfl
      | true => exact absurd (hcl 5 _ rfl (hcl 6 _ rfl (hcl 7 _ rfl (hl) ⟨6, .data⟩ (by simp [opsAd4]) rfl) ⟨5, .data⟩ (by simp [opsAd4]) rfl) ⟨3, .data⟩ (by simp [opsAd4]) rfl) (by rw [hLi]; decide))
    have hf3 : flagsOf ad4C L 3 = false := (flagsOf_at (C := ad4C) (j := 3) rfl L).trans (by
      cases hl : L 8 with
      | false => rfl
      | true => exact absurd (hcl 5 _ rfl (hcl 6 _ rfl (hcl 8 _ rfl (hl) ⟨6, .data⟩ (by simp [opsAd4]) rfl) ⟨5, .data⟩ (by simp [opsAd4]) rfl) ⟨3, .data⟩ (by simp [opsAd4]) rfl) (by rw [hLi]; decide))
    have hf4 : flagsOf ad4C L 4 = false := (flagsOf_at (C := ad4C) (j := 4) rfl L).trans (by
      cases hl : L 9 with
      | false => rfl
      | true => exact absurd (hcl 9 _ rfl (hl) ⟨3, .phase⟩ (by simp [opsAd4]) rfl) (by rw [hLi]; decide))
    have hf5 : flagsOf ad4C L 5 = false := (flagsOf_at (C := ad4C) (j := 5) rfl L).trans (by
      cases hl : L 10 with
      | false => rfl
      | true => exact absurd (hcl 10 _ rfl (hl) ⟨3, .phase⟩ (by simp [opsAd4]) rfl) (by rw [hLi]; decide))
    have hfin := hK (.slice At n c) w (hG.quiet 3 3 25 _ rfl (by kernel_rfl) (by kernel_rfl))
    have HK := Lib.hid hfin
    generalize (resOf ad4C fun t => a.eval (.tmp t)) = R at *
    generalize flagsOf ad4C L = f at *
    have hcv := hload _ _ _ hSp hf0
    clear hload hload0 hload1 h0 h1 h2 h3 h4 h5
    clear hSp
    clear hG hcl hdep hfr hK hfin hLi 
    go_simp
    exact HK.out
  | 4, ho =>
    simp only [opsAd4, List.getElem?_toArray, List.getElem?_cons_succ, List.getElem?_cons_zero, Option.some.injEq] at ho
    subst ho
    rw [if_pos (show Region.wanted _ _ = true from rfl)]
    have hSp := hG.1
    have hf0 : flagsOf ad4C L 0 = false := (flagsOf_at (C := ad4C) (j := 0) rfl L).trans (by
      cases hl : L 5 with
      | false => rfl
      | true => exact absurd (hcl 5 _ rfl (hl) ⟨4, .data⟩ (by simp [opsAd4]) rfl) (by rw [hLi]; decide))
    have hf1 : flagsOf ad4C L 1 = false := (flagsOf_at (C := ad4C) (j := 1) rfl L).trans (by
      cases hl : L 6 with
      | false => rfl
      | true => exact absurd (hcl 5 _ rfl (hcl 6 _ rfl (hl) ⟨5, .data⟩ (by simp [opsAd4]) rfl) ⟨4, .data⟩ (by simp [opsAd4]) rfl) (by rw [hLi]; decide))
    have hf2 : flagsOf ad4C L 2 = false := (flagsOf_at (C := ad4C) (j := 2) rfl L).trans (by
      cases hl : L 7 with
      | false => rfl
      | true => exact absurd (hcl 5 _ rfl (hcl 6 _ rfl (hcl 7 _ rfl (hl) ⟨6, .data⟩ (by simp [opsAd4]) rfl) ⟨5, .data⟩ (by simp [opsAd4]) rfl) ⟨4, .data⟩ (by simp [opsAd4]) rfl) (by rw [hLi]; decide))
    have hf3 : flagsOf ad4C L 3 = false := (flagsOf_at (C := ad4C) (j := 3) rfl L).trans (by
      cases hl : L 8 with
      | false => rfl
      | true => exact absurd (hcl 5 _ rfl (hcl 6 _ rfl (hcl 8 _ rfl (hl) ⟨6, .data⟩ (by simp [opsAd4]) rfl) ⟨5, .data⟩ (by simp [opsAd4]) rfl) ⟨4, .data⟩ (by simp [opsAd4]) rfl) (by rw [hLi]; decide))
    have hf4 : flagsOf ad4C L 4 = false := (flagsOf_at (C := ad4C) (j := 4) rfl L).trans (by
      cases hl : L 9 with
      | false => rfl
      | true => exact absurd (hcl 9 _ rfl (hl) ⟨4, .phase⟩ (by simp [opsAd4]) rfl) (by rw [hLi]; decide))
    have hf5 : flagsOf ad4C L 5 = false := (flagsOf_at (C := ad4C) (j := 5) rfl L).trans (by
      cases hl : L 10 with
      | false => rfl
      | true => exact absurd (hcl 10 _ rfl (hl) ⟨4, .phase⟩ (by simp [opsAd4]) rfl) (by rw [hLi]; decide))
    have hfin := hK (.agg #[.int .i64 z, .slice A2 n2 c2]) w (hG.quiet 4 4 26 _ rfl (by kernel_rfl) (by kernel_rfl))
    have HK := Lib.hid hfin
    generalize (resOf ad4C fun t => a.eval (.tmp t)) = R at *
    generalize flagsOf ad4C L = f at *
    have q0 := hload0 _ _ _ hSp hf0
    have q1 := hload1 _ _ _ hSp hf0
    clear hload hload0 hload1 h0 h1 h2 h3 h4 h5
    clear hSp
    clear hG hcl hdep hfr hK hfin hLi 
    go_simp
    exact HK.out
  | 5, ho =>
    simp only [opsAd4, List.getElem?_toArray, List.getElem?_cons_succ, List.getElem?_cons_zero, Option.some.injEq] at ho
    subst ho
    have x25 : a.tmps[25]?.getD undef = .slice At n c := by rw [← ev]; exact hG.val 3 3 25 _ rfl (hdep ⟨3, .data⟩ (by simp) rfl)
    have x26 : a.tmps[26]?.getD undef = .agg #[.int .i64 z, .slice A2 n2 c2] := by rw [← ev]; exact hG.val 4 4 26 _ rfl (hdep ⟨4, .data⟩ (by simp) rfl)
    rw [if_pos (show Region.wanted _ _ = true from rfl)]
    have hSj := hG.1
    have hf0 : flagsOf ad4C L 0 = false := (flagsOf_at (C := ad4C) (j := 0) rfl L).trans hLi
    have hf1 : flagsOf ad4C L 1 = false := (flagsOf_at (C := ad4C) (j := 1) rfl L).trans (by
      cases hl : L 6 with
      | false => rfl
      | true => exact absurd (hcl 6 _ rfl (hl) ⟨5, .data⟩ (by simp [opsAd4]) rfl) (by rw [hLi]; decide))
    have hf2 : flagsOf ad4C L 2 = false := (flagsOf_at (C := ad4C) (j := 2) rfl L).trans (by
      cases hl : L 7 with
      | false => rfl
      | true => exact absurd (hcl 6 _ rfl (hcl 7 _ rfl (hl) ⟨6, .data⟩ (by simp [opsAd4]) rfl) ⟨5, .data⟩ (by simp [opsAd4]) rfl) (by rw [hLi]; decide))
    have hf3 : flagsOf ad4C L 3 = false := (flagsOf_at (C := ad4C) (j := 3) rfl L).trans (by
      cases hl : L 8 with
      | false => rfl
      | true => exact absurd (hcl 6 _ rfl (hcl 8 _ rfl (hl) ⟨6, .data⟩ (by simp [opsAd4]) rfl) ⟨5, .data⟩ (by simp [opsAd4]) rfl) (by rw [hLi]; decide))
    have hf4 : flagsOf ad4C L 4 = false := (flagsOf_at (C := ad4C) (j := 4) rfl L).trans (by
      cases hl : L 9 with
      | false => rfl
      | true => exact absurd (hcl 9 _ rfl (hl) ⟨5, .chain⟩ (by simp [opsAd4]) rfl) (by rw [hLi]; decide))
    have hf5 : flagsOf ad4C L 5 = false := (flagsOf_at (C := ad4C) (j := 5) rfl L).trans (by
      cases hl : L 10 with
      | false => rfl
      | true => exact absurd (hcl 10 _ rfl (hl) ⟨5, .phase⟩ (by simp [opsAd4]) rfl) (by rw [hLi]; decide))
    have hfin := fun v w' hs => hK v w' (hG.call 0 (5, 27) rfl (by kernel_rfl) v w' hs)
    have HK := Lib.hid hfin
    generalize (resOf ad4C fun t => a.eval (.tmp t)) = R at *
    generalize flagsOf ad4C L = f at *
    clear hG hcl hdep hfr hK hfin hLi
    have hc := Lib.hid (h0 _ _ _ hSj hf0)
    clear hSj hload hload0 hload1 h0 h1 h2 h3 h4 h5
    go_simp
    go_at_call 25
    refine hc.out.mono ?_
    rintro e w' ⟨v, rfl, hs⟩
    exact HK.out v w' hs
  | 6, ho =>
    simp only [opsAd4, List.getElem?_toArray, List.getElem?_cons_succ, List.getElem?_cons_zero, Option.some.injEq] at ho
    subst ho
    rw [if_pos (show Region.wanted _ _ = true from rfl)]
    have hSj := hG.1
    have hf0 : flagsOf ad4C L 0 = true := (flagsOf_at (C := ad4C) (j := 0) rfl L).trans (hdep ⟨5, .data⟩ (by simp) rfl)
    have hf1 : flagsOf ad4C L 1 = false := (flagsOf_at (C := ad4C) (j := 1) rfl L).trans hLi
    have hf2 : flagsOf ad4C L 2 = false := (flagsOf_at (C := ad4C) (j := 2) rfl L).trans (by
      cases hl : L 7 with
      | false => rfl
      | true => exact absurd (hcl 7 _ rfl (hl) ⟨6, .data⟩ (by simp [opsAd4]) rfl) (by rw [hLi]; decide))
    have hf3 : flagsOf ad4C L 3 = false := (flagsOf_at (C := ad4C) (j := 3) rfl L).trans (by
      cases hl : L 8 with
      | false => rfl
      | true => exact absurd (hcl 8 _ rfl (hl) ⟨6, .data⟩ (by simp [opsAd4]) rfl) (by rw [hLi]; decide))
    have hf4 : flagsOf ad4C L 4 = false := (flagsOf_at (C := ad4C) (j := 4) rfl L).trans (by
      cases hl : L 9 with
      | false => rfl
      | true => exact absurd (hcl 9 _ rfl (hl) ⟨6, .phase⟩ (by simp [opsAd4]) rfl) (by rw [hLi]; decide))
    have hf5 : flagsOf ad4C L 5 = false := (flagsOf_at (C := ad4C) (j := 5) rfl L).trans (by
      cases hl : L 10 with
      | false => rfl
      | true => exact absurd (hcl 10 _ rfl (hl) ⟨6, .phase⟩ (by simp [opsAd4]) rfl) (by rw [hLi]; decide))
    have r27 : a.tmps[27]?.getD undef = resOf ad4C (fun t => a.eval (.tmp t)) 0 := by rw [← ev]; exact (resOf_at (C := ad4C) (j := 0) rfl a).symm
    have hfin := fun v w' hs => hK v w' (hG.call 1 (6, 21) rfl (by kernel_rfl) v w' hs)
    have HK := Lib.hid hfin
    generalize (resOf ad4C fun t => a.eval (.tmp t)) = R at *
    generalize flagsOf ad4C L = f at *
    clear hG hcl hdep hfr hK hfin hLi
    have hs := h1 _ _ _ hSj hf0 hf1
    have hk := HK.out _ _ hs
    have HK2 := Lib.hid hk
    clear hs hk HK hSj hload hload0 hload1 h0 h1 h2 h3 h4 h5
    go_simp
    exact HK2.out
  | 7, ho =>
    simp only [opsAd4, List.getElem?_toArray, List.getElem?_cons_succ, List.getElem?_cons_zero, Option.some.injEq] at ho
    subst ho
    rw [if_pos (show Region.wanted _ _ = true from rfl)]
    have hSj := hG.1
    have hf0 : flagsOf ad4C L 0 = true := (flagsOf_at (C := ad4C) (j := 0) rfl L).trans (hcl 6 _ rfl (hdep ⟨6, .data⟩ (by simp) rfl) ⟨5, .data⟩ (by simp [opsAd4]) rfl)
    have hf1 : flagsOf ad4C L 1 = true := (flagsOf_at (C := ad4C) (j := 1) rfl L).trans (hdep ⟨6, .data⟩ (by simp) rfl)
    have hf2 : flagsOf ad4C L 2 = false := (flagsOf_at (C := ad4C) (j := 2) rfl L).trans hLi
    have hf4 : flagsOf ad4C L 4 = false := (flagsOf_at (C := ad4C) (j := 4) rfl L).trans (by
      cases hl : L 9 with
      | false => rfl
      | true => exact absurd (hcl 9 _ rfl (hl) ⟨7, .data⟩ (by simp [opsAd4]) rfl) (by rw [hLi]; decide))
    have hf5 : flagsOf ad4C L 5 = false := (flagsOf_at (C := ad4C) (j := 5) rfl L).trans (by
      cases hl : L 10 with
      | false => rfl
      | true => exact absurd (hcl 10 _ rfl (hl) ⟨7, .phase⟩ (by simp [opsAd4]) rfl) (by rw [hLi]; decide))
    have r21 : a.tmps[21]?.getD undef = resOf ad4C (fun t => a.eval (.tmp t)) 1 := by rw [← ev]; exact (resOf_at (C := ad4C) (j := 1) rfl a).symm
    have hfin := fun v w' hs => hK v w' (hG.call 2 (7, 28) rfl (by kernel_rfl) v w' hs)
    have HK := Lib.hid hfin
    generalize (resOf ad4C fun t => a.eval (.tmp t)) = R at *
    generalize flagsOf ad4C L = f at *
    clear hG hcl hdep hfr hK hfin hLi
    obtain ⟨x, y, e1, hs⟩ := h2 _ _ _ hSj hf1 hf2
    rw [e1] at r21
    have hk := HK.out _ _ hs
    have HK2 := Lib.hid hk
    clear hs hk HK hSj e1 hload hload0 hload1 h0 h1 h2 h3 h4 h5
    go_simp
    exact HK2.out
  | 8, ho =>
    simp only [opsAd4, List.getElem?_toArray, List.getElem?_cons_succ, List.getElem?_cons_zero, Option.some.injEq] at ho
    subst ho
    rw [if_pos (show Region.wanted _ _ = true from rfl)]
    have hSj := hG.1
    have hf0 : flagsOf ad4C L 0 = true := (flagsOf_at (C := ad4C) (j := 0) rfl L).trans (hcl 6 _ rfl (hdep ⟨6, .data⟩ (by simp) rfl) ⟨5, .data⟩ (by simp [opsAd4]) rfl)
    have hf1 : flagsOf ad4C L 1 = true := (flagsOf_at (C := ad4C) (j := 1) rfl L).trans (hdep ⟨6, .data⟩ (by simp) rfl)
    have hf3 : flagsOf ad4C L 3 = false := (flagsOf_at (C := ad4C) (j := 3) rfl L).trans hLi
    have hf5 : flagsOf ad4C L 5 = false := (flagsOf_at (C := ad4C) (j := 5) rfl L).trans (by
      cases hl : L 10 with
      | false => rfl
      | true => exact absurd (hcl 10 _ rfl (hl) ⟨8, .data⟩ (by simp [opsAd4]) rfl) (by rw [hLi]; decide))
    have r21 : a.tmps[21]?.getD undef = resOf ad4C (fun t => a.eval (.tmp t)) 1 := by rw [← ev]; exact (resOf_at (C := ad4C) (j := 1) rfl a).symm
    have hfin := fun v w' hs => hK v w' (hG.call 3 (8, 29) rfl (by kernel_rfl) v w' hs)
    have HK := Lib.hid hfin
    generalize (resOf ad4C fun t => a.eval (.tmp t)) = R at *
    generalize flagsOf ad4C L = f at *
    clear hG hcl hdep hfr hK hfin hLi
    obtain ⟨x, y, e1, hs⟩ := h3 _ _ _ hSj hf1 hf3
    rw [e1] at r21
    have hk := HK.out _ _ hs
    have HK2 := Lib.hid hk
    clear hs hk HK hSj e1 hload hload0 hload1 h0 h1 h2 h3 h4 h5
    go_simp
    exact HK2.out
  | 9, ho =>
    simp only [opsAd4, List.getElem?_toArray, List.getElem?_cons_succ, List.getElem?_cons_zero, Option.some.injEq] at ho
    subst ho
    rw [if_pos (show Region.wanted _ _ = true from rfl)]
    have hSj := hG.1
    have hf0 : flagsOf ad4C L 0 = true := (flagsOf_at (C := ad4C) (j := 0) rfl L).trans (hdep ⟨5, .chain⟩ (by simp) rfl)
    have hf1 : flagsOf ad4C L 1 = true := (flagsOf_at (C := ad4C) (j := 1) rfl L).trans (hdep ⟨6, .phase⟩ (by simp) rfl)
    have hf2 : flagsOf ad4C L 2 = true := (flagsOf_at (C := ad4C) (j := 2) rfl L).trans (hdep ⟨7, .data⟩ (by simp) rfl)
    have hf4 : flagsOf ad4C L 4 = false := (flagsOf_at (C := ad4C) (j := 4) rfl L).trans hLi
    have hf5 : flagsOf ad4C L 5 = false := (flagsOf_at (C := ad4C) (j := 5) rfl L).trans (by
      cases hl : L 10 with
      | false => rfl
      | true => exact absurd (hcl 10 _ rfl (hl) ⟨9, .chain⟩ (by simp [opsAd4]) rfl) (by rw [hLi]; decide))
    have r28 : a.tmps[28]?.getD undef = resOf ad4C (fun t => a.eval (.tmp t)) 2 := by rw [← ev]; exact (resOf_at (C := ad4C) (j := 2) rfl a).symm
    have hfin := fun v w' hs => hK v w' (hG.call 4 (9, 6) rfl (by kernel_rfl) v w' hs)
    have HK := Lib.hid hfin
    generalize (resOf ad4C fun t => a.eval (.tmp t)) = R at *
    generalize flagsOf ad4C L = f at *
    clear hG hcl hdep hfr hK hfin hLi
    have hs := h4 _ _ _ hSj hf2 hf4
    have hk := HK.out _ _ hs
    have HK2 := Lib.hid hk
    clear hs hk HK hSj hload hload0 hload1 h0 h1 h2 h3 h4 h5
    go_simp
    exact HK2.out
  | 10, ho =>
    simp only [opsAd4, List.getElem?_toArray, List.getElem?_cons_succ, List.getElem?_cons_zero, Option.some.injEq] at ho
    subst ho
    rw [if_pos (show Region.wanted _ _ = true from rfl)]
    have hSj := hG.1
    have hf0 : flagsOf ad4C L 0 = true := (flagsOf_at (C := ad4C) (j := 0) rfl L).trans (hdep ⟨5, .phase⟩ (by simp) rfl)
    have hf1 : flagsOf ad4C L 1 = true := (flagsOf_at (C := ad4C) (j := 1) rfl L).trans (hdep ⟨6, .phase⟩ (by simp) rfl)
    have hf2 : flagsOf ad4C L 2 = true := (flagsOf_at (C := ad4C) (j := 2) rfl L).trans (hdep ⟨7, .phase⟩ (by simp) rfl)
    have hf3 : flagsOf ad4C L 3 = true := (flagsOf_at (C := ad4C) (j := 3) rfl L).trans (hdep ⟨8, .data⟩ (by simp) rfl)
    have hf4 : flagsOf ad4C L 4 = true := (flagsOf_at (C := ad4C) (j := 4) rfl L).trans (hdep ⟨9, .chain⟩ (by simp) rfl)
    have hf5 : flagsOf ad4C L 5 = false := (flagsOf_at (C := ad4C) (j := 5) rfl L).trans hLi
    have r29 : a.tmps[29]?.getD undef = resOf ad4C (fun t => a.eval (.tmp t)) 3 := by rw [← ev]; exact (resOf_at (C := ad4C) (j := 3) rfl a).symm
    have hfin := fun v w' hs => hK v w' (hG.call 5 (10, 7) rfl (by kernel_rfl) v w' hs)
    have HK := Lib.hid hfin
    generalize (resOf ad4C fun t => a.eval (.tmp t)) = R at *
    generalize flagsOf ad4C L = f at *
    clear hG hcl hdep hfr hK hfin hLi
    have hs := h5 _ _ _ hSj hf3 hf5
    have hk := HK.out _ _ hs
    have HK2 := Lib.hid hk
    clear hs hk HK hSj hload hload0 hload1 h0 h1 h2 h3 h4 h5
    go_simp
    exact HK2.out
  | n + 11, ho => exact absurd (Array.getElem?_eq_some_iff.1 ho).1 (by show ¬ n + 11 < 11; omega)
end Go.Proofs.YtambddncncaehaaDoor

namespace Go.Proofs.YtambddncncaehaaDoor
open Go.RowKit
set_option linter.unusedVariables false
set_option linter.unusedSimpArgs false

def opsRd5 : Array Oper := #[
  { dst := some 19, op := Op.move (Operand.tmp 0), type := 27, pos := "wal.go:103", after := #[], guard := none },
  { dst := some 20, op := Op.nilCheck (Operand.tmp 19), type := 0, pos := "wal.go:103", after := #[{ on := 0, ground := Ground.data }], guard := none },
  { dst := some 21, op := Op.fieldAddr 58 (Operand.tmp 20) 0, type := 0, pos := "wal.go:103", after := #[{ on := 1, ground := Ground.data }], guard := none },
  { dst := some 22, op := Op.load 23 (Operand.tmp 21), type := 23, pos := "wal.go:103", after := #[{ on := 2, ground := Ground.data }], guard := none },
  { dst := some 23, op := Op.move (Operand.tmp 0), type := 27, pos := "wal.go:103", after := #[], guard := none },
  { dst := some 24, op := Op.move (Operand.tmp 1), type := 3, pos := "wal.go:103", after := #[], guard := none },
  { dst := some 25, op := Op.move (Operand.tmp 9), type := 3, pos := "wal.go:103", after := #[], guard := none },
  { dst := some 26, op := Op.call { callee := Callee.value (Operand.func 41), args := #[Operand.tmp 23, Operand.tmp 24, Operand.tmp 25], argTypes := #[27, 3, 3] }, type := 3, pos := "wal.go:103", after := #[{ on := 4, ground := Ground.data }, { on := 5, ground := Ground.data }, { on := 6, ground := Ground.data }], guard := none },
  { dst := some 27, op := Op.call { callee := Callee.value (Operand.func 33), args := #[Operand.tmp 22, Operand.tmp 26], argTypes := #[23, 3] }, type := 62, pos := "wal.go:103", after := #[{ on := 3, ground := Ground.data }, { on := 7, ground := Ground.data }, { on := 7, ground := Ground.chain }], guard := none },
  { dst := some 18, op := Op.move (Operand.tmp 27), type := 62, pos := "wal.go:103", after := #[{ on := 8, ground := Ground.data }], guard := none },
  { dst := some 28, op := Op.extract (Operand.tmp 18) 0, type := 31, pos := "wal.go:103", after := #[{ on := 9, ground := Ground.data }], guard := none },
  { dst := some 29, op := Op.extract (Operand.tmp 18) 1, type := 24, pos := "wal.go:103", after := #[{ on := 9, ground := Ground.data }, { on := 12, ground := Ground.gcOnly Departure.lateStores }], guard := none },
  { dst := some 10, op := Op.assign (Operand.tmp 28), type := 31, pos := "wal.go:103", after := #[{ on := 10, ground := Ground.data }, { on := 8, ground := Ground.chain }, { on := 0, ground := Ground.phase }, { on := 1, ground := Ground.phase }, { on := 2, ground := Ground.phase }, { on := 3, ground := Ground.phase }, { on := 4, ground := Ground.phase }, { on := 5, ground := Ground.phase }, { on := 6, ground := Ground.phase }, { on := 7, ground := Ground.phase }, { on := 8, ground := Ground.phase }, { on := 9, ground := Ground.phase }, { on := 10, ground := Ground.phase }, { on := 11, ground := Ground.textOnly Departure.lateStores }], guard := none },
  { dst := some 11, op := Op.assign (Operand.tmp 29), type := 24, pos := "wal.go:103", after := #[{ on := 11, ground := Ground.data }, { on := 12, ground := Ground.chain }, { on := 0, ground := Ground.phase }, { on := 1, ground := Ground.phase }, { on := 2, ground := Ground.phase }, { on := 3, ground := Ground.phase }, { on := 4, ground := Ground.phase }, { on := 5, ground := Ground.phase }, { on := 6, ground := Ground.phase }, { on := 7, ground := Ground.phase }, { on := 8, ground := Ground.phase }, { on := 9, ground := Ground.phase }, { on := 10, ground := Ground.phase }, { on := 11, ground := Ground.phase }, { on := 12, ground := Ground.phase }], guard := none }]

def rd5Vals (l d : Nat) (half at_ fs : Int) : List (Nat × Nat × Value) := [(0, 19, .pointer (some ⟨l, 0, none⟩)), (1, 20, .pointer (some ⟨l, 0, none⟩)), (2, 21, .pointer (some ⟨l, 0, none⟩)), (3, 22, .pointer (some ⟨d, 0, none⟩)), (4, 23, .pointer (some ⟨l, 0, none⟩)), (5, 24, .int .i64 half), (6, 25, .int .i64 at_)]
def rd5C : List (Nat × Nat) := [(7, 26), (8, 27), (9, 18), (10, 28), (11, 29), (12, 10), (13, 11)]

set_option maxHeartbeats 4000000 in
set_option maxRecDepth 100000 in
theorem rd5 {Q : Exit → Act → World → Prop} {a0 : Act} {wp : World} (l d : Nat) (half at_ fs : Int) (S : (Nat → Bool) → (Nat → Value) → World → Prop)
    (hsz : 29 < a0.tmps.size) (in0 : a0.eval (.tmp 0) = .pointer (some ⟨l, 0, none⟩)) (in1 : a0.eval (.tmp 1) = .int .i64 half) (in9 : a0.eval (.tmp 9) = .int .i64 at_)
    (hload : ∀ f R w, S f R w → f 1 = false → w.cell? ⟨l, 0, none⟩ = some (.pointer (some ⟨d, 0, none⟩)))
    (hs0 : ∀ f R w, S f R w → f 0 = false → f 1 = false → Calls Tryd.prog 41 #[.pointer (some ⟨l, 0, none⟩), .int .i64 half, .int .i64 at_] w fun e w' => ∃ v, e = .returned v ∧ S (setF f 0) (setR R 0 v) w')
    (h0 : ∀ f R w, S f R w → f 0 = true → f 1 = false → R 0 = .int .i64 fs ∧ Calls Tryd.prog 33 #[.pointer (some ⟨d, 0, none⟩), .int .i64 fs] w fun e w' => ∃ v, e = .returned v ∧ S (setF f 1) (setR R 1 v) w')
    (h1 : ∀ f R w, S f R w → f 1 = true → f 2 = false → S (setF f 2) (setR R 2 (R 1)) w)
    (h2 : ∀ f R w, S f R w → f 2 = true → f 3 = false → ∃ x y, R 2 = .tuple #[x, y] ∧ S (setF f 3) (setR R 3 x) w)
    (h3 : ∀ f R w, S f R w → f 2 = true → f 4 = false → ∃ x y, R 2 = .tuple #[x, y] ∧ S (setF f 4) (setR R 4 y) w)
    (h4 : ∀ f R w, S f R w → f 3 = true → f 5 = false → S (setF f 5) (setR R 5 (R 3)) w)
    (h5 : ∀ f R w, S f R w → f 4 = true → f 6 = false → S (setF f 6) (setR R 6 (R 4)) w)
    (hS : S (fun _ => false) (resOf rd5C fun t => a0.eval (.tmp t)) wp.drew)
    (fin : ∀ a w f, Fr [19, 20, 21, 22, 23, 24, 25, 26, 27, 18, 28, 29, 10, 11] a0 a → (∀ j, j < 7 → f j = true) → S f (resOf rd5C fun t => a.eval (.tmp t)) w → Q .normal a w) :
    (Code.region 5 opsRd5 true).wp Tryd.prog Q a0 wp := by
  refine region_inv (by kernel_rfl) [19, 20, 21, 22, 23, 24, 25, 26, 27, 18, 28, 29, 10, 11] (by kernel_rfl) (by kernel_rfl) (fun t ht => by simp at ht; omega) (GF (rd5Vals l d half at_ fs) rd5C S) (.start hS) ?_
    (fun L a w hf hall hG => fin a w (flagsOf rd5C L) hf  (fun j hj => by
      match j, hj with
      | 0, _ => exact (flagsOf_at (C := rd5C) (j := 0) rfl L).trans (hall 7 (by decide))
      | 1, _ => exact (flagsOf_at (C := rd5C) (j := 1) rfl L).trans (hall 8 (by decide))
      | 2, _ => exact (flagsOf_at (C := rd5C) (j := 2) rfl L).trans (hall 9 (by decide))
      | 3, _ => exact (flagsOf_at (C := rd5C) (j := 3) rfl L).trans (hall 10 (by decide))
      | 4, _ => exact (flagsOf_at (C := rd5C) (j := 4) rfl L).trans (hall 11 (by decide))
      | 5, _ => exact (flagsOf_at (C := rd5C) (j := 5) rfl L).trans (hall 12 (by decide))
      | 6, _ => exact (flagsOf_at (C := rd5C) (j := 6) rfl L).trans (hall 13 (by decide))
      | n + 7, h => exact absurd h (by omega)) hG.1)
  clear hS fin
  intro ix oo ho L a w hfr hG hLi hdep hcl K hK
  have e0 : a.tmps[0]?.getD undef = .pointer (some ⟨l, 0, none⟩) := by rw [← ev]; exact (hfr.same 0 (by decide)).trans in0
  have e1 : a.tmps[1]?.getD undef = .int .i64 half := by rw [← ev]; exact (hfr.same 1 (by decide)).trans in1
  have e9 : a.tmps[9]?.getD undef = .int .i64 at_ := by rw [← ev]; exact (hfr.same 9 (by decide)).trans in9
  clear in0 in1 in9
  match ix, ho with
  | 0, ho =>
    simp only [opsRd5, List.getElem?_toArray, List.getElem?_cons_zero, Option.some.injEq] at ho
    subst ho
    rw [if_pos (show Region.wanted _ _ = true from rfl)]
    have hfin := hK (.pointer (some ⟨l, 0, none⟩)) w (hG.quiet 0 0 19 _ rfl (by kernel_rfl) (by kernel_rfl))
    have HK := Lib.hid hfin
    clear hG hcl hdep hfr hK hfin hLi 
    go_simp
    exact HK.out
  | 1, ho =>
    simp only [opsRd5, List.getElem?_toArray, List.getElem?_cons_succ, List.getElem?_cons_zero, Option.some.injEq] at ho
    subst ho
    have x19 : a.tmps[19]?.getD undef = .pointer (some ⟨l, 0, none⟩) := by rw [← ev]; exact hG.val 0 0 19 _ rfl (hdep ⟨0, .data⟩ (by simp) rfl)
    rw [if_pos (show Region.wanted _ _ = true from rfl)]
    have hfin := hK (.pointer (some ⟨l, 0, none⟩)) w (hG.quiet 1 1 20 _ rfl (by kernel_rfl) (by kernel_rfl))
    have HK := Lib.hid hfin
    clear hG hcl hdep hfr hK hfin hLi 
    go_simp
    exact HK.out
  | 2, ho =>
    simp only [opsRd5, List.getElem?_toArray, List.getElem?_cons_succ, List.getElem?_cons_zero, Option.some.injEq] at ho
    subst ho
    have x20 : a.tmps[20]?.getD undef = .pointer (some ⟨l, 0, none⟩) := by rw [← ev]; exact hG.val 1 1 20 _ rfl (hdep ⟨1, .data⟩ (by simp) rfl)
    rw [if_pos (show Region.wanted _ _ = true from rfl)]
    have hfin := hK (.pointer (some ⟨l, 0, none⟩)) w (hG.quiet 2 2 21 _ rfl (by kernel_rfl) (by kernel_rfl))
    have HK := Lib.hid hfin
    clear hG hcl hdep hfr hK hfin hLi 
    go_simp
    exact HK.out
  | 3, ho =>
    simp only [opsRd5, List.getElem?_toArray, List.getElem?_cons_succ, List.getElem?_cons_zero, Option.some.injEq] at ho
    subst ho
    have x21 : a.tmps[21]?.getD undef = .pointer (some ⟨l, 0, none⟩) := by rw [← ev]; exact hG.val 2 2 21 _ rfl (hdep ⟨2, .data⟩ (by simp) rfl)
    rw [if_pos (show Region.wanted _ _ = true from rfl)]
    have hSp := hG.1
    have hf1 : flagsOf rd5C L 1 = false := (flagsOf_at (C := rd5C) (j := 1) rfl L).trans (by
      cases hl : L 8 with
      | false => rfl
      | true => exact absurd (hcl 8 _ rfl (hl) ⟨3, .data⟩ (by simp [opsRd5]) rfl) (by rw [hLi]; decide))
    have hf2 : flagsOf rd5C L 2 = false := (flagsOf_at (C := rd5C) (j := 2) rfl L).trans (by
      cases hl : L 9 with
      | false => rfl
      | true => exact absurd (hcl 8 _ rfl (hcl 9 _ rfl (hl) ⟨8, .data⟩ (by simp [opsRd5]) rfl) ⟨3, .data⟩ (by simp [opsRd5]) rfl) (by rw [hLi]; decide))
    have hf3 : flagsOf rd5C L 3 = false := (flagsOf_at (C := rd5C) (j := 3) rfl L).trans (by
      cases hl : L 10 with
      | false => rfl
      | true => exact absurd (hcl 8 _ rfl (hcl 9 _ rfl (hcl 10 _ rfl (hl) ⟨9, .data⟩ (by simp [opsRd5]) rfl) ⟨8, .data⟩ (by simp [opsRd5]) rfl) ⟨3, .data⟩ (by simp [opsRd5]) rfl) (by rw [hLi]; decide))
    have hf4 : flagsOf rd5C L 4 = false := (flagsOf_at (C := rd5C) (j := 4) rfl L).trans (by
      cases hl : L 11 with
      | false => rfl
      | true => exact absurd (hcl 8 _ rfl (hcl 9 _ rfl (hcl 11 _ rfl (hl) ⟨9, .data⟩ (by simp [opsRd5]) rfl) ⟨8, .data⟩ (by simp [opsRd5]) rfl) ⟨3, .data⟩ (by simp [opsRd5]) rfl) (by rw [hLi]; decide))
    have hf5 : flagsOf rd5C L 5 = false := (flagsOf_at (C := rd5C) (j := 5) rfl L).trans (by
      cases hl : L 12 with
      | false => rfl
      | true => exact absurd (hcl 12 _ rfl (hl) ⟨3, .phase⟩ (by simp [opsRd5]) rfl) (by rw [hLi]; decide))
    have hf6 : flagsOf rd5C L 6 = false := (flagsOf_at (C := rd5C) (j := 6) rfl L).trans (by
      cases hl : L 13 with
      | false => rfl
      | true => exact absurd (hcl 13 _ rfl (hl) ⟨3, .phase⟩ (by simp [opsRd5]) rfl) (by rw [hLi]; decide))
    have hfin := hK (.pointer (some ⟨d, 0, none⟩)) w (hG.quiet 3 3 22 _ rfl (by kernel_rfl) (by kernel_rfl))
    have HK := Lib.hid hfin
    generalize (resOf rd5C fun t => a.eval (.tmp t)) = R at *
    generalize flagsOf rd5C L = f at *
    have hcv := hload _ _ _ hSp hf1
    clear hload hs0 h0 h1 h2 h3 h4 h5
    clear hSp
    clear hG hcl hdep hfr hK hfin hLi 
    go_simp
    exact HK.out
  | 4, ho =>
    simp only [opsRd5, List.getElem?_toArray, List.getElem?_cons_succ, List.getElem?_cons_zero, Option.some.injEq] at ho
    subst ho
    rw [if_pos (show Region.wanted _ _ = true from rfl)]
    have hfin := hK (.pointer (some ⟨l, 0, none⟩)) w (hG.quiet 4 4 23 _ rfl (by kernel_rfl) (by kernel_rfl))
    have HK := Lib.hid hfin
    clear hG hcl hdep hfr hK hfin hLi 
    go_simp
    exact HK.out
  | 5, ho =>
    simp only [opsRd5, List.getElem?_toArray, List.getElem?_cons_succ, List.getElem?_cons_zero, Option.some.injEq] at ho
    subst ho
    rw [if_pos (show Region.wanted _ _ = true from rfl)]
    have hfin := hK (.int .i64 half) w (hG.quiet 5 5 24 _ rfl (by kernel_rfl) (by kernel_rfl))
    have HK := Lib.hid hfin
    clear hG hcl hdep hfr hK hfin hLi 
    go_simp
    exact HK.out
  | 6, ho =>
    simp only [opsRd5, List.getElem?_toArray, List.getElem?_cons_succ, List.getElem?_cons_zero, Option.some.injEq] at ho
    subst ho
    rw [if_pos (show Region.wanted _ _ = true from rfl)]
    have hfin := hK (.int .i64 at_) w (hG.quiet 6 6 25 _ rfl (by kernel_rfl) (by kernel_rfl))
    have HK := Lib.hid hfin
    clear hG hcl hdep hfr hK hfin hLi 
    go_simp
    exact HK.out
  | 7, ho =>
    simp only [opsRd5, List.getElem?_toArray, List.getElem?_cons_succ, List.getElem?_cons_zero, Option.some.injEq] at ho
    subst ho
    have x23 : a.tmps[23]?.getD undef = .pointer (some ⟨l, 0, none⟩) := by rw [← ev]; exact hG.val 4 4 23 _ rfl (hdep ⟨4, .data⟩ (by simp) rfl)
    have x24 : a.tmps[24]?.getD undef = .int .i64 half := by rw [← ev]; exact hG.val 5 5 24 _ rfl (hdep ⟨5, .data⟩ (by simp) rfl)
    have x25 : a.tmps[25]?.getD undef = .int .i64 at_ := by rw [← ev]; exact hG.val 6 6 25 _ rfl (hdep ⟨6, .data⟩ (by simp) rfl)
    rw [if_pos (show Region.wanted _ _ = true from rfl)]
    have hSj := hG.1
    have hf0 : flagsOf rd5C L 0 = false := (flagsOf_at (C := rd5C) (j := 0) rfl L).trans hLi
    have hf1 : flagsOf rd5C L 1 = false := (flagsOf_at (C := rd5C) (j := 1) rfl L).trans (by
      cases hl : L 8 with
      | false => rfl
      | true => exact absurd (hcl 8 _ rfl (hl) ⟨7, .data⟩ (by simp [opsRd5]) rfl) (by rw [hLi]; decide))
    have hf2 : flagsOf rd5C L 2 = false := (flagsOf_at (C := rd5C) (j := 2) rfl L).trans (by
      cases hl : L 9 with
      | false => rfl
      | true => exact absurd (hcl 8 _ rfl (hcl 9 _ rfl (hl) ⟨8, .data⟩ (by simp [opsRd5]) rfl) ⟨7, .data⟩ (by simp [opsRd5]) rfl) (by rw [hLi]; decide))
    have hf3 : flagsOf rd5C L 3 = false := (flagsOf_at (C := rd5C) (j := 3) rfl L).trans (by
      cases hl : L 10 with
      | false => rfl
      | true => exact absurd (hcl 8 _ rfl (hcl 9 _ rfl (hcl 10 _ rfl (hl) ⟨9, .data⟩ (by simp [opsRd5]) rfl) ⟨8, .data⟩ (by simp [opsRd5]) rfl) ⟨7, .data⟩ (by simp [opsRd5]) rfl) (by rw [hLi]; decide))
    have hf4 : flagsOf rd5C L 4 = false := (flagsOf_at (C := rd5C) (j := 4) rfl L).trans (by
      cases hl : L 11 with
      | false => rfl
      | true => exact absurd (hcl 8 _ rfl (hcl 9 _ rfl (hcl 11 _ rfl (hl) ⟨9, .data⟩ (by simp [opsRd5]) rfl) ⟨8, .data⟩ (by simp [opsRd5]) rfl) ⟨7, .data⟩ (by simp [opsRd5]) rfl) (by rw [hLi]; decide))
    have hf5 : flagsOf rd5C L 5 = false := (flagsOf_at (C := rd5C) (j := 5) rfl L).trans (by
      cases hl : L 12 with
      | false => rfl
      | true => exact absurd (hcl 12 _ rfl (hl) ⟨7, .phase⟩ (by simp [opsRd5]) rfl) (by rw [hLi]; decide))
    have hf6 : flagsOf rd5C L 6 = false := (flagsOf_at (C := rd5C) (j := 6) rfl L).trans (by
      cases hl : L 13 with
      | false => rfl
      | true => exact absurd (hcl 13 _ rfl (hl) ⟨7, .phase⟩ (by simp [opsRd5]) rfl) (by rw [hLi]; decide))
    have hfin := fun v w' hs => hK v w' (hG.call 0 (7, 26) rfl (by kernel_rfl) v w' hs)
    have HK := Lib.hid hfin
    generalize (resOf rd5C fun t => a.eval (.tmp t)) = R at *
    generalize flagsOf rd5C L = f at *
    clear hG hcl hdep hfr hK hfin hLi
    have hc := Lib.hid (hs0 _ _ _ hSj hf0 hf1)
    clear hSj hload hs0 h0 h1 h2 h3 h4 h5
    go_simp
    go_at_call 41
    refine hc.out.mono ?_
    rintro e w' ⟨v, rfl, hs⟩
    exact HK.out v w' hs
  | 8, ho =>
    simp only [opsRd5, List.getElem?_toArray, List.getElem?_cons_succ, List.getElem?_cons_zero, Option.some.injEq] at ho
    subst ho
    have x22 : a.tmps[22]?.getD undef = .pointer (some ⟨d, 0, none⟩) := by rw [← ev]; exact hG.val 3 3 22 _ rfl (hdep ⟨3, .data⟩ (by simp) rfl)
    rw [if_pos (show Region.wanted _ _ = true from rfl)]
    have hSj := hG.1
    have hf0 : flagsOf rd5C L 0 = true := (flagsOf_at (C := rd5C) (j := 0) rfl L).trans (hdep ⟨7, .data⟩ (by simp) rfl)
    have hf1 : flagsOf rd5C L 1 = false := (flagsOf_at (C := rd5C) (j := 1) rfl L).trans hLi
    have hf2 : flagsOf rd5C L 2 = false := (flagsOf_at (C := rd5C) (j := 2) rfl L).trans (by
      cases hl : L 9 with
      | false => rfl
      | true => exact absurd (hcl 9 _ rfl (hl) ⟨8, .data⟩ (by simp [opsRd5]) rfl) (by rw [hLi]; decide))
    have hf3 : flagsOf rd5C L 3 = false := (flagsOf_at (C := rd5C) (j := 3) rfl L).trans (by
      cases hl : L 10 with
      | false => rfl
      | true => exact absurd (hcl 9 _ rfl (hcl 10 _ rfl (hl) ⟨9, .data⟩ (by simp [opsRd5]) rfl) ⟨8, .data⟩ (by simp [opsRd5]) rfl) (by rw [hLi]; decide))
    have hf4 : flagsOf rd5C L 4 = false := (flagsOf_at (C := rd5C) (j := 4) rfl L).trans (by
      cases hl : L 11 with
      | false => rfl
      | true => exact absurd (hcl 9 _ rfl (hcl 11 _ rfl (hl) ⟨9, .data⟩ (by simp [opsRd5]) rfl) ⟨8, .data⟩ (by simp [opsRd5]) rfl) (by rw [hLi]; decide))
    have hf5 : flagsOf rd5C L 5 = false := (flagsOf_at (C := rd5C) (j := 5) rfl L).trans (by
      cases hl : L 12 with
      | false => rfl
      | true => exact absurd (hcl 12 _ rfl (hl) ⟨8, .chain⟩ (by simp [opsRd5]) rfl) (by rw [hLi]; decide))
    have hf6 : flagsOf rd5C L 6 = false := (flagsOf_at (C := rd5C) (j := 6) rfl L).trans (by
      cases hl : L 13 with
      | false => rfl
      | true => exact absurd (hcl 13 _ rfl (hl) ⟨8, .phase⟩ (by simp [opsRd5]) rfl) (by rw [hLi]; decide))
    have r26 : a.tmps[26]?.getD undef = resOf rd5C (fun t => a.eval (.tmp t)) 0 := by rw [← ev]; exact (resOf_at (C := rd5C) (j := 0) rfl a).symm
    have hfin := fun v w' hs => hK v w' (hG.call 1 (8, 27) rfl (by kernel_rfl) v w' hs)
    have HK := Lib.hid hfin
    generalize (resOf rd5C fun t => a.eval (.tmp t)) = R at *
    generalize flagsOf rd5C L = f at *
    clear hG hcl hdep hfr hK hfin hLi
    obtain ⟨e0, hcc⟩ := h0 _ _ _ hSj hf0 hf1
    rw [e0] at r26
    have hc := Lib.hid hcc
    clear hSj hcc e0 hload hs0 h0 h1 h2 h3 h4 h5
    go_simp
    go_at_call 33
    refine hc.out.mono ?_
    rintro e w' ⟨v, rfl, hs⟩
    exact HK.out v w' hs
  | 9, ho =>
    simp only [opsRd5, List.getElem?_toArray, List.getElem?_cons_succ, List.getElem?_cons_zero, Option.some.injEq] at ho
    subst ho
    rw [if_pos (show Region.wanted _ _ = true from rfl)]
    have hSj := hG.1
    have hf0 : flagsOf rd5C L 0 = true := (flagsOf_at (C := rd5C) (j := 0) rfl L).trans (hcl 8 _ rfl (hdep ⟨8, .data⟩ (by simp) rfl) ⟨7, .data⟩ (by simp [opsRd5]) rfl)
    have hf1 : flagsOf rd5C L 1 = true := (flagsOf_at (C := rd5C) (j := 1) rfl L).trans (hdep ⟨8, .data⟩ (by simp) rfl)
    have hf2 : flagsOf rd5C L 2 = false := (flagsOf_at (C := rd5C) (j := 2) rfl L).trans hLi
    have hf3 : flagsOf rd5C L 3 = false := (flagsOf_at (C := rd5C) (j := 3) rfl L).trans (by
      cases hl : L 10 with
      | false => rfl
      | true => exact absurd (hcl 10 _ rfl (hl) ⟨9, .data⟩ (by simp [opsRd5]) rfl) (by rw [hLi]; decide))
    have hf4 : flagsOf rd5C L 4 = false := (flagsOf_at (C := rd5C) (j := 4) rfl L).trans (by
      cases hl : L 11 with
      | false => rfl
      | true => exact absurd (hcl 11 _ rfl (hl) ⟨9, .data⟩ (by simp [opsRd5]) rfl) (by rw [hLi]; decide))
    have hf5 : flagsOf rd5C L 5 = false := (flagsOf_at (C := rd5C) (j := 5) rfl L).trans (by
      cases hl : L 12 with
      | false => rfl
      | true => exact absurd (hcl 12 _ rfl (hl) ⟨9, .phase⟩ (by simp [opsRd5]) rfl) (by rw [hLi]; decide))
    have hf6 : flagsOf rd5C L 6 = false := (flagsOf_at (C := rd5C) (j := 6) rfl L).trans (by
      cases hl : L 13 with
      | false => rfl
      | true => exact absurd (hcl 13 _ rfl (hl) ⟨9, .phase⟩ (by simp [opsRd5]) rfl) (by rw [hLi]; decide))
    have r27 : a.tmps[27]?.getD undef = resOf rd5C (fun t => a.eval (.tmp t)) 1 := by rw [← ev]; exact (resOf_at (C := rd5C) (j := 1) rfl a).symm
    have hfin := fun v w' hs => hK v w' (hG.call 2 (9, 18) rfl (by kernel_rfl) v w' hs)
    have HK := Lib.hid hfin
    generalize (resOf rd5C fun t => a.eval (.tmp t)) = R at *
    generalize flagsOf rd5C L = f at *
    clear hG hcl hdep hfr hK hfin hLi
    have hs := h1 _ _ _ hSj hf1 hf2
    have hk := HK.out _ _ hs
    have HK2 := Lib.hid hk
    clear hs hk HK hSj hload hs0 h0 h1 h2 h3 h4 h5
    go_simp
    exact HK2.out
  | 10, ho =>
    simp only [opsRd5, List.getElem?_toArray, List.getElem?_cons_succ, List.getElem?_cons_zero, Option.some.injEq] at ho
    subst ho
    rw [if_pos (show Region.wanted _ _ = true from rfl)]
    have hSj := hG.1
    have hf0 : flagsOf rd5C L 0 = true := (flagsOf_at (C := rd5C) (j := 0) rfl L).trans (hcl 8 _ rfl (hcl 9 _ rfl (hdep ⟨9, .data⟩ (by simp) rfl) ⟨8, .data⟩ (by simp [opsRd5]) rfl) ⟨7, .data⟩ (by simp [opsRd5]) rfl)
    have hf1 : flagsOf rd5C L 1 = true := (flagsOf_at (C := rd5C) (j := 1) rfl L).trans (hcl 9 _ rfl (hdep ⟨9, .data⟩ (by simp) rfl) ⟨8, .data⟩ (by simp [opsRd5]) rfl)
    have hf2 : flagsOf rd5C L 2 = true := (flagsOf_at (C := rd5C) (j := 2) rfl L).trans (hdep ⟨9, .data⟩ (by simp) rfl)
    have hf3 : flagsOf rd5C L 3 = false := (flagsOf_at (C := rd5C) (j := 3) rfl L).trans hLi
    have hf5 : flagsOf rd5C L 5 = false := (flagsOf_at (C := rd5C) (j := 5) rfl L).trans (by
      cases hl : L 12 with
      | false => rfl
      | true => exact absurd (hcl 12 _ rfl (hl) ⟨10, .data⟩ (by simp [opsRd5]) rfl) (by rw [hLi]; decide))
    have hf6 : flagsOf rd5C L 6 = false := (flagsOf_at (C := rd5C) (j := 6) rfl L).trans (by
      cases hl : L 13 with
      | false => rfl
      | true => exact absurd (hcl 13 _ rfl (hl) ⟨10, .phase⟩ (by simp [opsRd5]) rfl) (by rw [hLi]; decide))
    have r18 : a.tmps[18]?.getD undef = resOf rd5C (fun t => a.eval (.tmp t)) 2 := by rw [← ev]; exact (resOf_at (C := rd5C) (j := 2) rfl a).symm
    have hfin := fun v w' hs => hK v w' (hG.call 3 (10, 28) rfl (by kernel_rfl) v w' hs)
    have HK := Lib.hid hfin
    generalize (resOf rd5C fun t => a.eval (.tmp t)) = R at *
    generalize flagsOf rd5C L = f at *
    clear hG hcl hdep hfr hK hfin hLi
    obtain ⟨x, y, e1, hs⟩ := h2 _ _ _ hSj hf2 hf3
    rw [e1] at r18
    have hk := HK.out _ _ hs
    have HK2 := Lib.hid hk
    clear hs hk HK hSj e1 hload hs0 h0 h1 h2 h3 h4 h5
    go_simp
    exact HK2.out
  | 11, ho =>
    simp only [opsRd5, List.getElem?_toArray, List.getElem?_cons_succ, List.getElem?_cons_zero, Option.some.injEq] at ho
    subst ho
    rw [if_pos (show Region.wanted _ _ = true from rfl)]
    have hSj := hG.1
    have hf0 : flagsOf rd5C L 0 = true := (flagsOf_at (C := rd5C) (j := 0) rfl L).trans (hcl 8 _ rfl (hcl 9 _ rfl (hdep ⟨9, .data⟩ (by simp) rfl) ⟨8, .data⟩ (by simp [opsRd5]) rfl) ⟨7, .data⟩ (by simp [opsRd5]) rfl)
    have hf1 : flagsOf rd5C L 1 = true := (flagsOf_at (C := rd5C) (j := 1) rfl L).trans (hcl 9 _ rfl (hdep ⟨9, .data⟩ (by simp) rfl) ⟨8, .data⟩ (by simp [opsRd5]) rfl)
    have hf2 : flagsOf rd5C L 2 = true := (flagsOf_at (C := rd5C) (j := 2) rfl L).trans (hdep ⟨9, .data⟩ (by simp) rfl)
    have hf4 : flagsOf rd5C L 4 = false := (flagsOf_at (C := rd5C) (j := 4) rfl L).trans hLi
    have hf6 : flagsOf rd5C L 6 = false := (flagsOf_at (C := rd5C) (j := 6) rfl L).trans (by
      cases hl : L 13 with
      | false => rfl
      | true => exact absurd (hcl 13 _ rfl (hl) ⟨11, .data⟩ (by simp [opsRd5]) rfl) (by rw [hLi]; decide))
    have r18 : a.tmps[18]?.getD undef = resOf rd5C (fun t => a.eval (.tmp t)) 2 := by rw [← ev]; exact (resOf_at (C := rd5C) (j := 2) rfl a).symm
    have hfin := fun v w' hs => hK v w' (hG.call 4 (11, 29) rfl (by kernel_rfl) v w' hs)
    have HK := Lib.hid hfin
    generalize (resOf rd5C fun t => a.eval (.tmp t)) = R at *
    generalize flagsOf rd5C L = f at *
    clear hG hcl hdep hfr hK hfin hLi
    obtain ⟨x, y, e1, hs⟩ := h3 _ _ _ hSj hf2 hf4
    rw [e1] at r18
    have hk := HK.out _ _ hs
    have HK2 := Lib.hid hk
    clear hs hk HK hSj e1 hload hs0 h0 h1 h2 h3 h4 h5
    go_simp
    exact HK2.out
  | 12, ho =>
    simp only [opsRd5, List.getElem?_toArray, List.getElem?_cons_succ, List.getElem?_cons_zero, Option.some.injEq] at ho
    subst ho
    rw [if_pos (show Region.wanted _ _ = true from rfl)]
    have hSj := hG.1
    have hf0 : flagsOf rd5C L 0 = true := (flagsOf_at (C := rd5C) (j := 0) rfl L).trans (hdep ⟨7, .phase⟩ (by simp) rfl)
    have hf1 : flagsOf rd5C L 1 = true := (flagsOf_at (C := rd5C) (j := 1) rfl L).trans (hdep ⟨8, .chain⟩ (by simp) rfl)
    have hf2 : flagsOf rd5C L 2 = true := (flagsOf_at (C := rd5C) (j := 2) rfl L).trans (hdep ⟨9, .phase⟩ (by simp) rfl)
    have hf3 : flagsOf rd5C L 3 = true := (flagsOf_at (C := rd5C) (j := 3) rfl L).trans (hdep ⟨10, .data⟩ (by simp) rfl)
    have hf5 : flagsOf rd5C L 5 = false := (flagsOf_at (C := rd5C) (j := 5) rfl L).trans hLi
    have hf6 : flagsOf rd5C L 6 = false := (flagsOf_at (C := rd5C) (j := 6) rfl L).trans (by
      cases hl : L 13 with
      | false => rfl
      | true => exact absurd (hcl 13 _ rfl (hl) ⟨12, .chain⟩ (by simp [opsRd5]) rfl) (by rw [hLi]; decide))
    have r28 : a.tmps[28]?.getD undef = resOf rd5C (fun t => a.eval (.tmp t)) 3 := by rw [← ev]; exact (resOf_at (C := rd5C) (j := 3) rfl a).symm
    have hfin := fun v w' hs => hK v w' (hG.call 5 (12, 10) rfl (by kernel_rfl) v w' hs)
    have HK := Lib.hid hfin
    generalize (resOf rd5C fun t => a.eval (.tmp t)) = R at *
    generalize flagsOf rd5C L = f at *
    clear hG hcl hdep hfr hK hfin hLi
    have hs := h4 _ _ _ hSj hf3 hf5
    have hk := HK.out _ _ hs
    have HK2 := Lib.hid hk
    clear hs hk HK hSj hload hs0 h0 h1 h2 h3 h4 h5
    go_simp
    exact HK2.out
  | 13, ho =>
    simp only [opsRd5, List.getElem?_toArray, List.getElem?_cons_succ, List.getElem?_cons_zero, Option.some.injEq] at ho
    subst ho
    rw [if_pos (show Region.wanted _ _ = true from rfl)]
    have hSj := hG.1
    have hf0 : flagsOf rd5C L 0 = true := (flagsOf_at (C := rd5C) (j := 0) rfl L).trans (hdep ⟨7, .phase⟩ (by simp) rfl)
    have hf1 : flagsOf rd5C L 1 = true := (flagsOf_at (C := rd5C) (j := 1) rfl L).trans (hdep ⟨8, .phase⟩ (by simp) rfl)
    have hf2 : flagsOf rd5C L 2 = true := (flagsOf_at (C := rd5C) (j := 2) rfl L).trans (hdep ⟨9, .phase⟩ (by simp) rfl)
    have hf3 : flagsOf rd5C L 3 = true := (flagsOf_at (C := rd5C) (j := 3) rfl L).trans (hdep ⟨10, .phase⟩ (by simp) rfl)
    have hf4 : flagsOf rd5C L 4 = true := (flagsOf_at (C := rd5C) (j := 4) rfl L).trans (hdep ⟨11, .data⟩ (by simp) rfl)
    have hf5 : flagsOf rd5C L 5 = true := (flagsOf_at (C := rd5C) (j := 5) rfl L).trans (hdep ⟨12, .chain⟩ (by simp) rfl)
    have hf6 : flagsOf rd5C L 6 = false := (flagsOf_at (C := rd5C) (j := 6) rfl L).trans hLi
    have r29 : a.tmps[29]?.getD undef = resOf rd5C (fun t => a.eval (.tmp t)) 4 := by rw [← ev]; exact (resOf_at (C := rd5C) (j := 4) rfl a).symm
    have hfin := fun v w' hs => hK v w' (hG.call 6 (13, 11) rfl (by kernel_rfl) v w' hs)
    have HK := Lib.hid hfin
    generalize (resOf rd5C fun t => a.eval (.tmp t)) = R at *
    generalize flagsOf rd5C L = f at *
    clear hG hcl hdep hfr hK hfin hLi
    have hs := h5 _ _ _ hSj hf4 hf6
    have hk := HK.out _ _ hs
    have HK2 := Lib.hid hk
    clear hs hk HK hSj hload hs0 h0 h1 h2 h3 h4 h5
    go_simp
    exact HK2.out
  | n + 14, ho => exact absurd (Array.getElem?_eq_some_iff.1 ho).1 (by show ¬ n + 14 < 14; omega)
end Go.Proofs.YtambddncncaehaaDoor

namespace Go.Proofs.YtambddncncaehaaDoor
open Go.RowKit
set_option linter.unusedVariables false
set_option linter.unusedSimpArgs false

def opsFr1 : Array Oper := #[
  { dst := some 4, op := Op.move (Operand.tmp 0), type := 27, pos := "wal.go:213", after := #[], guard := none },
  { dst := some 5, op := Op.call { callee := Callee.value (Operand.func 27), args := #[Operand.tmp 4], argTypes := #[27] }, type := 3, pos := "wal.go:213", after := #[{ on := 0, ground := Ground.data }], guard := none },
  { dst := some 6, op := Op.move (Operand.tmp 0), type := 27, pos := "wal.go:213", after := #[], guard := none },
  { dst := some 7, op := Op.nilCheck (Operand.tmp 6), type := 0, pos := "wal.go:213", after := #[{ on := 2, ground := Ground.data }], guard := none },
  { dst := some 8, op := Op.fieldAddr 58 (Operand.tmp 7) 3, type := 0, pos := "wal.go:213", after := #[{ on := 3, ground := Ground.data }], guard := none },
  { dst := some 9, op := Op.load 3 (Operand.tmp 8), type := 3, pos := "wal.go:213", after := #[{ on := 4, ground := Ground.data }], guard := none },
  { dst := some 10, op := Op.binOp BinOp.sub 3 (Operand.tmp 5) (Operand.tmp 9) 3, type := 3, pos := "wal.go:213", after := #[{ on := 1, ground := Ground.data }, { on := 5, ground := Ground.data }], guard := none },
  { dst := some 11, op := Op.build 61 #[(0, Operand.const (Value.int IntKind.i64 1))], type := 61, pos := "wal.go:213", after := #[], guard := none },
  { dst := some 12, op := Op.call { callee := Callee.value (Operand.func 26), args := #[Operand.tmp 11], argTypes := #[61] }, type := 3, pos := "wal.go:213", after := #[{ on := 7, ground := Ground.data }, { on := 1, ground := Ground.chain }], guard := none },
  { dst := some 13, op := Op.binOp BinOp.sub 3 (Operand.tmp 10) (Operand.tmp 12) 3, type := 3, pos := "wal.go:213", after := #[{ on := 6, ground := Ground.data }, { on := 8, ground := Ground.data }], guard := none },
  { dst := some 3, op := Op.assign (Operand.tmp 13), type := 3, pos := "wal.go:213", after := #[{ on := 9, ground := Ground.data }, { on := 8, ground := Ground.chain }, { on := 0, ground := Ground.phase }, { on := 1, ground := Ground.phase }, { on := 2, ground := Ground.phase }, { on := 3, ground := Ground.phase }, { on := 4, ground := Ground.phase }, { on := 5, ground := Ground.phase }, { on := 6, ground := Ground.phase }, { on := 7, ground := Ground.phase }, { on := 8, ground := Ground.phase }, { on := 9, ground := Ground.phase }], guard := none }]

def fr1Vals (l sz used : Nat) : List (Nat × Nat × Value) := [(0, 4, .pointer (some ⟨l, 0, none⟩)), (2, 6, .pointer (some ⟨l, 0, none⟩)), (3, 7, .pointer (some ⟨l, 0, none⟩)), (4, 8, .pointer (some ⟨l, 3, none⟩)), (5, 9, .int .i64 (used : Int)), (6, 10, .int .i64 ((sz : Int) * 512 - (used : Int))), (7, 11, .agg #[.int .i64 1, .slice none 0 0]), (9, 13, .int .i64 ((sz : Int) * 512 - (used : Int) - 16)), (10, 3, .int .i64 ((sz : Int) * 512 - (used : Int) - 16))]
def fr1C : List (Nat × Nat) := [(1, 5), (8, 12)]

set_option maxHeartbeats 1600000 in
set_option maxRecDepth 100000 in
theorem fr1 {Q : Exit → Act → World → Prop} {a0 : Act} {wp : World} (l sz used : Nat) (S : Nat → (Nat → Value) → World → Prop)
    (hsz : 13 < a0.tmps.size) (in0 : a0.eval (.tmp 0) = .pointer (some ⟨l, 0, none⟩))
    (hz : (sz : Int) ≤ 8192) (hu : (used : Int) ≤ 100000000) (hcell : ∀ p R w, S p R w → w.cell? ⟨l, 3, none⟩ = some (.int .i64 (used : Int)))
    (hc1 : ∀ R w, S 0 R w → Calls Tryd.prog 27 #[.pointer (some ⟨l, 0, none⟩)] w fun e w' => ∃ v, e = .returned v ∧ S 1 (setR R 0 v) w')
    (hc2 : ∀ R w, S 1 R w → Calls Tryd.prog 26 #[.agg #[.int .i64 1, .slice none 0 0]] w fun e w' => ∃ v, e = .returned v ∧ S 2 (setR R 1 v) w')
    (hr1 : ∀ p R w, S p R w → 0 < p → R 0 = .int .i64 ((sz : Int) * 512)) (hr2 : ∀ p R w, S p R w → 1 < p → R 1 = .int .i64 16)
    (hS : S 0 (resOf fr1C fun t => a0.eval (.tmp t)) wp.drew)
    (fin : ∀ a w, Fr [4, 5, 6, 7, 8, 9, 10, 11, 12, 13, 3] a0 a → a.eval (.tmp 3) = .int .i64 ((sz : Int) * 512 - (used : Int) - 16) → S 2 (resOf fr1C fun t => a.eval (.tmp t)) w → Q .normal a w) :
    (Code.region 1 opsFr1 true).wp Tryd.prog Q a0 wp := by
  have hw1 : IntKind.i64.wrap ((sz : Int) * 512 - (used : Int)) = (sz : Int) * 512 - (used : Int) := by rw [IntKind.wrap_i64]; omega
  have hw2 : IntKind.i64.wrap ((sz : Int) * 512 - (used : Int) - 16) = (sz : Int) * 512 - (used : Int) - 16 := by rw [IntKind.wrap_i64]; omega
  refine region_inv (by kernel_rfl) [4, 5, 6, 7, 8, 9, 10, 11, 12, 13, 3] (by kernel_rfl) (by kernel_rfl) (fun t ht => by simp at ht; omega) (GV (fr1Vals l sz used) fr1C S) (.start hS) ?_
    (fun L a w hf hall hG => fin a w hf (hG.val 8 10 3 _ rfl (hall 10 (by decide))) (hG.fin (fun c hc => by simp [fr1C] at hc; rcases hc with rfl | rfl <;> exact hall _ (by decide))))
  clear hS fin
  intro ix oo ho L a w hfr hG hLi hdep hcl K hK
  have e0 : a.tmps[0]?.getD undef = .pointer (some ⟨l, 0, none⟩) := by rw [← ev]; exact (hfr.same 0 (by decide)).trans in0
  clear in0
  match ix, ho with
  | 0, ho =>
    simp only [opsFr1, List.getElem?_toArray, List.getElem?_cons_zero, Option.some.injEq] at ho
    subst ho
    rw [if_pos (show Region.wanted _ _ = true from rfl)]
    have hfin := hK (.pointer (some ⟨l, 0, none⟩)) w (hG.quiet 0 0 4 _ rfl (by kernel_rfl) (by kernel_rfl))
    have HK := Lib.hid hfin
    clear hG hcl hdep hfr hK hfin hLi 
    go_simp
    exact HK.out
  | 1, ho =>
    simp only [opsFr1, List.getElem?_toArray, List.getElem?_cons_succ, List.getElem?_cons_zero, Option.some.injEq] at ho
    subst ho
    have x4 : a.tmps[4]?.getD undef = .pointer (some ⟨l, 0, none⟩) := by rw [← ev]; exact hG.val 0 0 4 _ rfl (hdep ⟨0, .data⟩ (by simp) rfl)
    rw [if_pos (show Region.wanted _ _ = true from rfl)]
    have hSj := hG.at 0 (1, 5) rfl hLi (fun c h0 hc => absurd h0 (by decide))
    have hfin := fun v w' hs => hK v w' (hG.call 0 (1, 5) rfl hLi (fun c h0 hc => absurd h0 (by decide)) (by kernel_rfl) v w' hs)
    have HK := Lib.hid hfin
    generalize (resOf fr1C fun t => a.eval (.tmp t)) = R at *
    clear hG hcl hdep hfr hK hfin hLi
    have hc := Lib.hid (hc1 _ _ hSj)
    clear hSj hcell hc1 hc2 hr1 hr2
    go_simp
    go_at_call 27
    refine hc.out.mono ?_
    rintro e w' ⟨v, rfl, hs⟩
    exact HK.out v w' hs
  | 2, ho =>
    simp only [opsFr1, List.getElem?_toArray, List.getElem?_cons_succ, List.getElem?_cons_zero, Option.some.injEq] at ho
    subst ho
    rw [if_pos (show Region.wanted _ _ = true from rfl)]
    have hfin := hK (.pointer (some ⟨l, 0, none⟩)) w (hG.quiet 1 2 6 _ rfl (by kernel_rfl) (by kernel_rfl))
    have HK := Lib.hid hfin
    clear hG hcl hdep hfr hK hfin hLi 
    go_simp
    exact HK.out
  | 3, ho =>
    simp only [opsFr1, List.getElem?_toArray, List.getElem?_cons_succ, List.getElem?_cons_zero, Option.some.injEq] at ho
    subst ho
    have x6 : a.tmps[6]?.getD undef = .pointer (some ⟨l, 0, none⟩) := by rw [← ev]; exact hG.val 1 2 6 _ rfl (hdep ⟨2, .data⟩ (by simp) rfl)
    rw [if_pos (show Region.wanted _ _ = true from rfl)]
    have hfin := hK (.pointer (some ⟨l, 0, none⟩)) w (hG.quiet 2 3 7 _ rfl (by kernel_rfl) (by kernel_rfl))
    have HK := Lib.hid hfin
    clear hG hcl hdep hfr hK hfin hLi 
    go_simp
    exact HK.out
  | 4, ho =>
    simp only [opsFr1, List.getElem?_toArray, List.getElem?_cons_succ, List.getElem?_cons_zero, Option.some.injEq] at ho
    subst ho
    have x7 : a.tmps[7]?.getD undef = .pointer (some ⟨l, 0, none⟩) := by rw [← ev]; exact hG.val 2 3 7 _ rfl (hdep ⟨3, .data⟩ (by simp) rfl)
    rw [if_pos (show Region.wanted _ _ = true from rfl)]
    have hfin := hK (.pointer (some ⟨l, 3, none⟩)) w (hG.quiet 3 4 8 _ rfl (by kernel_rfl) (by kernel_rfl))
    have HK := Lib.hid hfin
    clear hG hcl hdep hfr hK hfin hLi 
    go_simp
    exact HK.out
  | 5, ho =>
    simp only [opsFr1, List.getElem?_toArray, List.getElem?_cons_succ, List.getElem?_cons_zero, Option.some.injEq] at ho
    subst ho
    have x8 : a.tmps[8]?.getD undef = .pointer (some ⟨l, 3, none⟩) := by rw [← ev]; exact hG.val 3 4 8 _ rfl (hdep ⟨4, .data⟩ (by simp) rfl)
    rw [if_pos (show Region.wanted _ _ = true from rfl)]
    obtain ⟨ph, hSp, hdone⟩ := hG.any
    have hfin := hK (.int .i64 (used : Int)) w (hG.quiet 4 5 9 _ rfl (by kernel_rfl) (by kernel_rfl))
    have HK := Lib.hid hfin
    generalize (resOf fr1C fun t => a.eval (.tmp t)) = R at *
    have q1 := hcell _ _ _ hSp
    clear hcell hc1 hc2 hr1 hr2
    clear hSp hdone
    clear hG hcl hdep hfr hK hfin hLi 
    go_simp
    exact HK.out
  | 6, ho =>
    simp only [opsFr1, List.getElem?_toArray, List.getElem?_cons_succ, List.getElem?_cons_zero, Option.some.injEq] at ho
    subst ho
    have x9 : a.tmps[9]?.getD undef = .int .i64 (used : Int) := by rw [← ev]; exact hG.val 4 5 9 _ rfl (hdep ⟨5, .data⟩ (by simp) rfl)
    rw [if_pos (show Region.wanted _ _ = true from rfl)]
    obtain ⟨ph, hSp, hdone⟩ := hG.any
    have hd5 : 0 < ph := hdone 0 (1, 5) rfl (hdep ⟨1, .data⟩ (by simp) rfl)
    have r5 : a.tmps[5]?.getD undef = resOf fr1C (fun t => a.eval (.tmp t)) 0 := by rw [← ev]; exact (resOf_at (C := fr1C) (j := 0) rfl a).symm
    have hfin := hK (.int .i64 ((sz : Int) * 512 - (used : Int))) w (hG.quiet 5 6 10 _ rfl (by kernel_rfl) (by kernel_rfl))
    have HK := Lib.hid hfin
    generalize (resOf fr1C fun t => a.eval (.tmp t)) = R at *
    have q1 := hr1 _ _ _ hSp hd5
    rw [q1] at r5
    clear hcell hc1 hc2 hr1 hr2 q1 hd5
    clear hSp hdone
    clear hG hcl hdep hfr hK hfin hLi 
    go_simp
    exact HK.out
  | 7, ho =>
    simp only [opsFr1, List.getElem?_toArray, List.getElem?_cons_succ, List.getElem?_cons_zero, Option.some.injEq] at ho
    subst ho
    rw [if_pos (show Region.wanted _ _ = true from rfl)]
    have hfin := hK (.agg #[.int .i64 1, .slice none 0 0]) w (hG.quiet 6 7 11 _ rfl (by kernel_rfl) (by kernel_rfl))
    have HK := Lib.hid hfin
    clear hG hcl hdep hfr hK hfin hLi 
    go_simp
    exact HK.out
  | 8, ho =>
    simp only [opsFr1, List.getElem?_toArray, List.getElem?_cons_succ, List.getElem?_cons_zero, Option.some.injEq] at ho
    subst ho
    have x11 : a.tmps[11]?.getD undef = .agg #[.int .i64 1, .slice none 0 0] := by rw [← ev]; exact hG.val 6 7 11 _ rfl (hdep ⟨7, .data⟩ (by simp) rfl)
    rw [if_pos (show Region.wanted _ _ = true from rfl)]
    have hSj := hG.at 1 (8, 12) rfl hLi (fun c h0 hc => by simp [fr1C] at hc; subst hc; exact hdep ⟨1, .chain⟩ (by simp) rfl)
    have hfin := fun v w' hs => hK v w' (hG.call 1 (8, 12) rfl hLi (fun c h0 hc => by simp [fr1C] at hc; subst hc; exact hdep ⟨1, .chain⟩ (by simp) rfl) (by kernel_rfl) v w' hs)
    have HK := Lib.hid hfin
    generalize (resOf fr1C fun t => a.eval (.tmp t)) = R at *
    clear hG hcl hdep hfr hK hfin hLi
    have hc := Lib.hid (hc2 _ _ hSj)
    clear hSj hcell hc1 hc2 hr1 hr2
    go_simp
    go_at_call 26
    refine hc.out.mono ?_
    rintro e w' ⟨v, rfl, hs⟩
    exact HK.out v w' hs
  | 9, ho =>
    simp only [opsFr1, List.getElem?_toArray, List.getElem?_cons_succ, List.getElem?_cons_zero, Option.some.injEq] at ho
    subst ho
    have x10 : a.tmps[10]?.getD undef = .int .i64 ((sz : Int) * 512 - (used : Int)) := by rw [← ev]; exact hG.val 5 6 10 _ rfl (hdep ⟨6, .data⟩ (by simp) rfl)
    rw [if_pos (show Region.wanted _ _ = true from rfl)]
    obtain ⟨ph, hSp, hdone⟩ := hG.any
    have hd12 : 1 < ph := hdone 1 (8, 12) rfl (hdep ⟨8, .data⟩ (by simp) rfl)
    have r12 : a.tmps[12]?.getD undef = resOf fr1C (fun t => a.eval (.tmp t)) 1 := by rw [← ev]; exact (resOf_at (C := fr1C) (j := 1) rfl a).symm
    have hfin := hK (.int .i64 ((sz : Int) * 512 - (used : Int) - 16)) w (hG.quiet 7 9 13 _ rfl (by kernel_rfl) (by kernel_rfl))
    have HK := Lib.hid hfin
    generalize (resOf fr1C fun t => a.eval (.tmp t)) = R at *
    have q1 := hr2 _ _ _ hSp hd12
    rw [q1] at r12
    clear hcell hc1 hc2 hr1 hr2 q1 hd12
    clear hSp hdone
    clear hG hcl hdep hfr hK hfin hLi 
    go_simp
    exact HK.out
  | 10, ho =>
    simp only [opsFr1, List.getElem?_toArray, List.getElem?_cons_succ, List.getElem?_cons_zero, Option.some.injEq] at ho
    subst ho
    have x13 : a.tmps[13]?.getD undef = .int .i64 ((sz : Int) * 512 - (used : Int) - 16) := by rw [← ev]; exact hG.val 7 9 13 _ rfl (hdep ⟨9, .data⟩ (by simp) rfl)
    rw [if_pos (show Region.wanted _ _ = true from rfl)]
    have hfin := hK (.int .i64 ((sz : Int) * 512 - (used : Int) - 16)) w (hG.quiet 8 10 3 _ rfl (by kernel_rfl) (by kernel_rfl))
    have HK := Lib.hid hfin
    clear hG hcl hdep hfr hK hfin hLi 
    go_simp
    exact HK.out
  | n + 11, ho => exact absurd (Array.getElem?_eq_some_iff.1 ho).1 (by show ¬ n + 11 < 11; omega)
end Go.Proofs.YtambddncncaehaaDoor

namespace Go.Proofs.YtambddncncaehaaDoor
open Go.RowKit
set_option linter.unusedVariables false
set_option linter.unusedSimpArgs false

def opsAd7 : Array Oper := #[
  { dst := some 33, op := Op.load 61 (Operand.tmp 5), type := 61, pos := "wal.go:128", after := #[], guard := none },
  { dst := some 34, op := Op.call { callee := Callee.value (Operand.func 26), args := #[Operand.tmp 33], argTypes := #[61] }, type := 3, pos := "wal.go:128", after := #[{ on := 0, ground := Ground.data }], guard := none },
  { dst := some 35, op := Op.move (Operand.tmp 0), type := 27, pos := "wal.go:128", after := #[], guard := none },
  { dst := some 36, op := Op.call { callee := Callee.value (Operand.func 27), args := #[Operand.tmp 35], argTypes := #[27] }, type := 3, pos := "wal.go:128", after := #[{ on := 2, ground := Ground.data }, { on := 1, ground := Ground.chain }], guard := none },
  { dst := some 37, op := Op.move (Operand.tmp 0), type := 27, pos := "wal.go:128", after := #[], guard := none },
  { dst := some 38, op := Op.nilCheck (Operand.tmp 37), type := 0, pos := "wal.go:128", after := #[{ on := 4, ground := Ground.data }], guard := none },
  { dst := some 39, op := Op.fieldAddr 58 (Operand.tmp 38) 3, type := 0, pos := "wal.go:128", after := #[{ on := 5, ground := Ground.data }], guard := none },
  { dst := some 40, op := Op.load 3 (Operand.tmp 39), type := 3, pos := "wal.go:128", after := #[{ on := 6, ground := Ground.data }], guard := none },
  { dst := some 41, op := Op.binOp BinOp.sub 3 (Operand.tmp 36) (Operand.tmp 40) 3, type := 3, pos := "wal.go:128", after := #[{ on := 3, ground := Ground.data }, { on := 7, ground := Ground.data }], guard := none },
  { dst := some 42, op := Op.binOp BinOp.gtr 3 (Operand.tmp 34) (Operand.tmp 41) 3, type := 4, pos := "wal.go:128", after := #[{ on := 1, ground := Ground.data }, { on := 8, ground := Ground.data }], guard := none }]

def ad7Vals (l rb sz used n2 c2 : Nat) (z : Int) (A2 : Option Addr) (bb : Bool) : List (Nat × Nat × Value) := [(0, 33, .agg #[.int .i64 z, .slice A2 n2 c2]), (2, 35, .pointer (some ⟨l, 0, none⟩)), (4, 37, .pointer (some ⟨l, 0, none⟩)), (5, 38, .pointer (some ⟨l, 0, none⟩)), (6, 39, .pointer (some ⟨l, 3, none⟩)), (7, 40, .int .i64 (used : Int)), (8, 41, .int .i64 ((sz : Int) * 512 - (used : Int))), (9, 42, .bool bb)]
def ad7C : List (Nat × Nat) := [(1, 34), (3, 36)]

set_option maxHeartbeats 1600000 in
set_option maxRecDepth 100000 in
theorem ad7 {Q : Exit → Act → World → Prop} {a0 : Act} {wp : World} (l rb sz used n2 c2 : Nat) (z : Int) (A2 : Option Addr) (bb : Bool) (S : Nat → (Nat → Value) → World → Prop)
    (hsz : 42 < a0.tmps.size) (in0 : a0.eval (.tmp 0) = .pointer (some ⟨l, 0, none⟩)) (in5 : a0.eval (.tmp 5) = .pointer (some ⟨rb, 0, none⟩))
    (hz : (sz : Int) ≤ 8192) (hu : (used : Int) ≤ 100000000) (hcell : ∀ p R w, S p R w → w.cell? ⟨l, 3, none⟩ = some (.int .i64 (used : Int))) (hcell0 : ∀ p R w, S p R w → w.cell? ⟨rb, 0, none⟩ = some (.int .i64 z)) (hcell1 : ∀ p R w, S p R w → w.cell? ⟨rb, 1, none⟩ = some (.slice A2 n2 c2))
    (hbb : decide ((sz : Int) * 512 - (used : Int) < (n2 : Int) + 16) = bb)
    (hc1 : ∀ R w, S 0 R w → Calls Tryd.prog 26 #[.agg #[.int .i64 z, .slice A2 n2 c2]] w fun e w' => ∃ v, e = .returned v ∧ S 1 (setR R 0 v) w')
    (hc2 : ∀ R w, S 1 R w → Calls Tryd.prog 27 #[.pointer (some ⟨l, 0, none⟩)] w fun e w' => ∃ v, e = .returned v ∧ S 2 (setR R 1 v) w')
    (hr1 : ∀ p R w, S p R w → 0 < p → R 0 = .int .i64 ((n2 : Int) + 16)) (hr2 : ∀ p R w, S p R w → 1 < p → R 1 = .int .i64 ((sz : Int) * 512))
    (hS : S 0 (resOf ad7C fun t => a0.eval (.tmp t)) wp.drew)
    (fin : ∀ a w, Fr [33, 34, 35, 36, 37, 38, 39, 40, 41, 42] a0 a → a.eval (.tmp 42) = .bool bb → S 2 (resOf ad7C fun t => a.eval (.tmp t)) w → Q .normal a w) :
    (Code.region 7 opsAd7 true).wp Tryd.prog Q a0 wp := by
  have hw1 : IntKind.i64.wrap ((sz : Int) * 512 - (used : Int)) = (sz : Int) * 512 - (used : Int) := by rw [IntKind.wrap_i64]; omega
  refine region_inv (by kernel_rfl) [33, 34, 35, 36, 37, 38, 39, 40, 41, 42] (by kernel_rfl) (by kernel_rfl) (fun t ht => by simp at ht; omega) (GV (ad7Vals l rb sz used n2 c2 z A2 bb) ad7C S) (.start hS) ?_
    (fun L a w hf hall hG => fin a w hf (hG.val 7 9 42 _ rfl (hall 9 (by decide))) (hG.fin (fun c hc => by simp [ad7C] at hc; rcases hc with rfl | rfl <;> exact hall _ (by decide))))
  clear hS fin
  intro ix oo ho L a w hfr hG hLi hdep hcl K hK
  have e0 : a.tmps[0]?.getD undef = .pointer (some ⟨l, 0, none⟩) := by rw [← ev]; exact (hfr.same 0 (by decide)).trans in0
  have e5 : a.tmps[5]?.getD undef = .pointer (some ⟨rb, 0, none⟩) := by rw [← ev]; exact (hfr.same 5 (by decide)).trans in5
  clear in0 in5
  match ix, ho with
  | 0, ho =>
    simp only [opsAd7, List.getElem?_toArray, List.getElem?_cons_zero, Option.some.injEq] at ho
    subst ho
    rw [if_pos (show Region.wanted _ _ = true from rfl)]
    obtain ⟨ph, hSp, hdone⟩ := hG.any
    have hfin := hK (.agg #[.int .i64 z, .slice A2 n2 c2]) w (hG.quiet 0 0 33 _ rfl (by kernel_rfl) (by kernel_rfl))
    have HK := Lib.hid hfin
    generalize (resOf ad7C fun t => a.eval (.tmp t)) = R at *
    have q0 := hcell0 _ _ _ hSp
    have q1 := hcell1 _ _ _ hSp
    clear hcell hcell0 hcell1 hc1 hc2 hr1 hr2
    clear hSp hdone
    clear hG hcl hdep hfr hK hfin hLi 
    go_simp
    exact HK.out
  | 1, ho =>
    simp only [opsAd7, List.getElem?_toArray, List.getElem?_cons_succ, List.getElem?_cons_zero, Option.some.injEq] at ho
    subst ho
    have x33 : a.tmps[33]?.getD undef = .agg #[.int .i64 z, .slice A2 n2 c2] := by rw [← ev]; exact hG.val 0 0 33 _ rfl (hdep ⟨0, .data⟩ (by simp) rfl)
    rw [if_pos (show Region.wanted _ _ = true from rfl)]
    have hSj := hG.at 0 (1, 34) rfl hLi (fun c h0 hc => absurd h0 (by decide))
    have hfin := fun v w' hs => hK v w' (hG.call 0 (1, 34) rfl hLi (fun c h0 hc => absurd h0 (by decide)) (by kernel_rfl) v w' hs)
    have HK := Lib.hid hfin
    generalize (resOf ad7C fun t => a.eval (.tmp t)) = R at *
    clear hG hcl hdep hfr hK hfin hLi
    have hc := Lib.hid (hc1 _ _ hSj)
    clear hSj hcell hcell0 hcell1 hc1 hc2 hr1 hr2
    go_simp
    go_at_call 26
    refine hc.out.mono ?_
    rintro e w' ⟨v, rfl, hs⟩
    exact HK.out v w' hs
  | 2, ho =>
    simp only [opsAd7, List.getElem?_toArray, List.getElem?_cons_succ, List.getElem?_cons_zero, Option.some.injEq] at ho
    subst ho
    rw [if_pos (show Region.wanted _ _ = true from rfl)]
    have hfin := hK (.pointer (some ⟨l, 0, none⟩)) w (hG.quiet 1 2 35 _ rfl (by kernel_rfl) (by kernel_rfl))
    have HK := Lib.hid hfin
    clear hG hcl hdep hfr hK hfin hLi 
    go_simp
    exact HK.out
  | 3, ho =>
    simp only [opsAd7, List.getElem?_toArray, List.getElem?_cons_succ, List.getElem?_cons_zero, Option.some.injEq] at ho
    subst ho
    have x35 : a.tmps[35]?.getD undef = .pointer (some ⟨l, 0, none⟩) := by rw [← ev]; exact hG.val 1 2 35 _ rfl (hdep ⟨2, .data⟩ (by simp) rfl)
    rw [if_pos (show Region.wanted _ _ = true from rfl)]
    have hSj := hG.at 1 (3, 36) rfl hLi (fun c h0 hc => by simp [ad7C] at hc; subst hc; exact hdep ⟨1, .chain⟩ (by simp) rfl)
    have hfin := fun v w' hs => hK v w' (hG.call 1 (3, 36) rfl hLi (fun c h0 hc => by simp [ad7C] at hc; subst hc; exact hdep ⟨1, .chain⟩ (by simp) rfl) (by kernel_rfl) v w' hs)
    have HK := Lib.hid hfin
    generalize (resOf ad7C fun t => a.eval (.tmp t)) = R at *
    clear hG hcl hdep hfr hK hfin hLi
    have hc := Lib.hid (hc2 _ _ hSj)
    clear hSj hcell hcell0 hcell1 hc1 hc2 hr1 hr2
    go_simp
    go_at_call 27
    refine hc.out.mono ?_
    rintro e w' ⟨v, rfl, hs⟩
    exact HK.out v w' hs
  | 4, ho =>
    simp only [opsAd7, List.getElem?_toArray, List.getElem?_cons_succ, List.getElem?_cons_zero, Option.some.injEq] at ho
    subst ho
    rw [if_pos (show Region.wanted _ _ = true from rfl)]
    have hfin := hK (.pointer (some ⟨l, 0, none⟩)) w (hG.quiet 2 4 37 _ rfl (by kernel_rfl) (by kernel_rfl))
    have HK := Lib.hid hfin
    clear hG hcl hdep hfr hK hfin hLi 
    go_simp
    exact HK.out
  | 5, ho =>
    simp only [opsAd7, List.getElem?_toArray, List.getElem?_cons_succ, List.getElem?_cons_zero, Option.some.injEq] at ho
    subst ho
    have x37 : a.tmps[37]?.getD undef = .pointer (some ⟨l, 0, none⟩) := by rw [← ev]; exact hG.val 2 4 37 _ rfl (hdep ⟨4, .data⟩ (by simp) rfl)
    rw [if_pos (show Region.wanted _ _ = true from rfl)]
    have hfin := hK (.pointer (some ⟨l, 0, none⟩)) w (hG.quiet 3 5 38 _ rfl (by kernel_rfl) (by kernel_rfl))
    have HK := Lib.hid hfin
    clear hG hcl hdep hfr hK hfin hLi 
    go_simp
    exact HK.out
  | 6, ho =>
    simp only [opsAd7, List.getElem?_toArray, List.getElem?_cons_succ, List.getElem?_cons_zero, Option.some.injEq] at ho
    subst ho
    have x38 : a.tmps[38]?.getD undef = .pointer (some ⟨l, 0, none⟩) := by rw [← ev]; exact hG.val 3 5 38 _ rfl (hdep ⟨5, .data⟩ (by simp) rfl)
    rw [if_pos (show Region.wanted _ _ = true from rfl)]
    have hfin := hK (.pointer (some ⟨l, 3, none⟩)) w (hG.quiet 4 6 39 _ rfl (by kernel_rfl) (by kernel_rfl))
    have HK := Lib.hid hfin
    clear hG hcl hdep hfr hK hfin hLi 
    go_simp
    exact HK.out
  | 7, ho =>
    simp only [opsAd7, List.getElem?_toArray, List.getElem?_cons_succ, List.getElem?_cons_zero, Option.some.injEq] at ho
    subst ho
    have x39 : a.tmps[39]?.getD undef = .pointer (some ⟨l, 3, none⟩) := by rw [← ev]; exact hG.val 4 6 39 _ rfl (hdep ⟨6, .data⟩ (by simp) rfl)
    rw [if_pos (show Region.wanted _ _ = true from rfl)]
    obtain ⟨ph, hSp, hdone⟩ := hG.any
    have hfin := hK (.int .i64 (used : Int)) w (hG.quiet 5 7 40 _ rfl (by kernel_rfl) (by kernel_rfl))
    have HK := Lib.hid hfin
    generalize (resOf ad7C fun t => a.eval (.tmp t)) = R at *
    have q1 := hcell _ _ _ hSp
    clear hcell hcell0 hcell1 hc1 hc2 hr1 hr2
    clear hSp hdone
    clear hG hcl hdep hfr hK hfin hLi 
    go_simp
    exact HK.out
  | 8, ho =>
    simp only [opsAd7, List.getElem?_toArray, List.getElem?_cons_succ, List.getElem?_cons_zero, Option.some.injEq] at ho
    subst ho
    have x40 : a.tmps[40]?.getD undef = .int .i64 (used : Int) := by rw [← ev]; exact hG.val 5 7 40 _ rfl (hdep ⟨7, .data⟩ (by simp) rfl)
    rw [if_pos (show Region.wanted _ _ = true from rfl)]
    obtain ⟨ph, hSp, hdone⟩ := hG.any
    have hd36 : 1 < ph := hdone 1 (3, 36) rfl (hdep ⟨3, .data⟩ (by simp) rfl)
    have r36 : a.tmps[36]?.getD undef = resOf ad7C (fun t => a.eval (.tmp t)) 1 := by rw [← ev]; exact (resOf_at (C := ad7C) (j := 1) rfl a).symm
    have hfin := hK (.int .i64 ((sz : Int) * 512 - (used : Int))) w (hG.quiet 6 8 41 _ rfl (by kernel_rfl) (by kernel_rfl))
    have HK := Lib.hid hfin
    generalize (resOf ad7C fun t => a.eval (.tmp t)) = R at *
    have q1 := hr2 _ _ _ hSp hd36
    rw [q1] at r36
    clear hcell hcell0 hcell1 hc1 hc2 hr1 hr2 q1 hd36
    clear hSp hdone
    clear hG hcl hdep hfr hK hfin hLi 
    go_simp
    exact HK.out
  | 9, ho =>
    simp only [opsAd7, List.getElem?_toArray, List.getElem?_cons_succ, List.getElem?_cons_zero, Option.some.injEq] at ho
    subst ho
    have x41 : a.tmps[41]?.getD undef = .int .i64 ((sz : Int) * 512 - (used : Int)) := by rw [← ev]; exact hG.val 6 8 41 _ rfl (hdep ⟨8, .data⟩ (by simp) rfl)
    rw [if_pos (show Region.wanted _ _ = true from rfl)]
    obtain ⟨ph, hSp, hdone⟩ := hG.any
    have hd34 : 0 < ph := hdone 0 (1, 34) rfl (hdep ⟨1, .data⟩ (by simp) rfl)
    have r34 : a.tmps[34]?.getD undef = resOf ad7C (fun t => a.eval (.tmp t)) 0 := by rw [← ev]; exact (resOf_at (C := ad7C) (j := 0) rfl a).symm
    have hfin := hK (.bool bb) w (hG.quiet 7 9 42 _ rfl (by kernel_rfl) (by kernel_rfl))
    have HK := Lib.hid hfin
    generalize (resOf ad7C fun t => a.eval (.tmp t)) = R at *
    have q1 := hr1 _ _ _ hSp hd34
    rw [q1] at r34
    clear hcell hcell0 hcell1 hc1 hc2 hr1 hr2 q1 hd34
    clear hSp hdone
    clear hG hcl hdep hfr hK hfin hLi 
    go_simp
    exact HK.out
  | n + 10, ho => exact absurd (Array.getElem?_eq_some_iff.1 ho).1 (by show ¬ n + 10 < 10; omega)
end Go.Proofs.YtambddncncaehaaDoor
