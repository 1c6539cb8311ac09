/- The reference's NewDev: one sector more. -/
import Derived.Test.YtelcedbcegbbjaaFlags
import Derived.Test.YtelcedbcegbbjaaRefWrite
import Derived.WalkKit
import Derived.WalkSpells
import Derived.WalkLawsBesides
import Derived.Lib.Hide
namespace Go.Proofs.Ytelcedbcegbbjaa
open Go.RowKit Dk
set_option linter.unusedVariables false
set_option linter.unusedSimpArgs false

def opsNd5 : Array Oper := #[
  { dst := some 13, op := Op.move (Operand.tmp 3), type := 38, pos := "ref.go:32", after := #[], guard := none },
  { dst := some 14, op := Op.move (Operand.tmp 3), type := 38, pos := "ref.go:32", after := #[], guard := none },
  { dst := some 15, op := Op.nilCheck (Operand.tmp 14), type := 0, pos := "ref.go:32", after := #[{ on := 1, ground := Ground.data }], guard := none },
  { dst := some 16, op := Op.fieldAddr 45 (Operand.tmp 15) 2, type := 0, pos := "ref.go:32", after := #[{ on := 2, ground := Ground.data }], guard := none },
  { dst := some 17, op := Op.load 42 (Operand.tmp 16), type := 42, pos := "ref.go:32", after := #[{ on := 3, ground := Ground.data }], guard := none },
  { dst := some 18, op := Op.call { callee := Callee.value (Operand.func 33), args := #[], argTypes := #[] }, type := 9, pos := "ref.go:32", after := #[], guard := none },
  { dst := some 19, op := Op.buildSlice 42 1 #[(0, Operand.tmp 18)], type := 42, pos := "ref.go:32", after := #[{ on := 5, ground := Ground.data }], guard := none },
  { dst := some 20, op := Op.call { callee := Callee.builtin Builtin.append, args := #[Operand.tmp 17, Operand.tmp 19], argTypes := #[42, 42] }, type := 42, pos := "ref.go:32", after := #[{ on := 4, ground := Ground.data }, { on := 6, ground := Ground.data }, { on := 5, ground := Ground.chain }], guard := none },
  { dst := some 21, op := Op.nilCheck (Operand.tmp 13), type := 0, pos := "ref.go:32", after := #[{ on := 0, ground := Ground.data }, { on := 0, ground := Ground.phase }, { on := 1, ground := Ground.phase }, { on := 2, ground := Ground.phase }, { on := 3, ground := Ground.phase }, { on := 4, ground := Ground.phase }, { on := 5, ground := Ground.phase }, { on := 6, ground := Ground.phase }, { on := 7, ground := Ground.phase }], guard := none },
  { dst := some 22, op := Op.fieldAddr 45 (Operand.tmp 21) 2, type := 0, pos := "ref.go:32", after := #[{ on := 8, ground := Ground.data }, { on := 0, ground := Ground.phase }, { on := 1, ground := Ground.phase }, { on := 2, ground := Ground.phase }, { on := 3, ground := Ground.phase }, { on := 4, ground := Ground.phase }, { on := 5, ground := Ground.phase }, { on := 6, ground := Ground.phase }, { on := 7, ground := Ground.phase }], guard := none },
  { dst := none, op := Op.store 42 (Operand.tmp 22) (Operand.tmp 20), type := 0, pos := "ref.go:32", after := #[{ on := 9, ground := Ground.data }, { on := 7, ground := Ground.data }, { on := 7, ground := Ground.chain }, { on := 0, ground := Ground.phase }, { on := 1, ground := Ground.phase }, { on := 2, ground := Ground.phase }, { on := 3, ground := Ground.phase }, { on := 4, ground := Ground.phase }, { on := 5, ground := Ground.phase }, { on := 6, ground := Ground.phase }, { on := 7, ground := Ground.phase }], guard := none }]

def nd5Vals (rb m cl : Nat) (Al : Option Addr) (z : ByteArray) : List (Nat × Nat × Value) := [(0, 13, .pointer (some ⟨rb, 0, none⟩)), (1, 14, .pointer (some ⟨rb, 0, none⟩)), (2, 15, .pointer (some ⟨rb, 0, none⟩)), (3, 16, .pointer (some ⟨rb, 2, none⟩)), (4, 17, .slice Al m cl), (8, 21, .pointer (some ⟨rb, 0, none⟩)), (9, 22, .pointer (some ⟨rb, 2, none⟩))]
def nd5C : List (Nat × Nat) := [(5, 18), (6, 19), (7, 20), (10, 1000010)]

set_option maxHeartbeats 4000000 in
set_option maxRecDepth 100000 in
theorem nd5 {Q : Exit → Act → World → Prop} {a0 : Act} {wp : World} (rb m cl : Nat) (Al : Option Addr) (z : ByteArray) (S : (Nat → Bool) → (Nat → Value) → World → Prop)
    (hsz : 22 < a0.tmps.size) (in3 : a0.eval (.tmp 3) = .pointer (some ⟨rb, 0, none⟩))
    (hload : ∀ f R w, S f R w → f 2 = false → f 3 = false → w.cell? ⟨rb, 2, none⟩ = some (.slice Al m cl))
    (h0 : ∀ f R w, S f R w → f 0 = false → f 1 = false → f 2 = false → f 3 = false → Calls Try.prog 33 #[] w fun e w' => ∃ v, e = .returned v ∧ S (setF f 0) (setR R 0 v) w')
    (h1 : ∀ f R w, S f R w → f 0 = true → f 1 = false → f 2 = false → f 3 = false → R 0 = .string z ∧ S (setF f 1) (setR R 1 (.slice (some ⟨w.heap.size, 0, none⟩) 1 1)) (w.alloc (.cells #[.string z] 9)))
    (h2 : ∀ f R w, S f R w → f 1 = true → f 2 = false → f 3 = false → ∃ v' w', (Builtin.append_ #[42, 42] 42 #[.slice Al m cl, R 1]).run Try.prog w = .ok v' w' ∧ S (setF f 2) (setR R 2 v') w')
    (h3 : ∀ f R w, S f R w → f 2 = true → f 3 = false → ∃ A n c, R 2 = .slice A n c ∧ w.cell? ⟨rb, 2, none⟩ = some (.slice Al m cl) ∧ w.frozen? ⟨rb, 2, none⟩ = false ∧ S (setF f 3) R (w.setCell ⟨rb, 2, none⟩ (.slice A n c)))
    (hS : S (fun _ => false) (resOf nd5C fun t => a0.eval (.tmp t)) wp.drew)
    (fin : ∀ a w f, Fr [13, 14, 15, 16, 17, 18, 19, 20, 21, 22] a0 a → (∀ j, j < 4 → f j = true) → S f (resOf nd5C fun t => a.eval (.tmp t)) w → Q .normal a w) :
    (Code.region 5 opsNd5 true).wp Try.prog Q a0 wp := by
  refine region_inv (by kernel_rfl) [13, 14, 15, 16, 17, 18, 19, 20, 21, 22] (by kernel_rfl) (by kernel_rfl) (fun t ht => by simp at ht; omega) (GF (nd5Vals rb m cl Al z) nd5C S) (.start hS) ?_
    (fun L a w hf hall hG => fin a w (flagsOf nd5C L) hf  (fun j hj => by
      match j, hj with
      | 0, _ => exact (flagsOf_at (C := nd5C) (j := 0) rfl L).trans (hall 5 (by decide))
      | 1, _ => exact (flagsOf_at (C := nd5C) (j := 1) rfl L).trans (hall 6 (by decide))
      | 2, _ => exact (flagsOf_at (C := nd5C) (j := 2) rfl L).trans (hall 7 (by decide))
      | 3, _ => exact (flagsOf_at (C := nd5C) (j := 3) rfl L).trans (hall 10 (by decide))
      | n + 4, h => exact absurd h (by omega)) hG.1)
  clear hS fin
  intro ix oo ho L a w hfr hG hLi hdep hcl K hK
  have e3 : a.tmps[3]?.getD undef = .pointer (some ⟨rb, 0, none⟩) := by rw [← ev]; exact (hfr.same 3 (by decide)).trans in3
  clear in3
  match ix, ho with
  | 0, ho =>
    simp only [opsNd5, List.getElem?_toArray, List.getElem?_cons_zero, Option.some.injEq] at ho
    subst ho
    rw [if_pos (show Region.wanted _ _ = true from rfl)]
    have hfin := hK (.pointer (some ⟨rb, 0, none⟩)) w (hG.quiet 0 0 13 _ rfl (by kernel_rfl) (by kernel_rfl))
    have HK := Lib.hid hfin
    clear hG hcl hdep hfr hK hfin hLi 
    go_simp
    exact HK.out
  | 1, ho =>
    simp only [opsNd5, List.getElem?_toArray, List.getElem?_cons_succ, List.getElem?_cons_zero, Option.some.injEq] at ho
    subst ho
    rw [if_pos (show Region.wanted _ _ = true from rfl)]
    have hfin := hK (.pointer (some ⟨rb, 0, none⟩)) w (hG.quiet 1 1 14 _ rfl (by kernel_rfl) (by kernel_rfl))
    have HK := Lib.hid hfin
    clear hG hcl hdep hfr hK hfin hLi 
    go_simp
    exact HK.out
  | 2, ho =>
    simp only [opsNd5, List.getElem?_toArray, List.getElem?_cons_succ, List.getElem?_cons_zero, Option.some.injEq] at ho
    subst ho
    have x14 : a.tmps[14]?.getD undef = .pointer (some ⟨rb, 0, none⟩) := by rw [← ev]; exact hG.val 1 1 14 _ rfl (hdep ⟨1, .data⟩ (by simp) rfl)
    rw [if_pos (show Region.wanted _ _ = true from rfl)]
    have hfin := hK (.pointer (some ⟨rb, 0, none⟩)) w (hG.quiet 2 2 15 _ rfl (by kernel_rfl) (by kernel_rfl))
    have HK := Lib.hid hfin
    clear hG hcl hdep hfr hK hfin hLi 
    go_simp
    exact HK.out
  | 3, ho =>
    simp only [opsNd5, List.getElem?_toArray, List.getElem?_cons_succ, List.getElem?_cons_zero, Option.some.injEq] at ho
    subst ho
    have x15 : a.tmps[15]?.getD undef = .pointer (some ⟨rb, 0, none⟩) := by rw [← ev]; exact hG.val 2 2 15 _ rfl (hdep ⟨2, .data⟩ (by simp) rfl)
    rw [if_pos (show Region.wanted _ _ = true from rfl)]
    have hfin := hK (.pointer (some ⟨rb, 2, none⟩)) w (hG.quiet 3 3 16 _ rfl (by kernel_rfl) (by kernel_rfl))
    have HK := Lib.hid hfin
    clear hG hcl hdep hfr hK hfin hLi 
    go_simp
    exact HK.out
  | 4, ho =>
    simp only [opsNd5, List.getElem?_toArray, List.getElem?_cons_succ, List.getElem?_cons_zero, Option.some.injEq] at ho
    subst ho
    have x16 : a.tmps[16]?.getD undef = .pointer (some ⟨rb, 2, none⟩) := by rw [← ev]; exact hG.val 3 3 16 _ rfl (hdep ⟨3, .data⟩ (by simp) rfl)
    rw [if_pos (show Region.wanted _ _ = true from rfl)]
    have hSp := hG.1
    have hf2 : flagsOf nd5C L 2 = false := (flagsOf_at (C := nd5C) (j := 2) rfl L).trans (by
      cases hl : L 7 with
      | false => rfl
      | true => exact absurd (hcl 7 _ rfl (hl) ⟨4, .data⟩ (by simp [opsNd5]) rfl) (by rw [hLi]; decide))
    have hf3 : flagsOf nd5C L 3 = false := (flagsOf_at (C := nd5C) (j := 3) rfl L).trans (by
      cases hl : L 10 with
      | false => rfl
      | true => exact absurd (hcl 10 _ rfl (hl) ⟨4, .phase⟩ (by simp [opsNd5]) rfl) (by rw [hLi]; decide))
    have hfin := hK (.slice Al m cl) w (hG.quiet 4 4 17 _ rfl (by kernel_rfl) (by kernel_rfl))
    have HK := Lib.hid hfin
    generalize (resOf nd5C fun t => a.eval (.tmp t)) = R at *
    generalize flagsOf nd5C L = f at *
    have hcv := hload _ _ _ hSp hf2 hf3
    clear hload h0 h1 h2 h3
    clear hSp
    clear hG hcl hdep hfr hK hfin hLi 
    go_simp
    exact HK.out
  | 5, ho =>
    simp only [opsNd5, List.getElem?_toArray, List.getElem?_cons_succ, List.getElem?_cons_zero, Option.some.injEq] at ho
    subst ho
    rw [if_pos (show Region.wanted _ _ = true from rfl)]
    have hSj := hG.1
    have hf0 : flagsOf nd5C L 0 = false := (flagsOf_at (C := nd5C) (j := 0) rfl L).trans hLi
    have hf1 : flagsOf nd5C L 1 = false := (flagsOf_at (C := nd5C) (j := 1) rfl L).trans (by
      cases hl : L 6 with
      | false => rfl
      | true => exact absurd (hcl 6 _ rfl (hl) ⟨5, .data⟩ (by simp [opsNd5]) rfl) (by rw [hLi]; decide))
    have hf2 : flagsOf nd5C L 2 = false := (flagsOf_at (C := nd5C) (j := 2) rfl L).trans (by
      cases hl : L 7 with
      | false => rfl
      | true => exact absurd (hcl 7 _ rfl (hl) ⟨5, .chain⟩ (by simp [opsNd5]) rfl) (by rw [hLi]; decide))
    have hf3 : flagsOf nd5C L 3 = false := (flagsOf_at (C := nd5C) (j := 3) rfl L).trans (by
      cases hl : L 10 with
      | false => rfl
      | true => exact absurd (hcl 10 _ rfl (hl) ⟨5, .phase⟩ (by simp [opsNd5]) rfl) (by rw [hLi]; decide))
    have hfin := fun v w' hs => hK v w' (hG.call 0 (5, 18) rfl (by kernel_rfl) v w' hs)
    have HK := Lib.hid hfin
    generalize (resOf nd5C fun t => a.eval (.tmp t)) = R at *
    generalize flagsOf nd5C L = f at *
    clear hG hcl hdep hfr hK hfin hLi
    have hc := Lib.hid (h0 _ _ _ hSj hf0 hf1 hf2 hf3)
    clear hSj hload h0 h1 h2 h3
    go_simp
    go_at_call 33
    refine hc.out.mono ?_
    rintro e w' ⟨v, rfl, hs⟩
    exact HK.out v w' hs
  | 6, ho =>
    simp only [opsNd5, List.getElem?_toArray, List.getElem?_cons_succ, List.getElem?_cons_zero, Option.some.injEq] at ho
    subst ho
    rw [if_pos (show Region.wanted _ _ = true from rfl)]
    have hSj := hG.1
    have hf0 : flagsOf nd5C L 0 = true := (flagsOf_at (C := nd5C) (j := 0) rfl L).trans (hdep ⟨5, .data⟩ (by simp) rfl)
    have hf1 : flagsOf nd5C L 1 = false := (flagsOf_at (C := nd5C) (j := 1) rfl L).trans hLi
    have hf2 : flagsOf nd5C L 2 = false := (flagsOf_at (C := nd5C) (j := 2) rfl L).trans (by
      cases hl : L 7 with
      | false => rfl
      | true => exact absurd (hcl 7 _ rfl (hl) ⟨6, .data⟩ (by simp [opsNd5]) rfl) (by rw [hLi]; decide))
    have hf3 : flagsOf nd5C L 3 = false := (flagsOf_at (C := nd5C) (j := 3) rfl L).trans (by
      cases hl : L 10 with
      | false => rfl
      | true => exact absurd (hcl 10 _ rfl (hl) ⟨6, .phase⟩ (by simp [opsNd5]) rfl) (by rw [hLi]; decide))
    have r18 : a.tmps[18]?.getD undef = resOf nd5C (fun t => a.eval (.tmp t)) 0 := by rw [← ev]; exact (resOf_at (C := nd5C) (j := 0) rfl a).symm
    have hfin := fun v w' hs => hK v w' (hG.call 1 (6, 19) rfl (by kernel_rfl) v w' hs)
    have HK := Lib.hid hfin
    generalize (resOf nd5C fun t => a.eval (.tmp t)) = R at *
    generalize flagsOf nd5C L = f at *
    clear hG hcl hdep hfr hK hfin hLi
    obtain ⟨e0, hs⟩ := h1 _ _ _ hSj hf0 hf1 hf2 hf3
    have hk := HK.out _ _ hs
    have HK2 := Lib.hid hk
    rw [e0] at r18
    clear hs hk HK hSj e0 hload h0 h1 h2 h3
    go_simp
    exact HK2.out
  | 7, ho =>
    simp only [opsNd5, List.getElem?_toArray, List.getElem?_cons_succ, List.getElem?_cons_zero, Option.some.injEq] at ho
    subst ho
    have x17 : a.tmps[17]?.getD undef = .slice Al m cl := by rw [← ev]; exact hG.val 4 4 17 _ rfl (hdep ⟨4, .data⟩ (by simp) rfl)
    rw [if_pos (show Region.wanted _ _ = true from rfl)]
    have hSj := hG.1
    have hf0 : flagsOf nd5C L 0 = true := (flagsOf_at (C := nd5C) (j := 0) rfl L).trans (hdep ⟨5, .chain⟩ (by simp) rfl)
    have hf1 : flagsOf nd5C L 1 = true := (flagsOf_at (C := nd5C) (j := 1) rfl L).trans (hdep ⟨6, .data⟩ (by simp) rfl)
    have hf2 : flagsOf nd5C L 2 = false := (flagsOf_at (C := nd5C) (j := 2) rfl L).trans hLi
    have hf3 : flagsOf nd5C L 3 = false := (flagsOf_at (C := nd5C) (j := 3) rfl L).trans (by
      cases hl : L 10 with
      | false => rfl
      | true => exact absurd (hcl 10 _ rfl (hl) ⟨7, .data⟩ (by simp [opsNd5]) rfl) (by rw [hLi]; decide))
    have r19 : a.tmps[19]?.getD undef = resOf nd5C (fun t => a.eval (.tmp t)) 1 := by rw [← ev]; exact (resOf_at (C := nd5C) (j := 1) rfl a).symm
    have hfin := fun v w' hs => hK v w' (hG.call 2 (7, 20) rfl (by kernel_rfl) v w' hs)
    have HK := Lib.hid hfin
    generalize (resOf nd5C fun t => a.eval (.tmp t)) = R at *
    generalize flagsOf nd5C L = f at *
    clear hG hcl hdep hfr hK hfin hLi
    obtain ⟨v', w', hrun, hs⟩ := h2 _ _ _ hSj hf1 hf2 hf3
    exact oper_append_run (.tmp 17) (.tmp 19) 42 rfl w _ _ (by rw [ev]; exact x17) (by rw [ev]; exact r19) v' w' hrun (HK.out v' w' hs)
  | 8, ho =>
    simp only [opsNd5, List.getElem?_toArray, List.getElem?_cons_succ, List.getElem?_cons_zero, Option.some.injEq] at ho
    subst ho
    have x13 : a.tmps[13]?.getD undef = .pointer (some ⟨rb, 0, none⟩) := by rw [← ev]; exact hG.val 0 0 13 _ rfl (hdep ⟨0, .data⟩ (by simp) rfl)
    rw [if_pos (show Region.wanted _ _ = true from rfl)]
    have hfin := hK (.pointer (some ⟨rb, 0, none⟩)) w (hG.quiet 5 8 21 _ rfl (by kernel_rfl) (by kernel_rfl))
    have HK := Lib.hid hfin
    clear hG hcl hdep hfr hK hfin hLi 
    go_simp
    exact HK.out
  | 9, ho =>
    simp only [opsNd5, List.getElem?_toArray, List.getElem?_cons_succ, List.getElem?_cons_zero, Option.some.injEq] at ho
    subst ho
    have x21 : a.tmps[21]?.getD undef = .pointer (some ⟨rb, 0, none⟩) := by rw [← ev]; exact hG.val 5 8 21 _ rfl (hdep ⟨8, .data⟩ (by simp) rfl)
    rw [if_pos (show Region.wanted _ _ = true from rfl)]
    have hfin := hK (.pointer (some ⟨rb, 2, none⟩)) w (hG.quiet 6 9 22 _ rfl (by kernel_rfl) (by kernel_rfl))
    have HK := Lib.hid hfin
    clear hG hcl hdep hfr hK hfin hLi 
    go_simp
    exact HK.out
  | 10, ho =>
    simp only [opsNd5, List.getElem?_toArray, List.getElem?_cons_succ, List.getElem?_cons_zero, Option.some.injEq] at ho
    subst ho
    have x22 : a.tmps[22]?.getD undef = .pointer (some ⟨rb, 2, none⟩) := by rw [← ev]; exact hG.val 6 9 22 _ rfl (hdep ⟨9, .data⟩ (by simp) rfl)
    rw [if_pos (show Region.wanted _ _ = true from rfl)]
    have hSj := hG.1
    have hf0 : flagsOf nd5C L 0 = true := (flagsOf_at (C := nd5C) (j := 0) rfl L).trans (hdep ⟨5, .phase⟩ (by simp) rfl)
    have hf1 : flagsOf nd5C L 1 = true := (flagsOf_at (C := nd5C) (j := 1) rfl L).trans (hdep ⟨6, .phase⟩ (by simp) rfl)
    have hf2 : flagsOf nd5C L 2 = true := (flagsOf_at (C := nd5C) (j := 2) rfl L).trans (hdep ⟨7, .data⟩ (by simp) rfl)
    have hf3 : flagsOf nd5C L 3 = false := (flagsOf_at (C := nd5C) (j := 3) rfl L).trans hLi
    have r20 : a.tmps[20]?.getD undef = resOf nd5C (fun t => a.eval (.tmp t)) 2 := by rw [← ev]; exact (resOf_at (C := nd5C) (j := 2) rfl a).symm
    have hfin := fun w' hs => hK undef w' (hG.store 3 (10, 1000010) rfl (by kernel_rfl) undef w' hs)
    have HK := Lib.hid hfin
    generalize (resOf nd5C fun t => a.eval (.tmp t)) = R at *
    generalize flagsOf nd5C L = f at *
    clear hG hcl hdep hfr hK hfin hLi
    obtain ⟨A3, n3, c3, e3, hcell2, hfree2, hs⟩ := h3 _ _ _ hSj hf2 hf3
    rw [e3] at r20
    have hk := HK.out _ hs
    have HK2 := Lib.hid hk
    clear hs hk HK hSj e3 hload h0 h1 h2 h3
    go_simp
    exact HK2.out
  | n + 11, ho => exact absurd (Array.getElem?_eq_some_iff.1 ho).1 (by show ¬ n + 11 < 11; omega)
end Go.Proofs.Ytelcedbcegbbjaa
