/- DtRp16, DtRp22, DtRParse: these texts in one. -/
import Derived.Test.YtgkibkophoikoaaDoorFlags
import Derived.Test.YtgkibkophoikoaaDoorAppend
import Derived.WalkKit
import Derived.WalkSpells
import Derived.WalkLawsBesides
import Derived.Lib.Hide
import Derived.Test.YtgkibkophoikoaaDoorVals
import Derived.Laws.Strings3
import Derived.Test.YtgkibkophoikoaaDoorDtRsA
import Derived.Test.YtgkibkophoikoaaDoorDtParse
import Derived.Test.YtgkibkophoikoaaDoorRNum
import Derived.Deep.QuietTactic
import Derived.BigQuiet
namespace Go.Proofs.YtgkibkophoikoaaDoor
open Go.RowKit
set_option linter.unusedVariables false
set_option linter.unusedSimpArgs false

def opsRp16 : Array Oper := #[
  { dst := some 61, op := Op.move (Operand.tmp 6), type := 44, pos := "ref.go:473", after := #[], guard := none },
  { dst := some 62, op := Op.indexAddr 44 (Operand.tmp 61) (Operand.const (Value.int IntKind.i64 1)), type := 0, pos := "ref.go:473", after := #[{ on := 0, ground := Ground.data }], guard := none },
  { dst := some 63, op := Op.load 3 (Operand.tmp 62), type := 3, pos := "ref.go:473", after := #[{ on := 1, ground := Ground.data }], guard := none },
  { dst := some 64, op := Op.move (Operand.tmp 6), type := 44, pos := "ref.go:473", after := #[], guard := none },
  { dst := some 65, op := Op.indexAddr 44 (Operand.tmp 64) (Operand.const (Value.int IntKind.i64 0)), type := 0, pos := "ref.go:473", after := #[{ on := 3, ground := Ground.data }], guard := none },
  { dst := some 66, op := Op.load 3 (Operand.tmp 65), type := 3, pos := "ref.go:473", after := #[{ on := 4, ground := Ground.data }], guard := none },
  { dst := some 67, op := Op.move (Operand.tmp 6), type := 44, pos := "ref.go:473", after := #[], guard := none },
  { dst := some 68, op := Op.indexAddr 44 (Operand.tmp 67) (Operand.const (Value.int IntKind.i64 2)), type := 0, pos := "ref.go:473", after := #[{ on := 6, ground := Ground.data }], guard := none },
  { dst := some 69, op := Op.load 3 (Operand.tmp 68), type := 3, pos := "ref.go:473", after := #[{ on := 7, ground := Ground.data }], guard := none },
  { dst := some 70, op := Op.move (Operand.tmp 6), type := 44, pos := "ref.go:473", after := #[], guard := none },
  { dst := some 71, op := Op.indexAddr 44 (Operand.tmp 70) (Operand.const (Value.int IntKind.i64 3)), type := 0, pos := "ref.go:473", after := #[{ on := 9, ground := Ground.data }], guard := none },
  { dst := some 72, op := Op.load 3 (Operand.tmp 71), type := 3, pos := "ref.go:473", after := #[{ on := 10, ground := Ground.data }], guard := none },
  { dst := some 73, op := Op.move (Operand.tmp 6), type := 44, pos := "ref.go:473", after := #[], guard := none },
  { dst := some 74, op := Op.indexAddr 44 (Operand.tmp 73) (Operand.const (Value.int IntKind.i64 4)), type := 0, pos := "ref.go:473", after := #[{ on := 12, ground := Ground.data }], guard := none },
  { dst := some 75, op := Op.load 3 (Operand.tmp 74), type := 3, pos := "ref.go:473", after := #[{ on := 13, ground := Ground.data }], guard := none },
  { dst := some 76, op := Op.move (Operand.tmp 6), type := 44, pos := "ref.go:473", after := #[], guard := none },
  { dst := some 77, op := Op.indexAddr 44 (Operand.tmp 76) (Operand.const (Value.int IntKind.i64 5)), type := 0, pos := "ref.go:473", after := #[{ on := 15, ground := Ground.data }], guard := none },
  { dst := some 78, op := Op.load 3 (Operand.tmp 77), type := 3, pos := "ref.go:473", after := #[{ on := 16, ground := Ground.data }], guard := none },
  { dst := some 79, op := Op.binOp BinOp.mul 3 (Operand.tmp 78) (Operand.const (Value.int IntKind.i64 60)) 3, type := 3, pos := "ref.go:473", after := #[{ on := 17, ground := Ground.data }], guard := none },
  { dst := some 80, op := Op.move (Operand.tmp 6), type := 44, pos := "ref.go:473", after := #[], guard := none },
  { dst := some 81, op := Op.indexAddr 44 (Operand.tmp 80) (Operand.const (Value.int IntKind.i64 6)), type := 0, pos := "ref.go:473", after := #[{ on := 19, ground := Ground.data }], guard := none },
  { dst := some 82, op := Op.load 3 (Operand.tmp 81), type := 3, pos := "ref.go:473", after := #[{ on := 20, ground := Ground.data }], guard := none },
  { dst := some 83, op := Op.binOp BinOp.add 3 (Operand.tmp 79) (Operand.tmp 82) 3, type := 3, pos := "ref.go:473", after := #[{ on := 18, ground := Ground.data }, { on := 21, ground := Ground.data }], guard := none },
  { dst := some 84, op := Op.build 33 #[(0, Operand.tmp 63), (2, Operand.tmp 66), (3, Operand.tmp 69), (4, Operand.tmp 72), (5, Operand.tmp 75), (6, Operand.tmp 83)], type := 33, pos := "ref.go:473", after := #[{ on := 2, ground := Ground.data }, { on := 5, ground := Ground.data }, { on := 8, ground := Ground.data }, { on := 11, ground := Ground.data }, { on := 14, ground := Ground.data }, { on := 22, ground := Ground.data }], guard := none },
  { dst := some 11, op := Op.alloc 33, type := 0, pos := "ref.go:473", after := #[], guard := none },
  { dst := none, op := Op.store 33 (Operand.tmp 11) (Operand.tmp 84), type := 0, pos := "ref.go:473", after := #[{ on := 24, ground := Ground.data }, { on := 23, ground := Ground.data }, { on := 0, ground := Ground.phase }, { on := 1, ground := Ground.phase }, { on := 2, ground := Ground.phase }, { on := 3, ground := Ground.phase }, { on := 4, ground := Ground.phase }, { on := 5, ground := Ground.phase }, { on := 6, ground := Ground.phase }, { on := 7, ground := Ground.phase }, { on := 8, ground := Ground.phase }, { on := 9, ground := Ground.phase }, { on := 10, ground := Ground.phase }, { on := 11, ground := Ground.phase }, { on := 12, ground := Ground.phase }, { on := 13, ground := Ground.phase }, { on := 14, ground := Ground.phase }, { on := 15, ground := Ground.phase }, { on := 16, ground := Ground.phase }, { on := 17, ground := Ground.phase }, { on := 18, ground := Ground.phase }, { on := 19, ground := Ground.phase }, { on := 20, ground := Ground.phase }, { on := 21, ground := Ground.phase }, { on := 22, ground := Ground.phase }, { on := 23, ground := Ground.phase }, { on := 24, ground := Ground.phase }], guard := none }]

def rp16Vals (gv cv : Nat) (v0 v1 v2 v3 v4 v5 v6 : Int) : List (Nat × Nat × Value) := [(0, 61, .slice (some ⟨gv, 0, none⟩) 7 cv), (1, 62, .pointer (some ⟨gv, 1, none⟩)), (2, 63, .int .i64 v1), (3, 64, .slice (some ⟨gv, 0, none⟩) 7 cv), (4, 65, .pointer (some ⟨gv, 0, none⟩)), (5, 66, .int .i64 v0), (6, 67, .slice (some ⟨gv, 0, none⟩) 7 cv), (7, 68, .pointer (some ⟨gv, 2, none⟩)), (8, 69, .int .i64 v2), (9, 70, .slice (some ⟨gv, 0, none⟩) 7 cv), (10, 71, .pointer (some ⟨gv, 3, none⟩)), (11, 72, .int .i64 v3), (12, 73, .slice (some ⟨gv, 0, none⟩) 7 cv), (13, 74, .pointer (some ⟨gv, 4, none⟩)), (14, 75, .int .i64 v4), (15, 76, .slice (some ⟨gv, 0, none⟩) 7 cv), (16, 77, .pointer (some ⟨gv, 5, none⟩)), (17, 78, .int .i64 v5), (18, 79, .int .i64 (v5 * 60)), (19, 80, .slice (some ⟨gv, 0, none⟩) 7 cv), (20, 81, .pointer (some ⟨gv, 6, none⟩)), (21, 82, .int .i64 v6), (22, 83, .int .i64 (v5 * 60 + v6)), (23, 84, .agg #[.int .i64 v1, .int .i64 0, .int .i64 v0, .int .i64 v2, .int .i64 v3, .int .i64 v4, .int .i64 (v5 * 60 + v6)])]
def rp16C : List (Nat × Nat) := [(24, 11), (25, 1000025)]

set_option maxHeartbeats 8000000 in
set_option maxRecDepth 100000 in
theorem rp16 {Q : Exit → Act → World → Prop} {a0 : Act} {wp : World} (gv cv : Nat) (v0 v1 v2 v3 v4 v5 v6 : Int) (S : (Nat → Bool) → (Nat → Value) → World → Prop)
    (hsz : 84 < a0.tmps.size) (in6 : a0.eval (.tmp 6) = .slice (some ⟨gv, 0, none⟩) 7 cv)
    (hl : ∀ f R w, S f R w → f 1 = false → w.cell? ⟨gv, 0, none⟩ = some (.int .i64 v0) ∧ w.cell? ⟨gv, 1, none⟩ = some (.int .i64 v1) ∧ w.cell? ⟨gv, 2, none⟩ = some (.int .i64 v2) ∧ w.cell? ⟨gv, 3, none⟩ = some (.int .i64 v3) ∧ w.cell? ⟨gv, 4, none⟩ = some (.int .i64 v4) ∧ w.cell? ⟨gv, 5, none⟩ = some (.int .i64 v5) ∧ w.cell? ⟨gv, 6, none⟩ = some (.int .i64 v6))
    (c0 : ∀ f R w, S f R w → f 0 = false → S (setF f 0) (setR R 0 (.pointer (some ⟨w.heap.size, 0, none⟩))) (w.alloc (.cells #[.int .i64 0, .int .i64 0, .int .i64 0, .int .i64 0, .int .i64 0, .int .i64 0, .int .i64 0] 33)))
    (c1 : ∀ f R w, S f R w → f 0 = true → f 1 = false → ∃ g, R 0 = .pointer (some ⟨g, 0, none⟩) ∧ (∀ i, i < 7 → w.cell? ⟨g, i, none⟩ = some (.int .i64 0) ∧ w.frozen? ⟨g, i, none⟩ = false) ∧ S (setF f 1) R (((((((w.setCell ⟨g, 0, none⟩ (.int .i64 v1)).setCell ⟨g, 1, none⟩ (.int .i64 0)).setCell ⟨g, 2, none⟩ (.int .i64 v0)).setCell ⟨g, 3, none⟩ (.int .i64 v2)).setCell ⟨g, 4, none⟩ (.int .i64 v3)).setCell ⟨g, 5, none⟩ (.int .i64 v4)).setCell ⟨g, 6, none⟩ (.int .i64 (v5 * 60 + v6))))
    (z1 : IntKind.i64.wrap (v5 * 60) = v5 * 60) (z2 : IntKind.i64.wrap (v5 * 60 + v6) = v5 * 60 + v6)
    (hS : S (fun _ => false) (resOf rp16C fun t => a0.eval (.tmp t)) wp.drew)
    (fin : ∀ a w f, Fr [61, 62, 63, 64, 65, 66, 67, 68, 69, 70, 71, 72, 73, 74, 75, 76, 77, 78, 79, 80, 81, 82, 83, 84, 11] a0 a → (∀ j, j < 2 → f j = true) → S f (resOf rp16C fun t => a.eval (.tmp t)) w → Q .normal a w) :
    (Code.region 16 opsRp16 true).wp Tryd.prog Q a0 wp := by
  refine region_inv (by kernel_rfl) [61, 62, 63, 64, 65, 66, 67, 68, 69, 70, 71, 72, 73, 74, 75, 76, 77, 78, 79, 80, 81, 82, 83, 84, 11] (by kernel_rfl) (by kernel_rfl) (fun t ht => by simp at ht; omega) (GF (rp16Vals gv cv v0 v1 v2 v3 v4 v5 v6) rp16C S) (.start hS) ?_
    (fun L a w hf hall hG => fin a w (flagsOf rp16C L) hf  (fun j hj => by
      match j, hj with
      | 0, _ => exact (flagsOf_at (C := rp16C) (j := 0) rfl L).trans (hall 24 (by decide))
      | 1, _ => exact (flagsOf_at (C := rp16C) (j := 1) rfl L).trans (hall 25 (by decide))
      | n + 2, h => exact absurd h (by omega)) hG.1)
  clear hS fin
  intro ix oo ho L a w hfr hG hLi hdep hcl K hK
  have e6 : a.tmps[6]?.getD undef = .slice (some ⟨gv, 0, none⟩) 7 cv := by rw [← ev]; exact (hfr.same 6 (by decide)).trans in6
  clear in6
  match ix, ho with
  | 0, ho =>
    simp only [opsRp16, List.getElem?_toArray, List.getElem?_cons_zero, Option.some.injEq] at ho
    subst ho
    rw [if_pos (show Region.wanted _ _ = true from rfl)]
    have hSp := hG.1
    have hf1 : flagsOf rp16C L 1 = false := (flagsOf_at (C := rp16C) (j := 1) rfl L).trans (by
      cases hl : L 25 with
      | false => rfl
      | true => exact absurd (hcl 25 _ rfl (hl) ⟨0, .phase⟩ (by simp [opsRp16]) rfl) (by rw [hLi]; decide))
    have hfin := hK (.slice (some ⟨gv, 0, none⟩) 7 cv) w (hG.quiet 0 0 61 _ rfl (by kernel_rfl) (by kernel_rfl))
    have HK := Lib.hid hfin
    generalize (resOf rp16C fun t => a.eval (.tmp t)) = R at *
    generalize flagsOf rp16C L = f at *
    clear z1 z2 hl c0 c1
    clear hSp
    clear hG hcl hdep hfr hK hfin hLi 
    go_simp
    exact HK.out
  | 1, ho =>
    simp only [opsRp16, List.getElem?_toArray, List.getElem?_cons_succ, List.getElem?_cons_zero, Option.some.injEq] at ho
    subst ho
    have x61 : a.tmps[61]?.getD undef = .slice (some ⟨gv, 0, none⟩) 7 cv := by rw [← ev]; exact hG.val 0 0 61 _ rfl (hdep ⟨0, .data⟩ (by simp) rfl)
    rw [if_pos (show Region.wanted _ _ = true from rfl)]
    have hSp := hG.1
    have hf1 : flagsOf rp16C L 1 = false := (flagsOf_at (C := rp16C) (j := 1) rfl L).trans (by
      cases hl : L 25 with
      | false => rfl
      | true => exact absurd (hcl 25 _ rfl (hl) ⟨1, .phase⟩ (by simp [opsRp16]) rfl) (by rw [hLi]; decide))
    have hfin := hK (.pointer (some ⟨gv, 1, none⟩)) w (hG.quiet 1 1 62 _ rfl (by kernel_rfl) (by kernel_rfl))
    have HK := Lib.hid hfin
    generalize (resOf rp16C fun t => a.eval (.tmp t)) = R at *
    generalize flagsOf rp16C L = f at *
    clear z1 z2 hl c0 c1
    clear hSp
    clear hG hcl hdep hfr hK hfin hLi 
    go_simp
    exact HK.out
  | 2, ho =>
    simp only [opsRp16, List.getElem?_toArray, List.getElem?_cons_succ, List.getElem?_cons_zero, Option.some.injEq] at ho
    subst ho
    have x62 : a.tmps[62]?.getD undef = .pointer (some ⟨gv, 1, none⟩) := by rw [← ev]; exact hG.val 1 1 62 _ rfl (hdep ⟨1, .data⟩ (by simp) rfl)
    rw [if_pos (show Region.wanted _ _ = true from rfl)]
    have hSp := hG.1
    have hf1 : flagsOf rp16C L 1 = false := (flagsOf_at (C := rp16C) (j := 1) rfl L).trans (by
      cases hl : L 25 with
      | false => rfl
      | true => exact absurd (hcl 25 _ rfl (hl) ⟨2, .phase⟩ (by simp [opsRp16]) rfl) (by rw [hLi]; decide))
    have hfin := hK (.int .i64 v1) w (hG.quiet 2 2 63 _ rfl (by kernel_rfl) (by kernel_rfl))
    have HK := Lib.hid hfin
    generalize (resOf rp16C fun t => a.eval (.tmp t)) = R at *
    generalize flagsOf rp16C L = f at *
    obtain ⟨q0, q1, q2, q3, q4, q5, q6⟩ := hl _ _ _ hSp hf1
    clear z1 z2 hl c0 c1 q0 q2 q3 q4 q5 q6
    clear hSp
    clear hG hcl hdep hfr hK hfin hLi 
    go_simp
    exact HK.out
  | 3, ho =>
    simp only [opsRp16, List.getElem?_toArray, List.getElem?_cons_succ, List.getElem?_cons_zero, Option.some.injEq] at ho
    subst ho
    rw [if_pos (show Region.wanted _ _ = true from rfl)]
    have hSp := hG.1
    have hf1 : flagsOf rp16C L 1 = false := (flagsOf_at (C := rp16C) (j := 1) rfl L).trans (by
      cases hl : L 25 with
      | false => rfl
      | true => exact absurd (hcl 25 _ rfl (hl) ⟨3, .phase⟩ (by simp [opsRp16]) rfl) (by rw [hLi]; decide))
    have hfin := hK (.slice (some ⟨gv, 0, none⟩) 7 cv) w (hG.quiet 3 3 64 _ rfl (by kernel_rfl) (by kernel_rfl))
    have HK := Lib.hid hfin
    generalize (resOf rp16C fun t => a.eval (.tmp t)) = R at *
    generalize flagsOf rp16C L = f at *
    clear z1 z2 hl c0 c1
    clear hSp
    clear hG hcl hdep hfr hK hfin hLi 
    go_simp
    exact HK.out
  | 4, ho =>
    simp only [opsRp16, List.getElem?_toArray, List.getElem?_cons_succ, List.getElem?_cons_zero, Option.some.injEq] at ho
    subst ho
    have x64 : a.tmps[64]?.getD undef = .slice (some ⟨gv, 0, none⟩) 7 cv := by rw [← ev]; exact hG.val 3 3 64 _ rfl (hdep ⟨3, .data⟩ (by simp) rfl)
    rw [if_pos (show Region.wanted _ _ = true from rfl)]
    have hSp := hG.1
    have hf1 : flagsOf rp16C L 1 = false := (flagsOf_at (C := rp16C) (j := 1) rfl L).trans (by
      cases hl : L 25 with
      | false => rfl
      | true => exact absurd (hcl 25 _ rfl (hl) ⟨4, .phase⟩ (by simp [opsRp16]) rfl) (by rw [hLi]; decide))
    have hfin := hK (.pointer (some ⟨gv, 0, none⟩)) w (hG.quiet 4 4 65 _ rfl (by kernel_rfl) (by kernel_rfl))
    have HK := Lib.hid hfin
    generalize (resOf rp16C fun t => a.eval (.tmp t)) = R at *
    generalize flagsOf rp16C L = f at *
    clear z1 z2 hl c0 c1
    clear hSp
    clear hG hcl hdep hfr hK hfin hLi 
    go_simp
    exact HK.out
  | 5, ho =>
    simp only [opsRp16, List.getElem?_toArray, List.getElem?_cons_succ, List.getElem?_cons_zero, Option.some.injEq] at ho
    subst ho
    have x65 : a.tmps[65]?.getD undef = .pointer (some ⟨gv, 0, none⟩) := by rw [← ev]; exact hG.val 4 4 65 _ rfl (hdep ⟨4, .data⟩ (by simp) rfl)
    rw [if_pos (show Region.wanted _ _ = true from rfl)]
    have hSp := hG.1
    have hf1 : flagsOf rp16C L 1 = false := (flagsOf_at (C := rp16C) (j := 1) rfl L).trans (by
      cases hl : L 25 with
      | false => rfl
      | true => exact absurd (hcl 25 _ rfl (hl) ⟨5, .phase⟩ (by simp [opsRp16]) rfl) (by rw [hLi]; decide))
    have hfin := hK (.int .i64 v0) w (hG.quiet 5 5 66 _ rfl (by kernel_rfl) (by kernel_rfl))
    have HK := Lib.hid hfin
    generalize (resOf rp16C fun t => a.eval (.tmp t)) = R at *
    generalize flagsOf rp16C L = f at *
    obtain ⟨q0, q1, q2, q3, q4, q5, q6⟩ := hl _ _ _ hSp hf1
    clear z1 z2 hl c0 c1 q1 q2 q3 q4 q5 q6
    clear hSp
    clear hG hcl hdep hfr hK hfin hLi 
    go_simp
    exact HK.out
  | 6, ho =>
    simp only [opsRp16, List.getElem?_toArray, List.getElem?_cons_succ, List.getElem?_cons_zero, Option.some.injEq] at ho
    subst ho
    rw [if_pos (show Region.wanted _ _ = true from rfl)]
    have hSp := hG.1
    have hf1 : flagsOf rp16C L 1 = false := (flagsOf_at (C := rp16C) (j := 1) rfl L).trans (by
      cases hl : L 25 with
      | false => rfl
      | true => exact absurd (hcl 25 _ rfl (hl) ⟨6, .phase⟩ (by simp [opsRp16]) rfl) (by rw [hLi]; decide))
    have hfin := hK (.slice (some ⟨gv, 0, none⟩) 7 cv) w (hG.quiet 6 6 67 _ rfl (by kernel_rfl) (by kernel_rfl))
    have HK := Lib.hid hfin
    generalize (resOf rp16C fun t => a.eval (.tmp t)) = R at *
    generalize flagsOf rp16C L = f at *
    clear z1 z2 hl c0 c1
    clear hSp
    clear hG hcl hdep hfr hK hfin hLi 
    go_simp
    exact HK.out
  | 7, ho =>
    simp only [opsRp16, List.getElem?_toArray, List.getElem?_cons_succ, List.getElem?_cons_zero, Option.some.injEq] at ho
    subst ho
    have x67 : a.tmps[67]?.getD undef = .slice (some ⟨gv, 0, none⟩) 7 cv := by rw [← ev]; exact hG.val 6 6 67 _ rfl (hdep ⟨6, .data⟩ (by simp) rfl)
    rw [if_pos (show Region.wanted _ _ = true from rfl)]
    have hSp := hG.1
    have hf1 : flagsOf rp16C L 1 = false := (flagsOf_at (C := rp16C) (j := 1) rfl L).trans (by
      cases hl : L 25 with
      | false => rfl
      | true => exact absurd (hcl 25 _ rfl (hl) ⟨7, .phase⟩ (by simp [opsRp16]) rfl) (by rw [hLi]; decide))
    have hfin := hK (.pointer (some ⟨gv, 2, none⟩)) w (hG.quiet 7 7 68 _ rfl (by kernel_rfl) (by kernel_rfl))
    have HK := Lib.hid hfin
    generalize (resOf rp16C fun t => a.eval (.tmp t)) = R at *
    generalize flagsOf rp16C L = f at *
    clear z1 z2 hl c0 c1
    clear hSp
    clear hG hcl hdep hfr hK hfin hLi 
    go_simp
    exact HK.out
  | 8, ho =>
    simp only [opsRp16, List.getElem?_toArray, List.getElem?_cons_succ, List.getElem?_cons_zero, Option.some.injEq] at ho
    subst ho
    have x68 : a.tmps[68]?.getD undef = .pointer (some ⟨gv, 2, none⟩) := by rw [← ev]; exact hG.val 7 7 68 _ rfl (hdep ⟨7, .data⟩ (by simp) rfl)
    rw [if_pos (show Region.wanted _ _ = true from rfl)]
    have hSp := hG.1
    have hf1 : flagsOf rp16C L 1 = false := (flagsOf_at (C := rp16C) (j := 1) rfl L).trans (by
      cases hl : L 25 with
      | false => rfl
      | true => exact absurd (hcl 25 _ rfl (hl) ⟨8, .phase⟩ (by simp [opsRp16]) rfl) (by rw [hLi]; decide))
    have hfin := hK (.int .i64 v2) w (hG.quiet 8 8 69 _ rfl (by kernel_rfl) (by kernel_rfl))
    have HK := Lib.hid hfin
    generalize (resOf rp16C fun t => a.eval (.tmp t)) = R at *
    generalize flagsOf rp16C L = f at *
    obtain ⟨q0, q1, q2, q3, q4, q5, q6⟩ := hl _ _ _ hSp hf1
    clear z1 z2 hl c0 c1 q0 q1 q3 q4 q5 q6
    clear hSp
    clear hG hcl hdep hfr hK hfin hLi 
    go_simp
    exact HK.out
  | 9, ho =>
    simp only [opsRp16, List.getElem?_toArray, List.getElem?_cons_succ, List.getElem?_cons_zero, Option.some.injEq] at ho
    subst ho
    rw [if_pos (show Region.wanted _ _ = true from rfl)]
    have hSp := hG.1
    have hf1 : flagsOf rp16C L 1 = false := (flagsOf_at (C := rp16C) (j := 1) rfl L).trans (by
      cases hl : L 25 with
      | false => rfl
      | true => exact absurd (hcl 25 _ rfl (hl) ⟨9, .phase⟩ (by simp [opsRp16]) rfl) (by rw [hLi]; decide))
    have hfin := hK (.slice (some ⟨gv, 0, none⟩) 7 cv) w (hG.quiet 9 9 70 _ rfl (by kernel_rfl) (by kernel_rfl))
    have HK := Lib.hid hfin
    generalize (resOf rp16C fun t => a.eval (.tmp t)) = R at *
    generalize flagsOf rp16C L = f at *
    clear z1 z2 hl c0 c1
    clear hSp
    clear hG hcl hdep hfr hK hfin hLi 
    go_simp
    exact HK.out
  | 10, ho =>
    simp only [opsRp16, List.getElem?_toArray, List.getElem?_cons_succ, List.getElem?_cons_zero, Option.some.injEq] at ho
    subst ho
    have x70 : a.tmps[70]?.getD undef = .slice (some ⟨gv, 0, none⟩) 7 cv := by rw [← ev]; exact hG.val 9 9 70 _ rfl (hdep ⟨9, .data⟩ (by simp) rfl)
    rw [if_pos (show Region.wanted _ _ = true from rfl)]
    have hSp := hG.1
    have hf1 : flagsOf rp16C L 1 = false := (flagsOf_at (C := rp16C) (j := 1) rfl L).trans (by
      cases hl : L 25 with
      | false => rfl
      | true => exact absurd (hcl 25 _ rfl (hl) ⟨10, .phase⟩ (by simp [opsRp16]) rfl) (by rw [hLi]; decide))
    have hfin := hK (.pointer (some ⟨gv, 3, none⟩)) w (hG.quiet 10 10 71 _ rfl (by kernel_rfl) (by kernel_rfl))
    have HK := Lib.hid hfin
    generalize (resOf rp16C fun t => a.eval (.tmp t)) = R at *
    generalize flagsOf rp16C L = f at *
    clear z1 z2 hl c0 c1
    clear hSp
    clear hG hcl hdep hfr hK hfin hLi 
    go_simp
    exact HK.out
  | 11, ho =>
    simp only [opsRp16, List.getElem?_toArray, List.getElem?_cons_succ, List.getElem?_cons_zero, Option.some.injEq] at ho
    subst ho
    have x71 : a.tmps[71]?.getD undef = .pointer (some ⟨gv, 3, none⟩) := by rw [← ev]; exact hG.val 10 10 71 _ rfl (hdep ⟨10, .data⟩ (by simp) rfl)
    rw [if_pos (show Region.wanted _ _ = true from rfl)]
    have hSp := hG.1
    have hf1 : flagsOf rp16C L 1 = false := (flagsOf_at (C := rp16C) (j := 1) rfl L).trans (by
      cases hl : L 25 with
      | false => rfl
      | true => exact absurd (hcl 25 _ rfl (hl) ⟨11, .phase⟩ (by simp [opsRp16]) rfl) (by rw [hLi]; decide))
    have hfin := hK (.int .i64 v3) w (hG.quiet 11 11 72 _ rfl (by kernel_rfl) (by kernel_rfl))
    have HK := Lib.hid hfin
    generalize (resOf rp16C fun t => a.eval (.tmp t)) = R at *
    generalize flagsOf rp16C L = f at *
    obtain ⟨q0, q1, q2, q3, q4, q5, q6⟩ := hl _ _ _ hSp hf1
    clear z1 z2 hl c0 c1 q0 q1 q2 q4 q5 q6
    clear hSp
    clear hG hcl hdep hfr hK hfin hLi 
    go_simp
    exact HK.out
  | 12, ho =>
    simp only [opsRp16, List.getElem?_toArray, List.getElem?_cons_succ, List.getElem?_cons_zero, Option.some.injEq] at ho
    subst ho
    rw [if_pos (show Region.wanted _ _ = true from rfl)]
    have hSp := hG.1
    have hf1 : flagsOf rp16C L 1 = false := (flagsOf_at (C := rp16C) (j := 1) rfl L).trans (by
      cases hl : L 25 with
      | false => rfl
      | true => exact absurd (hcl 25 _ rfl (hl) ⟨12, .phase⟩ (by simp [opsRp16]) rfl) (by rw [hLi]; decide))
    have hfin := hK (.slice (some ⟨gv, 0, none⟩) 7 cv) w (hG.quiet 12 12 73 _ rfl (by kernel_rfl) (by kernel_rfl))
    have HK := Lib.hid hfin
    generalize (resOf rp16C fun t => a.eval (.tmp t)) = R at *
    generalize flagsOf rp16C L = f at *
    clear z1 z2 hl c0 c1
    clear hSp
    clear hG hcl hdep hfr hK hfin hLi 
    go_simp
    exact HK.out
  | 13, ho =>
    simp only [opsRp16, List.getElem?_toArray, List.getElem?_cons_succ, List.getElem?_cons_zero, Option.some.injEq] at ho
    subst ho
    have x73 : a.tmps[73]?.getD undef = .slice (some ⟨gv, 0, none⟩) 7 cv := by rw [← ev]; exact hG.val 12 12 73 _ rfl (hdep ⟨12, .data⟩ (by simp) rfl)
    rw [if_pos (show Region.wanted _ _ = true from rfl)]
    have hSp := hG.1
    have hf1 : flagsOf rp16C L 1 = false := (flagsOf_at (C := rp16C) (j := 1) rfl L).trans (by
      cases hl : L 25 with
      | false => rfl
      | true => exact absurd (hcl 25 _ rfl (hl) ⟨13, .phase⟩ (by simp [opsRp16]) rfl) (by rw [hLi]; decide))
    have hfin := hK (.pointer (some ⟨gv, 4, none⟩)) w (hG.quiet 13 13 74 _ rfl (by kernel_rfl) (by kernel_rfl))
    have HK := Lib.hid hfin
    generalize (resOf rp16C fun t => a.eval (.tmp t)) = R at *
    generalize flagsOf rp16C L = f at *
    clear z1 z2 hl c0 c1
    clear hSp
    clear hG hcl hdep hfr hK hfin hLi 
    go_simp
    exact HK.out
  | 14, ho =>
    simp only [opsRp16, List.getElem?_toArray, List.getElem?_cons_succ, List.getElem?_cons_zero, Option.some.injEq] at ho
    subst ho
    have x74 : a.tmps[74]?.getD undef = .pointer (some ⟨gv, 4, none⟩) := by rw [← ev]; exact hG.val 13 13 74 _ rfl (hdep ⟨13, .data⟩ (by simp) rfl)
    rw [if_pos (show Region.wanted _ _ = true from rfl)]
    have hSp := hG.1
    have hf1 : flagsOf rp16C L 1 = false := (flagsOf_at (C := rp16C) (j := 1) rfl L).trans (by
      cases hl : L 25 with
      | false => rfl
      | true => exact absurd (hcl 25 _ rfl (hl) ⟨14, .phase⟩ (by simp [opsRp16]) rfl) (by rw [hLi]; decide))
    have hfin := hK (.int .i64 v4) w (hG.quiet 14 14 75 _ rfl (by kernel_rfl) (by kernel_rfl))
    have HK := Lib.hid hfin
    generalize (resOf rp16C fun t => a.eval (.tmp t)) = R at *
    generalize flagsOf rp16C L = f at *
    obtain ⟨q0, q1, q2, q3, q4, q5, q6⟩ := hl _ _ _ hSp hf1
    clear z1 z2 hl c0 c1 q0 q1 q2 q3 q5 q6
    clear hSp
    clear hG hcl hdep hfr hK hfin hLi 
    go_simp
    exact HK.out
  | 15, ho =>
    simp only [opsRp16, List.getElem?_toArray, List.getElem?_cons_succ, List.getElem?_cons_zero, Option.some.injEq] at ho
    subst ho
    rw [if_pos (show Region.wanted _ _ = true from rfl)]
    have hSp := hG.1
    have hf1 : flagsOf rp16C L 1 = false := (flagsOf_at (C := rp16C) (j := 1) rfl L).trans (by
      cases hl : L 25 with
      | false => rfl
      | true => exact absurd (hcl 25 _ rfl (hl) ⟨15, .phase⟩ (by simp [opsRp16]) rfl) (by rw [hLi]; decide))
    have hfin := hK (.slice (some ⟨gv, 0, none⟩) 7 cv) w (hG.quiet 15 15 76 _ rfl (by kernel_rfl) (by kernel_rfl))
    have HK := Lib.hid hfin
    generalize (resOf rp16C fun t => a.eval (.tmp t)) = R at *
    generalize flagsOf rp16C L = f at *
    clear z1 z2 hl c0 c1
    clear hSp
    clear hG hcl hdep hfr hK hfin hLi 
    go_simp
    exact HK.out
  | 16, ho =>
    simp only [opsRp16, List.getElem?_toArray, List.getElem?_cons_succ, List.getElem?_cons_zero, Option.some.injEq] at ho
    subst ho
    have x76 : a.tmps[76]?.getD undef = .slice (some ⟨gv, 0, none⟩) 7 cv := by rw [← ev]; exact hG.val 15 15 76 _ rfl (hdep ⟨15, .data⟩ (by simp) rfl)
    rw [if_pos (show Region.wanted _ _ = true from rfl)]
    have hSp := hG.1
    have hf1 : flagsOf rp16C L 1 = false := (flagsOf_at (C := rp16C) (j := 1) rfl L).trans (by
      cases hl : L 25 with
      | false => rfl
      | true => exact absurd (hcl 25 _ rfl (hl) ⟨16, .phase⟩ (by simp [opsRp16]) rfl) (by rw [hLi]; decide))
    have hfin := hK (.pointer (some ⟨gv, 5, none⟩)) w (hG.quiet 16 16 77 _ rfl (by kernel_rfl) (by kernel_rfl))
    have HK := Lib.hid hfin
    generalize (resOf rp16C fun t => a.eval (.tmp t)) = R at *
    generalize flagsOf rp16C L = f at *
    clear z1 z2 hl c0 c1
    clear hSp
    clear hG hcl hdep hfr hK hfin hLi 
    go_simp
    exact HK.out
  | 17, ho =>
    simp only [opsRp16, List.getElem?_toArray, List.getElem?_cons_succ, List.getElem?_cons_zero, Option.some.injEq] at ho
    subst ho
    have x77 : a.tmps[77]?.getD undef = .pointer (some ⟨gv, 5, none⟩) := by rw [← ev]; exact hG.val 16 16 77 _ rfl (hdep ⟨16, .data⟩ (by simp) rfl)
    rw [if_pos (show Region.wanted _ _ = true from rfl)]
    have hSp := hG.1
    have hf1 : flagsOf rp16C L 1 = false := (flagsOf_at (C := rp16C) (j := 1) rfl L).trans (by
      cases hl : L 25 with
      | false => rfl
      | true => exact absurd (hcl 25 _ rfl (hl) ⟨17, .phase⟩ (by simp [opsRp16]) rfl) (by rw [hLi]; decide))
    have hfin := hK (.int .i64 v5) w (hG.quiet 17 17 78 _ rfl (by kernel_rfl) (by kernel_rfl))
    have HK := Lib.hid hfin
    generalize (resOf rp16C fun t => a.eval (.tmp t)) = R at *
    generalize flagsOf rp16C L = f at *
    obtain ⟨q0, q1, q2, q3, q4, q5, q6⟩ := hl _ _ _ hSp hf1
    clear z1 z2 hl c0 c1 q0 q1 q2 q3 q4 q6
    clear hSp
    clear hG hcl hdep hfr hK hfin hLi 
    go_simp
    exact HK.out
  | 18, ho =>
    simp only [opsRp16, List.getElem?_toArray, List.getElem?_cons_succ, List.getElem?_cons_zero, Option.some.injEq] at ho
    subst ho
    have x78 : a.tmps[78]?.getD undef = .int .i64 v5 := by rw [← ev]; exact hG.val 17 17 78 _ rfl (hdep ⟨17, .data⟩ (by simp) rfl)
    rw [if_pos (show Region.wanted _ _ = true from rfl)]
    have hSp := hG.1
    have hf1 : flagsOf rp16C L 1 = false := (flagsOf_at (C := rp16C) (j := 1) rfl L).trans (by
      cases hl : L 25 with
      | false => rfl
      | true => exact absurd (hcl 25 _ rfl (hl) ⟨18, .phase⟩ (by simp [opsRp16]) rfl) (by rw [hLi]; decide))
    have hfin := hK (.int .i64 (v5 * 60)) w (hG.quiet 18 18 79 _ rfl (by kernel_rfl) (by kernel_rfl))
    have HK := Lib.hid hfin
    generalize (resOf rp16C fun t => a.eval (.tmp t)) = R at *
    generalize flagsOf rp16C L = f at *
    clear z2 hl c0 c1
    clear hSp
    clear hG hcl hdep hfr hK hfin hLi 
    go_simp
    exact HK.out
  | 19, ho =>
    simp only [opsRp16, List.getElem?_toArray, List.getElem?_cons_succ, List.getElem?_cons_zero, Option.some.injEq] at ho
    subst ho
    rw [if_pos (show Region.wanted _ _ = true from rfl)]
    have hSp := hG.1
    have hf1 : flagsOf rp16C L 1 = false := (flagsOf_at (C := rp16C) (j := 1) rfl L).trans (by
      cases hl : L 25 with
      | false => rfl
      | true => exact absurd (hcl 25 _ rfl (hl) ⟨19, .phase⟩ (by simp [opsRp16]) rfl) (by rw [hLi]; decide))
    have hfin := hK (.slice (some ⟨gv, 0, none⟩) 7 cv) w (hG.quiet 19 19 80 _ rfl (by kernel_rfl) (by kernel_rfl))
    have HK := Lib.hid hfin
    generalize (resOf rp16C fun t => a.eval (.tmp t)) = R at *
    generalize flagsOf rp16C L = f at *
    clear z1 z2 hl c0 c1
    clear hSp
    clear hG hcl hdep hfr hK hfin hLi 
    go_simp
    exact HK.out
  | 20, ho =>
    simp only [opsRp16, List.getElem?_toArray, List.getElem?_cons_succ, List.getElem?_cons_zero, Option.some.injEq] at ho
    subst ho
    have x80 : a.tmps[80]?.getD undef = .slice (some ⟨gv, 0, none⟩) 7 cv := by rw [← ev]; exact hG.val 19 19 80 _ rfl (hdep ⟨19, .data⟩ (by simp) rfl)
    rw [if_pos (show Region.wanted _ _ = true from rfl)]
    have hSp := hG.1
    have hf1 : flagsOf rp16C L 1 = false := (flagsOf_at (C := rp16C) (j := 1) rfl L).trans (by
      cases hl : L 25 with
      | false => rfl
      | true => exact absurd (hcl 25 _ rfl (hl) ⟨20, .phase⟩ (by simp [opsRp16]) rfl) (by rw [hLi]; decide))
    have hfin := hK (.pointer (some ⟨gv, 6, none⟩)) w (hG.quiet 20 20 81 _ rfl (by kernel_rfl) (by kernel_rfl))
    have HK := Lib.hid hfin
    generalize (resOf rp16C fun t => a.eval (.tmp t)) = R at *
    generalize flagsOf rp16C L = f at *
    clear z1 z2 hl c0 c1
    clear hSp
    clear hG hcl hdep hfr hK hfin hLi 
    go_simp
    exact HK.out
  | 21, ho =>
    simp only [opsRp16, List.getElem?_toArray, List.getElem?_cons_succ, List.getElem?_cons_zero, Option.some.injEq] at ho
    subst ho
    have x81 : a.tmps[81]?.getD undef = .pointer (some ⟨gv, 6, none⟩) := by rw [← ev]; exact hG.val 20 20 81 _ rfl (hdep ⟨20, .data⟩ (by simp) rfl)
    rw [if_pos (show Region.wanted _ _ = true from rfl)]
    have hSp := hG.1
    have hf1 : flagsOf rp16C L 1 = false := (flagsOf_at (C := rp16C) (j := 1) rfl L).trans (by
      cases hl : L 25 with
      | false => rfl
      | true => exact absurd (hcl 25 _ rfl (hl) ⟨21, .phase⟩ (by simp [opsRp16]) rfl) (by rw [hLi]; decide))
    have hfin := hK (.int .i64 v6) w (hG.quiet 21 21 82 _ rfl (by kernel_rfl) (by kernel_rfl))
    have HK := Lib.hid hfin
    generalize (resOf rp16C fun t => a.eval (.tmp t)) = R at *
    generalize flagsOf rp16C L = f at *
    obtain ⟨q0, q1, q2, q3, q4, q5, q6⟩ := hl _ _ _ hSp hf1
    clear z1 z2 hl c0 c1 q0 q1 q2 q3 q4 q5
    clear hSp
    clear hG hcl hdep hfr hK hfin hLi 
    go_simp
    exact HK.out
  | 22, ho =>
    simp only [opsRp16, List.getElem?_toArray, List.getElem?_cons_succ, List.getElem?_cons_zero, Option.some.injEq] at ho
    subst ho
    have x79 : a.tmps[79]?.getD undef = .int .i64 (v5 * 60) := by rw [← ev]; exact hG.val 18 18 79 _ rfl (hdep ⟨18, .data⟩ (by simp) rfl)
    have x82 : a.tmps[82]?.getD undef = .int .i64 v6 := by rw [← ev]; exact hG.val 21 21 82 _ rfl (hdep ⟨21, .data⟩ (by simp) rfl)
    rw [if_pos (show Region.wanted _ _ = true from rfl)]
    have hSp := hG.1
    have hf1 : flagsOf rp16C L 1 = false := (flagsOf_at (C := rp16C) (j := 1) rfl L).trans (by
      cases hl : L 25 with
      | false => rfl
      | true => exact absurd (hcl 25 _ rfl (hl) ⟨22, .phase⟩ (by simp [opsRp16]) rfl) (by rw [hLi]; decide))
    have hfin := hK (.int .i64 (v5 * 60 + v6)) w (hG.quiet 22 22 83 _ rfl (by kernel_rfl) (by kernel_rfl))
    have HK := Lib.hid hfin
    generalize (resOf rp16C fun t => a.eval (.tmp t)) = R at *
    generalize flagsOf rp16C L = f at *
    clear z1 hl c0 c1
    clear hSp
    clear hG hcl hdep hfr hK hfin hLi 
    go_simp
    exact HK.out
  | 23, ho =>
    simp only [opsRp16, List.getElem?_toArray, List.getElem?_cons_succ, List.getElem?_cons_zero, Option.some.injEq] at ho
    subst ho
    have x63 : a.tmps[63]?.getD undef = .int .i64 v1 := by rw [← ev]; exact hG.val 2 2 63 _ rfl (hdep ⟨2, .data⟩ (by simp) rfl)
    have x66 : a.tmps[66]?.getD undef = .int .i64 v0 := by rw [← ev]; exact hG.val 5 5 66 _ rfl (hdep ⟨5, .data⟩ (by simp) rfl)
    have x69 : a.tmps[69]?.getD undef = .int .i64 v2 := by rw [← ev]; exact hG.val 8 8 69 _ rfl (hdep ⟨8, .data⟩ (by simp) rfl)
    have x72 : a.tmps[72]?.getD undef = .int .i64 v3 := by rw [← ev]; exact hG.val 11 11 72 _ rfl (hdep ⟨11, .data⟩ (by simp) rfl)
    have x75 : a.tmps[75]?.getD undef = .int .i64 v4 := by rw [← ev]; exact hG.val 14 14 75 _ rfl (hdep ⟨14, .data⟩ (by simp) rfl)
    have x83 : a.tmps[83]?.getD undef = .int .i64 (v5 * 60 + v6) := by rw [← ev]; exact hG.val 22 22 83 _ rfl (hdep ⟨22, .data⟩ (by simp) rfl)
    rw [if_pos (show Region.wanted _ _ = true from rfl)]
    have hSp := hG.1
    have hf1 : flagsOf rp16C L 1 = false := (flagsOf_at (C := rp16C) (j := 1) rfl L).trans (by
      cases hl : L 25 with
      | false => rfl
      | true => exact absurd (hcl 25 _ rfl (hl) ⟨23, .data⟩ (by simp [opsRp16]) rfl) (by rw [hLi]; decide))
    have hfin := hK (.agg #[.int .i64 v1, .int .i64 0, .int .i64 v0, .int .i64 v2, .int .i64 v3, .int .i64 v4, .int .i64 (v5 * 60 + v6)]) w (hG.quiet 23 23 84 _ rfl (by kernel_rfl) (by kernel_rfl))
    have HK := Lib.hid hfin
    generalize (resOf rp16C fun t => a.eval (.tmp t)) = R at *
    generalize flagsOf rp16C L = f at *
    clear z1 z2 hl c0 c1
    clear hSp
    clear hG hcl hdep hfr hK hfin hLi 
    go_simp
    exact HK.out
  | 24, ho =>
    simp only [opsRp16, List.getElem?_toArray, List.getElem?_cons_succ, List.getElem?_cons_zero, Option.some.injEq] at ho
    subst ho
    rw [if_pos (show Region.wanted _ _ = true from rfl)]
    have hSj := hG.1
    have hf0 : flagsOf rp16C L 0 = false := (flagsOf_at (C := rp16C) (j := 0) rfl L).trans hLi
    have hf1 : flagsOf rp16C L 1 = false := (flagsOf_at (C := rp16C) (j := 1) rfl L).trans (by
      cases hl : L 25 with
      | false => rfl
      | true => exact absurd (hcl 25 _ rfl (hl) ⟨24, .data⟩ (by simp [opsRp16]) rfl) (by rw [hLi]; decide))
    have hfin := fun v w' hs => hK v w' (hG.call 0 (24, 11) rfl (by kernel_rfl) v w' hs)
    have HK := Lib.hid hfin
    generalize (resOf rp16C fun t => a.eval (.tmp t)) = R at *
    generalize flagsOf rp16C L = f at *
    clear hG hcl hdep hfr hK hfin hLi
    have hk := HK.out _ _ (c0 _ _ _ hSj hf0)
    have HK2 := Lib.hid hk
    clear hk HK hSj z1 z2 hl c0 c1
    go_simp
    exact HK2.out
  | 25, ho =>
    simp only [opsRp16, List.getElem?_toArray, List.getElem?_cons_succ, List.getElem?_cons_zero, Option.some.injEq] at ho
    subst ho
    have x84 : a.tmps[84]?.getD undef = .agg #[.int .i64 v1, .int .i64 0, .int .i64 v0, .int .i64 v2, .int .i64 v3, .int .i64 v4, .int .i64 (v5 * 60 + v6)] := by rw [← ev]; exact hG.val 23 23 84 _ rfl (hdep ⟨23, .data⟩ (by simp) rfl)
    rw [if_pos (show Region.wanted _ _ = true from rfl)]
    have hSj := hG.1
    have hf0 : flagsOf rp16C L 0 = true := (flagsOf_at (C := rp16C) (j := 0) rfl L).trans (hdep ⟨24, .data⟩ (by simp) rfl)
    have hf1 : flagsOf rp16C L 1 = false := (flagsOf_at (C := rp16C) (j := 1) rfl L).trans hLi
    have r11 : a.tmps[11]?.getD undef = resOf rp16C (fun t => a.eval (.tmp t)) 0 := by rw [← ev]; exact (resOf_at (C := rp16C) (j := 0) rfl a).symm
    have hfin := fun w' hs => hK undef w' (hG.store 1 (25, 1000025) rfl (by kernel_rfl) undef w' hs)
    have HK := Lib.hid hfin
    generalize (resOf rp16C fun t => a.eval (.tmp t)) = R at *
    generalize flagsOf rp16C L = f at *
    clear hG hcl hdep hfr hK hfin hLi
    obtain ⟨g, e9, hz, hs⟩ := c1 _ _ _ hSj hf0 hf1
    rw [e9] at r11
    have hk := HK.out _ hs
    have HK2 := Lib.hid hk
    obtain ⟨q0, y0⟩ := hz 0 (by decide)
    obtain ⟨q1, y1⟩ := hz 1 (by decide)
    obtain ⟨q2, y2⟩ := hz 2 (by decide)
    obtain ⟨q3, y3⟩ := hz 3 (by decide)
    obtain ⟨q4, y4⟩ := hz 4 (by decide)
    obtain ⟨q5, y5⟩ := hz 5 (by decide)
    obtain ⟨q6, y6⟩ := hz 6 (by decide)
    clear hz hs hk HK hSj e9 z1 z2 hl c0 c1
    go_simp
    exact HK2.out
  | n + 26, ho => exact absurd (Array.getElem?_eq_some_iff.1 ho).1 (by show ¬ n + 26 < 26; omega)
end Go.Proofs.YtgkibkophoikoaaDoor

namespace Go.Proofs.YtgkibkophoikoaaDoor
open Go.RowKit
set_option linter.unusedVariables false
set_option linter.unusedSimpArgs false

def opsRp22 : Array Oper := #[
  { dst := some 96, op := Op.call { callee := Callee.value (Operand.func 39), args := #[], argTypes := #[] }, type := 62, pos := "ref.go:478", after := #[], guard := none },
  { dst := some 97, op := Op.move (Operand.tmp 12), type := 3, pos := "ref.go:478", after := #[], guard := none },
  { dst := some 98, op := Op.indexAddr 62 (Operand.tmp 96) (Operand.tmp 97), type := 0, pos := "ref.go:478", after := #[{ on := 0, ground := Ground.data }, { on := 1, ground := Ground.data }], guard := none },
  { dst := some 99, op := Op.load 9 (Operand.tmp 98), type := 9, pos := "ref.go:478", after := #[{ on := 2, ground := Ground.data }], guard := none },
  { dst := some 100, op := Op.move (Operand.tmp 0), type := 9, pos := "ref.go:478", after := #[], guard := none },
  { dst := some 101, op := Op.slice 9 (Operand.tmp 100) (some (Operand.const (Value.int IntKind.i64 3))) (some (Operand.const (Value.int IntKind.i64 6))) none, type := 9, pos := "ref.go:478", after := #[{ on := 4, ground := Ground.data }], guard := none },
  { dst := some 102, op := Op.binOp BinOp.eql 9 (Operand.tmp 99) (Operand.tmp 101) 9, type := 4, pos := "ref.go:478", after := #[{ on := 3, ground := Ground.data }, { on := 5, ground := Ground.data }], guard := none }]

def rp22Vals (g k : Nat) (s mn p2 : ByteArray) (r : Bool) : List (Nat × Nat × Value) := [(1, 97, .int .i64 (k : Int)), (2, 98, .pointer (some ⟨g, k, none⟩)), (3, 99, .string mn), (4, 100, .string s), (5, 101, .string p2), (6, 102, .bool r)]
def rp22C : List (Nat × Nat) := [(0, 96)]

set_option maxHeartbeats 4000000 in
set_option maxRecDepth 100000 in
theorem rp22 {Q : Exit → Act → World → Prop} {a0 : Act} {wp : World} (g k : Nat) (s mn p2 : ByteArray) (r : Bool) (S : Nat → (Nat → Value) → World → Prop)
    (hsz : 102 < a0.tmps.size) (in0 : a0.eval (.tmp 0) = .string s) (in12 : a0.eval (.tmp 12) = .int .i64 (k : Int))
    (hm : ∀ p R w, S p R w → 0 < p → w.cell? ⟨g, k, none⟩ = some (.string mn))
    (k2 : k < 12) (hs26 : s.size = 26) (hp2 : s.extract 3 6 = p2) (hr : (mn.toList == p2.toList) = r)
    (hv : ∀ p R w, S p R w → 0 < p → R 0 = .slice (some ⟨g, 0, none⟩) 12 12)
    (f0 : ∀ R w, S 0 R w → Calls Tryd.prog 39 #[] w fun e w' => ∃ v, e = .returned v ∧ S 1 (setR R 0 v) w')
    (hS : S 0 (resOf rp22C fun t => a0.eval (.tmp t)) wp.drew)
    (fin : ∀ a w, Fr [96, 97, 98, 99, 100, 101, 102] a0 a → a.eval (.tmp 102) = .bool r → S 1 (resOf rp22C fun t => a.eval (.tmp t)) w → Q .normal a w) :
    (Code.region 22 opsRp22 true).wp Tryd.prog Q a0 wp := by
  refine region_inv (by kernel_rfl) [96, 97, 98, 99, 100, 101, 102] (by kernel_rfl) (by kernel_rfl) (fun t ht => by simp at ht; omega) (GV (rp22Vals g k s mn p2 r) rp22C S) (.start hS) ?_
    (fun L a w hf hall hG => fin a w hf (hG.val 5 6 102 _ rfl (hall 6 (by decide))) (hG.fin (fun c hc => by simp [rp22C] at hc; subst hc; exact hall _ (by decide))))
  clear hS fin
  intro ix oo ho L a w hfr hG hLi hdep hcl K hK
  have e0 : a.tmps[0]?.getD undef = .string s := by rw [← ev]; exact (hfr.same 0 (by decide)).trans in0
  have e12 : a.tmps[12]?.getD undef = .int .i64 (k : Int) := by rw [← ev]; exact (hfr.same 12 (by decide)).trans in12
  clear in0 in12
  match ix, ho with
  | 0, ho =>
    simp only [opsRp22, List.getElem?_toArray, List.getElem?_cons_zero, Option.some.injEq] at ho
    subst ho
    rw [if_pos (show Region.wanted _ _ = true from rfl)]
    have hSj := hG.at 0 (0, 96) rfl hLi (fun c h0 hc => absurd h0 (by decide))
    have hfin := fun v w' hs => hK v w' (hG.call 0 (0, 96) rfl hLi (fun c h0 hc => absurd h0 (by decide)) (by kernel_rfl) v w' hs)
    have HK := Lib.hid hfin
    generalize (resOf rp22C fun t => a.eval (.tmp t)) = R at *
    clear hG hcl hdep hfr hK hfin hLi
    have hcc := Lib.hid (f0 _ _ hSj)
    clear hSj k2 hs26 hp2 hr hm hv f0
    go_simp
    go_at_call 39
    refine hcc.out.mono ?_
    rintro e w' ⟨v, rfl, hs⟩
    exact HK.out v w' hs
  | 1, ho =>
    simp only [opsRp22, List.getElem?_toArray, List.getElem?_cons_succ, List.getElem?_cons_zero, Option.some.injEq] at ho
    subst ho
    rw [if_pos (show Region.wanted _ _ = true from rfl)]
    obtain ⟨ph, hSp, hdone⟩ := hG.any
    have hfin := hK (.int .i64 (k : Int)) w (hG.quiet 0 1 97 _ rfl (by kernel_rfl) (by kernel_rfl))
    have HK := Lib.hid hfin
    generalize (resOf rp22C fun t => a.eval (.tmp t)) = R at *
    clear k2 hs26 hp2 hr hm hv f0
    clear hSp hdone
    clear hG hcl hdep hfr hK hfin hLi 
    go_simp
    exact HK.out
  | 2, ho =>
    simp only [opsRp22, List.getElem?_toArray, List.getElem?_cons_succ, List.getElem?_cons_zero, Option.some.injEq] at ho
    subst ho
    have x97 : a.tmps[97]?.getD undef = .int .i64 (k : Int) := by rw [← ev]; exact hG.val 0 1 97 _ rfl (hdep ⟨1, .data⟩ (by simp) rfl)
    rw [if_pos (show Region.wanted _ _ = true from rfl)]
    obtain ⟨ph, hSp, hdone⟩ := hG.any
    have hd96 : 0 < ph := hdone 0 (0, 96) rfl (hdep ⟨0, .data⟩ (by simp) rfl)
    have r96 : a.tmps[96]?.getD undef = resOf rp22C (fun t => a.eval (.tmp t)) 0 := by rw [← ev]; exact (resOf_at (C := rp22C) (j := 0) rfl a).symm
    have hfin := hK (.pointer (some ⟨g, k, none⟩)) w (hG.quiet 1 2 98 _ rfl (by kernel_rfl) (by kernel_rfl))
    have HK := Lib.hid hfin
    generalize (resOf rp22C fun t => a.eval (.tmp t)) = R at *
    rw [hv _ _ _ hSp hd96] at r96
    clear hd96 hs26 hp2 hr hm hv f0
    have k3 : (k : Int) < 12 := by omega
    have k4 : (0 : Int) ≤ (k : Int) := by omega
    clear hSp hdone
    clear hG hcl hdep hfr hK hfin hLi 
    go_simp
    exact HK.out
  | 3, ho =>
    simp only [opsRp22, List.getElem?_toArray, List.getElem?_cons_succ, List.getElem?_cons_zero, Option.some.injEq] at ho
    subst ho
    have x98 : a.tmps[98]?.getD undef = .pointer (some ⟨g, k, none⟩) := by rw [← ev]; exact hG.val 1 2 98 _ rfl (hdep ⟨2, .data⟩ (by simp) rfl)
    rw [if_pos (show Region.wanted _ _ = true from rfl)]
    obtain ⟨ph, hSp, hdone⟩ := hG.any
    have hfin := hK (.string mn) w (hG.quiet 2 3 99 _ rfl (by kernel_rfl) (by kernel_rfl))
    have HK := Lib.hid hfin
    generalize (resOf rp22C fun t => a.eval (.tmp t)) = R at *
    have hd0 : 0 < ph := hdone 0 (0, 96) rfl (hcl 2 _ rfl (hdep ⟨2, .data⟩ (by simp) rfl) ⟨0, .data⟩ (by simp [opsRp22]) rfl)
    have q0 := hm _ _ _ hSp hd0
    clear hd0 k2 hs26 hp2 hr hm hv f0
    clear hSp hdone
    clear hG hcl hdep hfr hK hfin hLi 
    go_simp
    exact HK.out
  | 4, ho =>
    simp only [opsRp22, List.getElem?_toArray, List.getElem?_cons_succ, List.getElem?_cons_zero, Option.some.injEq] at ho
    subst ho
    rw [if_pos (show Region.wanted _ _ = true from rfl)]
    obtain ⟨ph, hSp, hdone⟩ := hG.any
    have hfin := hK (.string s) w (hG.quiet 3 4 100 _ rfl (by kernel_rfl) (by kernel_rfl))
    have HK := Lib.hid hfin
    generalize (resOf rp22C fun t => a.eval (.tmp t)) = R at *
    clear k2 hs26 hp2 hr hm hv f0
    clear hSp hdone
    clear hG hcl hdep hfr hK hfin hLi 
    go_simp
    exact HK.out
  | 5, ho =>
    simp only [opsRp22, List.getElem?_toArray, List.getElem?_cons_succ, List.getElem?_cons_zero, Option.some.injEq] at ho
    subst ho
    have x100 : a.tmps[100]?.getD undef = .string s := by rw [← ev]; exact hG.val 3 4 100 _ rfl (hdep ⟨4, .data⟩ (by simp) rfl)
    rw [if_pos (show Region.wanted _ _ = true from rfl)]
    obtain ⟨ph, hSp, hdone⟩ := hG.any
    have hfin := hK (.string p2) w (hG.quiet 4 5 101 _ rfl (by kernel_rfl) (by kernel_rfl))
    have HK := Lib.hid hfin
    generalize (resOf rp22C fun t => a.eval (.tmp t)) = R at *
    clear k2 hr hm hv f0
    clear hSp hdone
    clear hG hcl hdep hfr hK hfin hLi 
    go_simp
    exact HK.out
  | 6, ho =>
    simp only [opsRp22, List.getElem?_toArray, List.getElem?_cons_succ, List.getElem?_cons_zero, Option.some.injEq] at ho
    subst ho
    have x99 : a.tmps[99]?.getD undef = .string mn := by rw [← ev]; exact hG.val 2 3 99 _ rfl (hdep ⟨3, .data⟩ (by simp) rfl)
    have x101 : a.tmps[101]?.getD undef = .string p2 := by rw [← ev]; exact hG.val 4 5 101 _ rfl (hdep ⟨5, .data⟩ (by simp) rfl)
    rw [if_pos (show Region.wanted _ _ = true from rfl)]
    obtain ⟨ph, hSp, hdone⟩ := hG.any
    have hfin := hK (.bool r) w (hG.quiet 5 6 102 _ rfl (by kernel_rfl) (by kernel_rfl))
    have HK := Lib.hid hfin
    generalize (resOf rp22C fun t => a.eval (.tmp t)) = R at *
    clear k2 hs26 hp2 hm hv f0
    clear hSp hdone
    clear hG hcl hdep hfr hK hfin hLi 
    go_simp
    exact HK.out
  | n + 7, ho => exact absurd (Array.getElem?_eq_some_iff.1 ho).1 (by show ¬ n + 7 < 7; omega)
end Go.Proofs.YtgkibkophoikoaaDoor

namespace Go.Proofs.YtgkibkophoikoaaDoor
open Go.RowKit
set_option linter.unusedVariables false
set_option linter.unusedSimpArgs false
set_option maxRecDepth 100000

theorem rmon_is {t : List UInt8} {m : Nat} (h1 : 1 ≤ m) (h : Dt.rmon t = m) : m ≤ 12 ∧ Dt.mname m = t := by
  unfold Dt.rmon at h
  split at h
  · rename_i j hf
    subst h
    have h2 := List.find?_some (p := fun j => Dt.mname (j + 1) == t) hf
    exact ⟨by have := List.mem_range.1 (List.mem_of_find?_eq_some hf); omega, beq_iff_eq.1 h2⟩
  · omega
theorem rmon_le (t : List UInt8) : Dt.rmon t ≤ 12 := by
  by_cases h : 1 ≤ Dt.rmon t
  · exact (rmon_is h rfl).1
  · omega
/-- The month found so far. -/
def rmk (t : List UInt8) (k : Nat) : Nat := if Dt.rmon t ≤ k then Dt.rmon t else 0
theorem rmk_zero (t : List UInt8) : rmk t 0 = 0 := by unfold rmk; split <;> omega
theorem rmk_yes {t : List UInt8} {k : Nat} (hk : k < 12) (h : Dt.mname (k + 1) = t) : rmk t (k + 1) = k + 1 := by
  have := Dt.rmon_of (by omega) (by omega) h
  unfold rmk
  rw [this, if_pos (Nat.le_refl _)]
theorem rmk_no {t : List UInt8} {k : Nat} (h : Dt.mname (k + 1) ≠ t) : rmk t (k + 1) = rmk t k := by
  have : Dt.rmon t ≠ k + 1 := fun e => h (rmon_is (by omega) e).2
  unfold rmk
  by_cases h1 : Dt.rmon t ≤ k
  · rw [if_pos h1, if_pos (by omega)]
  · rw [if_neg h1, if_neg (by omega)]
theorem rmk_12 (t : List UInt8) : rmk t 12 = Dt.rmon t := by unfold rmk; rw [if_pos (rmon_le t)]

def NN : List Nat := [0, 7, 12, 15, 18, 22, 24]
def WW : List Nat := [2, 4, 2, 2, 2, 2, 2]
theorem nn_ww : ∀ k : Fin 7, NN.getD k.val 0 + WW.getD k.val 0 ≤ 26 ∧ 2 ≤ WW.getD k.val 0 ∧ WW.getD k.val 0 ≤ 4 := by decide
/-- A piece before the blank is cut off. -/
theorem piece_at {s : List UInt8} (h : s.length = 26) (k : Nat) (hk : k < 7) : (Dt.pieces s)[k]? = some (if k = 0 then Dt.trim ((s.drop (NN.getD k 0)).take (WW.getD k 0)) else (s.drop (NN.getD k 0)).take (WW.getD k 0)) := by
  match k, hk with
  | 0, _ => rfl
  | 1, _ => rfl
  | 2, _ => rfl
  | 3, _ => rfl
  | 4, _ => rfl
  | 5, _ => rfl
  | 6, _ =>
    show some (s.drop 24) = some ((s.drop 24).take 2)
    rw [List.take_of_length_le (by rw [List.length_drop]; omega)]
def il (l : List Int) : List Value := l.map fun n => .int .i64 n
theorem il_append (a b : List Int) : il (a ++ b) = il a ++ il b := by simp [il]
theorem il_at (l : List Int) (j : Nat) (v : Int) (h : l[j]? = some v) : (il l)[j]? = some (.int .i64 v) := by unfold il; rw [List.getElem?_map, h]; rfl
theorem Tryd.infoInt : (Tryd.prog.info? 3).map (fun i => (i.zero, i.size, i.bytes)) = some (some (.int .i64 0), 1, 8) := by kernel_rfl
theorem rparse_ret (w : World) (tmps : Array Value) (g : Nat) (hp : tmps.getD 2 undef = .pointer (some ⟨g, 0, none⟩)) (y m k hh mi s z : Int) (x : Value) (hx : tmps.getD 3 undef = x) (hg : Blk w g 33 #[.int .i64 y, .int .i64 m, .int .i64 k, .int .i64 hh, .int .i64 mi, .int .i64 s, .int .i64 z]) :
    (results Tryd.f15 tmps).run Tryd.prog w = .ok (.tuple #[.agg #[.int .i64 y, .int .i64 m, .int .i64 k, .int .i64 hh, .int .i64 mi, .int .i64 s, .int .i64 z], x]) w :=
  ret_cell2 rfl tmps w g hp _ _ hg _ Tryd.underlying33 rfl (by kernel_rfl) x hx
/-- The date's region under way. -/
structure RP (wr : World) (fin : Array Value) (f : Nat → Bool) (R : Nat → Value) (W : World) : Prop where
  below : Below wr.heap.size wr W
  new : f 0 = true → ∃ g, R 0 = .pointer (some ⟨g, 0, none⟩) ∧ wr.heap.size ≤ g ∧ Blk W g 33 (if f 1 then fin else #[.int .i64 0, .int .i64 0, .int .i64 0, .int .i64 0, .int .i64 0, .int .i64 0, .int .i64 0])
  ord : f 1 = true → f 0 = true
theorem nums_take (L : List (List UInt8)) (k : Nat) (p : List UInt8) (h : L[k]? = some p) : (L.take (k + 1)).map (fun q => (Oct.numTo q : Int)) = (L.take k).map (fun q => (Oct.numTo q : Int)) ++ [(Oct.numTo p : Int)] := by
  have hk : k < L.length := (List.getElem?_eq_some_iff.1 h).1
  rw [List.take_succ_eq_append_getElem hk, List.map_append]
  have : L[k] = p := (List.getElem?_eq_some_iff.1 h).2
  rw [this]; rfl

set_option maxHeartbeats 12800000 in
theorem rparse_any (s : ByteArray) (w : World) : Calls Tryd.prog 15 #[.string s] w (ParseEnd s w) := by
  obtain ⟨w1, Hw1⟩ : ∃ w1, Hid (w1 = w.alloc (.cells #[.int .i64 0, .int .i64 0, .int .i64 0, .int .i64 0, .int .i64 0, .int .i64 0, .int .i64 0] 33)) := ⟨_, Lib.hid rfl⟩
  have HB1 : Hid (Below w.heap.size w w1) := Lib.hid (by rw [Hw1.out]; exact (Below.refl _ _).alloc (Nat.le_refl _) _)
  have HG1 : Hid (Blk w1 w.heap.size 33 #[.int .i64 0, .int .i64 0, .int .i64 0, .int .i64 0, .int .i64 0, .int .i64 0, .int .i64 0]) := Lib.hid (by rw [Hw1.out]; exact Blk.new w _ _)
  have hlen : s.data.toList.length = s.size := rfl
  by_cases h26 : s.size = 26
  case neg =>
    have b1 : ((s.size : Int) != 26) = true := by rw [bne_iff_ne]; omega
    have HN : Hid (Dt.ParseR s.data.toList none) := Lib.hid (Dt.ParseR.len (by rw [hlen]; exact h26))
    have HG : Hid (Blk (w.alloc (.cells #[.int .i64 0, .int .i64 0, .int .i64 0, .int .i64 0, .int .i64 0, .int .i64 0, .int .i64 0] 33)) w.heap.size 33 #[.int .i64 0, .int .i64 0, .int .i64 0, .int .i64 0, .int .i64 0, .int .i64 0, .int .i64 0]) := Lib.hid (Blk.new w _ _)
    clear h26 hlen
    go_enter Tryd.func15, Tryd.ntmps15
    go_wp2
    refine bodyPost_ret (rparse_ret _ _ w.heap.size rfl 0 0 0 0 0 0 0 _ rfl HG.out) rfl ?_
    exact ⟨none, HN.out, rfl, (Below.refl _ _).alloc (Nat.le_refl _) _⟩
  have b1 : ((s.size : Int) != 26) = false := by rw [bne_eq_false_iff_eq]; omega
  have H26 := Lib.hid h26
  have HL26 : Hid (s.data.toList.length = 26) := Lib.hid (hlen.trans h26)
  obtain ⟨w2, Hw2⟩ : ∃ w2, Hid (w2 = w1.alloc (.cells #[.int .i64 0, .int .i64 7, .int .i64 12, .int .i64 15, .int .i64 18, .int .i64 22, .int .i64 24] 3)) := ⟨_, Lib.hid rfl⟩
  obtain ⟨w3, Hw3⟩ : ∃ w3, Hid (w3 = w2.alloc (.cells #[.int .i64 2, .int .i64 4, .int .i64 2, .int .i64 2, .int .i64 2, .int .i64 2, .int .i64 2] 3)) := ⟨_, Lib.hid rfl⟩
  have hn2 : Blk w2 w1.heap.size 3 #[.int .i64 0, .int .i64 7, .int .i64 12, .int .i64 15, .int .i64 18, .int .i64 22, .int .i64 24] := by rw [Hw2.out]; exact Blk.new w1 _ _
  have hb12 : Below w1.heap.size w1 w2 := by rw [Hw2.out]; exact (Below.refl _ _).alloc (Nat.le_refl _) _
  have hb23 : Below w2.heap.size w2 w3 := by rw [Hw3.out]; exact (Below.refl _ _).alloc (Nat.le_refl _) _
  obtain ⟨gn, Hgn⟩ : ∃ gn, Hid (gn = w1.heap.size) := ⟨_, Lib.hid rfl⟩
  obtain ⟨gw, Hgw⟩ : ∃ gw, Hid (gw = w2.heap.size) := ⟨_, Lib.hid rfl⟩
  have hgn : w.heap.size + 1 = gn := by rw [Hgn.out, Hw1.out]; simp
  have hgw : gn + 1 = gw := by rw [Hgw.out, Hgn.out, Hw2.out]; simp
  have HN3 : Hid (Blk w3 gn 3 #[.int .i64 0, .int .i64 7, .int .i64 12, .int .i64 15, .int .i64 18, .int .i64 22, .int .i64 24]) := Lib.hid (by rw [Hgn.out]; exact hn2.below hb23 hn2.lt)
  have HW3 : Hid (Blk w3 gw 3 #[.int .i64 2, .int .i64 4, .int .i64 2, .int .i64 2, .int .i64 2, .int .i64 2, .int .i64 2]) := Lib.hid (by rw [Hgw.out, Hw3.out]; exact Blk.new w2 _ _)
  have HB3 : Hid (Below w.heap.size w w3) := Lib.hid ((HB1.out.trans (hb12.mono HB1.out.size)).trans (hb23.mono (Nat.le_trans HB1.out.size hb12.size)))
  have HG3 : Hid (Blk w3 w.heap.size 33 #[.int .i64 0, .int .i64 0, .int .i64 0, .int .i64 0, .int .i64 0, .int .i64 0, .int .i64 0]) := Lib.hid ((HG1.out.below hb12 HG1.out.lt).below hb23 (Nat.lt_of_lt_of_le HG1.out.lt hb12.size))
  have hw3 := Hw3.out
  rw [Hw2.out, Hw1.out] at hw3
  have Hw3' := Lib.hid hw3
  obtain ⟨L, HL⟩ : ∃ L, Hid (L = Dt.pieces s.data.toList) := ⟨_, Lib.hid rfl⟩
  clear hn2 hb12 hb23 hw3 h26 hlen
  go_enter Tryd.func15, Tryd.ntmps15
  go_wp2
  rw [← Hw3'.out]
  go_loopw [6, 7] (fun v i wr => ∃ (k : Nat) (Av : Option Addr) (cv : Nat) (l : List Int), k ≤ 7 ∧ v = .slice Av k cv ∧ i = .int .i64 k ∧ Hid (l = (L.take k).map (fun q => (Oct.numTo q : Int))) ∧ Hid (∀ q ∈ L.take k, Oct.numOk q = true) ∧ Hid (wr.ownsRow w3.heap.size 3 1 (.slice Av k cv) k (il l)) ∧ Hid (Below w3.heap.size w3 wr)) (fun _ i _ => 7 - (intOf i).toNat)
  case atStart => exact ⟨0, none, 0, [], Nat.zero_le _, rfl, rfl, Lib.hid rfl, Lib.hid (fun q hq => by simp at hq), Lib.hid (World.ownsRow_nil _ _ _ _), Lib.hid (Below.refl _ _)⟩
  case round =>
    obtain ⟨k, Av, cv, l, hk, rfl, rfl, HLL, HOK, HROW, HBr⟩ := hrel
    clear hgn hgw
    have HGr := Lib.hid (HG3.out.below HBr.out HG3.out.lt)
    by_cases hlt : k < 7
    case pos =>
      obtain ⟨hnw, hw2, hw4⟩ := nn_ww ⟨k, hlt⟩
      obtain ⟨nk, Hnk⟩ : ∃ nk, Hid (nk = NN.getD k 0) := ⟨_, Lib.hid rfl⟩
      obtain ⟨wk, Hwk⟩ : ∃ wk, Hid (wk = WW.getD k 0) := ⟨_, Lib.hid rfl⟩
      simp only at hnw hw2 hw4
      rw [← Hnk.out, ← Hwk.out] at hnw
      rw [← Hwk.out] at hw2 hw4
      have xn : wr.cell? ⟨gn, k, none⟩ = some (.int .i64 (nk : Int)) := (HN3.out.below HBr.out HN3.out.lt).cell k _ (by
        rw [Hnk.out]
        match k, hlt with
        | 0, _ => rfl
        | 1, _ => rfl
        | 2, _ => rfl
        | 3, _ => rfl
        | 4, _ => rfl
        | 5, _ => rfl
        | 6, _ => rfl)
      have xw : wr.cell? ⟨gw, k, none⟩ = some (.int .i64 (wk : Int)) := (HW3.out.below HBr.out HW3.out.lt).cell k _ (by
        rw [Hwk.out]
        match k, hlt with
        | 0, _ => rfl
        | 1, _ => rfl
        | 2, _ => rfl
        | 3, _ => rfl
        | 4, _ => rfl
        | 5, _ => rfl
        | 6, _ => rfl)
      obtain ⟨hi, Hhi⟩ : ∃ hi : Nat, Hid (hi = nk + wk) := ⟨_, Lib.hid rfl⟩
      have ehi : (nk : Int) + (wk : Int) = (hi : Int) := by have := Hhi.out; omega
      have hi26 : hi ≤ 26 := by rw [Hhi.out]; exact hnw
      have iw : IntKind.i64.wrap (hi : Int) = (hi : Int) := IntWalk.i64_in _ (by omega)
      have hle1 : (nk : Int) ≤ (hi : Int) := by have := Hhi.out; omega
      have hle2 : (hi : Int) ≤ (s.size : Int) := by rw [H26.out]; omega
      have hkz : (k : Int) < 7 := by omega
      obtain ⟨raw, hraw⟩ : ∃ raw, s.extract nk hi = raw := ⟨_, rfl⟩
      have draw : raw.data.toList = (s.data.toList.drop nk).take wk := by rw [← hraw, Lib.extract_data, Hhi.out, Nat.add_sub_cancel_left]
      have zraw : raw.size = wk := by
        have h1 : raw.data.toList.length = raw.size := rfl
        rw [draw, List.length_take, List.length_drop, HL26.out] at h1
        omega
      have HPA : Hid (L[k]? = some (if k = 0 then Dt.trim raw.data.toList else raw.data.toList)) := Lib.hid (by rw [HL.out, piece_at HL26.out k hlt, draw, Hnk.out, Hwk.out])
      have hr0 : 0 < raw.size := by omega
      obtain ⟨ch, hch⟩ : ∃ ch : UInt8, raw[0] = ch := ⟨_, rfl⟩
      have HCH : Hid (raw.data.toList.head? = some ch) := Lib.hid (by
        rw [List.head?_eq_getElem?, List.getElem?_eq_getElem (show 0 < raw.data.toList.length from hr0)]
        exact congrArg some hch)
      have hr0z : (0 : Int) < (raw.size : Int) := by omega
      have hr4 : raw.size ≤ 4 := by omega
      clear draw zraw hnw hw2 hw4 hi26
      have HFAIL : Hid (∀ (W : World) (p : List UInt8), Below wr.heap.size wr W → L[k]? = some p → Oct.numOk p = false → ParseEnd s w (.returned (.tuple #[.agg #[.int .i64 0, .int .i64 0, .int .i64 0, .int .i64 0, .int .i64 0, .int .i64 0, .int .i64 0], .int .i64 3])) (((((((W.setCell ⟨w.heap.size, 0, none⟩ (.int .i64 0)).setCell ⟨w.heap.size, 1, none⟩ (.int .i64 0)).setCell ⟨w.heap.size, 2, none⟩ (.int .i64 0)).setCell ⟨w.heap.size, 3, none⟩ (.int .i64 0)).setCell ⟨w.heap.size, 4, none⟩ (.int .i64 0)).setCell ⟨w.heap.size, 5, none⟩ (.int .i64 0)).setCell ⟨w.heap.size, 6, none⟩ (.int .i64 0))) := Lib.hid (fun W p hb hp hno =>
        ⟨none, Dt.ParseR.piece (p := p) (by rw [← HL.out]; exact List.mem_of_getElem? hp) hno, rfl, below_set7 ((HB3.out.trans (HBr.out.mono HB3.out.size)).trans (hb.mono (Nat.le_trans HB3.out.size HBr.out.size))) (Nat.le_refl _) _ _ _ _ _ _ _⟩)
      by_cases hk0 : k = 0
      · have ck : ((k : Int) == 0) = true := by rw [beq_iff_eq]; omega
        by_cases h32 : ch.toNat = 32
        · have cb : ((ch.toNat : Int) == 32) = true := by rw [beq_iff_eq]; omega
          obtain ⟨pr, hpr⟩ : ∃ pr, raw.extract 1 raw.size = pr := ⟨_, rfl⟩
          have hr1z : (1 : Int) ≤ (raw.size : Int) := by omega
          have dpr : pr.data.toList = raw.data.toList.tail := by
            rw [← hpr, Lib.extract_data]
            have h1 : raw.data.toList.length = raw.size := rfl
            rw [List.take_of_length_le (by rw [List.length_drop, h1]; exact Nat.le_refl _), List.drop_one]
          have HPP : Hid (L[k]? = some pr.data.toList) := Lib.hid (by
            rw [HPA.out, if_pos hk0, dpr]
            unfold Dt.trim
            rw [HCH.out, if_pos (by rw [show ch = 32 from UInt8.toNat_inj.1 h32])])
          have hp4 : pr.size ≤ maxLen := by rw [← hpr]; simp; unfold maxLen; omega
          clear dpr h32 hk0
          have HNUM := Lib.hid (fun W => rnum_any pr W hp4)
          have HOKP := Lib.hid (fun W hb hno => HFAIL.out W pr.data.toList hb HPP.out hno)
          go_wp2_with fail
          go_quiet (fail)
          obtain ⟨W, HWd⟩ : ∃ W, Hid (W = wr.drewN nq) := ⟨_, Lib.hid rfl⟩
          have HBWd : Hid (Below wr.heap.size wr W) := Lib.hid (by rw [HWd.out]; exact below_drewN (Below.refl _ _) nq)
          have HRWd : Hid (W.ownsRow w3.heap.size 3 1 (.slice Av k cv) k (il l)) := Lib.hid (by rw [HWd.out]; exact HROW.out)
          have HGWd : Hid (Blk W w.heap.size 33 #[.int .i64 0, .int .i64 0, .int .i64 0, .int .i64 0, .int .i64 0, .int .i64 0, .int .i64 0]) := Lib.hid (by rw [HWd.out]; exact HGr.out)
          have HB3Wd : Hid (Below w3.heap.size w3 W) := Lib.hid (by rw [HWd.out]; exact below_drewN HBr.out nq)
          rw [← HWd.out]
          clear xn xw
          go_wp2_with fail
          refine (HNUM.out W).mono ?_
          rintro e W2 ⟨rfl, rfl⟩
          cases hok : Oct.numOk pr.data.toList with
          | false =>
            rw [numVal_no _ hok]
            have HF := Lib.hid (HOKP.out W HBWd.out hok)
            have x0 := HGWd.out.cell 0 _ rfl
            have x1 := HGWd.out.cell 1 _ rfl
            have x2 := HGWd.out.cell 2 _ rfl
            have x3 := HGWd.out.cell 3 _ rfl
            have x4 := HGWd.out.cell 4 _ rfl
            have x5 := HGWd.out.cell 5 _ rfl
            have x6 := HGWd.out.cell 6 _ rfl
            have y0 := HGWd.out.frozen 0
            have y1 := HGWd.out.frozen 1
            have y2 := HGWd.out.frozen 2
            have y3 := HGWd.out.frozen 3
            have y4 := HGWd.out.frozen 4
            have y5 := HGWd.out.frozen 5
            have y6 := HGWd.out.frozen 6
            clear hok
            go_wp2
            refine bodyPost_ret (rparse_ret _ _ w.heap.size rfl 0 0 0 0 0 0 0 _ rfl (HGWd.out.set7 _ _ _ _ _ _ _)) rfl ?_
            exact HF.out
          | true =>
            rw [numVal_yes _ hok]
            have HNOK := Lib.hid hok
            obtain ⟨q, Hq⟩ : ∃ q : Nat, Hid (q = Oct.numTo pr.data.toList) := ⟨_, Lib.hid rfl⟩
            rw [← Hq.out]
            obtain ⟨v', W3, hr, h31, h32, h33, A3, c3, rfl⟩ := row_app W 44 44 3 _ 1 8 Tryd.infoInt Tryd.underlying44 rfl (by decide) (by decide) w3.heap.size _ k (il l) HRWd.out [.int .i64 (q : Int)] rfl (by intro u hu; simp at hu; subst hu; rfl) (by omega) HB3Wd.out.size
            have HR3 := Lib.hid hr
            have HL2 : Hid (l ++ [(q : Int)] = (L.take (k + 1)).map (fun q => (Oct.numTo q : Int))) := Lib.hid (by rw [nums_take L k _ HPP.out, ← HLL.out, Hq.out])
            have HOK2 : Hid (∀ q ∈ L.take (k + 1), Oct.numOk q = true) := Lib.hid (fun q hq => by
              have hk : k < L.length := (List.getElem?_eq_some_iff.1 HPP.out).1
              rw [List.take_succ_eq_append_getElem hk] at hq
              rcases List.mem_append.1 hq with hq | hq
              · exact HOK.out q hq
              · rw [List.mem_singleton] at hq
                rw [hq, (List.getElem?_eq_some_iff.1 HPP.out).2]
                exact HNOK.out)
            have HRW3 : Hid (W3.ownsRow w3.heap.size 3 1 (.slice A3 (k + 1) c3) (k + 1) (il (l ++ [(q : Int)]))) := Lib.hid (by rw [il_append]; exact h31)
            have HBW3 : Hid (Below w3.heap.size w3 W3) := Lib.hid (HB3Wd.out.trans h33)
            clear hok hr h31 h32 h33
            go_wp2_with (at_builtin; refine wpList_append_run rfl _ _ 44 rfl _ _ _ rfl rfl _ _ (by exact HR3.out) ?_)
            go_roundw
            case rel => exact ⟨k + 1, A3, c3, l ++ [(q : Int)], by omega, rfl, by go_num, HL2, HOK2, HRW3, HBW3⟩
            case measure => simp [intOf]; omega
        · have cb : ((ch.toNat : Int) == 32) = false := by rw [beq_eq_false_iff_ne]; omega
          obtain ⟨pr, hpr⟩ : ∃ pr, pr = raw := ⟨_, rfl⟩
          subst hpr
          have HPP : Hid (L[k]? = some pr.data.toList) := Lib.hid (by
            rw [HPA.out, if_pos hk0]
            unfold Dt.trim
            rw [HCH.out, if_neg (fun e => h32 (by rw [Option.some.inj e]; rfl))])
          have hp4 : pr.size ≤ maxLen := by unfold maxLen; omega
          clear h32 hk0
          have HNUM := Lib.hid (fun W => rnum_any pr W hp4)
          have HOKP := Lib.hid (fun W hb hno => HFAIL.out W pr.data.toList hb HPP.out hno)
          go_wp2_with fail
          go_quiet (fail)
          obtain ⟨W, HWd⟩ : ∃ W, Hid (W = wr.drewN nq) := ⟨_, Lib.hid rfl⟩
          have HBWd : Hid (Below wr.heap.size wr W) := Lib.hid (by rw [HWd.out]; exact below_drewN (Below.refl _ _) nq)
          have HRWd : Hid (W.ownsRow w3.heap.size 3 1 (.slice Av k cv) k (il l)) := Lib.hid (by rw [HWd.out]; exact HROW.out)
          have HGWd : Hid (Blk W w.heap.size 33 #[.int .i64 0, .int .i64 0, .int .i64 0, .int .i64 0, .int .i64 0, .int .i64 0, .int .i64 0]) := Lib.hid (by rw [HWd.out]; exact HGr.out)
          have HB3Wd : Hid (Below w3.heap.size w3 W) := Lib.hid (by rw [HWd.out]; exact below_drewN HBr.out nq)
          rw [← HWd.out]
          clear xn xw
          go_wp2_with fail
          refine (HNUM.out W).mono ?_
          rintro e W2 ⟨rfl, rfl⟩
          cases hok : Oct.numOk pr.data.toList with
          | false =>
            rw [numVal_no _ hok]
            have HF := Lib.hid (HOKP.out W HBWd.out hok)
            have x0 := HGWd.out.cell 0 _ rfl
            have x1 := HGWd.out.cell 1 _ rfl
            have x2 := HGWd.out.cell 2 _ rfl
            have x3 := HGWd.out.cell 3 _ rfl
            have x4 := HGWd.out.cell 4 _ rfl
            have x5 := HGWd.out.cell 5 _ rfl
            have x6 := HGWd.out.cell 6 _ rfl
            have y0 := HGWd.out.frozen 0
            have y1 := HGWd.out.frozen 1
            have y2 := HGWd.out.frozen 2
            have y3 := HGWd.out.frozen 3
            have y4 := HGWd.out.frozen 4
            have y5 := HGWd.out.frozen 5
            have y6 := HGWd.out.frozen 6
            clear hok
            go_wp2
            refine bodyPost_ret (rparse_ret _ _ w.heap.size rfl 0 0 0 0 0 0 0 _ rfl (HGWd.out.set7 _ _ _ _ _ _ _)) rfl ?_
            exact HF.out
          | true =>
            rw [numVal_yes _ hok]
            have HNOK := Lib.hid hok
            obtain ⟨q, Hq⟩ : ∃ q : Nat, Hid (q = Oct.numTo pr.data.toList) := ⟨_, Lib.hid rfl⟩
            rw [← Hq.out]
            obtain ⟨v', W3, hr, h31, h32, h33, A3, c3, rfl⟩ := row_app W 44 44 3 _ 1 8 Tryd.infoInt Tryd.underlying44 rfl (by decide) (by decide) w3.heap.size _ k (il l) HRWd.out [.int .i64 (q : Int)] rfl (by intro u hu; simp at hu; subst hu; rfl) (by omega) HB3Wd.out.size
            have HR3 := Lib.hid hr
            have HL2 : Hid (l ++ [(q : Int)] = (L.take (k + 1)).map (fun q => (Oct.numTo q : Int))) := Lib.hid (by rw [nums_take L k _ HPP.out, ← HLL.out, Hq.out])
            have HOK2 : Hid (∀ q ∈ L.take (k + 1), Oct.numOk q = true) := Lib.hid (fun q hq => by
              have hk : k < L.length := (List.getElem?_eq_some_iff.1 HPP.out).1
              rw [List.take_succ_eq_append_getElem hk] at hq
              rcases List.mem_append.1 hq with hq | hq
              · exact HOK.out q hq
              · rw [List.mem_singleton] at hq
                rw [hq, (List.getElem?_eq_some_iff.1 HPP.out).2]
                exact HNOK.out)
            have HRW3 : Hid (W3.ownsRow w3.heap.size 3 1 (.slice A3 (k + 1) c3) (k + 1) (il (l ++ [(q : Int)]))) := Lib.hid (by rw [il_append]; exact h31)
            have HBW3 : Hid (Below w3.heap.size w3 W3) := Lib.hid (HB3Wd.out.trans h33)
            clear hok hr h31 h32 h33
            go_wp2_with (at_builtin; refine wpList_append_run rfl _ _ 44 rfl _ _ _ rfl rfl _ _ (by exact HR3.out) ?_)
            go_roundw
            case rel => exact ⟨k + 1, A3, c3, l ++ [(q : Int)], by omega, rfl, by go_num, HL2, HOK2, HRW3, HBW3⟩
            case measure => simp [intOf]; omega
      · have ck : ((k : Int) == 0) = false := by rw [beq_eq_false_iff_ne]; omega
        obtain ⟨pr, hpr⟩ : ∃ pr, pr = raw := ⟨_, rfl⟩
        subst hpr
        have HPP : Hid (L[k]? = some pr.data.toList) := Lib.hid (by rw [HPA.out, if_neg hk0])
        have hp4 : pr.size ≤ maxLen := by unfold maxLen; omega
        clear hk0
        have HNUM := Lib.hid (fun W => rnum_any pr W hp4)
        have HOKP := Lib.hid (fun W hb hno => HFAIL.out W pr.data.toList hb HPP.out hno)
        go_wp2_with fail
        go_quiet (fail)
        obtain ⟨W, HWd⟩ : ∃ W, Hid (W = wr.drewN nq) := ⟨_, Lib.hid rfl⟩
        have HBWd : Hid (Below wr.heap.size wr W) := Lib.hid (by rw [HWd.out]; exact below_drewN (Below.refl _ _) nq)
        have HRWd : Hid (W.ownsRow w3.heap.size 3 1 (.slice Av k cv) k (il l)) := Lib.hid (by rw [HWd.out]; exact HROW.out)
        have HGWd : Hid (Blk W w.heap.size 33 #[.int .i64 0, .int .i64 0, .int .i64 0, .int .i64 0, .int .i64 0, .int .i64 0, .int .i64 0]) := Lib.hid (by rw [HWd.out]; exact HGr.out)
        have HB3Wd : Hid (Below w3.heap.size w3 W) := Lib.hid (by rw [HWd.out]; exact below_drewN HBr.out nq)
        rw [← HWd.out]
        clear xn xw
        go_wp2_with fail
        refine (HNUM.out W).mono ?_
        rintro e W2 ⟨rfl, rfl⟩
        cases hok : Oct.numOk pr.data.toList with
        | false =>
          rw [numVal_no _ hok]
          have HF := Lib.hid (HOKP.out W HBWd.out hok)
          have x0 := HGWd.out.cell 0 _ rfl
          have x1 := HGWd.out.cell 1 _ rfl
          have x2 := HGWd.out.cell 2 _ rfl
          have x3 := HGWd.out.cell 3 _ rfl
          have x4 := HGWd.out.cell 4 _ rfl
          have x5 := HGWd.out.cell 5 _ rfl
          have x6 := HGWd.out.cell 6 _ rfl
          have y0 := HGWd.out.frozen 0
          have y1 := HGWd.out.frozen 1
          have y2 := HGWd.out.frozen 2
          have y3 := HGWd.out.frozen 3
          have y4 := HGWd.out.frozen 4
          have y5 := HGWd.out.frozen 5
          have y6 := HGWd.out.frozen 6
          clear hok
          go_wp2
          refine bodyPost_ret (rparse_ret _ _ w.heap.size rfl 0 0 0 0 0 0 0 _ rfl (HGWd.out.set7 _ _ _ _ _ _ _)) rfl ?_
          exact HF.out
        | true =>
          rw [numVal_yes _ hok]
          have HNOK := Lib.hid hok
          obtain ⟨q, Hq⟩ : ∃ q : Nat, Hid (q = Oct.numTo pr.data.toList) := ⟨_, Lib.hid rfl⟩
          rw [← Hq.out]
          obtain ⟨v', W3, hr, h31, h32, h33, A3, c3, rfl⟩ := row_app W 44 44 3 _ 1 8 Tryd.infoInt Tryd.underlying44 rfl (by decide) (by decide) w3.heap.size _ k (il l) HRWd.out [.int .i64 (q : Int)] rfl (by intro u hu; simp at hu; subst hu; rfl) (by omega) HB3Wd.out.size
          have HR3 := Lib.hid hr
          have HL2 : Hid (l ++ [(q : Int)] = (L.take (k + 1)).map (fun q => (Oct.numTo q : Int))) := Lib.hid (by rw [nums_take L k _ HPP.out, ← HLL.out, Hq.out])
          have HOK2 : Hid (∀ q ∈ L.take (k + 1), Oct.numOk q = true) := Lib.hid (fun q hq => by
            have hk : k < L.length := (List.getElem?_eq_some_iff.1 HPP.out).1
            rw [List.take_succ_eq_append_getElem hk] at hq
            rcases List.mem_append.1 hq with hq | hq
            · exact HOK.out q hq
            · rw [List.mem_singleton] at hq
              rw [hq, (List.getElem?_eq_some_iff.1 HPP.out).2]
              exact HNOK.out)
          have HRW3 : Hid (W3.ownsRow w3.heap.size 3 1 (.slice A3 (k + 1) c3) (k + 1) (il (l ++ [(q : Int)]))) := Lib.hid (by rw [il_append]; exact h31)
          have HBW3 : Hid (Below w3.heap.size w3 W3) := Lib.hid (HB3Wd.out.trans h33)
          clear hok hr h31 h32 h33
          go_wp2_with (at_builtin; refine wpList_append_run rfl _ _ 44 rfl _ _ _ rfl rfl _ _ (by exact HR3.out) ?_)
          go_roundw
          case rel => exact ⟨k + 1, A3, c3, l ++ [(q : Int)], by omega, rfl, by go_num, HL2, HOK2, HRW3, HBW3⟩
          case measure => simp [intOf]; omega
    obtain rfl : k = 7 := by omega
    obtain ⟨wo, rfl⟩ : ∃ wo, wo = wr := ⟨_, rfl⟩
    have hLL := HLL.out
    have hL7 : L.take 7 = L := by rw [HL.out]; rfl
    rw [hL7, HL.out] at hLL
    simp only [Dt.pieces, List.map_cons, List.map_nil] at hLL
    obtain ⟨v0, Hv0⟩ : ∃ v : Int, Hid (v = (Oct.numTo (Dt.trim (s.data.toList.take 2)) : Int)) := ⟨_, Lib.hid rfl⟩
    obtain ⟨v1, Hv1⟩ : ∃ v : Int, Hid (v = (Oct.numTo ((s.data.toList.drop 7).take 4) : Int)) := ⟨_, Lib.hid rfl⟩
    obtain ⟨v2, Hv2⟩ : ∃ v : Int, Hid (v = (Oct.numTo ((s.data.toList.drop 12).take 2) : Int)) := ⟨_, Lib.hid rfl⟩
    obtain ⟨v3, Hv3⟩ : ∃ v : Int, Hid (v = (Oct.numTo ((s.data.toList.drop 15).take 2) : Int)) := ⟨_, Lib.hid rfl⟩
    obtain ⟨v4, Hv4⟩ : ∃ v : Int, Hid (v = (Oct.numTo ((s.data.toList.drop 18).take 2) : Int)) := ⟨_, Lib.hid rfl⟩
    obtain ⟨v5, Hv5⟩ : ∃ v : Int, Hid (v = (Oct.numTo ((s.data.toList.drop 22).take 2) : Int)) := ⟨_, Lib.hid rfl⟩
    obtain ⟨v6, Hv6⟩ : ∃ v : Int, Hid (v = (Oct.numTo (s.data.toList.drop 24) : Int)) := ⟨_, Lib.hid rfl⟩
    rw [← Hv0.out, ← Hv1.out, ← Hv2.out, ← Hv3.out, ← Hv4.out, ← Hv5.out, ← Hv6.out] at hLL
    have hall : ∀ q ∈ Dt.pieces s.data.toList, Oct.numOk q = true := by
      have := HOK.out
      rw [hL7, HL.out] at this
      exact this
    have small : ∀ (q : List UInt8), q ∈ Dt.pieces s.data.toList → q.length ≤ 4 → (Oct.numTo q : Int) ≤ 9999 := fun q hq h4 => by
      have hd := (Dt.numOk_parts (hall q hq)).2.2
      have h1 := Oct.numTo_lt q.length q rfl hd
      have h2 : 10 ^ q.length ≤ 10 ^ 4 := Nat.pow_le_pow_right (by decide) h4
      have h3 : (10 : Nat) ^ 4 = 10000 := by decide
      omega
    have u5 : 0 ≤ v5 ∧ v5 ≤ 9999 := ⟨by rw [Hv5.out]; exact Int.natCast_nonneg _, by rw [Hv5.out]; exact small _ (by simp [Dt.pieces]) (by rw [List.length_take]; omega)⟩
    have u6 : 0 ≤ v6 ∧ v6 ≤ 9999 := ⟨by rw [Hv6.out]; exact Int.natCast_nonneg _, by rw [Hv6.out]; exact small _ (by simp [Dt.pieces]) (by rw [List.length_drop, HL26.out]; omega)⟩
    obtain ⟨u51, u52⟩ := u5
    obtain ⟨u61, u62⟩ := u6
    have i1 : IntKind.i64.wrap (v5 * 60) = v5 * 60 := IntWalk.i64_in _ (by omega)
    have i2 : IntKind.i64.wrap (v5 * 60 + v6) = v5 * 60 + v6 := IntWalk.i64_in _ (by omega)
    have I1 := Lib.hid i1
    have I2 := Lib.hid i2
    obtain ⟨zz, Hzz⟩ : ∃ x, Hid (x = v5 * 60 + v6) := ⟨_, Lib.hid rfl⟩
    have hzz : 0 ≤ zz ∧ zz ≤ 700000 := by rw [Hzz.out]; omega
    obtain ⟨hz1, hz2⟩ := hzz
    have i3 : IntKind.i64.wrap (-zz) = -zz := IntWalk.i64_in _ (by omega)
    have hrow := HROW.out
    rw [hLL] at hrow
    obtain ⟨gv, cap, ev, hgb, hgs, _, _⟩ := own_form hrow (by decide)
    obtain rfl : Av = some ⟨gv, 0, none⟩ := by injection ev
    have hcell := World.ownsRow.cells hrow (g := gv) rfl
    have HLC : Hid (∀ W, Below wo.heap.size wo W → W.cell? ⟨gv, 0, none⟩ = some (.int .i64 v0) ∧ W.cell? ⟨gv, 1, none⟩ = some (.int .i64 v1) ∧ W.cell? ⟨gv, 2, none⟩ = some (.int .i64 v2) ∧ W.cell? ⟨gv, 3, none⟩ = some (.int .i64 v3) ∧ W.cell? ⟨gv, 4, none⟩ = some (.int .i64 v4) ∧ W.cell? ⟨gv, 5, none⟩ = some (.int .i64 v5) ∧ W.cell? ⟨gv, 6, none⟩ = some (.int .i64 v6)) := Lib.hid (fun W hb => by
      have g0 := hcell 0 _ (il_at _ 0 v0 rfl)
      have g1 := hcell 1 _ (il_at _ 1 v1 rfl)
      have g2 := hcell 2 _ (il_at _ 2 v2 rfl)
      have g3 := hcell 3 _ (il_at _ 3 v3 rfl)
      have g4 := hcell 4 _ (il_at _ 4 v4 rfl)
      have g5 := hcell 5 _ (il_at _ 5 v5 rfl)
      have g6 := hcell 6 _ (il_at _ 6 v6 rfl)
      rw [add_to, Nat.zero_add] at g0 g1 g2 g3 g4 g5 g6
      exact ⟨(hb.cell (p := ⟨gv, 0, none⟩) hgs).trans g0, (hb.cell (p := ⟨gv, 1, none⟩) hgs).trans g1, (hb.cell (p := ⟨gv, 2, none⟩) hgs).trans g2, (hb.cell (p := ⟨gv, 3, none⟩) hgs).trans g3, (hb.cell (p := ⟨gv, 4, none⟩) hgs).trans g4, (hb.cell (p := ⟨gv, 5, none⟩) hgs).trans g5, (hb.cell (p := ⟨gv, 6, none⟩) hgs).trans g6⟩)
    have hi21 : 21 < s.size := by rw [H26.out]; decide
    obtain ⟨ch, hch⟩ : ∃ ch : UInt8, s[21] = ch := ⟨_, rfl⟩
    have HCH : Hid (s.data.toList[21]? = some ch) := Lib.hid (by rw [List.getElem?_eq_getElem (by rw [HL26.out]; decide)]; exact congrArg some hch)
    obtain ⟨p2, hp2⟩ : ∃ p2, s.extract 3 6 = p2 := ⟨_, rfl⟩
    have DP2 : Hid (p2.data.toList = (s.data.toList.drop 3).take 3) := Lib.hid (by rw [← hp2, Lib.extract_data])
    have HP2 := Lib.hid hp2
    obtain ⟨mo, Hmo⟩ : ∃ mo : Nat, Hid (mo = Dt.rmon p2.data.toList) := ⟨_, Lib.hid rfl⟩
    have HCAND : Hid (∀ neg, neg = (s.data.toList[21]? == some 45) → Dt.rcand s.data.toList = ⟨v1, (mo : Int), v0, v2, v3, v4, Dt.signed neg zz⟩) := Lib.hid (fun neg hn => by
      unfold Dt.rcand
      rw [← hn, ← DP2.out, ← Hmo.out, ← Hv0.out, ← Hv1.out, ← Hv2.out, ← Hv3.out, ← Hv4.out, ← Hv5.out, ← Hv6.out, ← Hzz.out])
    obtain ⟨sh, Hsh⟩ : ∃ sh : Int → ByteArray, Hid (∀ z, sh z = ⟨(Dt.shown ⟨v1, (mo : Int), v0, v2, v3, v4, z⟩).toArray⟩) := ⟨fun z => ⟨(Dt.shown ⟨v1, (mo : Int), v0, v2, v3, v4, z⟩).toArray⟩, Lib.hid (fun _ => rfl)⟩
    have HSHOW : Hid (∀ z W, Calls Tryd.prog 21 #[.agg #[.int .i64 v1, .int .i64 (mo : Int), .int .i64 v0, .int .i64 v2, .int .i64 v3, .int .i64 v4, .int .i64 z]] W fun e w' => e = .returned (.string (sh z)) ∧ Below W.heap.size W w') := Lib.hid (fun z W => by
      rw [Hsh.out]
      exact rshow_any v1 (mo : Int) v0 v2 v3 v4 z W)
    have HBW : Hid (Below w.heap.size w wo) := Lib.hid (HB3.out.trans (HBr.out.mono HB3.out.size))
    have HFIN : Hid (∀ (z : Int) (W : World), (∃ neg, neg = (s.data.toList[21]? == some 45) ∧ z = Dt.signed neg zz) → Below wo.heap.size wo W → (sh z = s → ParseEnd s w (.returned (.tuple #[.agg #[.int .i64 v1, .int .i64 (mo : Int), .int .i64 v0, .int .i64 v2, .int .i64 v3, .int .i64 v4, .int .i64 z], .int .i64 0])) (((((((W.setCell ⟨w.heap.size, 0, none⟩ (.int .i64 v1)).setCell ⟨w.heap.size, 1, none⟩ (.int .i64 (mo : Int))).setCell ⟨w.heap.size, 2, none⟩ (.int .i64 v0)).setCell ⟨w.heap.size, 3, none⟩ (.int .i64 v2)).setCell ⟨w.heap.size, 4, none⟩ (.int .i64 v3)).setCell ⟨w.heap.size, 5, none⟩ (.int .i64 v4)).setCell ⟨w.heap.size, 6, none⟩ (.int .i64 z))) ∧
        (sh z ≠ s → ParseEnd s w (.returned (.tuple #[.agg #[.int .i64 0, .int .i64 0, .int .i64 0, .int .i64 0, .int .i64 0, .int .i64 0, .int .i64 0], .int .i64 3])) (((((((W.setCell ⟨w.heap.size, 0, none⟩ (.int .i64 0)).setCell ⟨w.heap.size, 1, none⟩ (.int .i64 0)).setCell ⟨w.heap.size, 2, none⟩ (.int .i64 0)).setCell ⟨w.heap.size, 3, none⟩ (.int .i64 0)).setCell ⟨w.heap.size, 4, none⟩ (.int .i64 0)).setCell ⟨w.heap.size, 5, none⟩ (.int .i64 0)).setCell ⟨w.heap.size, 6, none⟩ (.int .i64 0)))) := Lib.hid (fun z W hz hb => by
      obtain ⟨neg, hn, rfl⟩ := hz
      have hc := HCAND.out neg hn
      have hb2 := HBW.out.trans (hb.mono HBW.out.size)
      refine ⟨fun he => ⟨some ⟨v1, (mo : Int), v0, v2, v3, v4, Dt.signed neg zz⟩, Dt.ParseR.yes HL26.out ?_, rfl, below_set7 hb2 (Nat.le_refl _) _ _ _ _ _ _ _⟩, fun he => ⟨none, Dt.ParseR.rcand_no (fun e => he ?_), rfl, below_set7 hb2 (Nat.le_refl _) _ _ _ _ _ _ _⟩⟩
      · have := congrArg (fun b : ByteArray => b.data.toList) he
        rw [Hsh.out] at this
        exact this
      · rw [Hsh.out, ← hc]
        apply ByteArray.ext
        show (Dt.shown (Dt.rcand s.data.toList)).toArray = s.data
        rw [e])
    clear hLL hL7 hall small u51 u52 u61 u62 i1 i2 hrow ev hcell hgb hgs hp2
    go_wp2
    refine rp16 gv cv v0 v1 v2 v3 v4 v5 v6 (RP wo #[.int .i64 v1, .int .i64 0, .int .i64 v0, .int .i64 v2, .int .i64 v3, .int .i64 v4, .int .i64 zz]) (by show 84 < 112; omega) rfl ?_ ?_ ?_ I1.out I2.out ?_ ?_
    · intro f R W h _
      exact HLC.out W h.below
    · intro f R W h h0
      have e1 : setF f 0 1 = f 1 := setF_ne f (by omega)
      have h1 : f 1 = false := by
        cases e : f 1 with
        | false => rfl
        | true => rw [h.ord e] at h0; cases h0
      refine ⟨h.below.alloc h.below.size _, fun _ => ?_, fun hf => ?_⟩
      · rw [e1, h1, setR_self]
        exact ⟨_, rfl, h.below.size, Blk.new W _ _⟩
      · rw [e1, h1] at hf; cases hf
    · intro f R W h h0 h1
      obtain ⟨g, k1, k2, k3⟩ := h.new h0
      rw [h1] at k3
      refine ⟨g, k1, fun i hi => ⟨?_, k3.frozen i⟩, ?_⟩
      · match i, hi with
        | 0, _ => exact k3.cell 0 _ rfl
        | 1, _ => exact k3.cell 1 _ rfl
        | 2, _ => exact k3.cell 2 _ rfl
        | 3, _ => exact k3.cell 3 _ rfl
        | 4, _ => exact k3.cell 4 _ rfl
        | 5, _ => exact k3.cell 5 _ rfl
        | 6, _ => exact k3.cell 6 _ rfl
      · rw [← Hzz.out]
        refine ⟨below_set7 h.below k2 _ _ _ _ _ _ _, fun _ => ?_, fun _ => by rw [setF_ne f (by omega)]; exact h0⟩
        rw [setF_self]
        exact ⟨g, k1, k2, Blk.set7 k3 _ _ _ _ _ _ _⟩
    · exact ⟨(Below.refl _ _).drew, fun h => (by cases h), fun h => (by cases h)⟩
    · intro af w5 f hfr hfl hS
      obtain ⟨g, h11, hg1, hg2⟩ := hS.new (hfl 0 (by decide))
      rw [hfl 1 (by decide)] at hg2
      change af.eval (.tmp 11) = _ at h11
      have HB5 := Lib.hid hS.below
      have HG5 := Lib.hid hg2
      have HGE := Lib.hid hg1
      clear hS hfl hg1 hg2
      have ha := hfr.eq (by intro t ht; simp at ht; show t < 112; omega)
      simp only [List.foldl_cons, List.foldl_nil] at ha
      clear hfr
      rw [h11] at ha
      clear h11
      generalize af.eval (.tmp 61) = u61 at ha
      generalize af.eval (.tmp 62) = u62 at ha
      generalize af.eval (.tmp 63) = u63 at ha
      generalize af.eval (.tmp 64) = u64 at ha
      generalize af.eval (.tmp 65) = u65 at ha
      generalize af.eval (.tmp 66) = u66 at ha
      generalize af.eval (.tmp 67) = u67 at ha
      generalize af.eval (.tmp 68) = u68 at ha
      generalize af.eval (.tmp 69) = u69 at ha
      generalize af.eval (.tmp 70) = u70 at ha
      generalize af.eval (.tmp 71) = u71 at ha
      generalize af.eval (.tmp 72) = u72 at ha
      generalize af.eval (.tmp 73) = u73 at ha
      generalize af.eval (.tmp 74) = u74 at ha
      generalize af.eval (.tmp 75) = u75 at ha
      generalize af.eval (.tmp 76) = u76 at ha
      generalize af.eval (.tmp 77) = u77 at ha
      generalize af.eval (.tmp 78) = u78 at ha
      generalize af.eval (.tmp 79) = u79 at ha
      generalize af.eval (.tmp 80) = u80 at ha
      generalize af.eval (.tmp 81) = u81 at ha
      generalize af.eval (.tmp 82) = u82 at ha
      generalize af.eval (.tmp 83) = u83 at ha
      generalize af.eval (.tmp 84) = u84 at ha
      subst ha
      simp only [Act.put, List.setIfInBounds_toArray, List.set_cons_zero, List.set_cons_succ]
      have x0 := HG5.out.cell 0 _ rfl
      have x6 := HG5.out.cell 6 _ rfl
      have y6 := HG5.out.frozen 6
      have HNE : Hid (w.heap.size ≠ g) := Lib.hid (by
        have h1 := HGr.out.lt
        have h2 := HGE.out
        omega)
      by_cases h45 : ch.toNat = 45
      · have c1 : ((ch.toNat : Int) == 45) = true := by rw [beq_iff_eq]; omega
        have HZ : Hid (∃ neg, neg = (s.data.toList[21]? == some 45) ∧ -zz = Dt.signed neg zz) := Lib.hid ⟨true, by
          rw [HCH.out]
          have : ch = 45 := UInt8.toNat_inj.1 h45
          rw [this]; rfl, rfl⟩
        clear h45
        obtain ⟨w6, Hw6⟩ : ∃ w6, Hid (w6 = w5.setCell ⟨g, 6, none⟩ (.int .i64 (-zz))) := ⟨_, Lib.hid rfl⟩
        have HB6 : Hid (Below wo.heap.size wo w6) := Lib.hid (by rw [Hw6.out]; exact below_set HB5.out HGE.out 6 _)
        have HG6 : Hid (Blk w6 g 33 #[.int .i64 v1, .int .i64 0, .int .i64 v0, .int .i64 v2, .int .i64 v3, .int .i64 v4, .int .i64 (-zz)]) := Lib.hid (by rw [Hw6.out]; exact HG5.out.set 6 _)
        obtain ⟨zf, Hzf⟩ : ∃ zf, Hid (zf = -zz) := ⟨_, Lib.hid rfl⟩
        rw [← Hzf.out] at HZ HG6
        go_wp2
        rw [← Hw6.out]
        clear x0 x6 y6
        go_loopw [12] (fun s12 wx => ∃ k : Nat, k ≤ 12 ∧ s12 = .int .i64 k ∧ Hid (Blk wx g 33 #[.int .i64 v1, .int .i64 (rmk p2.data.toList k : Int), .int .i64 v0, .int .i64 v2, .int .i64 v3, .int .i64 v4, .int .i64 zf]) ∧ Hid (Below wo.heap.size wo wx)) (fun s12 _ => 12 - (intOf s12).toNat)
        case atStart => exact ⟨0, Nat.zero_le _, rfl, Lib.hid (by rw [rmk_zero]; exact HG6.out), HB6⟩
        case round =>
          rename_i wx
          obtain ⟨k, hk, rfl, HGx, HBx⟩ := hrel
          by_cases hlt : k < 12
          · obtain ⟨mn, Hmn⟩ : ∃ mn : ByteArray, Hid (mn = ⟨(Dt.mname (k + 1)).toArray⟩) := ⟨_, Lib.hid rfl⟩
            obtain ⟨r, Hr⟩ : ∃ r, Hid ((mn.toList == p2.toList) = r) := ⟨_, Lib.hid rfl⟩
            have HEQ : Hid (r = true ↔ Dt.mname (k + 1) = p2.data.toList) := Lib.hid (by rw [← Hr.out, beq_iff_eq, Go.ByteArray.toList_eq, Go.ByteArray.toList_eq, Hmn.out])
            have hkz : (k : Int) < 12 := by omega
            go_wp2
            refine rp22 wr.heap.size k s mn p2 r (fun p R W => Below wr.heap.size wr W ∧ (0 < p → Blk W wr.heap.size 9 mcells ∧ R 0 = .slice (some ⟨wr.heap.size, 0, none⟩) 12 12) ∧ (p = 0 → W.heap.size = wr.heap.size)) (by show 102 < 112; omega) rfl rfl ?_ hlt H26.out HP2.out Hr.out (fun p R W h hp => (h.2.1 hp).2) ?_ ⟨(Below.refl _ _).drew, fun h => absurd h (by decide), fun _ => rfl⟩ ?_
            · intro p R W h hp
              rw [Hmn.out]
              exact (h.2.1 hp).1.cell k _ (mcells_at k hlt)
            · intro R W h
              have hz := h.2.2 rfl
              refine (rmonths_any W).mono ?_
              rintro e w' ⟨rfl, hm, hb⟩
              rw [hz] at hm hb ⊢
              exact ⟨_, rfl, h.1.trans hb, fun _ => ⟨hm, setR_self _ _ _⟩, fun h => by cases h⟩
            · intro af wN hfr h102 hS
              have HBN := Lib.hid (HBx.out.trans (hS.1.mono HBx.out.size))
              have HGN := Lib.hid (HGx.out.below hS.1 HGx.out.lt)
              clear hS
              have ha := hfr.eq (by intro t ht; simp at ht; show t < 112; omega)
              simp only [List.foldl_cons, List.foldl_nil] at ha
              clear hfr
              rw [h102] at ha
              clear h102
              generalize af.eval (.tmp 96) = u96 at ha
              generalize af.eval (.tmp 97) = u97 at ha
              generalize af.eval (.tmp 98) = u98 at ha
              generalize af.eval (.tmp 99) = u99 at ha
              generalize af.eval (.tmp 100) = u100 at ha
              generalize af.eval (.tmp 101) = u101 at ha
              subst ha
              simp only [Act.put, List.setIfInBounds_toArray, List.set_cons_zero, List.set_cons_succ]
              have y1 := HGN.out.frozen 1
              have x1 := HGN.out.cell 1 _ rfl
              cases r with
              | true =>
                have HG2 := Lib.hid (HGN.out.set 1 (.int .i64 ((k : Int) + 1)))
                have HMK : Hid ((rmk p2.data.toList (k + 1) : Int) = (k : Int) + 1) := Lib.hid (by rw [rmk_yes hlt (HEQ.out.1 rfl)]; rfl)
                have HB2 := Lib.hid (below_set HBN.out HGE.out 1 (.int .i64 ((k : Int) + 1)))
                go_wp2
                go_roundw
                case rel => exact ⟨k + 1, by omega, by go_num, Lib.hid (by rw [HMK.out]; exact HG2.out), HB2⟩
                case measure => simp [intOf]; omega
              | false =>
                have HMK : Hid (rmk p2.data.toList (k + 1) = rmk p2.data.toList k) := Lib.hid (rmk_no (fun e => by have := HEQ.out.2 e; cases this))
                go_wp2
                go_roundw
                case rel => exact ⟨k + 1, by omega, by go_num, Lib.hid (by rw [HMK.out]; exact HGN.out), HBN⟩
                case measure => simp [intOf]; omega
          · obtain rfl : k = 12 := by omega
            have hg := HGx.out
            rw [rmk_12, ← Hmo.out] at hg
            have HG := Lib.hid hg
            have x0 := hg.cell 0 _ rfl
            have x1 := hg.cell 1 _ rfl
            have x2 := hg.cell 2 _ rfl
            have x3 := hg.cell 3 _ rfl
            have x4 := hg.cell 4 _ rfl
            have x5 := hg.cell 5 _ rfl
            have x6 := hg.cell 6 _ rfl
            clear hg
            go_wp2_with fail
            clear x0 x1 x2 x3 x4 x5 x6
            refine (HSHOW.out zf _).mono ?_
            rintro e w4 ⟨rfl, hb4⟩
            have HB4 : Hid (Below wo.heap.size wo w4) := Lib.hid (HBx.out.trans (hb4.mono HBx.out.size))
            have HX4 : Hid (Blk w4 w.heap.size 33 #[.int .i64 0, .int .i64 0, .int .i64 0, .int .i64 0, .int .i64 0, .int .i64 0, .int .i64 0]) := Lib.hid (HGr.out.below HB4.out HGr.out.lt)
            have hg4 := HG.out.below hb4 HG.out.lt
            have HE := Lib.hid (HFIN.out zf w4 HZ.out HB4.out)
            obtain ⟨q, Hq⟩ : ∃ q, Hid (q = sh zf) := ⟨_, Lib.hid rfl⟩
            rw [← Hq.out]
            rw [← Hq.out] at HE
            have HG4 := Lib.hid hg4
            clear hb4 hg4
            have n0x := HG4.out.cell 0 _ rfl
            have n1x := HG4.out.cell 1 _ rfl
            have n2x := HG4.out.cell 2 _ rfl
            have n3x := HG4.out.cell 3 _ rfl
            have n4x := HG4.out.cell 4 _ rfl
            have n5x := HG4.out.cell 5 _ rfl
            have n6x := HG4.out.cell 6 _ rfl
            have x0 := HX4.out.cell 0 _ rfl
            have x1 := HX4.out.cell 1 _ rfl
            have x2 := HX4.out.cell 2 _ rfl
            have x3 := HX4.out.cell 3 _ rfl
            have x4 := HX4.out.cell 4 _ rfl
            have x5 := HX4.out.cell 5 _ rfl
            have x6 := HX4.out.cell 6 _ rfl
            have y0 := HX4.out.frozen 0
            have y1 := HX4.out.frozen 1
            have y2 := HX4.out.frozen 2
            have y3 := HX4.out.frozen 3
            have y4 := HX4.out.frozen 4
            have y5 := HX4.out.frozen 5
            have y6 := HX4.out.frozen 6
            by_cases heq : q = s
            · have c2 : (q.toList == s.toList) = true := by rw [heq]; simp
              have HQ := Lib.hid heq
              clear heq
              go_wp2
              refine bodyPost_ret (rparse_ret _ _ w.heap.size rfl v1 (mo : Int) v0 v2 v3 v4 zf _ rfl (HX4.out.set7 _ _ _ _ _ _ _)) rfl ?_
              exact HE.out.1 HQ.out
            · have c2 : (q.toList == s.toList) = false := by
                rw [beq_eq_false_iff_ne, ne_eq, Go.ByteArray.toList_eq, Go.ByteArray.toList_eq]
                intro e
                apply heq
                apply ByteArray.ext
                exact Array.toList_inj.1 e
              have HQ := Lib.hid heq
              clear heq
              go_wp2
              refine bodyPost_ret (rparse_ret _ _ w.heap.size rfl 0 0 0 0 0 0 0 _ rfl (HX4.out.set7 _ _ _ _ _ _ _)) rfl ?_
              exact HE.out.2 HQ.out
      · have c1 : ((ch.toNat : Int) == 45) = false := by rw [beq_eq_false_iff_ne]; omega
        have HZ : Hid (∃ neg, neg = (s.data.toList[21]? == some 45) ∧ zz = Dt.signed neg zz) := Lib.hid ⟨false, by
          rw [HCH.out, eq_comm, beq_eq_false_iff_ne]
          intro e
          injection e with e
          exact h45 (by rw [e]; rfl), rfl⟩
        clear h45
        obtain ⟨w6, Hw6⟩ : ∃ w6, w6 = w5 := ⟨_, rfl⟩
        subst Hw6
        have HB6 := HB5
        have HG6 := HG5
        obtain ⟨zf, Hzf⟩ : ∃ zf, Hid (zf = zz) := ⟨_, Lib.hid rfl⟩
        have HZ' : Hid (∃ neg, neg = (s.data.toList[21]? == some 45) ∧ zf = Dt.signed neg zz) := Lib.hid (by rw [Hzf.out]; exact HZ.out)
        have hg6 := HG6.out
        rw [← Hzf.out] at hg6
        clear HZ
        have HZ := HZ'
        clear HG6
        have HG6 := Lib.hid hg6
        clear hg6
        go_wp2
        clear x0 x6 y6
        go_loopw [12] (fun s12 wx => ∃ k : Nat, k ≤ 12 ∧ s12 = .int .i64 k ∧ Hid (Blk wx g 33 #[.int .i64 v1, .int .i64 (rmk p2.data.toList k : Int), .int .i64 v0, .int .i64 v2, .int .i64 v3, .int .i64 v4, .int .i64 zf]) ∧ Hid (Below wo.heap.size wo wx)) (fun s12 _ => 12 - (intOf s12).toNat)
        case atStart => exact ⟨0, Nat.zero_le _, rfl, Lib.hid (by rw [rmk_zero]; exact HG6.out), HB6⟩
        case round =>
          rename_i wx
          obtain ⟨k, hk, rfl, HGx, HBx⟩ := hrel
          by_cases hlt : k < 12
          · obtain ⟨mn, Hmn⟩ : ∃ mn : ByteArray, Hid (mn = ⟨(Dt.mname (k + 1)).toArray⟩) := ⟨_, Lib.hid rfl⟩
            obtain ⟨r, Hr⟩ : ∃ r, Hid ((mn.toList == p2.toList) = r) := ⟨_, Lib.hid rfl⟩
            have HEQ : Hid (r = true ↔ Dt.mname (k + 1) = p2.data.toList) := Lib.hid (by rw [← Hr.out, beq_iff_eq, Go.ByteArray.toList_eq, Go.ByteArray.toList_eq, Hmn.out])
            have hkz : (k : Int) < 12 := by omega
            go_wp2
            refine rp22 wr.heap.size k s mn p2 r (fun p R W => Below wr.heap.size wr W ∧ (0 < p → Blk W wr.heap.size 9 mcells ∧ R 0 = .slice (some ⟨wr.heap.size, 0, none⟩) 12 12) ∧ (p = 0 → W.heap.size = wr.heap.size)) (by show 102 < 112; omega) rfl rfl ?_ hlt H26.out HP2.out Hr.out (fun p R W h hp => (h.2.1 hp).2) ?_ ⟨(Below.refl _ _).drew, fun h => absurd h (by decide), fun _ => rfl⟩ ?_
            · intro p R W h hp
              rw [Hmn.out]
              exact (h.2.1 hp).1.cell k _ (mcells_at k hlt)
            · intro R W h
              have hz := h.2.2 rfl
              refine (rmonths_any W).mono ?_
              rintro e w' ⟨rfl, hm, hb⟩
              rw [hz] at hm hb ⊢
              exact ⟨_, rfl, h.1.trans hb, fun _ => ⟨hm, setR_self _ _ _⟩, fun h => by cases h⟩
            · intro af wN hfr h102 hS
              have HBN := Lib.hid (HBx.out.trans (hS.1.mono HBx.out.size))
              have HGN := Lib.hid (HGx.out.below hS.1 HGx.out.lt)
              clear hS
              have ha := hfr.eq (by intro t ht; simp at ht; show t < 112; omega)
              simp only [List.foldl_cons, List.foldl_nil] at ha
              clear hfr
              rw [h102] at ha
              clear h102
              generalize af.eval (.tmp 96) = u96 at ha
              generalize af.eval (.tmp 97) = u97 at ha
              generalize af.eval (.tmp 98) = u98 at ha
              generalize af.eval (.tmp 99) = u99 at ha
              generalize af.eval (.tmp 100) = u100 at ha
              generalize af.eval (.tmp 101) = u101 at ha
              subst ha
              simp only [Act.put, List.setIfInBounds_toArray, List.set_cons_zero, List.set_cons_succ]
              have y1 := HGN.out.frozen 1
              have x1 := HGN.out.cell 1 _ rfl
              cases r with
              | true =>
                have HG2 := Lib.hid (HGN.out.set 1 (.int .i64 ((k : Int) + 1)))
                have HMK : Hid ((rmk p2.data.toList (k + 1) : Int) = (k : Int) + 1) := Lib.hid (by rw [rmk_yes hlt (HEQ.out.1 rfl)]; rfl)
                have HB2 := Lib.hid (below_set HBN.out HGE.out 1 (.int .i64 ((k : Int) + 1)))
                go_wp2
                go_roundw
                case rel => exact ⟨k + 1, by omega, by go_num, Lib.hid (by rw [HMK.out]; exact HG2.out), HB2⟩
                case measure => simp [intOf]; omega
              | false =>
                have HMK : Hid (rmk p2.data.toList (k + 1) = rmk p2.data.toList k) := Lib.hid (rmk_no (fun e => by have := HEQ.out.2 e; cases this))
                go_wp2
                go_roundw
                case rel => exact ⟨k + 1, by omega, by go_num, Lib.hid (by rw [HMK.out]; exact HGN.out), HBN⟩
                case measure => simp [intOf]; omega
          · obtain rfl : k = 12 := by omega
            have hg := HGx.out
            rw [rmk_12, ← Hmo.out] at hg
            have HG := Lib.hid hg
            have x0 := hg.cell 0 _ rfl
            have x1 := hg.cell 1 _ rfl
            have x2 := hg.cell 2 _ rfl
            have x3 := hg.cell 3 _ rfl
            have x4 := hg.cell 4 _ rfl
            have x5 := hg.cell 5 _ rfl
            have x6 := hg.cell 6 _ rfl
            clear hg
            go_wp2_with fail
            clear x0 x1 x2 x3 x4 x5 x6
            refine (HSHOW.out zf _).mono ?_
            rintro e w4 ⟨rfl, hb4⟩
            have HB4 : Hid (Below wo.heap.size wo w4) := Lib.hid (HBx.out.trans (hb4.mono HBx.out.size))
            have HX4 : Hid (Blk w4 w.heap.size 33 #[.int .i64 0, .int .i64 0, .int .i64 0, .int .i64 0, .int .i64 0, .int .i64 0, .int .i64 0]) := Lib.hid (HGr.out.below HB4.out HGr.out.lt)
            have hg4 := HG.out.below hb4 HG.out.lt
            have HE := Lib.hid (HFIN.out zf w4 HZ.out HB4.out)
            obtain ⟨q, Hq⟩ : ∃ q, Hid (q = sh zf) := ⟨_, Lib.hid rfl⟩
            rw [← Hq.out]
            rw [← Hq.out] at HE
            have HG4 := Lib.hid hg4
            clear hb4 hg4
            have n0x := HG4.out.cell 0 _ rfl
            have n1x := HG4.out.cell 1 _ rfl
            have n2x := HG4.out.cell 2 _ rfl
            have n3x := HG4.out.cell 3 _ rfl
            have n4x := HG4.out.cell 4 _ rfl
            have n5x := HG4.out.cell 5 _ rfl
            have n6x := HG4.out.cell 6 _ rfl
            have x0 := HX4.out.cell 0 _ rfl
            have x1 := HX4.out.cell 1 _ rfl
            have x2 := HX4.out.cell 2 _ rfl
            have x3 := HX4.out.cell 3 _ rfl
            have x4 := HX4.out.cell 4 _ rfl
            have x5 := HX4.out.cell 5 _ rfl
            have x6 := HX4.out.cell 6 _ rfl
            have y0 := HX4.out.frozen 0
            have y1 := HX4.out.frozen 1
            have y2 := HX4.out.frozen 2
            have y3 := HX4.out.frozen 3
            have y4 := HX4.out.frozen 4
            have y5 := HX4.out.frozen 5
            have y6 := HX4.out.frozen 6
            by_cases heq : q = s
            · have c2 : (q.toList == s.toList) = true := by rw [heq]; simp
              have HQ := Lib.hid heq
              clear heq
              go_wp2
              refine bodyPost_ret (rparse_ret _ _ w.heap.size rfl v1 (mo : Int) v0 v2 v3 v4 zf _ rfl (HX4.out.set7 _ _ _ _ _ _ _)) rfl ?_
              exact HE.out.1 HQ.out
            · have c2 : (q.toList == s.toList) = false := by
                rw [beq_eq_false_iff_ne, ne_eq, Go.ByteArray.toList_eq, Go.ByteArray.toList_eq]
                intro e
                apply heq
                apply ByteArray.ext
                exact Array.toList_inj.1 e
              have HQ := Lib.hid heq
              clear heq
              go_wp2
              refine bodyPost_ret (rparse_ret _ _ w.heap.size rfl 0 0 0 0 0 0 0 _ rfl (HX4.out.set7 _ _ _ _ _ _ _)) rfl ?_
              exact HE.out.2 HQ.out
end Go.Proofs.YtgkibkophoikoaaDoor
