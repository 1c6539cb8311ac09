/- The table's set: a pair put into its block. -/
import Derived.Test.YtgpkdnnlgafenaaFlags
import Derived.Test.YtgpkdnnlgafenaaKvIns
import Derived.WalkKit
import Derived.WalkSpells
import Derived.WalkLawsBesides
import Derived.Lib.Hide
import Derived.IntWalk
import Derived.Laws.Entries
namespace Go.Proofs.Ytgpkdnnlgafenaa
open Go.RowKit
set_option linter.unusedVariables false
set_option linter.unusedSimpArgs false

def opsSe5 : Array Oper := #[
  { dst := some 38, op := Op.move (Operand.tmp 0), type := 23, pos := "kv.go:244", after := #[], guard := none },
  { dst := some 39, op := Op.nilCheck (Operand.tmp 38), type := 0, pos := "kv.go:244", after := #[{ on := 0, ground := Ground.data }], guard := none },
  { dst := some 40, op := Op.fieldAddr 67 (Operand.tmp 39) 0, type := 0, pos := "kv.go:244", after := #[{ on := 1, ground := Ground.data }], guard := none },
  { dst := some 41, op := Op.load 65 (Operand.tmp 40), type := 65, pos := "kv.go:244", after := #[{ on := 2, ground := Ground.data }], guard := none },
  { dst := some 42, op := Op.move (Operand.tmp 6), type := 3, pos := "kv.go:244", after := #[], guard := none },
  { dst := some 43, op := Op.move (Operand.tmp 0), type := 23, pos := "kv.go:244", after := #[], guard := none },
  { dst := some 44, op := Op.nilCheck (Operand.tmp 43), type := 0, pos := "kv.go:244", after := #[{ on := 5, ground := Ground.data }], guard := none },
  { dst := some 45, op := Op.fieldAddr 67 (Operand.tmp 44) 0, type := 0, pos := "kv.go:244", after := #[{ on := 6, ground := Ground.data }], guard := none },
  { dst := some 46, op := Op.load 65 (Operand.tmp 45), type := 65, pos := "kv.go:244", after := #[{ on := 7, ground := Ground.data }], guard := none },
  { dst := some 47, op := Op.move (Operand.tmp 6), type := 3, pos := "kv.go:244", after := #[], guard := none },
  { dst := some 48, op := Op.indexAddr 65 (Operand.tmp 46) (Operand.tmp 47), type := 0, pos := "kv.go:244", after := #[{ on := 8, ground := Ground.data }, { on := 9, ground := Ground.data }], guard := none },
  { dst := some 49, op := Op.load 37 (Operand.tmp 48), type := 37, pos := "kv.go:244", after := #[{ on := 10, ground := Ground.data }], guard := none },
  { dst := some 50, op := Op.move (Operand.tmp 7), type := 3, pos := "kv.go:244", after := #[], guard := none },
  { dst := some 51, op := Op.move (Operand.tmp 1), type := 9, pos := "kv.go:244", after := #[], guard := none },
  { dst := some 52, op := Op.move (Operand.tmp 2), type := 27, pos := "kv.go:244", after := #[], guard := none },
  { dst := some 53, op := Op.build 63 #[(0, Operand.tmp 51), (1, Operand.tmp 52)], type := 63, pos := "kv.go:244", after := #[{ on := 13, ground := Ground.data }, { on := 14, ground := Ground.data }], guard := none },
  { dst := some 54, op := Op.buildSlice 37 1 #[(0, Operand.tmp 53)], type := 37, pos := "kv.go:244", after := #[{ on := 15, ground := Ground.data }], guard := none },
  { dst := some 55, op := Op.call { callee := Callee.value (Operand.func 43), args := #[Operand.tmp 49, Operand.tmp 50, Operand.tmp 54], argTypes := #[37, 3, 37] }, type := 37, pos := "kv.go:244", after := #[{ on := 11, ground := Ground.data }, { on := 12, ground := Ground.data }, { on := 16, ground := Ground.data }], guard := none },
  { dst := some 56, op := Op.indexAddr 65 (Operand.tmp 41) (Operand.tmp 42), type := 0, pos := "kv.go:244", after := #[{ on := 3, ground := Ground.data }, { on := 4, ground := Ground.data }, { on := 0, ground := Ground.phase }, { on := 1, ground := Ground.phase }, { on := 2, ground := Ground.phase }, { on := 3, ground := Ground.phase }, { on := 4, ground := Ground.phase }, { on := 5, ground := Ground.phase }, { on := 6, ground := Ground.phase }, { on := 7, ground := Ground.phase }, { on := 8, ground := Ground.phase }, { on := 9, ground := Ground.phase }, { on := 10, ground := Ground.phase }, { on := 11, ground := Ground.phase }, { on := 12, ground := Ground.phase }, { on := 13, ground := Ground.phase }, { on := 14, ground := Ground.phase }, { on := 15, ground := Ground.phase }, { on := 16, ground := Ground.phase }, { on := 17, ground := Ground.phase }], guard := none },
  { dst := none, op := Op.store 37 (Operand.tmp 56) (Operand.tmp 55), type := 0, pos := "kv.go:244", after := #[{ on := 18, ground := Ground.data }, { on := 17, ground := Ground.data }, { on := 17, ground := Ground.chain }, { on := 0, ground := Ground.phase }, { on := 1, ground := Ground.phase }, { on := 2, ground := Ground.phase }, { on := 3, ground := Ground.phase }, { on := 4, ground := Ground.phase }, { on := 5, ground := Ground.phase }, { on := 6, ground := Ground.phase }, { on := 7, ground := Ground.phase }, { on := 8, ground := Ground.phase }, { on := 9, ground := Ground.phase }, { on := 10, ground := Ground.phase }, { on := 11, ground := Ground.phase }, { on := 12, ground := Ground.phase }, { on := 13, ground := Ground.phase }, { on := 14, ground := Ground.phase }, { on := 15, ground := Ground.phase }, { on := 16, ground := Ground.phase }, { on := 17, ground := Ground.phase }], guard := none }]

def se5Vals (t r c1 p n0 c0 nv cv : Nat) (A0 Av : Option Addr) (key : ByteArray) : List (Nat × Nat × Value) := [(0, 38, .pointer (some ⟨t, 0, none⟩)), (1, 39, .pointer (some ⟨t, 0, none⟩)), (2, 40, .pointer (some ⟨t, 0, none⟩)), (3, 41, .slice (some ⟨r, 0, none⟩) 1 c1), (4, 42, .int .i64 0), (5, 43, .pointer (some ⟨t, 0, none⟩)), (6, 44, .pointer (some ⟨t, 0, none⟩)), (7, 45, .pointer (some ⟨t, 0, none⟩)), (8, 46, .slice (some ⟨r, 0, none⟩) 1 c1), (9, 47, .int .i64 0), (10, 48, .pointer (some ⟨r, 0, none⟩)), (11, 49, .slice A0 n0 c0), (12, 50, .int .i64 (p : Int)), (13, 51, .string key), (14, 52, .slice Av nv cv), (15, 53, .agg #[.string key, .slice Av nv cv]), (18, 56, .pointer (some ⟨r, 0, none⟩))]
def se5C : List (Nat × Nat) := [(16, 54), (17, 55), (19, 1000019)]

set_option maxHeartbeats 4000000 in
set_option maxRecDepth 100000 in
theorem se5 {Q : Exit → Act → World → Prop} {a0 : Act} {wp : World} (t r c1 p n0 c0 nv cv : Nat) (A0 Av : Option Addr) (key : ByteArray) (S : (Nat → Bool) → (Nat → Value) → World → Prop)
    (hsz : 56 < a0.tmps.size) (in0 : a0.eval (.tmp 0) = .pointer (some ⟨t, 0, none⟩)) (in1 : a0.eval (.tmp 1) = .string key) (in2 : a0.eval (.tmp 2) = .slice Av nv cv) (in6 : a0.eval (.tmp 6) = .int .i64 0) (in7 : a0.eval (.tmp 7) = .int .i64 (p : Int))
    (ht0 : ∀ f R w, S f R w → w.cell? ⟨t, 0, none⟩ = some (.slice (some ⟨r, 0, none⟩) 1 c1)) (hr0 : ∀ f R w, S f R w → f 2 = false → w.cell? ⟨r, 0, none⟩ = some (.slice A0 n0 c0))
    (hm0 : ∀ f R w, S f R w → f 0 = false → f 1 = false → f 2 = false → S (setF f 0) (setR R 0 (.slice (some ⟨w.heap.size, 0, none⟩) 1 1)) (w.alloc (.cells #[.string key, .slice Av nv cv] 63)))
    (hi0 : ∀ f R w, S f R w → f 0 = true → f 1 = false → f 2 = false → ∃ A2, R 0 = .slice (some ⟨A2, 0, none⟩) 1 1 ∧ Calls Try.prog 43 #[.slice A0 n0 c0, .int .i64 (p : Int), .slice (some ⟨A2, 0, none⟩) 1 1] w fun e w' => ∃ v, e = .returned v ∧ S (setF f 1) (setR R 1 v) w')
    (hs0 : ∀ f R w, S f R w → f 1 = true → f 2 = false → ∃ A n c, R 1 = .slice A n c ∧ w.frozen? ⟨r, 0, none⟩ = false ∧ S (setF f 2) R (w.setCell ⟨r, 0, none⟩ (.slice A n c)))
    (hS : S (fun _ => false) (resOf se5C fun t => a0.eval (.tmp t)) wp.drew)
    (fin : ∀ a w f, Fr [38, 39, 40, 41, 42, 43, 44, 45, 46, 47, 48, 49, 50, 51, 52, 53, 54, 55, 56] a0 a → (∀ j, j < 3 → f j = true) → S f (resOf se5C fun t => a.eval (.tmp t)) w → Q .normal a w) :
    (Code.region 5 opsSe5 true).wp Try.prog Q a0 wp := by
  refine region_inv (by kernel_rfl) [38, 39, 40, 41, 42, 43, 44, 45, 46, 47, 48, 49, 50, 51, 52, 53, 54, 55, 56] (by kernel_rfl) (by kernel_rfl) (fun t ht => by simp at ht; omega) (GF (se5Vals t r c1 p n0 c0 nv cv A0 Av key) se5C S) (.start hS) ?_
    (fun L a w hf hall hG => fin a w (flagsOf se5C L) hf  (fun j hj => by
      match j, hj with
      | 0, _ => exact (flagsOf_at (C := se5C) (j := 0) rfl L).trans (hall 16 (by decide))
      | 1, _ => exact (flagsOf_at (C := se5C) (j := 1) rfl L).trans (hall 17 (by decide))
      | 2, _ => exact (flagsOf_at (C := se5C) (j := 2) rfl L).trans (hall 19 (by decide))
      | n + 3, h => exact absurd h (by omega)) hG.1)
  clear hS fin
  intro ix oo ho L a w hfr hG hLi hdep hcl K hK
  have e0 : a.tmps[0]?.getD undef = .pointer (some ⟨t, 0, none⟩) := by rw [← ev]; exact (hfr.same 0 (by decide)).trans in0
  have e1 : a.tmps[1]?.getD undef = .string key := by rw [← ev]; exact (hfr.same 1 (by decide)).trans in1
  have e2 : a.tmps[2]?.getD undef = .slice Av nv cv := by rw [← ev]; exact (hfr.same 2 (by decide)).trans in2
  have e6 : a.tmps[6]?.getD undef = .int .i64 0 := by rw [← ev]; exact (hfr.same 6 (by decide)).trans in6
  have e7 : a.tmps[7]?.getD undef = .int .i64 (p : Int) := by rw [← ev]; exact (hfr.same 7 (by decide)).trans in7
  clear in0 in1 in2 in6 in7
  match ix, ho with
  | 0, ho =>
    simp only [opsSe5, List.getElem?_toArray, List.getElem?_cons_zero, Option.some.injEq] at ho
    subst ho
    rw [if_pos (show Region.wanted _ _ = true from rfl)]
    have hfin := hK (.pointer (some ⟨t, 0, none⟩)) w (hG.quiet 0 0 38 _ rfl (by kernel_rfl) (by kernel_rfl))
    have HK := Lib.hid hfin
    clear hG hcl hdep hfr hK hfin hLi 
    go_simp
    exact HK.out
  | 1, ho =>
    simp only [opsSe5, List.getElem?_toArray, List.getElem?_cons_succ, List.getElem?_cons_zero, Option.some.injEq] at ho
    subst ho
    have x38 : a.tmps[38]?.getD undef = .pointer (some ⟨t, 0, none⟩) := by rw [← ev]; exact hG.val 0 0 38 _ rfl (hdep ⟨0, .data⟩ (by simp) rfl)
    rw [if_pos (show Region.wanted _ _ = true from rfl)]
    have hfin := hK (.pointer (some ⟨t, 0, none⟩)) w (hG.quiet 1 1 39 _ rfl (by kernel_rfl) (by kernel_rfl))
    have HK := Lib.hid hfin
    clear hG hcl hdep hfr hK hfin hLi 
    go_simp
    exact HK.out
  | 2, ho =>
    simp only [opsSe5, List.getElem?_toArray, List.getElem?_cons_succ, List.getElem?_cons_zero, Option.some.injEq] at ho
    subst ho
    have x39 : a.tmps[39]?.getD undef = .pointer (some ⟨t, 0, none⟩) := by rw [← ev]; exact hG.val 1 1 39 _ rfl (hdep ⟨1, .data⟩ (by simp) rfl)
    rw [if_pos (show Region.wanted _ _ = true from rfl)]
    have hfin := hK (.pointer (some ⟨t, 0, none⟩)) w (hG.quiet 2 2 40 _ rfl (by kernel_rfl) (by kernel_rfl))
    have HK := Lib.hid hfin
    clear hG hcl hdep hfr hK hfin hLi 
    go_simp
    exact HK.out
  | 3, ho =>
    simp only [opsSe5, List.getElem?_toArray, List.getElem?_cons_succ, List.getElem?_cons_zero, Option.some.injEq] at ho
    subst ho
    have x40 : a.tmps[40]?.getD undef = .pointer (some ⟨t, 0, none⟩) := by rw [← ev]; exact hG.val 2 2 40 _ rfl (hdep ⟨2, .data⟩ (by simp) rfl)
    rw [if_pos (show Region.wanted _ _ = true from rfl)]
    have hSp := hG.1
    have hf2 : flagsOf se5C L 2 = false := (flagsOf_at (C := se5C) (j := 2) rfl L).trans (by
      cases hl : L 19 with
      | false => rfl
      | true => exact absurd (hcl 19 _ rfl (hl) ⟨3, .phase⟩ (by simp [opsSe5]) rfl) (by rw [hLi]; decide))
    have hfin := hK (.slice (some ⟨r, 0, none⟩) 1 c1) w (hG.quiet 3 3 41 _ rfl (by kernel_rfl) (by kernel_rfl))
    have HK := Lib.hid hfin
    generalize (resOf se5C fun t => a.eval (.tmp t)) = R at *
    generalize flagsOf se5C L = f at *
    have q1 := ht0 _ _ _ hSp
    clear ht0 hr0 hm0 hi0 hs0
    clear hSp
    clear hG hcl hdep hfr hK hfin hLi 
    go_simp
    exact HK.out
  | 4, ho =>
    simp only [opsSe5, List.getElem?_toArray, List.getElem?_cons_succ, List.getElem?_cons_zero, Option.some.injEq] at ho
    subst ho
    rw [if_pos (show Region.wanted _ _ = true from rfl)]
    have hfin := hK (.int .i64 0) w (hG.quiet 4 4 42 _ rfl (by kernel_rfl) (by kernel_rfl))
    have HK := Lib.hid hfin
    clear hG hcl hdep hfr hK hfin hLi 
    go_simp
    exact HK.out
  | 5, ho =>
    simp only [opsSe5, List.getElem?_toArray, List.getElem?_cons_succ, List.getElem?_cons_zero, Option.some.injEq] at ho
    subst ho
    rw [if_pos (show Region.wanted _ _ = true from rfl)]
    have hfin := hK (.pointer (some ⟨t, 0, none⟩)) w (hG.quiet 5 5 43 _ rfl (by kernel_rfl) (by kernel_rfl))
    have HK := Lib.hid hfin
    clear hG hcl hdep hfr hK hfin hLi 
    go_simp
    exact HK.out
  | 6, ho =>
    simp only [opsSe5, List.getElem?_toArray, List.getElem?_cons_succ, List.getElem?_cons_zero, Option.some.injEq] at ho
    subst ho
    have x43 : a.tmps[43]?.getD undef = .pointer (some ⟨t, 0, none⟩) := by rw [← ev]; exact hG.val 5 5 43 _ rfl (hdep ⟨5, .data⟩ (by simp) rfl)
    rw [if_pos (show Region.wanted _ _ = true from rfl)]
    have hfin := hK (.pointer (some ⟨t, 0, none⟩)) w (hG.quiet 6 6 44 _ rfl (by kernel_rfl) (by kernel_rfl))
    have HK := Lib.hid hfin
    clear hG hcl hdep hfr hK hfin hLi 
    go_simp
    exact HK.out
  | 7, ho =>
    simp only [opsSe5, List.getElem?_toArray, List.getElem?_cons_succ, List.getElem?_cons_zero, Option.some.injEq] at ho
    subst ho
    have x44 : a.tmps[44]?.getD undef = .pointer (some ⟨t, 0, none⟩) := by rw [← ev]; exact hG.val 6 6 44 _ rfl (hdep ⟨6, .data⟩ (by simp) rfl)
    rw [if_pos (show Region.wanted _ _ = true from rfl)]
    have hfin := hK (.pointer (some ⟨t, 0, none⟩)) w (hG.quiet 7 7 45 _ rfl (by kernel_rfl) (by kernel_rfl))
    have HK := Lib.hid hfin
    clear hG hcl hdep hfr hK hfin hLi 
    go_simp
    exact HK.out
  | 8, ho =>
    simp only [opsSe5, List.getElem?_toArray, List.getElem?_cons_succ, List.getElem?_cons_zero, Option.some.injEq] at ho
    subst ho
    have x45 : a.tmps[45]?.getD undef = .pointer (some ⟨t, 0, none⟩) := by rw [← ev]; exact hG.val 7 7 45 _ rfl (hdep ⟨7, .data⟩ (by simp) rfl)
    rw [if_pos (show Region.wanted _ _ = true from rfl)]
    have hSp := hG.1
    have hf1 : flagsOf se5C L 1 = false := (flagsOf_at (C := se5C) (j := 1) rfl L).trans (by
      cases hl : L 17 with
      | false => rfl
      | true => exact absurd (hcl 10 _ rfl (hcl 11 _ rfl (hcl 17 _ rfl (hl) ⟨11, .data⟩ (by simp [opsSe5]) rfl) ⟨10, .data⟩ (by simp [opsSe5]) rfl) ⟨8, .data⟩ (by simp [opsSe5]) rfl) (by rw [hLi]; decide))
    have hf2 : flagsOf se5C L 2 = false := (flagsOf_at (C := se5C) (j := 2) rfl L).trans (by
      cases hl : L 19 with
      | false => rfl
      | true => exact absurd (hcl 19 _ rfl (hl) ⟨8, .phase⟩ (by simp [opsSe5]) rfl) (by rw [hLi]; decide))
    have hfin := hK (.slice (some ⟨r, 0, none⟩) 1 c1) w (hG.quiet 8 8 46 _ rfl (by kernel_rfl) (by kernel_rfl))
    have HK := Lib.hid hfin
    generalize (resOf se5C fun t => a.eval (.tmp t)) = R at *
    generalize flagsOf se5C L = f at *
    have q1 := ht0 _ _ _ hSp
    clear ht0 hr0 hm0 hi0 hs0
    clear hSp
    clear hG hcl hdep hfr hK hfin hLi 
    go_simp
    exact HK.out
  | 9, ho =>
    simp only [opsSe5, List.getElem?_toArray, List.getElem?_cons_succ, List.getElem?_cons_zero, Option.some.injEq] at ho
    subst ho
    rw [if_pos (show Region.wanted _ _ = true from rfl)]
    have hfin := hK (.int .i64 0) w (hG.quiet 9 9 47 _ rfl (by kernel_rfl) (by kernel_rfl))
    have HK := Lib.hid hfin
    clear hG hcl hdep hfr hK hfin hLi 
    go_simp
    exact HK.out
  | 10, ho =>
    simp only [opsSe5, List.getElem?_toArray, List.getElem?_cons_succ, List.getElem?_cons_zero, Option.some.injEq] at ho
    subst ho
    have x46 : a.tmps[46]?.getD undef = .slice (some ⟨r, 0, none⟩) 1 c1 := by rw [← ev]; exact hG.val 8 8 46 _ rfl (hdep ⟨8, .data⟩ (by simp) rfl)
    have x47 : a.tmps[47]?.getD undef = .int .i64 0 := by rw [← ev]; exact hG.val 9 9 47 _ rfl (hdep ⟨9, .data⟩ (by simp) rfl)
    rw [if_pos (show Region.wanted _ _ = true from rfl)]
    have hfin := hK (.pointer (some ⟨r, 0, none⟩)) w (hG.quiet 10 10 48 _ rfl (by kernel_rfl) (by kernel_rfl))
    have HK := Lib.hid hfin
    clear hG hcl hdep hfr hK hfin hLi 
    go_simp
    exact HK.out
  | 11, ho =>
    simp only [opsSe5, List.getElem?_toArray, List.getElem?_cons_succ, List.getElem?_cons_zero, Option.some.injEq] at ho
    subst ho
    have x48 : a.tmps[48]?.getD undef = .pointer (some ⟨r, 0, none⟩) := by rw [← ev]; exact hG.val 10 10 48 _ rfl (hdep ⟨10, .data⟩ (by simp) rfl)
    rw [if_pos (show Region.wanted _ _ = true from rfl)]
    have hSp := hG.1
    have hf1 : flagsOf se5C L 1 = false := (flagsOf_at (C := se5C) (j := 1) rfl L).trans (by
      cases hl : L 17 with
      | false => rfl
      | true => exact absurd (hcl 17 _ rfl (hl) ⟨11, .data⟩ (by simp [opsSe5]) rfl) (by rw [hLi]; decide))
    have hf2 : flagsOf se5C L 2 = false := (flagsOf_at (C := se5C) (j := 2) rfl L).trans (by
      cases hl : L 19 with
      | false => rfl
      | true => exact absurd (hcl 19 _ rfl (hl) ⟨11, .phase⟩ (by simp [opsSe5]) rfl) (by rw [hLi]; decide))
    have hfin := hK (.slice A0 n0 c0) w (hG.quiet 11 11 49 _ rfl (by kernel_rfl) (by kernel_rfl))
    have HK := Lib.hid hfin
    generalize (resOf se5C fun t => a.eval (.tmp t)) = R at *
    generalize flagsOf se5C L = f at *
    have q1 := hr0 _ _ _ hSp hf2
    clear ht0 hr0 hm0 hi0 hs0
    clear hSp
    clear hG hcl hdep hfr hK hfin hLi 
    go_simp
    exact HK.out
  | 12, ho =>
    simp only [opsSe5, List.getElem?_toArray, List.getElem?_cons_succ, List.getElem?_cons_zero, Option.some.injEq] at ho
    subst ho
    rw [if_pos (show Region.wanted _ _ = true from rfl)]
    have hfin := hK (.int .i64 (p : Int)) w (hG.quiet 12 12 50 _ rfl (by kernel_rfl) (by kernel_rfl))
    have HK := Lib.hid hfin
    clear hG hcl hdep hfr hK hfin hLi 
    go_simp
    exact HK.out
  | 13, ho =>
    simp only [opsSe5, List.getElem?_toArray, List.getElem?_cons_succ, List.getElem?_cons_zero, Option.some.injEq] at ho
    subst ho
    rw [if_pos (show Region.wanted _ _ = true from rfl)]
    have hfin := hK (.string key) w (hG.quiet 13 13 51 _ rfl (by kernel_rfl) (by kernel_rfl))
    have HK := Lib.hid hfin
    clear hG hcl hdep hfr hK hfin hLi 
    go_simp
    exact HK.out
  | 14, ho =>
    simp only [opsSe5, List.getElem?_toArray, List.getElem?_cons_succ, List.getElem?_cons_zero, Option.some.injEq] at ho
    subst ho
    rw [if_pos (show Region.wanted _ _ = true from rfl)]
    have hfin := hK (.slice Av nv cv) w (hG.quiet 14 14 52 _ rfl (by kernel_rfl) (by kernel_rfl))
    have HK := Lib.hid hfin
    clear hG hcl hdep hfr hK hfin hLi 
    go_simp
    exact HK.out
  | 15, ho =>
    simp only [opsSe5, List.getElem?_toArray, List.getElem?_cons_succ, List.getElem?_cons_zero, Option.some.injEq] at ho
    subst ho
    have x51 : a.tmps[51]?.getD undef = .string key := by rw [← ev]; exact hG.val 13 13 51 _ rfl (hdep ⟨13, .data⟩ (by simp) rfl)
    have x52 : a.tmps[52]?.getD undef = .slice Av nv cv := by rw [← ev]; exact hG.val 14 14 52 _ rfl (hdep ⟨14, .data⟩ (by simp) rfl)
    rw [if_pos (show Region.wanted _ _ = true from rfl)]
    have hfin := hK (.agg #[.string key, .slice Av nv cv]) w (hG.quiet 15 15 53 _ rfl (by kernel_rfl) (by kernel_rfl))
    have HK := Lib.hid hfin
    clear hG hcl hdep hfr hK hfin hLi 
    go_simp
    exact HK.out
  | 16, ho =>
    simp only [opsSe5, List.getElem?_toArray, List.getElem?_cons_succ, List.getElem?_cons_zero, Option.some.injEq] at ho
    subst ho
    have x53 : a.tmps[53]?.getD undef = .agg #[.string key, .slice Av nv cv] := by rw [← ev]; exact hG.val 15 15 53 _ rfl (hdep ⟨15, .data⟩ (by simp) rfl)
    rw [if_pos (show Region.wanted _ _ = true from rfl)]
    have hSj := hG.1
    have hf0 : flagsOf se5C L 0 = false := (flagsOf_at (C := se5C) (j := 0) rfl L).trans hLi
    have hf1 : flagsOf se5C L 1 = false := (flagsOf_at (C := se5C) (j := 1) rfl L).trans (by
      cases hl : L 17 with
      | false => rfl
      | true => exact absurd (hcl 17 _ rfl (hl) ⟨16, .data⟩ (by simp [opsSe5]) rfl) (by rw [hLi]; decide))
    have hf2 : flagsOf se5C L 2 = false := (flagsOf_at (C := se5C) (j := 2) rfl L).trans (by
      cases hl : L 19 with
      | false => rfl
      | true => exact absurd (hcl 19 _ rfl (hl) ⟨16, .phase⟩ (by simp [opsSe5]) rfl) (by rw [hLi]; decide))
    have hfin := fun v w' hs => hK v w' (hG.call 0 (16, 54) rfl (by kernel_rfl) v w' hs)
    have HK := Lib.hid hfin
    generalize (resOf se5C fun t => a.eval (.tmp t)) = R at *
    generalize flagsOf se5C L = f at *
    clear hG hcl hdep hfr hK hfin hLi
    have hs := hm0 _ _ _ hSj hf0 hf1 hf2
    have hk := HK.out _ _ hs
    have HK2 := Lib.hid hk
    clear hs hk HK hSj ht0 hr0 hm0 hi0 hs0
    go_simp
    exact HK2.out
  | 17, ho =>
    simp only [opsSe5, List.getElem?_toArray, List.getElem?_cons_succ, List.getElem?_cons_zero, Option.some.injEq] at ho
    subst ho
    have x49 : a.tmps[49]?.getD undef = .slice A0 n0 c0 := by rw [← ev]; exact hG.val 11 11 49 _ rfl (hdep ⟨11, .data⟩ (by simp) rfl)
    have x50 : a.tmps[50]?.getD undef = .int .i64 (p : Int) := by rw [← ev]; exact hG.val 12 12 50 _ rfl (hdep ⟨12, .data⟩ (by simp) rfl)
    rw [if_pos (show Region.wanted _ _ = true from rfl)]
    have hSj := hG.1
    have hf0 : flagsOf se5C L 0 = true := (flagsOf_at (C := se5C) (j := 0) rfl L).trans (hdep ⟨16, .data⟩ (by simp) rfl)
    have hf1 : flagsOf se5C L 1 = false := (flagsOf_at (C := se5C) (j := 1) rfl L).trans hLi
    have hf2 : flagsOf se5C L 2 = false := (flagsOf_at (C := se5C) (j := 2) rfl L).trans (by
      cases hl : L 19 with
      | false => rfl
      | true => exact absurd (hcl 19 _ rfl (hl) ⟨17, .data⟩ (by simp [opsSe5]) rfl) (by rw [hLi]; decide))
    have r54 : a.tmps[54]?.getD undef = resOf se5C (fun t => a.eval (.tmp t)) 0 := by rw [← ev]; exact (resOf_at (C := se5C) (j := 0) rfl a).symm
    have hfin := fun v w' hs => hK v w' (hG.call 1 (17, 55) rfl (by kernel_rfl) v w' hs)
    have HK := Lib.hid hfin
    generalize (resOf se5C fun t => a.eval (.tmp t)) = R at *
    generalize flagsOf se5C L = f at *
    clear hG hcl hdep hfr hK hfin hLi
    obtain ⟨A2, q1, hcc⟩ := hi0 _ _ _ hSj hf0 hf1 hf2
    rw [q1] at r54
    have hc := Lib.hid hcc
    clear hSj q1 hcc ht0 hr0 hm0 hi0 hs0
    go_simp
    go_at_call 43
    refine hc.out.mono ?_
    rintro e w' ⟨v, rfl, hs⟩
    exact HK.out v w' hs
  | 18, ho =>
    simp only [opsSe5, List.getElem?_toArray, List.getElem?_cons_succ, List.getElem?_cons_zero, Option.some.injEq] at ho
    subst ho
    have x41 : a.tmps[41]?.getD undef = .slice (some ⟨r, 0, none⟩) 1 c1 := by rw [← ev]; exact hG.val 3 3 41 _ rfl (hdep ⟨3, .data⟩ (by simp) rfl)
    have x42 : a.tmps[42]?.getD undef = .int .i64 0 := by rw [← ev]; exact hG.val 4 4 42 _ rfl (hdep ⟨4, .data⟩ (by simp) rfl)
    rw [if_pos (show Region.wanted _ _ = true from rfl)]
    have hfin := hK (.pointer (some ⟨r, 0, none⟩)) w (hG.quiet 16 18 56 _ rfl (by kernel_rfl) (by kernel_rfl))
    have HK := Lib.hid hfin
    clear hG hcl hdep hfr hK hfin hLi 
    go_simp
    exact HK.out
  | 19, ho =>
    simp only [opsSe5, List.getElem?_toArray, List.getElem?_cons_succ, List.getElem?_cons_zero, Option.some.injEq] at ho
    subst ho
    have x56 : a.tmps[56]?.getD undef = .pointer (some ⟨r, 0, none⟩) := by rw [← ev]; exact hG.val 16 18 56 _ rfl (hdep ⟨18, .data⟩ (by simp) rfl)
    rw [if_pos (show Region.wanted _ _ = true from rfl)]
    have hSj := hG.1
    have hf0 : flagsOf se5C L 0 = true := (flagsOf_at (C := se5C) (j := 0) rfl L).trans (hdep ⟨16, .phase⟩ (by simp) rfl)
    have hf1 : flagsOf se5C L 1 = true := (flagsOf_at (C := se5C) (j := 1) rfl L).trans (hdep ⟨17, .data⟩ (by simp) rfl)
    have hf2 : flagsOf se5C L 2 = false := (flagsOf_at (C := se5C) (j := 2) rfl L).trans hLi
    have r55 : a.tmps[55]?.getD undef = resOf se5C (fun t => a.eval (.tmp t)) 1 := by rw [← ev]; exact (resOf_at (C := se5C) (j := 1) rfl a).symm
    have hfin := fun w' hs => hK undef w' (hG.store 2 (19, 1000019) rfl (by kernel_rfl) undef w' hs)
    have HK := Lib.hid hfin
    generalize (resOf se5C fun t => a.eval (.tmp t)) = R at *
    generalize flagsOf se5C L = f at *
    clear hG hcl hdep hfr hK hfin hLi
    obtain ⟨A, n, c, q1, q2, hs⟩ := hs0 _ _ _ hSj hf1 hf2
    rw [q1] at r55
    have q3 := hr0 _ _ _ hSj hf2
    have hk := HK.out _ hs
    have HK2 := Lib.hid hk
    clear hs hk HK hSj q1 ht0 hr0 hm0 hi0 hs0
    go_simp
    exact HK2.out
  | n + 20, ho => exact absurd (Array.getElem?_eq_some_iff.1 ho).1 (by show ¬ n + 20 < 20; omega)
end Go.Proofs.Ytgpkdnnlgafenaa
