/- The table's remove: a pair taken out of its block. -/
import Derived.Test.YtgpkdnnlgafenaaFlags
import Derived.Test.YtgpkdnnlgafenaaKvDel
import Derived.WalkKit
import Derived.WalkSpells
import Derived.WalkLawsBesides
import Derived.Lib.Hide
import Derived.IntWalk
import Derived.Laws.Entries
namespace Go.Proofs.Ytgpkdnnlgafenaa
open Go.RowKit
set_option linter.unusedVariables false
set_option linter.unusedSimpArgs false

def opsRe2 : Array Oper := #[
  { dst := some 16, op := Op.move (Operand.tmp 0), type := 23, pos := "kv.go:264", after := #[], guard := none },
  { dst := some 17, op := Op.nilCheck (Operand.tmp 16), type := 0, pos := "kv.go:264", after := #[{ on := 0, ground := Ground.data }], guard := none },
  { dst := some 18, op := Op.fieldAddr 67 (Operand.tmp 17) 0, type := 0, pos := "kv.go:264", after := #[{ on := 1, ground := Ground.data }], guard := none },
  { dst := some 19, op := Op.load 65 (Operand.tmp 18), type := 65, pos := "kv.go:264", after := #[{ on := 2, ground := Ground.data }], guard := none },
  { dst := some 20, op := Op.move (Operand.tmp 4), type := 3, pos := "kv.go:264", after := #[], guard := none },
  { dst := some 21, op := Op.move (Operand.tmp 0), type := 23, pos := "kv.go:264", after := #[], guard := none },
  { dst := some 22, op := Op.nilCheck (Operand.tmp 21), type := 0, pos := "kv.go:264", after := #[{ on := 5, ground := Ground.data }], guard := none },
  { dst := some 23, op := Op.fieldAddr 67 (Operand.tmp 22) 0, type := 0, pos := "kv.go:264", after := #[{ on := 6, ground := Ground.data }], guard := none },
  { dst := some 24, op := Op.load 65 (Operand.tmp 23), type := 65, pos := "kv.go:264", after := #[{ on := 7, ground := Ground.data }], guard := none },
  { dst := some 25, op := Op.move (Operand.tmp 4), type := 3, pos := "kv.go:264", after := #[], guard := none },
  { dst := some 26, op := Op.indexAddr 65 (Operand.tmp 24) (Operand.tmp 25), type := 0, pos := "kv.go:264", after := #[{ on := 8, ground := Ground.data }, { on := 9, ground := Ground.data }], guard := none },
  { dst := some 27, op := Op.load 37 (Operand.tmp 26), type := 37, pos := "kv.go:264", after := #[{ on := 10, ground := Ground.data }], guard := none },
  { dst := some 28, op := Op.move (Operand.tmp 5), type := 3, pos := "kv.go:264", after := #[], guard := none },
  { dst := some 29, op := Op.move (Operand.tmp 5), type := 3, pos := "kv.go:264", after := #[], guard := none },
  { dst := some 30, op := Op.binOp BinOp.add 3 (Operand.tmp 29) (Operand.const (Value.int IntKind.i64 1)) 3, type := 3, pos := "kv.go:264", after := #[{ on := 13, ground := Ground.data }], guard := none },
  { dst := some 31, op := Op.call { callee := Callee.value (Operand.func 41), args := #[Operand.tmp 27, Operand.tmp 28, Operand.tmp 30], argTypes := #[37, 3, 3] }, type := 37, pos := "kv.go:264", after := #[{ on := 11, ground := Ground.data }, { on := 12, ground := Ground.data }, { on := 14, ground := Ground.data }], guard := none },
  { dst := some 32, op := Op.indexAddr 65 (Operand.tmp 19) (Operand.tmp 20), type := 0, pos := "kv.go:264", after := #[{ on := 3, ground := Ground.data }, { on := 4, ground := Ground.data }, { on := 0, ground := Ground.phase }, { on := 1, ground := Ground.phase }, { on := 2, ground := Ground.phase }, { on := 3, ground := Ground.phase }, { on := 4, ground := Ground.phase }, { on := 5, ground := Ground.phase }, { on := 6, ground := Ground.phase }, { on := 7, ground := Ground.phase }, { on := 8, ground := Ground.phase }, { on := 9, ground := Ground.phase }, { on := 10, ground := Ground.phase }, { on := 11, ground := Ground.phase }, { on := 12, ground := Ground.phase }, { on := 13, ground := Ground.phase }, { on := 14, ground := Ground.phase }, { on := 15, ground := Ground.phase }], guard := none },
  { dst := none, op := Op.store 37 (Operand.tmp 32) (Operand.tmp 31), type := 0, pos := "kv.go:264", after := #[{ on := 16, ground := Ground.data }, { on := 15, ground := Ground.data }, { on := 15, ground := Ground.chain }, { on := 0, ground := Ground.phase }, { on := 1, ground := Ground.phase }, { on := 2, ground := Ground.phase }, { on := 3, ground := Ground.phase }, { on := 4, ground := Ground.phase }, { on := 5, ground := Ground.phase }, { on := 6, ground := Ground.phase }, { on := 7, ground := Ground.phase }, { on := 8, ground := Ground.phase }, { on := 9, ground := Ground.phase }, { on := 10, ground := Ground.phase }, { on := 11, ground := Ground.phase }, { on := 12, ground := Ground.phase }, { on := 13, ground := Ground.phase }, { on := 14, ground := Ground.phase }, { on := 15, ground := Ground.phase }], guard := none }]

def re2Vals (t r c1 p n0 c0 : Nat) (A0 : Option Addr) : List (Nat × Nat × Value) := [(0, 16, .pointer (some ⟨t, 0, none⟩)), (1, 17, .pointer (some ⟨t, 0, none⟩)), (2, 18, .pointer (some ⟨t, 0, none⟩)), (3, 19, .slice (some ⟨r, 0, none⟩) 1 c1), (4, 20, .int .i64 0), (5, 21, .pointer (some ⟨t, 0, none⟩)), (6, 22, .pointer (some ⟨t, 0, none⟩)), (7, 23, .pointer (some ⟨t, 0, none⟩)), (8, 24, .slice (some ⟨r, 0, none⟩) 1 c1), (9, 25, .int .i64 0), (10, 26, .pointer (some ⟨r, 0, none⟩)), (11, 27, .slice A0 n0 c0), (12, 28, .int .i64 (p : Int)), (13, 29, .int .i64 (p : Int)), (14, 30, .int .i64 ((p : Int) + 1)), (16, 32, .pointer (some ⟨r, 0, none⟩))]
def re2C : List (Nat × Nat) := [(15, 31), (17, 1000017)]

set_option maxHeartbeats 4000000 in
set_option maxRecDepth 100000 in
theorem re2 {Q : Exit → Act → World → Prop} {a0 : Act} {wp : World} (t r c1 p n0 c0 : Nat) (A0 : Option Addr) (S : (Nat → Bool) → (Nat → Value) → World → Prop)
    (hsz : 32 < a0.tmps.size) (in0 : a0.eval (.tmp 0) = .pointer (some ⟨t, 0, none⟩)) (in4 : a0.eval (.tmp 4) = .int .i64 0) (in5 : a0.eval (.tmp 5) = .int .i64 (p : Int))
    (hp : (p : Int) ≤ 1000000) (ht0 : ∀ f R w, S f R w → w.cell? ⟨t, 0, none⟩ = some (.slice (some ⟨r, 0, none⟩) 1 c1)) (hr0 : ∀ f R w, S f R w → f 1 = false → w.cell? ⟨r, 0, none⟩ = some (.slice A0 n0 c0))
    (hi0 : ∀ f R w, S f R w → f 0 = false → f 1 = false → Calls Try.prog 41 #[.slice A0 n0 c0, .int .i64 (p : Int), .int .i64 ((p : Int) + 1)] w fun e w' => ∃ v, e = .returned v ∧ S (setF f 0) (setR R 0 v) w')
    (hs0 : ∀ f R w, S f R w → f 0 = true → f 1 = false → ∃ A n c, R 0 = .slice A n c ∧ w.frozen? ⟨r, 0, none⟩ = false ∧ S (setF f 1) R (w.setCell ⟨r, 0, none⟩ (.slice A n c)))
    (hS : S (fun _ => false) (resOf re2C fun t => a0.eval (.tmp t)) wp.drew)
    (fin : ∀ a w f, Fr [16, 17, 18, 19, 20, 21, 22, 23, 24, 25, 26, 27, 28, 29, 30, 31, 32] a0 a → (∀ j, j < 2 → f j = true) → S f (resOf re2C fun t => a.eval (.tmp t)) w → Q .normal a w) :
    (Code.region 2 opsRe2 true).wp Try.prog Q a0 wp := by
  have hw1 : IntKind.i64.wrap ((p : Int) + 1) = (p : Int) + 1 := by rw [IntKind.wrap_i64]; omega
  refine region_inv (by kernel_rfl) [16, 17, 18, 19, 20, 21, 22, 23, 24, 25, 26, 27, 28, 29, 30, 31, 32] (by kernel_rfl) (by kernel_rfl) (fun t ht => by simp at ht; omega) (GF (re2Vals t r c1 p n0 c0 A0) re2C S) (.start hS) ?_
    (fun L a w hf hall hG => fin a w (flagsOf re2C L) hf  (fun j hj => by
      match j, hj with
      | 0, _ => exact (flagsOf_at (C := re2C) (j := 0) rfl L).trans (hall 15 (by decide))
      | 1, _ => exact (flagsOf_at (C := re2C) (j := 1) rfl L).trans (hall 17 (by decide))
      | n + 2, h => exact absurd h (by omega)) hG.1)
  clear hS fin
  intro ix oo ho L a w hfr hG hLi hdep hcl K hK
  have e0 : a.tmps[0]?.getD undef = .pointer (some ⟨t, 0, none⟩) := by rw [← ev]; exact (hfr.same 0 (by decide)).trans in0
  have e4 : a.tmps[4]?.getD undef = .int .i64 0 := by rw [← ev]; exact (hfr.same 4 (by decide)).trans in4
  have e5 : a.tmps[5]?.getD undef = .int .i64 (p : Int) := by rw [← ev]; exact (hfr.same 5 (by decide)).trans in5
  clear in0 in4 in5
  match ix, ho with
  | 0, ho =>
    simp only [opsRe2, List.getElem?_toArray, List.getElem?_cons_zero, Option.some.injEq] at ho
    subst ho
    rw [if_pos (show Region.wanted _ _ = true from rfl)]
    have hfin := hK (.pointer (some ⟨t, 0, none⟩)) w (hG.quiet 0 0 16 _ rfl (by kernel_rfl) (by kernel_rfl))
    have HK := Lib.hid hfin
    clear hG hcl hdep hfr hK hfin hLi 
    go_simp
    exact HK.out
  | 1, ho =>
    simp only [opsRe2, List.getElem?_toArray, List.getElem?_cons_succ, List.getElem?_cons_zero, Option.some.injEq] at ho
    subst ho
    have x16 : a.tmps[16]?.getD undef = .pointer (some ⟨t, 0, none⟩) := by rw [← ev]; exact hG.val 0 0 16 _ rfl (hdep ⟨0, .data⟩ (by simp) rfl)
    rw [if_pos (show Region.wanted _ _ = true from rfl)]
    have hfin := hK (.pointer (some ⟨t, 0, none⟩)) w (hG.quiet 1 1 17 _ rfl (by kernel_rfl) (by kernel_rfl))
    have HK := Lib.hid hfin
    clear hG hcl hdep hfr hK hfin hLi 
    go_simp
    exact HK.out
  | 2, ho =>
    simp only [opsRe2, List.getElem?_toArray, List.getElem?_cons_succ, List.getElem?_cons_zero, Option.some.injEq] at ho
    subst ho
    have x17 : a.tmps[17]?.getD undef = .pointer (some ⟨t, 0, none⟩) := by rw [← ev]; exact hG.val 1 1 17 _ rfl (hdep ⟨1, .data⟩ (by simp) rfl)
    rw [if_pos (show Region.wanted _ _ = true from rfl)]
    have hfin := hK (.pointer (some ⟨t, 0, none⟩)) w (hG.quiet 2 2 18 _ rfl (by kernel_rfl) (by kernel_rfl))
    have HK := Lib.hid hfin
    clear hG hcl hdep hfr hK hfin hLi 
    go_simp
    exact HK.out
  | 3, ho =>
    simp only [opsRe2, List.getElem?_toArray, List.getElem?_cons_succ, List.getElem?_cons_zero, Option.some.injEq] at ho
    subst ho
    have x18 : a.tmps[18]?.getD undef = .pointer (some ⟨t, 0, none⟩) := by rw [← ev]; exact hG.val 2 2 18 _ rfl (hdep ⟨2, .data⟩ (by simp) rfl)
    rw [if_pos (show Region.wanted _ _ = true from rfl)]
    have hSp := hG.1
    have hf1 : flagsOf re2C L 1 = false := (flagsOf_at (C := re2C) (j := 1) rfl L).trans (by
      cases hl : L 17 with
      | false => rfl
      | true => exact absurd (hcl 17 _ rfl (hl) ⟨3, .phase⟩ (by simp [opsRe2]) rfl) (by rw [hLi]; decide))
    have hfin := hK (.slice (some ⟨r, 0, none⟩) 1 c1) w (hG.quiet 3 3 19 _ rfl (by kernel_rfl) (by kernel_rfl))
    have HK := Lib.hid hfin
    generalize (resOf re2C fun t => a.eval (.tmp t)) = R at *
    generalize flagsOf re2C L = f at *
    have q1 := ht0 _ _ _ hSp
    clear ht0 hr0 hi0 hs0
    clear hSp
    clear hG hcl hdep hfr hK hfin hLi 
    go_simp
    exact HK.out
  | 4, ho =>
    simp only [opsRe2, List.getElem?_toArray, List.getElem?_cons_succ, List.getElem?_cons_zero, Option.some.injEq] at ho
    subst ho
    rw [if_pos (show Region.wanted _ _ = true from rfl)]
    have hfin := hK (.int .i64 0) w (hG.quiet 4 4 20 _ rfl (by kernel_rfl) (by kernel_rfl))
    have HK := Lib.hid hfin
    clear hG hcl hdep hfr hK hfin hLi 
    go_simp
    exact HK.out
  | 5, ho =>
    simp only [opsRe2, List.getElem?_toArray, List.getElem?_cons_succ, List.getElem?_cons_zero, Option.some.injEq] at ho
    subst ho
    rw [if_pos (show Region.wanted _ _ = true from rfl)]
    have hfin := hK (.pointer (some ⟨t, 0, none⟩)) w (hG.quiet 5 5 21 _ rfl (by kernel_rfl) (by kernel_rfl))
    have HK := Lib.hid hfin
    clear hG hcl hdep hfr hK hfin hLi 
    go_simp
    exact HK.out
  | 6, ho =>
    simp only [opsRe2, List.getElem?_toArray, List.getElem?_cons_succ, List.getElem?_cons_zero, Option.some.injEq] at ho
    subst ho
    have x21 : a.tmps[21]?.getD undef = .pointer (some ⟨t, 0, none⟩) := by rw [← ev]; exact hG.val 5 5 21 _ rfl (hdep ⟨5, .data⟩ (by simp) rfl)
    rw [if_pos (show Region.wanted _ _ = true from rfl)]
    have hfin := hK (.pointer (some ⟨t, 0, none⟩)) w (hG.quiet 6 6 22 _ rfl (by kernel_rfl) (by kernel_rfl))
    have HK := Lib.hid hfin
    clear hG hcl hdep hfr hK hfin hLi 
    go_simp
    exact HK.out
  | 7, ho =>
    simp only [opsRe2, List.getElem?_toArray, List.getElem?_cons_succ, List.getElem?_cons_zero, Option.some.injEq] at ho
    subst ho
    have x22 : a.tmps[22]?.getD undef = .pointer (some ⟨t, 0, none⟩) := by rw [← ev]; exact hG.val 6 6 22 _ rfl (hdep ⟨6, .data⟩ (by simp) rfl)
    rw [if_pos (show Region.wanted _ _ = true from rfl)]
    have hfin := hK (.pointer (some ⟨t, 0, none⟩)) w (hG.quiet 7 7 23 _ rfl (by kernel_rfl) (by kernel_rfl))
    have HK := Lib.hid hfin
    clear hG hcl hdep hfr hK hfin hLi 
    go_simp
    exact HK.out
  | 8, ho =>
    simp only [opsRe2, List.getElem?_toArray, List.getElem?_cons_succ, List.getElem?_cons_zero, Option.some.injEq] at ho
    subst ho
    have x23 : a.tmps[23]?.getD undef = .pointer (some ⟨t, 0, none⟩) := by rw [← ev]; exact hG.val 7 7 23 _ rfl (hdep ⟨7, .data⟩ (by simp) rfl)
    rw [if_pos (show Region.wanted _ _ = true from rfl)]
    have hSp := hG.1
    have hf0 : flagsOf re2C L 0 = false := (flagsOf_at (C := re2C) (j := 0) rfl L).trans (by
      cases hl : L 15 with
      | false => rfl
      | true => exact absurd (hcl 10 _ rfl (hcl 11 _ rfl (hcl 15 _ rfl (hl) ⟨11, .data⟩ (by simp [opsRe2]) rfl) ⟨10, .data⟩ (by simp [opsRe2]) rfl) ⟨8, .data⟩ (by simp [opsRe2]) rfl) (by rw [hLi]; decide))
    have hf1 : flagsOf re2C L 1 = false := (flagsOf_at (C := re2C) (j := 1) rfl L).trans (by
      cases hl : L 17 with
      | false => rfl
      | true => exact absurd (hcl 17 _ rfl (hl) ⟨8, .phase⟩ (by simp [opsRe2]) rfl) (by rw [hLi]; decide))
    have hfin := hK (.slice (some ⟨r, 0, none⟩) 1 c1) w (hG.quiet 8 8 24 _ rfl (by kernel_rfl) (by kernel_rfl))
    have HK := Lib.hid hfin
    generalize (resOf re2C fun t => a.eval (.tmp t)) = R at *
    generalize flagsOf re2C L = f at *
    have q1 := ht0 _ _ _ hSp
    clear ht0 hr0 hi0 hs0
    clear hSp
    clear hG hcl hdep hfr hK hfin hLi 
    go_simp
    exact HK.out
  | 9, ho =>
    simp only [opsRe2, List.getElem?_toArray, List.getElem?_cons_succ, List.getElem?_cons_zero, Option.some.injEq] at ho
    subst ho
    rw [if_pos (show Region.wanted _ _ = true from rfl)]
    have hfin := hK (.int .i64 0) w (hG.quiet 9 9 25 _ rfl (by kernel_rfl) (by kernel_rfl))
    have HK := Lib.hid hfin
    clear hG hcl hdep hfr hK hfin hLi 
    go_simp
    exact HK.out
  | 10, ho =>
    simp only [opsRe2, List.getElem?_toArray, List.getElem?_cons_succ, List.getElem?_cons_zero, Option.some.injEq] at ho
    subst ho
    have x24 : a.tmps[24]?.getD undef = .slice (some ⟨r, 0, none⟩) 1 c1 := by rw [← ev]; exact hG.val 8 8 24 _ rfl (hdep ⟨8, .data⟩ (by simp) rfl)
    have x25 : a.tmps[25]?.getD undef = .int .i64 0 := by rw [← ev]; exact hG.val 9 9 25 _ rfl (hdep ⟨9, .data⟩ (by simp) rfl)
    rw [if_pos (show Region.wanted _ _ = true from rfl)]
    have hfin := hK (.pointer (some ⟨r, 0, none⟩)) w (hG.quiet 10 10 26 _ rfl (by kernel_rfl) (by kernel_rfl))
    have HK := Lib.hid hfin
    clear hG hcl hdep hfr hK hfin hLi 
    go_simp
    exact HK.out
  | 11, ho =>
    simp only [opsRe2, List.getElem?_toArray, List.getElem?_cons_succ, List.getElem?_cons_zero, Option.some.injEq] at ho
    subst ho
    have x26 : a.tmps[26]?.getD undef = .pointer (some ⟨r, 0, none⟩) := by rw [← ev]; exact hG.val 10 10 26 _ rfl (hdep ⟨10, .data⟩ (by simp) rfl)
    rw [if_pos (show Region.wanted _ _ = true from rfl)]
    have hSp := hG.1
    have hf0 : flagsOf re2C L 0 = false := (flagsOf_at (C := re2C) (j := 0) rfl L).trans (by
      cases hl : L 15 with
      | false => rfl
      | true => exact absurd (hcl 15 _ rfl (hl) ⟨11, .data⟩ (by simp [opsRe2]) rfl) (by rw [hLi]; decide))
    have hf1 : flagsOf re2C L 1 = false := (flagsOf_at (C := re2C) (j := 1) rfl L).trans (by
      cases hl : L 17 with
      | false => rfl
      | true => exact absurd (hcl 17 _ rfl (hl) ⟨11, .phase⟩ (by simp [opsRe2]) rfl) (by rw [hLi]; decide))
    have hfin := hK (.slice A0 n0 c0) w (hG.quiet 11 11 27 _ rfl (by kernel_rfl) (by kernel_rfl))
    have HK := Lib.hid hfin
    generalize (resOf re2C fun t => a.eval (.tmp t)) = R at *
    generalize flagsOf re2C L = f at *
    have q1 := hr0 _ _ _ hSp hf1
    clear ht0 hr0 hi0 hs0
    clear hSp
    clear hG hcl hdep hfr hK hfin hLi 
    go_simp
    exact HK.out
  | 12, ho =>
    simp only [opsRe2, List.getElem?_toArray, List.getElem?_cons_succ, List.getElem?_cons_zero, Option.some.injEq] at ho
    subst ho
    rw [if_pos (show Region.wanted _ _ = true from rfl)]
    have hfin := hK (.int .i64 (p : Int)) w (hG.quiet 12 12 28 _ rfl (by kernel_rfl) (by kernel_rfl))
    have HK := Lib.hid hfin
    clear hG hcl hdep hfr hK hfin hLi 
    go_simp
    exact HK.out
  | 13, ho =>
    simp only [opsRe2, List.getElem?_toArray, List.getElem?_cons_succ, List.getElem?_cons_zero, Option.some.injEq] at ho
    subst ho
    rw [if_pos (show Region.wanted _ _ = true from rfl)]
    have hfin := hK (.int .i64 (p : Int)) w (hG.quiet 13 13 29 _ rfl (by kernel_rfl) (by kernel_rfl))
    have HK := Lib.hid hfin
    clear hG hcl hdep hfr hK hfin hLi 
    go_simp
    exact HK.out
  | 14, ho =>
    simp only [opsRe2, List.getElem?_toArray, List.getElem?_cons_succ, List.getElem?_cons_zero, Option.some.injEq] at ho
    subst ho
    have x29 : a.tmps[29]?.getD undef = .int .i64 (p : Int) := by rw [← ev]; exact hG.val 13 13 29 _ rfl (hdep ⟨13, .data⟩ (by simp) rfl)
    rw [if_pos (show Region.wanted _ _ = true from rfl)]
    have hfin := hK (.int .i64 ((p : Int) + 1)) w (hG.quiet 14 14 30 _ rfl (by kernel_rfl) (by kernel_rfl))
    have HK := Lib.hid hfin
    clear hG hcl hdep hfr hK hfin hLi 
    go_simp
    exact HK.out
  | 15, ho =>
    simp only [opsRe2, List.getElem?_toArray, List.getElem?_cons_succ, List.getElem?_cons_zero, Option.some.injEq] at ho
    subst ho
    have x27 : a.tmps[27]?.getD undef = .slice A0 n0 c0 := by rw [← ev]; exact hG.val 11 11 27 _ rfl (hdep ⟨11, .data⟩ (by simp) rfl)
    have x28 : a.tmps[28]?.getD undef = .int .i64 (p : Int) := by rw [← ev]; exact hG.val 12 12 28 _ rfl (hdep ⟨12, .data⟩ (by simp) rfl)
    have x30 : a.tmps[30]?.getD undef = .int .i64 ((p : Int) + 1) := by rw [← ev]; exact hG.val 14 14 30 _ rfl (hdep ⟨14, .data⟩ (by simp) rfl)
    rw [if_pos (show Region.wanted _ _ = true from rfl)]
    have hSj := hG.1
    have hf0 : flagsOf re2C L 0 = false := (flagsOf_at (C := re2C) (j := 0) rfl L).trans hLi
    have hf1 : flagsOf re2C L 1 = false := (flagsOf_at (C := re2C) (j := 1) rfl L).trans (by
      cases hl : L 17 with
      | false => rfl
      | true => exact absurd (hcl 17 _ rfl (hl) ⟨15, .data⟩ (by simp [opsRe2]) rfl) (by rw [hLi]; decide))
    have hfin := fun v w' hs => hK v w' (hG.call 0 (15, 31) rfl (by kernel_rfl) v w' hs)
    have HK := Lib.hid hfin
    generalize (resOf re2C fun t => a.eval (.tmp t)) = R at *
    generalize flagsOf re2C L = f at *
    clear hG hcl hdep hfr hK hfin hLi
    have hc := Lib.hid (hi0 _ _ _ hSj hf0 hf1)
    clear hSj ht0 hr0 hi0 hs0
    go_simp
    go_at_call 41
    refine hc.out.mono ?_
    rintro e w' ⟨v, rfl, hs⟩
    exact HK.out v w' hs
  | 16, ho =>
    simp only [opsRe2, List.getElem?_toArray, List.getElem?_cons_succ, List.getElem?_cons_zero, Option.some.injEq] at ho
    subst ho
    have x19 : a.tmps[19]?.getD undef = .slice (some ⟨r, 0, none⟩) 1 c1 := by rw [← ev]; exact hG.val 3 3 19 _ rfl (hdep ⟨3, .data⟩ (by simp) rfl)
    have x20 : a.tmps[20]?.getD undef = .int .i64 0 := by rw [← ev]; exact hG.val 4 4 20 _ rfl (hdep ⟨4, .data⟩ (by simp) rfl)
    rw [if_pos (show Region.wanted _ _ = true from rfl)]
    have hfin := hK (.pointer (some ⟨r, 0, none⟩)) w (hG.quiet 15 16 32 _ rfl (by kernel_rfl) (by kernel_rfl))
    have HK := Lib.hid hfin
    clear hG hcl hdep hfr hK hfin hLi 
    go_simp
    exact HK.out
  | 17, ho =>
    simp only [opsRe2, List.getElem?_toArray, List.getElem?_cons_succ, List.getElem?_cons_zero, Option.some.injEq] at ho
    subst ho
    have x32 : a.tmps[32]?.getD undef = .pointer (some ⟨r, 0, none⟩) := by rw [← ev]; exact hG.val 15 16 32 _ rfl (hdep ⟨16, .data⟩ (by simp) rfl)
    rw [if_pos (show Region.wanted _ _ = true from rfl)]
    have hSj := hG.1
    have hf0 : flagsOf re2C L 0 = true := (flagsOf_at (C := re2C) (j := 0) rfl L).trans (hdep ⟨15, .data⟩ (by simp) rfl)
    have hf1 : flagsOf re2C L 1 = false := (flagsOf_at (C := re2C) (j := 1) rfl L).trans hLi
    have r31 : a.tmps[31]?.getD undef = resOf re2C (fun t => a.eval (.tmp t)) 0 := by rw [← ev]; exact (resOf_at (C := re2C) (j := 0) rfl a).symm
    have hfin := fun w' hs => hK undef w' (hG.store 1 (17, 1000017) rfl (by kernel_rfl) undef w' hs)
    have HK := Lib.hid hfin
    generalize (resOf re2C fun t => a.eval (.tmp t)) = R at *
    generalize flagsOf re2C L = f at *
    clear hG hcl hdep hfr hK hfin hLi
    obtain ⟨A, n, c, q1, q2, hs⟩ := hs0 _ _ _ hSj hf0 hf1
    rw [q1] at r31
    have q3 := hr0 _ _ _ hSj hf1
    have hk := HK.out _ hs
    have HK2 := Lib.hid hk
    clear hs hk HK hSj q1 ht0 hr0 hi0 hs0
    go_simp
    exact HK2.out
  | n + 18, ho => exact absurd (Array.getElem?_eq_some_iff.1 ho).1 (by show ¬ n + 18 < 18; omega)
end Go.Proofs.Ytgpkdnnlgafenaa
