/- RkB5, KvRRow, KvRByt, KvRDec, RkLd3, KvRLoad: these texts in one. -/
import Derived.Test.YtgpkdnnlgafenaaFlags
import Derived.Test.YtgpkdnnlgafenaaAppend
import Derived.WalkKit
import Derived.WalkSpells
import Derived.WalkLawsBesides
import Derived.Lib.Hide
import Derived.Test.YtgpkdnnlgafenaaKvRefAll
import Derived.Test.YtgpkdnnlgafenaaSqRet
import Derived.Deep.QuietTactic
import Derived.BigQuiet
import Derived.Test.YtgpkdnnlgafenaaVals
import Derived.Test.YtgpkdnnlgafenaaKvDcAll
namespace Go.Proofs.Ytgpkdnnlgafenaa
open Go.RowKit
set_option linter.unusedVariables false
set_option linter.unusedSimpArgs false

def opsRkb5 : Array Oper := #[
  { dst := some 14, op := Op.move (Operand.tmp 3), type := 47, pos := "ref.go:239", after := #[], guard := none },
  { dst := some 15, op := Op.move (Operand.tmp 0), type := 42, pos := "ref.go:239", after := #[], guard := none },
  { dst := some 16, op := Op.nilCheck (Operand.tmp 15), type := 0, pos := "ref.go:239", after := #[{ on := 1, ground := Ground.data }], guard := none },
  { dst := some 17, op := Op.fieldAddr 45 (Operand.tmp 16) 0, type := 0, pos := "ref.go:239", after := #[{ on := 2, ground := Ground.data }], guard := none },
  { dst := some 18, op := Op.load 43 (Operand.tmp 17), type := 43, pos := "ref.go:239", after := #[{ on := 3, ground := Ground.data }], guard := none },
  { dst := some 19, op := Op.move (Operand.tmp 4), type := 3, pos := "ref.go:239", after := #[], guard := none },
  { dst := some 20, op := Op.indexAddr 43 (Operand.tmp 18) (Operand.tmp 19), type := 0, pos := "ref.go:239", after := #[{ on := 4, ground := Ground.data }, { on := 5, ground := Ground.data }], guard := none },
  { dst := some 21, op := Op.fieldAddr 82 (Operand.tmp 20) 0, type := 0, pos := "ref.go:239", after := #[{ on := 6, ground := Ground.data }], guard := none },
  { dst := some 22, op := Op.load 9 (Operand.tmp 21), type := 9, pos := "ref.go:239", after := #[{ on := 7, ground := Ground.data }], guard := none },
  { dst := some 23, op := Op.move (Operand.tmp 0), type := 42, pos := "ref.go:239", after := #[], guard := none },
  { dst := some 24, op := Op.nilCheck (Operand.tmp 23), type := 0, pos := "ref.go:239", after := #[{ on := 9, ground := Ground.data }], guard := none },
  { dst := some 25, op := Op.fieldAddr 45 (Operand.tmp 24) 0, type := 0, pos := "ref.go:239", after := #[{ on := 10, ground := Ground.data }], guard := none },
  { dst := some 26, op := Op.load 43 (Operand.tmp 25), type := 43, pos := "ref.go:239", after := #[{ on := 11, ground := Ground.data }], guard := none },
  { dst := some 27, op := Op.move (Operand.tmp 4), type := 3, pos := "ref.go:239", after := #[], guard := none },
  { dst := some 28, op := Op.indexAddr 43 (Operand.tmp 26) (Operand.tmp 27), type := 0, pos := "ref.go:239", after := #[{ on := 12, ground := Ground.data }, { on := 13, ground := Ground.data }], guard := none },
  { dst := some 29, op := Op.fieldAddr 82 (Operand.tmp 28) 1, type := 0, pos := "ref.go:239", after := #[{ on := 14, ground := Ground.data }], guard := none },
  { dst := some 30, op := Op.load 9 (Operand.tmp 29), type := 9, pos := "ref.go:239", after := #[{ on := 15, ground := Ground.data }], guard := none },
  { dst := some 31, op := Op.convert 9 27 (Operand.tmp 30), type := 27, pos := "ref.go:239", after := #[{ on := 16, ground := Ground.data }], guard := none },
  { dst := some 32, op := Op.build 80 #[(0, Operand.tmp 22), (1, Operand.tmp 31)], type := 80, pos := "ref.go:239", after := #[{ on := 8, ground := Ground.data }, { on := 17, ground := Ground.data }], guard := none },
  { dst := some 33, op := Op.buildSlice 47 1 #[(0, Operand.tmp 32)], type := 47, pos := "ref.go:239", after := #[{ on := 18, ground := Ground.data }], guard := none },
  { dst := some 34, op := Op.call { callee := Callee.builtin Builtin.append, args := #[Operand.tmp 14, Operand.tmp 33], argTypes := #[47, 47] }, type := 47, pos := "ref.go:239", after := #[{ on := 0, ground := Ground.data }, { on := 19, ground := Ground.data }], guard := none },
  { dst := some 3, op := Op.assign (Operand.tmp 34), type := 47, pos := "ref.go:239", after := #[{ on := 20, ground := Ground.data }, { on := 20, ground := Ground.chain }, { on := 0, ground := Ground.phase }, { on := 1, ground := Ground.phase }, { on := 2, ground := Ground.phase }, { on := 3, ground := Ground.phase }, { on := 4, ground := Ground.phase }, { on := 5, ground := Ground.phase }, { on := 6, ground := Ground.phase }, { on := 7, ground := Ground.phase }, { on := 8, ground := Ground.phase }, { on := 9, ground := Ground.phase }, { on := 10, ground := Ground.phase }, { on := 11, ground := Ground.phase }, { on := 12, ground := Ground.phase }, { on := 13, ground := Ground.phase }, { on := 14, ground := Ground.phase }, { on := 15, ground := Ground.phase }, { on := 16, ground := Ground.phase }, { on := 17, ground := Ground.phase }, { on := 18, ground := Ground.phase }, { on := 19, ground := Ground.phase }, { on := 20, ground := Ground.phase }], guard := none }]

def rkb5Vals (t g k nl c0 nm cm : Nat) (Am : Option Addr) (key val : ByteArray) : List (Nat × Nat × Value) := [(0, 14, .slice Am nm cm), (1, 15, .pointer (some ⟨t, 0, none⟩)), (2, 16, .pointer (some ⟨t, 0, none⟩)), (3, 17, .pointer (some ⟨t, 0, none⟩)), (4, 18, .slice (some ⟨g, 0, none⟩) nl c0), (5, 19, .int .i64 (k : Int)), (6, 20, .pointer (some ⟨g, k * 2, none⟩)), (7, 21, .pointer (some ⟨g, k * 2, none⟩)), (8, 22, .string key), (9, 23, .pointer (some ⟨t, 0, none⟩)), (10, 24, .pointer (some ⟨t, 0, none⟩)), (11, 25, .pointer (some ⟨t, 0, none⟩)), (12, 26, .slice (some ⟨g, 0, none⟩) nl c0), (13, 27, .int .i64 (k : Int)), (14, 28, .pointer (some ⟨g, k * 2, none⟩)), (15, 29, .pointer (some ⟨g, k * 2 + 1, none⟩)), (16, 30, .string val)]
def rkb5C : List (Nat × Nat) := [(17, 31), (18, 32), (19, 33), (20, 34), (21, 3)]

set_option maxHeartbeats 4000000 in
set_option maxRecDepth 100000 in
theorem rkb5 {Q : Exit → Act → World → Prop} {a0 : Act} {wp : World} (t g k nl c0 nm cm : Nat) (Am : Option Addr) (key val : ByteArray) (S : (Nat → Bool) → (Nat → Value) → World → Prop)
    (hsz : 34 < a0.tmps.size) (in0 : a0.eval (.tmp 0) = .pointer (some ⟨t, 0, none⟩)) (in4 : a0.eval (.tmp 4) = .int .i64 (k : Int))
    (hkl : (k : Int) < (nl : Int)) (hl0 : ∀ f R w, S f R w → w.cell? ⟨t, 0, none⟩ = some (.slice (some ⟨g, 0, none⟩) nl c0) ∧ w.cell? ⟨g, k * 2, none⟩ = some (.string key) ∧ w.cell? ⟨g, k * 2 + 1, none⟩ = some (.string val))
    (hv : ∀ f R w, S f R w → f 4 = false → R 4 = .slice Am nm cm)
    (hc0 : ∀ f R w, S f R w → f 0 = false → ∃ v w', (convert 9 27 (.string val)).run Try.prog w = .ok v w' ∧ S (setF f 0) (setR R 0 v) w')
    (hu0 : ∀ f R w, S f R w → f 0 = true → f 1 = false → ∃ A n c, R 0 = .slice A n c ∧ S (setF f 1) (setR R 1 (.agg #[.string key, .slice A n c, .bool false])) w)
    (hb0 : ∀ f R w, S f R w → f 1 = true → f 2 = false → ∃ A n c, R 1 = .agg #[.string key, .slice A n c, .bool false] ∧ S (setF f 2) (setR R 2 (.slice (some ⟨w.heap.size, 0, none⟩) 1 1)) (w.alloc (.cells #[.string key, .slice A n c, .bool false] 80)))
    (ha0 : ∀ f R w, S f R w → f 2 = true → f 3 = false → ∃ v w', (Builtin.append_ #[47, 47] 47 #[.slice Am nm cm, R 2]).run Try.prog w = .ok v w' ∧ S (setF f 3) (setR R 3 v) w')
    (hm0 : ∀ f R w, S f R w → f 3 = true → f 4 = false → S (setF f 4) (setR R 4 (R 3)) w)
    (hS : S (fun _ => false) (resOf rkb5C fun t => a0.eval (.tmp t)) wp.drew)
    (fin : ∀ a w f, Fr [14, 15, 16, 17, 18, 19, 20, 21, 22, 23, 24, 25, 26, 27, 28, 29, 30, 31, 32, 33, 34, 3] a0 a → (∀ j, j < 5 → f j = true) → S f (resOf rkb5C fun t => a.eval (.tmp t)) w → Q .normal a w) :
    (Code.region 5 opsRkb5 true).wp Try.prog Q a0 wp := by
  refine region_inv (by kernel_rfl) [14, 15, 16, 17, 18, 19, 20, 21, 22, 23, 24, 25, 26, 27, 28, 29, 30, 31, 32, 33, 34, 3] (by kernel_rfl) (by kernel_rfl) (fun t ht => by simp at ht; omega) (GF (rkb5Vals t g k nl c0 nm cm Am key val) rkb5C S) (.start hS) ?_
    (fun L a w hf hall hG => fin a w (flagsOf rkb5C L) hf  (fun j hj => by
      match j, hj with
      | 0, _ => exact (flagsOf_at (C := rkb5C) (j := 0) rfl L).trans (hall 17 (by decide))
      | 1, _ => exact (flagsOf_at (C := rkb5C) (j := 1) rfl L).trans (hall 18 (by decide))
      | 2, _ => exact (flagsOf_at (C := rkb5C) (j := 2) rfl L).trans (hall 19 (by decide))
      | 3, _ => exact (flagsOf_at (C := rkb5C) (j := 3) rfl L).trans (hall 20 (by decide))
      | 4, _ => exact (flagsOf_at (C := rkb5C) (j := 4) rfl L).trans (hall 21 (by decide))
      | n + 5, h => exact absurd h (by omega)) hG.1)
  clear hS fin
  intro ix oo ho L a w hfr hG hLi hdep hcl K hK
  have e0 : a.tmps[0]?.getD undef = .pointer (some ⟨t, 0, none⟩) := by rw [← ev]; exact (hfr.same 0 (by decide)).trans in0
  have e4 : a.tmps[4]?.getD undef = .int .i64 (k : Int) := by rw [← ev]; exact (hfr.same 4 (by decide)).trans in4
  clear in0 in4
  match ix, ho with
  | 0, ho =>
    simp only [opsRkb5, List.getElem?_toArray, List.getElem?_cons_zero, Option.some.injEq] at ho
    subst ho
    rw [if_pos (show Region.wanted _ _ = true from rfl)]
    have hSp := hG.1
    have hf3 : flagsOf rkb5C L 3 = false := (flagsOf_at (C := rkb5C) (j := 3) rfl L).trans (by
      cases hl : L 20 with
      | false => rfl
      | true => exact absurd (hcl 20 _ rfl (hl) ⟨0, .data⟩ (by simp [opsRkb5]) rfl) (by rw [hLi]; decide))
    have hf4 : flagsOf rkb5C L 4 = false := (flagsOf_at (C := rkb5C) (j := 4) rfl L).trans (by
      cases hl : L 21 with
      | false => rfl
      | true => exact absurd (hcl 21 _ rfl (hl) ⟨0, .phase⟩ (by simp [opsRkb5]) rfl) (by rw [hLi]; decide))
    have r3 : a.tmps[3]?.getD undef = resOf rkb5C (fun t => a.eval (.tmp t)) 4 := by rw [← ev]; exact (resOf_at (C := rkb5C) (j := 4) rfl a).symm
    have hfin := hK (.slice Am nm cm) w (hG.quiet 0 0 14 _ rfl (by kernel_rfl) (by kernel_rfl))
    have HK := Lib.hid hfin
    generalize (resOf rkb5C fun t => a.eval (.tmp t)) = R at *
    generalize flagsOf rkb5C L = f at *
    rw [hv _ _ _ hSp hf4] at r3
    clear hkl hl0 hv hc0 hu0 hb0 ha0 hm0
    clear hSp
    clear hG hcl hdep hfr hK hfin hLi 
    go_simp
    exact HK.out
  | 1, ho =>
    simp only [opsRkb5, List.getElem?_toArray, List.getElem?_cons_succ, List.getElem?_cons_zero, Option.some.injEq] at ho
    subst ho
    rw [if_pos (show Region.wanted _ _ = true from rfl)]
    have hfin := hK (.pointer (some ⟨t, 0, none⟩)) w (hG.quiet 1 1 15 _ rfl (by kernel_rfl) (by kernel_rfl))
    have HK := Lib.hid hfin
    clear hG hcl hdep hfr hK hfin hLi 
    go_simp
    exact HK.out
  | 2, ho =>
    simp only [opsRkb5, List.getElem?_toArray, List.getElem?_cons_succ, List.getElem?_cons_zero, Option.some.injEq] at ho
    subst ho
    have x15 : a.tmps[15]?.getD undef = .pointer (some ⟨t, 0, none⟩) := by rw [← ev]; exact hG.val 1 1 15 _ rfl (hdep ⟨1, .data⟩ (by simp) rfl)
    rw [if_pos (show Region.wanted _ _ = true from rfl)]
    have hfin := hK (.pointer (some ⟨t, 0, none⟩)) w (hG.quiet 2 2 16 _ rfl (by kernel_rfl) (by kernel_rfl))
    have HK := Lib.hid hfin
    clear hG hcl hdep hfr hK hfin hLi 
    go_simp
    exact HK.out
  | 3, ho =>
    simp only [opsRkb5, List.getElem?_toArray, List.getElem?_cons_succ, List.getElem?_cons_zero, Option.some.injEq] at ho
    subst ho
    have x16 : a.tmps[16]?.getD undef = .pointer (some ⟨t, 0, none⟩) := by rw [← ev]; exact hG.val 2 2 16 _ rfl (hdep ⟨2, .data⟩ (by simp) rfl)
    rw [if_pos (show Region.wanted _ _ = true from rfl)]
    have hfin := hK (.pointer (some ⟨t, 0, none⟩)) w (hG.quiet 3 3 17 _ rfl (by kernel_rfl) (by kernel_rfl))
    have HK := Lib.hid hfin
    clear hG hcl hdep hfr hK hfin hLi 
    go_simp
    exact HK.out
  | 4, ho =>
    simp only [opsRkb5, List.getElem?_toArray, List.getElem?_cons_succ, List.getElem?_cons_zero, Option.some.injEq] at ho
    subst ho
    have x17 : a.tmps[17]?.getD undef = .pointer (some ⟨t, 0, none⟩) := by rw [← ev]; exact hG.val 3 3 17 _ rfl (hdep ⟨3, .data⟩ (by simp) rfl)
    rw [if_pos (show Region.wanted _ _ = true from rfl)]
    have hSp := hG.1
    have hf1 : flagsOf rkb5C L 1 = false := (flagsOf_at (C := rkb5C) (j := 1) rfl L).trans (by
      cases hl : L 18 with
      | false => rfl
      | true => exact absurd (hcl 6 _ rfl (hcl 7 _ rfl (hcl 8 _ rfl (hcl 18 _ rfl (hl) ⟨8, .data⟩ (by simp [opsRkb5]) rfl) ⟨7, .data⟩ (by simp [opsRkb5]) rfl) ⟨6, .data⟩ (by simp [opsRkb5]) rfl) ⟨4, .data⟩ (by simp [opsRkb5]) rfl) (by rw [hLi]; decide))
    have hf2 : flagsOf rkb5C L 2 = false := (flagsOf_at (C := rkb5C) (j := 2) rfl L).trans (by
      cases hl : L 19 with
      | false => rfl
      | true => exact absurd (hcl 6 _ rfl (hcl 7 _ rfl (hcl 8 _ rfl (hcl 18 _ rfl (hcl 19 _ rfl (hl) ⟨18, .data⟩ (by simp [opsRkb5]) rfl) ⟨8, .data⟩ (by simp [opsRkb5]) rfl) ⟨7, .data⟩ (by simp [opsRkb5]) rfl) ⟨6, .data⟩ (by simp [opsRkb5]) rfl) ⟨4, .data⟩ (by simp [opsRkb5]) rfl) (by rw [hLi]; decide))
    have hf3 : flagsOf rkb5C L 3 = false := (flagsOf_at (C := rkb5C) (j := 3) rfl L).trans (by
      cases hl : L 20 with
      | false => rfl
      | true => exact absurd (hcl 6 _ rfl (hcl 7 _ rfl (hcl 8 _ rfl (hcl 18 _ rfl (hcl 19 _ rfl (hcl 20 _ rfl (hl) ⟨19, .data⟩ (by simp [opsRkb5]) rfl) ⟨18, .data⟩ (by simp [opsRkb5]) rfl) ⟨8, .data⟩ (by simp [opsRkb5]) rfl) ⟨7, .data⟩ (by simp [opsRkb5]) rfl) ⟨6, .data⟩ (by simp [opsRkb5]) rfl) ⟨4, .data⟩ (by simp [opsRkb5]) rfl) (by rw [hLi]; decide))
    have hf4 : flagsOf rkb5C L 4 = false := (flagsOf_at (C := rkb5C) (j := 4) rfl L).trans (by
      cases hl : L 21 with
      | false => rfl
      | true => exact absurd (hcl 21 _ rfl (hl) ⟨4, .phase⟩ (by simp [opsRkb5]) rfl) (by rw [hLi]; decide))
    have hfin := hK (.slice (some ⟨g, 0, none⟩) nl c0) w (hG.quiet 4 4 18 _ rfl (by kernel_rfl) (by kernel_rfl))
    have HK := Lib.hid hfin
    generalize (resOf rkb5C fun t => a.eval (.tmp t)) = R at *
    generalize flagsOf rkb5C L = f at *
    obtain ⟨q1, q2, q3⟩ := hl0 _ _ _ hSp
    clear hkl hl0 hv hc0 hu0 hb0 ha0 hm0 q2 q3
    clear hSp
    clear hG hcl hdep hfr hK hfin hLi 
    go_simp
    exact HK.out
  | 5, ho =>
    simp only [opsRkb5, List.getElem?_toArray, List.getElem?_cons_succ, List.getElem?_cons_zero, Option.some.injEq] at ho
    subst ho
    rw [if_pos (show Region.wanted _ _ = true from rfl)]
    have hfin := hK (.int .i64 (k : Int)) w (hG.quiet 5 5 19 _ rfl (by kernel_rfl) (by kernel_rfl))
    have HK := Lib.hid hfin
    clear hG hcl hdep hfr hK hfin hLi 
    go_simp
    exact HK.out
  | 6, ho =>
    simp only [opsRkb5, List.getElem?_toArray, List.getElem?_cons_succ, List.getElem?_cons_zero, Option.some.injEq] at ho
    subst ho
    have x18 : a.tmps[18]?.getD undef = .slice (some ⟨g, 0, none⟩) nl c0 := by rw [← ev]; exact hG.val 4 4 18 _ rfl (hdep ⟨4, .data⟩ (by simp) rfl)
    have x19 : a.tmps[19]?.getD undef = .int .i64 (k : Int) := by rw [← ev]; exact hG.val 5 5 19 _ rfl (hdep ⟨5, .data⟩ (by simp) rfl)
    rw [if_pos (show Region.wanted _ _ = true from rfl)]
    have hSp := hG.1
    have hf1 : flagsOf rkb5C L 1 = false := (flagsOf_at (C := rkb5C) (j := 1) rfl L).trans (by
      cases hl : L 18 with
      | false => rfl
      | true => exact absurd (hcl 7 _ rfl (hcl 8 _ rfl (hcl 18 _ rfl (hl) ⟨8, .data⟩ (by simp [opsRkb5]) rfl) ⟨7, .data⟩ (by simp [opsRkb5]) rfl) ⟨6, .data⟩ (by simp [opsRkb5]) rfl) (by rw [hLi]; decide))
    have hf2 : flagsOf rkb5C L 2 = false := (flagsOf_at (C := rkb5C) (j := 2) rfl L).trans (by
      cases hl : L 19 with
      | false => rfl
      | true => exact absurd (hcl 7 _ rfl (hcl 8 _ rfl (hcl 18 _ rfl (hcl 19 _ rfl (hl) ⟨18, .data⟩ (by simp [opsRkb5]) rfl) ⟨8, .data⟩ (by simp [opsRkb5]) rfl) ⟨7, .data⟩ (by simp [opsRkb5]) rfl) ⟨6, .data⟩ (by simp [opsRkb5]) rfl) (by rw [hLi]; decide))
    have hf3 : flagsOf rkb5C L 3 = false := (flagsOf_at (C := rkb5C) (j := 3) rfl L).trans (by
      cases hl : L 20 with
      | false => rfl
      | true => exact absurd (hcl 7 _ rfl (hcl 8 _ rfl (hcl 18 _ rfl (hcl 19 _ rfl (hcl 20 _ rfl (hl) ⟨19, .data⟩ (by simp [opsRkb5]) rfl) ⟨18, .data⟩ (by simp [opsRkb5]) rfl) ⟨8, .data⟩ (by simp [opsRkb5]) rfl) ⟨7, .data⟩ (by simp [opsRkb5]) rfl) ⟨6, .data⟩ (by simp [opsRkb5]) rfl) (by rw [hLi]; decide))
    have hf4 : flagsOf rkb5C L 4 = false := (flagsOf_at (C := rkb5C) (j := 4) rfl L).trans (by
      cases hl : L 21 with
      | false => rfl
      | true => exact absurd (hcl 21 _ rfl (hl) ⟨6, .phase⟩ (by simp [opsRkb5]) rfl) (by rw [hLi]; decide))
    have hfin := hK (.pointer (some ⟨g, k * 2, none⟩)) w (hG.quiet 6 6 20 _ rfl (by kernel_rfl) (by kernel_rfl))
    have HK := Lib.hid hfin
    generalize (resOf rkb5C fun t => a.eval (.tmp t)) = R at *
    generalize flagsOf rkb5C L = f at *
    clear hl0 hv hc0 hu0 hb0 ha0 hm0
    clear hSp
    clear hG hcl hdep hfr hK hfin hLi 
    go_simp
    exact HK.out
  | 7, ho =>
    simp only [opsRkb5, List.getElem?_toArray, List.getElem?_cons_succ, List.getElem?_cons_zero, Option.some.injEq] at ho
    subst ho
    have x20 : a.tmps[20]?.getD undef = .pointer (some ⟨g, k * 2, none⟩) := by rw [← ev]; exact hG.val 6 6 20 _ rfl (hdep ⟨6, .data⟩ (by simp) rfl)
    rw [if_pos (show Region.wanted _ _ = true from rfl)]
    have hSp := hG.1
    have hf1 : flagsOf rkb5C L 1 = false := (flagsOf_at (C := rkb5C) (j := 1) rfl L).trans (by
      cases hl : L 18 with
      | false => rfl
      | true => exact absurd (hcl 8 _ rfl (hcl 18 _ rfl (hl) ⟨8, .data⟩ (by simp [opsRkb5]) rfl) ⟨7, .data⟩ (by simp [opsRkb5]) rfl) (by rw [hLi]; decide))
    have hf2 : flagsOf rkb5C L 2 = false := (flagsOf_at (C := rkb5C) (j := 2) rfl L).trans (by
      cases hl : L 19 with
      | false => rfl
      | true => exact absurd (hcl 8 _ rfl (hcl 18 _ rfl (hcl 19 _ rfl (hl) ⟨18, .data⟩ (by simp [opsRkb5]) rfl) ⟨8, .data⟩ (by simp [opsRkb5]) rfl) ⟨7, .data⟩ (by simp [opsRkb5]) rfl) (by rw [hLi]; decide))
    have hf3 : flagsOf rkb5C L 3 = false := (flagsOf_at (C := rkb5C) (j := 3) rfl L).trans (by
      cases hl : L 20 with
      | false => rfl
      | true => exact absurd (hcl 8 _ rfl (hcl 18 _ rfl (hcl 19 _ rfl (hcl 20 _ rfl (hl) ⟨19, .data⟩ (by simp [opsRkb5]) rfl) ⟨18, .data⟩ (by simp [opsRkb5]) rfl) ⟨8, .data⟩ (by simp [opsRkb5]) rfl) ⟨7, .data⟩ (by simp [opsRkb5]) rfl) (by rw [hLi]; decide))
    have hf4 : flagsOf rkb5C L 4 = false := (flagsOf_at (C := rkb5C) (j := 4) rfl L).trans (by
      cases hl : L 21 with
      | false => rfl
      | true => exact absurd (hcl 21 _ rfl (hl) ⟨7, .phase⟩ (by simp [opsRkb5]) rfl) (by rw [hLi]; decide))
    have hfin := hK (.pointer (some ⟨g, k * 2, none⟩)) w (hG.quiet 7 7 21 _ rfl (by kernel_rfl) (by kernel_rfl))
    have HK := Lib.hid hfin
    generalize (resOf rkb5C fun t => a.eval (.tmp t)) = R at *
    generalize flagsOf rkb5C L = f at *
    clear hl0 hv hc0 hu0 hb0 ha0 hm0
    clear hSp
    clear hG hcl hdep hfr hK hfin hLi 
    go_simp
    exact HK.out
  | 8, ho =>
    simp only [opsRkb5, List.getElem?_toArray, List.getElem?_cons_succ, List.getElem?_cons_zero, Option.some.injEq] at ho
    subst ho
    have x21 : a.tmps[21]?.getD undef = .pointer (some ⟨g, k * 2, none⟩) := by rw [← ev]; exact hG.val 7 7 21 _ rfl (hdep ⟨7, .data⟩ (by simp) rfl)
    rw [if_pos (show Region.wanted _ _ = true from rfl)]
    have hSp := hG.1
    have hf1 : flagsOf rkb5C L 1 = false := (flagsOf_at (C := rkb5C) (j := 1) rfl L).trans (by
      cases hl : L 18 with
      | false => rfl
      | true => exact absurd (hcl 18 _ rfl (hl) ⟨8, .data⟩ (by simp [opsRkb5]) rfl) (by rw [hLi]; decide))
    have hf2 : flagsOf rkb5C L 2 = false := (flagsOf_at (C := rkb5C) (j := 2) rfl L).trans (by
      cases hl : L 19 with
      | false => rfl
      | true => exact absurd (hcl 18 _ rfl (hcl 19 _ rfl (hl) ⟨18, .data⟩ (by simp [opsRkb5]) rfl) ⟨8, .data⟩ (by simp [opsRkb5]) rfl) (by rw [hLi]; decide))
    have hf3 : flagsOf rkb5C L 3 = false := (flagsOf_at (C := rkb5C) (j := 3) rfl L).trans (by
      cases hl : L 20 with
      | false => rfl
      | true => exact absurd (hcl 18 _ rfl (hcl 19 _ rfl (hcl 20 _ rfl (hl) ⟨19, .data⟩ (by simp [opsRkb5]) rfl) ⟨18, .data⟩ (by simp [opsRkb5]) rfl) ⟨8, .data⟩ (by simp [opsRkb5]) rfl) (by rw [hLi]; decide))
    have hf4 : flagsOf rkb5C L 4 = false := (flagsOf_at (C := rkb5C) (j := 4) rfl L).trans (by
      cases hl : L 21 with
      | false => rfl
      | true => exact absurd (hcl 21 _ rfl (hl) ⟨8, .phase⟩ (by simp [opsRkb5]) rfl) (by rw [hLi]; decide))
    have hfin := hK (.string key) w (hG.quiet 8 8 22 _ rfl (by kernel_rfl) (by kernel_rfl))
    have HK := Lib.hid hfin
    generalize (resOf rkb5C fun t => a.eval (.tmp t)) = R at *
    generalize flagsOf rkb5C L = f at *
    obtain ⟨q1, q2, q3⟩ := hl0 _ _ _ hSp
    clear hkl hl0 hv hc0 hu0 hb0 ha0 hm0 q1 q3
    clear hSp
    clear hG hcl hdep hfr hK hfin hLi 
    go_simp
    exact HK.out
  | 9, ho =>
    simp only [opsRkb5, List.getElem?_toArray, List.getElem?_cons_succ, List.getElem?_cons_zero, Option.some.injEq] at ho
    subst ho
    rw [if_pos (show Region.wanted _ _ = true from rfl)]
    have hfin := hK (.pointer (some ⟨t, 0, none⟩)) w (hG.quiet 9 9 23 _ rfl (by kernel_rfl) (by kernel_rfl))
    have HK := Lib.hid hfin
    clear hG hcl hdep hfr hK hfin hLi 
    go_simp
    exact HK.out
  | 10, ho =>
    simp only [opsRkb5, List.getElem?_toArray, List.getElem?_cons_succ, List.getElem?_cons_zero, Option.some.injEq] at ho
    subst ho
    have x23 : a.tmps[23]?.getD undef = .pointer (some ⟨t, 0, none⟩) := by rw [← ev]; exact hG.val 9 9 23 _ rfl (hdep ⟨9, .data⟩ (by simp) rfl)
    rw [if_pos (show Region.wanted _ _ = true from rfl)]
    have hfin := hK (.pointer (some ⟨t, 0, none⟩)) w (hG.quiet 10 10 24 _ rfl (by kernel_rfl) (by kernel_rfl))
    have HK := Lib.hid hfin
    clear hG hcl hdep hfr hK hfin hLi 
    go_simp
    exact HK.out
  | 11, ho =>
    simp only [opsRkb5, List.getElem?_toArray, List.getElem?_cons_succ, List.getElem?_cons_zero, Option.some.injEq] at ho
    subst ho
    have x24 : a.tmps[24]?.getD undef = .pointer (some ⟨t, 0, none⟩) := by rw [← ev]; exact hG.val 10 10 24 _ rfl (hdep ⟨10, .data⟩ (by simp) rfl)
    rw [if_pos (show Region.wanted _ _ = true from rfl)]
    have hfin := hK (.pointer (some ⟨t, 0, none⟩)) w (hG.quiet 11 11 25 _ rfl (by kernel_rfl) (by kernel_rfl))
    have HK := Lib.hid hfin
    clear hG hcl hdep hfr hK hfin hLi 
    go_simp
    exact HK.out
  | 12, ho =>
    simp only [opsRkb5, List.getElem?_toArray, List.getElem?_cons_succ, List.getElem?_cons_zero, Option.some.injEq] at ho
    subst ho
    have x25 : a.tmps[25]?.getD undef = .pointer (some ⟨t, 0, none⟩) := by rw [← ev]; exact hG.val 11 11 25 _ rfl (hdep ⟨11, .data⟩ (by simp) rfl)
    rw [if_pos (show Region.wanted _ _ = true from rfl)]
    have hSp := hG.1
    have hf0 : flagsOf rkb5C L 0 = false := (flagsOf_at (C := rkb5C) (j := 0) rfl L).trans (by
      cases hl : L 17 with
      | false => rfl
      | true => exact absurd (hcl 14 _ rfl (hcl 15 _ rfl (hcl 16 _ rfl (hcl 17 _ rfl (hl) ⟨16, .data⟩ (by simp [opsRkb5]) rfl) ⟨15, .data⟩ (by simp [opsRkb5]) rfl) ⟨14, .data⟩ (by simp [opsRkb5]) rfl) ⟨12, .data⟩ (by simp [opsRkb5]) rfl) (by rw [hLi]; decide))
    have hf1 : flagsOf rkb5C L 1 = false := (flagsOf_at (C := rkb5C) (j := 1) rfl L).trans (by
      cases hl : L 18 with
      | false => rfl
      | true => exact absurd (hcl 14 _ rfl (hcl 15 _ rfl (hcl 16 _ rfl (hcl 17 _ rfl (hcl 18 _ rfl (hl) ⟨17, .data⟩ (by simp [opsRkb5]) rfl) ⟨16, .data⟩ (by simp [opsRkb5]) rfl) ⟨15, .data⟩ (by simp [opsRkb5]) rfl) ⟨14, .data⟩ (by simp [opsRkb5]) rfl) ⟨12, .data⟩ (by simp [opsRkb5]) rfl) (by rw [hLi]; decide))
    have hf2 : flagsOf rkb5C L 2 = false := (flagsOf_at (C := rkb5C) (j := 2) rfl L).trans (by
      cases hl : L 19 with
      | false => rfl
      | true => exact absurd (hcl 14 _ rfl (hcl 15 _ rfl (hcl 16 _ rfl (hcl 17 _ rfl (hcl 18 _ rfl (hcl 19 _ rfl (hl) ⟨18, .data⟩ (by simp [opsRkb5]) rfl) ⟨17, .data⟩ (by simp [opsRkb5]) rfl) ⟨16, .data⟩ (by simp [opsRkb5]) rfl) ⟨15, .data⟩ (by simp [opsRkb5]) rfl) ⟨14, .data⟩ (by simp [opsRkb5]) rfl) ⟨12, .data⟩ (by simp [opsRkb5]) rfl) (by rw [hLi]; decide))
    have hf3 : flagsOf rkb5C L 3 = false := (flagsOf_at (C := rkb5C) (j := 3) rfl L).trans (by
      cases hl : L 20 with
      | false => rfl
      | true => exact absurd (hcl 14 _ rfl (hcl 15 _ rfl (hcl 16 _ rfl (hcl 17 _ rfl (hcl 18 _ rfl (hcl 19 _ rfl (hcl 20 _ rfl (hl) ⟨19, .data⟩ (by simp [opsRkb5]) rfl) ⟨18, .data⟩ (by simp [opsRkb5]) rfl) ⟨17, .data⟩ (by simp [opsRkb5]) rfl) ⟨16, .data⟩ (by simp [opsRkb5]) rfl) ⟨15, .data⟩ (by simp [opsRkb5]) rfl) ⟨14, .data⟩ (by simp [opsRkb5]) rfl) ⟨12, .data⟩ (by simp [opsRkb5]) rfl) (by rw [hLi]; decide))
    have hf4 : flagsOf rkb5C L 4 = false := (flagsOf_at (C := rkb5C) (j := 4) rfl L).trans (by
      cases hl : L 21 with
      | false => rfl
      | true => exact absurd (hcl 21 _ rfl (hl) ⟨12, .phase⟩ (by simp [opsRkb5]) rfl) (by rw [hLi]; decide))
    have hfin := hK (.slice (some ⟨g, 0, none⟩) nl c0) w (hG.quiet 12 12 26 _ rfl (by kernel_rfl) (by kernel_rfl))
    have HK := Lib.hid hfin
    generalize (resOf rkb5C fun t => a.eval (.tmp t)) = R at *
    generalize flagsOf rkb5C L = f at *
    obtain ⟨q1, q2, q3⟩ := hl0 _ _ _ hSp
    clear hkl hl0 hv hc0 hu0 hb0 ha0 hm0 q2 q3
    clear hSp
    clear hG hcl hdep hfr hK hfin hLi 
    go_simp
    exact HK.out
  | 13, ho =>
    simp only [opsRkb5, List.getElem?_toArray, List.getElem?_cons_succ, List.getElem?_cons_zero, Option.some.injEq] at ho
    subst ho
    rw [if_pos (show Region.wanted _ _ = true from rfl)]
    have hfin := hK (.int .i64 (k : Int)) w (hG.quiet 13 13 27 _ rfl (by kernel_rfl) (by kernel_rfl))
    have HK := Lib.hid hfin
    clear hG hcl hdep hfr hK hfin hLi 
    go_simp
    exact HK.out
  | 14, ho =>
    simp only [opsRkb5, List.getElem?_toArray, List.getElem?_cons_succ, List.getElem?_cons_zero, Option.some.injEq] at ho
    subst ho
    have x26 : a.tmps[26]?.getD undef = .slice (some ⟨g, 0, none⟩) nl c0 := by rw [← ev]; exact hG.val 12 12 26 _ rfl (hdep ⟨12, .data⟩ (by simp) rfl)
    have x27 : a.tmps[27]?.getD undef = .int .i64 (k : Int) := by rw [← ev]; exact hG.val 13 13 27 _ rfl (hdep ⟨13, .data⟩ (by simp) rfl)
    rw [if_pos (show Region.wanted _ _ = true from rfl)]
    have hSp := hG.1
    have hf0 : flagsOf rkb5C L 0 = false := (flagsOf_at (C := rkb5C) (j := 0) rfl L).trans (by
      cases hl : L 17 with
      | false => rfl
      | true => exact absurd (hcl 15 _ rfl (hcl 16 _ rfl (hcl 17 _ rfl (hl) ⟨16, .data⟩ (by simp [opsRkb5]) rfl) ⟨15, .data⟩ (by simp [opsRkb5]) rfl) ⟨14, .data⟩ (by simp [opsRkb5]) rfl) (by rw [hLi]; decide))
    have hf1 : flagsOf rkb5C L 1 = false := (flagsOf_at (C := rkb5C) (j := 1) rfl L).trans (by
      cases hl : L 18 with
      | false => rfl
      | true => exact absurd (hcl 15 _ rfl (hcl 16 _ rfl (hcl 17 _ rfl (hcl 18 _ rfl (hl) ⟨17, .data⟩ (by simp [opsRkb5]) rfl) ⟨16, .data⟩ (by simp [opsRkb5]) rfl) ⟨15, .data⟩ (by simp [opsRkb5]) rfl) ⟨14, .data⟩ (by simp [opsRkb5]) rfl) (by rw [hLi]; decide))
    have hf2 : flagsOf rkb5C L 2 = false := (flagsOf_at (C := rkb5C) (j := 2) rfl L).trans (by
      cases hl : L 19 with
      | false => rfl
      | true => exact absurd (hcl 15 _ rfl (hcl 16 _ rfl (hcl 17 _ rfl (hcl 18 _ rfl (hcl 19 _ rfl (hl) ⟨18, .data⟩ (by simp [opsRkb5]) rfl) ⟨17, .data⟩ (by simp [opsRkb5]) rfl) ⟨16, .data⟩ (by simp [opsRkb5]) rfl) ⟨15, .data⟩ (by simp [opsRkb5]) rfl) ⟨14, .data⟩ (by simp [opsRkb5]) rfl) (by rw [hLi]; decide))
    have hf3 : flagsOf rkb5C L 3 = false := (flagsOf_at (C := rkb5C) (j := 3) rfl L).trans (by
      cases hl : L 20 with
      | false => rfl
      | true => exact absurd (hcl 15 _ rfl (hcl 16 _ rfl (hcl 17 _ rfl (hcl 18 _ rfl (hcl 19 _ rfl (hcl 20 _ rfl (hl) ⟨19, .data⟩ (by simp [opsRkb5]) rfl) ⟨18, .data⟩ (by simp [opsRkb5]) rfl) ⟨17, .data⟩ (by simp [opsRkb5]) rfl) ⟨16, .data⟩ (by simp [opsRkb5]) rfl) ⟨15, .data⟩ (by simp [opsRkb5]) rfl) ⟨14, .data⟩ (by simp [opsRkb5]) rfl) (by rw [hLi]; decide))
    have hf4 : flagsOf rkb5C L 4 = false := (flagsOf_at (C := rkb5C) (j := 4) rfl L).trans (by
      cases hl : L 21 with
      | false => rfl
      | true => exact absurd (hcl 21 _ rfl (hl) ⟨14, .phase⟩ (by simp [opsRkb5]) rfl) (by rw [hLi]; decide))
    have hfin := hK (.pointer (some ⟨g, k * 2, none⟩)) w (hG.quiet 14 14 28 _ rfl (by kernel_rfl) (by kernel_rfl))
    have HK := Lib.hid hfin
    generalize (resOf rkb5C fun t => a.eval (.tmp t)) = R at *
    generalize flagsOf rkb5C L = f at *
    clear hl0 hv hc0 hu0 hb0 ha0 hm0
    clear hSp
    clear hG hcl hdep hfr hK hfin hLi 
    go_simp
    exact HK.out
  | 15, ho =>
    simp only [opsRkb5, List.getElem?_toArray, List.getElem?_cons_succ, List.getElem?_cons_zero, Option.some.injEq] at ho
    subst ho
    have x28 : a.tmps[28]?.getD undef = .pointer (some ⟨g, k * 2, none⟩) := by rw [← ev]; exact hG.val 14 14 28 _ rfl (hdep ⟨14, .data⟩ (by simp) rfl)
    rw [if_pos (show Region.wanted _ _ = true from rfl)]
    have hSp := hG.1
    have hf0 : flagsOf rkb5C L 0 = false := (flagsOf_at (C := rkb5C) (j := 0) rfl L).trans (by
      cases hl : L 17 with
      | false => rfl
      | true => exact absurd (hcl 16 _ rfl (hcl 17 _ rfl (hl) ⟨16, .data⟩ (by simp [opsRkb5]) rfl) ⟨15, .data⟩ (by simp [opsRkb5]) rfl) (by rw [hLi]; decide))
    have hf1 : flagsOf rkb5C L 1 = false := (flagsOf_at (C := rkb5C) (j := 1) rfl L).trans (by
      cases hl : L 18 with
      | false => rfl
      | true => exact absurd (hcl 16 _ rfl (hcl 17 _ rfl (hcl 18 _ rfl (hl) ⟨17, .data⟩ (by simp [opsRkb5]) rfl) ⟨16, .data⟩ (by simp [opsRkb5]) rfl) ⟨15, .data⟩ (by simp [opsRkb5]) rfl) (by rw [hLi]; decide))
    have hf2 : flagsOf rkb5C L 2 = false := (flagsOf_at (C := rkb5C) (j := 2) rfl L).trans (by
      cases hl : L 19 with
      | false => rfl
      | true => exact absurd (hcl 16 _ rfl (hcl 17 _ rfl (hcl 18 _ rfl (hcl 19 _ rfl (hl) ⟨18, .data⟩ (by simp [opsRkb5]) rfl) ⟨17, .data⟩ (by simp [opsRkb5]) rfl) ⟨16, .data⟩ (by simp [opsRkb5]) rfl) ⟨15, .data⟩ (by simp [opsRkb5]) rfl) (by rw [hLi]; decide))
    have hf3 : flagsOf rkb5C L 3 = false := (flagsOf_at (C := rkb5C) (j := 3) rfl L).trans (by
      cases hl : L 20 with
      | false => rfl
      | true => exact absurd (hcl 16 _ rfl (hcl 17 _ rfl (hcl 18 _ rfl (hcl 19 _ rfl (hcl 20 _ rfl (hl) ⟨19, .data⟩ (by simp [opsRkb5]) rfl) ⟨18, .data⟩ (by simp [opsRkb5]) rfl) ⟨17, .data⟩ (by simp [opsRkb5]) rfl) ⟨16, .data⟩ (by simp [opsRkb5]) rfl) ⟨15, .data⟩ (by simp [opsRkb5]) rfl) (by rw [hLi]; decide))
    have hf4 : flagsOf rkb5C L 4 = false := (flagsOf_at (C := rkb5C) (j := 4) rfl L).trans (by
      cases hl : L 21 with
      | false => rfl
      | true => exact absurd (hcl 21 _ rfl (hl) ⟨15, .phase⟩ (by simp [opsRkb5]) rfl) (by rw [hLi]; decide))
    have hfin := hK (.pointer (some ⟨g, k * 2 + 1, none⟩)) w (hG.quiet 15 15 29 _ rfl (by kernel_rfl) (by kernel_rfl))
    have HK := Lib.hid hfin
    generalize (resOf rkb5C fun t => a.eval (.tmp t)) = R at *
    generalize flagsOf rkb5C L = f at *
    clear hl0 hv hc0 hu0 hb0 ha0 hm0
    clear hSp
    clear hG hcl hdep hfr hK hfin hLi 
    go_simp
    exact HK.out
  | 16, ho =>
    simp only [opsRkb5, List.getElem?_toArray, List.getElem?_cons_succ, List.getElem?_cons_zero, Option.some.injEq] at ho
    subst ho
    have x29 : a.tmps[29]?.getD undef = .pointer (some ⟨g, k * 2 + 1, none⟩) := by rw [← ev]; exact hG.val 15 15 29 _ rfl (hdep ⟨15, .data⟩ (by simp) rfl)
    rw [if_pos (show Region.wanted _ _ = true from rfl)]
    have hSp := hG.1
    have hf0 : flagsOf rkb5C L 0 = false := (flagsOf_at (C := rkb5C) (j := 0) rfl L).trans (by
      cases hl : L 17 with
      | false => rfl
      | true => exact absurd (hcl 17 _ rfl (hl) ⟨16, .data⟩ (by simp [opsRkb5]) rfl) (by rw [hLi]; decide))
    have hf1 : flagsOf rkb5C L 1 = false := (flagsOf_at (C := rkb5C) (j := 1) rfl L).trans (by
      cases hl : L 18 with
      | false => rfl
      | true => exact absurd (hcl 17 _ rfl (hcl 18 _ rfl (hl) ⟨17, .data⟩ (by simp [opsRkb5]) rfl) ⟨16, .data⟩ (by simp [opsRkb5]) rfl) (by rw [hLi]; decide))
    have hf2 : flagsOf rkb5C L 2 = false := (flagsOf_at (C := rkb5C) (j := 2) rfl L).trans (by
      cases hl : L 19 with
      | false => rfl
      | true => exact absurd (hcl 17 _ rfl (hcl 18 _ rfl (hcl 19 _ rfl (hl) ⟨18, .data⟩ (by simp [opsRkb5]) rfl) ⟨17, .data⟩ (by simp [opsRkb5]) rfl) ⟨16, .data⟩ (by simp [opsRkb5]) rfl) (by rw [hLi]; decide))
    have hf3 : flagsOf rkb5C L 3 = false := (flagsOf_at (C := rkb5C) (j := 3) rfl L).trans (by
      cases hl : L 20 with
      | false => rfl
      | true => exact absurd (hcl 17 _ rfl (hcl 18 _ rfl (hcl 19 _ rfl (hcl 20 _ rfl (hl) ⟨19, .data⟩ (by simp [opsRkb5]) rfl) ⟨18, .data⟩ (by simp [opsRkb5]) rfl) ⟨17, .data⟩ (by simp [opsRkb5]) rfl) ⟨16, .data⟩ (by simp [opsRkb5]) rfl) (by rw [hLi]; decide))
    have hf4 : flagsOf rkb5C L 4 = false := (flagsOf_at (C := rkb5C) (j := 4) rfl L).trans (by
      cases hl : L 21 with
      | false => rfl
      | true => exact absurd (hcl 21 _ rfl (hl) ⟨16, .phase⟩ (by simp [opsRkb5]) rfl) (by rw [hLi]; decide))
    have hfin := hK (.string val) w (hG.quiet 16 16 30 _ rfl (by kernel_rfl) (by kernel_rfl))
    have HK := Lib.hid hfin
    generalize (resOf rkb5C fun t => a.eval (.tmp t)) = R at *
    generalize flagsOf rkb5C L = f at *
    obtain ⟨q1, q2, q3⟩ := hl0 _ _ _ hSp
    clear hkl hl0 hv hc0 hu0 hb0 ha0 hm0 q1 q2
    clear hSp
    clear hG hcl hdep hfr hK hfin hLi 
    go_simp
    exact HK.out
  | 17, ho =>
    simp only [opsRkb5, List.getElem?_toArray, List.getElem?_cons_succ, List.getElem?_cons_zero, Option.some.injEq] at ho
    subst ho
    have x30 : a.tmps[30]?.getD undef = .string val := by rw [← ev]; exact hG.val 16 16 30 _ rfl (hdep ⟨16, .data⟩ (by simp) rfl)
    rw [if_pos (show Region.wanted _ _ = true from rfl)]
    have hSj := hG.1
    have hf0 : flagsOf rkb5C L 0 = false := (flagsOf_at (C := rkb5C) (j := 0) rfl L).trans hLi
    have hf1 : flagsOf rkb5C L 1 = false := (flagsOf_at (C := rkb5C) (j := 1) rfl L).trans (by
      cases hl : L 18 with
      | false => rfl
      | true => exact absurd (hcl 18 _ rfl (hl) ⟨17, .data⟩ (by simp [opsRkb5]) rfl) (by rw [hLi]; decide))
    have hf2 : flagsOf rkb5C L 2 = false := (flagsOf_at (C := rkb5C) (j := 2) rfl L).trans (by
      cases hl : L 19 with
      | false => rfl
      | true => exact absurd (hcl 18 _ rfl (hcl 19 _ rfl (hl) ⟨18, .data⟩ (by simp [opsRkb5]) rfl) ⟨17, .data⟩ (by simp [opsRkb5]) rfl) (by rw [hLi]; decide))
    have hf3 : flagsOf rkb5C L 3 = false := (flagsOf_at (C := rkb5C) (j := 3) rfl L).trans (by
      cases hl : L 20 with
      | false => rfl
      | true => exact absurd (hcl 18 _ rfl (hcl 19 _ rfl (hcl 20 _ rfl (hl) ⟨19, .data⟩ (by simp [opsRkb5]) rfl) ⟨18, .data⟩ (by simp [opsRkb5]) rfl) ⟨17, .data⟩ (by simp [opsRkb5]) rfl) (by rw [hLi]; decide))
    have hf4 : flagsOf rkb5C L 4 = false := (flagsOf_at (C := rkb5C) (j := 4) rfl L).trans (by
      cases hl : L 21 with
      | false => rfl
      | true => exact absurd (hcl 21 _ rfl (hl) ⟨17, .phase⟩ (by simp [opsRkb5]) rfl) (by rw [hLi]; decide))
    have hfin := fun v w' hs => hK v w' (hG.call 0 (17, 31) rfl (by kernel_rfl) v w' hs)
    have HK := Lib.hid hfin
    generalize (resOf rkb5C fun t => a.eval (.tmp t)) = R at *
    generalize flagsOf rkb5C L = f at *
    clear hG hcl hdep hfr hK hfin hLi
    obtain ⟨v, w', hrun, hs⟩ := hc0 _ _ _ hSj hf0
    have hk := HK.out _ _ hs
    have HK2 := Lib.hid hk
    clear hs hk HK hSj hkl hl0 hv hc0 hu0 hb0 ha0 hm0
    go_simp
    exact HK2.out
  | 18, ho =>
    simp only [opsRkb5, List.getElem?_toArray, List.getElem?_cons_succ, List.getElem?_cons_zero, Option.some.injEq] at ho
    subst ho
    have x22 : a.tmps[22]?.getD undef = .string key := by rw [← ev]; exact hG.val 8 8 22 _ rfl (hdep ⟨8, .data⟩ (by simp) rfl)
    rw [if_pos (show Region.wanted _ _ = true from rfl)]
    have hSj := hG.1
    have hf0 : flagsOf rkb5C L 0 = true := (flagsOf_at (C := rkb5C) (j := 0) rfl L).trans (hdep ⟨17, .data⟩ (by simp) rfl)
    have hf1 : flagsOf rkb5C L 1 = false := (flagsOf_at (C := rkb5C) (j := 1) rfl L).trans hLi
    have hf2 : flagsOf rkb5C L 2 = false := (flagsOf_at (C := rkb5C) (j := 2) rfl L).trans (by
      cases hl : L 19 with
      | false => rfl
      | true => exact absurd (hcl 19 _ rfl (hl) ⟨18, .data⟩ (by simp [opsRkb5]) rfl) (by rw [hLi]; decide))
    have hf3 : flagsOf rkb5C L 3 = false := (flagsOf_at (C := rkb5C) (j := 3) rfl L).trans (by
      cases hl : L 20 with
      | false => rfl
      | true => exact absurd (hcl 19 _ rfl (hcl 20 _ rfl (hl) ⟨19, .data⟩ (by simp [opsRkb5]) rfl) ⟨18, .data⟩ (by simp [opsRkb5]) rfl) (by rw [hLi]; decide))
    have hf4 : flagsOf rkb5C L 4 = false := (flagsOf_at (C := rkb5C) (j := 4) rfl L).trans (by
      cases hl : L 21 with
      | false => rfl
      | true => exact absurd (hcl 21 _ rfl (hl) ⟨18, .phase⟩ (by simp [opsRkb5]) rfl) (by rw [hLi]; decide))
    have r31 : a.tmps[31]?.getD undef = resOf rkb5C (fun t => a.eval (.tmp t)) 0 := by rw [← ev]; exact (resOf_at (C := rkb5C) (j := 0) rfl a).symm
    have hfin := fun v w' hs => hK v w' (hG.call 1 (18, 32) rfl (by kernel_rfl) v w' hs)
    have HK := Lib.hid hfin
    generalize (resOf rkb5C fun t => a.eval (.tmp t)) = R at *
    generalize flagsOf rkb5C L = f at *
    clear hG hcl hdep hfr hK hfin hLi
    obtain ⟨A, n, c, q1, hs⟩ := hu0 _ _ _ hSj hf0 hf1
    rw [q1] at r31
    have hk := HK.out _ _ hs
    have HK2 := Lib.hid hk
    clear hs hk HK hSj hkl hl0 hv hc0 hu0 hb0 ha0 hm0
    go_simp
    exact HK2.out
  | 19, ho =>
    simp only [opsRkb5, List.getElem?_toArray, List.getElem?_cons_succ, List.getElem?_cons_zero, Option.some.injEq] at ho
    subst ho
    rw [if_pos (show Region.wanted _ _ = true from rfl)]
    have hSj := hG.1
    have hf0 : flagsOf rkb5C L 0 = true := (flagsOf_at (C := rkb5C) (j := 0) rfl L).trans (hcl 18 _ rfl (hdep ⟨18, .data⟩ (by simp) rfl) ⟨17, .data⟩ (by simp [opsRkb5]) rfl)
    have hf1 : flagsOf rkb5C L 1 = true := (flagsOf_at (C := rkb5C) (j := 1) rfl L).trans (hdep ⟨18, .data⟩ (by simp) rfl)
    have hf2 : flagsOf rkb5C L 2 = false := (flagsOf_at (C := rkb5C) (j := 2) rfl L).trans hLi
    have hf3 : flagsOf rkb5C L 3 = false := (flagsOf_at (C := rkb5C) (j := 3) rfl L).trans (by
      cases hl : L 20 with
      | false => rfl
      | true => exact absurd (hcl 20 _ rfl (hl) ⟨19, .data⟩ (by simp [opsRkb5]) rfl) (by rw [hLi]; decide))
    have hf4 : flagsOf rkb5C L 4 = false := (flagsOf_at (C := rkb5C) (j := 4) rfl L).trans (by
      cases hl : L 21 with
      | false => rfl
      | true => exact absurd (hcl 21 _ rfl (hl) ⟨19, .phase⟩ (by simp [opsRkb5]) rfl) (by rw [hLi]; decide))
    have r32 : a.tmps[32]?.getD undef = resOf rkb5C (fun t => a.eval (.tmp t)) 1 := by rw [← ev]; exact (resOf_at (C := rkb5C) (j := 1) rfl a).symm
    have hfin := fun v w' hs => hK v w' (hG.call 2 (19, 33) rfl (by kernel_rfl) v w' hs)
    have HK := Lib.hid hfin
    generalize (resOf rkb5C fun t => a.eval (.tmp t)) = R at *
    generalize flagsOf rkb5C L = f at *
    clear hG hcl hdep hfr hK hfin hLi
    obtain ⟨A, n, c, q1, hs⟩ := hb0 _ _ _ hSj hf1 hf2
    rw [q1] at r32
    have hk := HK.out _ _ hs
    have HK2 := Lib.hid hk
    clear hs hk HK hSj hkl hl0 hv hc0 hu0 hb0 ha0 hm0
    go_simp
    exact HK2.out
  | 20, ho =>
    simp only [opsRkb5, List.getElem?_toArray, List.getElem?_cons_succ, List.getElem?_cons_zero, Option.some.injEq] at ho
    subst ho
    have x14 : a.tmps[14]?.getD undef = .slice Am nm cm := by rw [← ev]; exact hG.val 0 0 14 _ rfl (hdep ⟨0, .data⟩ (by simp) rfl)
    rw [if_pos (show Region.wanted _ _ = true from rfl)]
    have hSj := hG.1
    have hf0 : flagsOf rkb5C L 0 = true := (flagsOf_at (C := rkb5C) (j := 0) rfl L).trans (hcl 18 _ rfl (hcl 19 _ rfl (hdep ⟨19, .data⟩ (by simp) rfl) ⟨18, .data⟩ (by simp [opsRkb5]) rfl) ⟨17, .data⟩ (by simp [opsRkb5]) rfl)
    have hf1 : flagsOf rkb5C L 1 = true := (flagsOf_at (C := rkb5C) (j := 1) rfl L).trans (hcl 19 _ rfl (hdep ⟨19, .data⟩ (by simp) rfl) ⟨18, .data⟩ (by simp [opsRkb5]) rfl)
    have hf2 : flagsOf rkb5C L 2 = true := (flagsOf_at (C := rkb5C) (j := 2) rfl L).trans (hdep ⟨19, .data⟩ (by simp) rfl)
    have hf3 : flagsOf rkb5C L 3 = false := (flagsOf_at (C := rkb5C) (j := 3) rfl L).trans hLi
    have hf4 : flagsOf rkb5C L 4 = false := (flagsOf_at (C := rkb5C) (j := 4) rfl L).trans (by
      cases hl : L 21 with
      | false => rfl
      | true => exact absurd (hcl 21 _ rfl (hl) ⟨20, .data⟩ (by simp [opsRkb5]) rfl) (by rw [hLi]; decide))
    have r33 : a.tmps[33]?.getD undef = resOf rkb5C (fun t => a.eval (.tmp t)) 2 := by rw [← ev]; exact (resOf_at (C := rkb5C) (j := 2) rfl a).symm
    have hfin := fun v w' hs => hK v w' (hG.call 3 (20, 34) rfl (by kernel_rfl) v w' hs)
    have HK := Lib.hid hfin
    generalize (resOf rkb5C fun t => a.eval (.tmp t)) = R at *
    generalize flagsOf rkb5C L = f at *
    clear hG hcl hdep hfr hK hfin hLi
    obtain ⟨v, w', hrun, hs⟩ := ha0 _ _ _ hSj hf2 hf3
    refine oper_append_run (.tmp 14) (.tmp 33) 47 rfl w _ _ (by rw [ev]; exact x14) (by rw [ev]; exact r33) v w' hrun (HK.out v w' hs)
  | 21, ho =>
    simp only [opsRkb5, List.getElem?_toArray, List.getElem?_cons_succ, List.getElem?_cons_zero, Option.some.injEq] at ho
    subst ho
    rw [if_pos (show Region.wanted _ _ = true from rfl)]
    have hSj := hG.1
    have hf0 : flagsOf rkb5C L 0 = true := (flagsOf_at (C := rkb5C) (j := 0) rfl L).trans (hdep ⟨17, .phase⟩ (by simp) rfl)
    have hf1 : flagsOf rkb5C L 1 = true := (flagsOf_at (C := rkb5C) (j := 1) rfl L).trans (hdep ⟨18, .phase⟩ (by simp) rfl)
    have hf2 : flagsOf rkb5C L 2 = true := (flagsOf_at (C := rkb5C) (j := 2) rfl L).trans (hdep ⟨19, .phase⟩ (by simp) rfl)
    have hf3 : flagsOf rkb5C L 3 = true := (flagsOf_at (C := rkb5C) (j := 3) rfl L).trans (hdep ⟨20, .data⟩ (by simp) rfl)
    have hf4 : flagsOf rkb5C L 4 = false := (flagsOf_at (C := rkb5C) (j := 4) rfl L).trans hLi
    have r34 : a.tmps[34]?.getD undef = resOf rkb5C (fun t => a.eval (.tmp t)) 3 := by rw [← ev]; exact (resOf_at (C := rkb5C) (j := 3) rfl a).symm
    have hfin := fun v w' hs => hK v w' (hG.call 4 (21, 3) rfl (by kernel_rfl) v w' hs)
    have HK := Lib.hid hfin
    generalize (resOf rkb5C fun t => a.eval (.tmp t)) = R at *
    generalize flagsOf rkb5C L = f at *
    clear hG hcl hdep hfr hK hfin hLi
    have hs := hm0 _ _ _ hSj hf3 hf4
    have hk := HK.out _ _ hs
    have HK2 := Lib.hid hk
    clear hs hk HK hSj hkl hl0 hv hc0 hu0 hb0 ha0 hm0
    go_simp
    exact HK2.out
  | n + 22, ho => exact absurd (Array.getElem?_eq_some_iff.1 ho).1 (by show ¬ n + 22 < 22; omega)
end Go.Proofs.Ytgpkdnnlgafenaa

namespace Go.Proofs.Ytgpkdnnlgafenaa
open Go.RowKit Kv
set_option linter.unusedVariables false
set_option maxRecDepth 20000

/-- A slice of bytes whose block is a block of bytes. -/
def VSee (w : World) (v : Value) (l : List UInt8) : Prop :=
  ∃ A c, v = .slice A l.length c ∧ l.length ≤ c ∧ c ≤ maxLen ∧ (l ≠ [] → ∃ g o C fr, A = some ⟨g, o, none⟩ ∧ w.heap[g]? = some (.cells C 5 fr) ∧ ∀ j (h : j < l.length), w.cell? ⟨g, o + j, none⟩ = some (.int .u8 (l[j].toNat : Int)))
theorem VSee.only {w w' : World} {v : Value} {l : List UInt8} {S : List Nat} (h : VSee w v l) (ho : Only S w w') (hS : ∀ b, b ∈ S → NoB w b) : VSee w' v l := by
  obtain ⟨A, c, e, h1, h2, h3⟩ := h
  refine ⟨A, c, e, h1, h2, fun hn => ?_⟩
  obtain ⟨g, o, C, fr, e2, hg, hc⟩ := h3 hn
  have hlt := (Array.getElem?_eq_some_iff.1 hg).1
  have hm : g ∉ S := fun hm => hS g hm C fr hg
  exact ⟨g, o, C, fr, e2, (ho.block g hlt hm).trans hg, fun j hj => (ho.cell (a := ⟨g, o + j, none⟩) hlt hm).trans (hc j hj)⟩
theorem VSee.below {w w' : World} {v : Value} {l : List UInt8} (h : VSee w v l) (hb : Below w.heap.size w w') : VSee w' v l := h.only (S := []) (Only.of_below hb) (fun b hb => by cases hb)
theorem VSee.of_bytes {w : World} {g c : Nat} {l : List UInt8} (h : ByteRow w g 5 l) (h1 : l.length ≤ c) (h2 : c ≤ maxLen) : VSee w (.slice (some ⟨g, 0, none⟩) l.length c) l :=
  ⟨_, c, rfl, h1, h2, fun _ => by
    have hc := h.cell
    obtain ⟨C, hC, _⟩ := h
    exact ⟨g, 0, C, _, rfl, hC, fun j hj => by rw [Nat.zero_add]; exact hc j hj⟩⟩
theorem VSee.nil (w : World) : VSee w (.slice none 0 0) [] := ⟨none, 0, rfl, Nat.le_refl _, Nat.zero_le _, fun h => absurd rfl h⟩
theorem VSee.of_row {w : World} {v : Value} {l : List UInt8} (h : BRow w v l) : VSee w v l := by
  obtain ⟨A, c, rfl, h1, h2⟩ := h.shape
  refine ⟨A, c, rfl, h1, h2, fun hn => ?_⟩
  have hs := h.sees hn
  obtain ⟨g, o, e, hg, hc⟩ := hs
  rcases h.2 with ⟨hv, hl⟩ | ⟨g', cap, cur, hv, _, hg', _⟩
  · exfalso
    have hl' : l.length = 0 := hl
    exact hn (List.eq_nil_of_length_eq_zero hl')
  · injection hv with hA _ _
    rw [e] at hA
    injection hA with hA
    injection hA with e1 e2 _
    subst e1
    exact ⟨g, o, _, _, e, hg', hc⟩
structure RDRow (w : World) (v : Value) (D : List DEnt) : Prop where
  row : ORow w v D
  vals : ∀ e ∈ D, VSee w e.v e.l
theorem RDRow.nil (w : World) : RDRow w (.slice none 0 0) [] := ⟨World.ownsRow_nil _ 0 _ _, fun e he => by cases he⟩
theorem RDRow.noB {w : World} {v : Value} {D : List DEnt} (h : RDRow w v D) : ∀ b, b ∈ blk v → NoB w b := fun b hb => by
  rcases h.row.2 with ⟨rfl, _⟩ | ⟨g, cap, cur, rfl, _, hg, _⟩
  · simp [blk, Value.ownBlock] at hb
  · simp [blk, Value.ownBlock] at hb
    subst hb
    exact .of_cells hg (by decide)
theorem RDRow.only {w w' : World} {v : Value} {D : List DEnt} {S : List Nat} (h : RDRow w v D) (ho : Only S w w') (hf : Far w (blk v) S) : RDRow w' v D :=
  ⟨own_only h.row ho (fun k hk hS => (hf k hS).1 (mem_blk.2 hk)), fun e he => (h.vals e he).only ho (fun b hb => (hf b hb).2)⟩
theorem RDRow.below {w w' : World} {v : Value} {D : List DEnt} (h : RDRow w v D) (hb : Below w.heap.size w w') : RDRow w' v D := h.only (S := []) (Only.of_below hb) (Far.nil _ _)
/-- Such a row is Puts for a call. -/
theorem RDRow.puts {w : World} {A : Option Addr} {n c : Nat} {D : List DEnt} (h : RDRow w (.slice A n c) D) : Puts w w.heap.size [] A (D.map DEnt.pt) := fun hne => by
  rcases h.row.2 with ⟨_, hl⟩ | ⟨g, cap, cur, hv, _, hg, _⟩
  · exfalso
    have hl' : D.length = 0 := hl
    have h0 : D = [] := List.eq_nil_of_length_eq_zero hl'
    subst h0
    exact hne rfl
  · injection hv with hA hn hc
    subst hA hc
    refine ⟨g, 0, rfl, (Array.getElem?_eq_some_iff.1 hg).1, by simp, fun j hj => ?_⟩
    have hj' : j < D.length := by simpa using hj
    obtain ⟨d1, d2, d3⟩ := dcells_at D j hj'
    have k1 := World.ownsRow.cells (g := g) h.row rfl _ _ d1
    have k2 := World.ownsRow.cells (g := g) h.row rfl _ _ d2
    have k3 := World.ownsRow.cells (g := g) h.row rfl _ _ d3
    rw [add_at] at k1 k2 k3
    obtain ⟨A', c', e, q1, q2, q3⟩ := h.vals _ (List.getElem_mem hj')
    simp only [List.getElem_map, Nat.zero_add]
    refine ⟨k1, ⟨A', c', by rw [k2, e]; rfl, q1, q2, fun hn => ?_⟩, k3⟩
    obtain ⟨g2, o2, C, fr, e2, hg2, hc2⟩ := q3 hn
    exact ⟨g2, o2, e2, (Array.getElem?_eq_some_iff.1 hg2).1, by simp, hc2⟩
theorem rdrow_one (w : World) (v : Value) (D : List DEnt) (h : RDRow w v D) (k : ByteArray) (A : Option Addr) (n c : Nat) (g : Bool) (val : List UInt8) (b : Nat) (hb : ∀ j, w.cell? ⟨b, j, none⟩ = (#[Value.string k, .slice A n c, .bool g])[j]?) (hv : VSee w (.slice A n c) val) (hl : D.length + 1 ≤ 1000000) :
    ∃ A' c' L' w', Hid (L' = D ++ [⟨k, .slice A n c, val, g⟩]) ∧ (Builtin.append_ #[47, 47] 47 #[v, .slice (some ⟨b, 0, none⟩) 1 1]).run Try.prog w = .ok (.slice A' L'.length c') w' ∧
      RDRow w' (.slice A' L'.length c') L' ∧ Only (blk v) w w' ∧ Grows (blk v) (blk (.slice A' L'.length c')) w := by
  obtain ⟨A', c', L', w', hL, hrun, hr, ho, hg⟩ := orow_one w v D h.row k A n c g val b hb hl
  refine ⟨A', c', L', w', hL, hrun, ⟨hr, fun e he => ?_⟩, ho, hg⟩
  rw [hL.out] at he
  rcases List.mem_append.1 he with he | he
  · exact (h.vals e he).only ho h.noB
  · rw [List.mem_singleton] at he; subst he
    exact hv.only ho h.noB
end Go.Proofs.Ytgpkdnnlgafenaa

namespace Go.Proofs.Ytgpkdnnlgafenaa
open Go.RowKit Kv
set_option linter.unusedVariables false

structure RbS (wp : World) (vm : Value) (D : List DEnt) (key : ByteArray) (val : List UInt8) (f : Nat → Bool) (R : Nat → Value) (w : World) : Prop where
  only : Only (blk vm) wp w
  row : f 3 = false → RDRow w vm D
  conv : f 0 = true → f 1 = false → f 2 = false → f 3 = false → ∃ A c, R 0 = .slice A val.length c ∧ VSee w (.slice A val.length c) val
  bld : f 1 = true → f 2 = false → f 3 = false → ∃ A c, R 1 = .agg #[.string key, .slice A val.length c, .bool false] ∧ VSee w (.slice A val.length c) val
  lit : f 2 = true → f 3 = false → ∃ b A c, R 2 = .slice (some ⟨b, 0, none⟩) 1 1 ∧ (∀ j, w.cell? ⟨b, j, none⟩ = (#[Value.string key, .slice A val.length c, .bool false])[j]?) ∧ VSee w (.slice A val.length c) val
  fin : f 3 = true → ∃ A c L vv, R 3 = .slice A L.length c ∧ Hid (L = D ++ [⟨key, vv, val, false⟩]) ∧ RDRow w (.slice A L.length c) L ∧ ∀ b, b ∈ blk (.slice A L.length c) → b ∈ blk vm ∨ wp.heap.size ≤ b
  r4 : (f 4 = false → R 4 = vm) ∧ (f 4 = true → f 3 = true ∧ R 4 = R 3)
  ord : (f 1 = true → f 0 = true) ∧ (f 2 = true → f 1 = true) ∧ (f 3 = true → f 2 = true)
theorem rb_run {Q : Exit → Act → World → Prop} {a0 : Act} {wp : World} (t g k nl c0 nm cm : Nat) (Am : Option Addr) (key : ByteArray) (val : List UInt8) (D : List DEnt) (hkl : (k : Int) < (nl : Int)) (hm : RDRow wp (.slice Am nm cm) D) (hlen : D.length ≤ 100000) (hval : val.length ≤ maxLen)
    (hcell : wp.cell? ⟨t, 0, none⟩ = some (.slice (some ⟨g, 0, none⟩) nl c0) ∧ wp.cell? ⟨g, k * 2, none⟩ = some (.string key) ∧ wp.cell? ⟨g, k * 2 + 1, none⟩ = some (.string (bstr val)))
    (hg : g < wp.heap.size ∧ g ∉ blk (.slice Am nm cm)) (ht : t < wp.heap.size ∧ t ∉ blk (.slice Am nm cm))
    (hsz : 34 < a0.tmps.size) (in0 : a0.eval (.tmp 0) = .pointer (some ⟨t, 0, none⟩)) (in4 : a0.eval (.tmp 4) = .int .i64 (k : Int)) (in3 : a0.eval (.tmp 3) = .slice Am nm cm)
    (fin : ∀ a w A c L vv, Fr [14, 15, 16, 17, 18, 19, 20, 21, 22, 23, 24, 25, 26, 27, 28, 29, 30, 31, 32, 33, 34, 3] a0 a → a.eval (.tmp 3) = .slice A L.length c → Hid (L = D ++ [⟨key, vv, val, false⟩]) → RDRow w (.slice A L.length c) L → Only (blk (.slice Am nm cm)) wp w → (∀ b, b ∈ blk (.slice A L.length c) → b ∈ blk (.slice Am nm cm) ∨ wp.heap.size ≤ b) → Q .normal a w) :
    (Code.region 5 opsRkb5 true).wp Try.prog Q a0 wp := by
  refine rkb5 t g k nl c0 nm cm Am key (bstr val) (RbS wp (.slice Am nm cm) D key val) hsz in0 in4 hkl ?_ ?_ ?_ ?_ ?_ ?_ ?_ ?_ ?_
  · intro f R w hS
    exact ⟨(hS.only.cell (a := ⟨t, 0, none⟩) ht.1 ht.2).trans hcell.1, (hS.only.cell (a := ⟨g, k * 2, none⟩) hg.1 hg.2).trans hcell.2.1, (hS.only.cell (a := ⟨g, k * 2 + 1, none⟩) hg.1 hg.2).trans hcell.2.2⟩
  · intro f R w hS h4; exact hS.r4.1 h4
  · intro f R w hS h0
    have h1 : f 1 = false := by cases h : f 1 with | false => rfl | true => have := hS.ord.1 h; rw [h0] at this; cases this
    have h2 : f 2 = false := by cases h : f 2 with | false => rfl | true => have := hS.ord.2.1 h; rw [h1] at this; cases this
    have h3 : f 3 = false := by cases h : f 3 with | false => rfl | true => have := hS.ord.2.2 h; rw [h2] at this; cases this
    obtain ⟨cap, w1, hrun, hrow, hbel, _, k1, k2⟩ := run_bytes_row (P := Try.prog) w 9 27 5 (bstr val) Try.underlying9 Try.underlying27 Try.underlying5
    have e1 : (bstr val).data.toList = val := rfl
    have e2 : (bstr val).size = val.length := by show val.toArray.size = val.length; simp
    rw [e1] at hrow
    rw [e2] at k1 k2 hrun
    have hvs := VSee.of_bytes hrow k1 (k2 hval)
    refine ⟨_, w1, hrun, hS.only.trans (Only.of_below hbel), ?_, ?_, ?_, ?_, ?_, ?_, ?_⟩
    · intro h; rw [setF_ne _ (by decide)] at h; exact (hS.row h).below hbel
    · intro _ _ _ _; exact ⟨_, _, setR_self .., hvs⟩
    · intro h; rw [setF_ne _ (by decide), h1] at h; cases h
    · intro h; rw [setF_ne _ (by decide), h2] at h; cases h
    · intro h; rw [setF_ne _ (by decide), h3] at h; cases h
    · rw [setF_ne _ (by decide), setF_ne _ (by decide), setR_ne _ _ (by decide), setR_ne _ _ (by decide)]; exact hS.r4
    · rw [setF_self, setF_ne _ (by decide), setF_ne _ (by decide), setF_ne _ (by decide)]; exact ⟨fun _ => rfl, hS.ord.2⟩
  · intro f R w hS h0 h1
    have h2 : f 2 = false := by cases h : f 2 with | false => rfl | true => have := hS.ord.2.1 h; rw [h1] at this; cases this
    have h3 : f 3 = false := by cases h : f 3 with | false => rfl | true => have := hS.ord.2.2 h; rw [h2] at this; cases this
    obtain ⟨A, c, e, hvs⟩ := hS.conv h0 h1 h2 h3
    refine ⟨A, _, c, e, hS.only, ?_, ?_, ?_, ?_, ?_, ?_, ?_⟩
    · intro h; rw [setF_ne _ (by decide)] at h; exact hS.row h
    · intro _ h; rw [setF_self] at h; cases h
    · intro _ _ _; exact ⟨A, c, setR_self .., hvs⟩
    · intro h; rw [setF_ne _ (by decide), h2] at h; cases h
    · intro h; rw [setF_ne _ (by decide), h3] at h; cases h
    · rw [setF_ne _ (by decide), setF_ne _ (by decide), setR_ne _ _ (by decide), setR_ne _ _ (by decide)]; exact hS.r4
    · rw [setF_self, setF_ne _ (by decide), setF_ne _ (by decide), setF_ne _ (by decide)]; exact ⟨fun _ => h0, fun _ => rfl, hS.ord.2.2⟩
  · intro f R w hS h1 h2
    have h3 : f 3 = false := by cases h : f 3 with | false => rfl | true => have := hS.ord.2.2 h; rw [h2] at this; cases this
    obtain ⟨A, c, e, hvs⟩ := hS.bld h1 h2 h3
    have hba : Below w.heap.size w (w.alloc (.cells #[.string key, .slice A val.length c, .bool false] 80)) := (Below.refl _ _).alloc (Nat.le_refl _) _
    refine ⟨A, _, c, e, hS.only.trans (Only.of_below hba), ?_, ?_, ?_, ?_, ?_, ?_, ?_⟩
    · intro h; rw [setF_ne _ (by decide)] at h; exact (hS.row h).below hba
    · intro _ h; rw [setF_ne _ (by decide), h1] at h; cases h
    · intro _ h; rw [setF_self] at h; cases h
    · intro _ _; exact ⟨w.heap.size, A, c, setR_self .., fun j => by simp only [World.cell?, heap_alloc_new]; rfl, hvs.below hba⟩
    · intro h; rw [setF_ne _ (by decide), h3] at h; cases h
    · rw [setF_ne _ (by decide), setF_ne _ (by decide), setR_ne _ _ (by decide), setR_ne _ _ (by decide)]; exact hS.r4
    · rw [setF_self, setF_ne _ (by decide), setF_ne _ (by decide), setF_ne _ (by decide)]; exact ⟨hS.ord.1, fun _ => h1, fun _ => rfl⟩
  · intro f R w hS h2 h3
    obtain ⟨b, A, c, e1, e2, hvs⟩ := hS.lit h2 h3
    obtain ⟨A', c', L, W, hL, hrun, hr, ho, hg'⟩ := rdrow_one w (.slice Am nm cm) D (hS.row h3) key A val.length c false val b e2 hvs (by omega)
    have h4 : f 4 = false := by cases h : f 4 with | false => rfl | true => have := (hS.r4.2 h).1; rw [h3] at this; cases this
    refine ⟨_, W, by rw [e1]; exact hrun, hS.only.trans ho, ?_, ?_, ?_, ?_, ?_, ?_, ?_⟩
    · intro h; rw [setF_self] at h; cases h
    · intro _ _ _ h; rw [setF_self] at h; cases h
    · intro _ _ h; rw [setF_self] at h; cases h
    · intro _ h; rw [setF_self] at h; cases h
    · intro _; exact ⟨A', c', L, _, setR_self .., hL, hr, fun x hx => (hg' x hx).imp id (fun h' => Nat.le_trans hS.only.size h')⟩
    · rw [setF_ne _ (by decide), setR_ne _ _ (by decide)]
      exact ⟨hS.r4.1, fun h => by rw [h4] at h; cases h⟩
    · rw [setF_self, setF_ne _ (by decide), setF_ne _ (by decide), setF_ne _ (by decide)]; exact ⟨hS.ord.1, hS.ord.2.1, fun _ => h2⟩
  · intro f R w hS h3 h4
    refine ⟨hS.only, ?_, ?_, ?_, ?_, ?_, ?_, ?_⟩
    · intro h; rw [setF_ne _ (by decide), h3] at h; cases h
    · intro _ _ _ h; rw [setF_ne _ (by decide), h3] at h; cases h
    · intro _ _ h; rw [setF_ne _ (by decide), h3] at h; cases h
    · intro _ h; rw [setF_ne _ (by decide), h3] at h; cases h
    · intro _; rw [setR_ne _ _ (by decide)]; exact hS.fin h3
    · rw [setF_self]; exact ⟨(fun h => by cases h), fun _ => ⟨by rw [setF_ne _ (by decide)]; exact h3, by rw [setR_self, setR_ne _ _ (by decide)]⟩⟩
    · rw [setF_ne _ (by decide), setF_ne _ (by decide), setF_ne _ (by decide), setF_ne _ (by decide)]; exact hS.ord
  · exact ⟨Only.of_below (Below.refl _ _).drew, fun _ => hm.below (Below.refl _ _).drew, (fun h => by cases h), (fun h => by cases h), (fun h => by cases h), (fun h => by cases h), ⟨(fun _ => (resOf_at (C := rkb5C) (j := 4) rfl a0).trans in3), (fun h => by cases h)⟩, ⟨(fun h => by cases h), (fun h => by cases h), (fun h => by cases h)⟩⟩
  · intro a w f hfr hall hS
    obtain ⟨A, c, L, vv, q1, q2, q3, q4⟩ := hS.fin (hall 3 (by decide))
    exact fin a w A c L vv hfr (((resOf_at (C := rkb5C) (j := 4) rfl a).symm.trans (hS.r4.2 (hall 4 (by decide))).2).trans q1) q2 q3 hS.only q4

set_option maxHeartbeats 3200000 in
set_option maxRecDepth 100000 in
theorem rbytes_any (w : World) (t : Nat) (v : Value) (m : List Pr) (h : RTab w t v m) (hlen : m.length ≤ 400) (hgood : Kv.Good m) :
    Calls Try.prog 25 #[.pointer (some ⟨t, 0, none⟩)] w (EncEnd (m.map put1) w) := by
  obtain ⟨A, c, rfl, _, _⟩ := h.row.shape
  have HT := Lib.hid h
  have HG := Lib.hid hgood
  obtain ⟨w0, rfl⟩ : ∃ w0, w0 = w := ⟨_, rfl⟩
  have hlI : (m.length : Int) ≤ 400 := by omega
  have HTL : Hid (t < w0.heap.size) := Lib.hid (Array.getElem?_eq_some_iff.1 h.head).1
  clear h hgood
  go_enter Try.func25, Try.ntmps25
  go_wp2
  go_loopw [3, 4] (fun r i wr => ∃ (k : Nat) (Ar : Option Addr) (cr : Nat) (D : List DEnt), k ≤ m.length ∧ r = .slice Ar D.length cr ∧ i = .int .i64 k ∧ Hid (D.map DEnt.pt = (m.take k).map put1 ∧ RDRow wr (.slice Ar D.length cr) D ∧ Below w0.heap.size w0 wr ∧ ∀ b, b ∈ blk (.slice Ar D.length cr) → w0.heap.size ≤ b)) (fun _ i _ => m.length - (intOf i).toNat)
  case atStart => exact ⟨0, none, 0, [], Nat.zero_le _, rfl, rfl, Lib.hid ⟨by simp, RDRow.nil _, Below.refl _ _, fun b hb => by simp [blk, Value.ownBlock] at hb⟩⟩
  case round =>
    obtain ⟨k, Ar, cr, D, hk, rfl, rfl, HI⟩ := hrel
    have hDl : D.length ≤ m.length := by have := congrArg List.length HI.out.1; rw [List.length_map, List.length_map, List.length_take] at this; omega
    have htr := HT.out.below HI.out.2.2.1
    have z0 : wr.cell? ⟨t, 0, none⟩ = some (.slice A m.length c) := by simp [World.cell?, htr.head]
    by_cases hlt : k < m.length
    · obtain ⟨h1, h2, h3, h4⟩ := HI.out
      obtain ⟨g0, hA0, hg0, _, _⟩ := HT.out.row.get k hlt
      obtain ⟨g, rfl, hg, k1, k2⟩ := htr.row.get k hlt
      have hgw0 : g < w0.heap.size := by injection hA0 with hA0; injection hA0 with hA0; omega
      have hkI : (k : Int) < (m.length : Int) := by omega
      have htk : (m.take (k + 1)).map put1 = (m.take k).map put1 ++ [put1 m[k]] := by rw [List.take_succ_eq_append_getElem hlt, List.map_append]; rfl
      have hok := ok1_iff.1 (HG.out m[k] (List.getElem_mem hlt))
      obtain ⟨x, Hx⟩ : ∃ x, Hid (x = m[k]) := ⟨_, Lib.hid rfl⟩
      rw [← Hx.out] at k1 k2 htk hok
      obtain ⟨kk, val⟩ := x
      simp only at k1 k2
      have hvl : val.length ≤ 200000 := hok.2.2.1
      have NEXT : Hid (∀ W A6 c6 (L6 : List DEnt) vv, Hid (L6 = D ++ [⟨kk, vv, val, false⟩]) → RDRow W (.slice A6 L6.length c6) L6 → Only (blk (.slice Ar D.length cr)) wr W → (∀ b, b ∈ blk (.slice A6 L6.length c6) → b ∈ blk (.slice Ar D.length cr) ∨ wr.heap.size ≤ b) →
          Hid (L6.map DEnt.pt = (m.take (k + 1)).map put1 ∧ RDRow W (.slice A6 L6.length c6) L6 ∧ Below w0.heap.size w0 W ∧ ∀ b, b ∈ blk (.slice A6 L6.length c6) → w0.heap.size ≤ b)) := Lib.hid (fun W A6 c6 L6 vv e hr ho hg6 =>
        Lib.hid ⟨by rw [e.out, List.map_append, h1, htk]; rfl, hr, h3.trans (ho.below h3.size h4), fun b hb => (hg6 b hb).elim (h4 b) (fun h' => Nat.le_trans h3.size h')⟩)
      have HOR := Lib.hid h2
      have HGW : Hid ((g < wr.heap.size ∧ g ∉ blk (.slice Ar D.length cr)) ∧ (t < wr.heap.size ∧ t ∉ blk (.slice Ar D.length cr))) := Lib.hid ⟨⟨hg, fun hm => by have := h4 g hm; omega⟩, ⟨Nat.lt_of_lt_of_le HTL.out h3.size, fun hm => by have := h4 t hm; have := HTL.out; omega⟩⟩
      have HVM : Hid (val.length ≤ maxLen) := Lib.hid (by unfold maxLen; omega)
      have HCL := Lib.hid (And.intro z0 (And.intro k1 k2))
      clear h1 h2 h3 h4 HI htk hok htr hA0 hg0 hvl
      go_wp2
      refine rb_run t g k m.length c D.length cr Ar kk val D hkI HOR.out (by omega) HVM.out HCL.out HGW.out.1 HGW.out.2 (by show 34 < 37; omega) rfl rfl rfl ?_
      intro af w4 A6 c6 L6 vv hfr h3 hL6 hr6 ho6 hg6
      have HN := NEXT.out w4 A6 c6 L6 vv hL6 hr6 ho6 hg6
      clear hL6 hr6 ho6 hg6 k1 k2
      have ha := hfr.eq (by intro t ht; simp at ht; show t < 37; omega)
      simp only [List.foldl_cons, List.foldl_nil] at ha
      clear hfr
      rw [h3] at ha
      clear h3
      generalize af.eval (.tmp 14) = u14 at ha
      generalize af.eval (.tmp 15) = u15 at ha
      generalize af.eval (.tmp 16) = u16 at ha
      generalize af.eval (.tmp 17) = u17 at ha
      generalize af.eval (.tmp 18) = u18 at ha
      generalize af.eval (.tmp 19) = u19 at ha
      generalize af.eval (.tmp 20) = u20 at ha
      generalize af.eval (.tmp 21) = u21 at ha
      generalize af.eval (.tmp 22) = u22 at ha
      generalize af.eval (.tmp 23) = u23 at ha
      generalize af.eval (.tmp 24) = u24 at ha
      generalize af.eval (.tmp 25) = u25 at ha
      generalize af.eval (.tmp 26) = u26 at ha
      generalize af.eval (.tmp 27) = u27 at ha
      generalize af.eval (.tmp 28) = u28 at ha
      generalize af.eval (.tmp 29) = u29 at ha
      generalize af.eval (.tmp 30) = u30 at ha
      generalize af.eval (.tmp 31) = u31 at ha
      generalize af.eval (.tmp 32) = u32 at ha
      generalize af.eval (.tmp 33) = u33 at ha
      generalize af.eval (.tmp 34) = u34 at ha
      subst ha
      simp only [Act.put, List.setIfInBounds_toArray, List.set_cons_zero, List.set_cons_succ]
      go_wp2
      go_roundw
      case rel => exact ⟨k + 1, A6, c6, L6, by omega, rfl, by go_num, HN⟩
      case measure => simp [intOf]; omega
    · obtain rfl : k = m.length := by omega
      obtain ⟨h1, h2, h3, h4⟩ := HI.out
      rw [List.take_length] at h1
      have hDL : D.length = (m.map put1).length := by have := congrArg List.length h1; simpa using this
      have hpp := h2.puts
      rw [h1] at hpp
      have hkz : ∀ x ∈ m.map put1, x.k.size ≤ maxLen := fun x hx => by
        obtain ⟨y, hy, rfl⟩ := List.mem_map.1 hx
        have := (ok1_iff.1 (HG.out y hy)).2.1
        unfold maxLen; omega
      have HEN := Lib.hid (rencode_any wr Ar D.length cr (m.map put1) [] hDL (by omega) hpp hkz)
      have HB3 := Lib.hid h3
      clear h1 h2 h3 h4 HI hDL hpp hkz htr
      go_wp2_with fail
      refine HEN.out.mono ?_
      rintro e w5 ⟨A5, n5, c5, rfl, q1, q2, q3, q4, q5⟩
      have KEY : Hid (EncEnd (m.map put1) w0 (.returned (.slice A5 n5 c5)) w5) := Lib.hid ⟨A5, n5, c5, rfl, q1, q2, q3, q4, HB3.out.trans (q5.mono HB3.out.size)⟩
      clear q1 q2 q3 q4 q5 HEN
      go_wp2
      go_ret
      exact KEY.out
end Go.Proofs.Ytgpkdnnlgafenaa

namespace Go.Proofs.Ytgpkdnnlgafenaa
open Go.RowKit Kv
set_option linter.unusedVariables false

theorem run_mid_some {P : Program} {t e : TypeId} (ht : P.underlying t = some (.slice e)) (hz : ∀ w, (Go.sizeOf e).run P w = .ok 1 w) (a : Addr) (n c lo hi : Nat) (hlo : lo ≤ hi) (hn : hi ≤ n) (hc : n ≤ c) (J K : Int) (hJ : J = (hi : Int)) (hK : K = (lo : Int)) :
    ∃ a', (∀ W, (Instr.slice t (.slice (some a) n c) (some (.int .i64 K)) (some (.int .i64 J)) none).run P W = .ok (.slice (some a') (hi - lo) (c - lo)) W) ∧ ∀ (w : World) (B : Nat) (l : List UInt8), l.length = n → Sees w B (some a) l → Sees w B (some a') ((l.drop lo).take (hi - lo)) := by
  subst hK
  obtain ⟨A', h1, h2⟩ := run_mid (P := P) ht hz (A := some a) n c lo hi hlo hn hc J hJ
  subst hJ
  cases A' with
  | some a' => exact ⟨a', h1, h2⟩
  | none =>
    have ht' : P.underlying t = some (.slice (P.elem t)) := by simp [Program.elem, ht]
    have he : P.elem t = e := by simp [Program.elem, ht]
    have h3 := h1 default
    rw [run_slice_lh default t (some a) _ _ ht' .i64 .i64 _ _ (by omega) (by omega) (by omega), he, hz] at h3
    simp [Result.andThen, sliced] at h3
    split at h3 <;> simp at h3
def RDecEnd (l : List UInt8) (w : World) (e : Ending) (w' : World) : Prop :=
  Below w.heap.size w w' ∧ match decP l with
  | none => ∃ v, e = .returned (.tuple #[v, .bool false])
  | some L => ∃ A n c D, e = .returned (.tuple #[.slice A n c, .bool true]) ∧ n = L.length ∧ D.map DEnt.pt = L ∧ RDRow w' (.slice A n c) D
structure RDt (w0 wr : World) (l0 lb : List UInt8) (Ab Al : Option Addr) (cb cl : Nat) (D : List DEnt) : Prop where
  rd : lb.length ≤ cb ∧ cb ≤ maxLen ∧ Sees wr w0.heap.size Ab lb
  row : RDRow wr (.slice Al D.length cl) D
  bel : Below w0.heap.size w0 wr
  high : ∀ b, b ∈ blk (.slice Al D.length cl) → w0.heap.size ≤ b
  dec : decR l0 = (decR lb).map fun t => D.map DEnt.pt ++ t
  few : D.length + lb.length ≤ l0.length
  keys : ∀ e ∈ D, e.k.size ≤ l0.length
theorem RDecEnd.no {l : List UInt8} {w w' : World} (h : decR l = none) (hb : Below w.heap.size w w') (v : Value) : RDecEnd l w (.returned (.tuple #[v, .bool false])) w' := by
  refine ⟨hb, ?_⟩
  rw [decP_eq, h]
  exact ⟨v, rfl⟩
theorem decR_cons (c0 : UInt8) (t : List UInt8) : decR (c0 :: t) = match cutR (c0 :: t) with | none => none | some (x, r) => (decR r).map (x :: ·) := dec_step eatsR (by simp)
theorem decR_no {c0 : UInt8} {t : List UInt8} (h : cutR (c0 :: t) = none) : decR (c0 :: t) = none := by
  rw [decR_cons, h]
theorem cutR_no {c0 : UInt8} {t : List UInt8} (h : cut (c0 :: t) = none) : cutR (c0 :: t) = none := by
  unfold cutR; rw [h]; rfl

set_option maxHeartbeats 6400000 in
set_option maxRecDepth 100000 in
theorem rdecode_any (w : World) (A : Option Addr) (n c : Nat) (l : List UInt8) (hn : n = l.length) (hnc : n ≤ c) (hcm : c ≤ maxLen) (hbig : n ≤ 1000) (hs : Sees w w.heap.size A l) :
    Calls Try.prog 26 #[.slice A n c] w (RDecEnd l w) := by
  subst hn
  obtain ⟨w0, rfl⟩ : ∃ w0, w0 = w := ⟨_, rfl⟩
  have HS := Lib.hid hs
  clear hs
  go_enter Try.func26, Try.ntmps26
  go_wp2
  go_loopw [0, 4] (fun b d wr => ∃ (lb : List UInt8) (Ab Al : Option Addr) (cb cl : Nat) (D : List DEnt), b = .slice Ab lb.length cb ∧ d = .slice Al D.length cl ∧ Hid (RDt w0 wr l lb Ab Al cb cl D)) (fun b _ _ => match b with | .slice _ n _ => n | _ => 0)
  case atStart => exact ⟨l, A, none, c, 0, [], rfl, rfl, Lib.hid ⟨⟨hnc, hcm, HS.out⟩, RDRow.nil _, Below.refl _ _, fun b hb => by simp [blk, Value.ownBlock] at hb, by simp, by simp, fun e he => by cases he⟩⟩
  case round =>
    obtain ⟨lb, Ab, Al, cb, cl, D, rfl, rfl, HI⟩ := hrel
    cases lb with
    | nil =>
      have hd : decR l = some (D.map DEnt.pt) := by rw [HI.out.dec, show decR [] = some [] from rfl]; simp
      obtain ⟨B, HB⟩ : ∃ B, Hid (B = may (D.map DEnt.pt)) := ⟨_, Lib.hid rfl⟩
      have hDl : D.length ≤ 1000 := by have := HI.out.few; omega
      have HMAY := Lib.hid (rmay_any Al D.length cl (D.map DEnt.pt) [] wr (by simp) (by unfold maxLen; omega) HI.out.row.puts (fun x hx => by
        obtain ⟨e, he, rfl⟩ := List.mem_map.1 hx
        have := HI.out.keys e he
        show e.k.size ≤ maxLen
        unfold maxLen; omega) B HB.out)
      have key : ∀ W, Below wr.heap.size wr W → RDecEnd l w0 (.returned (.tuple #[.slice Al D.length cl, .bool B])) W := fun W hW => by
        refine ⟨HI.out.bel.trans (hW.mono HI.out.bel.size), ?_⟩
        rw [decP_eq, hd]
        simp only [Option.bind_some, ← HB.out]
        cases B with
        | false => exact ⟨_, rfl⟩
        | true => exact ⟨Al, _, cl, D, rfl, by simp, rfl, HI.out.row.below hW⟩
      have KEY := Lib.hid key
      clear key hd
      go_wp2_with fail
      refine HMAY.out.mono ?_
      rintro e w2 ⟨rfl, hb2⟩
      have HE := Lib.hid (KEY.out w2 hb2)
      clear hb2 KEY HMAY
      go_wp2
      go_ret2
      exact HE.out
    | cons c0 t =>
      obtain ⟨g, o, rfl, hg, hcell⟩ := HI.out.rd.2.2 (by simp)
      obtain ⟨z, Hz⟩ : ∃ z : Int, Hid (z = (c0.toNat : Int)) := ⟨_, Lib.hid rfl⟩
      have y0 : wr.cell? ⟨g, o, none⟩ = some (.int .u8 z) := by rw [Hz.out]; exact hcell 0 (by simp)
      obtain ⟨N, HN⟩ : ∃ N, Hid (N = (c0 :: t).length) := ⟨_, Lib.hid rfl⟩
      have HNT : Hid (N = t.length + 1) := Lib.hid (by rw [HN.out]; simp)
      have hN1 : N ≤ 1000 := by have := HI.out.few; rw [← HN.out] at this; omega
      have hNc : N ≤ cb := by rw [HN.out]; exact HI.out.rd.1
      have hcm : cb ≤ 9223372036854775807 := by have := HI.out.rd.2.1; unfold maxLen at this; omega
      have hNp : 0 < N := by have := HNT.out; omega
      have hNI : (0 : Int) < (N : Int) := by omega
      have hdl := HI.out.dec
      obtain ⟨gone, HG⟩ : ∃ gone, Hid (gone = decide (c0 = 0)) := ⟨_, Lib.hid rfl⟩
      have hz0 : (z == 0) = gone := by
        rw [HG.out, Hz.out, Bool.eq_iff_iff, beq_iff_eq, decide_eq_true_eq, ← UInt8.toNat_inj]
        constructor
        · intro h; have : c0.toNat = 0 := by omega
          simpa using this
        · intro h; rw [h]; rfl
      obtain ⟨w1, Hw1⟩ : ∃ w1, Hid (w1 = wr.alloc (.cells #[.string ⟨#[]⟩, .slice none 0 0, .bool gone] 80)) := ⟨_, Lib.hid rfl⟩
      have hb1 : Below wr.heap.size wr w1 := by rw [Hw1.out]; exact (Below.refl _ _).alloc (Nat.le_refl _) _
      have HB1 : Hid (Below w0.heap.size w0 w1) := Lib.hid (HI.out.bel.trans (hb1.mono HI.out.bel.size))
      have NO : Hid (cutR (c0 :: t) = none → ∀ W v, Below w0.heap.size w0 W → RDecEnd l w0 (.returned (.tuple #[v, .bool false])) W) := Lib.hid (fun h W v hW => RDecEnd.no (by rw [hdl, decR_no h]; rfl) hW v)
      rw [← HN.out]
      have HWA : Hid (wr.alloc (.cells #[.string ⟨#[]⟩, .slice none 0 0, .bool gone] 80) = w1) := Lib.hid Hw1.out.symm
      have y1 : (wr.alloc (.cells #[.string ⟨#[]⟩, .slice none 0 0, .bool gone] 80)).cell? ⟨g, o, none⟩ = some (.int .u8 z) := by
        rw [HWA.out]; exact (hb1.cell (p := ⟨g, o, none⟩) (Nat.lt_of_lt_of_le hg HI.out.bel.size)).trans y0
      by_cases hz2 : 1 < z
      case pos =>
        have KEY := Lib.hid (NO.out (cutR_no <| by
          show (if c0 = 0 ∨ c0 = 1 then cutK c0 t else none) = none
          rw [if_neg (fun h => by
            rcases h with h | h
            · rw [Hz.out, h] at hz2; simp at hz2
            · rw [Hz.out, h] at hz2; simp at hz2)]) w1 (.slice none 0 0) HB1.out)
        clear NO hdl hcell hg
        go_wp2
        rw [HWA.out]
        go_ret2
        exact KEY.out
      have hc01 : c0 = 0 ∨ c0 = 1 := by
        have h1 : c0.toNat ≤ 1 := by rw [Hz.out] at hz2; omega
        rcases Nat.lt_or_ge c0.toNat 1 with h | h
        · left; apply UInt8.toNat_inj.1; show c0.toNat = 0; omega
        · right; apply UInt8.toNat_inj.1; show c0.toNat = 1; omega
      have hcutK : cut (c0 :: t) = cutK c0 t := by
        show (if c0 = 0 ∨ c0 = 1 then cutK c0 t else none) = _
        rw [if_pos hc01]
      by_cases hN3 : N < 3
      case pos =>
        have hN3I : (N : Int) < 3 := by omega
        have KEY := Lib.hid (NO.out (cutR_no <| by rw [hcutK]; unfold cutK; rw [if_pos (by have := HNT.out; omega)]) w1 (.slice none 0 0) HB1.out)
        clear NO hdl hcell hg
        go_wp2
        rw [HWA.out]
        go_ret2
        exact KEY.out
      have hN3I : ¬ (N : Int) < 3 := by omega
      obtain ⟨x, Hx⟩ : ∃ x, Hid (x = Rc.num (t.take 2)) := ⟨_, Lib.hid rfl⟩
      have hx16 : x < 65536 := by
        have h2 := Rc.num_lt (t.take 2)
        have h3 : 256 ^ (t.take 2).length ≤ 256 ^ 2 := Nat.pow_le_pow_right (by omega) (by rw [List.length_take]; omega)
        rw [← Hx.out] at h2
        have h4 : (256 : Nat) ^ 2 = 65536 := by decide
        omega
      have HS1 : Hid (Sees w1 w0.heap.size (some ⟨g, o, none⟩) (c0 :: t)) := Lib.hid (HI.out.rd.2.2.below hb1 HI.out.bel.size)
      obtain ⟨a1, hsl1, hsee1⟩ := run_mid_some (P := Try.prog) Try.underlying27 (fun w => by exact Try.sizeOf5 w) ⟨g, o, none⟩ N cb 1 3 (by omega) (by omega) hNc 3 1 rfl rfl
      rw [show 3 - 1 = 2 from rfl] at hsl1 hsee1
      have HF1 : Hid (Calls Try.prog 39 #[.slice (some a1) 2 (cb - 1)] w1 fun e w' => e = .returned (.int .u64 (x : Int)) ∧ w1 = w') := Lib.hid (by
        have := rfrom_any (some a1) 2 (cb - 1) (((c0 :: t).drop 1).take 2) _ w1 (by rw [List.length_take]; have := HNT.out; simp; omega) (by rw [List.length_take]; omega) (hsee1 w1 _ _ HN.out.symm HS1.out)
        rwa [show Rc.num (((c0 :: t).drop 1).take 2) = x from Hx.out.symm] at this)
      clear hsee1
      by_cases h3 : N < x + 3
      case pos =>
        have h3I : (N : Int) < (x : Int) + 3 := by omega
        have KEY := Lib.hid (NO.out (cutR_no <| by
          rw [hcutK]; unfold cutK
          rw [if_neg (by have := HNT.out; omega), if_pos (by rw [← Hx.out, List.length_drop]; have := HNT.out; omega)]) w1 (.slice none 0 0) HB1.out)
        clear NO hdl hcell hg
        go_wp2_with fail
        rw [HWA.out]
        refine HF1.out.mono ?_
        rintro e w' ⟨rfl, rfl⟩
        clear y1
        go_wp2
        go_ret2
        exact KEY.out
      have h3' : x + 3 ≤ N := by omega
      have h3I : ¬ (N : Int) < (x : Int) + 3 := by omega
      obtain ⟨a2, hsl2, hsee2⟩ := run_mid_some (P := Try.prog) Try.underlying27 (fun w => by exact Try.sizeOf5 w) ⟨g, o, none⟩ N cb 3 (x + 3) (by omega) h3' hNc ((x : Int) + 3) 3 (by omega) rfl
      rw [show x + 3 - 3 = x by omega] at hsl2 hsee2
      obtain ⟨ks, Hks⟩ : ∃ ks : ByteArray, Hid (ks = ⟨((t.drop 2).take x).toArray⟩) := ⟨_, Lib.hid rfl⟩
      have hcv : (convert 27 9 (.slice (some a2) x (cb - 3))).run Try.prog w1 = .ok (.string ks) w1 := by
        rw [Hks.out]
        exact run_sees_string (P := Try.prog) w1 27 9 5 Try.underlying27 Try.underlying5 Try.underlying9 (hsee2 w1 _ _ HN.out.symm HS1.out) x (cb - 3) (by rw [List.length_take, List.length_drop, ← HN.out]; omega)
      obtain ⟨A3, hsl3, hsee3⟩ := run_tail (P := Try.prog) Try.underlying27 (fun w => by exact Try.sizeOf5 w) HS1.out N cb (x + 3) HN.out h3' hNc
      rw [show ((x + 3 : Nat) : Int) = (x : Int) + 3 by omega] at hsl3
      obtain ⟨r, Hr⟩ : ∃ r, Hid (r = (t.drop 2).drop x) := ⟨_, Lib.hid rfl⟩
      have hrd : (c0 :: t).drop (x + 3) = r := by rw [Hr.out, List.drop_drop, show x + 3 = (2 + x) + 1 by omega, List.drop_succ_cons]
      rw [hrd] at hsee3
      obtain ⟨M, HM⟩ : ∃ M, Hid (M = r.length) := ⟨_, Lib.hid rfl⟩
      have hMN : N - (x + 3) = M := by rw [HM.out, Hr.out, List.length_drop, List.length_drop]; have := HNT.out; omega
      obtain ⟨c3, Hc3⟩ : ∃ c3, Hid (c3 = cb - (x + 3)) := ⟨_, Lib.hid rfl⟩
      rw [hMN, ← Hc3.out] at hsl3
      have hMc : M ≤ c3 := by have := Hc3.out; omega
      have hc3 : c3 ≤ cb := by have := Hc3.out; omega
      have hM1 : M ≤ 1000 := by omega
      have HSR := Lib.hid hsee3
      obtain ⟨p, Hp⟩ : ∃ p, Hid (p = wr.heap.size) := ⟨_, Lib.hid rfl⟩
      have HX1 : Hid (Blk w1 p 80 #[.string ⟨#[]⟩, .slice none 0 0, .bool gone]) := Lib.hid (by rw [Hw1.out, Hp.out]; exact Blk.new wr _ _)
      have f0 := HX1.out.frozen 0
      have c0' := HX1.out.cell 0 _ rfl
      have HX2 : Hid (Blk (w1.setCell ⟨p, 0, none⟩ (.string ks)) p 80 #[.string ks, .slice none 0 0, .bool gone]) := Lib.hid (HX1.out.set 0 (.string ks))
      have q0 := HX2.out.cell 0 _ rfl
      have q1 := HX2.out.cell 1 _ rfl
      have q2 := HX2.out.cell 2 _ rfl
      have hpw : w0.heap.size ≤ p := by rw [Hp.out]; exact HI.out.bel.size
      have HB2 : Hid (Below w0.heap.size w0 (w1.setCell ⟨p, 0, none⟩ (.string ks))) := Lib.hid (below_set HB1.out hpw _ _)
      have HCUT : Hid (cut (c0 :: t) = if c0 = 0 then some (⟨ks, [], true⟩, r) else cutV ((t.drop 2).take x) r) := Lib.hid (by
        rw [hcutK]; unfold cutK
        rw [if_neg (by have := HNT.out; omega), ← Hx.out, if_neg (by rw [List.length_drop]; have := HNT.out; omega), ← Hks.out, ← Hr.out])
      have HLT : Hid (∀ b, b ∈ blk (.slice Al D.length cl) → b < p) := Lib.hid (fun b hb => by rw [Hp.out]; exact own_lt HI.out.row.row b hb)
      have HNB : Hid (NoB w1 p) := Lib.hid (NoB.of_cells HX1.out (by decide))
      have hrow2 : RDRow (w1.setCell ⟨p, 0, none⟩ (.string ks)) (.slice Al D.length cl) D := (HI.out.row.below hb1).only (S := [p]) (only_setCell w1 ⟨p, 0, none⟩ _) (fun b hb => by
        rw [List.mem_singleton] at hb; subst hb
        exact ⟨fun hm => by have := HLT.out _ hm; omega, HNB.out⟩)
      have HROW2 := Lib.hid hrow2
      have HCBM : Hid (c3 ≤ maxLen) := Lib.hid (by have := HI.out.rd.2.1; omega)
      have HFEW : Hid (D.length + N ≤ l.length) := Lib.hid (by rw [HN.out]; exact HI.out.few)
      have HKEYS := Lib.hid HI.out.keys
      have HHI := Lib.hid HI.out.high
      have HKS : Hid (ks.size ≤ l.length) := Lib.hid (by
        rw [Hks.out]
        show ((t.drop 2).take x).toArray.size ≤ _
        simp only [List.size_toArray, List.length_take, List.length_drop]
        have := HI.out.few
        simp only [List.length_cons] at this
        omega)
      have HSR2 : Hid (Sees (w1.setCell ⟨p, 0, none⟩ (.string ks)) w0.heap.size A3 r) := Lib.hid (HSR.out.below (below_set (Below.refl w0.heap.size w1) hpw _ _) (Nat.le_refl _))
      have hDl : D.length ≤ 1000 := by have := HFEW.out; omega
      have hMle : M + 3 ≤ N := by omega
      clear hcell hg hrd hMN hsee2 hsee3 hrow2 HI
      cases gone with
      | true =>
        have hgc : c0 = 0 := of_decide_eq_true HG.out.symm
        have hcR : cutR (c0 :: t) = some (⟨ks, [], true⟩, r) := by unfold cutR; rw [HCUT.out, if_pos hgc]; rfl
        have HST : Hid (decR l = (decR r).map fun t => D.map DEnt.pt ++ ⟨ks, [], true⟩ :: t) := Lib.hid (by
          rw [hdl, decR_cons, hcR]
          simp only [Option.map_map]
          rfl)
        have hba : Below (w1.setCell ⟨p, 0, none⟩ (.string ks)).heap.size (w1.setCell ⟨p, 0, none⟩ (.string ks)) ((w1.setCell ⟨p, 0, none⟩ (.string ks)).alloc (.cells #[.string ks, .slice none 0 0, .bool true] 80)) := (Below.refl _ _).alloc (Nat.le_refl _) _
        obtain ⟨A7, c7, D7, w7, HD7, hap, hd7, ho7, hg7⟩ := rdrow_one ((w1.setCell ⟨p, 0, none⟩ (.string ks)).alloc (.cells #[.string ks, .slice none 0 0, .bool true] 80)) _ D (HROW2.out.below hba) ks none 0 0 true [] (w1.setCell ⟨p, 0, none⟩ (.string ks)).heap.size (fun j => by simp only [World.cell?, heap_alloc_new]; rfl) (VSee.nil _) (by omega)
        have hsz : (w1.setCell ⟨p, 0, none⟩ (.string ks)).heap.size = w1.heap.size := by simp [World.setCell]
        have hbA := HB2.out.trans (hba.mono HB2.out.size)
        have hb7 : Below w0.heap.size ((w1.setCell ⟨p, 0, none⟩ (.string ks)).alloc (.cells #[.string ks, .slice none 0 0, .bool true] 80)) w7 := ho7.below hbA.size HHI.out
        have HNEXT : Hid (RDt w0 w7 l r A3 A7 c3 c7 D7) := Lib.hid ⟨⟨by rw [← HM.out]; exact hMc, HCBM.out, (HSR2.out.below hba HB2.out.size).below hb7 (Nat.le_refl _)⟩, hd7, hbA.trans hb7, fun b hb => (hg7 b hb).elim (HHI.out b) (fun h' => Nat.le_trans hbA.size h'),
          by rw [HST.out, HD7.out, List.map_append]; simp [DEnt.pt], by rw [HD7.out, List.length_append, ← HM.out]; simp; have := HFEW.out; omega, fun e he => by
            rw [HD7.out] at he
            rcases List.mem_append.1 he with he | he
            · exact HKEYS.out e he
            · rw [List.mem_singleton] at he; subst he; exact HKS.out⟩
        rw [hsz] at hap
        have HAP := Lib.hid hap
        have HML : Hid (M < N) := Lib.hid (by omega)
        clear hcR hba hap hd7 ho7 hg7 hsz hbA hb7 hdl NO hgc
        go_wp2_with fail
        rw [HWA.out, ← Hp.out]
        refine HF1.out.mono ?_
        rintro e w' ⟨rfl, rfl⟩
        clear y1
        go_wp2_with (at_builtin; refine wpList_append_run rfl _ _ 47 rfl _ (.slice Al D.length cl) (.slice (some ⟨w1.heap.size, 0, none⟩) 1 1) rfl rfl (.slice A7 D7.length c7) w7 (by exact HAP.out) ?_)
        go_roundw
        case rel => exact ⟨r, A3, A7, c3, c7, D7, by rw [HM.out], rfl, HNEXT⟩
        case measure => exact HML.out
      | false =>
        have hgc : ¬ c0 = 0 := of_decide_eq_false HG.out.symm
        have HCV : Hid (cut (c0 :: t) = cutV ((t.drop 2).take x) r) := Lib.hid (by rw [HCUT.out, if_neg hgc])
        clear HCUT hgc
        obtain ⟨w2, Hw2⟩ : ∃ w2, Hid (w2 = w1.setCell ⟨p, 0, none⟩ (.string ks)) := ⟨_, Lib.hid rfl⟩
        have HWB : Hid (w1.setCell ⟨p, 0, none⟩ (.string ks) = w2) := Lib.hid Hw2.out.symm
        rw [HWB.out] at HX2 HB2 HROW2 HSR2
        have hpw2 : p < w2.heap.size := HX2.out.lt
        by_cases hM4 : M < 4
        case pos =>
          have hM4I : (M : Int) < 4 := by omega
          have KEY := Lib.hid (NO.out (cutR_no <| by rw [HCV.out]; unfold cutV; rw [if_pos (by rw [← HM.out]; exact hM4)]) w2 (.slice none 0 0) HB2.out)
          clear NO hdl
          go_wp2_with fail
          rw [HWA.out, ← Hp.out]
          refine HF1.out.mono ?_
          rintro e w' ⟨rfl, rfl⟩
          clear y1
          go_wp2
          rw [HWB.out]
          go_ret2
          exact KEY.out
        have hM4I : ¬ (M : Int) < 4 := by omega
        obtain ⟨y, Hy⟩ : ∃ y, Hid (y = Rc.num (r.take 4)) := ⟨_, Lib.hid rfl⟩
        have hy32 : y < 4294967296 := by
          have h2 := Rc.num_lt (r.take 4)
          have h3 : 256 ^ (r.take 4).length ≤ 256 ^ 4 := Nat.pow_le_pow_right (by omega) (by rw [List.length_take]; omega)
          rw [← Hy.out] at h2
          have h4 : (256 : Nat) ^ 4 = 4294967296 := by decide
          omega
        obtain ⟨g3, o3, rfl, hg3, _⟩ := HSR2.out (by intro e; rw [e] at HM; have := HM.out; simp at this; omega)
        obtain ⟨A4, hsl4, hsee4⟩ := run_head (P := Try.prog) Try.underlying27 (fun w => by exact Try.sizeOf5 w) (some ⟨g3, o3, none⟩) M c3 4 (by omega)
        rw [show ((4 : Nat) : Int) = 4 from rfl] at hsl4
        have HF2 : Hid (Calls Try.prog 39 #[.slice A4 4 c3] w2 fun e w' => e = .returned (.int .u64 (y : Int)) ∧ w2 = w') := Lib.hid (by
          have := rfrom_any A4 4 c3 (r.take 4) _ w2 (by rw [List.length_take, ← HM.out]; omega) (by rw [List.length_take]; omega) (hsee4 w2 _ _ (HSR2.out.take 4))
          rwa [← Hy.out] at this)
        clear hsee4
        by_cases hyb : 200000 < y
        case pos =>
          have hybI : (200000 : Int) < (y : Int) := by omega
          have KEY := Lib.hid (NO.out (by
            unfold cutR
            rw [HCV.out]
            unfold cutV
            rw [if_neg (by rw [← HM.out]; exact hM4), ← Hy.out]
            split
            · rfl
            · rename_i hge
              simp only [Option.bind_some, List.length_take]
              rw [if_neg (by omega)]) w2 (.slice none 0 0) HB2.out)
          clear NO hdl
          go_wp2_with fail
          rw [HWA.out, ← Hp.out]
          refine HF1.out.mono ?_
          rintro e w' ⟨rfl, rfl⟩
          clear y1
          go_wp2_with fail
          rw [HWB.out]
          refine HF2.out.mono ?_
          rintro e w' ⟨rfl, rfl⟩
          go_wp2
          go_ret2
          exact KEY.out
        have hybI : ¬ (200000 : Int) < (y : Int) := by omega
        by_cases hyM : M < 4 + y
        case pos =>
          have hyMI : (M : Int) < 4 + (y : Int) := by omega
          have KEY := Lib.hid (NO.out (cutR_no <| by
            rw [HCV.out]
            unfold cutV
            rw [if_neg (by rw [← HM.out]; exact hM4), ← Hy.out, if_pos (by rw [List.length_drop, ← HM.out]; omega)]) w2 (.slice none 0 0) HB2.out)
          clear NO hdl
          go_wp2_with fail
          rw [HWA.out, ← Hp.out]
          refine HF1.out.mono ?_
          rintro e w' ⟨rfl, rfl⟩
          clear y1
          go_wp2_with fail
          rw [HWB.out]
          refine HF2.out.mono ?_
          rintro e w' ⟨rfl, rfl⟩
          go_wp2_with fail
          refine HF2.out.mono ?_
          rintro e w' ⟨rfl, rfl⟩
          go_wp2
          go_ret2
          exact KEY.out
        have hyMI : ¬ (M : Int) < 4 + (y : Int) := by omega
        have hyM' : y + 4 ≤ M := by omega
        obtain ⟨val, Hval⟩ : ∃ val, Hid (val = (r.drop 4).take y) := ⟨_, Lib.hid rfl⟩
        obtain ⟨r2, Hr2⟩ : ∃ r2, Hid (r2 = (r.drop 4).drop y) := ⟨_, Lib.hid rfl⟩
        have hvl : y = val.length := by rw [Hval.out, List.length_take, List.length_drop, ← HM.out]; omega
        have hr2l : M - (y + 4) = r2.length := by rw [Hr2.out, List.length_drop, List.length_drop, ← HM.out]; omega
        have hcR : cutR (c0 :: t) = some (⟨ks, val, false⟩, r2) := by
          unfold cutR
          rw [HCV.out]
          unfold cutV
          rw [if_neg (by rw [← HM.out]; exact hM4), ← Hy.out, if_neg (by rw [List.length_drop, ← HM.out]; omega)]
          simp only [Option.bind_some]
          rw [← Hval.out, if_pos (by omega), ← Hks.out, ← Hr2.out]
        have HST : Hid (decR l = (decR r2).map fun t => D.map DEnt.pt ++ ⟨ks, val, false⟩ :: t) := Lib.hid (by
          rw [hdl, decR_cons, hcR]
          simp only [Option.map_map]
          rfl)
        obtain ⟨a5, hsl5, hsee5⟩ := run_mid_some (P := Try.prog) Try.underlying27 (fun w => by exact Try.sizeOf5 w) ⟨g3, o3, none⟩ M c3 4 (y + 4) (by omega) hyM' hMc ((y : Int) + 4) 4 (by omega) rfl
        rw [show y + 4 - 4 = y by omega] at hsl5 hsee5
        obtain ⟨A6, hsl6, hsee6⟩ := run_tail (P := Try.prog) Try.underlying27 (fun w => by exact Try.sizeOf5 w) HSR2.out M c3 (y + 4) HM.out hyM' hMc
        rw [show ((y + 4 : Nat) : Int) = (y : Int) + 4 by omega] at hsl6
        have hrd2 : r.drop (y + 4) = r2 := by rw [Hr2.out, List.drop_drop, show y + 4 = 4 + y by omega]
        rw [hrd2] at hsee6
        have ha3 : Below w2.heap.size w2 (w2.alloc (.cells #[] 5)) := (Below.refl _ _).alloc (Nat.le_refl _) _
        have hse3 : Sees (w2.alloc (.cells #[] 5)) w0.heap.size (some a5) val := by
          rw [Hval.out]
          exact (hsee5 w2 _ _ HM.out.symm HSR2.out).below ha3 HB2.out.size
        obtain ⟨v5, w5, hr5, hrow5, ho5, hg5⟩ := brow_sees (w2.alloc (.cells #[] 5)) (.slice (some ⟨w2.heap.size, 0, none⟩) 0 0) [] (BRow.lit w2 0) w0.heap.size (some a5) y (c3 - 4) val hvl hse3 (by simp; omega) 27
        have hb5 : Below w2.heap.size w2 w5 := ha3.trans (ho5.below (by simp) (fun b hb => by simp [blk, Value.ownBlock] at hb; omega))
        rw [List.nil_append] at hrow5
        obtain ⟨A5, c5, rfl, hc51, hc52⟩ := hrow5.shape
        rw [← hvl] at hr5
        have HX5 : Hid (Blk w5 p 80 #[.string ks, .slice none 0 0, .bool false]) := Lib.hid (HX2.out.below hb5 hpw2)
        have f5 := HX5.out.frozen 1
        have x5 := HX5.out.cell 1 _ rfl
        have HX6 : Hid (Blk (w5.setCell ⟨p, 1, none⟩ (.slice A5 y c5)) p 80 #[.string ks, .slice A5 y c5, .bool false]) := Lib.hid (HX5.out.set 1 (.slice A5 y c5))
        have z0 := HX6.out.cell 0 _ rfl
        have z1 := HX6.out.cell 1 _ rfl
        have z2 := HX6.out.cell 2 _ rfl
        have hb5w : Below w0.heap.size w0 w5 := HB2.out.trans (hb5.mono HB2.out.size)
        have hb6w : Below w0.heap.size w0 (w5.setCell ⟨p, 1, none⟩ (.slice A5 y c5)) := below_set hb5w hpw _ _
        have hnb5 : NoB w5 p := NoB.of_cells HX5.out (by decide)
        have hrow6 : RDRow (w5.setCell ⟨p, 1, none⟩ (.slice A5 y c5)) (.slice Al D.length cl) D := (HROW2.out.below hb5).only (S := [p]) (only_setCell w5 ⟨p, 1, none⟩ _) (fun b hb => by
          rw [List.mem_singleton] at hb; subst hb
          exact ⟨fun hm => by have := HLT.out _ hm; omega, hnb5⟩)
        have hvs6 : VSee (w5.setCell ⟨p, 1, none⟩ (.slice A5 y c5)) (.slice A5 val.length c5) val := (VSee.of_row hrow5).only (S := [p]) (only_setCell w5 ⟨p, 1, none⟩ _) (fun b hb => by
          rw [List.mem_singleton] at hb; subst hb; exact hnb5)
        rw [← hvl] at hvs6
        have hba : Below (w5.setCell ⟨p, 1, none⟩ (.slice A5 y c5)).heap.size (w5.setCell ⟨p, 1, none⟩ (.slice A5 y c5)) ((w5.setCell ⟨p, 1, none⟩ (.slice A5 y c5)).alloc (.cells #[.string ks, .slice A5 y c5, .bool false] 80)) := (Below.refl _ _).alloc (Nat.le_refl _) _
        obtain ⟨A7, c7, D7, w7, HD7, hap, hd7, ho7, hg7⟩ := rdrow_one ((w5.setCell ⟨p, 1, none⟩ (.slice A5 y c5)).alloc (.cells #[.string ks, .slice A5 y c5, .bool false] 80)) _ D (hrow6.below hba) ks A5 y c5 false val (w5.setCell ⟨p, 1, none⟩ (.slice A5 y c5)).heap.size (fun j => by simp only [World.cell?, heap_alloc_new]; rfl) (hvs6.below hba) (by omega)
        have hsz : (w5.setCell ⟨p, 1, none⟩ (.slice A5 y c5)).heap.size = w5.heap.size := by simp [World.setCell]
        have hbA := hb6w.trans (hba.mono hb6w.size)
        have hb7 : Below w0.heap.size ((w5.setCell ⟨p, 1, none⟩ (.slice A5 y c5)).alloc (.cells #[.string ks, .slice A5 y c5, .bool false] 80)) w7 := ho7.below hbA.size HHI.out
        have hs6 : Sees w7 w0.heap.size A6 r2 := (((hsee6.below hb5 HB2.out.size).below (below_set (Below.refl w0.heap.size w5) hpw _ _) (Nat.le_refl _)).below hba hb6w.size).below hb7 (Nat.le_refl _)
        have HNEXT : Hid (RDt w0 w7 l r2 A6 A7 (c3 - (y + 4)) c7 D7) := Lib.hid ⟨⟨by rw [← hr2l]; omega, by have := HCBM.out; omega, hs6⟩, hd7, hbA.trans hb7, fun b hb => (hg7 b hb).elim (HHI.out b) (fun h' => Nat.le_trans hbA.size h'),
          by rw [HST.out, HD7.out, List.map_append]; simp [DEnt.pt], by rw [HD7.out, List.length_append, ← hr2l]; simp; have := HFEW.out; omega, fun e he => by
            rw [HD7.out] at he
            rcases List.mem_append.1 he with he | he
            · exact HKEYS.out e he
            · rw [List.mem_singleton] at he; subst he; exact HKS.out⟩
        rw [hsz] at hap
        have HAP := Lib.hid hap
        have HR5 := Lib.hid hr5
        have HML : Hid (M - (y + 4) < N) := Lib.hid (by omega)
        have HR2L := Lib.hid hr2l
        have hc34 : M ≤ c3 := hMc
        clear hcR hba hap hd7 ho7 hg7 hsz hbA hb7 hdl NO hb5 hb5w hb6w hnb5 hrow6 hvs6 hrow5 ho5 hg5 hse3 ha3 hsee5 hsee6 hrd2 hr5 hs6 hvl hr2l hc51 hc52 HX5 HX6 HROW2 hg3
        go_wp2_with fail
        rw [HWA.out, ← Hp.out]
        refine HF1.out.mono ?_
        rintro e w' ⟨rfl, rfl⟩
        clear y1
        go_wp2_with fail
        rw [HWB.out]
        clear q0 q1 q2
        refine HF2.out.mono ?_
        rintro e w' ⟨rfl, rfl⟩
        go_wp2_with fail
        refine HF2.out.mono ?_
        rintro e w' ⟨rfl, rfl⟩
        go_wp2_with fail
        refine HF2.out.mono ?_
        rintro e w' ⟨rfl, rfl⟩
        go_wp2_with (at_builtin; first | (refine wpList_append_run rfl _ _ 27 rfl _ (.slice (some ⟨w2.heap.size, 0, none⟩) 0 0) (.slice (some a5) y (c3 - 4)) rfl rfl (.slice A5 y c5) w5 (by exact HR5.out) ?_) | (refine wpList_append_run rfl _ _ 47 rfl _ (.slice Al D.length cl) (.slice (some ⟨w5.heap.size, 0, none⟩) 1 1) rfl rfl (.slice A7 D7.length c7) w7 (by exact HAP.out) ?_))
        go_roundw
        case rel => exact ⟨r2, A6, A7, c3 - (y + 4), c7, D7, by rw [HR2L.out], rfl, HNEXT⟩
        case measure => exact HML.out
end Go.Proofs.Ytgpkdnnlgafenaa

namespace Go.Proofs.Ytgpkdnnlgafenaa
open Go.RowKit
set_option linter.unusedVariables false
set_option linter.unusedSimpArgs false

def opsRkld3 : Array Oper := #[
  { dst := some 14, op := Op.move (Operand.tmp 5), type := 4, pos := "ref.go:247", after := #[], guard := none },
  { dst := some 15, op := Op.unOp UnOp.not 4 (Operand.tmp 14), type := 4, pos := "ref.go:247", after := #[{ on := 0, ground := Ground.data }], guard := none },
  { dst := some 16, op := Op.move (Operand.tmp 15), type := 4, pos := "ref.go:247", after := #[{ on := 1, ground := Ground.data }], guard := none },
  { dst := some 17, op := Op.move (Operand.tmp 6), type := 42, pos := "ref.go:247", after := #[{ on := 2, ground := Ground.guard }], guard := some (2, false) },
  { dst := some 18, op := Op.move (Operand.tmp 4), type := 47, pos := "ref.go:247", after := #[{ on := 2, ground := Ground.guard }], guard := some (2, false) },
  { dst := some 19, op := Op.call { callee := Callee.value (Operand.func 18), args := #[Operand.tmp 17, Operand.tmp 18], argTypes := #[42, 47] }, type := 25, pos := "ref.go:247", after := #[{ on := 3, ground := Ground.data }, { on := 4, ground := Ground.data }, { on := 2, ground := Ground.chain }, { on := 2, ground := Ground.guard }], guard := some (2, false) },
  { dst := some 20, op := Op.binOp BinOp.neq 25 (Operand.tmp 19) (Operand.const (Value.int IntKind.i64 0)) 25, type := 4, pos := "ref.go:247", after := #[{ on := 5, ground := Ground.data }, { on := 2, ground := Ground.guard }], guard := some (2, false) },
  { dst := some 21, op := Op.pick (Operand.tmp 16) (Operand.const (Value.bool true)) (Operand.tmp 20), type := 4, pos := "ref.go:247", after := #[{ on := 2, ground := Ground.data }, { on := 6, ground := Ground.data }], guard := none },
  { dst := some 22, op := Op.move (Operand.tmp 21), type := 4, pos := "ref.go:247", after := #[{ on := 7, ground := Ground.data }, { on := 5, ground := Ground.chain }], guard := none },
  { dst := some 23, op := Op.move (Operand.tmp 6), type := 42, pos := "ref.go:247", after := #[{ on := 8, ground := Ground.guard }], guard := some (8, false) },
  { dst := some 24, op := Op.call { callee := Callee.value (Operand.func 25), args := #[Operand.tmp 23], argTypes := #[42] }, type := 27, pos := "ref.go:247", after := #[{ on := 9, ground := Ground.data }, { on := 8, ground := Ground.chain }, { on := 8, ground := Ground.guard }], guard := some (8, false) },
  { dst := some 25, op := Op.convert 27 9 (Operand.tmp 24), type := 9, pos := "ref.go:247", after := #[{ on := 10, ground := Ground.data }, { on := 8, ground := Ground.guard }], guard := some (8, false) },
  { dst := some 26, op := Op.move (Operand.tmp 0), type := 27, pos := "ref.go:247", after := #[{ on := 8, ground := Ground.guard }], guard := some (8, false) },
  { dst := some 27, op := Op.convert 27 9 (Operand.tmp 26), type := 9, pos := "ref.go:247", after := #[{ on := 12, ground := Ground.data }, { on := 8, ground := Ground.guard }], guard := some (8, false) },
  { dst := some 28, op := Op.binOp BinOp.neq 9 (Operand.tmp 25) (Operand.tmp 27) 9, type := 4, pos := "ref.go:247", after := #[{ on := 11, ground := Ground.data }, { on := 13, ground := Ground.data }, { on := 8, ground := Ground.guard }], guard := some (8, false) },
  { dst := some 29, op := Op.pick (Operand.tmp 22) (Operand.const (Value.bool true)) (Operand.tmp 28), type := 4, pos := "ref.go:247", after := #[{ on := 8, ground := Ground.data }, { on := 14, ground := Ground.data }], guard := none }]

def rkld3Vals (tb nb cb n4 c4 nx : Nat) (A0 A4 : Option Addr) (sb sx : ByteArray) (bq : Bool) : List (Nat × Nat × Value) := [(0, 14, .bool true), (1, 15, .bool false), (2, 16, .bool false), (3, 17, .pointer (some ⟨tb, 0, none⟩)), (4, 18, .slice A4 n4 c4), (6, 20, .bool false), (7, 21, .bool false), (8, 22, .bool false), (9, 23, .pointer (some ⟨tb, 0, none⟩)), (11, 25, .string sx), (12, 26, .slice A0 nb cb), (13, 27, .string sb), (14, 28, .bool bq), (15, 29, .bool bq)]
def rkld3C : List (Nat × Nat) := [(5, 19), (10, 24)]

set_option maxHeartbeats 8000000 in
set_option maxRecDepth 100000 in
theorem rkld3 {Q : Exit → Act → World → Prop} {a0 : Act} {wp : World} (tb nb cb n4 c4 nx : Nat) (A0 A4 : Option Addr) (sb sx : ByteArray) (bq : Bool) (S : Nat → (Nat → Value) → World → Prop)
    (hsz : 29 < a0.tmps.size) (in0 : a0.eval (.tmp 0) = .slice A0 nb cb) (in4 : a0.eval (.tmp 4) = .slice A4 n4 c4) (in5 : a0.eval (.tmp 5) = .bool true) (in6 : a0.eval (.tmp 6) = .pointer (some ⟨tb, 0, none⟩))
    (hq : (sx.toList == sb.toList) = !bq) (hq2 : (sx.data.toList == sb.data.toList) = !bq)
    (hcb : ∀ p R w, S p R w → (convert 27 9 (.slice A0 nb cb)).run Try.prog w = .ok (.string sb) w)
    (hcv : ∀ p R w, S p R w → 1 < p → ∃ A c, R 1 = .slice A nx c ∧ (convert 27 9 (.slice A nx c)).run Try.prog w = .ok (.string sx) w)
    (hok : ∀ p R w, S p R w → 0 < p → R 0 = .int .i64 0)
    (hc0 : ∀ R w, S 0 R w → Calls Try.prog 18 #[.pointer (some ⟨tb, 0, none⟩), .slice A4 n4 c4] w fun e w' => ∃ v, e = .returned v ∧ S 1 (setR R 0 v) w')
    (hc1 : ∀ R w, S 1 R w → Calls Try.prog 25 #[.pointer (some ⟨tb, 0, none⟩)] w fun e w' => ∃ v, e = .returned v ∧ S 2 (setR R 1 v) w')
    (hS : S 0 (resOf rkld3C fun t => a0.eval (.tmp t)) wp.drew)
    (fin : ∀ a w, Fr [14, 15, 16, 17, 18, 19, 20, 21, 22, 23, 24, 25, 26, 27, 28, 29] a0 a → a.eval (.tmp 29) = .bool bq → S 2 (resOf rkld3C fun t => a.eval (.tmp t)) w → Q .normal a w) :
    (Code.region 3 opsRkld3 true).wp Try.prog Q a0 wp := by
  refine region_inv (by kernel_rfl) [14, 15, 16, 17, 18, 19, 20, 21, 22, 23, 24, 25, 26, 27, 28, 29] (by kernel_rfl) (by kernel_rfl) (fun t ht => by simp at ht; omega) (GV (rkld3Vals tb nb cb n4 c4 nx A0 A4 sb sx bq) rkld3C S) (.start hS) ?_
    (fun L a w hf hall hG => fin a w hf (hG.val 13 15 29 _ rfl (hall 15 (by decide))) (hG.fin (fun c hc => by simp [rkld3C] at hc; rcases hc with rfl | rfl <;> exact hall _ (by decide))))
  clear hS fin
  intro ix oo ho L a w hfr hG hLi hdep hcl K hK
  have e0 : a.tmps[0]?.getD undef = .slice A0 nb cb := by rw [← ev]; exact (hfr.same 0 (by decide)).trans in0
  have e4 : a.tmps[4]?.getD undef = .slice A4 n4 c4 := by rw [← ev]; exact (hfr.same 4 (by decide)).trans in4
  have e5 : a.tmps[5]?.getD undef = .bool true := by rw [← ev]; exact (hfr.same 5 (by decide)).trans in5
  have e6 : a.tmps[6]?.getD undef = .pointer (some ⟨tb, 0, none⟩) := by rw [← ev]; exact (hfr.same 6 (by decide)).trans in6
  clear in0 in4 in5 in6
  match ix, ho with
  | 0, ho =>
    simp only [opsRkld3, List.getElem?_toArray, List.getElem?_cons_zero, Option.some.injEq] at ho
    subst ho
    rw [if_pos (show Region.wanted _ _ = true from rfl)]
    have hfin := hK (.bool true) w (hG.quiet 0 0 14 _ rfl (by kernel_rfl) (by kernel_rfl))
    have HK := Lib.hid hfin
    clear hG hcl hdep hfr hK hfin hLi 
    go_simp
    exact HK.out
  | 1, ho =>
    simp only [opsRkld3, List.getElem?_toArray, List.getElem?_cons_succ, List.getElem?_cons_zero, Option.some.injEq] at ho
    subst ho
    have x14 : a.tmps[14]?.getD undef = .bool true := by rw [← ev]; exact hG.val 0 0 14 _ rfl (hdep ⟨0, .data⟩ (by simp) rfl)
    rw [if_pos (show Region.wanted _ _ = true from rfl)]
    have hfin := hK (.bool false) w (hG.quiet 1 1 15 _ rfl (by kernel_rfl) (by kernel_rfl))
    have HK := Lib.hid hfin
    clear hG hcl hdep hfr hK hfin hLi 
    go_simp
    exact HK.out
  | 2, ho =>
    simp only [opsRkld3, List.getElem?_toArray, List.getElem?_cons_succ, List.getElem?_cons_zero, Option.some.injEq] at ho
    subst ho
    have x15 : a.tmps[15]?.getD undef = .bool false := by rw [← ev]; exact hG.val 1 1 15 _ rfl (hdep ⟨1, .data⟩ (by simp) rfl)
    rw [if_pos (show Region.wanted _ _ = true from rfl)]
    have hfin := hK (.bool false) w (hG.quiet 2 2 16 _ rfl (by kernel_rfl) (by kernel_rfl))
    have HK := Lib.hid hfin
    clear hG hcl hdep hfr hK hfin hLi 
    go_simp
    exact HK.out
  | 3, ho =>
    simp only [opsRkld3, List.getElem?_toArray, List.getElem?_cons_succ, List.getElem?_cons_zero, Option.some.injEq] at ho
    subst ho
    have xg : a.tmps[16]?.getD undef = .bool false := by rw [← ev]; exact hG.val 2 2 16 _ rfl (hdep ⟨2, .guard⟩ (by simp) rfl)
    have hw := wanted_of (ops := opsRkld3) (a := a) (o := { dst := some 17, op := Op.move (Operand.tmp 6), type := 42, pos := "ref.go:247", after := #[{ on := 2, ground := Ground.guard }], guard := some (2, false) }) (g := 2) (s := 16) (b := false) (b' := false) rfl rfl xg
    replace hw := hw.trans (show (false == false) = true from rfl)
    rw [if_pos hw]
    clear hw xg
    have hfin := hK (.pointer (some ⟨tb, 0, none⟩)) w (hG.quiet 3 3 17 _ rfl (by kernel_rfl) (by kernel_rfl))
    have HK := Lib.hid hfin
    clear hG hcl hdep hfr hK hfin hLi 
    go_simp
    exact HK.out
  | 4, ho =>
    simp only [opsRkld3, List.getElem?_toArray, List.getElem?_cons_succ, List.getElem?_cons_zero, Option.some.injEq] at ho
    subst ho
    have xg : a.tmps[16]?.getD undef = .bool false := by rw [← ev]; exact hG.val 2 2 16 _ rfl (hdep ⟨2, .guard⟩ (by simp) rfl)
    have hw := wanted_of (ops := opsRkld3) (a := a) (o := { dst := some 18, op := Op.move (Operand.tmp 4), type := 47, pos := "ref.go:247", after := #[{ on := 2, ground := Ground.guard }], guard := some (2, false) }) (g := 2) (s := 16) (b := false) (b' := false) rfl rfl xg
    replace hw := hw.trans (show (false == false) = true from rfl)
    rw [if_pos hw]
    clear hw xg
    have hfin := hK (.slice A4 n4 c4) w (hG.quiet 4 4 18 _ rfl (by kernel_rfl) (by kernel_rfl))
    have HK := Lib.hid hfin
    clear hG hcl hdep hfr hK hfin hLi 
    go_simp
    exact HK.out
  | 5, ho =>
    simp only [opsRkld3, List.getElem?_toArray, List.getElem?_cons_succ, List.getElem?_cons_zero, Option.some.injEq] at ho
    subst ho
    have x17 : a.tmps[17]?.getD undef = .pointer (some ⟨tb, 0, none⟩) := by rw [← ev]; exact hG.val 3 3 17 _ rfl (hdep ⟨3, .data⟩ (by simp) rfl)
    have x18 : a.tmps[18]?.getD undef = .slice A4 n4 c4 := by rw [← ev]; exact hG.val 4 4 18 _ rfl (hdep ⟨4, .data⟩ (by simp) rfl)
    have xg : a.tmps[16]?.getD undef = .bool false := by rw [← ev]; exact hG.val 2 2 16 _ rfl (hdep ⟨2, .chain⟩ (by simp) rfl)
    have hw := wanted_of (ops := opsRkld3) (a := a) (o := { dst := some 19, op := Op.call { callee := Callee.value (Operand.func 18), args := #[Operand.tmp 17, Operand.tmp 18], argTypes := #[42, 47] }, type := 25, pos := "ref.go:247", after := #[{ on := 3, ground := Ground.data }, { on := 4, ground := Ground.data }, { on := 2, ground := Ground.chain }, { on := 2, ground := Ground.guard }], guard := some (2, false) }) (g := 2) (s := 16) (b := false) (b' := false) rfl rfl xg
    replace hw := hw.trans (show (false == false) = true from rfl)
    rw [if_pos hw]
    clear hw xg
    have hSj := hG.at 0 (5, 19) rfl hLi (fun c h0 hc => absurd h0 (by decide))
    have hfin := fun v w' hs => hK v w' (hG.call 0 (5, 19) rfl hLi (fun c h0 hc => absurd h0 (by decide)) (by kernel_rfl) v w' hs)
    have HK := Lib.hid hfin
    generalize (resOf rkld3C fun t => a.eval (.tmp t)) = R at *
    clear hG hcl hdep hfr hK hfin hLi
    have hc := Lib.hid (hc0 _ _ hSj)
    clear hSj hq hq2 hcb hcv hok hc0 hc1
    go_simp
    go_at_call 18
    refine hc.out.mono ?_
    rintro e w' ⟨v, rfl, hs⟩
    exact HK.out v w' hs
  | 6, ho =>
    simp only [opsRkld3, List.getElem?_toArray, List.getElem?_cons_succ, List.getElem?_cons_zero, Option.some.injEq] at ho
    subst ho
    have xg : a.tmps[16]?.getD undef = .bool false := by rw [← ev]; exact hG.val 2 2 16 _ rfl (hdep ⟨2, .guard⟩ (by simp) rfl)
    have hw := wanted_of (ops := opsRkld3) (a := a) (o := { dst := some 20, op := Op.binOp BinOp.neq 25 (Operand.tmp 19) (Operand.const (Value.int IntKind.i64 0)) 25, type := 4, pos := "ref.go:247", after := #[{ on := 5, ground := Ground.data }, { on := 2, ground := Ground.guard }], guard := some (2, false) }) (g := 2) (s := 16) (b := false) (b' := false) rfl rfl xg
    replace hw := hw.trans (show (false == false) = true from rfl)
    rw [if_pos hw]
    clear hw xg
    obtain ⟨ph, hSp, hdone⟩ := hG.any
    have hd19 : 0 < ph := hdone 0 (5, 19) rfl (hdep ⟨5, .data⟩ (by simp) rfl)
    have r19 : a.tmps[19]?.getD undef = resOf rkld3C (fun t => a.eval (.tmp t)) 0 := by rw [← ev]; exact (resOf_at (C := rkld3C) (j := 0) rfl a).symm
    have hfin := hK (.bool false) w (hG.quiet 5 6 20 _ rfl (by kernel_rfl) (by kernel_rfl))
    have HK := Lib.hid hfin
    generalize (resOf rkld3C fun t => a.eval (.tmp t)) = R at *
    rw [hok _ _ _ hSp hd19] at r19
    clear hq hq2 hcb hcv hok hc0 hc1 hd19
    clear hSp hdone
    clear hG hcl hdep hfr hK hfin hLi 
    go_simp
    exact HK.out
  | 7, ho =>
    simp only [opsRkld3, List.getElem?_toArray, List.getElem?_cons_succ, List.getElem?_cons_zero, Option.some.injEq] at ho
    subst ho
    have x16 : a.tmps[16]?.getD undef = .bool false := by rw [← ev]; exact hG.val 2 2 16 _ rfl (hdep ⟨2, .data⟩ (by simp) rfl)
    have x20 : a.tmps[20]?.getD undef = .bool false := by rw [← ev]; exact hG.val 5 6 20 _ rfl (hdep ⟨6, .data⟩ (by simp) rfl)
    rw [if_pos (show Region.wanted _ _ = true from rfl)]
    have hfin := hK (.bool false) w (hG.quiet 6 7 21 _ rfl (by kernel_rfl) (by kernel_rfl))
    have HK := Lib.hid hfin
    clear hG hcl hdep hfr hK hfin hLi 
    go_simp
    exact HK.out
  | 8, ho =>
    simp only [opsRkld3, List.getElem?_toArray, List.getElem?_cons_succ, List.getElem?_cons_zero, Option.some.injEq] at ho
    subst ho
    have x21 : a.tmps[21]?.getD undef = .bool false := by rw [← ev]; exact hG.val 6 7 21 _ rfl (hdep ⟨7, .data⟩ (by simp) rfl)
    rw [if_pos (show Region.wanted _ _ = true from rfl)]
    have hfin := hK (.bool false) w (hG.quiet 7 8 22 _ rfl (by kernel_rfl) (by kernel_rfl))
    have HK := Lib.hid hfin
    clear hG hcl hdep hfr hK hfin hLi 
    go_simp
    exact HK.out
  | 9, ho =>
    simp only [opsRkld3, List.getElem?_toArray, List.getElem?_cons_succ, List.getElem?_cons_zero, Option.some.injEq] at ho
    subst ho
    have xg : a.tmps[22]?.getD undef = .bool false := by rw [← ev]; exact hG.val 7 8 22 _ rfl (hdep ⟨8, .guard⟩ (by simp) rfl)
    have hw := wanted_of (ops := opsRkld3) (a := a) (o := { dst := some 23, op := Op.move (Operand.tmp 6), type := 42, pos := "ref.go:247", after := #[{ on := 8, ground := Ground.guard }], guard := some (8, false) }) (g := 8) (s := 22) (b := false) (b' := false) rfl rfl xg
    replace hw := hw.trans (show (false == false) = true from rfl)
    rw [if_pos hw]
    clear hw xg
    have hfin := hK (.pointer (some ⟨tb, 0, none⟩)) w (hG.quiet 8 9 23 _ rfl (by kernel_rfl) (by kernel_rfl))
    have HK := Lib.hid hfin
    clear hG hcl hdep hfr hK hfin hLi 
    go_simp
    exact HK.out
  | 10, ho =>
    simp only [opsRkld3, List.getElem?_toArray, List.getElem?_cons_succ, List.getElem?_cons_zero, Option.some.injEq] at ho
    subst ho
    have x23 : a.tmps[23]?.getD undef = .pointer (some ⟨tb, 0, none⟩) := by rw [← ev]; exact hG.val 8 9 23 _ rfl (hdep ⟨9, .data⟩ (by simp) rfl)
    have xg : a.tmps[22]?.getD undef = .bool false := by rw [← ev]; exact hG.val 7 8 22 _ rfl (hdep ⟨8, .chain⟩ (by simp) rfl)
    have hw := wanted_of (ops := opsRkld3) (a := a) (o := { dst := some 24, op := Op.call { callee := Callee.value (Operand.func 25), args := #[Operand.tmp 23], argTypes := #[42] }, type := 27, pos := "ref.go:247", after := #[{ on := 9, ground := Ground.data }, { on := 8, ground := Ground.chain }, { on := 8, ground := Ground.guard }], guard := some (8, false) }) (g := 8) (s := 22) (b := false) (b' := false) rfl rfl xg
    replace hw := hw.trans (show (false == false) = true from rfl)
    rw [if_pos hw]
    clear hw xg
    have hSj := hG.at 1 (10, 24) rfl hLi (fun c h0 hc => by simp [rkld3C] at hc; subst hc; exact hcl 8 _ rfl (hdep ⟨8, .chain⟩ (by simp) rfl) ⟨5, .chain⟩ (by simp [opsRkld3]) rfl)
    have hfin := fun v w' hs => hK v w' (hG.call 1 (10, 24) rfl hLi (fun c h0 hc => by simp [rkld3C] at hc; subst hc; exact hcl 8 _ rfl (hdep ⟨8, .chain⟩ (by simp) rfl) ⟨5, .chain⟩ (by simp [opsRkld3]) rfl) (by kernel_rfl) v w' hs)
    have HK := Lib.hid hfin
    generalize (resOf rkld3C fun t => a.eval (.tmp t)) = R at *
    clear hG hcl hdep hfr hK hfin hLi
    have hc := Lib.hid (hc1 _ _ hSj)
    clear hSj hq hq2 hcb hcv hok hc0 hc1
    go_simp
    go_at_call 25
    refine hc.out.mono ?_
    rintro e w' ⟨v, rfl, hs⟩
    exact HK.out v w' hs
  | 11, ho =>
    simp only [opsRkld3, List.getElem?_toArray, List.getElem?_cons_succ, List.getElem?_cons_zero, Option.some.injEq] at ho
    subst ho
    have xg : a.tmps[22]?.getD undef = .bool false := by rw [← ev]; exact hG.val 7 8 22 _ rfl (hdep ⟨8, .guard⟩ (by simp) rfl)
    have hw := wanted_of (ops := opsRkld3) (a := a) (o := { dst := some 25, op := Op.convert 27 9 (Operand.tmp 24), type := 9, pos := "ref.go:247", after := #[{ on := 10, ground := Ground.data }, { on := 8, ground := Ground.guard }], guard := some (8, false) }) (g := 8) (s := 22) (b := false) (b' := false) rfl rfl xg
    replace hw := hw.trans (show (false == false) = true from rfl)
    rw [if_pos hw]
    clear hw xg
    obtain ⟨ph, hSp, hdone⟩ := hG.any
    have hd24 : 1 < ph := hdone 1 (10, 24) rfl (hdep ⟨10, .data⟩ (by simp) rfl)
    have r24 : a.tmps[24]?.getD undef = resOf rkld3C (fun t => a.eval (.tmp t)) 1 := by rw [← ev]; exact (resOf_at (C := rkld3C) (j := 1) rfl a).symm
    have hfin := hK (.string sx) w (hG.quiet 9 11 25 _ rfl (by kernel_rfl) (by kernel_rfl))
    have HK := Lib.hid hfin
    generalize (resOf rkld3C fun t => a.eval (.tmp t)) = R at *
    obtain ⟨A2, c2, q1, q2⟩ := hcv _ _ _ hSp hd24
    rw [q1] at r24
    clear hq hq2 hcb hcv hok hc0 hc1 q1 hd24
    clear hSp hdone
    clear hG hcl hdep hfr hK hfin hLi 
    go_simp
    exact HK.out
  | 12, ho =>
    simp only [opsRkld3, List.getElem?_toArray, List.getElem?_cons_succ, List.getElem?_cons_zero, Option.some.injEq] at ho
    subst ho
    have xg : a.tmps[22]?.getD undef = .bool false := by rw [← ev]; exact hG.val 7 8 22 _ rfl (hdep ⟨8, .guard⟩ (by simp) rfl)
    have hw := wanted_of (ops := opsRkld3) (a := a) (o := { dst := some 26, op := Op.move (Operand.tmp 0), type := 27, pos := "ref.go:247", after := #[{ on := 8, ground := Ground.guard }], guard := some (8, false) }) (g := 8) (s := 22) (b := false) (b' := false) rfl rfl xg
    replace hw := hw.trans (show (false == false) = true from rfl)
    rw [if_pos hw]
    clear hw xg
    have hfin := hK (.slice A0 nb cb) w (hG.quiet 10 12 26 _ rfl (by kernel_rfl) (by kernel_rfl))
    have HK := Lib.hid hfin
    clear hG hcl hdep hfr hK hfin hLi 
    go_simp
    exact HK.out
  | 13, ho =>
    simp only [opsRkld3, List.getElem?_toArray, List.getElem?_cons_succ, List.getElem?_cons_zero, Option.some.injEq] at ho
    subst ho
    have x26 : a.tmps[26]?.getD undef = .slice A0 nb cb := by rw [← ev]; exact hG.val 10 12 26 _ rfl (hdep ⟨12, .data⟩ (by simp) rfl)
    have xg : a.tmps[22]?.getD undef = .bool false := by rw [← ev]; exact hG.val 7 8 22 _ rfl (hdep ⟨8, .guard⟩ (by simp) rfl)
    have hw := wanted_of (ops := opsRkld3) (a := a) (o := { dst := some 27, op := Op.convert 27 9 (Operand.tmp 26), type := 9, pos := "ref.go:247", after := #[{ on := 12, ground := Ground.data }, { on := 8, ground := Ground.guard }], guard := some (8, false) }) (g := 8) (s := 22) (b := false) (b' := false) rfl rfl xg
    replace hw := hw.trans (show (false == false) = true from rfl)
    rw [if_pos hw]
    clear hw xg
    obtain ⟨ph, hSp, hdone⟩ := hG.any
    have hfin := hK (.string sb) w (hG.quiet 11 13 27 _ rfl (by kernel_rfl) (by kernel_rfl))
    have HK := Lib.hid hfin
    generalize (resOf rkld3C fun t => a.eval (.tmp t)) = R at *
    have q2 := hcb _ _ _ hSp
    clear hq hq2 hcb hcv hok hc0 hc1
    clear hSp hdone
    clear hG hcl hdep hfr hK hfin hLi 
    go_simp
    exact HK.out
  | 14, ho =>
    simp only [opsRkld3, List.getElem?_toArray, List.getElem?_cons_succ, List.getElem?_cons_zero, Option.some.injEq] at ho
    subst ho
    have x25 : a.tmps[25]?.getD undef = .string sx := by rw [← ev]; exact hG.val 9 11 25 _ rfl (hdep ⟨11, .data⟩ (by simp) rfl)
    have x27 : a.tmps[27]?.getD undef = .string sb := by rw [← ev]; exact hG.val 11 13 27 _ rfl (hdep ⟨13, .data⟩ (by simp) rfl)
    have xg : a.tmps[22]?.getD undef = .bool false := by rw [← ev]; exact hG.val 7 8 22 _ rfl (hdep ⟨8, .guard⟩ (by simp) rfl)
    have hw := wanted_of (ops := opsRkld3) (a := a) (o := { dst := some 28, op := Op.binOp BinOp.neq 9 (Operand.tmp 25) (Operand.tmp 27) 9, type := 4, pos := "ref.go:247", after := #[{ on := 11, ground := Ground.data }, { on := 13, ground := Ground.data }, { on := 8, ground := Ground.guard }], guard := some (8, false) }) (g := 8) (s := 22) (b := false) (b' := false) rfl rfl xg
    replace hw := hw.trans (show (false == false) = true from rfl)
    rw [if_pos hw]
    clear hw xg
    obtain ⟨ph, hSp, hdone⟩ := hG.any
    have hfin := hK (.bool bq) w (hG.quiet 12 14 28 _ rfl (by kernel_rfl) (by kernel_rfl))
    have HK := Lib.hid hfin
    generalize (resOf rkld3C fun t => a.eval (.tmp t)) = R at *
    clear hcb hcv hok hc0 hc1
    clear hSp hdone
    clear hG hcl hdep hfr hK hfin hLi 
    go_simp
    exact HK.out
  | 15, ho =>
    simp only [opsRkld3, List.getElem?_toArray, List.getElem?_cons_succ, List.getElem?_cons_zero, Option.some.injEq] at ho
    subst ho
    have x22 : a.tmps[22]?.getD undef = .bool false := by rw [← ev]; exact hG.val 7 8 22 _ rfl (hdep ⟨8, .data⟩ (by simp) rfl)
    have x28 : a.tmps[28]?.getD undef = .bool bq := by rw [← ev]; exact hG.val 12 14 28 _ rfl (hdep ⟨14, .data⟩ (by simp) rfl)
    rw [if_pos (show Region.wanted _ _ = true from rfl)]
    have hfin := hK (.bool bq) w (hG.quiet 13 15 29 _ rfl (by kernel_rfl) (by kernel_rfl))
    have HK := Lib.hid hfin
    clear hG hcl hdep hfr hK hfin hLi 
    go_simp
    exact HK.out
  | n + 16, ho => exact absurd (Array.getElem?_eq_some_iff.1 ho).1 (by show ¬ n + 16 < 16; omega)
end Go.Proofs.Ytgpkdnnlgafenaa

namespace Go.Proofs.Ytgpkdnnlgafenaa
open Go.RowKit Kv
set_option linter.unusedVariables false

def RLoadEnd (l : List UInt8) (w : World) (e : Ending) (w' : World) : Prop :=
  Below w.heap.size w w' ∧ match loadM l with
  | none => e = .returned (.tuple #[.pointer none, .bool false])
  | some m => ∃ t v, e = .returned (.tuple #[.pointer (some ⟨t, 0, none⟩), .bool true]) ∧ RTab w' t v m ∧ w.heap.size ≤ t
theorem encs_three : ∀ L : List Pt, 3 * L.length ≤ (encs L).length
  | [] => by simp
  | x :: L => by
    rw [encs_cons, List.length_append, enc1_length, List.length_cons]
    have := encs_three L
    omega
structure RLs (w1 w2 : World) (tb : Nat) (L : List Pt) (E : List UInt8) (p : Nat) (R : Nat → Value) (W : World) : Prop where
  bel : Below w1.heap.size w1 W
  st0 : p = 0 → Below w2.heap.size w2 W
  st1 : 0 < p → ∃ v', RTab W tb v' (steps [] L)
  r0 : 0 < p → R 0 = .int .i64 0
  r1 : 1 < p → ∃ A c, R 1 = .slice A E.length c ∧ BRow W (.slice A E.length c) E

set_option maxHeartbeats 6400000 in
set_option maxRecDepth 100000 in
theorem rload_any (w : World) (A : Option Addr) (n c : Nat) (l : List UInt8) (hn : n = l.length) (hnc : n ≤ c) (hcm : c ≤ maxLen) (hbig : n ≤ 1000) (hs : Sees w w.heap.size A l) :
    Calls Try.prog 27 #[.slice A n c] w (RLoadEnd l w) := by
  have HDEC := Lib.hid (rdecode_any w A n c l hn hnc hcm hbig hs)
  have HS := Lib.hid hs
  subst hn
  clear hs
  go_enter Try.func27, Try.ntmps27
  go_wp2_with fail
  refine HDEC.out.mono ?_
  rintro e w1 ⟨hb1, hm⟩
  have HB1 := Lib.hid hb1
  clear hb1
  cases hd : decP l with
  | none =>
    rw [hd] at hm
    obtain ⟨v, rfl⟩ := hm
    have KEY : Hid (∀ W, Below w1.heap.size w1 W → RLoadEnd l w (.returned (.tuple #[.pointer none, .bool false])) W) := Lib.hid (fun W hW => ⟨HB1.out.trans (hW.mono HB1.out.size), by unfold loadM; rw [hd]⟩)
    clear hd HDEC
    go_wp2
    go_quiet (fail)
    go_wp2
    go_ret2
    exact KEY.out _ (below_drewN ((Below.refl _ _).alloc (Nat.le_refl _) _) _)
  | some L =>
    rw [hd] at hm
    obtain ⟨A1, n1, c1, D, rfl, hn1, hD, hR⟩ := hm
    subst hn1
    obtain ⟨hl, hmay⟩ := decP_some hd
    have hL3 := encs_three L
    rw [← hl] at hL3
    have hL : L.length ≤ 400 := by omega
    obtain ⟨tb, Htb⟩ : ∃ tb, Hid (tb = w1.heap.size) := ⟨_, Lib.hid rfl⟩
    obtain ⟨w2, Hw2⟩ : ∃ w2, Hid (w2 = w1.alloc (.cells #[.slice none 0 0] 45)) := ⟨_, Lib.hid rfl⟩
    have hb2 : Below w1.heap.size w1 w2 := by rw [Hw2.out]; exact (Below.refl _ _).alloc (Nat.le_refl _) _
    have hT2 : RTab w2 tb (.slice none 0 0) [] := ⟨by rw [Hw2.out, Htb.out]; exact heap_alloc_new w1 _, World.ownsRow_nil _ 0 _ _⟩
    have HT2 := Lib.hid hT2
    have HB2 := Lib.hid hb2
    have hpu : Puts w1 w1.heap.size [tb] A1 L := by
      have := hR.puts
      rw [hD] at this
      exact this.grows (fun b hb => by rw [List.mem_singleton] at hb; right; rw [hb, Htb.out]; exact Nat.le_refl _) (Nat.le_refl _)
    have HPU := Lib.hid hpu
    have hgood := steps_good L hmay Good.nil
    have HGOOD := Lib.hid hgood
    have HLEN : Hid ((steps [] L).length ≤ 400) := Lib.hid (by have := steps_length L []; simp at this; omega)
    obtain ⟨E, HE⟩ : ∃ E, Hid (E = encode ((steps [] L).map put1)) := ⟨_, Lib.hid rfl⟩
    have hEb : E = Kv.bytes (steps [] L) := by rw [HE.out]; unfold encode Kv.bytes; rw [if_pos (puts_may hgood)]
    obtain ⟨bq, Hbq⟩ : ∃ bq, Hid (bq = decide (E ≠ l)) := ⟨_, Lib.hid rfl⟩
    have HKZ : Hid (∀ x ∈ L, x.k.size ≤ maxLen) := Lib.hid (fun x hx => by
      have := (ok1_iff.1 (List.all_eq_true.1 hmay x hx)).2.1
      unfold maxLen; omega)
    have HMAY := Lib.hid hmay
    have HEND : Hid (∀ W, Below w1.heap.size w1 W → (∃ v', RTab W tb v' (steps [] L)) → (bq = true → RLoadEnd l w (.returned (.tuple #[.pointer none, .bool false])) W) ∧ (bq = false → RLoadEnd l w (.returned (.tuple #[.pointer (some ⟨tb, 0, none⟩), .bool true])) W)) := Lib.hid (fun W hW ⟨v', hv'⟩ => by
      have hiff := load_iff hmay
      rw [← hl, ← hEb] at hiff
      have hbw := HB1.out.trans (hW.mono HB1.out.size)
      refine ⟨fun h => ⟨hbw, ?_⟩, fun h => ⟨hbw, ?_⟩⟩
      · have hne : E ≠ l := of_decide_eq_true (Hbq.out.symm.trans h)
        unfold loadM
        rw [hd]
        simp only
        rw [if_neg (fun hr => hne (hiff.2 hr))]
        trivial
      · have heq : E = l := Classical.byContradiction fun hne => by
          have := Hbq.out.symm.trans h
          rw [decide_eq_true hne] at this; cases this
        have hr := hiff.1 heq
        unfold loadM
        rw [hd]
        simp only
        rw [if_pos hr]
        refine ⟨tb, v', rfl, ?_, by rw [Htb.out]; exact HB1.out.size⟩
        rw [← hr.steps_all]; exact hv')
    have hqa : ∀ a b : List UInt8, ((⟨a.toArray⟩ : ByteArray).data.toList == (⟨b.toArray⟩ : ByteArray).data.toList) = decide (a = b) := fun a b => by rw [Bool.eq_iff_iff]; simp
    have hq2 : ((⟨E.toArray⟩ : ByteArray).data.toList == (⟨l.toArray⟩ : ByteArray).data.toList) = !bq := by
      rw [hqa, Hbq.out]
      by_cases h : E = l <;> simp [h]
    have hq1 : ((⟨E.toArray⟩ : ByteArray).toList == (⟨l.toArray⟩ : ByteArray).toList) = !bq := by
      rw [ByteArray.toList_eq, ByteArray.toList_eq]; exact hq2
    obtain ⟨sx, Hsx⟩ : ∃ sx : ByteArray, Hid (sx = ⟨E.toArray⟩) := ⟨_, Lib.hid rfl⟩
    obtain ⟨sb, Hsb⟩ : ∃ sb : ByteArray, Hid (sb = ⟨l.toArray⟩) := ⟨_, Lib.hid rfl⟩
    rw [← Hsx.out, ← Hsb.out] at hq1 hq2
    have HQ := Lib.hid (And.intro hq1 hq2)
    clear hd HDEC hD hR hl hmay hL3 hb2 hT2 hpu hgood hEb hqa hq1 hq2
    go_wp2
    rw [← Hw2.out, ← Htb.out]
    refine rkld3 tb l.length c L.length c1 E.length A A1 sb sx bq (RLs w1 w2 tb L E) (by show 29 < 31; omega) rfl rfl rfl rfl HQ.out.1 HQ.out.2 (fun p R W h => ?_) (fun p R W h hp => ?_) (fun p R W h hp => h.r0 hp) (fun R W h => ?_) (fun R W h => ?_) ⟨HB2.out.drew, fun _ => (Below.refl _ _).drew, fun h => absurd h (by omega), fun h => absurd h (by omega), fun h => absurd h (by omega)⟩ ?_
    · rw [Hsb.out]
      exact run_sees_string (P := Try.prog) W 27 9 5 Try.underlying27 Try.underlying5 Try.underlying9 (HS.out.below (HB1.out.trans (h.bel.mono HB1.out.size)) (Nat.le_refl _)) _ c rfl
    · obtain ⟨A5, c5, e, hr⟩ := h.r1 hp
      refine ⟨A5, c5, e, ?_⟩
      rw [Hsx.out]
      exact run_sees_string (P := Try.prog) W 27 9 5 Try.underlying27 Try.underlying5 Try.underlying9 hr.sees _ c5 rfl
    · have hbw := h.st0 rfl
      have hps : Puts W W.heap.size [tb] A1 L := (HPU.out.only (Only.of_below h.bel) (Nat.le_refl _)).wide h.bel.size
      refine (rcommit_any W tb _ [] A1 L.length c1 L (HT2.out.below hbw) (by simp; omega) rfl hps HKZ.out).mono ?_
      rintro e w' (⟨_, rfl, v', hv', ho⟩ | ⟨hno, _⟩)
      · exact ⟨_, rfl, h.bel.trans (ho.below h.bel.size (fun b hb => by rw [List.mem_singleton] at hb; rw [hb, Htb.out]; exact Nat.le_refl _)), fun h => absurd h (by omega), fun _ => ⟨v', hv'⟩, fun _ => setR_self .., fun h => absurd h (by omega)⟩
      · exact absurd (HMAY.out.symm.trans hno) (by simp)
    · obtain ⟨v', hv'⟩ := h.st1 (by omega)
      refine (rbytes_any W tb v' (steps [] L) hv' HLEN.out HGOOD.out).mono ?_
      rintro e w' ⟨A5, n5, c5, rfl, q1, q2, q3, q4, q5⟩
      rw [← HE.out] at q1 q4
      subst q1
      exact ⟨_, rfl, h.bel.trans (q5.mono h.bel.size), fun h => absurd h (by omega), fun _ => ⟨v', hv'.below q5⟩, fun _ => by rw [setR_ne _ _ (by decide)]; exact h.r0 (by omega), fun _ => ⟨A5, c5, setR_self .., q4⟩⟩
    · intro af wN hfr h29 hS
      obtain ⟨k1, k2⟩ := HEND.out wN hS.bel (hS.st1 (by omega))
      have K1 := Lib.hid k1
      have K2 := Lib.hid k2
      clear hS k1 k2 HEND
      have ha := hfr.eq (by intro t ht; simp at ht; show t < 31; omega)
      simp only [List.foldl_cons, List.foldl_nil] at ha
      clear hfr
      rw [h29] at ha
      clear h29
      generalize af.eval (.tmp 14) = u14 at ha
      generalize af.eval (.tmp 15) = u15 at ha
      generalize af.eval (.tmp 16) = u16 at ha
      generalize af.eval (.tmp 17) = u17 at ha
      generalize af.eval (.tmp 18) = u18 at ha
      generalize af.eval (.tmp 19) = u19 at ha
      generalize af.eval (.tmp 20) = u20 at ha
      generalize af.eval (.tmp 21) = u21 at ha
      generalize af.eval (.tmp 22) = u22 at ha
      generalize af.eval (.tmp 23) = u23 at ha
      generalize af.eval (.tmp 24) = u24 at ha
      generalize af.eval (.tmp 25) = u25 at ha
      generalize af.eval (.tmp 26) = u26 at ha
      generalize af.eval (.tmp 27) = u27 at ha
      generalize af.eval (.tmp 28) = u28 at ha
      subst ha
      simp only [Act.put, List.setIfInBounds_toArray, List.set_cons_zero, List.set_cons_succ]
      cases bq with
      | true =>
        go_wp2
        go_ret2
        exact K1.out (by simp)
      | false =>
        go_wp2
        go_ret2
        exact K2.out (by simp)
end Go.Proofs.Ytgpkdnnlgafenaa
