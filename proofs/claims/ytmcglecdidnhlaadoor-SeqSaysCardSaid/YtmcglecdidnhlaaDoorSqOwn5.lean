/- The law's own: a pair is put behind. -/
import Derived.Test.YtmcglecdidnhlaaDoorFlags
import Derived.Test.YtmcglecdidnhlaaDoorAppend
import Derived.Test.YtmcglecdidnhlaaDoorFlags
import Derived.WalkKit
import Derived.WalkSpells
import Derived.WalkLawsBesides
import Derived.Lib.Hide
namespace Go.Proofs.YtmcglecdidnhlaaDoor
open Go.RowKit
set_option linter.unusedVariables false
set_option linter.unusedSimpArgs false

def opsSqown5 : Array Oper := #[
  { dst := some 13, op := Op.fieldAddr 37 (Operand.tmp 3) 0, type := 0, pos := "law.go:14", after := #[], guard := none },
  { dst := some 14, op := Op.load 35 (Operand.tmp 13), type := 35, pos := "law.go:14", after := #[{ on := 0, ground := Ground.data }], guard := none },
  { dst := some 15, op := Op.fieldAddr 25 (Operand.tmp 1) 0, type := 0, pos := "law.go:14", after := #[], guard := none },
  { dst := some 16, op := Op.load 23 (Operand.tmp 15), type := 23, pos := "law.go:14", after := #[{ on := 2, ground := Ground.data }], guard := none },
  { dst := some 17, op := Op.move (Operand.tmp 4), type := 3, pos := "law.go:14", after := #[], guard := none },
  { dst := some 18, op := Op.indexAddr 23 (Operand.tmp 16) (Operand.tmp 17), type := 0, pos := "law.go:14", after := #[{ on := 3, ground := Ground.data }, { on := 4, ground := Ground.data }], guard := none },
  { dst := some 19, op := Op.fieldAddr 48 (Operand.tmp 18) 0, type := 0, pos := "law.go:14", after := #[{ on := 5, ground := Ground.data }], guard := none },
  { dst := some 20, op := Op.load 2 (Operand.tmp 19), type := 2, pos := "law.go:14", after := #[{ on := 6, ground := Ground.data }], guard := none },
  { dst := some 21, op := Op.fieldAddr 25 (Operand.tmp 1) 0, type := 0, pos := "law.go:14", after := #[], guard := none },
  { dst := some 22, op := Op.load 23 (Operand.tmp 21), type := 23, pos := "law.go:14", after := #[{ on := 8, ground := Ground.data }], guard := none },
  { dst := some 23, op := Op.move (Operand.tmp 4), type := 3, pos := "law.go:14", after := #[], guard := none },
  { dst := some 24, op := Op.indexAddr 23 (Operand.tmp 22) (Operand.tmp 23), type := 0, pos := "law.go:14", after := #[{ on := 9, ground := Ground.data }, { on := 10, ground := Ground.data }], guard := none },
  { dst := some 25, op := Op.fieldAddr 48 (Operand.tmp 24) 1, type := 0, pos := "law.go:14", after := #[{ on := 11, ground := Ground.data }], guard := none },
  { dst := some 26, op := Op.load 2 (Operand.tmp 25), type := 2, pos := "law.go:14", after := #[{ on := 12, ground := Ground.data }], guard := none },
  { dst := some 27, op := Op.build 65 #[(0, Operand.tmp 20), (1, Operand.tmp 26)], type := 65, pos := "law.go:14", after := #[{ on := 7, ground := Ground.data }, { on := 13, ground := Ground.data }], guard := none },
  { dst := some 28, op := Op.buildSlice 35 1 #[(0, Operand.tmp 27)], type := 35, pos := "law.go:14", after := #[{ on := 14, ground := Ground.data }], guard := none },
  { dst := some 29, op := Op.call { callee := Callee.builtin Builtin.append, args := #[Operand.tmp 14, Operand.tmp 28], argTypes := #[35, 35] }, type := 35, pos := "law.go:14", after := #[{ on := 1, ground := Ground.data }, { on := 15, ground := Ground.data }], guard := none },
  { dst := some 30, op := Op.fieldAddr 37 (Operand.tmp 3) 0, type := 0, pos := "law.go:14", after := #[{ on := 0, ground := Ground.phase }, { on := 1, ground := Ground.phase }, { on := 2, ground := Ground.phase }, { on := 3, ground := Ground.phase }, { on := 4, ground := Ground.phase }, { on := 5, ground := Ground.phase }, { on := 6, ground := Ground.phase }, { on := 7, ground := Ground.phase }, { on := 8, ground := Ground.phase }, { on := 9, ground := Ground.phase }, { on := 10, ground := Ground.phase }, { on := 11, ground := Ground.phase }, { on := 12, ground := Ground.phase }, { on := 13, ground := Ground.phase }, { on := 14, ground := Ground.phase }, { on := 15, ground := Ground.phase }, { on := 16, ground := Ground.phase }], guard := none },
  { dst := none, op := Op.store 35 (Operand.tmp 30) (Operand.tmp 29), type := 0, pos := "law.go:14", after := #[{ on := 17, ground := Ground.data }, { on := 16, ground := Ground.data }, { on := 16, ground := Ground.chain }, { on := 0, ground := Ground.phase }, { on := 1, ground := Ground.phase }, { on := 2, ground := Ground.phase }, { on := 3, ground := Ground.phase }, { on := 4, ground := Ground.phase }, { on := 5, ground := Ground.phase }, { on := 6, ground := Ground.phase }, { on := 7, ground := Ground.phase }, { on := 8, ground := Ground.phase }, { on := 9, ground := Ground.phase }, { on := 10, ground := Ground.phase }, { on := 11, ground := Ground.phase }, { on := 12, ground := Ground.phase }, { on := 13, ground := Ground.phase }, { on := 14, ground := Ground.phase }, { on := 15, ground := Ground.phase }, { on := 16, ground := Ground.phase }], guard := none }]

def sqown5Vals (bs g o N ci i bt m c : Nat) (A : Option Addr) (xa xb : Int) : List (Nat × Nat × Value) := [(0, 13, .pointer (some ⟨bt, 0, none⟩)), (1, 14, .slice A m c), (2, 15, .pointer (some ⟨bs, 0, none⟩)), (3, 16, .slice (some ⟨g, o, none⟩) N ci), (4, 17, .int .i64 (i : Int)), (5, 18, .pointer (some ⟨g, o + i * 2, none⟩)), (6, 19, .pointer (some ⟨g, o + i * 2, none⟩)), (7, 20, .int .i64 xa), (8, 21, .pointer (some ⟨bs, 0, none⟩)), (9, 22, .slice (some ⟨g, o, none⟩) N ci), (10, 23, .int .i64 (i : Int)), (11, 24, .pointer (some ⟨g, o + i * 2, none⟩)), (12, 25, .pointer (some ⟨g, o + i * 2 + 1, none⟩)), (13, 26, .int .i64 xb), (14, 27, .agg #[.int .i64 xa, .int .i64 xb]), (17, 30, .pointer (some ⟨bt, 0, none⟩))]
def sqown5C : List (Nat × Nat) := [(15, 28), (16, 29), (18, 1000018)]

set_option maxHeartbeats 4000000 in
set_option maxRecDepth 100000 in
theorem sqown5 {Q : Exit → Act → World → Prop} {a0 : Act} {wp : World} (bs g o N ci i bt m c : Nat) (A : Option Addr) (xa xb : Int) (S : (Nat → Bool) → (Nat → Value) → World → Prop)
    (hsz : 30 < a0.tmps.size) (in1 : a0.eval (.tmp 1) = .pointer (some ⟨bs, 0, none⟩)) (in3 : a0.eval (.tmp 3) = .pointer (some ⟨bt, 0, none⟩)) (in4 : a0.eval (.tmp 4) = .int .i64 (i : Int))
    (hil : (i : Int) < (N : Int)) (hlx : ∀ f R w, S f R w → w.cell? ⟨bs, 0, none⟩ = some (.slice (some ⟨g, o, none⟩) N ci) ∧ w.cell? ⟨g, o + i * 2, none⟩ = some (.int .i64 xa) ∧ w.cell? ⟨g, o + i * 2 + 1, none⟩ = some (.int .i64 xb)) (hbx : ∀ f R w, S f R w → f 2 = false → w.cell? ⟨bt, 0, none⟩ = some (.slice A m c))
    (hb0 : ∀ f R w, S f R w → f 0 = false → f 1 = false → f 2 = false → S (setF f 0) (setR R 0 (.slice (some ⟨w.heap.size, 0, none⟩) 1 1)) (w.alloc (.cells #[.int .i64 xa, .int .i64 xb] 65)))
    (ha1 : ∀ f R w, S f R w → f 0 = true → f 1 = false → f 2 = false → ∃ v w', (Builtin.append_ #[35, 35] 35 #[.slice A m c, R 0]).run Tryd.prog w = .ok v w' ∧ S (setF f 1) (setR R 1 v) w')
    (hs2 : ∀ f R w, S f R w → f 1 = true → f 2 = false → ∃ A n c, R 1 = .slice A n c ∧ w.frozen? ⟨bt, 0, none⟩ = false ∧ S (setF f 2) R (w.setCell ⟨bt, 0, none⟩ (.slice A n c)))
    (hS : S (fun _ => false) (resOf sqown5C fun t => a0.eval (.tmp t)) wp.drew)
    (fin : ∀ a w f, Fr [13, 14, 15, 16, 17, 18, 19, 20, 21, 22, 23, 24, 25, 26, 27, 28, 29, 30] a0 a → (∀ j, j < 3 → f j = true) → S f (resOf sqown5C fun t => a.eval (.tmp t)) w → Q .normal a w) :
    (Code.region 5 opsSqown5 true).wp Tryd.prog Q a0 wp := by
  refine region_inv (by kernel_rfl) [13, 14, 15, 16, 17, 18, 19, 20, 21, 22, 23, 24, 25, 26, 27, 28, 29, 30] (by kernel_rfl) (by kernel_rfl) (fun t ht => by simp at ht; omega) (GF (sqown5Vals bs g o N ci i bt m c A xa xb) sqown5C S) (.start hS) ?_
    (fun L a w hf hall hG => fin a w (flagsOf sqown5C L) hf  (fun j hj => by
      match j, hj with
      | 0, _ => exact (flagsOf_at (C := sqown5C) (j := 0) rfl L).trans (hall 15 (by decide))
      | 1, _ => exact (flagsOf_at (C := sqown5C) (j := 1) rfl L).trans (hall 16 (by decide))
      | 2, _ => exact (flagsOf_at (C := sqown5C) (j := 2) rfl L).trans (hall 18 (by decide))
      | n + 3, h => exact absurd h (by omega)) hG.1)
  clear hS fin
  intro ix oo ho L a w hfr hG hLi hdep hcl K hK
  have e1 : a.tmps[1]?.getD undef = .pointer (some ⟨bs, 0, none⟩) := by rw [← ev]; exact (hfr.same 1 (by decide)).trans in1
  have e3 : a.tmps[3]?.getD undef = .pointer (some ⟨bt, 0, none⟩) := by rw [← ev]; exact (hfr.same 3 (by decide)).trans in3
  have e4 : a.tmps[4]?.getD undef = .int .i64 (i : Int) := by rw [← ev]; exact (hfr.same 4 (by decide)).trans in4
  clear in1 in3 in4
  match ix, ho with
  | 0, ho =>
    simp only [opsSqown5, List.getElem?_toArray, List.getElem?_cons_zero, Option.some.injEq] at ho
    subst ho
    rw [if_pos (show Region.wanted _ _ = true from rfl)]
    have hfin := hK (.pointer (some ⟨bt, 0, none⟩)) w (hG.quiet 0 0 13 _ rfl (by kernel_rfl) (by kernel_rfl))
    have HK := Lib.hid hfin
    clear hG hcl hdep hfr hK hfin hLi 
    go_simp
    exact HK.out
  | 1, ho =>
    simp only [opsSqown5, List.getElem?_toArray, List.getElem?_cons_succ, List.getElem?_cons_zero, Option.some.injEq] at ho
    subst ho
    have x13 : a.tmps[13]?.getD undef = .pointer (some ⟨bt, 0, none⟩) := by rw [← ev]; exact hG.val 0 0 13 _ rfl (hdep ⟨0, .data⟩ (by simp) rfl)
    rw [if_pos (show Region.wanted _ _ = true from rfl)]
    have hSp := hG.1
    have hf1 : flagsOf sqown5C L 1 = false := (flagsOf_at (C := sqown5C) (j := 1) rfl L).trans (by
      cases hl : L 16 with
      | false => rfl
      | true => exact absurd (hcl 16 _ rfl (hl) ⟨1, .data⟩ (by simp [opsSqown5]) rfl) (by rw [hLi]; decide))
    have hf2 : flagsOf sqown5C L 2 = false := (flagsOf_at (C := sqown5C) (j := 2) rfl L).trans (by
      cases hl : L 18 with
      | false => rfl
      | true => exact absurd (hcl 18 _ rfl (hl) ⟨1, .phase⟩ (by simp [opsSqown5]) rfl) (by rw [hLi]; decide))
    have hfin := hK (.slice A m c) w (hG.quiet 1 1 14 _ rfl (by kernel_rfl) (by kernel_rfl))
    have HK := Lib.hid hfin
    generalize (resOf sqown5C fun t => a.eval (.tmp t)) = R at *
    generalize flagsOf sqown5C L = f at *
    have q1 := hbx _ _ _ hSp hf2
    clear hil hlx hbx hb0 ha1 hs2
    clear hSp
    clear hG hcl hdep hfr hK hfin hLi 
    go_simp
    exact HK.out
  | 2, ho =>
    simp only [opsSqown5, List.getElem?_toArray, List.getElem?_cons_succ, List.getElem?_cons_zero, Option.some.injEq] at ho
    subst ho
    rw [if_pos (show Region.wanted _ _ = true from rfl)]
    have hfin := hK (.pointer (some ⟨bs, 0, none⟩)) w (hG.quiet 2 2 15 _ rfl (by kernel_rfl) (by kernel_rfl))
    have HK := Lib.hid hfin
    clear hG hcl hdep hfr hK hfin hLi 
    go_simp
    exact HK.out
  | 3, ho =>
    simp only [opsSqown5, List.getElem?_toArray, List.getElem?_cons_succ, List.getElem?_cons_zero, Option.some.injEq] at ho
    subst ho
    have x15 : a.tmps[15]?.getD undef = .pointer (some ⟨bs, 0, none⟩) := by rw [← ev]; exact hG.val 2 2 15 _ rfl (hdep ⟨2, .data⟩ (by simp) rfl)
    rw [if_pos (show Region.wanted _ _ = true from rfl)]
    have hSp := hG.1
    have hf0 : flagsOf sqown5C L 0 = false := (flagsOf_at (C := sqown5C) (j := 0) rfl L).trans (by
      cases hl : L 15 with
      | false => rfl
      | true => exact absurd (hcl 5 _ rfl (hcl 6 _ rfl (hcl 7 _ rfl (hcl 14 _ rfl (hcl 15 _ rfl (hl) ⟨14, .data⟩ (by simp [opsSqown5]) rfl) ⟨7, .data⟩ (by simp [opsSqown5]) rfl) ⟨6, .data⟩ (by simp [opsSqown5]) rfl) ⟨5, .data⟩ (by simp [opsSqown5]) rfl) ⟨3, .data⟩ (by simp [opsSqown5]) rfl) (by rw [hLi]; decide))
    have hf1 : flagsOf sqown5C L 1 = false := (flagsOf_at (C := sqown5C) (j := 1) rfl L).trans (by
      cases hl : L 16 with
      | false => rfl
      | true => exact absurd (hcl 5 _ rfl (hcl 6 _ rfl (hcl 7 _ rfl (hcl 14 _ rfl (hcl 15 _ rfl (hcl 16 _ rfl (hl) ⟨15, .data⟩ (by simp [opsSqown5]) rfl) ⟨14, .data⟩ (by simp [opsSqown5]) rfl) ⟨7, .data⟩ (by simp [opsSqown5]) rfl) ⟨6, .data⟩ (by simp [opsSqown5]) rfl) ⟨5, .data⟩ (by simp [opsSqown5]) rfl) ⟨3, .data⟩ (by simp [opsSqown5]) rfl) (by rw [hLi]; decide))
    have hf2 : flagsOf sqown5C L 2 = false := (flagsOf_at (C := sqown5C) (j := 2) rfl L).trans (by
      cases hl : L 18 with
      | false => rfl
      | true => exact absurd (hcl 18 _ rfl (hl) ⟨3, .phase⟩ (by simp [opsSqown5]) rfl) (by rw [hLi]; decide))
    have hfin := hK (.slice (some ⟨g, o, none⟩) N ci) w (hG.quiet 3 3 16 _ rfl (by kernel_rfl) (by kernel_rfl))
    have HK := Lib.hid hfin
    generalize (resOf sqown5C fun t => a.eval (.tmp t)) = R at *
    generalize flagsOf sqown5C L = f at *
    obtain ⟨q1, q2, q3⟩ := hlx _ _ _ hSp
    clear hil hlx hbx hb0 ha1 hs2 q2 q3
    clear hSp
    clear hG hcl hdep hfr hK hfin hLi 
    go_simp
    exact HK.out
  | 4, ho =>
    simp only [opsSqown5, List.getElem?_toArray, List.getElem?_cons_succ, List.getElem?_cons_zero, Option.some.injEq] at ho
    subst ho
    rw [if_pos (show Region.wanted _ _ = true from rfl)]
    have hfin := hK (.int .i64 (i : Int)) w (hG.quiet 4 4 17 _ rfl (by kernel_rfl) (by kernel_rfl))
    have HK := Lib.hid hfin
    clear hG hcl hdep hfr hK hfin hLi 
    go_simp
    exact HK.out
  | 5, ho =>
    simp only [opsSqown5, List.getElem?_toArray, List.getElem?_cons_succ, List.getElem?_cons_zero, Option.some.injEq] at ho
    subst ho
    have x16 : a.tmps[16]?.getD undef = .slice (some ⟨g, o, none⟩) N ci := by rw [← ev]; exact hG.val 3 3 16 _ rfl (hdep ⟨3, .data⟩ (by simp) rfl)
    have x17 : a.tmps[17]?.getD undef = .int .i64 (i : Int) := by rw [← ev]; exact hG.val 4 4 17 _ rfl (hdep ⟨4, .data⟩ (by simp) rfl)
    rw [if_pos (show Region.wanted _ _ = true from rfl)]
    have hSp := hG.1
    have hf0 : flagsOf sqown5C L 0 = false := (flagsOf_at (C := sqown5C) (j := 0) rfl L).trans (by
      cases hl : L 15 with
      | false => rfl
      | true => exact absurd (hcl 6 _ rfl (hcl 7 _ rfl (hcl 14 _ rfl (hcl 15 _ rfl (hl) ⟨14, .data⟩ (by simp [opsSqown5]) rfl) ⟨7, .data⟩ (by simp [opsSqown5]) rfl) ⟨6, .data⟩ (by simp [opsSqown5]) rfl) ⟨5, .data⟩ (by simp [opsSqown5]) rfl) (by rw [hLi]; decide))
    have hf1 : flagsOf sqown5C L 1 = false := (flagsOf_at (C := sqown5C) (j := 1) rfl L).trans (by
      cases hl : L 16 with
      | false => rfl
      | true => exact absurd (hcl 6 _ rfl (hcl 7 _ rfl (hcl 14 _ rfl (hcl 15 _ rfl (hcl 16 _ rfl (hl) ⟨15, .data⟩ (by simp [opsSqown5]) rfl) ⟨14, .data⟩ (by simp [opsSqown5]) rfl) ⟨7, .data⟩ (by simp [opsSqown5]) rfl) ⟨6, .data⟩ (by simp [opsSqown5]) rfl) ⟨5, .data⟩ (by simp [opsSqown5]) rfl) (by rw [hLi]; decide))
    have hf2 : flagsOf sqown5C L 2 = false := (flagsOf_at (C := sqown5C) (j := 2) rfl L).trans (by
      cases hl : L 18 with
      | false => rfl
      | true => exact absurd (hcl 18 _ rfl (hl) ⟨5, .phase⟩ (by simp [opsSqown5]) rfl) (by rw [hLi]; decide))
    have hfin := hK (.pointer (some ⟨g, o + i * 2, none⟩)) w (hG.quiet 5 5 18 _ rfl (by kernel_rfl) (by kernel_rfl))
    have HK := Lib.hid hfin
    generalize (resOf sqown5C fun t => a.eval (.tmp t)) = R at *
    generalize flagsOf sqown5C L = f at *
    clear hlx hbx hb0 ha1 hs2
    clear hSp
    clear hG hcl hdep hfr hK hfin hLi 
    go_simp
    exact HK.out
  | 6, ho =>
    simp only [opsSqown5, List.getElem?_toArray, List.getElem?_cons_succ, List.getElem?_cons_zero, Option.some.injEq] at ho
    subst ho
    have x18 : a.tmps[18]?.getD undef = .pointer (some ⟨g, o + i * 2, none⟩) := by rw [← ev]; exact hG.val 5 5 18 _ rfl (hdep ⟨5, .data⟩ (by simp) rfl)
    rw [if_pos (show Region.wanted _ _ = true from rfl)]
    have hfin := hK (.pointer (some ⟨g, o + i * 2, none⟩)) w (hG.quiet 6 6 19 _ rfl (by kernel_rfl) (by kernel_rfl))
    have HK := Lib.hid hfin
    clear hG hcl hdep hfr hK hfin hLi 
    go_simp
    exact HK.out
  | 7, ho =>
    simp only [opsSqown5, List.getElem?_toArray, List.getElem?_cons_succ, List.getElem?_cons_zero, Option.some.injEq] at ho
    subst ho
    have x19 : a.tmps[19]?.getD undef = .pointer (some ⟨g, o + i * 2, none⟩) := by rw [← ev]; exact hG.val 6 6 19 _ rfl (hdep ⟨6, .data⟩ (by simp) rfl)
    rw [if_pos (show Region.wanted _ _ = true from rfl)]
    have hSp := hG.1
    have hf0 : flagsOf sqown5C L 0 = false := (flagsOf_at (C := sqown5C) (j := 0) rfl L).trans (by
      cases hl : L 15 with
      | false => rfl
      | true => exact absurd (hcl 14 _ rfl (hcl 15 _ rfl (hl) ⟨14, .data⟩ (by simp [opsSqown5]) rfl) ⟨7, .data⟩ (by simp [opsSqown5]) rfl) (by rw [hLi]; decide))
    have hf1 : flagsOf sqown5C L 1 = false := (flagsOf_at (C := sqown5C) (j := 1) rfl L).trans (by
      cases hl : L 16 with
      | false => rfl
      | true => exact absurd (hcl 14 _ rfl (hcl 15 _ rfl (hcl 16 _ rfl (hl) ⟨15, .data⟩ (by simp [opsSqown5]) rfl) ⟨14, .data⟩ (by simp [opsSqown5]) rfl) ⟨7, .data⟩ (by simp [opsSqown5]) rfl) (by rw [hLi]; decide))
    have hf2 : flagsOf sqown5C L 2 = false := (flagsOf_at (C := sqown5C) (j := 2) rfl L).trans (by
      cases hl : L 18 with
      | false => rfl
      | true => exact absurd (hcl 18 _ rfl (hl) ⟨7, .phase⟩ (by simp [opsSqown5]) rfl) (by rw [hLi]; decide))
    have hfin := hK (.int .i64 xa) w (hG.quiet 7 7 20 _ rfl (by kernel_rfl) (by kernel_rfl))
    have HK := Lib.hid hfin
    generalize (resOf sqown5C fun t => a.eval (.tmp t)) = R at *
    generalize flagsOf sqown5C L = f at *
    obtain ⟨q1, q2, q3⟩ := hlx _ _ _ hSp
    clear hil hlx hbx hb0 ha1 hs2 q1 q3
    clear hSp
    clear hG hcl hdep hfr hK hfin hLi 
    go_simp
    exact HK.out
  | 8, ho =>
    simp only [opsSqown5, List.getElem?_toArray, List.getElem?_cons_succ, List.getElem?_cons_zero, Option.some.injEq] at ho
    subst ho
    rw [if_pos (show Region.wanted _ _ = true from rfl)]
    have hfin := hK (.pointer (some ⟨bs, 0, none⟩)) w (hG.quiet 8 8 21 _ rfl (by kernel_rfl) (by kernel_rfl))
    have HK := Lib.hid hfin
    clear hG hcl hdep hfr hK hfin hLi 
    go_simp
    exact HK.out
  | 9, ho =>
    simp only [opsSqown5, List.getElem?_toArray, List.getElem?_cons_succ, List.getElem?_cons_zero, Option.some.injEq] at ho
    subst ho
    have x21 : a.tmps[21]?.getD undef = .pointer (some ⟨bs, 0, none⟩) := by rw [← ev]; exact hG.val 8 8 21 _ rfl (hdep ⟨8, .data⟩ (by simp) rfl)
    rw [if_pos (show Region.wanted _ _ = true from rfl)]
    have hSp := hG.1
    have hf0 : flagsOf sqown5C L 0 = false := (flagsOf_at (C := sqown5C) (j := 0) rfl L).trans (by
      cases hl : L 15 with
      | false => rfl
      | true => exact absurd (hcl 11 _ rfl (hcl 12 _ rfl (hcl 13 _ rfl (hcl 14 _ rfl (hcl 15 _ rfl (hl) ⟨14, .data⟩ (by simp [opsSqown5]) rfl) ⟨13, .data⟩ (by simp [opsSqown5]) rfl) ⟨12, .data⟩ (by simp [opsSqown5]) rfl) ⟨11, .data⟩ (by simp [opsSqown5]) rfl) ⟨9, .data⟩ (by simp [opsSqown5]) rfl) (by rw [hLi]; decide))
    have hf1 : flagsOf sqown5C L 1 = false := (flagsOf_at (C := sqown5C) (j := 1) rfl L).trans (by
      cases hl : L 16 with
      | false => rfl
      | true => exact absurd (hcl 11 _ rfl (hcl 12 _ rfl (hcl 13 _ rfl (hcl 14 _ rfl (hcl 15 _ rfl (hcl 16 _ rfl (hl) ⟨15, .data⟩ (by simp [opsSqown5]) rfl) ⟨14, .data⟩ (by simp [opsSqown5]) rfl) ⟨13, .data⟩ (by simp [opsSqown5]) rfl) ⟨12, .data⟩ (by simp [opsSqown5]) rfl) ⟨11, .data⟩ (by simp [opsSqown5]) rfl) ⟨9, .data⟩ (by simp [opsSqown5]) rfl) (by rw [hLi]; decide))
    have hf2 : flagsOf sqown5C L 2 = false := (flagsOf_at (C := sqown5C) (j := 2) rfl L).trans (by
      cases hl : L 18 with
      | false => rfl
      | true => exact absurd (hcl 18 _ rfl (hl) ⟨9, .phase⟩ (by simp [opsSqown5]) rfl) (by rw [hLi]; decide))
    have hfin := hK (.slice (some ⟨g, o, none⟩) N ci) w (hG.quiet 9 9 22 _ rfl (by kernel_rfl) (by kernel_rfl))
    have HK := Lib.hid hfin
    generalize (resOf sqown5C fun t => a.eval (.tmp t)) = R at *
    generalize flagsOf sqown5C L = f at *
    obtain ⟨q1, q2, q3⟩ := hlx _ _ _ hSp
    clear hil hlx hbx hb0 ha1 hs2 q2 q3
    clear hSp
    clear hG hcl hdep hfr hK hfin hLi 
    go_simp
    exact HK.out
  | 10, ho =>
    simp only [opsSqown5, List.getElem?_toArray, List.getElem?_cons_succ, List.getElem?_cons_zero, Option.some.injEq] at ho
    subst ho
    rw [if_pos (show Region.wanted _ _ = true from rfl)]
    have hfin := hK (.int .i64 (i : Int)) w (hG.quiet 10 10 23 _ rfl (by kernel_rfl) (by kernel_rfl))
    have HK := Lib.hid hfin
    clear hG hcl hdep hfr hK hfin hLi 
    go_simp
    exact HK.out
  | 11, ho =>
    simp only [opsSqown5, List.getElem?_toArray, List.getElem?_cons_succ, List.getElem?_cons_zero, Option.some.injEq] at ho
    subst ho
    have x22 : a.tmps[22]?.getD undef = .slice (some ⟨g, o, none⟩) N ci := by rw [← ev]; exact hG.val 9 9 22 _ rfl (hdep ⟨9, .data⟩ (by simp) rfl)
    have x23 : a.tmps[23]?.getD undef = .int .i64 (i : Int) := by rw [← ev]; exact hG.val 10 10 23 _ rfl (hdep ⟨10, .data⟩ (by simp) rfl)
    rw [if_pos (show Region.wanted _ _ = true from rfl)]
    have hSp := hG.1
    have hf0 : flagsOf sqown5C L 0 = false := (flagsOf_at (C := sqown5C) (j := 0) rfl L).trans (by
      cases hl : L 15 with
      | false => rfl
      | true => exact absurd (hcl 12 _ rfl (hcl 13 _ rfl (hcl 14 _ rfl (hcl 15 _ rfl (hl) ⟨14, .data⟩ (by simp [opsSqown5]) rfl) ⟨13, .data⟩ (by simp [opsSqown5]) rfl) ⟨12, .data⟩ (by simp [opsSqown5]) rfl) ⟨11, .data⟩ (by simp [opsSqown5]) rfl) (by rw [hLi]; decide))
    have hf1 : flagsOf sqown5C L 1 = false := (flagsOf_at (C := sqown5C) (j := 1) rfl L).trans (by
      cases hl : L 16 with
      | false => rfl
      | true => exact absurd (hcl 12 _ rfl (hcl 13 _ rfl (hcl 14 _ rfl (hcl 15 _ rfl (hcl 16 _ rfl (hl) ⟨15, .data⟩ (by simp [opsSqown5]) rfl) ⟨14, .data⟩ (by simp [opsSqown5]) rfl) ⟨13, .data⟩ (by simp [opsSqown5]) rfl) ⟨12, .data⟩ (by simp [opsSqown5]) rfl) ⟨11, .data⟩ (by simp [opsSqown5]) rfl) (by rw [hLi]; decide))
    have hf2 : flagsOf sqown5C L 2 = false := (flagsOf_at (C := sqown5C) (j := 2) rfl L).trans (by
      cases hl : L 18 with
      | false => rfl
      | true => exact absurd (hcl 18 _ rfl (hl) ⟨11, .phase⟩ (by simp [opsSqown5]) rfl) (by rw [hLi]; decide))
    have hfin := hK (.pointer (some ⟨g, o + i * 2, none⟩)) w (hG.quiet 11 11 24 _ rfl (by kernel_rfl) (by kernel_rfl))
    have HK := Lib.hid hfin
    generalize (resOf sqown5C fun t => a.eval (.tmp t)) = R at *
    generalize flagsOf sqown5C L = f at *
    clear hlx hbx hb0 ha1 hs2
    clear hSp
    clear hG hcl hdep hfr hK hfin hLi 
    go_simp
    exact HK.out
  | 12, ho =>
    simp only [opsSqown5, List.getElem?_toArray, List.getElem?_cons_succ, List.getElem?_cons_zero, Option.some.injEq] at ho
    subst ho
    have x24 : a.tmps[24]?.getD undef = .pointer (some ⟨g, o + i * 2, none⟩) := by rw [← ev]; exact hG.val 11 11 24 _ rfl (hdep ⟨11, .data⟩ (by simp) rfl)
    rw [if_pos (show Region.wanted _ _ = true from rfl)]
    have hfin := hK (.pointer (some ⟨g, o + i * 2 + 1, none⟩)) w (hG.quiet 12 12 25 _ rfl (by kernel_rfl) (by kernel_rfl))
    have HK := Lib.hid hfin
    clear hG hcl hdep hfr hK hfin hLi 
    go_simp
    exact HK.out
  | 13, ho =>
    simp only [opsSqown5, List.getElem?_toArray, List.getElem?_cons_succ, List.getElem?_cons_zero, Option.some.injEq] at ho
    subst ho
    have x25 : a.tmps[25]?.getD undef = .pointer (some ⟨g, o + i * 2 + 1, none⟩) := by rw [← ev]; exact hG.val 12 12 25 _ rfl (hdep ⟨12, .data⟩ (by simp) rfl)
    rw [if_pos (show Region.wanted _ _ = true from rfl)]
    have hSp := hG.1
    have hf0 : flagsOf sqown5C L 0 = false := (flagsOf_at (C := sqown5C) (j := 0) rfl L).trans (by
      cases hl : L 15 with
      | false => rfl
      | true => exact absurd (hcl 14 _ rfl (hcl 15 _ rfl (hl) ⟨14, .data⟩ (by simp [opsSqown5]) rfl) ⟨13, .data⟩ (by simp [opsSqown5]) rfl) (by rw [hLi]; decide))
    have hf1 : flagsOf sqown5C L 1 = false := (flagsOf_at (C := sqown5C) (j := 1) rfl L).trans (by
      cases hl : L 16 with
      | false => rfl
      | true => exact absurd (hcl 14 _ rfl (hcl 15 _ rfl (hcl 16 _ rfl (hl) ⟨15, .data⟩ (by simp [opsSqown5]) rfl) ⟨14, .data⟩ (by simp [opsSqown5]) rfl) ⟨13, .data⟩ (by simp [opsSqown5]) rfl) (by rw [hLi]; decide))
    have hf2 : flagsOf sqown5C L 2 = false := (flagsOf_at (C := sqown5C) (j := 2) rfl L).trans (by
      cases hl : L 18 with
      | false => rfl
      | true => exact absurd (hcl 18 _ rfl (hl) ⟨13, .phase⟩ (by simp [opsSqown5]) rfl) (by rw [hLi]; decide))
    have hfin := hK (.int .i64 xb) w (hG.quiet 13 13 26 _ rfl (by kernel_rfl) (by kernel_rfl))
    have HK := Lib.hid hfin
    generalize (resOf sqown5C fun t => a.eval (.tmp t)) = R at *
    generalize flagsOf sqown5C L = f at *
    obtain ⟨q1, q2, q3⟩ := hlx _ _ _ hSp
    clear hil hlx hbx hb0 ha1 hs2 q1 q2
    clear hSp
    clear hG hcl hdep hfr hK hfin hLi 
    go_simp
    exact HK.out
  | 14, ho =>
    simp only [opsSqown5, List.getElem?_toArray, List.getElem?_cons_succ, List.getElem?_cons_zero, Option.some.injEq] at ho
    subst ho
    have x20 : a.tmps[20]?.getD undef = .int .i64 xa := by rw [← ev]; exact hG.val 7 7 20 _ rfl (hdep ⟨7, .data⟩ (by simp) rfl)
    have x26 : a.tmps[26]?.getD undef = .int .i64 xb := by rw [← ev]; exact hG.val 13 13 26 _ rfl (hdep ⟨13, .data⟩ (by simp) rfl)
    rw [if_pos (show Region.wanted _ _ = true from rfl)]
    have hfin := hK (.agg #[.int .i64 xa, .int .i64 xb]) w (hG.quiet 14 14 27 _ rfl (by kernel_rfl) (by kernel_rfl))
    have HK := Lib.hid hfin
    clear hG hcl hdep hfr hK hfin hLi 
    go_simp
    exact HK.out
  | 15, ho =>
    simp only [opsSqown5, List.getElem?_toArray, List.getElem?_cons_succ, List.getElem?_cons_zero, Option.some.injEq] at ho
    subst ho
    have x27 : a.tmps[27]?.getD undef = .agg #[.int .i64 xa, .int .i64 xb] := by rw [← ev]; exact hG.val 14 14 27 _ rfl (hdep ⟨14, .data⟩ (by simp) rfl)
    rw [if_pos (show Region.wanted _ _ = true from rfl)]
    have hSj := hG.1
    have hf0 : flagsOf sqown5C L 0 = false := (flagsOf_at (C := sqown5C) (j := 0) rfl L).trans hLi
    have hf1 : flagsOf sqown5C L 1 = false := (flagsOf_at (C := sqown5C) (j := 1) rfl L).trans (by
      cases hl : L 16 with
      | false => rfl
      | true => exact absurd (hcl 16 _ rfl (hl) ⟨15, .data⟩ (by simp [opsSqown5]) rfl) (by rw [hLi]; decide))
    have hf2 : flagsOf sqown5C L 2 = false := (flagsOf_at (C := sqown5C) (j := 2) rfl L).trans (by
      cases hl : L 18 with
      | false => rfl
      | true => exact absurd (hcl 18 _ rfl (hl) ⟨15, .phase⟩ (by simp [opsSqown5]) rfl) (by rw [hLi]; decide))
    have hfin := fun v w' hs => hK v w' (hG.call 0 (15, 28) rfl (by kernel_rfl) v w' hs)
    have HK := Lib.hid hfin
    generalize (resOf sqown5C fun t => a.eval (.tmp t)) = R at *
    generalize flagsOf sqown5C L = f at *
    clear hG hcl hdep hfr hK hfin hLi
    have hs := hb0 _ _ _ hSj hf0 hf1 hf2
    have hk := HK.out _ _ hs
    have HK2 := Lib.hid hk
    clear hs hk HK hSj hil hlx hbx hb0 ha1 hs2
    go_simp
    exact HK2.out
  | 16, ho =>
    simp only [opsSqown5, List.getElem?_toArray, List.getElem?_cons_succ, List.getElem?_cons_zero, Option.some.injEq] at ho
    subst ho
    have x14 : a.tmps[14]?.getD undef = .slice A m c := by rw [← ev]; exact hG.val 1 1 14 _ rfl (hdep ⟨1, .data⟩ (by simp) rfl)
    rw [if_pos (show Region.wanted _ _ = true from rfl)]
    have hSj := hG.1
    have hf0 : flagsOf sqown5C L 0 = true := (flagsOf_at (C := sqown5C) (j := 0) rfl L).trans (hdep ⟨15, .data⟩ (by simp) rfl)
    have hf1 : flagsOf sqown5C L 1 = false := (flagsOf_at (C := sqown5C) (j := 1) rfl L).trans hLi
    have hf2 : flagsOf sqown5C L 2 = false := (flagsOf_at (C := sqown5C) (j := 2) rfl L).trans (by
      cases hl : L 18 with
      | false => rfl
      | true => exact absurd (hcl 18 _ rfl (hl) ⟨16, .data⟩ (by simp [opsSqown5]) rfl) (by rw [hLi]; decide))
    have r28 : a.tmps[28]?.getD undef = resOf sqown5C (fun t => a.eval (.tmp t)) 0 := by rw [← ev]; exact (resOf_at (C := sqown5C) (j := 0) rfl a).symm
    have hfin := fun v w' hs => hK v w' (hG.call 1 (16, 29) rfl (by kernel_rfl) v w' hs)
    have HK := Lib.hid hfin
    generalize (resOf sqown5C fun t => a.eval (.tmp t)) = R at *
    generalize flagsOf sqown5C L = f at *
    clear hG hcl hdep hfr hK hfin hLi
    obtain ⟨v, w', hrun, hs⟩ := ha1 _ _ _ hSj hf0 hf1 hf2
    refine oper_append_run (.tmp 14) (.tmp 28) 35 rfl w _ _ (by rw [ev]; exact x14) (by rw [ev]; exact r28) v w' hrun (HK.out v w' hs)
  | 17, ho =>
    simp only [opsSqown5, List.getElem?_toArray, List.getElem?_cons_succ, List.getElem?_cons_zero, Option.some.injEq] at ho
    subst ho
    rw [if_pos (show Region.wanted _ _ = true from rfl)]
    have hfin := hK (.pointer (some ⟨bt, 0, none⟩)) w (hG.quiet 15 17 30 _ rfl (by kernel_rfl) (by kernel_rfl))
    have HK := Lib.hid hfin
    clear hG hcl hdep hfr hK hfin hLi 
    go_simp
    exact HK.out
  | 18, ho =>
    simp only [opsSqown5, List.getElem?_toArray, List.getElem?_cons_succ, List.getElem?_cons_zero, Option.some.injEq] at ho
    subst ho
    have x30 : a.tmps[30]?.getD undef = .pointer (some ⟨bt, 0, none⟩) := by rw [← ev]; exact hG.val 15 17 30 _ rfl (hdep ⟨17, .data⟩ (by simp) rfl)
    rw [if_pos (show Region.wanted _ _ = true from rfl)]
    have hSj := hG.1
    have hf0 : flagsOf sqown5C L 0 = true := (flagsOf_at (C := sqown5C) (j := 0) rfl L).trans (hdep ⟨15, .phase⟩ (by simp) rfl)
    have hf1 : flagsOf sqown5C L 1 = true := (flagsOf_at (C := sqown5C) (j := 1) rfl L).trans (hdep ⟨16, .data⟩ (by simp) rfl)
    have hf2 : flagsOf sqown5C L 2 = false := (flagsOf_at (C := sqown5C) (j := 2) rfl L).trans hLi
    have r29 : a.tmps[29]?.getD undef = resOf sqown5C (fun t => a.eval (.tmp t)) 1 := by rw [← ev]; exact (resOf_at (C := sqown5C) (j := 1) rfl a).symm
    have hfin := fun w' hs => hK undef w' (hG.store 2 (18, 1000018) rfl (by kernel_rfl) undef w' hs)
    have HK := Lib.hid hfin
    generalize (resOf sqown5C fun t => a.eval (.tmp t)) = R at *
    generalize flagsOf sqown5C L = f at *
    clear hG hcl hdep hfr hK hfin hLi
    obtain ⟨A, n, c, q1, q2, hs⟩ := hs2 _ _ _ hSj hf1 hf2
    rw [q1] at r29
    have q3 := hbx _ _ _ hSj hf2
    have hk := HK.out _ hs
    have HK2 := Lib.hid hk
    clear hs hk HK hSj q1 hil hlx hbx hb0 ha1 hs2
    go_simp
    exact HK2.out
  | n + 19, ho => exact absurd (Array.getElem?_eq_some_iff.1 ho).1 (by show ¬ n + 19 < 19; omega)
end Go.Proofs.YtmcglecdidnhlaaDoor
