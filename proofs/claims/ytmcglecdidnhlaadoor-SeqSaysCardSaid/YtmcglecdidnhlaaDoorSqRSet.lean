/- SqIns10, SqIns, SqSp20, SqSpn, SqROf, SqROfW: these texts in one. -/
import Derived.Test.YtmcglecdidnhlaaDoorFlags
import Derived.Test.YtmcglecdidnhlaaDoorAppend
import Derived.WalkKit
import Derived.WalkSpells
import Derived.WalkLawsBesides
import Derived.Lib.Hide
import Derived.Test.YtmcglecdidnhlaaDoorSqApp
import Derived.Test.YtmcglecdidnhlaaDoorSqRet
import Derived.Test.YtmcglecdidnhlaaDoorSqOfW
import Derived.Deep.QuietTactic
import Derived.BigQuiet
import Derived.IntWalk
import Derived.StillTailTactics
namespace Go.Proofs.YtmcglecdidnhlaaDoor
open Go.RowKit
set_option linter.unusedVariables false
set_option linter.unusedSimpArgs false

def opsOfins10 : Array Oper := #[
  { dst := some 59, op := Op.buildSlice 30 0 #[], type := 30, pos := "ref.go:348", after := #[], guard := none },
  { dst := some 60, op := Op.move (Operand.tmp 3), type := 30, pos := "ref.go:348", after := #[], guard := none },
  { dst := some 61, op := Op.move (Operand.tmp 5), type := 3, pos := "ref.go:348", after := #[], guard := none },
  { dst := some 62, op := Op.slice 30 (Operand.tmp 60) none (some (Operand.tmp 61)) none, type := 30, pos := "ref.go:348", after := #[{ on := 1, ground := Ground.data }, { on := 2, ground := Ground.data }], guard := none },
  { dst := some 63, op := Op.call { callee := Callee.builtin Builtin.append, args := #[Operand.tmp 59, Operand.tmp 62], argTypes := #[30, 30] }, type := 30, pos := "ref.go:348", after := #[{ on := 0, ground := Ground.data }, { on := 3, ground := Ground.data }], guard := none },
  { dst := some 64, op := Op.move (Operand.tmp 0), type := 30, pos := "ref.go:348", after := #[], guard := none },
  { dst := some 65, op := Op.move (Operand.tmp 4), type := 3, pos := "ref.go:348", after := #[], guard := none },
  { dst := some 66, op := Op.indexAddr 30 (Operand.tmp 64) (Operand.tmp 65), type := 0, pos := "ref.go:348", after := #[{ on := 5, ground := Ground.data }, { on := 6, ground := Ground.data }], guard := none },
  { dst := some 67, op := Op.load 2 (Operand.tmp 66), type := 2, pos := "ref.go:348", after := #[{ on := 7, ground := Ground.data }], guard := none },
  { dst := some 68, op := Op.buildSlice 30 1 #[(0, Operand.tmp 67)], type := 30, pos := "ref.go:348", after := #[{ on := 8, ground := Ground.data }], guard := none },
  { dst := some 69, op := Op.call { callee := Callee.builtin Builtin.append, args := #[Operand.tmp 63, Operand.tmp 68], argTypes := #[30, 30] }, type := 30, pos := "ref.go:348", after := #[{ on := 4, ground := Ground.data }, { on := 9, ground := Ground.data }, { on := 4, ground := Ground.chain }], guard := none },
  { dst := some 70, op := Op.move (Operand.tmp 3), type := 30, pos := "ref.go:348", after := #[], guard := none },
  { dst := some 71, op := Op.move (Operand.tmp 5), type := 3, pos := "ref.go:348", after := #[], guard := none },
  { dst := some 72, op := Op.slice 30 (Operand.tmp 70) (some (Operand.tmp 71)) none none, type := 30, pos := "ref.go:348", after := #[{ on := 11, ground := Ground.data }, { on := 12, ground := Ground.data }], guard := none },
  { dst := some 73, op := Op.call { callee := Callee.builtin Builtin.append, args := #[Operand.tmp 69, Operand.tmp 72], argTypes := #[30, 30] }, type := 30, pos := "ref.go:348", after := #[{ on := 10, ground := Ground.data }, { on := 13, ground := Ground.data }, { on := 10, ground := Ground.chain }], guard := none },
  { dst := some 3, op := Op.assign (Operand.tmp 73), type := 30, pos := "ref.go:348", after := #[{ on := 14, ground := Ground.data }, { on := 14, ground := Ground.chain }, { on := 0, ground := Ground.phase }, { on := 1, ground := Ground.phase }, { on := 2, ground := Ground.phase }, { on := 3, ground := Ground.phase }, { on := 4, ground := Ground.phase }, { on := 5, ground := Ground.phase }, { on := 6, ground := Ground.phase }, { on := 7, ground := Ground.phase }, { on := 8, ground := Ground.phase }, { on := 9, ground := Ground.phase }, { on := 10, ground := Ground.phase }, { on := 11, ground := Ground.phase }, { on := 12, ground := Ground.phase }, { on := 13, ground := Ground.phase }, { on := 14, ground := Ground.phase }], guard := none }]

def ofins10Vals (g o N cl i m c k c1 nk ck : Nat) (A A1 A2 : Option Addr) (x : Int) : List (Nat × Nat × Value) := [(1, 60, .slice A m c), (2, 61, .int .i64 (k : Int)), (3, 62, .slice A1 k c1), (5, 64, .slice (some ⟨g, o, none⟩) N cl), (6, 65, .int .i64 (i : Int)), (7, 66, .pointer (some ⟨g, o + i, none⟩)), (8, 67, .int .i64 x), (11, 70, .slice A m c), (12, 71, .int .i64 (k : Int)), (13, 72, .slice A2 nk ck)]
def ofins10C : List (Nat × Nat) := [(0, 59), (4, 63), (9, 68), (10, 69), (14, 73), (15, 3)]

set_option maxHeartbeats 4000000 in
set_option maxRecDepth 100000 in
theorem ofins10 {Q : Exit → Act → World → Prop} {a0 : Act} {wp : World} (g o N cl i m c k c1 nk ck : Nat) (A A1 A2 : Option Addr) (x : Int) (S : (Nat → Bool) → (Nat → Value) → World → Prop)
    (hsz : 73 < a0.tmps.size) (in0 : a0.eval (.tmp 0) = .slice (some ⟨g, o, none⟩) N cl) (in4 : a0.eval (.tmp 4) = .int .i64 (i : Int)) (in5 : a0.eval (.tmp 5) = .int .i64 (k : Int))
    (hil : (i : Int) < (N : Int)) (hl0 : ∀ f R w, S f R w → w.cell? ⟨g, o + i, none⟩ = some (.int .i64 x)) (hs1 : ∀ w, (Instr.slice 30 (.slice A m c) none (some (.int .i64 (k : Int))) none).run Tryd.prog w = .ok (.slice A1 k c1) w) (hs2 : ∀ w, (Instr.slice 30 (.slice A m c) (some (.int .i64 (k : Int))) none none).run Tryd.prog w = .ok (.slice A2 nk ck) w)
    (hv : ∀ f R w, S f R w → f 5 = false → R 5 = .slice A m c)
    (hb0 : ∀ f R w, S f R w → f 0 = false → f 1 = false → f 3 = false → f 4 = false → S (setF f 0) (setR R 0 (.slice (some ⟨w.heap.size, 0, none⟩) 0 0)) (w.alloc (.cells #[] 2)))
    (ha1 : ∀ f R w, S f R w → f 0 = true → f 1 = false → f 3 = false → f 4 = false → ∃ v w', (Builtin.append_ #[30, 30] 30 #[R 0, .slice A1 k c1]).run Tryd.prog w = .ok v w' ∧ S (setF f 1) (setR R 1 v) w')
    (hb2 : ∀ f R w, S f R w → f 2 = false → f 3 = false → f 4 = false → S (setF f 2) (setR R 2 (.slice (some ⟨w.heap.size, 0, none⟩) 1 1)) (w.alloc (.cells #[.int .i64 x] 2)))
    (ha3 : ∀ f R w, S f R w → f 0 = true → f 1 = true → f 2 = true → f 3 = false → f 4 = false → ∃ v w', (Builtin.append_ #[30, 30] 30 #[R 1, R 2]).run Tryd.prog w = .ok v w' ∧ S (setF f 3) (setR R 3 v) w')
    (ha4 : ∀ f R w, S f R w → f 1 = true → f 3 = true → f 4 = false → f 5 = false → ∃ v w', (Builtin.append_ #[30, 30] 30 #[R 3, .slice A2 nk ck]).run Tryd.prog w = .ok v w' ∧ S (setF f 4) (setR R 4 v) w')
    (hm5 : ∀ f R w, S f R w → f 4 = true → f 5 = false → S (setF f 5) (setR R 5 (R 4)) w)
    (hS : S (fun _ => false) (resOf ofins10C fun t => a0.eval (.tmp t)) wp.drew)
    (fin : ∀ a w f, Fr [59, 60, 61, 62, 63, 64, 65, 66, 67, 68, 69, 70, 71, 72, 73, 3] a0 a → (∀ j, j < 6 → f j = true) → S f (resOf ofins10C fun t => a.eval (.tmp t)) w → Q .normal a w) :
    (Code.region 10 opsOfins10 true).wp Tryd.prog Q a0 wp := by
  refine region_inv (by kernel_rfl) [59, 60, 61, 62, 63, 64, 65, 66, 67, 68, 69, 70, 71, 72, 73, 3] (by kernel_rfl) (by kernel_rfl) (fun t ht => by simp at ht; omega) (GF (ofins10Vals g o N cl i m c k c1 nk ck A A1 A2 x) ofins10C S) (.start hS) ?_
    (fun L a w hf hall hG => fin a w (flagsOf ofins10C L) hf  (fun j hj => by
      match j, hj with
      | 0, _ => exact (flagsOf_at (C := ofins10C) (j := 0) rfl L).trans (hall 0 (by decide))
      | 1, _ => exact (flagsOf_at (C := ofins10C) (j := 1) rfl L).trans (hall 4 (by decide))
      | 2, _ => exact (flagsOf_at (C := ofins10C) (j := 2) rfl L).trans (hall 9 (by decide))
      | 3, _ => exact (flagsOf_at (C := ofins10C) (j := 3) rfl L).trans (hall 10 (by decide))
      | 4, _ => exact (flagsOf_at (C := ofins10C) (j := 4) rfl L).trans (hall 14 (by decide))
      | 5, _ => exact (flagsOf_at (C := ofins10C) (j := 5) rfl L).trans (hall 15 (by decide))
      | n + 6, h => exact absurd h (by omega)) hG.1)
  clear hS fin
  intro ix oo ho L a w hfr hG hLi hdep hcl K hK
  have e0 : a.tmps[0]?.getD undef = .slice (some ⟨g, o, none⟩) N cl := by rw [← ev]; exact (hfr.same 0 (by decide)).trans in0
  have e4 : a.tmps[4]?.getD undef = .int .i64 (i : Int) := by rw [← ev]; exact (hfr.same 4 (by decide)).trans in4
  have e5 : a.tmps[5]?.getD undef = .int .i64 (k : Int) := by rw [← ev]; exact (hfr.same 5 (by decide)).trans in5
  clear in0 in4 in5
  match ix, ho with
  | 0, ho =>
    simp only [opsOfins10, List.getElem?_toArray, List.getElem?_cons_zero, Option.some.injEq] at ho
    subst ho
    rw [if_pos (show Region.wanted _ _ = true from rfl)]
    have hSj := hG.1
    have hf0 : flagsOf ofins10C L 0 = false := (flagsOf_at (C := ofins10C) (j := 0) rfl L).trans hLi
    have hf1 : flagsOf ofins10C L 1 = false := (flagsOf_at (C := ofins10C) (j := 1) rfl L).trans (by
      cases hl : L 4 with
      | false => rfl
      | true => exact absurd (hcl 4 _ rfl (hl) ⟨0, .data⟩ (by simp [opsOfins10]) rfl) (by rw [hLi]; decide))
    have hf3 : flagsOf ofins10C L 3 = false := (flagsOf_at (C := ofins10C) (j := 3) rfl L).trans (by
      cases hl : L 10 with
      | false => rfl
      | true => exact absurd (hcl 4 _ rfl (hcl 10 _ rfl (hl) ⟨4, .data⟩ (by simp [opsOfins10]) rfl) ⟨0, .data⟩ (by simp [opsOfins10]) rfl) (by rw [hLi]; decide))
    have hf4 : flagsOf ofins10C L 4 = false := (flagsOf_at (C := ofins10C) (j := 4) rfl L).trans (by
      cases hl : L 14 with
      | false => rfl
      | true => exact absurd (hcl 4 _ rfl (hcl 10 _ rfl (hcl 14 _ rfl (hl) ⟨10, .data⟩ (by simp [opsOfins10]) rfl) ⟨4, .data⟩ (by simp [opsOfins10]) rfl) ⟨0, .data⟩ (by simp [opsOfins10]) rfl) (by rw [hLi]; decide))
    have hf5 : flagsOf ofins10C L 5 = false := (flagsOf_at (C := ofins10C) (j := 5) rfl L).trans (by
      cases hl : L 15 with
      | false => rfl
      | true => exact absurd (hcl 15 _ rfl (hl) ⟨0, .phase⟩ (by simp [opsOfins10]) rfl) (by rw [hLi]; decide))
    have hfin := fun v w' hs => hK v w' (hG.call 0 (0, 59) rfl (by kernel_rfl) v w' hs)
    have HK := Lib.hid hfin
    generalize (resOf ofins10C fun t => a.eval (.tmp t)) = R at *
    generalize flagsOf ofins10C L = f at *
    clear hG hcl hdep hfr hK hfin hLi
    have hs := hb0 _ _ _ hSj hf0 hf1 hf3 hf4
    have hk := HK.out _ _ hs
    have HK2 := Lib.hid hk
    clear hs hk HK hSj hil hl0 hs1 hs2 hv hb0 ha1 hb2 ha3 ha4 hm5
    go_simp
    exact HK2.out
  | 1, ho =>
    simp only [opsOfins10, List.getElem?_toArray, List.getElem?_cons_succ, List.getElem?_cons_zero, Option.some.injEq] at ho
    subst ho
    rw [if_pos (show Region.wanted _ _ = true from rfl)]
    have hSp := hG.1
    have hf1 : flagsOf ofins10C L 1 = false := (flagsOf_at (C := ofins10C) (j := 1) rfl L).trans (by
      cases hl : L 4 with
      | false => rfl
      | true => exact absurd (hcl 3 _ rfl (hcl 4 _ rfl (hl) ⟨3, .data⟩ (by simp [opsOfins10]) rfl) ⟨1, .data⟩ (by simp [opsOfins10]) rfl) (by rw [hLi]; decide))
    have hf3 : flagsOf ofins10C L 3 = false := (flagsOf_at (C := ofins10C) (j := 3) rfl L).trans (by
      cases hl : L 10 with
      | false => rfl
      | true => exact absurd (hcl 3 _ rfl (hcl 4 _ rfl (hcl 10 _ rfl (hl) ⟨4, .data⟩ (by simp [opsOfins10]) rfl) ⟨3, .data⟩ (by simp [opsOfins10]) rfl) ⟨1, .data⟩ (by simp [opsOfins10]) rfl) (by rw [hLi]; decide))
    have hf4 : flagsOf ofins10C L 4 = false := (flagsOf_at (C := ofins10C) (j := 4) rfl L).trans (by
      cases hl : L 14 with
      | false => rfl
      | true => exact absurd (hcl 3 _ rfl (hcl 4 _ rfl (hcl 10 _ rfl (hcl 14 _ rfl (hl) ⟨10, .data⟩ (by simp [opsOfins10]) rfl) ⟨4, .data⟩ (by simp [opsOfins10]) rfl) ⟨3, .data⟩ (by simp [opsOfins10]) rfl) ⟨1, .data⟩ (by simp [opsOfins10]) rfl) (by rw [hLi]; decide))
    have hf5 : flagsOf ofins10C L 5 = false := (flagsOf_at (C := ofins10C) (j := 5) rfl L).trans (by
      cases hl : L 15 with
      | false => rfl
      | true => exact absurd (hcl 15 _ rfl (hl) ⟨1, .phase⟩ (by simp [opsOfins10]) rfl) (by rw [hLi]; decide))
    have r3 : a.tmps[3]?.getD undef = resOf ofins10C (fun t => a.eval (.tmp t)) 5 := by rw [← ev]; exact (resOf_at (C := ofins10C) (j := 5) rfl a).symm
    have hfin := hK (.slice A m c) w (hG.quiet 0 1 60 _ rfl (by kernel_rfl) (by kernel_rfl))
    have HK := Lib.hid hfin
    generalize (resOf ofins10C fun t => a.eval (.tmp t)) = R at *
    generalize flagsOf ofins10C L = f at *
    rw [hv _ _ _ hSp hf5] at r3
    clear hil hl0 hs1 hs2 hv hb0 ha1 hb2 ha3 ha4 hm5
    clear hSp
    clear hG hcl hdep hfr hK hfin hLi 
    go_simp
    exact HK.out
  | 2, ho =>
    simp only [opsOfins10, List.getElem?_toArray, List.getElem?_cons_succ, List.getElem?_cons_zero, Option.some.injEq] at ho
    subst ho
    rw [if_pos (show Region.wanted _ _ = true from rfl)]
    have hfin := hK (.int .i64 (k : Int)) w (hG.quiet 1 2 61 _ rfl (by kernel_rfl) (by kernel_rfl))
    have HK := Lib.hid hfin
    clear hG hcl hdep hfr hK hfin hLi 
    go_simp
    exact HK.out
  | 3, ho =>
    simp only [opsOfins10, List.getElem?_toArray, List.getElem?_cons_succ, List.getElem?_cons_zero, Option.some.injEq] at ho
    subst ho
    have x60 : a.tmps[60]?.getD undef = .slice A m c := by rw [← ev]; exact hG.val 0 1 60 _ rfl (hdep ⟨1, .data⟩ (by simp) rfl)
    have x61 : a.tmps[61]?.getD undef = .int .i64 (k : Int) := by rw [← ev]; exact hG.val 1 2 61 _ rfl (hdep ⟨2, .data⟩ (by simp) rfl)
    rw [if_pos (show Region.wanted _ _ = true from rfl)]
    have hSp := hG.1
    have hf1 : flagsOf ofins10C L 1 = false := (flagsOf_at (C := ofins10C) (j := 1) rfl L).trans (by
      cases hl : L 4 with
      | false => rfl
      | true => exact absurd (hcl 4 _ rfl (hl) ⟨3, .data⟩ (by simp [opsOfins10]) rfl) (by rw [hLi]; decide))
    have hf3 : flagsOf ofins10C L 3 = false := (flagsOf_at (C := ofins10C) (j := 3) rfl L).trans (by
      cases hl : L 10 with
      | false => rfl
      | true => exact absurd (hcl 4 _ rfl (hcl 10 _ rfl (hl) ⟨4, .data⟩ (by simp [opsOfins10]) rfl) ⟨3, .data⟩ (by simp [opsOfins10]) rfl) (by rw [hLi]; decide))
    have hf4 : flagsOf ofins10C L 4 = false := (flagsOf_at (C := ofins10C) (j := 4) rfl L).trans (by
      cases hl : L 14 with
      | false => rfl
      | true => exact absurd (hcl 4 _ rfl (hcl 10 _ rfl (hcl 14 _ rfl (hl) ⟨10, .data⟩ (by simp [opsOfins10]) rfl) ⟨4, .data⟩ (by simp [opsOfins10]) rfl) ⟨3, .data⟩ (by simp [opsOfins10]) rfl) (by rw [hLi]; decide))
    have hf5 : flagsOf ofins10C L 5 = false := (flagsOf_at (C := ofins10C) (j := 5) rfl L).trans (by
      cases hl : L 15 with
      | false => rfl
      | true => exact absurd (hcl 15 _ rfl (hl) ⟨3, .phase⟩ (by simp [opsOfins10]) rfl) (by rw [hLi]; decide))
    have hfin := hK (.slice A1 k c1) w (hG.quiet 2 3 62 _ rfl (by kernel_rfl) (by kernel_rfl))
    have HK := Lib.hid hfin
    generalize (resOf ofins10C fun t => a.eval (.tmp t)) = R at *
    generalize flagsOf ofins10C L = f at *
    have q1 := hs1 w
    clear hil hl0 hs1 hs2 hv hb0 ha1 hb2 ha3 ha4 hm5
    clear hSp
    clear hG hcl hdep hfr hK hfin hLi 
    go_simp
    exact HK.out
  | 4, ho =>
    simp only [opsOfins10, List.getElem?_toArray, List.getElem?_cons_succ, List.getElem?_cons_zero, Option.some.injEq] at ho
    subst ho
    have x62 : a.tmps[62]?.getD undef = .slice A1 k c1 := by rw [← ev]; exact hG.val 2 3 62 _ rfl (hdep ⟨3, .data⟩ (by simp) rfl)
    rw [if_pos (show Region.wanted _ _ = true from rfl)]
    have hSj := hG.1
    have hf0 : flagsOf ofins10C L 0 = true := (flagsOf_at (C := ofins10C) (j := 0) rfl L).trans (hdep ⟨0, .data⟩ (by simp) rfl)
    have hf1 : flagsOf ofins10C L 1 = false := (flagsOf_at (C := ofins10C) (j := 1) rfl L).trans hLi
    have hf3 : flagsOf ofins10C L 3 = false := (flagsOf_at (C := ofins10C) (j := 3) rfl L).trans (by
      cases hl : L 10 with
      | false => rfl
      | true => exact absurd (hcl 10 _ rfl (hl) ⟨4, .data⟩ (by simp [opsOfins10]) rfl) (by rw [hLi]; decide))
    have hf4 : flagsOf ofins10C L 4 = false := (flagsOf_at (C := ofins10C) (j := 4) rfl L).trans (by
      cases hl : L 14 with
      | false => rfl
      | true => exact absurd (hcl 10 _ rfl (hcl 14 _ rfl (hl) ⟨10, .data⟩ (by simp [opsOfins10]) rfl) ⟨4, .data⟩ (by simp [opsOfins10]) rfl) (by rw [hLi]; decide))
    have hf5 : flagsOf ofins10C L 5 = false := (flagsOf_at (C := ofins10C) (j := 5) rfl L).trans (by
      cases hl : L 15 with
      | false => rfl
      | true => exact absurd (hcl 15 _ rfl (hl) ⟨4, .phase⟩ (by simp [opsOfins10]) rfl) (by rw [hLi]; decide))
    have r59 : a.tmps[59]?.getD undef = resOf ofins10C (fun t => a.eval (.tmp t)) 0 := by rw [← ev]; exact (resOf_at (C := ofins10C) (j := 0) rfl a).symm
    have hfin := fun v w' hs => hK v w' (hG.call 1 (4, 63) rfl (by kernel_rfl) v w' hs)
    have HK := Lib.hid hfin
    generalize (resOf ofins10C fun t => a.eval (.tmp t)) = R at *
    generalize flagsOf ofins10C L = f at *
    clear hG hcl hdep hfr hK hfin hLi
    obtain ⟨v, w', hrun, hs⟩ := ha1 _ _ _ hSj hf0 hf1 hf3 hf4
    refine oper_append_run (.tmp 59) (.tmp 62) 30 rfl w _ _ (by rw [ev]; exact r59) (by rw [ev]; exact x62) v w' hrun (HK.out v w' hs)
  | 5, ho =>
    simp only [opsOfins10, List.getElem?_toArray, List.getElem?_cons_succ, List.getElem?_cons_zero, Option.some.injEq] at ho
    subst ho
    rw [if_pos (show Region.wanted _ _ = true from rfl)]
    have hfin := hK (.slice (some ⟨g, o, none⟩) N cl) w (hG.quiet 3 5 64 _ rfl (by kernel_rfl) (by kernel_rfl))
    have HK := Lib.hid hfin
    clear hG hcl hdep hfr hK hfin hLi 
    go_simp
    exact HK.out
  | 6, ho =>
    simp only [opsOfins10, List.getElem?_toArray, List.getElem?_cons_succ, List.getElem?_cons_zero, Option.some.injEq] at ho
    subst ho
    rw [if_pos (show Region.wanted _ _ = true from rfl)]
    have hfin := hK (.int .i64 (i : Int)) w (hG.quiet 4 6 65 _ rfl (by kernel_rfl) (by kernel_rfl))
    have HK := Lib.hid hfin
    clear hG hcl hdep hfr hK hfin hLi 
    go_simp
    exact HK.out
  | 7, ho =>
    simp only [opsOfins10, List.getElem?_toArray, List.getElem?_cons_succ, List.getElem?_cons_zero, Option.some.injEq] at ho
    subst ho
    have x64 : a.tmps[64]?.getD undef = .slice (some ⟨g, o, none⟩) N cl := by rw [← ev]; exact hG.val 3 5 64 _ rfl (hdep ⟨5, .data⟩ (by simp) rfl)
    have x65 : a.tmps[65]?.getD undef = .int .i64 (i : Int) := by rw [← ev]; exact hG.val 4 6 65 _ rfl (hdep ⟨6, .data⟩ (by simp) rfl)
    rw [if_pos (show Region.wanted _ _ = true from rfl)]
    have hSp := hG.1
    have hf2 : flagsOf ofins10C L 2 = false := (flagsOf_at (C := ofins10C) (j := 2) rfl L).trans (by
      cases hl : L 9 with
      | false => rfl
      | true => exact absurd (hcl 8 _ rfl (hcl 9 _ rfl (hl) ⟨8, .data⟩ (by simp [opsOfins10]) rfl) ⟨7, .data⟩ (by simp [opsOfins10]) rfl) (by rw [hLi]; decide))
    have hf3 : flagsOf ofins10C L 3 = false := (flagsOf_at (C := ofins10C) (j := 3) rfl L).trans (by
      cases hl : L 10 with
      | false => rfl
      | true => exact absurd (hcl 8 _ rfl (hcl 9 _ rfl (hcl 10 _ rfl (hl) ⟨9, .data⟩ (by simp [opsOfins10]) rfl) ⟨8, .data⟩ (by simp [opsOfins10]) rfl) ⟨7, .data⟩ (by simp [opsOfins10]) rfl) (by rw [hLi]; decide))
    have hf4 : flagsOf ofins10C L 4 = false := (flagsOf_at (C := ofins10C) (j := 4) rfl L).trans (by
      cases hl : L 14 with
      | false => rfl
      | true => exact absurd (hcl 8 _ rfl (hcl 9 _ rfl (hcl 10 _ rfl (hcl 14 _ rfl (hl) ⟨10, .data⟩ (by simp [opsOfins10]) rfl) ⟨9, .data⟩ (by simp [opsOfins10]) rfl) ⟨8, .data⟩ (by simp [opsOfins10]) rfl) ⟨7, .data⟩ (by simp [opsOfins10]) rfl) (by rw [hLi]; decide))
    have hf5 : flagsOf ofins10C L 5 = false := (flagsOf_at (C := ofins10C) (j := 5) rfl L).trans (by
      cases hl : L 15 with
      | false => rfl
      | true => exact absurd (hcl 15 _ rfl (hl) ⟨7, .phase⟩ (by simp [opsOfins10]) rfl) (by rw [hLi]; decide))
    have hfin := hK (.pointer (some ⟨g, o + i, none⟩)) w (hG.quiet 5 7 66 _ rfl (by kernel_rfl) (by kernel_rfl))
    have HK := Lib.hid hfin
    generalize (resOf ofins10C fun t => a.eval (.tmp t)) = R at *
    generalize flagsOf ofins10C L = f at *
    clear hl0 hs1 hs2 hv hb0 ha1 hb2 ha3 ha4 hm5
    clear hSp
    clear hG hcl hdep hfr hK hfin hLi 
    go_simp
    exact HK.out
  | 8, ho =>
    simp only [opsOfins10, List.getElem?_toArray, List.getElem?_cons_succ, List.getElem?_cons_zero, Option.some.injEq] at ho
    subst ho
    have x66 : a.tmps[66]?.getD undef = .pointer (some ⟨g, o + i, none⟩) := by rw [← ev]; exact hG.val 5 7 66 _ rfl (hdep ⟨7, .data⟩ (by simp) rfl)
    rw [if_pos (show Region.wanted _ _ = true from rfl)]
    have hSp := hG.1
    have hf2 : flagsOf ofins10C L 2 = false := (flagsOf_at (C := ofins10C) (j := 2) rfl L).trans (by
      cases hl : L 9 with
      | false => rfl
      | true => exact absurd (hcl 9 _ rfl (hl) ⟨8, .data⟩ (by simp [opsOfins10]) rfl) (by rw [hLi]; decide))
    have hf3 : flagsOf ofins10C L 3 = false := (flagsOf_at (C := ofins10C) (j := 3) rfl L).trans (by
      cases hl : L 10 with
      | false => rfl
      | true => exact absurd (hcl 9 _ rfl (hcl 10 _ rfl (hl) ⟨9, .data⟩ (by simp [opsOfins10]) rfl) ⟨8, .data⟩ (by simp [opsOfins10]) rfl) (by rw [hLi]; decide))
    have hf4 : flagsOf ofins10C L 4 = false := (flagsOf_at (C := ofins10C) (j := 4) rfl L).trans (by
      cases hl : L 14 with
      | false => rfl
      | true => exact absurd (hcl 9 _ rfl (hcl 10 _ rfl (hcl 14 _ rfl (hl) ⟨10, .data⟩ (by simp [opsOfins10]) rfl) ⟨9, .data⟩ (by simp [opsOfins10]) rfl) ⟨8, .data⟩ (by simp [opsOfins10]) rfl) (by rw [hLi]; decide))
    have hf5 : flagsOf ofins10C L 5 = false := (flagsOf_at (C := ofins10C) (j := 5) rfl L).trans (by
      cases hl : L 15 with
      | false => rfl
      | true => exact absurd (hcl 15 _ rfl (hl) ⟨8, .phase⟩ (by simp [opsOfins10]) rfl) (by rw [hLi]; decide))
    have hfin := hK (.int .i64 x) w (hG.quiet 6 8 67 _ rfl (by kernel_rfl) (by kernel_rfl))
    have HK := Lib.hid hfin
    generalize (resOf ofins10C fun t => a.eval (.tmp t)) = R at *
    generalize flagsOf ofins10C L = f at *
    have q1 := hl0 _ _ _ hSp
    clear hil hl0 hs1 hs2 hv hb0 ha1 hb2 ha3 ha4 hm5
    clear hSp
    clear hG hcl hdep hfr hK hfin hLi 
    go_simp
    exact HK.out
  | 9, ho =>
    simp only [opsOfins10, List.getElem?_toArray, List.getElem?_cons_succ, List.getElem?_cons_zero, Option.some.injEq] at ho
    subst ho
    have x67 : a.tmps[67]?.getD undef = .int .i64 x := by rw [← ev]; exact hG.val 6 8 67 _ rfl (hdep ⟨8, .data⟩ (by simp) rfl)
    rw [if_pos (show Region.wanted _ _ = true from rfl)]
    have hSj := hG.1
    have hf2 : flagsOf ofins10C L 2 = false := (flagsOf_at (C := ofins10C) (j := 2) rfl L).trans hLi
    have hf3 : flagsOf ofins10C L 3 = false := (flagsOf_at (C := ofins10C) (j := 3) rfl L).trans (by
      cases hl : L 10 with
      | false => rfl
      | true => exact absurd (hcl 10 _ rfl (hl) ⟨9, .data⟩ (by simp [opsOfins10]) rfl) (by rw [hLi]; decide))
    have hf4 : flagsOf ofins10C L 4 = false := (flagsOf_at (C := ofins10C) (j := 4) rfl L).trans (by
      cases hl : L 14 with
      | false => rfl
      | true => exact absurd (hcl 10 _ rfl (hcl 14 _ rfl (hl) ⟨10, .data⟩ (by simp [opsOfins10]) rfl) ⟨9, .data⟩ (by simp [opsOfins10]) rfl) (by rw [hLi]; decide))
    have hf5 : flagsOf ofins10C L 5 = false := (flagsOf_at (C := ofins10C) (j := 5) rfl L).trans (by
      cases hl : L 15 with
      | false => rfl
      | true => exact absurd (hcl 15 _ rfl (hl) ⟨9, .phase⟩ (by simp [opsOfins10]) rfl) (by rw [hLi]; decide))
    have hfin := fun v w' hs => hK v w' (hG.call 2 (9, 68) rfl (by kernel_rfl) v w' hs)
    have HK := Lib.hid hfin
    generalize (resOf ofins10C fun t => a.eval (.tmp t)) = R at *
    generalize flagsOf ofins10C L = f at *
    clear hG hcl hdep hfr hK hfin hLi
    have hs := hb2 _ _ _ hSj hf2 hf3 hf4
    have hk := HK.out _ _ hs
    have HK2 := Lib.hid hk
    clear hs hk HK hSj hil hl0 hs1 hs2 hv hb0 ha1 hb2 ha3 ha4 hm5
    go_simp
    exact HK2.out
  | 10, ho =>
    simp only [opsOfins10, List.getElem?_toArray, List.getElem?_cons_succ, List.getElem?_cons_zero, Option.some.injEq] at ho
    subst ho
    rw [if_pos (show Region.wanted _ _ = true from rfl)]
    have hSj := hG.1
    have hf0 : flagsOf ofins10C L 0 = true := (flagsOf_at (C := ofins10C) (j := 0) rfl L).trans (hcl 4 _ rfl (hdep ⟨4, .data⟩ (by simp) rfl) ⟨0, .data⟩ (by simp [opsOfins10]) rfl)
    have hf1 : flagsOf ofins10C L 1 = true := (flagsOf_at (C := ofins10C) (j := 1) rfl L).trans (hdep ⟨4, .data⟩ (by simp) rfl)
    have hf2 : flagsOf ofins10C L 2 = true := (flagsOf_at (C := ofins10C) (j := 2) rfl L).trans (hdep ⟨9, .data⟩ (by simp) rfl)
    have hf3 : flagsOf ofins10C L 3 = false := (flagsOf_at (C := ofins10C) (j := 3) rfl L).trans hLi
    have hf4 : flagsOf ofins10C L 4 = false := (flagsOf_at (C := ofins10C) (j := 4) rfl L).trans (by
      cases hl : L 14 with
      | false => rfl
      | true => exact absurd (hcl 14 _ rfl (hl) ⟨10, .data⟩ (by simp [opsOfins10]) rfl) (by rw [hLi]; decide))
    have hf5 : flagsOf ofins10C L 5 = false := (flagsOf_at (C := ofins10C) (j := 5) rfl L).trans (by
      cases hl : L 15 with
      | false => rfl
      | true => exact absurd (hcl 15 _ rfl (hl) ⟨10, .phase⟩ (by simp [opsOfins10]) rfl) (by rw [hLi]; decide))
    have r63 : a.tmps[63]?.getD undef = resOf ofins10C (fun t => a.eval (.tmp t)) 1 := by rw [← ev]; exact (resOf_at (C := ofins10C) (j := 1) rfl a).symm
    have r68 : a.tmps[68]?.getD undef = resOf ofins10C (fun t => a.eval (.tmp t)) 2 := by rw [← ev]; exact (resOf_at (C := ofins10C) (j := 2) rfl a).symm
    have hfin := fun v w' hs => hK v w' (hG.call 3 (10, 69) rfl (by kernel_rfl) v w' hs)
    have HK := Lib.hid hfin
    generalize (resOf ofins10C fun t => a.eval (.tmp t)) = R at *
    generalize flagsOf ofins10C L = f at *
    clear hG hcl hdep hfr hK hfin hLi
    obtain ⟨v, w', hrun, hs⟩ := ha3 _ _ _ hSj hf0 hf1 hf2 hf3 hf4
    refine oper_append_run (.tmp 63) (.tmp 68) 30 rfl w _ _ (by rw [ev]; exact r63) (by rw [ev]; exact r68) v w' hrun (HK.out v w' hs)
  | 11, ho =>
    simp only [opsOfins10, List.getElem?_toArray, List.getElem?_cons_succ, List.getElem?_cons_zero, Option.some.injEq] at ho
    subst ho
    rw [if_pos (show Region.wanted _ _ = true from rfl)]
    have hSp := hG.1
    have hf4 : flagsOf ofins10C L 4 = false := (flagsOf_at (C := ofins10C) (j := 4) rfl L).trans (by
      cases hl : L 14 with
      | false => rfl
      | true => exact absurd (hcl 13 _ rfl (hcl 14 _ rfl (hl) ⟨13, .data⟩ (by simp [opsOfins10]) rfl) ⟨11, .data⟩ (by simp [opsOfins10]) rfl) (by rw [hLi]; decide))
    have hf5 : flagsOf ofins10C L 5 = false := (flagsOf_at (C := ofins10C) (j := 5) rfl L).trans (by
      cases hl : L 15 with
      | false => rfl
      | true => exact absurd (hcl 15 _ rfl (hl) ⟨11, .phase⟩ (by simp [opsOfins10]) rfl) (by rw [hLi]; decide))
    have r3 : a.tmps[3]?.getD undef = resOf ofins10C (fun t => a.eval (.tmp t)) 5 := by rw [← ev]; exact (resOf_at (C := ofins10C) (j := 5) rfl a).symm
    have hfin := hK (.slice A m c) w (hG.quiet 7 11 70 _ rfl (by kernel_rfl) (by kernel_rfl))
    have HK := Lib.hid hfin
    generalize (resOf ofins10C fun t => a.eval (.tmp t)) = R at *
    generalize flagsOf ofins10C L = f at *
    rw [hv _ _ _ hSp hf5] at r3
    clear hil hl0 hs1 hs2 hv hb0 ha1 hb2 ha3 ha4 hm5
    clear hSp
    clear hG hcl hdep hfr hK hfin hLi 
    go_simp
    exact HK.out
  | 12, ho =>
    simp only [opsOfins10, List.getElem?_toArray, List.getElem?_cons_succ, List.getElem?_cons_zero, Option.some.injEq] at ho
    subst ho
    rw [if_pos (show Region.wanted _ _ = true from rfl)]
    have hfin := hK (.int .i64 (k : Int)) w (hG.quiet 8 12 71 _ rfl (by kernel_rfl) (by kernel_rfl))
    have HK := Lib.hid hfin
    clear hG hcl hdep hfr hK hfin hLi 
    go_simp
    exact HK.out
  | 13, ho =>
    simp only [opsOfins10, List.getElem?_toArray, List.getElem?_cons_succ, List.getElem?_cons_zero, Option.some.injEq] at ho
    subst ho
    have x70 : a.tmps[70]?.getD undef = .slice A m c := by rw [← ev]; exact hG.val 7 11 70 _ rfl (hdep ⟨11, .data⟩ (by simp) rfl)
    have x71 : a.tmps[71]?.getD undef = .int .i64 (k : Int) := by rw [← ev]; exact hG.val 8 12 71 _ rfl (hdep ⟨12, .data⟩ (by simp) rfl)
    rw [if_pos (show Region.wanted _ _ = true from rfl)]
    have hSp := hG.1
    have hf4 : flagsOf ofins10C L 4 = false := (flagsOf_at (C := ofins10C) (j := 4) rfl L).trans (by
      cases hl : L 14 with
      | false => rfl
      | true => exact absurd (hcl 14 _ rfl (hl) ⟨13, .data⟩ (by simp [opsOfins10]) rfl) (by rw [hLi]; decide))
    have hf5 : flagsOf ofins10C L 5 = false := (flagsOf_at (C := ofins10C) (j := 5) rfl L).trans (by
      cases hl : L 15 with
      | false => rfl
      | true => exact absurd (hcl 15 _ rfl (hl) ⟨13, .phase⟩ (by simp [opsOfins10]) rfl) (by rw [hLi]; decide))
    have hfin := hK (.slice A2 nk ck) w (hG.quiet 9 13 72 _ rfl (by kernel_rfl) (by kernel_rfl))
    have HK := Lib.hid hfin
    generalize (resOf ofins10C fun t => a.eval (.tmp t)) = R at *
    generalize flagsOf ofins10C L = f at *
    have q1 := hs2 w
    clear hil hl0 hs1 hs2 hv hb0 ha1 hb2 ha3 ha4 hm5
    clear hSp
    clear hG hcl hdep hfr hK hfin hLi 
    go_simp
    exact HK.out
  | 14, ho =>
    simp only [opsOfins10, List.getElem?_toArray, List.getElem?_cons_succ, List.getElem?_cons_zero, Option.some.injEq] at ho
    subst ho
    have x72 : a.tmps[72]?.getD undef = .slice A2 nk ck := by rw [← ev]; exact hG.val 9 13 72 _ rfl (hdep ⟨13, .data⟩ (by simp) rfl)
    rw [if_pos (show Region.wanted _ _ = true from rfl)]
    have hSj := hG.1
    have hf0 : flagsOf ofins10C L 0 = true := (flagsOf_at (C := ofins10C) (j := 0) rfl L).trans (hcl 4 _ rfl (hcl 10 _ rfl (hdep ⟨10, .data⟩ (by simp) rfl) ⟨4, .data⟩ (by simp [opsOfins10]) rfl) ⟨0, .data⟩ (by simp [opsOfins10]) rfl)
    have hf1 : flagsOf ofins10C L 1 = true := (flagsOf_at (C := ofins10C) (j := 1) rfl L).trans (hcl 10 _ rfl (hdep ⟨10, .data⟩ (by simp) rfl) ⟨4, .data⟩ (by simp [opsOfins10]) rfl)
    have hf2 : flagsOf ofins10C L 2 = true := (flagsOf_at (C := ofins10C) (j := 2) rfl L).trans (hcl 10 _ rfl (hdep ⟨10, .data⟩ (by simp) rfl) ⟨9, .data⟩ (by simp [opsOfins10]) rfl)
    have hf3 : flagsOf ofins10C L 3 = true := (flagsOf_at (C := ofins10C) (j := 3) rfl L).trans (hdep ⟨10, .data⟩ (by simp) rfl)
    have hf4 : flagsOf ofins10C L 4 = false := (flagsOf_at (C := ofins10C) (j := 4) rfl L).trans hLi
    have hf5 : flagsOf ofins10C L 5 = false := (flagsOf_at (C := ofins10C) (j := 5) rfl L).trans (by
      cases hl : L 15 with
      | false => rfl
      | true => exact absurd (hcl 15 _ rfl (hl) ⟨14, .data⟩ (by simp [opsOfins10]) rfl) (by rw [hLi]; decide))
    have r69 : a.tmps[69]?.getD undef = resOf ofins10C (fun t => a.eval (.tmp t)) 3 := by rw [← ev]; exact (resOf_at (C := ofins10C) (j := 3) rfl a).symm
    have hfin := fun v w' hs => hK v w' (hG.call 4 (14, 73) rfl (by kernel_rfl) v w' hs)
    have HK := Lib.hid hfin
    generalize (resOf ofins10C fun t => a.eval (.tmp t)) = R at *
    generalize flagsOf ofins10C L = f at *
    clear hG hcl hdep hfr hK hfin hLi
    obtain ⟨v, w', hrun, hs⟩ := ha4 _ _ _ hSj hf1 hf3 hf4 hf5
    refine oper_append_run (.tmp 69) (.tmp 72) 30 rfl w _ _ (by rw [ev]; exact r69) (by rw [ev]; exact x72) v w' hrun (HK.out v w' hs)
  | 15, ho =>
    simp only [opsOfins10, List.getElem?_toArray, List.getElem?_cons_succ, List.getElem?_cons_zero, Option.some.injEq] at ho
    subst ho
    rw [if_pos (show Region.wanted _ _ = true from rfl)]
    have hSj := hG.1
    have hf0 : flagsOf ofins10C L 0 = true := (flagsOf_at (C := ofins10C) (j := 0) rfl L).trans (hdep ⟨0, .phase⟩ (by simp) rfl)
    have hf1 : flagsOf ofins10C L 1 = true := (flagsOf_at (C := ofins10C) (j := 1) rfl L).trans (hdep ⟨4, .phase⟩ (by simp) rfl)
    have hf2 : flagsOf ofins10C L 2 = true := (flagsOf_at (C := ofins10C) (j := 2) rfl L).trans (hdep ⟨9, .phase⟩ (by simp) rfl)
    have hf3 : flagsOf ofins10C L 3 = true := (flagsOf_at (C := ofins10C) (j := 3) rfl L).trans (hdep ⟨10, .phase⟩ (by simp) rfl)
    have hf4 : flagsOf ofins10C L 4 = true := (flagsOf_at (C := ofins10C) (j := 4) rfl L).trans (hdep ⟨14, .data⟩ (by simp) rfl)
    have hf5 : flagsOf ofins10C L 5 = false := (flagsOf_at (C := ofins10C) (j := 5) rfl L).trans hLi
    have r73 : a.tmps[73]?.getD undef = resOf ofins10C (fun t => a.eval (.tmp t)) 4 := by rw [← ev]; exact (resOf_at (C := ofins10C) (j := 4) rfl a).symm
    have hfin := fun v w' hs => hK v w' (hG.call 5 (15, 3) rfl (by kernel_rfl) v w' hs)
    have HK := Lib.hid hfin
    generalize (resOf ofins10C fun t => a.eval (.tmp t)) = R at *
    generalize flagsOf ofins10C L = f at *
    clear hG hcl hdep hfr hK hfin hLi
    have hs := hm5 _ _ _ hSj hf4 hf5
    have hk := HK.out _ _ hs
    have HK2 := Lib.hid hk
    clear hs hk HK hSj hil hl0 hs1 hs2 hv hb0 ha1 hb2 ha3 ha4 hm5
    go_simp
    exact HK2.out
  | n + 16, ho => exact absurd (Array.getElem?_eq_some_iff.1 ho).1 (by show ¬ n + 16 < 16; omega)
end Go.Proofs.YtmcglecdidnhlaaDoor

namespace Go.Proofs.YtmcglecdidnhlaaDoor
open Go.RowKit
set_option linter.unusedVariables false
set_option maxRecDepth 100000

/-- append of the numbers of whatever slice, nil let in. -/
theorem ints_app (w : World) (ty : TypeId) (base : Nat) (v : Value) (acc : List Int) (hown : w.ownsRow base 2 1 v acc.length (li acc)) (B : Nat) (A : Option Addr) (l : List Int) (m c : Nat) (hm : m = l.length) (hr : Ints w B A l) (hl : acc.length + l.length ≤ 1000000000) (hbase : base ≤ w.heap.size) :
    ∃ v' w', (Builtin.append_ #[30, 30] ty #[v, .slice A m c]).run Tryd.prog w = .ok v' w' ∧ w'.ownsRow base 2 1 v' (acc ++ l).length (li (acc ++ l)) ∧ w.grownBy w' v.ownBlock := by
  subst hm
  obtain ⟨i, hi, hz, hsize, hby⟩ := info_parts Tryd.infoI64
  have kept : w.grownBy w v.ownBlock := ⟨rfl, rfl, rfl, Nat.le_refl _, fun _ _ _ => rfl⟩
  cases A with
  | none =>
    have h0 : l = [] := Classical.byContradiction fun hn => by
      obtain ⟨g, o, e, _⟩ := hr hn
      cases e
    subst h0
    refine ⟨v, w, ?_, by simpa using hown, kept⟩
    rcases hown.2 with ⟨rfl, _⟩ | ⟨g, cap, cur, rfl, _, _, hnc, _⟩
    · simp [Builtin.append_, run_underlying Tryd.underlying30, sizeOf, typeInfo, hi, Builtin.lenOf, Builtin.firstCells]
    · simp [Builtin.append_, run_underlying Tryd.underlying30, sizeOf, typeInfo, hi, Builtin.lenOf, Builtin.firstCells, hnc, storeCells]
  | some ad =>
    have hcells : ∀ (j : Nat) (u : Value), (li l)[j]? = some u → w.cell? (ad.add j) = some u := fun j u hu => by
      have hj : j < l.length := by
        have := (List.getElem?_eq_some_iff.1 hu).1
        rwa [li_length] at this
      obtain ⟨g, o, he, _, hc⟩ := hr (fun h => by rw [h] at hj; simp at hj)
      injection he with he
      subst he
      rw [add_to, hc j hj, ← hu, li_at l j hj]
    obtain ⟨v', w', hrun, h2, h3, _⟩ := run_append_own (P := Tryd.prog) w base 30 ty 2 i _ 1 8 Tryd.underlying30 hi hz hsize hby rfl (by decide) v acc.length (li acc) hown ad l.length c (li l) (by rw [li_length, Nat.mul_one]) hcells
      (by intro u hu; unfold li at hu; simp at hu; obtain ⟨b, _, rfl⟩ := hu; rfl) (by unfold maxLen; omega) (by omega) hbase
    refine ⟨v', w', hrun, ?_, h3⟩
    rw [List.length_append, li_append]; exact h2

structure InsS (w1 : World) (r : List Int) (k : Nat) (x : Int) (v0 : Value) (f : Nat → Bool) (R : Nat → Value) (w : World) : Prop where
  bel : Below w1.heap.size w1 w
  e0 : f 0 = true → f 1 = false → ∃ b, R 0 = .slice (some ⟨b, 0, none⟩) 0 0 ∧ Blk w b 2 #[] ∧ w1.heap.size ≤ b
  e1 : f 1 = true → f 3 = false → w.ownsRow w1.heap.size 2 1 (R 1) (r.take k).length (li (r.take k))
  e2 : f 2 = true → f 3 = false → ∃ b, R 2 = .slice (some ⟨b, 0, none⟩) 1 1 ∧ Blk w b 2 #[.int .i64 x]
  e3 : f 3 = true → f 4 = false → w.ownsRow w1.heap.size 2 1 (R 3) (r.take k ++ [x]).length (li (r.take k ++ [x]))
  e4 : f 4 = true → w.ownsRow w1.heap.size 2 1 (R 4) (r.take k ++ [x] ++ r.drop k).length (li (r.take k ++ [x] ++ r.drop k))
  e5 : f 5 = false → R 5 = v0
  e6 : f 5 = true → R 5 = R 4
section
variable {w1 w : World} {r : List Int} {k : Nat} {x : Int} {v0 : Value} {f : Nat → Bool} {R : Nat → Value}
theorem InsS.start (hv : R 5 = v0) : InsS w1 r k x v0 (fun _ => false) R w1.drew :=
  ⟨(Below.refl _ _).drew, fun h => absurd h (by simp), fun h => absurd h (by simp), fun h => absurd h (by simp), fun h => absurd h (by simp), fun h => absurd h (by simp), fun _ => hv, fun h => absurd h (by simp)⟩
theorem InsS.s0 (h : InsS w1 r k x v0 f R w) (h1 : f 1 = false) (h3 : f 3 = false) (h4 : f 4 = false) : InsS w1 r k x v0 (setF f 0) (setR R 0 (.slice (some ⟨w.heap.size, 0, none⟩) 0 0)) (w.alloc (.cells #[] 2)) := by
  refine ⟨h.bel.alloc h.bel.size _, fun _ _ => ⟨w.heap.size, setR_self .., Blk.new w _ _, h.bel.size⟩, fun c => ?_, fun c c' => ?_, fun c => ?_, fun c => ?_, fun c => ?_, fun c => ?_⟩
  · rw [setF_ne _ (by decide), h1] at c; cases c
  · rw [setF_ne _ (by decide)] at c c'
    obtain ⟨b, b1, b2⟩ := h.e2 c c'
    exact ⟨b, by rw [setR_ne _ _ (by decide)]; exact b1, b2.alloc _⟩
  · rw [setF_ne _ (by decide), h3] at c; cases c
  · rw [setF_ne _ (by decide), h4] at c; cases c
  · rw [setF_ne _ (by decide)] at c
    rw [setR_ne _ _ (by decide)]; exact h.e5 c
  · rw [setF_ne _ (by decide)] at c
    rw [setR_ne _ _ (by decide), setR_ne _ _ (by decide)]; exact h.e6 c
theorem InsS.s2 (h : InsS w1 r k x v0 f R w) (h3 : f 3 = false) (h4 : f 4 = false) : InsS w1 r k x v0 (setF f 2) (setR R 2 (.slice (some ⟨w.heap.size, 0, none⟩) 1 1)) (w.alloc (.cells #[.int .i64 x] 2)) := by
  refine ⟨h.bel.alloc h.bel.size _, fun c c' => ?_, fun c c' => ?_, fun _ _ => ⟨w.heap.size, setR_self .., Blk.new w _ _⟩, fun c => ?_, fun c => ?_, fun c => ?_, fun c => ?_⟩
  · rw [setF_ne _ (by decide)] at c c'
    obtain ⟨b, b1, b2, b3⟩ := h.e0 c c'
    exact ⟨b, by rw [setR_ne _ _ (by decide)]; exact b1, b2.alloc _, b3⟩
  · rw [setF_ne _ (by decide)] at c c'
    rw [setR_ne _ _ (by decide)]
    exact (h.e1 c c').alloc _
  · rw [setF_ne _ (by decide), h3] at c; cases c
  · rw [setF_ne _ (by decide), h4] at c; cases c
  · rw [setF_ne _ (by decide)] at c
    rw [setR_ne _ _ (by decide)]; exact h.e5 c
  · rw [setF_ne _ (by decide)] at c
    rw [setR_ne _ _ (by decide), setR_ne _ _ (by decide)]; exact h.e6 c
theorem InsS.s1 (h : InsS w1 r k x v0 f R w) (h0 : f 0 = true) (h1 : f 1 = false) (h3 : f 3 = false) (h4 : f 4 = false) {A : Option Addr} {n c : Nat} (hn : n = (r.take k).length) (hr : Ints w1 w1.heap.size A (r.take k)) (hl : r.length ≤ 1000000) (ty : TypeId) :
    ∃ v w', (Builtin.append_ #[30, 30] ty #[R 0, .slice A n c]).run Tryd.prog w = .ok v w' ∧ InsS w1 r k x v0 (setF f 1) (setR R 1 v) w' := by
  obtain ⟨b, b1, b2, b3⟩ := h.e0 h0 h1
  have hown : w.ownsRow w1.heap.size 2 1 (.slice (some ⟨b, 0, none⟩) 0 0) ([] : List Int).length (li []) := ⟨by simp [li], .inr ⟨b, 0, #[], rfl, b3, b2, Nat.le_refl _, Nat.zero_le _, by simp, by simp [li]⟩⟩
  obtain ⟨v', w', hrun, q2, q3⟩ := ints_app w ty w1.heap.size _ [] hown w1.heap.size A (r.take k) n c hn (hr.below h.bel (Nat.le_refl _)) (by rw [List.length_take]; simp; omega) h.bel.size
  rw [List.nil_append] at q2
  refine ⟨v', w', by rw [b1]; exact hrun, ⟨h.bel.grown q3 h.bel.size (fun j hj => by simp [Value.ownBlock] at hj; omega), fun c c' => ?_, fun c c' => by rw [setR_self]; exact q2, fun c c' => ?_, fun c => ?_, fun c => ?_, fun c => ?_, fun c => ?_⟩⟩
  · rw [setF_self] at c'; cases c'
  · rw [setF_ne _ (by decide)] at c c'
    obtain ⟨b', d1, d2⟩ := h.e2 c c'
    refine ⟨b', by rw [setR_ne _ _ (by decide)]; exact d1, d2.grown q3 (fun he => ?_)⟩
    simp [Value.ownBlock] at he
    subst he
    have := (show w.heap[b']? = _ from b2).symm.trans d2
    simp at this
  · rw [setF_ne _ (by decide), h3] at c; cases c
  · rw [setF_ne _ (by decide), h4] at c; cases c
  · rw [setF_ne _ (by decide)] at c
    rw [setR_ne _ _ (by decide)]; exact h.e5 c
  · rw [setF_ne _ (by decide)] at c
    rw [setR_ne _ _ (by decide), setR_ne _ _ (by decide)]; exact h.e6 c
theorem InsS.s3 (h : InsS w1 r k x v0 f R w) (h1 : f 1 = true) (h2 : f 2 = true) (h3 : f 3 = false) (h4 : f 4 = false) (hl : r.length ≤ 1000000) (ty : TypeId) :
    ∃ v w', (Builtin.append_ #[30, 30] ty #[R 1, R 2]).run Tryd.prog w = .ok v w' ∧ InsS w1 r k x v0 (setF f 3) (setR R 3 v) w' := by
  obtain ⟨b, b1, b2⟩ := h.e2 h2 h3
  have hX : Ints w w.heap.size (some ⟨b, 0, none⟩) [x] := fun _ => ⟨b, 0, rfl, b2.lt, fun j hj => by
    have : j = 0 := by simpa using hj
    subst this
    exact b2.cell 0 _ rfl⟩
  have hown := h.e1 h1 h3
  obtain ⟨v', w', hrun, q2, q3⟩ := ints_app w ty w1.heap.size _ (r.take k) hown w.heap.size (some ⟨b, 0, none⟩) [x] 1 1 rfl hX (by rw [List.length_take]; simp; omega) h.bel.size
  refine ⟨v', w', by rw [b1]; exact hrun, ⟨h.bel.grown q3 h.bel.size (fun j hj => (hown.lt j hj).1), fun c c' => ?_, fun c c' => ?_, fun c c' => ?_, fun c c' => by rw [setR_self]; exact q2, fun c => ?_, fun c => ?_, fun c => ?_⟩⟩
  · rw [setF_ne _ (by decide), h1] at c'; cases c'
  · rw [setF_self] at c'; cases c'
  · rw [setF_self] at c'; cases c'
  · rw [setF_ne _ (by decide), h4] at c; cases c
  · rw [setF_ne _ (by decide)] at c
    rw [setR_ne _ _ (by decide)]; exact h.e5 c
  · rw [setF_ne _ (by decide)] at c
    rw [setR_ne _ _ (by decide), setR_ne _ _ (by decide)]; exact h.e6 c
theorem InsS.s4 (h : InsS w1 r k x v0 f R w) (h1 : f 1 = true) (h3 : f 3 = true) (h4 : f 4 = false) (h5 : f 5 = false) {A : Option Addr} {n c : Nat} (hn : n = (r.drop k).length) (hr : Ints w1 w1.heap.size A (r.drop k)) (hl : r.length ≤ 1000000) (ty : TypeId) :
    ∃ v w', (Builtin.append_ #[30, 30] ty #[R 3, .slice A n c]).run Tryd.prog w = .ok v w' ∧ InsS w1 r k x v0 (setF f 4) (setR R 4 v) w' := by
  have hown := h.e3 h3 h4
  obtain ⟨v', w', hrun, q2, q3⟩ := ints_app w ty w1.heap.size _ (r.take k ++ [x]) hown w1.heap.size A (r.drop k) n c hn (hr.below h.bel (Nat.le_refl _)) (by rw [List.length_append, List.length_take, List.length_drop]; simp; omega) h.bel.size
  refine ⟨v', w', hrun, ⟨h.bel.grown q3 h.bel.size (fun j hj => (hown.lt j hj).1), fun c c' => ?_, fun c c' => ?_, fun c c' => ?_, fun c c' => ?_, fun c => by rw [setR_self]; exact q2, fun c => ?_, fun c => ?_⟩⟩
  · rw [setF_ne _ (by decide), h1] at c'; cases c'
  · rw [setF_ne _ (by decide), h3] at c'; cases c'
  · rw [setF_ne _ (by decide), h3] at c'; cases c'
  · rw [setF_self] at c'; cases c'
  · rw [setF_ne _ (by decide)] at c
    rw [setR_ne _ _ (by decide)]; exact h.e5 c
  · rw [setF_ne _ (by decide), h5] at c; cases c
theorem InsS.s5 (h : InsS w1 r k x v0 f R w) (h4 : f 4 = true) (h5 : f 5 = false) : InsS w1 r k x v0 (setF f 5) (setR R 5 (R 4)) w := by
  refine ⟨h.bel, fun c c' => ?_, fun c c' => ?_, fun c c' => ?_, fun c c' => ?_, fun c => ?_, fun c => ?_, fun c => ?_⟩
  · rw [setF_ne _ (by decide)] at c c'; rw [setR_ne _ _ (by decide)]; exact h.e0 c c'
  · rw [setF_ne _ (by decide)] at c c'; rw [setR_ne _ _ (by decide)]; exact h.e1 c c'
  · rw [setF_ne _ (by decide)] at c c'; rw [setR_ne _ _ (by decide)]; exact h.e2 c c'
  · rw [setF_ne _ (by decide)] at c c'; rw [setR_ne _ _ (by decide)]; exact h.e3 c c'
  · rw [setF_ne _ (by decide)] at c; rw [setR_ne _ _ (by decide)]; exact h.e4 c
  · rw [setF_self] at c; cases c
  · rw [setR_self, setR_ne _ _ (by decide)]
end
end Go.Proofs.YtmcglecdidnhlaaDoor

namespace Go.Proofs.YtmcglecdidnhlaaDoor
open Go.RowKit
set_option linter.unusedVariables false
set_option linter.unusedSimpArgs false

def opsOfsp20 : Array Oper := #[
  { dst := some 114, op := Op.fieldAddr 37 (Operand.tmp 6) 0, type := 0, pos := "ref.go:361", after := #[], guard := none },
  { dst := some 115, op := Op.load 35 (Operand.tmp 114), type := 35, pos := "ref.go:361", after := #[{ on := 0, ground := Ground.data }], guard := none },
  { dst := some 116, op := Op.move (Operand.tmp 3), type := 30, pos := "ref.go:361", after := #[], guard := none },
  { dst := some 117, op := Op.move (Operand.tmp 7), type := 3, pos := "ref.go:361", after := #[], guard := none },
  { dst := some 118, op := Op.indexAddr 30 (Operand.tmp 116) (Operand.tmp 117), type := 0, pos := "ref.go:361", after := #[{ on := 2, ground := Ground.data }, { on := 3, ground := Ground.data }], guard := none },
  { dst := some 119, op := Op.load 2 (Operand.tmp 118), type := 2, pos := "ref.go:361", after := #[{ on := 4, ground := Ground.data }], guard := none },
  { dst := some 120, op := Op.move (Operand.tmp 3), type := 30, pos := "ref.go:361", after := #[], guard := none },
  { dst := some 121, op := Op.move (Operand.tmp 7), type := 3, pos := "ref.go:361", after := #[], guard := none },
  { dst := some 122, op := Op.indexAddr 30 (Operand.tmp 120) (Operand.tmp 121), type := 0, pos := "ref.go:361", after := #[{ on := 6, ground := Ground.data }, { on := 7, ground := Ground.data }], guard := none },
  { dst := some 123, op := Op.load 2 (Operand.tmp 122), type := 2, pos := "ref.go:361", after := #[{ on := 8, ground := Ground.data }], guard := none },
  { dst := some 124, op := Op.build 65 #[(0, Operand.tmp 119), (1, Operand.tmp 123)], type := 65, pos := "ref.go:361", after := #[{ on := 5, ground := Ground.data }, { on := 9, ground := Ground.data }], guard := none },
  { dst := some 125, op := Op.buildSlice 35 1 #[(0, Operand.tmp 124)], type := 35, pos := "ref.go:361", after := #[{ on := 10, ground := Ground.data }], guard := none },
  { dst := some 126, op := Op.call { callee := Callee.builtin Builtin.append, args := #[Operand.tmp 115, Operand.tmp 125], argTypes := #[35, 35] }, type := 35, pos := "ref.go:361", after := #[{ on := 1, ground := Ground.data }, { on := 11, ground := Ground.data }], guard := none },
  { dst := some 127, op := Op.fieldAddr 37 (Operand.tmp 6) 0, type := 0, pos := "ref.go:361", after := #[{ on := 0, ground := Ground.phase }, { on := 1, ground := Ground.phase }, { on := 2, ground := Ground.phase }, { on := 3, ground := Ground.phase }, { on := 4, ground := Ground.phase }, { on := 5, ground := Ground.phase }, { on := 6, ground := Ground.phase }, { on := 7, ground := Ground.phase }, { on := 8, ground := Ground.phase }, { on := 9, ground := Ground.phase }, { on := 10, ground := Ground.phase }, { on := 11, ground := Ground.phase }, { on := 12, ground := Ground.phase }], guard := none },
  { dst := none, op := Op.store 35 (Operand.tmp 127) (Operand.tmp 126), type := 0, pos := "ref.go:361", after := #[{ on := 13, ground := Ground.data }, { on := 12, ground := Ground.data }, { on := 12, ground := Ground.chain }, { on := 0, ground := Ground.phase }, { on := 1, ground := Ground.phase }, { on := 2, ground := Ground.phase }, { on := 3, ground := Ground.phase }, { on := 4, ground := Ground.phase }, { on := 5, ground := Ground.phase }, { on := 6, ground := Ground.phase }, { on := 7, ground := Ground.phase }, { on := 8, ground := Ground.phase }, { on := 9, ground := Ground.phase }, { on := 10, ground := Ground.phase }, { on := 11, ground := Ground.phase }, { on := 12, ground := Ground.phase }], guard := none }]

def ofsp20Vals (g N ci i bt m c : Nat) (A : Option Addr) (x : Int) : List (Nat × Nat × Value) := [(0, 114, .pointer (some ⟨bt, 0, none⟩)), (1, 115, .slice A m c), (2, 116, .slice (some ⟨g, 0, none⟩) N ci), (3, 117, .int .i64 (i : Int)), (4, 118, .pointer (some ⟨g, i, none⟩)), (5, 119, .int .i64 x), (6, 120, .slice (some ⟨g, 0, none⟩) N ci), (7, 121, .int .i64 (i : Int)), (8, 122, .pointer (some ⟨g, i, none⟩)), (9, 123, .int .i64 x), (10, 124, .agg #[.int .i64 x, .int .i64 x]), (13, 127, .pointer (some ⟨bt, 0, none⟩))]
def ofsp20C : List (Nat × Nat) := [(11, 125), (12, 126), (14, 1000014)]

set_option maxHeartbeats 4000000 in
set_option maxRecDepth 100000 in
theorem ofsp20 {Q : Exit → Act → World → Prop} {a0 : Act} {wp : World} (g N ci i bt m c : Nat) (A : Option Addr) (x : Int) (S : (Nat → Bool) → (Nat → Value) → World → Prop)
    (hsz : 127 < a0.tmps.size) (in3 : a0.eval (.tmp 3) = .slice (some ⟨g, 0, none⟩) N ci) (in6 : a0.eval (.tmp 6) = .pointer (some ⟨bt, 0, none⟩)) (in7 : a0.eval (.tmp 7) = .int .i64 (i : Int))
    (hil : (i : Int) < (N : Int)) (hl0 : ∀ f R w, S f R w → w.cell? ⟨g, i, none⟩ = some (.int .i64 x)) (hbx : ∀ f R w, S f R w → f 2 = false → w.cell? ⟨bt, 0, none⟩ = some (.slice A m c))
    (hb0 : ∀ f R w, S f R w → f 0 = false → f 1 = false → f 2 = false → S (setF f 0) (setR R 0 (.slice (some ⟨w.heap.size, 0, none⟩) 1 1)) (w.alloc (.cells #[.int .i64 x, .int .i64 x] 65)))
    (ha1 : ∀ f R w, S f R w → f 0 = true → f 1 = false → f 2 = false → ∃ v w', (Builtin.append_ #[35, 35] 35 #[.slice A m c, R 0]).run Tryd.prog w = .ok v w' ∧ S (setF f 1) (setR R 1 v) w')
    (hs2 : ∀ f R w, S f R w → f 1 = true → f 2 = false → ∃ A n c, R 1 = .slice A n c ∧ w.frozen? ⟨bt, 0, none⟩ = false ∧ S (setF f 2) R (w.setCell ⟨bt, 0, none⟩ (.slice A n c)))
    (hS : S (fun _ => false) (resOf ofsp20C fun t => a0.eval (.tmp t)) wp.drew)
    (fin : ∀ a w f, Fr [114, 115, 116, 117, 118, 119, 120, 121, 122, 123, 124, 125, 126, 127] a0 a → (∀ j, j < 3 → f j = true) → S f (resOf ofsp20C fun t => a.eval (.tmp t)) w → Q .normal a w) :
    (Code.region 20 opsOfsp20 true).wp Tryd.prog Q a0 wp := by
  refine region_inv (by kernel_rfl) [114, 115, 116, 117, 118, 119, 120, 121, 122, 123, 124, 125, 126, 127] (by kernel_rfl) (by kernel_rfl) (fun t ht => by simp at ht; omega) (GF (ofsp20Vals g N ci i bt m c A x) ofsp20C S) (.start hS) ?_
    (fun L a w hf hall hG => fin a w (flagsOf ofsp20C L) hf  (fun j hj => by
      match j, hj with
      | 0, _ => exact (flagsOf_at (C := ofsp20C) (j := 0) rfl L).trans (hall 11 (by decide))
      | 1, _ => exact (flagsOf_at (C := ofsp20C) (j := 1) rfl L).trans (hall 12 (by decide))
      | 2, _ => exact (flagsOf_at (C := ofsp20C) (j := 2) rfl L).trans (hall 14 (by decide))
      | n + 3, h => exact absurd h (by omega)) hG.1)
  clear hS fin
  intro ix oo ho L a w hfr hG hLi hdep hcl K hK
  have e3 : a.tmps[3]?.getD undef = .slice (some ⟨g, 0, none⟩) N ci := by rw [← ev]; exact (hfr.same 3 (by decide)).trans in3
  have e6 : a.tmps[6]?.getD undef = .pointer (some ⟨bt, 0, none⟩) := by rw [← ev]; exact (hfr.same 6 (by decide)).trans in6
  have e7 : a.tmps[7]?.getD undef = .int .i64 (i : Int) := by rw [← ev]; exact (hfr.same 7 (by decide)).trans in7
  clear in3 in6 in7
  match ix, ho with
  | 0, ho =>
    simp only [opsOfsp20, List.getElem?_toArray, List.getElem?_cons_zero, Option.some.injEq] at ho
    subst ho
    rw [if_pos (show Region.wanted _ _ = true from rfl)]
    have hfin := hK (.pointer (some ⟨bt, 0, none⟩)) w (hG.quiet 0 0 114 _ rfl (by kernel_rfl) (by kernel_rfl))
    have HK := Lib.hid hfin
    clear hG hcl hdep hfr hK hfin hLi 
    go_simp
    exact HK.out
  | 1, ho =>
    simp only [opsOfsp20, List.getElem?_toArray, List.getElem?_cons_succ, List.getElem?_cons_zero, Option.some.injEq] at ho
    subst ho
    have x114 : a.tmps[114]?.getD undef = .pointer (some ⟨bt, 0, none⟩) := by rw [← ev]; exact hG.val 0 0 114 _ rfl (hdep ⟨0, .data⟩ (by simp) rfl)
    rw [if_pos (show Region.wanted _ _ = true from rfl)]
    have hSp := hG.1
    have hf1 : flagsOf ofsp20C L 1 = false := (flagsOf_at (C := ofsp20C) (j := 1) rfl L).trans (by
      cases hl : L 12 with
      | false => rfl
      | true => exact absurd (hcl 12 _ rfl (hl) ⟨1, .data⟩ (by simp [opsOfsp20]) rfl) (by rw [hLi]; decide))
    have hf2 : flagsOf ofsp20C L 2 = false := (flagsOf_at (C := ofsp20C) (j := 2) rfl L).trans (by
      cases hl : L 14 with
      | false => rfl
      | true => exact absurd (hcl 14 _ rfl (hl) ⟨1, .phase⟩ (by simp [opsOfsp20]) rfl) (by rw [hLi]; decide))
    have hfin := hK (.slice A m c) w (hG.quiet 1 1 115 _ rfl (by kernel_rfl) (by kernel_rfl))
    have HK := Lib.hid hfin
    generalize (resOf ofsp20C fun t => a.eval (.tmp t)) = R at *
    generalize flagsOf ofsp20C L = f at *
    have q1 := hbx _ _ _ hSp hf2
    clear hil hl0 hbx hb0 ha1 hs2
    clear hSp
    clear hG hcl hdep hfr hK hfin hLi 
    go_simp
    exact HK.out
  | 2, ho =>
    simp only [opsOfsp20, List.getElem?_toArray, List.getElem?_cons_succ, List.getElem?_cons_zero, Option.some.injEq] at ho
    subst ho
    rw [if_pos (show Region.wanted _ _ = true from rfl)]
    have hfin := hK (.slice (some ⟨g, 0, none⟩) N ci) w (hG.quiet 2 2 116 _ rfl (by kernel_rfl) (by kernel_rfl))
    have HK := Lib.hid hfin
    clear hG hcl hdep hfr hK hfin hLi 
    go_simp
    exact HK.out
  | 3, ho =>
    simp only [opsOfsp20, List.getElem?_toArray, List.getElem?_cons_succ, List.getElem?_cons_zero, Option.some.injEq] at ho
    subst ho
    rw [if_pos (show Region.wanted _ _ = true from rfl)]
    have hfin := hK (.int .i64 (i : Int)) w (hG.quiet 3 3 117 _ rfl (by kernel_rfl) (by kernel_rfl))
    have HK := Lib.hid hfin
    clear hG hcl hdep hfr hK hfin hLi 
    go_simp
    exact HK.out
  | 4, ho =>
    simp only [opsOfsp20, List.getElem?_toArray, List.getElem?_cons_succ, List.getElem?_cons_zero, Option.some.injEq] at ho
    subst ho
    have x116 : a.tmps[116]?.getD undef = .slice (some ⟨g, 0, none⟩) N ci := by rw [← ev]; exact hG.val 2 2 116 _ rfl (hdep ⟨2, .data⟩ (by simp) rfl)
    have x117 : a.tmps[117]?.getD undef = .int .i64 (i : Int) := by rw [← ev]; exact hG.val 3 3 117 _ rfl (hdep ⟨3, .data⟩ (by simp) rfl)
    rw [if_pos (show Region.wanted _ _ = true from rfl)]
    have hSp := hG.1
    have hf0 : flagsOf ofsp20C L 0 = false := (flagsOf_at (C := ofsp20C) (j := 0) rfl L).trans (by
      cases hl : L 11 with
      | false => rfl
      | true => exact absurd (hcl 5 _ rfl (hcl 10 _ rfl (hcl 11 _ rfl (hl) ⟨10, .data⟩ (by simp [opsOfsp20]) rfl) ⟨5, .data⟩ (by simp [opsOfsp20]) rfl) ⟨4, .data⟩ (by simp [opsOfsp20]) rfl) (by rw [hLi]; decide))
    have hf1 : flagsOf ofsp20C L 1 = false := (flagsOf_at (C := ofsp20C) (j := 1) rfl L).trans (by
      cases hl : L 12 with
      | false => rfl
      | true => exact absurd (hcl 5 _ rfl (hcl 10 _ rfl (hcl 11 _ rfl (hcl 12 _ rfl (hl) ⟨11, .data⟩ (by simp [opsOfsp20]) rfl) ⟨10, .data⟩ (by simp [opsOfsp20]) rfl) ⟨5, .data⟩ (by simp [opsOfsp20]) rfl) ⟨4, .data⟩ (by simp [opsOfsp20]) rfl) (by rw [hLi]; decide))
    have hf2 : flagsOf ofsp20C L 2 = false := (flagsOf_at (C := ofsp20C) (j := 2) rfl L).trans (by
      cases hl : L 14 with
      | false => rfl
      | true => exact absurd (hcl 14 _ rfl (hl) ⟨4, .phase⟩ (by simp [opsOfsp20]) rfl) (by rw [hLi]; decide))
    have hfin := hK (.pointer (some ⟨g, i, none⟩)) w (hG.quiet 4 4 118 _ rfl (by kernel_rfl) (by kernel_rfl))
    have HK := Lib.hid hfin
    generalize (resOf ofsp20C fun t => a.eval (.tmp t)) = R at *
    generalize flagsOf ofsp20C L = f at *
    clear hl0 hbx hb0 ha1 hs2
    clear hSp
    clear hG hcl hdep hfr hK hfin hLi 
    go_simp
    exact HK.out
  | 5, ho =>
    simp only [opsOfsp20, List.getElem?_toArray, List.getElem?_cons_succ, List.getElem?_cons_zero, Option.some.injEq] at ho
    subst ho
    have x118 : a.tmps[118]?.getD undef = .pointer (some ⟨g, i, none⟩) := by rw [← ev]; exact hG.val 4 4 118 _ rfl (hdep ⟨4, .data⟩ (by simp) rfl)
    rw [if_pos (show Region.wanted _ _ = true from rfl)]
    have hSp := hG.1
    have hf0 : flagsOf ofsp20C L 0 = false := (flagsOf_at (C := ofsp20C) (j := 0) rfl L).trans (by
      cases hl : L 11 with
      | false => rfl
      | true => exact absurd (hcl 10 _ rfl (hcl 11 _ rfl (hl) ⟨10, .data⟩ (by simp [opsOfsp20]) rfl) ⟨5, .data⟩ (by simp [opsOfsp20]) rfl) (by rw [hLi]; decide))
    have hf1 : flagsOf ofsp20C L 1 = false := (flagsOf_at (C := ofsp20C) (j := 1) rfl L).trans (by
      cases hl : L 12 with
      | false => rfl
      | true => exact absurd (hcl 10 _ rfl (hcl 11 _ rfl (hcl 12 _ rfl (hl) ⟨11, .data⟩ (by simp [opsOfsp20]) rfl) ⟨10, .data⟩ (by simp [opsOfsp20]) rfl) ⟨5, .data⟩ (by simp [opsOfsp20]) rfl) (by rw [hLi]; decide))
    have hf2 : flagsOf ofsp20C L 2 = false := (flagsOf_at (C := ofsp20C) (j := 2) rfl L).trans (by
      cases hl : L 14 with
      | false => rfl
      | true => exact absurd (hcl 14 _ rfl (hl) ⟨5, .phase⟩ (by simp [opsOfsp20]) rfl) (by rw [hLi]; decide))
    have hfin := hK (.int .i64 x) w (hG.quiet 5 5 119 _ rfl (by kernel_rfl) (by kernel_rfl))
    have HK := Lib.hid hfin
    generalize (resOf ofsp20C fun t => a.eval (.tmp t)) = R at *
    generalize flagsOf ofsp20C L = f at *
    have q1 := hl0 _ _ _ hSp
    clear hil hl0 hbx hb0 ha1 hs2
    clear hSp
    clear hG hcl hdep hfr hK hfin hLi 
    go_simp
    exact HK.out
  | 6, ho =>
    simp only [opsOfsp20, List.getElem?_toArray, List.getElem?_cons_succ, List.getElem?_cons_zero, Option.some.injEq] at ho
    subst ho
    rw [if_pos (show Region.wanted _ _ = true from rfl)]
    have hfin := hK (.slice (some ⟨g, 0, none⟩) N ci) w (hG.quiet 6 6 120 _ rfl (by kernel_rfl) (by kernel_rfl))
    have HK := Lib.hid hfin
    clear hG hcl hdep hfr hK hfin hLi 
    go_simp
    exact HK.out
  | 7, ho =>
    simp only [opsOfsp20, List.getElem?_toArray, List.getElem?_cons_succ, List.getElem?_cons_zero, Option.some.injEq] at ho
    subst ho
    rw [if_pos (show Region.wanted _ _ = true from rfl)]
    have hfin := hK (.int .i64 (i : Int)) w (hG.quiet 7 7 121 _ rfl (by kernel_rfl) (by kernel_rfl))
    have HK := Lib.hid hfin
    clear hG hcl hdep hfr hK hfin hLi 
    go_simp
    exact HK.out
  | 8, ho =>
    simp only [opsOfsp20, List.getElem?_toArray, List.getElem?_cons_succ, List.getElem?_cons_zero, Option.some.injEq] at ho
    subst ho
    have x120 : a.tmps[120]?.getD undef = .slice (some ⟨g, 0, none⟩) N ci := by rw [← ev]; exact hG.val 6 6 120 _ rfl (hdep ⟨6, .data⟩ (by simp) rfl)
    have x121 : a.tmps[121]?.getD undef = .int .i64 (i : Int) := by rw [← ev]; exact hG.val 7 7 121 _ rfl (hdep ⟨7, .data⟩ (by simp) rfl)
    rw [if_pos (show Region.wanted _ _ = true from rfl)]
    have hSp := hG.1
    have hf0 : flagsOf ofsp20C L 0 = false := (flagsOf_at (C := ofsp20C) (j := 0) rfl L).trans (by
      cases hl : L 11 with
      | false => rfl
      | true => exact absurd (hcl 9 _ rfl (hcl 10 _ rfl (hcl 11 _ rfl (hl) ⟨10, .data⟩ (by simp [opsOfsp20]) rfl) ⟨9, .data⟩ (by simp [opsOfsp20]) rfl) ⟨8, .data⟩ (by simp [opsOfsp20]) rfl) (by rw [hLi]; decide))
    have hf1 : flagsOf ofsp20C L 1 = false := (flagsOf_at (C := ofsp20C) (j := 1) rfl L).trans (by
      cases hl : L 12 with
      | false => rfl
      | true => exact absurd (hcl 9 _ rfl (hcl 10 _ rfl (hcl 11 _ rfl (hcl 12 _ rfl (hl) ⟨11, .data⟩ (by simp [opsOfsp20]) rfl) ⟨10, .data⟩ (by simp [opsOfsp20]) rfl) ⟨9, .data⟩ (by simp [opsOfsp20]) rfl) ⟨8, .data⟩ (by simp [opsOfsp20]) rfl) (by rw [hLi]; decide))
    have hf2 : flagsOf ofsp20C L 2 = false := (flagsOf_at (C := ofsp20C) (j := 2) rfl L).trans (by
      cases hl : L 14 with
      | false => rfl
      | true => exact absurd (hcl 14 _ rfl (hl) ⟨8, .phase⟩ (by simp [opsOfsp20]) rfl) (by rw [hLi]; decide))
    have hfin := hK (.pointer (some ⟨g, i, none⟩)) w (hG.quiet 8 8 122 _ rfl (by kernel_rfl) (by kernel_rfl))
    have HK := Lib.hid hfin
    generalize (resOf ofsp20C fun t => a.eval (.tmp t)) = R at *
    generalize flagsOf ofsp20C L = f at *
    clear hl0 hbx hb0 ha1 hs2
    clear hSp
    clear hG hcl hdep hfr hK hfin hLi 
    go_simp
    exact HK.out
  | 9, ho =>
    simp only [opsOfsp20, List.getElem?_toArray, List.getElem?_cons_succ, List.getElem?_cons_zero, Option.some.injEq] at ho
    subst ho
    have x122 : a.tmps[122]?.getD undef = .pointer (some ⟨g, i, none⟩) := by rw [← ev]; exact hG.val 8 8 122 _ rfl (hdep ⟨8, .data⟩ (by simp) rfl)
    rw [if_pos (show Region.wanted _ _ = true from rfl)]
    have hSp := hG.1
    have hf0 : flagsOf ofsp20C L 0 = false := (flagsOf_at (C := ofsp20C) (j := 0) rfl L).trans (by
      cases hl : L 11 with
      | false => rfl
      | true => exact absurd (hcl 10 _ rfl (hcl 11 _ rfl (hl) ⟨10, .data⟩ (by simp [opsOfsp20]) rfl) ⟨9, .data⟩ (by simp [opsOfsp20]) rfl) (by rw [hLi]; decide))
    have hf1 : flagsOf ofsp20C L 1 = false := (flagsOf_at (C := ofsp20C) (j := 1) rfl L).trans (by
      cases hl : L 12 with
      | false => rfl
      | true => exact absurd (hcl 10 _ rfl (hcl 11 _ rfl (hcl 12 _ rfl (hl) ⟨11, .data⟩ (by simp [opsOfsp20]) rfl) ⟨10, .data⟩ (by simp [opsOfsp20]) rfl) ⟨9, .data⟩ (by simp [opsOfsp20]) rfl) (by rw [hLi]; decide))
    have hf2 : flagsOf ofsp20C L 2 = false := (flagsOf_at (C := ofsp20C) (j := 2) rfl L).trans (by
      cases hl : L 14 with
      | false => rfl
      | true => exact absurd (hcl 14 _ rfl (hl) ⟨9, .phase⟩ (by simp [opsOfsp20]) rfl) (by rw [hLi]; decide))
    have hfin := hK (.int .i64 x) w (hG.quiet 9 9 123 _ rfl (by kernel_rfl) (by kernel_rfl))
    have HK := Lib.hid hfin
    generalize (resOf ofsp20C fun t => a.eval (.tmp t)) = R at *
    generalize flagsOf ofsp20C L = f at *
    have q1 := hl0 _ _ _ hSp
    clear hil hl0 hbx hb0 ha1 hs2
    clear hSp
    clear hG hcl hdep hfr hK hfin hLi 
    go_simp
    exact HK.out
  | 10, ho =>
    simp only [opsOfsp20, List.getElem?_toArray, List.getElem?_cons_succ, List.getElem?_cons_zero, Option.some.injEq] at ho
    subst ho
    have x119 : a.tmps[119]?.getD undef = .int .i64 x := by rw [← ev]; exact hG.val 5 5 119 _ rfl (hdep ⟨5, .data⟩ (by simp) rfl)
    have x123 : a.tmps[123]?.getD undef = .int .i64 x := by rw [← ev]; exact hG.val 9 9 123 _ rfl (hdep ⟨9, .data⟩ (by simp) rfl)
    rw [if_pos (show Region.wanted _ _ = true from rfl)]
    have hfin := hK (.agg #[.int .i64 x, .int .i64 x]) w (hG.quiet 10 10 124 _ rfl (by kernel_rfl) (by kernel_rfl))
    have HK := Lib.hid hfin
    clear hG hcl hdep hfr hK hfin hLi 
    go_simp
    exact HK.out
  | 11, ho =>
    simp only [opsOfsp20, List.getElem?_toArray, List.getElem?_cons_succ, List.getElem?_cons_zero, Option.some.injEq] at ho
    subst ho
    have x124 : a.tmps[124]?.getD undef = .agg #[.int .i64 x, .int .i64 x] := by rw [← ev]; exact hG.val 10 10 124 _ rfl (hdep ⟨10, .data⟩ (by simp) rfl)
    rw [if_pos (show Region.wanted _ _ = true from rfl)]
    have hSj := hG.1
    have hf0 : flagsOf ofsp20C L 0 = false := (flagsOf_at (C := ofsp20C) (j := 0) rfl L).trans hLi
    have hf1 : flagsOf ofsp20C L 1 = false := (flagsOf_at (C := ofsp20C) (j := 1) rfl L).trans (by
      cases hl : L 12 with
      | false => rfl
      | true => exact absurd (hcl 12 _ rfl (hl) ⟨11, .data⟩ (by simp [opsOfsp20]) rfl) (by rw [hLi]; decide))
    have hf2 : flagsOf ofsp20C L 2 = false := (flagsOf_at (C := ofsp20C) (j := 2) rfl L).trans (by
      cases hl : L 14 with
      | false => rfl
      | true => exact absurd (hcl 14 _ rfl (hl) ⟨11, .phase⟩ (by simp [opsOfsp20]) rfl) (by rw [hLi]; decide))
    have hfin := fun v w' hs => hK v w' (hG.call 0 (11, 125) rfl (by kernel_rfl) v w' hs)
    have HK := Lib.hid hfin
    generalize (resOf ofsp20C fun t => a.eval (.tmp t)) = R at *
    generalize flagsOf ofsp20C L = f at *
    clear hG hcl hdep hfr hK hfin hLi
    have hs := hb0 _ _ _ hSj hf0 hf1 hf2
    have hk := HK.out _ _ hs
    have HK2 := Lib.hid hk
    clear hs hk HK hSj hil hl0 hbx hb0 ha1 hs2
    go_simp
    exact HK2.out
  | 12, ho =>
    simp only [opsOfsp20, List.getElem?_toArray, List.getElem?_cons_succ, List.getElem?_cons_zero, Option.some.injEq] at ho
    subst ho
    have x115 : a.tmps[115]?.getD undef = .slice A m c := by rw [← ev]; exact hG.val 1 1 115 _ rfl (hdep ⟨1, .data⟩ (by simp) rfl)
    rw [if_pos (show Region.wanted _ _ = true from rfl)]
    have hSj := hG.1
    have hf0 : flagsOf ofsp20C L 0 = true := (flagsOf_at (C := ofsp20C) (j := 0) rfl L).trans (hdep ⟨11, .data⟩ (by simp) rfl)
    have hf1 : flagsOf ofsp20C L 1 = false := (flagsOf_at (C := ofsp20C) (j := 1) rfl L).trans hLi
    have hf2 : flagsOf ofsp20C L 2 = false := (flagsOf_at (C := ofsp20C) (j := 2) rfl L).trans (by
      cases hl : L 14 with
      | false => rfl
      | true => exact absurd (hcl 14 _ rfl (hl) ⟨12, .data⟩ (by simp [opsOfsp20]) rfl) (by rw [hLi]; decide))
    have r125 : a.tmps[125]?.getD undef = resOf ofsp20C (fun t => a.eval (.tmp t)) 0 := by rw [← ev]; exact (resOf_at (C := ofsp20C) (j := 0) rfl a).symm
    have hfin := fun v w' hs => hK v w' (hG.call 1 (12, 126) rfl (by kernel_rfl) v w' hs)
    have HK := Lib.hid hfin
    generalize (resOf ofsp20C fun t => a.eval (.tmp t)) = R at *
    generalize flagsOf ofsp20C L = f at *
    clear hG hcl hdep hfr hK hfin hLi
    obtain ⟨v, w', hrun, hs⟩ := ha1 _ _ _ hSj hf0 hf1 hf2
    refine oper_append_run (.tmp 115) (.tmp 125) 35 rfl w _ _ (by rw [ev]; exact x115) (by rw [ev]; exact r125) v w' hrun (HK.out v w' hs)
  | 13, ho =>
    simp only [opsOfsp20, List.getElem?_toArray, List.getElem?_cons_succ, List.getElem?_cons_zero, Option.some.injEq] at ho
    subst ho
    rw [if_pos (show Region.wanted _ _ = true from rfl)]
    have hfin := hK (.pointer (some ⟨bt, 0, none⟩)) w (hG.quiet 11 13 127 _ rfl (by kernel_rfl) (by kernel_rfl))
    have HK := Lib.hid hfin
    clear hG hcl hdep hfr hK hfin hLi 
    go_simp
    exact HK.out
  | 14, ho =>
    simp only [opsOfsp20, List.getElem?_toArray, List.getElem?_cons_succ, List.getElem?_cons_zero, Option.some.injEq] at ho
    subst ho
    have x127 : a.tmps[127]?.getD undef = .pointer (some ⟨bt, 0, none⟩) := by rw [← ev]; exact hG.val 11 13 127 _ rfl (hdep ⟨13, .data⟩ (by simp) rfl)
    rw [if_pos (show Region.wanted _ _ = true from rfl)]
    have hSj := hG.1
    have hf0 : flagsOf ofsp20C L 0 = true := (flagsOf_at (C := ofsp20C) (j := 0) rfl L).trans (hdep ⟨11, .phase⟩ (by simp) rfl)
    have hf1 : flagsOf ofsp20C L 1 = true := (flagsOf_at (C := ofsp20C) (j := 1) rfl L).trans (hdep ⟨12, .data⟩ (by simp) rfl)
    have hf2 : flagsOf ofsp20C L 2 = false := (flagsOf_at (C := ofsp20C) (j := 2) rfl L).trans hLi
    have r126 : a.tmps[126]?.getD undef = resOf ofsp20C (fun t => a.eval (.tmp t)) 1 := by rw [← ev]; exact (resOf_at (C := ofsp20C) (j := 1) rfl a).symm
    have hfin := fun w' hs => hK undef w' (hG.store 2 (14, 1000014) rfl (by kernel_rfl) undef w' hs)
    have HK := Lib.hid hfin
    generalize (resOf ofsp20C fun t => a.eval (.tmp t)) = R at *
    generalize flagsOf ofsp20C L = f at *
    clear hG hcl hdep hfr hK hfin hLi
    obtain ⟨A, n, c, q1, q2, hs⟩ := hs2 _ _ _ hSj hf1 hf2
    rw [q1] at r126
    have q3 := hbx _ _ _ hSj hf2
    have hk := HK.out _ hs
    have HK2 := Lib.hid hk
    clear hs hk HK hSj q1 hil hl0 hbx hb0 ha1 hs2
    go_simp
    exact HK2.out
  | n + 15, ho => exact absurd (Array.getElem?_eq_some_iff.1 ho).1 (by show ¬ n + 15 < 15; omega)
end Go.Proofs.YtmcglecdidnhlaaDoor

namespace Go.Proofs.YtmcglecdidnhlaaDoor
open Go.RowKit
set_option linter.unusedVariables false
set_option maxRecDepth 100000

/-- append of one pair that lies in a block of its own, wherever. -/
theorem span_app_at (w : World) (ty : TypeId) (base : Nat) (v : Value) (L : List (Int × Int)) (n : Nat) (hn : n = L.length) (h : w.ownsRow base 65 2 v n (sp L)) (a b : Int) (q : Nat) (hq : Blk w q 65 #[.int .i64 a, .int .i64 b]) (hl : n ≤ 1000000000000) (hbase : base ≤ w.heap.size) :
    ∃ v' w', (Builtin.append_ #[35, 35] ty #[v, .slice (some ⟨q, 0, none⟩) 1 1]).run Tryd.prog w = .ok v' w' ∧ w'.ownsRow base 65 2 v' (n + 1) (sp (L ++ [(a, b)])) ∧ w.grownBy w' v.ownBlock ∧ ∃ A c, v' = .slice A (n + 1) c := by
  obtain ⟨i0, hi, hz0, hz1, hz2⟩ := info_parts Tryd.infoSpanR
  obtain ⟨v', w', hr, h2, h3, _⟩ := run_append_own (P := Tryd.prog) w base 35 ty 65 i0 _ 2 16 Tryd.underlying35 hi hz0 hz1 hz2 rfl (by decide) v n (sp L) h ⟨q, 0, none⟩ 1 1 [.int .i64 a, .int .i64 b] rfl (fun j u hu => by
    rw [add_to, Nat.zero_add]; exact hq.cell j u (by simpa using hu)) (by intro u hu; simp at hu; rcases hu with rfl | rfl <;> rfl) (by unfold maxLen; omega) (by omega) hbase
  obtain ⟨A, c, e, _⟩ := own_shape h2
  exact ⟨v', w', hr, by rw [sp_append]; exact h2, h3, A, c, e⟩

structure SpS (B : Nat) (w1 : World) (bt : Nat) (v : Value) (m : Nat) (L : List (Int × Int)) (x : Int) (f : Nat → Bool) (R : Nat → Value) (w : World) : Prop where
  only : Only (bt :: blk v) w1 w
  box0 : f 2 = false → Blk w bt 37 #[v]
  box1 : f 2 = true → Blk w bt 37 #[R 1]
  row0 : f 1 = false → w.ownsRow B 65 2 v m (sp L)
  lit : f 0 = true → f 1 = false → ∃ b, R 0 = .slice (some ⟨b, 0, none⟩) 1 1 ∧ Blk w b 65 #[.int .i64 x, .int .i64 x]
  row1 : f 1 = true → w.ownsRow B 65 2 (R 1) (m + 1) (sp (L ++ [(x, x)])) ∧ ∃ A c, R 1 = .slice A (m + 1) c
section
variable {B : Nat} {w1 w : World} {bt m : Nat} {v : Value} {L : List (Int × Int)} {x : Int} {f : Nat → Bool} {R : Nat → Value}
theorem SpS.start (hb : Blk w1 bt 37 #[v]) (hr : w1.ownsRow B 65 2 v m (sp L)) : SpS B w1 bt v m L x (fun _ => false) R w1.drew :=
  ⟨Only.of_below (Below.refl _ _).drew, fun _ => hb, fun h => absurd h (by simp), fun _ => hr, fun h => absurd h (by simp), fun h => absurd h (by simp)⟩
theorem SpS.s0 (h : SpS B w1 bt v m L x f R w) (h1 : f 1 = false) (h2 : f 2 = false) : SpS B w1 bt v m L x (setF f 0) (setR R 0 (.slice (some ⟨w.heap.size, 0, none⟩) 1 1)) (w.alloc (.cells #[.int .i64 x, .int .i64 x] 65)) := by
  refine ⟨h.only.alloc _, fun c => ?_, fun c => ?_, fun c => ?_, fun _ _ => ⟨w.heap.size, setR_self .., Blk.new w _ _⟩, fun c => ?_⟩
  · rw [setF_ne _ (by decide)] at c; exact (h.box0 c).alloc _
  · rw [setF_ne _ (by decide), h2] at c; cases c
  · rw [setF_ne _ (by decide)] at c; exact (h.row0 c).alloc _
  · rw [setF_ne _ (by decide), h1] at c; cases c
theorem SpS.s1 (h : SpS B w1 bt v m L x f R w) (h0 : f 0 = true) (h1 : f 1 = false) (h2 : f 2 = false) (hm : m = L.length) (hl : m ≤ 1000000) (hB : B ≤ w1.heap.size) (ty : TypeId) :
    ∃ v' w', (Builtin.append_ #[35, 35] ty #[v, R 0]).run Tryd.prog w = .ok v' w' ∧ SpS B w1 bt v m L x (setF f 1) (setR R 1 v') w' := by
  obtain ⟨b, b1, b2⟩ := h.lit h0 h1
  obtain ⟨v', w', hr, q1, q2, q3⟩ := span_app_at w ty B v L m hm (h.row0 h1) x x b b2 (by omega) (Nat.le_trans hB h.only.size)
  refine ⟨v', w', by rw [b1]; exact hr, ⟨h.only.trans ((Only.of_grown q2 (fun k hk => List.mem_cons_of_mem _ (mem_blk.2 hk)))), fun c => ?_, fun c => ?_, fun c => ?_, fun c c' => ?_, fun c => ?_⟩⟩
  · exact (h.box0 h2).grown q2 ((h.box0 h2).apart (by decide) (h.row0 h1))
  · rw [setF_ne _ (by decide), h2] at c; cases c
  · rw [setF_self] at c; cases c
  · rw [setF_self] at c'; cases c'
  · rw [setR_self]; exact ⟨q1, q3⟩
theorem SpS.s2 (h : SpS B w1 bt v m L x f R w) (h1 : f 1 = true) (h2 : f 2 = false) : ∃ A n c, R 1 = .slice A n c ∧ w.frozen? ⟨bt, 0, none⟩ = false ∧ SpS B w1 bt v m L x (setF f 2) R (w.setCell ⟨bt, 0, none⟩ (.slice A n c)) := by
  obtain ⟨q1, A, c, q2⟩ := h.row1 h1
  have hb := h.box0 h2
  refine ⟨A, m + 1, c, q2, hb.frozen 0, ⟨h.only.setCell (.inl (by simp)) _, fun c => ?_, fun c => ?_, fun c => ?_, fun c c' => ?_, fun c => ?_⟩⟩
  · rw [setF_self] at c; cases c
  · rw [q2]; exact hb.set 0 _
  · rw [setF_ne _ (by decide), h1] at c; cases c
  · rw [setF_ne _ (by decide), h1] at c'; cases c'
  · exact ⟨row_set q1 (hb.apart (by decide) q1) _, A, _, q2⟩
end
end Go.Proofs.YtmcglecdidnhlaaDoor

namespace Go.Proofs.YtmcglecdidnhlaaDoor
open Go.RowKit
set_option linter.unusedVariables false
set_option linter.unusedSimpArgs false
set_option maxRecDepth 100000

theorem tw_at (r : List Int) (x : Int) : ∀ (j : Nat), j ≤ r.length → (∀ p (hp : p < j) (hr : p < r.length), r[p] < x) → (∀ (h : j < r.length), ¬ r[j] < x) → r.takeWhile (· < x) = r.take j ∧ r.dropWhile (· < x) = r.drop j := by
  induction r with
  | nil => intro j hj _ _; simp
  | cons y r ih =>
    intro j hj h1 h2
    cases j with
    | zero =>
      have := h2 (by simp)
      simp at this
      have hy : ¬ y < x := by omega
      simp [List.takeWhile_cons, List.dropWhile_cons, hy]
    | succ j =>
      have hy : y < x := h1 0 (by omega) (by simp)
      obtain ⟨e1, e2⟩ := ih j (by simpa using hj) (fun p hp hr => by have := h1 (p + 1) (by omega) (by simpa using hr); rwa [List.getElem_cons_succ] at this) (fun h => by have := h2 (by simpa using h); rwa [List.getElem_cons_succ] at this)
      simp [List.takeWhile_cons, List.dropWhile_cons, hy, e1, e2]
theorem ins_at (r : List Int) (x : Int) (j : Nat) (hj : j ≤ r.length) (h1 : ∀ p (hp : p < j) (hr : p < r.length), r[p] < x) (h2 : ∀ (h : j < r.length), ¬ r[j] < x) : Sq.ins r x = if r[j]? = some x then r else r.take j ++ [x] ++ r.drop j := by
  obtain ⟨e1, e2⟩ := tw_at r x j hj h1 h2
  unfold Sq.ins
  rw [e1, e2, List.head?_drop]
  split
  · rfl
  · simp
theorem ints_head {P : Program} {t e : TypeId} (ht : P.underlying t = some (.slice e)) (hz : ∀ w, (Go.sizeOf e).run P w = .ok 1 w) (A : Option Addr) (n c k : Nat) (hk : k ≤ c) :
    ∃ A', (∀ W, (Instr.slice t (.slice A n c) none (some (.int .i64 (k : Int))) none).run P W = .ok (.slice A' k c) W) ∧ ∀ w B l, Ints w B A l → Ints w B A' (l.take k) := by
  refine ⟨if c = 0 then A else A.map (·.add (0 * 1)), fun W => ?_, fun w B l h hn => ?_⟩
  · have ht' : P.underlying t = some (.slice (P.elem t)) := by simp [Program.elem, ht]
    have he : P.elem t = e := by simp [Program.elem, ht]
    rw [run_slice_h W t A _ _ ht' .i64 _ (by omega) (by omega), he, hz]
    simp [Result.andThen, sliced]
  · obtain ⟨g, o, rfl, hg, hcell⟩ := h (fun e => hn (by simp [e]))
    refine ⟨g, o, ?_, hg, fun j hj => ?_⟩
    · by_cases hc : c = 0
      · rw [if_pos hc]
      · rw [if_neg hc, Option.map_some, Nat.zero_mul, add_to]; rfl
    · rw [hcell j (by simp at hj; omega), List.getElem_take]
theorem ints_tail {P : Program} {t e : TypeId} (ht : P.underlying t = some (.slice e)) (hz : ∀ w, (Go.sizeOf e).run P w = .ok 1 w) (A : Option Addr) (n c k : Nat) (hk : k ≤ n) (hc : n ≤ c) :
    ∃ A', (∀ W, (Instr.slice t (.slice A n c) (some (.int .i64 (k : Int))) none none).run P W = .ok (.slice A' (n - k) (c - k)) W) ∧ ∀ w B l, n = l.length → Ints w B A l → Ints w B A' (l.drop k) := by
  refine ⟨if c = k then A else A.map (·.add (k * 1)), fun W => ?_, fun w B l hn h hd => ?_⟩
  · have ht' : P.underlying t = some (.slice (P.elem t)) := by simp [Program.elem, ht]
    have he : P.elem t = e := by simp [Program.elem, ht]
    rw [run_slice_l W t A _ _ ht' .i64 _ (by omega) (by omega), he, hz]
    simp [Result.andThen, sliced]
  · have hkl : k < l.length := by
      have : 0 < (l.drop k).length := List.length_pos_iff.2 hd
      rw [List.length_drop] at this; omega
    obtain ⟨g, o, rfl, hg, hcell⟩ := h (by intro e0; simp [e0] at hkl)
    rw [if_neg (by omega)]
    refine ⟨g, o + k, by rw [Option.map_some, Nat.mul_one, add_to], hg, fun j hj => ?_⟩
    have hj' : k + j < l.length := by simp at hj; omega
    rw [Nat.add_assoc, hcell (k + j) hj', List.getElem_drop]
/-- The insertion's region, in one word. -/
theorem ins_run {Q : Exit → Act → World → Prop} {a0 : Act} (w1 : World) (g o N cl i m c k : Nat) (A : Option Addr) (x : Int) (r : List Int) (hm : m = r.length) (hk : k ≤ m) (hmc : m ≤ c) (hmx : m ≤ 1000) (hr : Ints w1 w1.heap.size A r) (hil : (i : Int) < (N : Int)) (hg : g < w1.heap.size) (hx : w1.cell? ⟨g, o + i, none⟩ = some (.int .i64 x))
    (hsz : 73 < a0.tmps.size) (in0 : a0.eval (.tmp 0) = .slice (some ⟨g, o, none⟩) N cl) (in4 : a0.eval (.tmp 4) = .int .i64 (i : Int)) (in5 : a0.eval (.tmp 5) = .int .i64 (k : Int)) (in3 : a0.eval (.tmp 3) = .slice A m c)
    (fin : ∀ a w A' c', Fr [59, 60, 61, 62, 63, 64, 65, 66, 67, 68, 69, 70, 71, 72, 73, 3] a0 a → a.eval (.tmp 3) = .slice A' (m + 1) c' → w.ownsRow w1.heap.size 2 1 (.slice A' (m + 1) c') (m + 1) (li (r.take k ++ [x] ++ r.drop k)) → Below w1.heap.size w1 w → Q .normal a w) :
    (Code.region 10 opsOfins10 true).wp Tryd.prog Q a0 w1 := by
  subst hm
  obtain ⟨A1, hs1, hi1⟩ := ints_head (P := Tryd.prog) Tryd.underlying30 (fun w => by exact Tryd.sizeOf2 w) A r.length c k (by omega)
  obtain ⟨A2, hs2, hi2⟩ := ints_tail (P := Tryd.prog) Tryd.underlying30 (fun w => by exact Tryd.sizeOf2 w) A r.length c k hk hmc
  have l1 : k = (r.take k).length := by rw [List.length_take]; omega
  have l2 : r.length - k = (r.drop k).length := by rw [List.length_drop]
  refine ofins10 g o N cl i r.length c k c (r.length - k) (c - k) A A1 A2 x (InsS w1 r k x (.slice A r.length c)) hsz in0 in4 in5 hil (fun f R w h => (h.bel.cell (p := ⟨g, o + i, none⟩) hg).trans hx) hs1 hs2 (fun f R w h h5 => h.e5 h5)
    (fun f R w h h0 h1 h3 h4 => h.s0 h1 h3 h4) (fun f R w h h0 h1 h3 h4 => h.s1 h0 h1 h3 h4 l1 (hi1 _ _ _ hr) (by omega) _) (fun f R w h h2 h3 h4 => h.s2 h3 h4) (fun f R w h h0 h1 h2 h3 h4 => h.s3 h1 h2 h3 h4 (by omega) _)
    (fun f R w h h1 h3 h4 h5 => h.s4 h1 h3 h4 h5 l2 (hi2 _ _ _ rfl hr) (by omega) _) (fun f R w h h4 h5 => h.s5 h4 h5) (.start ((resOf_at (C := ofins10C) (j := 5) rfl a0).trans in3)) ?_
  intro a w f hf hall hS
  have h5 := hS.e6 (hall 5 (by decide))
  have h4 := hS.e4 (hall 4 (by decide))
  have e : (r.take k ++ [x] ++ r.drop k).length = r.length + 1 := by
    rw [List.length_append, List.length_append, List.length_take, List.length_drop]; simp; omega
  rw [e] at h4
  obtain ⟨A', c', e4, _⟩ := own_shape h4
  rw [e4] at h4 h5
  exact fin a w A' c' hf ((resOf_at (C := ofins10C) (j := 5) rfl a).symm.trans h5) h4 hS.bel

theorem stepR_last : ∀ (l : List Int), (∀ x ∈ l, 1 ≤ x ∧ x ≤ 4294967295) → ∀ (T : List (Int × Int)) (a b : Int), l.foldl Sq.stepR [] = T ++ [(a, b)] → 1 ≤ b ∧ b ≤ 4294967295 := fun l h T a b e => by
  rcases Sq.snoc_cases l with rfl | ⟨l', x, rfl⟩
  · simp at e
  · rw [List.foldl_append] at e
    have hx := h x (by simp)
    have e' : Sq.stepR (l'.foldl Sq.stepR []) x = T ++ [(a, b)] := e
    have hb : b = x := by
      rcases Sq.snoc_cases (l'.foldl Sq.stepR []) with h0 | ⟨T', ⟨a', b'⟩, h0⟩
      · rw [h0, Sq.stepR_nil] at e'
        have := congrArg List.getLast? e'
        simp at this
        exact this.2.symm
      · rw [h0, Sq.stepR_snoc] at e'
        split at e'
        · have := congrArg List.getLast? e'
          simp at this
          exact this.2.symm
        · have := congrArg List.getLast? e'
          simp at this
          exact this.2.symm
    rw [hb]; exact hx
/-- Between two rounds of the second loop. -/
structure OfInv (w0 : World) (b6 : Nat) (wr : World) (rv : Value) (r : List Int) (A : Option Addr) (m c : Nat) (S : List (Int × Int)) : Prop where
  bel : Below w0.heap.size w0 wr
  res : Blk wr w0.heap.size 37 #[.slice none 0 0]
  box : Blk wr b6 37 #[.slice A m c]
  len : m = S.length
  row : wr.ownsRow w0.heap.size 65 2 (.slice A m c) m (sp S)
  nums : wr.ownsRow w0.heap.size 2 1 rv r.length (li r)
theorem OfInv.below {w0 wr w' : World} {b6 : Nat} {rv : Value} {r : List Int} {A : Option Addr} {m c : Nat} {S : List (Int × Int)} (h : OfInv w0 b6 wr rv r A m c S) (hb : Below wr.heap.size wr w') : OfInv w0 b6 w' rv r A m c S :=
  ⟨h.bel.trans (hb.mono h.bel.size), h.res.below hb h.res.lt, h.box.below hb h.box.lt, h.len, own_below h.row hb (Nat.le_refl _), own_below h.nums hb (Nat.le_refl _)⟩
theorem OfInv.drewN {w0 wr : World} {b6 : Nat} {rv : Value} {r : List Int} {A : Option Addr} {m c : Nat} {S : List (Int × Int)} (h : OfInv w0 b6 wr rv r A m c S) (q : Nat) : OfInv w0 b6 (wr.drewN q) rv r A m c S := h.below (below_drewN (Below.refl _ _) q)
theorem OfInv.num {w0 wr : World} {b6 : Nat} {rv : Value} {r : List Int} {A : Option Addr} {m c : Nat} {S : List (Int × Int)} (h : OfInv w0 b6 wr rv r A m c S) (k : Nat) (hk : k < r.length) : ∃ g c', rv = .slice (some ⟨g, 0, none⟩) r.length c' ∧ g < wr.heap.size ∧ wr.cell? ⟨g, k, none⟩ = some (.int .i64 r[k]) ∧ Value.ownBlock rv = some g ∧ w0.heap.size ≤ g := by
  obtain ⟨g, c', rfl, hbg, hg, _⟩ := own_form h.nums (by omega)
  refine ⟨g, c', rfl, hg, ?_, rfl, hbg⟩
  have := h.nums.cells (g := g) rfl k _ (li_at r k hk)
  rwa [add_to, Nat.zero_add] at this
/-- The last span's end is set. -/
theorem OfInv.last {w0 wr : World} {b6 : Nat} {rv : Value} {r : List Int} {A : Option Addr} {m c : Nat} {T : List (Int × Int)} {a b : Int} (h : OfInv w0 b6 wr rv r A m c (T ++ [(a, b)])) (x : Int) : ∃ g, A = some ⟨g, 0, none⟩ ∧ wr.cell? ⟨g, T.length * 2 + 1, none⟩ = some (.int .i64 b) ∧ wr.frozen? ⟨g, T.length * 2 + 1, none⟩ = false ∧ g < wr.heap.size ∧
    OfInv w0 b6 (wr.setCell ⟨g, T.length * 2 + 1, none⟩ (.int .i64 x)) rv r A m c (T ++ [(a, x)]) := by
  have hml : 0 < m := by rw [h.len]; simp
  obtain ⟨g, c', e, hbg, hg, _⟩ := own_form h.row hml
  obtain rfl : A = some ⟨g, 0, none⟩ := by injection e
  have hcb := h.row.cells (g := g) rfl (T.length * 2 + 1) (.int .i64 b) (by
    have := flat2_snd (f := fun s : Int × Int => Value.int .i64 s.1) (g := fun s => .int .i64 s.2) (T ++ [(a, b)]) T.length (by simp)
    rw [List.getElem_concat_length] at this
    · exact this
    · rfl)
  rw [add_to, Nat.zero_add] at hcb
  have hst := (h.row.stored (T.length * 2 + 1) (.int .i64 x)).1
  rw [sp_last] at hst
  have hne : ∀ {t b' : Nat} {C : Array Value}, Blk wr b' t C → t ≠ 65 → b' ≠ g := fun hb ht e => by
    subst e
    exact hb.apart ht h.row rfl
  refine ⟨g, rfl, hcb, h.row.frozenAt _, hg, ⟨below_set h.bel hbg _ _, h.res.other (hne h.res (by decide)) _, h.box.other (hne h.box (by decide)) _, ?_, hst, row_set h.nums (fun e => ?_) _⟩⟩
  · rw [h.len]; simp
  · rcases own_own_ne h.row h.nums (by decide) with h0 | h0
    · cases h0
    · exact h0 e
/-- A span is put behind: the region's end. -/
theorem OfInv.more {w0 wr w' : World} {b6 : Nat} {rv : Value} {r : List Int} {A : Option Addr} {m c : Nat} {S : List (Int × Int)} {x : Int} {f : Nat → Bool} {R : Nat → Value} (h : OfInv w0 b6 wr rv r A m c S) (hb6 : w0.heap.size < b6) (hS : SpS w0.heap.size wr b6 (.slice A m c) m S x f R w') (hall : ∀ j, j < 3 → f j = true) :
    ∃ A' c', OfInv w0 b6 w' rv r A' (m + 1) c' (S ++ [(x, x)]) := by
  obtain ⟨q1, A', c', q2⟩ := hS.row1 (hall 1 (by decide))
  have hbx := hS.box1 (hall 2 (by decide))
  rw [q2] at q1 hbx
  refine ⟨A', c', ⟨⟨hS.only.os.trans h.bel.os, hS.only.tape.trans h.bel.tape, hS.only.output.trans h.bel.output, Nat.le_trans h.bel.size hS.only.size, fun i hi => ?_⟩, h.res.only hS.only (fun hm => ?_), hbx, by rw [List.length_append, ← h.len]; rfl, q1, own_only h.nums hS.only (fun k hk hm => ?_)⟩⟩
  · rw [hS.only.block i (by have := h.bel.size; omega) (fun hm => ?_)]
    · exact h.bel.block i hi
    · rcases List.mem_cons.1 hm with e | hm
      · omega
      · have := (h.row.lt i (mem_blk.1 hm)).1; omega
  · rcases List.mem_cons.1 hm with e | hm
    · omega
    · exact h.res.apart (by decide) h.row (mem_blk.1 hm).symm
  · rcases List.mem_cons.1 hm with e | hm
    · subst e
      exact h.box.apart (by decide) h.nums hk.symm
    · rcases own_own_ne h.nums h.row (by decide) with h0 | h0
      · rw [h0] at hk; cases hk
      · exact h0 (hk.trans (mem_blk.1 hm).symm)
theorem rof_ret (w : World) (tmps : Array Value) (g : Nat) (hp : tmps.getD 2 undef = .pointer (some ⟨g, 0, none⟩)) (v : Value) (hg : Blk w g 37 #[v]) :
    (results Tryd.f21 tmps).run Tryd.prog w = .ok (.agg #[v]) w :=
  ret_cell1 rfl tmps w g hp _ _ hg _ Tryd.underlying37 rfl (by kernel_rfl)
end Go.Proofs.YtmcglecdidnhlaaDoor

namespace Go.Proofs.YtmcglecdidnhlaaDoor
open Go.RowKit
set_option linter.unusedVariables false
set_option maxRecDepth 100000

set_option maxHeartbeats 12800000 in
theorem rof_any (A : Option Addr) (n c : Nat) (l : List Int) (w : World) (hn : n = l.length) (hm : n ≤ 60) (hp : Ints w w.heap.size A l) (hnc : n ≤ c) :
    Calls Tryd.prog 21 #[.slice A n c] w (SetEnd (Sq.spans l) w) := by
  subst hn
  rw [Sq.spans_eq]
  obtain ⟨w0, rfl⟩ : ∃ w0, w0 = w := ⟨_, rfl⟩
  have HP := Lib.hid hp
  have H0 : Hid (Below w0.heap.size w0 (w0.alloc (.cells #[.slice none 0 0] 37)) ∧ Blk (w0.alloc (.cells #[.slice none 0 0] 37)) w0.heap.size 37 #[.slice none 0 0]) := Lib.hid ⟨(Below.refl _ _).alloc (Nat.le_refl _) _, Blk.new w0 _ _⟩
  clear hp
  go_enter Tryd.func21, Tryd.ntmps21
  go_wp2
  go_loopw [3, 4] (fun b i wr => ∃ (k m : Nat) (Ar : Option Addr) (cr : Nat) (r : List Int), k ≤ l.length ∧ m ≤ k ∧ m ≤ cr ∧ b = .slice Ar m cr ∧ i = .int .i64 k ∧ Hid (m = r.length ∧ r = ((l.take k).filter Sq.ok).foldl Sq.ins []) ∧ Hid (wr.ownsRow w0.heap.size 2 1 (.slice Ar m cr) m (li r) ∧ Below w0.heap.size w0 wr ∧ Blk wr w0.heap.size 37 #[.slice none 0 0])) (fun _ i _ => l.length - (intOf i).toNat)
  case atStart => exact ⟨0, 0, none, 0, [], Nat.zero_le _, Nat.zero_le _, Nat.le_refl _, rfl, rfl, Lib.hid ⟨rfl, rfl⟩, Lib.hid ⟨World.ownsRow_nil _ _ _ _, H0.out⟩⟩
  case round =>
    obtain ⟨k, m, Ar, cr, r, hk, hmk, hmc, rfl, rfl, HS, HR⟩ := hrel
    have hwz := HR.out.2.1.size
    by_cases hlt : k < l.length
    · obtain ⟨g, o, rfl, hg, k1⟩ := (HP.out.below HR.out.2.1 (Nat.le_refl _)).at k hlt
      have hgw : g < wr.heap.size := by omega
      have hst : ((l.take (k + 1)).filter Sq.ok).foldl Sq.ins [] = if Sq.ok l[k] then Sq.ins r l[k] else r := by
        rw [List.take_succ_eq_append_getElem hlt, List.filter_append, List.foldl_append, ← HS.out.2]
        cases h : Sq.ok l[k] <;> simp [h]
      obtain ⟨x, Hx⟩ : ∃ x, Hid (x = l[k]) := ⟨_, Lib.hid rfl⟩
      rw [← Hx.out] at k1 hst
      have HST := Lib.hid hst
      clear hst
      by_cases h1 : x < 1
      · have d1 : decide (x < 1) = true := by simpa using h1
        have HN : Hid (r = ((l.take (k + 1)).filter Sq.ok).foldl Sq.ins []) := Lib.hid (by rw [HST.out, if_neg (by unfold Sq.ok; rw [decide_eq_false (p := 1 ≤ x) (by omega)]; simp)])
        clear h1
        go_wp2
        go_roundw
        case rel => exact ⟨k + 1, m, Ar, cr, r, by omega, by omega, hmc, rfl, by go_num, Lib.hid ⟨HS.out.1, HN.out⟩, HR⟩
        case measure => simp [intOf]; omega
      · have d1 : decide (x < 1) = false := by simpa using h1
        by_cases h2 : 4294967295 < x
        · have d2 : decide (4294967295 < x) = true := by simpa using h2
          have HN : Hid (r = ((l.take (k + 1)).filter Sq.ok).foldl Sq.ins []) := Lib.hid (by rw [HST.out, if_neg (by unfold Sq.ok; rw [decide_eq_false (p := x ≤ 4294967295) (by omega)]; simp)])
          clear h1 h2
          go_wp2
          go_roundw
          case rel => exact ⟨k + 1, m, Ar, cr, r, by omega, by omega, hmc, rfl, by go_num, Lib.hid ⟨HS.out.1, HN.out⟩, HR⟩
          case measure => simp [intOf]; omega
        · have d2 : decide (4294967295 < x) = false := by simpa using h2
          have HOK : Hid (((l.take (k + 1)).filter Sq.ok).foldl Sq.ins [] = Sq.ins r x) := Lib.hid (by rw [HST.out, if_pos (by unfold Sq.ok; rw [decide_eq_true (p := 1 ≤ x) (by omega), decide_eq_true (p := x ≤ 4294967295) (by omega)]; rfl)])
          have HRI : Hid (Ints wr wr.heap.size Ar r) := Lib.hid (Ints.of_own (by have := HR.out.1; rw [HS.out.1] at this; exact this))
          have HML : Hid (m = r.length) := Lib.hid HS.out.1
          clear h1 h2
          obtain ⟨wo, rfl⟩ : ∃ wo, wo = wr := ⟨_, rfl⟩
          go_wp2
          go_loopw [5] (fun i wr => ∃ j : Nat, j ≤ m ∧ i = .int .i64 j ∧ Hid (∀ p (hp : p < j) (hr : p < r.length), r[p] < x) ∧ Hid (Below wo.heap.size wo wr)) (fun i _ => m - (intOf i).toNat)
          case atStart => exact ⟨0, Nat.zero_le _, rfl, Lib.hid (fun p hp => absurd hp (Nat.not_lt_zero _)), Lib.hid (Below.refl _ _)⟩
          case round =>
            obtain ⟨j, hj, rfl, HJ, HB⟩ := hrel
            have hwz2 := HB.out.size
            have k2 := (HB.out.cell (p := ⟨g, o + k, none⟩) hgw).trans k1
            have hg2 : g < wr.heap.size := by omega
            have i1 : (k : Int) < (l.length : Int) := by omega
            have i2 : (0 : Int) ≤ (k : Int) := by omega
            have HRW : Hid (∀ W, Below wr.heap.size wr W → Ints W wo.heap.size Ar r ∧ Below wo.heap.size wo W) := Lib.hid (fun W hb => ⟨HRI.out.below (HB.out.trans (hb.mono hwz2)) (Nat.le_refl _), HB.out.trans (hb.mono hwz2)⟩)
            have leave : ∀ (hstop : ∀ (h : j < r.length), ¬ r[j] < x), Sq.ins r x = if r[j]? = some x then r else r.take j ++ [x] ++ r.drop j := fun hstop => ins_at r x j (by rw [← HML.out]; exact hj) HJ.out hstop
            have HLV := Lib.hid leave
            clear leave
            have HKP : Hid (∀ W, Below wr.heap.size wr W → W.ownsRow w0.heap.size 2 1 (.slice Ar m cr) m (li r) ∧ Below w0.heap.size w0 W ∧ Blk W w0.heap.size 37 #[.slice none 0 0]) := Lib.hid (fun W hb => by
              have hb2 : Below wo.heap.size wo W := HB.out.trans (hb.mono hwz2)
              exact ⟨own_below HR.out.1 hb2 (Nat.le_refl _), HR.out.2.1.trans (hb2.mono hwz), HR.out.2.2.below hb2 HR.out.2.2.lt⟩)
            have HF : Hid (∀ W, Below wr.heap.size wr W → Ints W W.heap.size Ar r ∧ W.cell? ⟨g, o + k, none⟩ = some (.int .i64 x) ∧ g < W.heap.size) := Lib.hid (fun W hb => ⟨((HRI.out.below HB.out (Nat.le_refl _)).below hb hwz2).mono (Nat.le_trans hwz2 hb.size), (hb.cell (p := ⟨g, o + k, none⟩) hg2).trans k2, Nat.lt_of_lt_of_le hg2 hb.size⟩)
            have HADD : Hid (∀ (W0 : World) (A' : Option Addr) (c' : Nat) W, Below wr.heap.size wr W0 → Sq.ins r x = r.take j ++ [x] ++ r.drop j → W.ownsRow W0.heap.size 2 1 (.slice A' (m + 1) c') (m + 1) (li (r.take j ++ [x] ++ r.drop j)) → Below W0.heap.size W0 W →
                m + 1 ≤ c' ∧ Hid (m + 1 = (r.take j ++ [x] ++ r.drop j).length ∧ r.take j ++ [x] ++ r.drop j = ((l.take (k + 1)).filter Sq.ok).foldl Sq.ins []) ∧ Hid (W.ownsRow w0.heap.size 2 1 (.slice A' (m + 1) c') (m + 1) (li (r.take j ++ [x] ++ r.drop j)) ∧ Below w0.heap.size w0 W ∧ Blk W w0.heap.size 37 #[.slice none 0 0])) := Lib.hid (fun W0 A' c' W hb0 hi hrow hb => by
              have h0 := HKP.out _ (hb0.trans (hb.mono hb0.size))
              refine ⟨?_, Lib.hid ⟨?_, by rw [HOK.out, hi]⟩, Lib.hid ⟨own_base hrow (by have := HR.out.2.1.size; have := hb0.size; omega), h0.2⟩⟩
              · obtain ⟨_, _, e, h1, _⟩ := own_shape hrow
                injection e with _ _ e
                rw [e]; exact h1
              · rw [List.length_append, List.length_append, List.length_take, List.length_drop, ← HML.out]; simp; omega)
            by_cases hjm : j < m
            · have hjr : j < r.length := by rw [← HML.out]; exact hjm
              obtain ⟨gr, orr, rfl, hgr, kr⟩ := (HRI.out.below HB.out (Nat.le_refl _)).at j hjr
              obtain ⟨y, Hy⟩ : ∃ y, Hid (y = r[j]) := ⟨_, Lib.hid rfl⟩
              rw [← Hy.out] at kr
              have hgr2 : gr < wr.heap.size := by omega
              have d3 : decide ((j : Int) < (m : Int)) = true := by simp; omega
              have i3 : (j : Int) < (m : Int) := by omega
              have i4 : (0 : Int) ≤ (j : Int) := by omega
              have d4 : ((j : Int) == (m : Int)) = false := by simp; omega
              by_cases hyx : y < x
              · have d5 : decide (y < x) = true := by simpa using hyx
                have HJ2 : Hid (∀ p (hp : p < j + 1) (hr : p < r.length), r[p] < x) := Lib.hid (fun p hp hr => by
                  by_cases e : p = j
                  · subst e; rw [← Hy.out]; exact hyx
                  · exact HJ.out p (by omega) hr)
                clear hyx
                go_wp2
                go_quiet (fail)
                go_wp2
                go_roundw
                case rel => exact ⟨j + 1, by omega, by go_num, HJ2, Lib.hid (below_drewN HB.out _)⟩
                case measure => simp [intOf]; omega
              · have d5 : decide (y < x) = false := by simpa using hyx
                have HINS := HLV.out (fun h => by rw [← Hy.out]; exact hyx)
                by_cases hne : y = x
                · have d6 : (y != x) = false := by simpa using hne
                  have HN : Hid (r = ((l.take (k + 1)).filter Sq.ok).foldl Sq.ins []) := Lib.hid (by
                    rw [HOK.out, HINS, if_pos (by rw [List.getElem?_eq_getElem hjr, ← Hy.out, hne])])
                  clear hyx HINS hne
                  go_wp2
                  go_quiet (fail)
                  go_wp2
                  go_quiet (fail)
                  go_wp2
                  go_roundw
                  case rel => exact ⟨k + 1, m, _, cr, r, by omega, by omega, hmc, rfl, by go_num, Lib.hid ⟨HML.out, HN.out⟩, Lib.hid (HKP.out _ (below_drewN (Below.refl _ _) _))⟩
                  case measure => simp [intOf]; omega
                · have d6 : (y != x) = true := by simpa using hne
                  have HINS2 : Hid (Sq.ins r x = r.take j ++ [x] ++ r.drop j) := Lib.hid (by
                    rw [HINS, if_neg (by rw [List.getElem?_eq_getElem hjr, ← Hy.out]; intro e; injection e with e; exact hne e)])
                  clear hyx HINS hne
                  go_wp2
                  go_quiet (fail)
                  obtain ⟨q1, rfl⟩ : ∃ q1, q1 = nq := ⟨_, rfl⟩
                  go_wp2
                  go_quiet (fail)
                  go_wp2
                  have hbq := below_drewN (below_drewN (Below.refl wr.heap.size wr) q1) nq
                  refine ins_run ((wr.drewN q1).drewN nq) g o l.length c k m cr j _ x r HML.out hj hmc (by omega) (HF.out _ hbq).1 i1 (HF.out _ hbq).2.2 (HF.out _ hbq).2.1 (by show 73 < 129; omega) rfl rfl rfl rfl ?_
                  intro af wN A' c' hfr h3 hrow hbN
                  obtain ⟨z1, z2, z3⟩ := HADD.out _ A' c' wN hbq HINS2.out hrow hbN
                  clear hrow hbN hbq
                  have ha := hfr.eq (by intro t ht; simp at ht; show t < 129; omega)
                  simp only [List.foldl_cons, List.foldl_nil] at ha
                  clear hfr
                  rw [h3] at ha
                  clear h3
                  generalize af.eval (.tmp 59) = u59 at ha
                  generalize af.eval (.tmp 60) = u60 at ha
                  generalize af.eval (.tmp 61) = u61 at ha
                  generalize af.eval (.tmp 62) = u62 at ha
                  generalize af.eval (.tmp 63) = u63 at ha
                  generalize af.eval (.tmp 64) = u64 at ha
                  generalize af.eval (.tmp 65) = u65 at ha
                  generalize af.eval (.tmp 66) = u66 at ha
                  generalize af.eval (.tmp 67) = u67 at ha
                  generalize af.eval (.tmp 68) = u68 at ha
                  generalize af.eval (.tmp 69) = u69 at ha
                  generalize af.eval (.tmp 70) = u70 at ha
                  generalize af.eval (.tmp 71) = u71 at ha
                  generalize af.eval (.tmp 72) = u72 at ha
                  generalize af.eval (.tmp 73) = u73 at ha
                  subst ha
                  simp only [Act.put, List.setIfInBounds_toArray, List.set_cons_zero, List.set_cons_succ]
                  go_wp2
                  go_roundw
                  case rel => exact ⟨k + 1, m + 1, A', c', r.take j ++ [x] ++ r.drop j, by omega, by omega, z1, rfl, by go_num, z2, z3⟩
                  case measure => simp [intOf]; omega
            · obtain rfl : j = m := by omega
              have d3 : decide ((j : Int) < (j : Int)) = false := by simp
              have d4 : ((j : Int) == (j : Int)) = true := by simp
              have HINS2 : Hid (Sq.ins r x = r.take j ++ [x] ++ r.drop j) := Lib.hid (by
                rw [HLV.out (fun h => absurd h (by rw [← HML.out]; omega)), if_neg (by rw [List.getElem?_eq_none (by rw [← HML.out]; exact Nat.le_refl _)]; simp)])
              go_wp2
              go_quiet (fail)
              obtain ⟨q1, rfl⟩ : ∃ q1, q1 = nq := ⟨_, rfl⟩
              go_wp2
              go_quiet (fail)
              go_wp2
              have hbq := below_drewN (below_drewN (Below.refl wr.heap.size wr) q1) nq
              refine ins_run ((wr.drewN q1).drewN nq) g o l.length c k j cr j _ x r HML.out hj hmc (by omega) (HF.out _ hbq).1 i1 (HF.out _ hbq).2.2 (HF.out _ hbq).2.1 (by show 73 < 129; omega) rfl rfl rfl rfl ?_
              intro af wN A' c' hfr h3 hrow hbN
              obtain ⟨z1, z2, z3⟩ := HADD.out _ A' c' wN hbq HINS2.out hrow hbN
              clear hrow hbN hbq
              have ha := hfr.eq (by intro t ht; simp at ht; show t < 129; omega)
              simp only [List.foldl_cons, List.foldl_nil] at ha
              clear hfr
              rw [h3] at ha
              clear h3
              generalize af.eval (.tmp 59) = u59 at ha
              generalize af.eval (.tmp 60) = u60 at ha
              generalize af.eval (.tmp 61) = u61 at ha
              generalize af.eval (.tmp 62) = u62 at ha
              generalize af.eval (.tmp 63) = u63 at ha
              generalize af.eval (.tmp 64) = u64 at ha
              generalize af.eval (.tmp 65) = u65 at ha
              generalize af.eval (.tmp 66) = u66 at ha
              generalize af.eval (.tmp 67) = u67 at ha
              generalize af.eval (.tmp 68) = u68 at ha
              generalize af.eval (.tmp 69) = u69 at ha
              generalize af.eval (.tmp 70) = u70 at ha
              generalize af.eval (.tmp 71) = u71 at ha
              generalize af.eval (.tmp 72) = u72 at ha
              generalize af.eval (.tmp 73) = u73 at ha
              subst ha
              simp only [Act.put, List.setIfInBounds_toArray, List.set_cons_zero, List.set_cons_succ]
              go_wp2
              go_roundw
              case rel => exact ⟨k + 1, j + 1, A', c', r.take j ++ [x] ++ r.drop j, by omega, by omega, z1, rfl, by go_num, z2, z3⟩
              case measure => simp [intOf]; omega
    · obtain rfl : k = l.length := by omega
      obtain ⟨N, HN⟩ : ∃ N, Hid (N = r.length) := ⟨_, Lib.hid rfl⟩
      have hmN : m = N := by rw [HN.out]; exact HS.out.1
      subst hmN
      obtain ⟨b6, Hb6⟩ : ∃ b6, Hid (b6 = wr.heap.size) := ⟨_, Lib.hid rfl⟩
      have hb60 : w0.heap.size < b6 := by rw [Hb6.out]; exact HR.out.2.2.lt
      have HI0 : Hid (OfInv w0 b6 (wr.alloc (.cells #[.slice none 0 0] 37)) (.slice Ar m cr) r none 0 0 []) := Lib.hid (by
        rw [Hb6.out]
        exact ⟨HR.out.2.1.alloc hwz _, HR.out.2.2.alloc _, Blk.new wr _ _, rfl, World.ownsRow_nil _ _ _ _, by rw [← HN.out]; exact HR.out.1.alloc _⟩)
      have HSP : Hid (r.foldl Sq.stepR [] = Sq.spansR l) := Lib.hid (by rw [HS.out.2, List.take_length]; rfl)
      have HRG : Hid (∀ x ∈ r, 1 ≤ x ∧ x ≤ 4294967295) := Lib.hid (fun x hx => by
        rw [HS.out.2, List.take_length] at hx
        have := ((Sq.ins_fold (l.filter Sq.ok) [] List.Pairwise.nil).2 x).1 hx
        rcases this with h | h
        · cases h
        · have := (List.mem_filter.1 h).2
          simpa [Sq.ok] using this)
      have hm60 : m ≤ 60 := by omega
      have HLAST : Hid (∀ (k : Nat) (T : List (Int × Int)) (a b : Int), (r.take k).foldl Sq.stepR [] = T ++ [(a, b)] → 1 ≤ b ∧ b ≤ 4294967295) := Lib.hid (fun k T a b h => stepR_last (r.take k) (fun x hx => HRG.out x (List.mem_of_mem_take hx)) T a b h)
      clear HR HS HP H0 hmk
      go_wp2
      rw [← Hb6.out]
      clear Hb6 hwz
      go_loopw [7] (fun i wr => ∃ (k q : Nat) (A : Option Addr) (c : Nat) (S : List (Int × Int)), k ≤ m ∧ q ≤ k ∧ i = .int .i64 k ∧ Hid (S = (r.take k).foldl Sq.stepR []) ∧ Hid (OfInv w0 b6 wr (.slice Ar m cr) r A q c S)) (fun i _ => m - (intOf i).toNat)
      case atStart => exact ⟨0, 0, none, 0, [], Nat.zero_le _, Nat.le_refl _, rfl, Lib.hid rfl, HI0⟩
      case round =>
        obtain ⟨k, q, A3, c3, S, hk, hqk, rfl, HS, HI⟩ := hrel
        have b0 := HI.out.box.cell 0 (.slice A3 q c3) rfl
        have hb6l : b6 < wr.heap.size := HI.out.box.lt
        by_cases hlt : k < m
        · have hkr : k < r.length := by rw [← HN.out]; exact hlt
          obtain ⟨g, c4, e4, hg, k1, hgo, hgb⟩ := HI.out.num k hkr
          obtain rfl : Ar = some ⟨g, 0, none⟩ := by injection e4
          have hst : (r.take (k + 1)).foldl Sq.stepR [] = Sq.stepR S r[k] := by
            rw [List.take_succ_eq_append_getElem hkr, List.foldl_append, ← HS.out]; rfl
          have hxr := HRG.out _ (List.getElem_mem hkr)
          obtain ⟨x, Hx⟩ : ∃ x, Hid (x = r[k]) := ⟨_, Lib.hid rfl⟩
          rw [← Hx.out] at k1 hst hxr
          have HST := Lib.hid hst
          have i1 : (k : Int) < (m : Int) := by omega
          have i2 : (0 : Int) ≤ (k : Int) := by omega
          have d100 : ((q : Int) == 100) = false := by simp; omega
          have HSPN : Hid (∀ (W : World), OfInv w0 b6 W (.slice (some ⟨g, 0, none⟩) m cr) r A3 q c3 S → ∀ (Q : Exit → Act → World → Prop) (a0 : Act), 127 < a0.tmps.size → a0.eval (.tmp 6) = .pointer (some ⟨b6, 0, none⟩) → a0.eval (.tmp 3) = .slice (some ⟨g, 0, none⟩) m cr → a0.eval (.tmp 7) = .int .i64 (k : Int) →
              (∀ a w A' c', Fr [114, 115, 116, 117, 118, 119, 120, 121, 122, 123, 124, 125, 126, 127] a0 a → OfInv w0 b6 w (.slice (some ⟨g, 0, none⟩) m cr) r A' (q + 1) c' (S ++ [(x, x)]) → Q .normal a w) → (Code.region 20 opsOfsp20 true).wp Tryd.prog Q a0 W) := Lib.hid (fun W hI Q a0 hsz in6 in3 in7 fin => by
            obtain ⟨g', c', e', hg', k', hgo', _⟩ := hI.num k hkr
            have eg : g' = g := by injection e' with e'; injection e' with e'; injection e' with e' _ _; exact e'.symm
            subst eg
            rw [← Hx.out] at k'
            refine ofsp20 g' m cr k b6 q c3 A3 x (SpS w0.heap.size W b6 (.slice A3 q c3) q S x) hsz in3 in6 in7 i1 (fun f R w h => ?_) (fun f R w h h2 => (h.box0 h2).cell 0 _ rfl) (fun f R w h h0 h1 h2 => h.s0 h1 h2) (fun f R w h h0 h1 h2 => h.s1 h0 h1 h2 hI.len (by omega) hI.bel.size _) (fun f R w h h1 h2 => h.s2 h1 h2) (.start hI.box hI.row) ?_
            · rw [h.only.cell (a := ⟨g', k, none⟩) hg' (fun hm => ?_)]
              · exact k'
              · rcases List.mem_cons.1 hm with e | hm
                · exact hI.box.apart (by decide) hI.nums (by rw [hgo']; exact congrArg some e.symm)
                · rcases own_own_ne hI.nums hI.row (by decide) with h0 | h0
                  · rw [hgo'] at h0; cases h0
                  · exact h0 (hgo'.trans (mem_blk.1 hm).symm)
            · intro a w f hf hall hS
              obtain ⟨A', c', hI'⟩ := hI.more hb60 hS hall
              exact fin a w A' c' hf hI')
          clear hst e4 hgo
          rcases Sq.snoc_cases S with hS0 | ⟨T, ⟨a, b⟩, hS1⟩
          · have hq0 : q = 0 := by rw [HI.out.len, hS0]; rfl
            have HN2 : Hid (S ++ [(x, x)] = (r.take (k + 1)).foldl Sq.stepR []) := Lib.hid (by rw [HST.out, hS0]; rfl)
            have d0 : decide ((0 : Int) < (q : Int)) = false := by simp; omega
            have d0' : decide (0 < q) = false := by simp; omega
            clear hS0
            subst hq0
            go_wp2
            go_quiet (fail)
            go_wp2
            refine HSPN.out _ (HI.out.drewN _) _ _ (by show 127 < 129; omega) rfl rfl rfl ?_
            intro af wN A' c' hfr hI'
            have HI2 := Lib.hid hI'
            clear hI'
            have ha := hfr.eq (by intro t ht; simp at ht; show t < 129; omega)
            simp only [List.foldl_cons, List.foldl_nil] at ha
            clear hfr
            generalize af.eval (.tmp 114) = u114 at ha
            generalize af.eval (.tmp 115) = u115 at ha
            generalize af.eval (.tmp 116) = u116 at ha
            generalize af.eval (.tmp 117) = u117 at ha
            generalize af.eval (.tmp 118) = u118 at ha
            generalize af.eval (.tmp 119) = u119 at ha
            generalize af.eval (.tmp 120) = u120 at ha
            generalize af.eval (.tmp 121) = u121 at ha
            generalize af.eval (.tmp 122) = u122 at ha
            generalize af.eval (.tmp 123) = u123 at ha
            generalize af.eval (.tmp 124) = u124 at ha
            generalize af.eval (.tmp 125) = u125 at ha
            generalize af.eval (.tmp 126) = u126 at ha
            generalize af.eval (.tmp 127) = u127 at ha
            subst ha
            simp only [Act.put, List.setIfInBounds_toArray, List.set_cons_zero, List.set_cons_succ]
            go_wp2
            go_roundw
            case rel => exact ⟨k + 1, 1, A', c', S ++ [(x, x)], by omega, by omega, by go_num, HN2, HI2⟩
            case measure => simp [intOf]; omega
          · obtain ⟨t, Ht⟩ : ∃ t, Hid (t = T.length) := ⟨_, Lib.hid rfl⟩
            have HQT : Hid (q = t + 1) := Lib.hid (by rw [HI.out.len, hS1, List.length_append, Ht.out]; rfl)
            have hsub : (q : Int) - 1 = (t : Int) := by have := HQT.out; omega
            have htq : t < q := by have := HQT.out; omega
            have d0 : decide ((0 : Int) < (q : Int)) = true := by simp; omega
            have d0' : decide (0 < q) = true := by simp; omega
            have hbr : -1 ≤ b ∧ b ≤ 4294967295 := by
              have hlast := HLAST.out k T a b (by rw [← HS.out, hS1])
              omega
            obtain ⟨hb1, hb2⟩ := hbr
            have HI1 : Hid (OfInv w0 b6 wr (.slice (some ⟨g, 0, none⟩) m cr) r A3 q c3 (T ++ [(a, b)])) := Lib.hid (by rw [← hS1]; exact HI.out)
            obtain ⟨g2, hA3, z1, z2, z3, z4⟩ := HI1.out.last x
            subst hA3
            rw [← Ht.out] at z1 z2 z4
            have Z4 := Lib.hid z4
            have i3 : IntKind.i64.wrap (t : Int) = (t : Int) := IntWalk.i64_in _ (by omega)
            have i4 : (0 : Int) ≤ (t : Int) := by omega
            have i5 : (t : Int) < (q : Int) := by omega
            have i6 : IntKind.i64.wrap (b + 1) = b + 1 := IntWalk.i64_in _ (by omega)
            by_cases heq : b + 1 = x
            · have d7 : (b + 1 == x) = true := by simpa using heq
              have HN2 : Hid (T ++ [(a, x)] = (r.take (k + 1)).foldl Sq.stepR []) := Lib.hid (by rw [HST.out, hS1, Sq.stepR_snoc, if_pos heq])
              have HX1 := Lib.hid hS1
              clear hS1 heq z4
              go_wp2
              go_quiet (fail)
              go_wp2
              have hIW : OfInv w0 b6 (wr.drewN nq) (.slice (some ⟨g, 0, none⟩) m cr) r (some ⟨g2, 0, none⟩) q c3 (T ++ [(a, b)]) := HI1.out.drewN nq
              obtain ⟨W, hW⟩ : ∃ W, W = wr.drewN nq := ⟨_, rfl⟩
              rw [← hW] at hIW ⊢
              obtain ⟨g', c', e', hg', k', hgo', _⟩ := hIW.num k hkr
              obtain rfl : g' = g := by injection e' with e'; injection e' with e'; injection e' with e' _ _; exact e'.symm
              rw [← Hx.out] at k'
              obtain ⟨g3, hA4, y1, y2, y3, y4⟩ := hIW.last x
              obtain rfl : g3 = g2 := by injection hA4 with hA4; injection hA4 with hA4 _ _; exact hA4.symm
              rw [← Ht.out] at y1 y2 y4
              have y0 := hIW.box.cell 0 (.slice (some ⟨g3, 0, none⟩) q c3) rfl
              have Y4 := Lib.hid (y4.drewN 1)
              clear hW hIW e' hA4 y4 b0 k1 z1 z2 z3
              go_still_tail 10, (by kernel_rfl)
              go_wp2
              go_roundw
              case rel => exact ⟨k + 1, q, _, c3, T ++ [(a, x)], by omega, by omega, by go_num, HN2, Y4⟩
              case measure => simp [intOf]; omega
            · have d7 : (b + 1 == x) = false := by simpa using heq
              have HN2 : Hid (S ++ [(x, x)] = (r.take (k + 1)).foldl Sq.stepR []) := Lib.hid (by rw [HST.out, hS1, Sq.stepR_snoc, if_neg heq])
              clear hS1 heq z4
              go_wp2
              go_quiet (fail)
              go_wp2
              refine HSPN.out _ (HI.out.drewN _) _ _ (by show 127 < 129; omega) rfl rfl rfl ?_
              intro af wN A' c' hfr hI'
              have HI2 := Lib.hid hI'
              clear hI'
              have ha := hfr.eq (by intro t ht; simp at ht; show t < 129; omega)
              simp only [List.foldl_cons, List.foldl_nil] at ha
              clear hfr
              generalize af.eval (.tmp 114) = u114 at ha
              generalize af.eval (.tmp 115) = u115 at ha
              generalize af.eval (.tmp 116) = u116 at ha
              generalize af.eval (.tmp 117) = u117 at ha
              generalize af.eval (.tmp 118) = u118 at ha
              generalize af.eval (.tmp 119) = u119 at ha
              generalize af.eval (.tmp 120) = u120 at ha
              generalize af.eval (.tmp 121) = u121 at ha
              generalize af.eval (.tmp 122) = u122 at ha
              generalize af.eval (.tmp 123) = u123 at ha
              generalize af.eval (.tmp 124) = u124 at ha
              generalize af.eval (.tmp 125) = u125 at ha
              generalize af.eval (.tmp 126) = u126 at ha
              generalize af.eval (.tmp 127) = u127 at ha
              subst ha
              simp only [Act.put, List.setIfInBounds_toArray, List.set_cons_zero, List.set_cons_succ]
              go_wp2
              go_roundw
              case rel => exact ⟨k + 1, q + 1, A', c', S ++ [(x, x)], by omega, by omega, by go_num, HN2, HI2⟩
              case measure => simp [intOf]; omega
        · obtain rfl : k = m := by omega
          have c0 := HI.out.res.cell 0 (.slice none 0 0) rfl
          have f0 := HI.out.res.frozen 0
          have hr0 : w0.heap.size < wr.heap.size := HI.out.res.lt
          have hS : S = Sq.spansR l := by rw [HS.out, HN.out, List.take_length, HSP.out]
          have key : SetEnd (Sq.spansR l) w0 (.returned (.agg #[.slice A3 q c3])) (wr.setCell ⟨w0.heap.size, 0, none⟩ (.slice A3 q c3)) := by
            have hown := row_set HI.out.row (HI.out.res.apart (by decide) HI.out.row) (i := 0) (.slice A3 q c3)
            refine ⟨_, rfl, ?_, below_set HI.out.bel (Nat.le_refl _) _ _⟩
            rw [← hS]
            rw [HI.out.len] at hown ⊢
            exact SetAt.own hown
          have KEY := Lib.hid key
          clear key hS
          go_wp2
          refine bodyPost_ret (rof_ret _ _ w0.heap.size rfl _ (HI.out.res.set 0 _)) rfl KEY.out
end Go.Proofs.YtmcglecdidnhlaaDoor
