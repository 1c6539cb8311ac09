/- The reference's Write: the writes grow by one. -/
import Derived.Test.YtelcedbcegbbjaaFlags
import Derived.Test.YtelcedbcegbbjaaRefRow
import Derived.WalkKit
import Derived.WalkSpells
import Derived.WalkLawsBesides
import Derived.Lib.Hide
namespace Go.Proofs.Ytelcedbcegbbjaa
open Go.RowKit Dk
set_option linter.unusedVariables false
set_option linter.unusedSimpArgs false

def opsRw7 : Array Oper := #[
  { dst := some 28, op := Op.move (Operand.tmp 0), type := 38, pos := "ref.go:61", after := #[], guard := none },
  { dst := some 29, op := Op.buildSlice 43 0 #[], type := 43, pos := "ref.go:61", after := #[], guard := none },
  { dst := some 30, op := Op.move (Operand.tmp 0), type := 38, pos := "ref.go:61", after := #[], guard := none },
  { dst := some 31, op := Op.nilCheck (Operand.tmp 30), type := 0, pos := "ref.go:61", after := #[{ on := 2, ground := Ground.data }], guard := none },
  { dst := some 32, op := Op.fieldAddr 45 (Operand.tmp 31) 3, type := 0, pos := "ref.go:61", after := #[{ on := 3, ground := Ground.data }], guard := none },
  { dst := some 33, op := Op.load 43 (Operand.tmp 32), type := 43, pos := "ref.go:61", after := #[{ on := 4, ground := Ground.data }], guard := none },
  { dst := some 34, op := Op.call { callee := Callee.builtin Builtin.append, args := #[Operand.tmp 29, Operand.tmp 33], argTypes := #[43, 43] }, type := 43, pos := "ref.go:61", after := #[{ on := 1, ground := Ground.data }, { on := 5, ground := Ground.data }], guard := none },
  { dst := some 35, op := Op.move (Operand.tmp 1), type := 3, pos := "ref.go:61", after := #[], guard := none },
  { dst := some 36, op := Op.move (Operand.tmp 2), type := 28, pos := "ref.go:61", after := #[], guard := none },
  { dst := some 37, op := Op.convert 28 9 (Operand.tmp 36), type := 9, pos := "ref.go:61", after := #[{ on := 8, ground := Ground.data }], guard := none },
  { dst := some 38, op := Op.build 70 #[(0, Operand.tmp 35), (1, Operand.tmp 37)], type := 70, pos := "ref.go:61", after := #[{ on := 7, ground := Ground.data }, { on := 9, ground := Ground.data }], guard := none },
  { dst := some 39, op := Op.buildSlice 43 1 #[(0, Operand.tmp 38)], type := 43, pos := "ref.go:61", after := #[{ on := 10, ground := Ground.data }], guard := none },
  { dst := some 40, op := Op.call { callee := Callee.builtin Builtin.append, args := #[Operand.tmp 34, Operand.tmp 39], argTypes := #[43, 43] }, type := 43, pos := "ref.go:61", after := #[{ on := 6, ground := Ground.data }, { on := 11, ground := Ground.data }, { on := 6, ground := Ground.chain }], guard := none },
  { dst := some 41, op := Op.nilCheck (Operand.tmp 28), type := 0, pos := "ref.go:61", after := #[{ on := 0, ground := Ground.data }, { on := 0, ground := Ground.phase }, { on := 1, ground := Ground.phase }, { on := 2, ground := Ground.phase }, { on := 3, ground := Ground.phase }, { on := 4, ground := Ground.phase }, { on := 5, ground := Ground.phase }, { on := 6, ground := Ground.phase }, { on := 7, ground := Ground.phase }, { on := 8, ground := Ground.phase }, { on := 9, ground := Ground.phase }, { on := 10, ground := Ground.phase }, { on := 11, ground := Ground.phase }, { on := 12, ground := Ground.phase }], guard := none },
  { dst := some 42, op := Op.fieldAddr 45 (Operand.tmp 41) 3, type := 0, pos := "ref.go:61", after := #[{ on := 13, ground := Ground.data }, { on := 0, ground := Ground.phase }, { on := 1, ground := Ground.phase }, { on := 2, ground := Ground.phase }, { on := 3, ground := Ground.phase }, { on := 4, ground := Ground.phase }, { on := 5, ground := Ground.phase }, { on := 6, ground := Ground.phase }, { on := 7, ground := Ground.phase }, { on := 8, ground := Ground.phase }, { on := 9, ground := Ground.phase }, { on := 10, ground := Ground.phase }, { on := 11, ground := Ground.phase }, { on := 12, ground := Ground.phase }], guard := none },
  { dst := none, op := Op.store 43 (Operand.tmp 42) (Operand.tmp 40), type := 0, pos := "ref.go:61", after := #[{ on := 14, ground := Ground.data }, { on := 12, ground := Ground.data }, { on := 12, ground := Ground.chain }, { on := 0, ground := Ground.phase }, { on := 1, ground := Ground.phase }, { on := 2, ground := Ground.phase }, { on := 3, ground := Ground.phase }, { on := 4, ground := Ground.phase }, { on := 5, ground := Ground.phase }, { on := 6, ground := Ground.phase }, { on := 7, ground := Ground.phase }, { on := 8, ground := Ground.phase }, { on := 9, ground := Ground.phase }, { on := 10, ground := Ground.phase }, { on := 11, ground := Ground.phase }, { on := 12, ground := Ground.phase }], guard := none }]

def rw7Vals (rb ii m cl c2 : Nat) (Al A2 : Option Addr) (dat : ByteArray) (wz : World) (olds : List Value) : List (Nat × Nat × Value) := [(0, 28, .pointer (some ⟨rb, 0, none⟩)), (2, 30, .pointer (some ⟨rb, 0, none⟩)), (3, 31, .pointer (some ⟨rb, 0, none⟩)), (4, 32, .pointer (some ⟨rb, 3, none⟩)), (5, 33, .slice Al m cl), (7, 35, .int .i64 (ii : Int)), (8, 36, .slice A2 512 c2), (9, 37, .string dat), (10, 38, .agg #[.int .i64 (ii : Int), .string dat]), (13, 41, .pointer (some ⟨rb, 0, none⟩)), (14, 42, .pointer (some ⟨rb, 3, none⟩))]
def rw7C : List (Nat × Nat) := [(1, 29), (6, 34), (11, 39), (12, 40), (15, 1000015)]

set_option maxHeartbeats 4000000 in
set_option maxRecDepth 100000 in
theorem rw7 {Q : Exit → Act → World → Prop} {a0 : Act} {wp : World} (rb ii m cl c2 : Nat) (Al A2 : Option Addr) (dat : ByteArray) (wz : World) (olds : List Value) (S : (Nat → Bool) → (Nat → Value) → World → Prop)
    (hsz : 42 < a0.tmps.size) (in0 : a0.eval (.tmp 0) = .pointer (some ⟨rb, 0, none⟩)) (in1 : a0.eval (.tmp 1) = .int .i64 (ii : Int)) (in2 : a0.eval (.tmp 2) = .slice A2 512 c2)
    (hcell : wz.cell? ⟨rb, 3, none⟩ = some (.slice Al m cl)) (hfree : wz.frozen? ⟨rb, 3, none⟩ = false) (hrb : rb < wz.heap.size) (hown : wz.ownsRow 0 70 2 (.slice Al m cl) m olds) (hones : ∀ u ∈ olds, u.oneCell' = true) (hm : m ≤ 100000)
    (hconv : ∀ W, Below wz.heap.size wz W → (convert 28 9 (.slice A2 512 c2)).run Try.prog W = .ok (.string dat) W)
    (hSb : ∀ f R w, S f R w → f 4 = false → RowS 70 2 m olds [.int .i64 (ii : Int), .string dat] wz f R w) (hSc : ∀ f R w, f 4 = false → RowS 70 2 m olds [.int .i64 (ii : Int), .string dat] wz f R w → S f R w)
    (hSf : ∀ f R w A n c, f 4 = false → f 3 = true → RowS 70 2 m olds [.int .i64 (ii : Int), .string dat] wz f R w → R 3 = .slice A n c → S (setF f 4) R (w.setCell ⟨rb, 3, none⟩ (.slice A n c)))
    (hS : S (fun _ => false) (resOf rw7C fun t => a0.eval (.tmp t)) wp.drew)
    (fin : ∀ a w f, Fr [28, 29, 30, 31, 32, 33, 34, 35, 36, 37, 38, 39, 40, 41, 42] a0 a → (∀ j, j < 5 → f j = true) → S f (resOf rw7C fun t => a.eval (.tmp t)) w → Q .normal a w) :
    (Code.region 7 opsRw7 true).wp Try.prog Q a0 wp := by
  refine region_inv (by kernel_rfl) [28, 29, 30, 31, 32, 33, 34, 35, 36, 37, 38, 39, 40, 41, 42] (by kernel_rfl) (by kernel_rfl) (fun t ht => by simp at ht; omega) (GF (rw7Vals rb ii m cl c2 Al A2 dat wz olds) rw7C S) (.start hS) ?_
    (fun L a w hf hall hG => fin a w (flagsOf rw7C L) hf  (fun j hj => by
      match j, hj with
      | 0, _ => exact (flagsOf_at (C := rw7C) (j := 0) rfl L).trans (hall 1 (by decide))
      | 1, _ => exact (flagsOf_at (C := rw7C) (j := 1) rfl L).trans (hall 6 (by decide))
      | 2, _ => exact (flagsOf_at (C := rw7C) (j := 2) rfl L).trans (hall 11 (by decide))
      | 3, _ => exact (flagsOf_at (C := rw7C) (j := 3) rfl L).trans (hall 12 (by decide))
      | 4, _ => exact (flagsOf_at (C := rw7C) (j := 4) rfl L).trans (hall 15 (by decide))
      | n + 5, h => exact absurd h (by omega)) hG.1)
  clear hS fin
  intro ix oo ho L a w hfr hG hLi hdep hcl K hK
  have e0 : a.tmps[0]?.getD undef = .pointer (some ⟨rb, 0, none⟩) := by rw [← ev]; exact (hfr.same 0 (by decide)).trans in0
  have e1 : a.tmps[1]?.getD undef = .int .i64 (ii : Int) := by rw [← ev]; exact (hfr.same 1 (by decide)).trans in1
  have e2 : a.tmps[2]?.getD undef = .slice A2 512 c2 := by rw [← ev]; exact (hfr.same 2 (by decide)).trans in2
  clear in0 in1 in2
  match ix, ho with
  | 0, ho =>
    simp only [opsRw7, List.getElem?_toArray, List.getElem?_cons_zero, Option.some.injEq] at ho
    subst ho
    rw [if_pos (show Region.wanted _ _ = true from rfl)]
    have hfin := hK (.pointer (some ⟨rb, 0, none⟩)) w (hG.quiet 0 0 28 _ rfl (by kernel_rfl) (by kernel_rfl))
    have HK := Lib.hid hfin
    clear hG hcl hdep hfr hK hfin hLi 
    go_simp
    exact HK.out
  | 1, ho =>
    simp only [opsRw7, List.getElem?_toArray, List.getElem?_cons_succ, List.getElem?_cons_zero, Option.some.injEq] at ho
    subst ho
    rw [if_pos (show Region.wanted _ _ = true from rfl)]
    have hSj := hG.1
    have hf0 : flagsOf rw7C L 0 = false := (flagsOf_at (C := rw7C) (j := 0) rfl L).trans hLi
    have hf1 : flagsOf rw7C L 1 = false := (flagsOf_at (C := rw7C) (j := 1) rfl L).trans (by
      cases hl : L 6 with
      | false => rfl
      | true => exact absurd (hcl 6 _ rfl (hl) ⟨1, .data⟩ (by simp [opsRw7]) rfl) (by rw [hLi]; decide))
    have hf3 : flagsOf rw7C L 3 = false := (flagsOf_at (C := rw7C) (j := 3) rfl L).trans (by
      cases hl : L 12 with
      | false => rfl
      | true => exact absurd (hcl 6 _ rfl (hcl 12 _ rfl (hl) ⟨6, .data⟩ (by simp [opsRw7]) rfl) ⟨1, .data⟩ (by simp [opsRw7]) rfl) (by rw [hLi]; decide))
    have hf4 : flagsOf rw7C L 4 = false := (flagsOf_at (C := rw7C) (j := 4) rfl L).trans (by
      cases hl : L 15 with
      | false => rfl
      | true => exact absurd (hcl 15 _ rfl (hl) ⟨1, .phase⟩ (by simp [opsRw7]) rfl) (by rw [hLi]; decide))
    have hfin := fun v w' hs => hK v w' (hG.call 0 (1, 29) rfl (by kernel_rfl) v w' hs)
    have HK := Lib.hid hfin
    generalize (resOf rw7C fun t => a.eval (.tmp t)) = R at *
    generalize flagsOf rw7C L = f at *
    clear hG hcl hdep hfr hK hfin hLi
    have h2 := fun v w' => HK.out v w' 
    have hs := hSc _ _ _ (by rw [setF_ne _ (by decide)]; exact hf4) ((hSb _ _ _ hSj hf4).s0 hf1 hf3)
    have hk := HK.out _ _ hs
    have HK2 := Lib.hid hk
    clear hs hk h2 HK hSj hcell hfree hrb hown hones hm hconv hSb hSc hSf
    go_simp
    exact HK2.out
  | 2, ho =>
    simp only [opsRw7, List.getElem?_toArray, List.getElem?_cons_succ, List.getElem?_cons_zero, Option.some.injEq] at ho
    subst ho
    rw [if_pos (show Region.wanted _ _ = true from rfl)]
    have hfin := hK (.pointer (some ⟨rb, 0, none⟩)) w (hG.quiet 1 2 30 _ rfl (by kernel_rfl) (by kernel_rfl))
    have HK := Lib.hid hfin
    clear hG hcl hdep hfr hK hfin hLi 
    go_simp
    exact HK.out
  | 3, ho =>
    simp only [opsRw7, List.getElem?_toArray, List.getElem?_cons_succ, List.getElem?_cons_zero, Option.some.injEq] at ho
    subst ho
    have x30 : a.tmps[30]?.getD undef = .pointer (some ⟨rb, 0, none⟩) := by rw [← ev]; exact hG.val 1 2 30 _ rfl (hdep ⟨2, .data⟩ (by simp) rfl)
    rw [if_pos (show Region.wanted _ _ = true from rfl)]
    have hfin := hK (.pointer (some ⟨rb, 0, none⟩)) w (hG.quiet 2 3 31 _ rfl (by kernel_rfl) (by kernel_rfl))
    have HK := Lib.hid hfin
    clear hG hcl hdep hfr hK hfin hLi 
    go_simp
    exact HK.out
  | 4, ho =>
    simp only [opsRw7, List.getElem?_toArray, List.getElem?_cons_succ, List.getElem?_cons_zero, Option.some.injEq] at ho
    subst ho
    have x31 : a.tmps[31]?.getD undef = .pointer (some ⟨rb, 0, none⟩) := by rw [← ev]; exact hG.val 2 3 31 _ rfl (hdep ⟨3, .data⟩ (by simp) rfl)
    rw [if_pos (show Region.wanted _ _ = true from rfl)]
    have hfin := hK (.pointer (some ⟨rb, 3, none⟩)) w (hG.quiet 3 4 32 _ rfl (by kernel_rfl) (by kernel_rfl))
    have HK := Lib.hid hfin
    clear hG hcl hdep hfr hK hfin hLi 
    go_simp
    exact HK.out
  | 5, ho =>
    simp only [opsRw7, List.getElem?_toArray, List.getElem?_cons_succ, List.getElem?_cons_zero, Option.some.injEq] at ho
    subst ho
    have x32 : a.tmps[32]?.getD undef = .pointer (some ⟨rb, 3, none⟩) := by rw [← ev]; exact hG.val 3 4 32 _ rfl (hdep ⟨4, .data⟩ (by simp) rfl)
    rw [if_pos (show Region.wanted _ _ = true from rfl)]
    have hSp := hG.1
    have hf1 : flagsOf rw7C L 1 = false := (flagsOf_at (C := rw7C) (j := 1) rfl L).trans (by
      cases hl : L 6 with
      | false => rfl
      | true => exact absurd (hcl 6 _ rfl (hl) ⟨5, .data⟩ (by simp [opsRw7]) rfl) (by rw [hLi]; decide))
    have hf3 : flagsOf rw7C L 3 = false := (flagsOf_at (C := rw7C) (j := 3) rfl L).trans (by
      cases hl : L 12 with
      | false => rfl
      | true => exact absurd (hcl 6 _ rfl (hcl 12 _ rfl (hl) ⟨6, .data⟩ (by simp [opsRw7]) rfl) ⟨5, .data⟩ (by simp [opsRw7]) rfl) (by rw [hLi]; decide))
    have hf4 : flagsOf rw7C L 4 = false := (flagsOf_at (C := rw7C) (j := 4) rfl L).trans (by
      cases hl : L 15 with
      | false => rfl
      | true => exact absurd (hcl 15 _ rfl (hl) ⟨5, .phase⟩ (by simp [opsRw7]) rfl) (by rw [hLi]; decide))
    have hfin := hK (.slice Al m cl) w (hG.quiet 4 5 33 _ rfl (by kernel_rfl) (by kernel_rfl))
    have HK := Lib.hid hfin
    generalize (resOf rw7C fun t => a.eval (.tmp t)) = R at *
    generalize flagsOf rw7C L = f at *
    have hb := (hSb _ _ _ hSp hf4).1
    have hcv := (hb.cell (p := ⟨rb, 3, none⟩) hrb).trans hcell
    clear hcell hfree hrb hown hones hm hconv hSb hSc hSf hb
    clear hSp
    clear hG hcl hdep hfr hK hfin hLi 
    go_simp
    exact HK.out
  | 6, ho =>
    simp only [opsRw7, List.getElem?_toArray, List.getElem?_cons_succ, List.getElem?_cons_zero, Option.some.injEq] at ho
    subst ho
    have x33 : a.tmps[33]?.getD undef = .slice Al m cl := by rw [← ev]; exact hG.val 4 5 33 _ rfl (hdep ⟨5, .data⟩ (by simp) rfl)
    rw [if_pos (show Region.wanted _ _ = true from rfl)]
    have hSj := hG.1
    have hf0 : flagsOf rw7C L 0 = true := (flagsOf_at (C := rw7C) (j := 0) rfl L).trans (hdep ⟨1, .data⟩ (by simp) rfl)
    have hf1 : flagsOf rw7C L 1 = false := (flagsOf_at (C := rw7C) (j := 1) rfl L).trans hLi
    have hf3 : flagsOf rw7C L 3 = false := (flagsOf_at (C := rw7C) (j := 3) rfl L).trans (by
      cases hl : L 12 with
      | false => rfl
      | true => exact absurd (hcl 12 _ rfl (hl) ⟨6, .data⟩ (by simp [opsRw7]) rfl) (by rw [hLi]; decide))
    have hf4 : flagsOf rw7C L 4 = false := (flagsOf_at (C := rw7C) (j := 4) rfl L).trans (by
      cases hl : L 15 with
      | false => rfl
      | true => exact absurd (hcl 15 _ rfl (hl) ⟨6, .phase⟩ (by simp [opsRw7]) rfl) (by rw [hLi]; decide))
    have r29 : a.tmps[29]?.getD undef = resOf rw7C (fun t => a.eval (.tmp t)) 0 := by rw [← ev]; exact (resOf_at (C := rw7C) (j := 0) rfl a).symm
    have hfin := fun v w' hs => hK v w' (hG.call 1 (6, 34) rfl (by kernel_rfl) v w' hs)
    have HK := Lib.hid hfin
    generalize (resOf rw7C fun t => a.eval (.tmp t)) = R at *
    generalize flagsOf rw7C L = f at *
    clear hG hcl hdep hfr hK hfin hLi
    obtain ⟨i0, hi, hz0, hz1, hz2⟩ := info_parts Try.infoRWr
    have hr := hSb _ _ _ hSj hf4
    obtain ⟨b, e1, e2, e3⟩ := hr.2.1 hf0 hf1
    obtain ⟨v', w', hrun, ho2, hg⟩ := run_append_lit (P := Try.prog) w wz.heap.size 43 43 70 i0 _ 2 24 Try.underlying43 hi hz0 hz1 hz2 rfl (by decide) b e2 e3 _ m olds 0 (own_below hown hr.1 (Nat.le_refl _)) hones (by unfold maxLen; omega) (by omega) hr.1.size
    refine oper_append_run (.tmp 29) (.tmp 33) 43 rfl w _ _ (by rw [ev]; exact r29.trans e1) (by rw [ev]; exact x33) v' w' hrun (HK.out v' w' (hSc _ _ _ (by rw [setF_ne _ (by decide)]; exact hf4) (hr.s1 hf3 (by simp) e2 e3 ho2 hg)))
  | 7, ho =>
    simp only [opsRw7, List.getElem?_toArray, List.getElem?_cons_succ, List.getElem?_cons_zero, Option.some.injEq] at ho
    subst ho
    rw [if_pos (show Region.wanted _ _ = true from rfl)]
    have hfin := hK (.int .i64 (ii : Int)) w (hG.quiet 5 7 35 _ rfl (by kernel_rfl) (by kernel_rfl))
    have HK := Lib.hid hfin
    clear hG hcl hdep hfr hK hfin hLi 
    go_simp
    exact HK.out
  | 8, ho =>
    simp only [opsRw7, List.getElem?_toArray, List.getElem?_cons_succ, List.getElem?_cons_zero, Option.some.injEq] at ho
    subst ho
    rw [if_pos (show Region.wanted _ _ = true from rfl)]
    have hfin := hK (.slice A2 512 c2) w (hG.quiet 6 8 36 _ rfl (by kernel_rfl) (by kernel_rfl))
    have HK := Lib.hid hfin
    clear hG hcl hdep hfr hK hfin hLi 
    go_simp
    exact HK.out
  | 9, ho =>
    simp only [opsRw7, List.getElem?_toArray, List.getElem?_cons_succ, List.getElem?_cons_zero, Option.some.injEq] at ho
    subst ho
    have x36 : a.tmps[36]?.getD undef = .slice A2 512 c2 := by rw [← ev]; exact hG.val 6 8 36 _ rfl (hdep ⟨8, .data⟩ (by simp) rfl)
    rw [if_pos (show Region.wanted _ _ = true from rfl)]
    have hSp := hG.1
    have hf2 : flagsOf rw7C L 2 = false := (flagsOf_at (C := rw7C) (j := 2) rfl L).trans (by
      cases hl : L 11 with
      | false => rfl
      | true => exact absurd (hcl 10 _ rfl (hcl 11 _ rfl (hl) ⟨10, .data⟩ (by simp [opsRw7]) rfl) ⟨9, .data⟩ (by simp [opsRw7]) rfl) (by rw [hLi]; decide))
    have hf3 : flagsOf rw7C L 3 = false := (flagsOf_at (C := rw7C) (j := 3) rfl L).trans (by
      cases hl : L 12 with
      | false => rfl
      | true => exact absurd (hcl 10 _ rfl (hcl 11 _ rfl (hcl 12 _ rfl (hl) ⟨11, .data⟩ (by simp [opsRw7]) rfl) ⟨10, .data⟩ (by simp [opsRw7]) rfl) ⟨9, .data⟩ (by simp [opsRw7]) rfl) (by rw [hLi]; decide))
    have hf4 : flagsOf rw7C L 4 = false := (flagsOf_at (C := rw7C) (j := 4) rfl L).trans (by
      cases hl : L 15 with
      | false => rfl
      | true => exact absurd (hcl 15 _ rfl (hl) ⟨9, .phase⟩ (by simp [opsRw7]) rfl) (by rw [hLi]; decide))
    have hfin := hK (.string dat) w (hG.quiet 7 9 37 _ rfl (by kernel_rfl) (by kernel_rfl))
    have HK := Lib.hid hfin
    generalize (resOf rw7C fun t => a.eval (.tmp t)) = R at *
    generalize flagsOf rw7C L = f at *
    have hcv := hconv _ (hSb _ _ _ hSp hf4).1
    clear hcell hfree hrb hown hones hm hconv hSb hSc hSf
    clear hSp
    clear hG hcl hdep hfr hK hfin hLi 
    go_simp
    exact HK.out
  | 10, ho =>
    simp only [opsRw7, List.getElem?_toArray, List.getElem?_cons_succ, List.getElem?_cons_zero, Option.some.injEq] at ho
    subst ho
    have x35 : a.tmps[35]?.getD undef = .int .i64 (ii : Int) := by rw [← ev]; exact hG.val 5 7 35 _ rfl (hdep ⟨7, .data⟩ (by simp) rfl)
    have x37 : a.tmps[37]?.getD undef = .string dat := by rw [← ev]; exact hG.val 7 9 37 _ rfl (hdep ⟨9, .data⟩ (by simp) rfl)
    rw [if_pos (show Region.wanted _ _ = true from rfl)]
    have hfin := hK (.agg #[.int .i64 (ii : Int), .string dat]) w (hG.quiet 8 10 38 _ rfl (by kernel_rfl) (by kernel_rfl))
    have HK := Lib.hid hfin
    clear hG hcl hdep hfr hK hfin hLi 
    go_simp
    exact HK.out
  | 11, ho =>
    simp only [opsRw7, List.getElem?_toArray, List.getElem?_cons_succ, List.getElem?_cons_zero, Option.some.injEq] at ho
    subst ho
    have x38 : a.tmps[38]?.getD undef = .agg #[.int .i64 (ii : Int), .string dat] := by rw [← ev]; exact hG.val 8 10 38 _ rfl (hdep ⟨10, .data⟩ (by simp) rfl)
    rw [if_pos (show Region.wanted _ _ = true from rfl)]
    have hSj := hG.1
    have hf2 : flagsOf rw7C L 2 = false := (flagsOf_at (C := rw7C) (j := 2) rfl L).trans hLi
    have hf3 : flagsOf rw7C L 3 = false := (flagsOf_at (C := rw7C) (j := 3) rfl L).trans (by
      cases hl : L 12 with
      | false => rfl
      | true => exact absurd (hcl 12 _ rfl (hl) ⟨11, .data⟩ (by simp [opsRw7]) rfl) (by rw [hLi]; decide))
    have hf4 : flagsOf rw7C L 4 = false := (flagsOf_at (C := rw7C) (j := 4) rfl L).trans (by
      cases hl : L 15 with
      | false => rfl
      | true => exact absurd (hcl 15 _ rfl (hl) ⟨11, .phase⟩ (by simp [opsRw7]) rfl) (by rw [hLi]; decide))
    have hfin := fun v w' hs => hK v w' (hG.call 2 (11, 39) rfl (by kernel_rfl) v w' hs)
    have HK := Lib.hid hfin
    generalize (resOf rw7C fun t => a.eval (.tmp t)) = R at *
    generalize flagsOf rw7C L = f at *
    clear hG hcl hdep hfr hK hfin hLi
    have hs := hSc _ _ _ (by rw [setF_ne _ (by decide)]; exact hf4) ((hSb _ _ _ hSj hf4).s2 hf3)
    have hk := HK.out _ _ hs
    have HK2 := Lib.hid hk
    clear hs hk HK hSj hcell hfree hrb hown hones hm hconv hSb hSc hSf
    go_simp
    exact HK2.out
  | 12, ho =>
    simp only [opsRw7, List.getElem?_toArray, List.getElem?_cons_succ, List.getElem?_cons_zero, Option.some.injEq] at ho
    subst ho
    rw [if_pos (show Region.wanted _ _ = true from rfl)]
    have hSj := hG.1
    have hf0 : flagsOf rw7C L 0 = true := (flagsOf_at (C := rw7C) (j := 0) rfl L).trans (hcl 6 _ rfl (hdep ⟨6, .data⟩ (by simp) rfl) ⟨1, .data⟩ (by simp [opsRw7]) rfl)
    have hf1 : flagsOf rw7C L 1 = true := (flagsOf_at (C := rw7C) (j := 1) rfl L).trans (hdep ⟨6, .data⟩ (by simp) rfl)
    have hf2 : flagsOf rw7C L 2 = true := (flagsOf_at (C := rw7C) (j := 2) rfl L).trans (hdep ⟨11, .data⟩ (by simp) rfl)
    have hf3 : flagsOf rw7C L 3 = false := (flagsOf_at (C := rw7C) (j := 3) rfl L).trans hLi
    have hf4 : flagsOf rw7C L 4 = false := (flagsOf_at (C := rw7C) (j := 4) rfl L).trans (by
      cases hl : L 15 with
      | false => rfl
      | true => exact absurd (hcl 15 _ rfl (hl) ⟨12, .data⟩ (by simp [opsRw7]) rfl) (by rw [hLi]; decide))
    have r34 : a.tmps[34]?.getD undef = resOf rw7C (fun t => a.eval (.tmp t)) 1 := by rw [← ev]; exact (resOf_at (C := rw7C) (j := 1) rfl a).symm
    have r39 : a.tmps[39]?.getD undef = resOf rw7C (fun t => a.eval (.tmp t)) 2 := by rw [← ev]; exact (resOf_at (C := rw7C) (j := 2) rfl a).symm
    have hfin := fun v w' hs => hK v w' (hG.call 3 (12, 40) rfl (by kernel_rfl) v w' hs)
    have HK := Lib.hid hfin
    generalize (resOf rw7C fun t => a.eval (.tmp t)) = R at *
    generalize flagsOf rw7C L = f at *
    clear hG hcl hdep hfr hK hfin hLi
    obtain ⟨i0, hi, hz0, hz1, hz2⟩ := info_parts Try.infoRWr
    have hr := hSb _ _ _ hSj hf4
    obtain ⟨b, e1, e2⟩ := hr.2.2.2.1 hf2 hf3
    have o1 := hr.2.2.1 hf1 hf3
    obtain ⟨v', w', hrun, ho2, hg, _, _⟩ := run_append_own_at (P := Try.prog) w wz.heap.size 43 43 70 i0 _ 2 24 Try.underlying43 hi hz0 hz1 hz2 rfl (by decide) _ m olds o1 ⟨b, 0, none⟩ 1 1 [.int .i64 (ii : Int), .string dat] rfl (fun j u hu => by
        rw [add_to, Nat.zero_add]; simp only [World.cell?, e2]; simpa using hu) (by intro u hu; simp at hu; rcases hu with rfl | rfl <;> rfl) (by unfold maxLen; omega) (by omega) hr.1.size
    refine oper_append_run (.tmp 34) (.tmp 39) 43 rfl w _ _ (by rw [ev]; exact r34) (by rw [ev]; exact r39.trans e1) v' w' hrun (HK.out v' w' (hSc _ _ _ (by rw [setF_ne _ (by decide)]; exact hf4) (hr.s3 hf1 hf3 ho2 hg)))
  | 13, ho =>
    simp only [opsRw7, List.getElem?_toArray, List.getElem?_cons_succ, List.getElem?_cons_zero, Option.some.injEq] at ho
    subst ho
    have x28 : a.tmps[28]?.getD undef = .pointer (some ⟨rb, 0, none⟩) := by rw [← ev]; exact hG.val 0 0 28 _ rfl (hdep ⟨0, .data⟩ (by simp) rfl)
    rw [if_pos (show Region.wanted _ _ = true from rfl)]
    have hfin := hK (.pointer (some ⟨rb, 0, none⟩)) w (hG.quiet 9 13 41 _ rfl (by kernel_rfl) (by kernel_rfl))
    have HK := Lib.hid hfin
    clear hG hcl hdep hfr hK hfin hLi 
    go_simp
    exact HK.out
  | 14, ho =>
    simp only [opsRw7, List.getElem?_toArray, List.getElem?_cons_succ, List.getElem?_cons_zero, Option.some.injEq] at ho
    subst ho
    have x41 : a.tmps[41]?.getD undef = .pointer (some ⟨rb, 0, none⟩) := by rw [← ev]; exact hG.val 9 13 41 _ rfl (hdep ⟨13, .data⟩ (by simp) rfl)
    rw [if_pos (show Region.wanted _ _ = true from rfl)]
    have hfin := hK (.pointer (some ⟨rb, 3, none⟩)) w (hG.quiet 10 14 42 _ rfl (by kernel_rfl) (by kernel_rfl))
    have HK := Lib.hid hfin
    clear hG hcl hdep hfr hK hfin hLi 
    go_simp
    exact HK.out
  | 15, ho =>
    simp only [opsRw7, List.getElem?_toArray, List.getElem?_cons_succ, List.getElem?_cons_zero, Option.some.injEq] at ho
    subst ho
    have x42 : a.tmps[42]?.getD undef = .pointer (some ⟨rb, 3, none⟩) := by rw [← ev]; exact hG.val 10 14 42 _ rfl (hdep ⟨14, .data⟩ (by simp) rfl)
    rw [if_pos (show Region.wanted _ _ = true from rfl)]
    have hSj := hG.1
    have hf0 : flagsOf rw7C L 0 = true := (flagsOf_at (C := rw7C) (j := 0) rfl L).trans (hdep ⟨1, .phase⟩ (by simp) rfl)
    have hf1 : flagsOf rw7C L 1 = true := (flagsOf_at (C := rw7C) (j := 1) rfl L).trans (hdep ⟨6, .phase⟩ (by simp) rfl)
    have hf2 : flagsOf rw7C L 2 = true := (flagsOf_at (C := rw7C) (j := 2) rfl L).trans (hdep ⟨11, .phase⟩ (by simp) rfl)
    have hf3 : flagsOf rw7C L 3 = true := (flagsOf_at (C := rw7C) (j := 3) rfl L).trans (hdep ⟨12, .data⟩ (by simp) rfl)
    have hf4 : flagsOf rw7C L 4 = false := (flagsOf_at (C := rw7C) (j := 4) rfl L).trans hLi
    have r40 : a.tmps[40]?.getD undef = resOf rw7C (fun t => a.eval (.tmp t)) 3 := by rw [← ev]; exact (resOf_at (C := rw7C) (j := 3) rfl a).symm
    have hfin := fun w' hs => hK undef w' (hG.store 4 (15, 1000015) rfl (by kernel_rfl) undef w' hs)
    have HK := Lib.hid hfin
    generalize (resOf rw7C fun t => a.eval (.tmp t)) = R at *
    generalize flagsOf rw7C L = f at *
    clear hG hcl hdep hfr hK hfin hLi
    have hr := hSb _ _ _ hSj hf4
    have o3 := hr.2.2.2.2 hf3
    obtain ⟨A3, c3, e3, _⟩ := own_shape o3
    rw [e3] at r40
    have hcell2 := (hr.1.cell (p := ⟨rb, 3, none⟩) hrb).trans hcell
    have hfree2 := (hr.1.frozen (p := ⟨rb, 3, none⟩) hrb).trans hfree
    have hs := hSf _ _ _ _ _ _ hf4 hf3 hr e3
    have hk := HK.out _ hs
    have HK2 := Lib.hid hk
    clear hs hk HK hSj hr o3 e3 hcell hfree hrb hown hones hm hconv hSb hSc hSf
    go_simp
    exact HK2.out
  | n + 16, ho => exact absurd (Array.getElem?_eq_some_iff.1 ho).1 (by show ¬ n + 16 < 16; omega)
end Go.Proofs.Ytelcedbcegbbjaa
