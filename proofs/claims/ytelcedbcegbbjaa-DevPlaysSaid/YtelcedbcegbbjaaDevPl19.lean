/- DevPlays: a write of another length to both. -/
import Derived.Test.YtelcedbcegbbjaaFlags
import Derived.Test.YtelcedbcegbbjaaDevPair
import Derived.Test.YtelcedbcegbbjaaDevActs
import Derived.WalkKit
import Derived.WalkSpells
import Derived.WalkLawsBesides
import Derived.Lib.Hide
import Derived.Laws.Entries
namespace Go.Proofs.Ytelcedbcegbbjaa
open Go.RowKit Dk
set_option linter.unusedVariables false
set_option linter.unusedSimpArgs false

def opsPl19 : Array Oper := #[
  { dst := some 86, op := Op.move (Operand.tmp 5), type := 23, pos := "law.go:113", after := #[], guard := none },
  { dst := some 87, op := Op.fieldAddr 41 (Operand.tmp 9) 1, type := 0, pos := "law.go:113", after := #[], guard := none },
  { dst := some 88, op := Op.load 3 (Operand.tmp 87), type := 3, pos := "law.go:113", after := #[{ on := 1, ground := Ground.data }], guard := none },
  { dst := some 89, op := Op.makeSlice 28 (Operand.tmp 88) (Operand.tmp 88), type := 28, pos := "law.go:113", after := #[{ on := 2, ground := Ground.data }, { on := 2, ground := Ground.data }], guard := none },
  { dst := some 90, op := Op.call { callee := Callee.value (Operand.func 10), args := #[Operand.tmp 86, Operand.const (Value.int IntKind.i64 0), Operand.tmp 89], argTypes := #[23, 3, 28] }, type := 24, pos := "law.go:113", after := #[{ on := 0, ground := Ground.data }, { on := 3, ground := Ground.data }], guard := none },
  { dst := some 91, op := Op.move (Operand.tmp 7), type := 38, pos := "law.go:113", after := #[], guard := none },
  { dst := some 92, op := Op.fieldAddr 41 (Operand.tmp 9) 1, type := 0, pos := "law.go:113", after := #[], guard := none },
  { dst := some 93, op := Op.load 3 (Operand.tmp 92), type := 3, pos := "law.go:113", after := #[{ on := 6, ground := Ground.data }], guard := none },
  { dst := some 94, op := Op.makeSlice 28 (Operand.tmp 93) (Operand.tmp 93), type := 28, pos := "law.go:113", after := #[{ on := 7, ground := Ground.data }, { on := 7, ground := Ground.data }], guard := none },
  { dst := some 95, op := Op.call { callee := Callee.value (Operand.func 21), args := #[Operand.tmp 91, Operand.const (Value.int IntKind.i64 0), Operand.tmp 94], argTypes := #[38, 3, 28] }, type := 24, pos := "law.go:113", after := #[{ on := 5, ground := Ground.data }, { on := 8, ground := Ground.data }, { on := 4, ground := Ground.chain }], guard := none },
  { dst := some 96, op := Op.binOp BinOp.eql 24 (Operand.tmp 90) (Operand.tmp 95) 24, type := 4, pos := "law.go:113", after := #[{ on := 4, ground := Ground.data }, { on := 9, ground := Ground.data }], guard := none },
  { dst := some 10, op := Op.assign (Operand.tmp 96), type := 4, pos := "law.go:113", after := #[{ on := 10, ground := Ground.data }, { on := 9, ground := Ground.chain }, { on := 0, ground := Ground.phase }, { on := 1, ground := Ground.phase }, { on := 2, ground := Ground.phase }, { on := 3, ground := Ground.phase }, { on := 4, ground := Ground.phase }, { on := 5, ground := Ground.phase }, { on := 6, ground := Ground.phase }, { on := 7, ground := Ground.phase }, { on := 8, ground := Ground.phase }, { on := 9, ground := Ground.phase }, { on := 10, ground := Ground.phase }], guard := none }]

def pl19Vals (xb d r k : Nat) (er : Int) : List (Nat × Nat × Value) := [(0, 86, .pointer (some ⟨d, 0, none⟩)), (1, 87, .pointer (some ⟨xb, 1, none⟩)), (2, 88, .int .i64 (k : Int)), (5, 91, .pointer (some ⟨r, 0, none⟩)), (6, 92, .pointer (some ⟨xb, 1, none⟩)), (7, 93, .int .i64 (k : Int)), (10, 96, .bool true), (11, 10, .bool true)]
def pl19C : List (Nat × Nat) := [(3, 89), (4, 90), (8, 94), (9, 95)]

set_option maxHeartbeats 4000000 in
set_option maxRecDepth 100000 in
theorem pl19 {Q : Exit → Act → World → Prop} {a0 : Act} {wp : World} (xb d r k : Nat) (er : Int) (S : (Nat → Bool) → (Nat → Value) → World → Prop)
    (hsz : 96 < a0.tmps.size) (in5 : a0.eval (.tmp 5) = .pointer (some ⟨d, 0, none⟩)) (in7 : a0.eval (.tmp 7) = .pointer (some ⟨r, 0, none⟩)) (in9 : a0.eval (.tmp 9) = .pointer (some ⟨xb, 0, none⟩))
    (hx : ∀ f R w, S f R w → w.cell? ⟨xb, 1, none⟩ = some (.int .i64 (k : Int)))
    (h0 : ∀ f R w, S f R w → f 0 = false → f 1 = false → ∃ w', (Instr.makeSlice 28 (.int .i64 (k : Int)) (.int .i64 (k : Int))).run Try.prog w = .ok (.slice (some ⟨w.heap.size, 0, none⟩) k k) w' ∧ S (setF f 0) (setR R 0 (.slice (some ⟨w.heap.size, 0, none⟩) k k)) w')
    (h1 : ∀ f R w, S f R w → f 0 = true → f 1 = false → f 3 = false → ∃ A2, R 0 = .slice A2 k k ∧ Calls Try.prog 10 #[.pointer (some ⟨d, 0, none⟩), .int .i64 0, .slice A2 k k] w fun e w' => ∃ v, e = .returned v ∧ S (setF f 1) (setR R 1 v) w')
    (h2 : ∀ f R w, S f R w → f 2 = false → f 3 = false → ∃ w', (Instr.makeSlice 28 (.int .i64 (k : Int)) (.int .i64 (k : Int))).run Try.prog w = .ok (.slice (some ⟨w.heap.size, 0, none⟩) k k) w' ∧ S (setF f 2) (setR R 2 (.slice (some ⟨w.heap.size, 0, none⟩) k k)) w')
    (h3 : ∀ f R w, S f R w → f 1 = true → f 2 = true → f 3 = false → ∃ A2, R 2 = .slice A2 k k ∧ Calls Try.prog 21 #[.pointer (some ⟨r, 0, none⟩), .int .i64 0, .slice A2 k k] w fun e w' => ∃ v, e = .returned v ∧ S (setF f 3) (setR R 3 v) w')
    (hr : ∀ f R w, S f R w → f 1 = true → f 3 = true → R 1 = .int .i64 er ∧ R 3 = .int .i64 er)
    (hS : S (fun _ => false) (resOf pl19C fun t => a0.eval (.tmp t)) wp.drew)
    (fin : ∀ a w f, Fr [86, 87, 88, 89, 90, 91, 92, 93, 94, 95, 96, 10] a0 a → a.eval (.tmp 10) = .bool true → (∀ j, j < 4 → f j = true) → S f (resOf pl19C fun t => a.eval (.tmp t)) w → Q .normal a w) :
    (Code.region 19 opsPl19 true).wp Try.prog Q a0 wp := by
  refine region_inv (by kernel_rfl) [86, 87, 88, 89, 90, 91, 92, 93, 94, 95, 96, 10] (by kernel_rfl) (by kernel_rfl) (fun t ht => by simp at ht; omega) (GF (pl19Vals xb d r k er) pl19C S) (.start hS) ?_
    (fun L a w hf hall hG => fin a w (flagsOf pl19C L) hf (hG.val 7 11 10 _ rfl (hall 11 (by decide))) (fun j hj => by
      match j, hj with
      | 0, _ => exact (flagsOf_at (C := pl19C) (j := 0) rfl L).trans (hall 3 (by decide))
      | 1, _ => exact (flagsOf_at (C := pl19C) (j := 1) rfl L).trans (hall 4 (by decide))
      | 2, _ => exact (flagsOf_at (C := pl19C) (j := 2) rfl L).trans (hall 8 (by decide))
      | 3, _ => exact (flagsOf_at (C := pl19C) (j := 3) rfl L).trans (hall 9 (by decide))
      | n + 4, h => exact absurd h (by omega)) hG.1)
  clear hS fin
  intro ix oo ho L a w hfr hG hLi hdep hcl K hK
  have e5 : a.tmps[5]?.getD undef = .pointer (some ⟨d, 0, none⟩) := by rw [← ev]; exact (hfr.same 5 (by decide)).trans in5
  have e7 : a.tmps[7]?.getD undef = .pointer (some ⟨r, 0, none⟩) := by rw [← ev]; exact (hfr.same 7 (by decide)).trans in7
  have e9 : a.tmps[9]?.getD undef = .pointer (some ⟨xb, 0, none⟩) := by rw [← ev]; exact (hfr.same 9 (by decide)).trans in9
  clear in5 in7 in9
  match ix, ho with
  | 0, ho =>
    simp only [opsPl19, List.getElem?_toArray, List.getElem?_cons_zero, Option.some.injEq] at ho
    subst ho
    rw [if_pos (show Region.wanted _ _ = true from rfl)]
    have hfin := hK (.pointer (some ⟨d, 0, none⟩)) w (hG.quiet 0 0 86 _ rfl (by kernel_rfl) (by kernel_rfl))
    have HK := Lib.hid hfin
    clear hG hcl hdep hfr hK hfin hLi 
    go_simp
    exact HK.out
  | 1, ho =>
    simp only [opsPl19, List.getElem?_toArray, List.getElem?_cons_succ, List.getElem?_cons_zero, Option.some.injEq] at ho
    subst ho
    rw [if_pos (show Region.wanted _ _ = true from rfl)]
    have hfin := hK (.pointer (some ⟨xb, 1, none⟩)) w (hG.quiet 1 1 87 _ rfl (by kernel_rfl) (by kernel_rfl))
    have HK := Lib.hid hfin
    clear hG hcl hdep hfr hK hfin hLi 
    go_simp
    exact HK.out
  | 2, ho =>
    simp only [opsPl19, List.getElem?_toArray, List.getElem?_cons_succ, List.getElem?_cons_zero, Option.some.injEq] at ho
    subst ho
    have x87 : a.tmps[87]?.getD undef = .pointer (some ⟨xb, 1, none⟩) := by rw [← ev]; exact hG.val 1 1 87 _ rfl (hdep ⟨1, .data⟩ (by simp) rfl)
    rw [if_pos (show Region.wanted _ _ = true from rfl)]
    have hSp := hG.1
    have hf0 : flagsOf pl19C L 0 = false := (flagsOf_at (C := pl19C) (j := 0) rfl L).trans (by
      cases hl : L 3 with
      | false => rfl
      | true => exact absurd (hcl 3 _ rfl (hl) ⟨2, .data⟩ (by simp [opsPl19]) rfl) (by rw [hLi]; decide))
    have hf1 : flagsOf pl19C L 1 = false := (flagsOf_at (C := pl19C) (j := 1) rfl L).trans (by
      cases hl : L 4 with
      | false => rfl
      | true => exact absurd (hcl 3 _ rfl (hcl 4 _ rfl (hl) ⟨3, .data⟩ (by simp [opsPl19]) rfl) ⟨2, .data⟩ (by simp [opsPl19]) rfl) (by rw [hLi]; decide))
    have hf3 : flagsOf pl19C L 3 = false := (flagsOf_at (C := pl19C) (j := 3) rfl L).trans (by
      cases hl : L 9 with
      | false => rfl
      | true => exact absurd (hcl 3 _ rfl (hcl 4 _ rfl (hcl 9 _ rfl (hl) ⟨4, .chain⟩ (by simp [opsPl19]) rfl) ⟨3, .data⟩ (by simp [opsPl19]) rfl) ⟨2, .data⟩ (by simp [opsPl19]) rfl) (by rw [hLi]; decide))
    have hfin := hK (.int .i64 (k : Int)) w (hG.quiet 2 2 88 _ rfl (by kernel_rfl) (by kernel_rfl))
    have HK := Lib.hid hfin
    generalize (resOf pl19C fun t => a.eval (.tmp t)) = R at *
    generalize flagsOf pl19C L = f at *
    have q1 := hx _ _ _ hSp
    clear h0 h1 h2 h3 hx hr
    clear hSp
    clear hG hcl hdep hfr hK hfin hLi 
    go_simp
    exact HK.out
  | 3, ho =>
    simp only [opsPl19, List.getElem?_toArray, List.getElem?_cons_succ, List.getElem?_cons_zero, Option.some.injEq] at ho
    subst ho
    have x88 : a.tmps[88]?.getD undef = .int .i64 (k : Int) := by rw [← ev]; exact hG.val 2 2 88 _ rfl (hdep ⟨2, .data⟩ (by simp) rfl)
    rw [if_pos (show Region.wanted _ _ = true from rfl)]
    have hSj := hG.1
    have hf0 : flagsOf pl19C L 0 = false := (flagsOf_at (C := pl19C) (j := 0) rfl L).trans hLi
    have hf1 : flagsOf pl19C L 1 = false := (flagsOf_at (C := pl19C) (j := 1) rfl L).trans (by
      cases hl : L 4 with
      | false => rfl
      | true => exact absurd (hcl 4 _ rfl (hl) ⟨3, .data⟩ (by simp [opsPl19]) rfl) (by rw [hLi]; decide))
    have hf3 : flagsOf pl19C L 3 = false := (flagsOf_at (C := pl19C) (j := 3) rfl L).trans (by
      cases hl : L 9 with
      | false => rfl
      | true => exact absurd (hcl 4 _ rfl (hcl 9 _ rfl (hl) ⟨4, .chain⟩ (by simp [opsPl19]) rfl) ⟨3, .data⟩ (by simp [opsPl19]) rfl) (by rw [hLi]; decide))
    have hfin := fun v w' hs => hK v w' (hG.call 0 (3, 89) rfl (by kernel_rfl) v w' hs)
    have HK := Lib.hid hfin
    generalize (resOf pl19C fun t => a.eval (.tmp t)) = R at *
    generalize flagsOf pl19C L = f at *
    clear hG hcl hdep hfr hK hfin hLi
    obtain ⟨w', hrun, hs⟩ := h0 _ _ _ hSj hf0 hf1
    have hk := HK.out _ _ hs
    have HK2 := Lib.hid hk
    clear hs hk HK hSj h0 h1 h2 h3 hx hr
    go_simp
    exact HK2.out
  | 4, ho =>
    simp only [opsPl19, List.getElem?_toArray, List.getElem?_cons_succ, List.getElem?_cons_zero, Option.some.injEq] at ho
    subst ho
    have x86 : a.tmps[86]?.getD undef = .pointer (some ⟨d, 0, none⟩) := by rw [← ev]; exact hG.val 0 0 86 _ rfl (hdep ⟨0, .data⟩ (by simp) rfl)
    rw [if_pos (show Region.wanted _ _ = true from rfl)]
    have hSj := hG.1
    have hf0 : flagsOf pl19C L 0 = true := (flagsOf_at (C := pl19C) (j := 0) rfl L).trans (hdep ⟨3, .data⟩ (by simp) rfl)
    have hf1 : flagsOf pl19C L 1 = false := (flagsOf_at (C := pl19C) (j := 1) rfl L).trans hLi
    have hf3 : flagsOf pl19C L 3 = false := (flagsOf_at (C := pl19C) (j := 3) rfl L).trans (by
      cases hl : L 9 with
      | false => rfl
      | true => exact absurd (hcl 9 _ rfl (hl) ⟨4, .chain⟩ (by simp [opsPl19]) rfl) (by rw [hLi]; decide))
    have r89 : a.tmps[89]?.getD undef = resOf pl19C (fun t => a.eval (.tmp t)) 0 := by rw [← ev]; exact (resOf_at (C := pl19C) (j := 0) rfl a).symm
    have hfin := fun v w' hs => hK v w' (hG.call 1 (4, 90) rfl (by kernel_rfl) v w' hs)
    have HK := Lib.hid hfin
    generalize (resOf pl19C fun t => a.eval (.tmp t)) = R at *
    generalize flagsOf pl19C L = f at *
    clear hG hcl hdep hfr hK hfin hLi
    obtain ⟨A2, q1, hcc⟩ := h1 _ _ _ hSj hf0 hf1 hf3
    rw [q1] at r89
    have hc := Lib.hid hcc
    clear hSj q1 hcc h0 h1 h2 h3 hx hr
    go_simp
    go_at_call 10
    refine hc.out.mono ?_
    rintro e w' ⟨v, rfl, hs⟩
    exact HK.out v w' hs
  | 5, ho =>
    simp only [opsPl19, List.getElem?_toArray, List.getElem?_cons_succ, List.getElem?_cons_zero, Option.some.injEq] at ho
    subst ho
    rw [if_pos (show Region.wanted _ _ = true from rfl)]
    have hfin := hK (.pointer (some ⟨r, 0, none⟩)) w (hG.quiet 3 5 91 _ rfl (by kernel_rfl) (by kernel_rfl))
    have HK := Lib.hid hfin
    clear hG hcl hdep hfr hK hfin hLi 
    go_simp
    exact HK.out
  | 6, ho =>
    simp only [opsPl19, List.getElem?_toArray, List.getElem?_cons_succ, List.getElem?_cons_zero, Option.some.injEq] at ho
    subst ho
    rw [if_pos (show Region.wanted _ _ = true from rfl)]
    have hfin := hK (.pointer (some ⟨xb, 1, none⟩)) w (hG.quiet 4 6 92 _ rfl (by kernel_rfl) (by kernel_rfl))
    have HK := Lib.hid hfin
    clear hG hcl hdep hfr hK hfin hLi 
    go_simp
    exact HK.out
  | 7, ho =>
    simp only [opsPl19, List.getElem?_toArray, List.getElem?_cons_succ, List.getElem?_cons_zero, Option.some.injEq] at ho
    subst ho
    have x92 : a.tmps[92]?.getD undef = .pointer (some ⟨xb, 1, none⟩) := by rw [← ev]; exact hG.val 4 6 92 _ rfl (hdep ⟨6, .data⟩ (by simp) rfl)
    rw [if_pos (show Region.wanted _ _ = true from rfl)]
    have hSp := hG.1
    have hf2 : flagsOf pl19C L 2 = false := (flagsOf_at (C := pl19C) (j := 2) rfl L).trans (by
      cases hl : L 8 with
      | false => rfl
      | true => exact absurd (hcl 8 _ rfl (hl) ⟨7, .data⟩ (by simp [opsPl19]) rfl) (by rw [hLi]; decide))
    have hf3 : flagsOf pl19C L 3 = false := (flagsOf_at (C := pl19C) (j := 3) rfl L).trans (by
      cases hl : L 9 with
      | false => rfl
      | true => exact absurd (hcl 8 _ rfl (hcl 9 _ rfl (hl) ⟨8, .data⟩ (by simp [opsPl19]) rfl) ⟨7, .data⟩ (by simp [opsPl19]) rfl) (by rw [hLi]; decide))
    have hfin := hK (.int .i64 (k : Int)) w (hG.quiet 5 7 93 _ rfl (by kernel_rfl) (by kernel_rfl))
    have HK := Lib.hid hfin
    generalize (resOf pl19C fun t => a.eval (.tmp t)) = R at *
    generalize flagsOf pl19C L = f at *
    have q1 := hx _ _ _ hSp
    clear h0 h1 h2 h3 hx hr
    clear hSp
    clear hG hcl hdep hfr hK hfin hLi 
    go_simp
    exact HK.out
  | 8, ho =>
    simp only [opsPl19, List.getElem?_toArray, List.getElem?_cons_succ, List.getElem?_cons_zero, Option.some.injEq] at ho
    subst ho
    have x93 : a.tmps[93]?.getD undef = .int .i64 (k : Int) := by rw [← ev]; exact hG.val 5 7 93 _ rfl (hdep ⟨7, .data⟩ (by simp) rfl)
    rw [if_pos (show Region.wanted _ _ = true from rfl)]
    have hSj := hG.1
    have hf2 : flagsOf pl19C L 2 = false := (flagsOf_at (C := pl19C) (j := 2) rfl L).trans hLi
    have hf3 : flagsOf pl19C L 3 = false := (flagsOf_at (C := pl19C) (j := 3) rfl L).trans (by
      cases hl : L 9 with
      | false => rfl
      | true => exact absurd (hcl 9 _ rfl (hl) ⟨8, .data⟩ (by simp [opsPl19]) rfl) (by rw [hLi]; decide))
    have hfin := fun v w' hs => hK v w' (hG.call 2 (8, 94) rfl (by kernel_rfl) v w' hs)
    have HK := Lib.hid hfin
    generalize (resOf pl19C fun t => a.eval (.tmp t)) = R at *
    generalize flagsOf pl19C L = f at *
    clear hG hcl hdep hfr hK hfin hLi
    obtain ⟨w', hrun, hs⟩ := h2 _ _ _ hSj hf2 hf3
    have hk := HK.out _ _ hs
    have HK2 := Lib.hid hk
    clear hs hk HK hSj h0 h1 h2 h3 hx hr
    go_simp
    exact HK2.out
  | 9, ho =>
    simp only [opsPl19, List.getElem?_toArray, List.getElem?_cons_succ, List.getElem?_cons_zero, Option.some.injEq] at ho
    subst ho
    have x91 : a.tmps[91]?.getD undef = .pointer (some ⟨r, 0, none⟩) := by rw [← ev]; exact hG.val 3 5 91 _ rfl (hdep ⟨5, .data⟩ (by simp) rfl)
    rw [if_pos (show Region.wanted _ _ = true from rfl)]
    have hSj := hG.1
    have hf0 : flagsOf pl19C L 0 = true := (flagsOf_at (C := pl19C) (j := 0) rfl L).trans (hcl 4 _ rfl (hdep ⟨4, .chain⟩ (by simp) rfl) ⟨3, .data⟩ (by simp [opsPl19]) rfl)
    have hf1 : flagsOf pl19C L 1 = true := (flagsOf_at (C := pl19C) (j := 1) rfl L).trans (hdep ⟨4, .chain⟩ (by simp) rfl)
    have hf2 : flagsOf pl19C L 2 = true := (flagsOf_at (C := pl19C) (j := 2) rfl L).trans (hdep ⟨8, .data⟩ (by simp) rfl)
    have hf3 : flagsOf pl19C L 3 = false := (flagsOf_at (C := pl19C) (j := 3) rfl L).trans hLi
    have r94 : a.tmps[94]?.getD undef = resOf pl19C (fun t => a.eval (.tmp t)) 2 := by rw [← ev]; exact (resOf_at (C := pl19C) (j := 2) rfl a).symm
    have hfin := fun v w' hs => hK v w' (hG.call 3 (9, 95) rfl (by kernel_rfl) v w' hs)
    have HK := Lib.hid hfin
    generalize (resOf pl19C fun t => a.eval (.tmp t)) = R at *
    generalize flagsOf pl19C L = f at *
    clear hG hcl hdep hfr hK hfin hLi
    obtain ⟨A2, q1, hcc⟩ := h3 _ _ _ hSj hf1 hf2 hf3
    rw [q1] at r94
    have hc := Lib.hid hcc
    clear hSj q1 hcc h0 h1 h2 h3 hx hr
    go_simp
    go_at_call 21
    refine hc.out.mono ?_
    rintro e w' ⟨v, rfl, hs⟩
    exact HK.out v w' hs
  | 10, ho =>
    simp only [opsPl19, List.getElem?_toArray, List.getElem?_cons_succ, List.getElem?_cons_zero, Option.some.injEq] at ho
    subst ho
    rw [if_pos (show Region.wanted _ _ = true from rfl)]
    have hSp := hG.1
    have hf0 : flagsOf pl19C L 0 = true := (flagsOf_at (C := pl19C) (j := 0) rfl L).trans (hcl 4 _ rfl (hdep ⟨4, .data⟩ (by simp) rfl) ⟨3, .data⟩ (by simp [opsPl19]) rfl)
    have hf1 : flagsOf pl19C L 1 = true := (flagsOf_at (C := pl19C) (j := 1) rfl L).trans (hdep ⟨4, .data⟩ (by simp) rfl)
    have hf2 : flagsOf pl19C L 2 = true := (flagsOf_at (C := pl19C) (j := 2) rfl L).trans (hcl 9 _ rfl (hdep ⟨9, .data⟩ (by simp) rfl) ⟨8, .data⟩ (by simp [opsPl19]) rfl)
    have hf3 : flagsOf pl19C L 3 = true := (flagsOf_at (C := pl19C) (j := 3) rfl L).trans (hdep ⟨9, .data⟩ (by simp) rfl)
    have r90 : a.tmps[90]?.getD undef = resOf pl19C (fun t => a.eval (.tmp t)) 1 := by rw [← ev]; exact (resOf_at (C := pl19C) (j := 1) rfl a).symm
    have r95 : a.tmps[95]?.getD undef = resOf pl19C (fun t => a.eval (.tmp t)) 3 := by rw [← ev]; exact (resOf_at (C := pl19C) (j := 3) rfl a).symm
    have hfin := hK (.bool true) w (hG.quiet 6 10 96 _ rfl (by kernel_rfl) (by kernel_rfl))
    have HK := Lib.hid hfin
    generalize (resOf pl19C fun t => a.eval (.tmp t)) = R at *
    generalize flagsOf pl19C L = f at *
    obtain ⟨q1, q2⟩ := hr _ _ _ hSp hf1 hf3
    rw [q1] at r90
    rw [q2] at r95
    clear h0 h1 h2 h3 hx hr q1 q2
    clear hSp
    clear hG hcl hdep hfr hK hfin hLi 
    go_simp
    exact HK.out
  | 11, ho =>
    simp only [opsPl19, List.getElem?_toArray, List.getElem?_cons_succ, List.getElem?_cons_zero, Option.some.injEq] at ho
    subst ho
    have x96 : a.tmps[96]?.getD undef = .bool true := by rw [← ev]; exact hG.val 6 10 96 _ rfl (hdep ⟨10, .data⟩ (by simp) rfl)
    rw [if_pos (show Region.wanted _ _ = true from rfl)]
    have hfin := hK (.bool true) w (hG.quiet 7 11 10 _ rfl (by kernel_rfl) (by kernel_rfl))
    have HK := Lib.hid hfin
    clear hG hcl hdep hfr hK hfin hLi 
    go_simp
    exact HK.out
  | n + 12, ho => exact absurd (Array.getElem?_eq_some_iff.1 ho).1 (by show ¬ n + 12 < 12; omega)
end Go.Proofs.Ytelcedbcegbbjaa
