/- SeqBack: what was shown is read again, the same set. -/
import Derived.Test.YtmcglecdidnhlaaDoorFlags
import Derived.Test.YtmcglecdidnhlaaDoorAppend
import Derived.WalkKit
import Derived.WalkSpells
import Derived.WalkLawsBesides
import Derived.Lib.Hide
namespace Go.Proofs.YtmcglecdidnhlaaDoor
open Go.RowKit
set_option linter.unusedVariables false
set_option linter.unusedSimpArgs false

def opsSqbk8 : Array Oper := #[
  { dst := some 34, op := Op.move (Operand.tmp 9), type := 26, pos := "law.go:95", after := #[], guard := none },
  { dst := some 35, op := Op.binOp BinOp.neq 26 (Operand.tmp 34) (Operand.const (Value.int IntKind.i64 0)) 26, type := 4, pos := "law.go:95", after := #[{ on := 0, ground := Ground.data }], guard := none },
  { dst := some 36, op := Op.move (Operand.tmp 35), type := 4, pos := "law.go:95", after := #[{ on := 1, ground := Ground.data }], guard := none },
  { dst := some 37, op := Op.load 25 (Operand.tmp 8), type := 25, pos := "law.go:95", after := #[{ on := 2, ground := Ground.guard }], guard := some (2, false) },
  { dst := some 38, op := Op.load 25 (Operand.tmp 3), type := 25, pos := "law.go:95", after := #[{ on := 2, ground := Ground.guard }], guard := some (2, false) },
  { dst := some 39, op := Op.call { callee := Callee.value (Operand.func 18), args := #[Operand.tmp 38], argTypes := #[25] }, type := 37, pos := "law.go:95", after := #[{ on := 4, ground := Ground.data }, { on := 2, ground := Ground.chain }, { on := 2, ground := Ground.guard }], guard := some (2, false) },
  { dst := some 40, op := Op.call { callee := Callee.value (Operand.func 16), args := #[Operand.tmp 37, Operand.tmp 39], argTypes := #[25, 37] }, type := 4, pos := "law.go:95", after := #[{ on := 3, ground := Ground.data }, { on := 5, ground := Ground.data }, { on := 5, ground := Ground.chain }, { on := 2, ground := Ground.guard }], guard := some (2, false) },
  { dst := some 41, op := Op.unOp UnOp.not 4 (Operand.tmp 40), type := 4, pos := "law.go:95", after := #[{ on := 6, ground := Ground.data }, { on := 2, ground := Ground.guard }], guard := some (2, false) },
  { dst := some 42, op := Op.pick (Operand.tmp 36) (Operand.const (Value.bool true)) (Operand.tmp 41), type := 4, pos := "law.go:95", after := #[{ on := 2, ground := Ground.data }, { on := 7, ground := Ground.data }], guard := none }]

def sqbk8Vals (b3 b8 n c3 c8 : Nat) (A3 A8 : Option Addr) : List (Nat × Nat × Value) := [(0, 34, .int .i64 0), (1, 35, .bool false), (2, 36, .bool false), (3, 37, .agg #[.slice A8 n c8]), (4, 38, .agg #[.slice A3 n c3]), (7, 41, .bool false), (8, 42, .bool false)]
def sqbk8C : List (Nat × Nat) := [(5, 39), (6, 40)]

set_option maxHeartbeats 3200000 in
set_option maxRecDepth 100000 in
theorem sqbk8 {Q : Exit → Act → World → Prop} {a0 : Act} {wp : World} (b3 b8 n c3 c8 : Nat) (A3 A8 : Option Addr) (S : (Nat → Bool) → (Nat → Value) → World → Prop)
    (hsz : 42 < a0.tmps.size) (in3 : a0.eval (.tmp 3) = .pointer (some ⟨b3, 0, none⟩)) (in8 : a0.eval (.tmp 8) = .pointer (some ⟨b8, 0, none⟩)) (in9 : a0.eval (.tmp 9) = .int .i64 0)
    (hx : ∀ f R w, S f R w → w.cell? ⟨b3, 0, none⟩ = some (.slice A3 n c3) ∧ w.cell? ⟨b8, 0, none⟩ = some (.slice A8 n c8))
    (hr : ∀ f R w, S f R w → f 1 = true → R 1 = .bool true)
    (hc0 : ∀ f R w, S f R w → f 0 = false → Calls Tryd.prog 18 #[.agg #[.slice A3 n c3]] w fun e w' => ∃ v, e = .returned v ∧ S (setF f 0) (setR R 0 v) w')
    (hc1 : ∀ f R w, S f R w → f 0 = true → f 1 = false → Calls Tryd.prog 16 #[.agg #[.slice A8 n c8], R 0] w fun e w' => e = .returned (.bool true) ∧ S (setF f 1) (setR R 1 (.bool true)) w')
    (hS : S (fun _ => false) (resOf sqbk8C fun t => a0.eval (.tmp t)) wp.drew)
    (fin : ∀ a w f, Fr [34, 35, 36, 37, 38, 39, 40, 41, 42] a0 a → a.eval (.tmp 42) = .bool false → (∀ j, j < 2 → f j = true) → S f (resOf sqbk8C fun t => a.eval (.tmp t)) w → Q .normal a w) :
    (Code.region 8 opsSqbk8 true).wp Tryd.prog Q a0 wp := by
  refine region_inv (by kernel_rfl) [34, 35, 36, 37, 38, 39, 40, 41, 42] (by kernel_rfl) (by kernel_rfl) (fun t ht => by simp at ht; omega) (GF (sqbk8Vals b3 b8 n c3 c8 A3 A8) sqbk8C S) (.start hS) ?_
    (fun L a w hf hall hG => fin a w (flagsOf sqbk8C L) hf (hG.val 6 8 42 _ rfl (hall 8 (by decide))) (fun j hj => by
      match j, hj with
      | 0, _ => exact (flagsOf_at (C := sqbk8C) (j := 0) rfl L).trans (hall 5 (by decide))
      | 1, _ => exact (flagsOf_at (C := sqbk8C) (j := 1) rfl L).trans (hall 6 (by decide))
      | n + 2, h => exact absurd h (by omega)) hG.1)
  clear hS fin
  intro ix oo ho L a w hfr hG hLi hdep hcl K hK
  have e3 : a.tmps[3]?.getD undef = .pointer (some ⟨b3, 0, none⟩) := by rw [← ev]; exact (hfr.same 3 (by decide)).trans in3
  have e8 : a.tmps[8]?.getD undef = .pointer (some ⟨b8, 0, none⟩) := by rw [← ev]; exact (hfr.same 8 (by decide)).trans in8
  have e9 : a.tmps[9]?.getD undef = .int .i64 0 := by rw [← ev]; exact (hfr.same 9 (by decide)).trans in9
  clear in3 in8 in9
  match ix, ho with
  | 0, ho =>
    simp only [opsSqbk8, List.getElem?_toArray, List.getElem?_cons_zero, Option.some.injEq] at ho
    subst ho
    rw [if_pos (show Region.wanted _ _ = true from rfl)]
    have hfin := hK (.int .i64 0) w (hG.quiet 0 0 34 _ rfl (by kernel_rfl) (by kernel_rfl))
    have HK := Lib.hid hfin
    clear hG hcl hdep hfr hK hfin hLi 
    go_simp
    exact HK.out
  | 1, ho =>
    simp only [opsSqbk8, List.getElem?_toArray, List.getElem?_cons_succ, List.getElem?_cons_zero, Option.some.injEq] at ho
    subst ho
    have x34 : a.tmps[34]?.getD undef = .int .i64 0 := by rw [← ev]; exact hG.val 0 0 34 _ rfl (hdep ⟨0, .data⟩ (by simp) rfl)
    rw [if_pos (show Region.wanted _ _ = true from rfl)]
    have hfin := hK (.bool false) w (hG.quiet 1 1 35 _ rfl (by kernel_rfl) (by kernel_rfl))
    have HK := Lib.hid hfin
    clear hG hcl hdep hfr hK hfin hLi 
    go_simp
    exact HK.out
  | 2, ho =>
    simp only [opsSqbk8, List.getElem?_toArray, List.getElem?_cons_succ, List.getElem?_cons_zero, Option.some.injEq] at ho
    subst ho
    have x35 : a.tmps[35]?.getD undef = .bool false := by rw [← ev]; exact hG.val 1 1 35 _ rfl (hdep ⟨1, .data⟩ (by simp) rfl)
    rw [if_pos (show Region.wanted _ _ = true from rfl)]
    have hfin := hK (.bool false) w (hG.quiet 2 2 36 _ rfl (by kernel_rfl) (by kernel_rfl))
    have HK := Lib.hid hfin
    clear hG hcl hdep hfr hK hfin hLi 
    go_simp
    exact HK.out
  | 3, ho =>
    simp only [opsSqbk8, List.getElem?_toArray, List.getElem?_cons_succ, List.getElem?_cons_zero, Option.some.injEq] at ho
    subst ho
    have xg : a.tmps[36]?.getD undef = .bool false := by rw [← ev]; exact hG.val 2 2 36 _ rfl (hdep ⟨2, .guard⟩ (by simp) rfl)
    have hw := wanted_of (ops := opsSqbk8) (a := a) (o := { dst := some 37, op := Op.load 25 (Operand.tmp 8), type := 25, pos := "law.go:95", after := #[{ on := 2, ground := Ground.guard }], guard := some (2, false) }) (g := 2) (s := 36) (b := false) (b' := false) rfl rfl xg
    replace hw := hw.trans (show (false == false) = true from rfl)
    rw [if_pos hw]
    clear hw xg
    have hSp := hG.1
    have hf1 : flagsOf sqbk8C L 1 = false := (flagsOf_at (C := sqbk8C) (j := 1) rfl L).trans (by
      cases hl : L 6 with
      | false => rfl
      | true => exact absurd (hcl 6 _ rfl (hl) ⟨3, .data⟩ (by simp [opsSqbk8]) rfl) (by rw [hLi]; decide))
    have hfin := hK (.agg #[.slice A8 n c8]) w (hG.quiet 3 3 37 _ rfl (by kernel_rfl) (by kernel_rfl))
    have HK := Lib.hid hfin
    generalize (resOf sqbk8C fun t => a.eval (.tmp t)) = R at *
    generalize flagsOf sqbk8C L = f at *
    obtain ⟨q2, q1⟩ := hx _ _ _ hSp
    clear hx hr hc0 hc1 q2
    clear hSp
    clear hG hcl hdep hfr hK hfin hLi 
    go_simp
    exact HK.out
  | 4, ho =>
    simp only [opsSqbk8, List.getElem?_toArray, List.getElem?_cons_succ, List.getElem?_cons_zero, Option.some.injEq] at ho
    subst ho
    have xg : a.tmps[36]?.getD undef = .bool false := by rw [← ev]; exact hG.val 2 2 36 _ rfl (hdep ⟨2, .guard⟩ (by simp) rfl)
    have hw := wanted_of (ops := opsSqbk8) (a := a) (o := { dst := some 38, op := Op.load 25 (Operand.tmp 3), type := 25, pos := "law.go:95", after := #[{ on := 2, ground := Ground.guard }], guard := some (2, false) }) (g := 2) (s := 36) (b := false) (b' := false) rfl rfl xg
    replace hw := hw.trans (show (false == false) = true from rfl)
    rw [if_pos hw]
    clear hw xg
    have hSp := hG.1
    have hf0 : flagsOf sqbk8C L 0 = false := (flagsOf_at (C := sqbk8C) (j := 0) rfl L).trans (by
      cases hl : L 5 with
      | false => rfl
      | true => exact absurd (hcl 5 _ rfl (hl) ⟨4, .data⟩ (by simp [opsSqbk8]) rfl) (by rw [hLi]; decide))
    have hf1 : flagsOf sqbk8C L 1 = false := (flagsOf_at (C := sqbk8C) (j := 1) rfl L).trans (by
      cases hl : L 6 with
      | false => rfl
      | true => exact absurd (hcl 5 _ rfl (hcl 6 _ rfl (hl) ⟨5, .data⟩ (by simp [opsSqbk8]) rfl) ⟨4, .data⟩ (by simp [opsSqbk8]) rfl) (by rw [hLi]; decide))
    have hfin := hK (.agg #[.slice A3 n c3]) w (hG.quiet 4 4 38 _ rfl (by kernel_rfl) (by kernel_rfl))
    have HK := Lib.hid hfin
    generalize (resOf sqbk8C fun t => a.eval (.tmp t)) = R at *
    generalize flagsOf sqbk8C L = f at *
    obtain ⟨q1, q2⟩ := hx _ _ _ hSp
    clear hx hr hc0 hc1 q2
    clear hSp
    clear hG hcl hdep hfr hK hfin hLi 
    go_simp
    exact HK.out
  | 5, ho =>
    simp only [opsSqbk8, List.getElem?_toArray, List.getElem?_cons_succ, List.getElem?_cons_zero, Option.some.injEq] at ho
    subst ho
    have x38 : a.tmps[38]?.getD undef = .agg #[.slice A3 n c3] := by rw [← ev]; exact hG.val 4 4 38 _ rfl (hdep ⟨4, .data⟩ (by simp) rfl)
    have xg : a.tmps[36]?.getD undef = .bool false := by rw [← ev]; exact hG.val 2 2 36 _ rfl (hdep ⟨2, .chain⟩ (by simp) rfl)
    have hw := wanted_of (ops := opsSqbk8) (a := a) (o := { dst := some 39, op := Op.call { callee := Callee.value (Operand.func 18), args := #[Operand.tmp 38], argTypes := #[25] }, type := 37, pos := "law.go:95", after := #[{ on := 4, ground := Ground.data }, { on := 2, ground := Ground.chain }, { on := 2, ground := Ground.guard }], guard := some (2, false) }) (g := 2) (s := 36) (b := false) (b' := false) rfl rfl xg
    replace hw := hw.trans (show (false == false) = true from rfl)
    rw [if_pos hw]
    clear hw xg
    have hSj := hG.1
    have hf0 : flagsOf sqbk8C L 0 = false := (flagsOf_at (C := sqbk8C) (j := 0) rfl L).trans hLi
    have hf1 : flagsOf sqbk8C L 1 = false := (flagsOf_at (C := sqbk8C) (j := 1) rfl L).trans (by
      cases hl : L 6 with
      | false => rfl
      | true => exact absurd (hcl 6 _ rfl (hl) ⟨5, .data⟩ (by simp [opsSqbk8]) rfl) (by rw [hLi]; decide))
    have hfin := fun v w' hs => hK v w' (hG.call 0 (5, 39) rfl (by kernel_rfl) v w' hs)
    have HK := Lib.hid hfin
    generalize (resOf sqbk8C fun t => a.eval (.tmp t)) = R at *
    generalize flagsOf sqbk8C L = f at *
    clear hG hcl hdep hfr hK hfin hLi
    have hc := Lib.hid (hc0 _ _ _ hSj hf0)
    clear hSj hx hr hc0 hc1
    go_simp
    go_at_call 18
    refine hc.out.mono ?_
    rintro e w' ⟨v, rfl, hs⟩
    exact HK.out v w' hs
  | 6, ho =>
    simp only [opsSqbk8, List.getElem?_toArray, List.getElem?_cons_succ, List.getElem?_cons_zero, Option.some.injEq] at ho
    subst ho
    have x37 : a.tmps[37]?.getD undef = .agg #[.slice A8 n c8] := by rw [← ev]; exact hG.val 3 3 37 _ rfl (hdep ⟨3, .data⟩ (by simp) rfl)
    have xg : a.tmps[36]?.getD undef = .bool false := by rw [← ev]; exact hG.val 2 2 36 _ rfl (hdep ⟨2, .guard⟩ (by simp) rfl)
    have hw := wanted_of (ops := opsSqbk8) (a := a) (o := { dst := some 40, op := Op.call { callee := Callee.value (Operand.func 16), args := #[Operand.tmp 37, Operand.tmp 39], argTypes := #[25, 37] }, type := 4, pos := "law.go:95", after := #[{ on := 3, ground := Ground.data }, { on := 5, ground := Ground.data }, { on := 5, ground := Ground.chain }, { on := 2, ground := Ground.guard }], guard := some (2, false) }) (g := 2) (s := 36) (b := false) (b' := false) rfl rfl xg
    replace hw := hw.trans (show (false == false) = true from rfl)
    rw [if_pos hw]
    clear hw xg
    have hSj := hG.1
    have hf0 : flagsOf sqbk8C L 0 = true := (flagsOf_at (C := sqbk8C) (j := 0) rfl L).trans (hdep ⟨5, .data⟩ (by simp) rfl)
    have hf1 : flagsOf sqbk8C L 1 = false := (flagsOf_at (C := sqbk8C) (j := 1) rfl L).trans hLi
    have r39 : a.tmps[39]?.getD undef = resOf sqbk8C (fun t => a.eval (.tmp t)) 0 := by rw [← ev]; exact (resOf_at (C := sqbk8C) (j := 0) rfl a).symm
    have hfin := fun v w' hs => hK v w' (hG.call 1 (6, 40) rfl (by kernel_rfl) v w' hs)
    have HK := Lib.hid hfin
    generalize (resOf sqbk8C fun t => a.eval (.tmp t)) = R at *
    generalize flagsOf sqbk8C L = f at *
    clear hG hcl hdep hfr hK hfin hLi
    have hc := Lib.hid (hc1 _ _ _ hSj hf0 hf1)
    clear hSj hx hr hc0 hc1
    go_simp
    go_at_call 16
    refine hc.out.mono ?_
    rintro e w' ⟨rfl, hs⟩
    exact HK.out _ w' hs
  | 7, ho =>
    simp only [opsSqbk8, List.getElem?_toArray, List.getElem?_cons_succ, List.getElem?_cons_zero, Option.some.injEq] at ho
    subst ho
    have xg : a.tmps[36]?.getD undef = .bool false := by rw [← ev]; exact hG.val 2 2 36 _ rfl (hdep ⟨2, .guard⟩ (by simp) rfl)
    have hw := wanted_of (ops := opsSqbk8) (a := a) (o := { dst := some 41, op := Op.unOp UnOp.not 4 (Operand.tmp 40), type := 4, pos := "law.go:95", after := #[{ on := 6, ground := Ground.data }, { on := 2, ground := Ground.guard }], guard := some (2, false) }) (g := 2) (s := 36) (b := false) (b' := false) rfl rfl xg
    replace hw := hw.trans (show (false == false) = true from rfl)
    rw [if_pos hw]
    clear hw xg
    have hSp := hG.1
    have hf0 : flagsOf sqbk8C L 0 = true := (flagsOf_at (C := sqbk8C) (j := 0) rfl L).trans (hcl 6 _ rfl (hdep ⟨6, .data⟩ (by simp) rfl) ⟨5, .data⟩ (by simp [opsSqbk8]) rfl)
    have hf1 : flagsOf sqbk8C L 1 = true := (flagsOf_at (C := sqbk8C) (j := 1) rfl L).trans (hdep ⟨6, .data⟩ (by simp) rfl)
    have r40 : a.tmps[40]?.getD undef = resOf sqbk8C (fun t => a.eval (.tmp t)) 1 := by rw [← ev]; exact (resOf_at (C := sqbk8C) (j := 1) rfl a).symm
    have hfin := hK (.bool false) w (hG.quiet 5 7 41 _ rfl (by kernel_rfl) (by kernel_rfl))
    have HK := Lib.hid hfin
    generalize (resOf sqbk8C fun t => a.eval (.tmp t)) = R at *
    generalize flagsOf sqbk8C L = f at *
    have q1 := hr _ _ _ hSp hf1
    rw [q1] at r40
    clear hx hr hc0 hc1 q1
    clear hSp
    clear hG hcl hdep hfr hK hfin hLi 
    go_simp
    exact HK.out
  | 8, ho =>
    simp only [opsSqbk8, List.getElem?_toArray, List.getElem?_cons_succ, List.getElem?_cons_zero, Option.some.injEq] at ho
    subst ho
    have x36 : a.tmps[36]?.getD undef = .bool false := by rw [← ev]; exact hG.val 2 2 36 _ rfl (hdep ⟨2, .data⟩ (by simp) rfl)
    have x41 : a.tmps[41]?.getD undef = .bool false := by rw [← ev]; exact hG.val 5 7 41 _ rfl (hdep ⟨7, .data⟩ (by simp) rfl)
    rw [if_pos (show Region.wanted _ _ = true from rfl)]
    have hfin := hK (.bool false) w (hG.quiet 6 8 42 _ rfl (by kernel_rfl) (by kernel_rfl))
    have HK := Lib.hid hfin
    clear hG hcl hdep hfr hK hfin hLi 
    go_simp
    exact HK.out
  | n + 9, ho => exact absurd (Array.getElem?_eq_some_iff.1 ho).1 (by show ¬ n + 9 < 9; omega)
end Go.Proofs.YtmcglecdidnhlaaDoor
