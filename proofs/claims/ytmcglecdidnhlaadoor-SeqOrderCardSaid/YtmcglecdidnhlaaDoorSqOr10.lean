/- SeqOrder: whether two sets have a number, the same answer. -/
import Derived.Test.YtmcglecdidnhlaaDoorFlags
import Derived.Test.YtmcglecdidnhlaaDoorAppend
import Derived.WalkKit
import Derived.WalkSpells
import Derived.WalkLawsBesides
import Derived.Lib.Hide
namespace Go.Proofs.YtmcglecdidnhlaaDoor
open Go.RowKit
set_option linter.unusedVariables false
set_option linter.unusedSimpArgs false

def opsSqor10 : Array Oper := #[
  { dst := some 42, op := Op.load 25 (Operand.tmp 3), type := 25, pos := "more.go:19", after := #[], guard := none },
  { dst := some 43, op := Op.move (Operand.tmp 1), type := 2, pos := "more.go:19", after := #[], guard := none },
  { dst := some 44, op := Op.move (Operand.tmp 2), type := 2, pos := "more.go:19", after := #[], guard := none },
  { dst := some 45, op := Op.call { callee := Callee.value (Operand.func 12), args := #[Operand.tmp 42, Operand.tmp 43, Operand.tmp 44], argTypes := #[25, 2, 2] }, type := 4, pos := "more.go:19", after := #[{ on := 0, ground := Ground.data }, { on := 1, ground := Ground.data }, { on := 2, ground := Ground.data }], guard := none },
  { dst := some 46, op := Op.load 25 (Operand.tmp 7), type := 25, pos := "more.go:19", after := #[], guard := none },
  { dst := some 47, op := Op.move (Operand.tmp 1), type := 2, pos := "more.go:19", after := #[], guard := none },
  { dst := some 48, op := Op.move (Operand.tmp 2), type := 2, pos := "more.go:19", after := #[], guard := none },
  { dst := some 49, op := Op.call { callee := Callee.value (Operand.func 12), args := #[Operand.tmp 46, Operand.tmp 47, Operand.tmp 48], argTypes := #[25, 2, 2] }, type := 4, pos := "more.go:19", after := #[{ on := 4, ground := Ground.data }, { on := 5, ground := Ground.data }, { on := 6, ground := Ground.data }, { on := 3, ground := Ground.chain }], guard := none },
  { dst := some 50, op := Op.binOp BinOp.eql 4 (Operand.tmp 45) (Operand.tmp 49) 4, type := 4, pos := "more.go:19", after := #[{ on := 3, ground := Ground.data }, { on := 7, ground := Ground.data }], guard := none },
  { dst := some 6, op := Op.assign (Operand.tmp 50), type := 4, pos := "more.go:19", after := #[{ on := 8, ground := Ground.data }, { on := 7, ground := Ground.chain }, { on := 0, ground := Ground.phase }, { on := 1, ground := Ground.phase }, { on := 2, ground := Ground.phase }, { on := 3, ground := Ground.phase }, { on := 4, ground := Ground.phase }, { on := 5, ground := Ground.phase }, { on := 6, ground := Ground.phase }, { on := 7, ground := Ground.phase }, { on := 8, ground := Ground.phase }], guard := none }]

def sqor10Vals (b3 b7 n3 c3 n7 c7 : Nat) (A3 A7 : Option Addr) (x y : Int) (B : Bool) : List (Nat × Nat × Value) := [(0, 42, .agg #[.slice A3 n3 c3]), (1, 43, .int .i64 x), (2, 44, .int .i64 y), (4, 46, .agg #[.slice A7 n7 c7]), (5, 47, .int .i64 x), (6, 48, .int .i64 y), (8, 50, .bool true), (9, 6, .bool true)]
def sqor10C : List (Nat × Nat) := [(3, 45), (7, 49)]

set_option maxHeartbeats 3200000 in
set_option maxRecDepth 100000 in
theorem sqor10 {Q : Exit → Act → World → Prop} {a0 : Act} {wp : World} (b3 b7 n3 c3 n7 c7 : Nat) (A3 A7 : Option Addr) (x y : Int) (B : Bool) (S : (Nat → Bool) → (Nat → Value) → World → Prop)
    (hsz : 50 < a0.tmps.size) (in1 : a0.eval (.tmp 1) = .int .i64 x) (in2 : a0.eval (.tmp 2) = .int .i64 y) (in3 : a0.eval (.tmp 3) = .pointer (some ⟨b3, 0, none⟩)) (in7 : a0.eval (.tmp 7) = .pointer (some ⟨b7, 0, none⟩))
    (hx : ∀ f R w, S f R w → w.cell? ⟨b3, 0, none⟩ = some (.slice A3 n3 c3) ∧ w.cell? ⟨b7, 0, none⟩ = some (.slice A7 n7 c7))
    (hr : ∀ f R w, S f R w → (f 0 = true → R 0 = .bool B) ∧ (f 1 = true → R 1 = .bool B))
    (hc0 : ∀ f R w, S f R w → f 0 = false → Calls Tryd.prog 12 #[.agg #[.slice A3 n3 c3], .int .i64 x, .int .i64 y] w fun e w' => e = .returned (.bool B) ∧ S (setF f 0) (setR R 0 (.bool B)) w')
    (hc1 : ∀ f R w, S f R w → f 1 = false → Calls Tryd.prog 12 #[.agg #[.slice A7 n7 c7], .int .i64 x, .int .i64 y] w fun e w' => e = .returned (.bool B) ∧ S (setF f 1) (setR R 1 (.bool B)) w')
    (hS : S (fun _ => false) (resOf sqor10C fun t => a0.eval (.tmp t)) wp.drew)
    (fin : ∀ a w f, Fr [42, 43, 44, 45, 46, 47, 48, 49, 50, 6] a0 a → a.eval (.tmp 6) = .bool true → (∀ j, j < 2 → f j = true) → S f (resOf sqor10C fun t => a.eval (.tmp t)) w → Q .normal a w) :
    (Code.region 10 opsSqor10 true).wp Tryd.prog Q a0 wp := by
  refine region_inv (by kernel_rfl) [42, 43, 44, 45, 46, 47, 48, 49, 50, 6] (by kernel_rfl) (by kernel_rfl) (fun t ht => by simp at ht; omega) (GF (sqor10Vals b3 b7 n3 c3 n7 c7 A3 A7 x y B) sqor10C S) (.start hS) ?_
    (fun L a w hf hall hG => fin a w (flagsOf sqor10C L) hf (hG.val 7 9 6 _ rfl (hall 9 (by decide))) (fun j hj => by
      match j, hj with
      | 0, _ => exact (flagsOf_at (C := sqor10C) (j := 0) rfl L).trans (hall 3 (by decide))
      | 1, _ => exact (flagsOf_at (C := sqor10C) (j := 1) rfl L).trans (hall 7 (by decide))
      | n + 2, h => exact absurd h (by omega)) hG.1)
  clear hS fin
  intro ix oo ho L a w hfr hG hLi hdep hcl K hK
  have e1 : a.tmps[1]?.getD undef = .int .i64 x := by rw [← ev]; exact (hfr.same 1 (by decide)).trans in1
  have e2 : a.tmps[2]?.getD undef = .int .i64 y := by rw [← ev]; exact (hfr.same 2 (by decide)).trans in2
  have e3 : a.tmps[3]?.getD undef = .pointer (some ⟨b3, 0, none⟩) := by rw [← ev]; exact (hfr.same 3 (by decide)).trans in3
  have e7 : a.tmps[7]?.getD undef = .pointer (some ⟨b7, 0, none⟩) := by rw [← ev]; exact (hfr.same 7 (by decide)).trans in7
  clear in1 in2 in3 in7
  match ix, ho with
  | 0, ho =>
    simp only [opsSqor10, List.getElem?_toArray, List.getElem?_cons_zero, Option.some.injEq] at ho
    subst ho
    rw [if_pos (show Region.wanted _ _ = true from rfl)]
    have hSp := hG.1
    have hf0 : flagsOf sqor10C L 0 = false := (flagsOf_at (C := sqor10C) (j := 0) rfl L).trans (by
      cases hl : L 3 with
      | false => rfl
      | true => exact absurd (hcl 3 _ rfl (hl) ⟨0, .data⟩ (by simp [opsSqor10]) rfl) (by rw [hLi]; decide))
    have hf1 : flagsOf sqor10C L 1 = false := (flagsOf_at (C := sqor10C) (j := 1) rfl L).trans (by
      cases hl : L 7 with
      | false => rfl
      | true => exact absurd (hcl 3 _ rfl (hcl 7 _ rfl (hl) ⟨3, .chain⟩ (by simp [opsSqor10]) rfl) ⟨0, .data⟩ (by simp [opsSqor10]) rfl) (by rw [hLi]; decide))
    have hfin := hK (.agg #[.slice A3 n3 c3]) w (hG.quiet 0 0 42 _ rfl (by kernel_rfl) (by kernel_rfl))
    have HK := Lib.hid hfin
    generalize (resOf sqor10C fun t => a.eval (.tmp t)) = R at *
    generalize flagsOf sqor10C L = f at *
    obtain ⟨q1, q2⟩ := hx _ _ _ hSp
    clear hx hr hc0 hc1 q2
    clear hSp
    clear hG hcl hdep hfr hK hfin hLi 
    go_simp
    exact HK.out
  | 1, ho =>
    simp only [opsSqor10, List.getElem?_toArray, List.getElem?_cons_succ, List.getElem?_cons_zero, Option.some.injEq] at ho
    subst ho
    rw [if_pos (show Region.wanted _ _ = true from rfl)]
    have hfin := hK (.int .i64 x) w (hG.quiet 1 1 43 _ rfl (by kernel_rfl) (by kernel_rfl))
    have HK := Lib.hid hfin
    clear hG hcl hdep hfr hK hfin hLi 
    go_simp
    exact HK.out
  | 2, ho =>
    simp only [opsSqor10, List.getElem?_toArray, List.getElem?_cons_succ, List.getElem?_cons_zero, Option.some.injEq] at ho
    subst ho
    rw [if_pos (show Region.wanted _ _ = true from rfl)]
    have hfin := hK (.int .i64 y) w (hG.quiet 2 2 44 _ rfl (by kernel_rfl) (by kernel_rfl))
    have HK := Lib.hid hfin
    clear hG hcl hdep hfr hK hfin hLi 
    go_simp
    exact HK.out
  | 3, ho =>
    simp only [opsSqor10, List.getElem?_toArray, List.getElem?_cons_succ, List.getElem?_cons_zero, Option.some.injEq] at ho
    subst ho
    have x42 : a.tmps[42]?.getD undef = .agg #[.slice A3 n3 c3] := by rw [← ev]; exact hG.val 0 0 42 _ rfl (hdep ⟨0, .data⟩ (by simp) rfl)
    have x43 : a.tmps[43]?.getD undef = .int .i64 x := by rw [← ev]; exact hG.val 1 1 43 _ rfl (hdep ⟨1, .data⟩ (by simp) rfl)
    have x44 : a.tmps[44]?.getD undef = .int .i64 y := by rw [← ev]; exact hG.val 2 2 44 _ rfl (hdep ⟨2, .data⟩ (by simp) rfl)
    rw [if_pos (show Region.wanted _ _ = true from rfl)]
    have hSj := hG.1
    have hf0 : flagsOf sqor10C L 0 = false := (flagsOf_at (C := sqor10C) (j := 0) rfl L).trans hLi
    have hf1 : flagsOf sqor10C L 1 = false := (flagsOf_at (C := sqor10C) (j := 1) rfl L).trans (by
      cases hl : L 7 with
      | false => rfl
      | true => exact absurd (hcl 7 _ rfl (hl) ⟨3, .chain⟩ (by simp [opsSqor10]) rfl) (by rw [hLi]; decide))
    have hfin := fun v w' hs => hK v w' (hG.call 0 (3, 45) rfl (by kernel_rfl) v w' hs)
    have HK := Lib.hid hfin
    generalize (resOf sqor10C fun t => a.eval (.tmp t)) = R at *
    generalize flagsOf sqor10C L = f at *
    clear hG hcl hdep hfr hK hfin hLi
    have hc := Lib.hid (hc0 _ _ _ hSj hf0)
    clear hSj hx hr hc0 hc1
    go_simp
    go_at_call 12
    refine hc.out.mono ?_
    rintro e w' ⟨rfl, hs⟩
    exact HK.out _ w' hs
  | 4, ho =>
    simp only [opsSqor10, List.getElem?_toArray, List.getElem?_cons_succ, List.getElem?_cons_zero, Option.some.injEq] at ho
    subst ho
    rw [if_pos (show Region.wanted _ _ = true from rfl)]
    have hSp := hG.1
    have hf1 : flagsOf sqor10C L 1 = false := (flagsOf_at (C := sqor10C) (j := 1) rfl L).trans (by
      cases hl : L 7 with
      | false => rfl
      | true => exact absurd (hcl 7 _ rfl (hl) ⟨4, .data⟩ (by simp [opsSqor10]) rfl) (by rw [hLi]; decide))
    have hfin := hK (.agg #[.slice A7 n7 c7]) w (hG.quiet 3 4 46 _ rfl (by kernel_rfl) (by kernel_rfl))
    have HK := Lib.hid hfin
    generalize (resOf sqor10C fun t => a.eval (.tmp t)) = R at *
    generalize flagsOf sqor10C L = f at *
    obtain ⟨q2, q1⟩ := hx _ _ _ hSp
    clear hx hr hc0 hc1 q2
    clear hSp
    clear hG hcl hdep hfr hK hfin hLi 
    go_simp
    exact HK.out
  | 5, ho =>
    simp only [opsSqor10, List.getElem?_toArray, List.getElem?_cons_succ, List.getElem?_cons_zero, Option.some.injEq] at ho
    subst ho
    rw [if_pos (show Region.wanted _ _ = true from rfl)]
    have hfin := hK (.int .i64 x) w (hG.quiet 4 5 47 _ rfl (by kernel_rfl) (by kernel_rfl))
    have HK := Lib.hid hfin
    clear hG hcl hdep hfr hK hfin hLi 
    go_simp
    exact HK.out
  | 6, ho =>
    simp only [opsSqor10, List.getElem?_toArray, List.getElem?_cons_succ, List.getElem?_cons_zero, Option.some.injEq] at ho
    subst ho
    rw [if_pos (show Region.wanted _ _ = true from rfl)]
    have hfin := hK (.int .i64 y) w (hG.quiet 5 6 48 _ rfl (by kernel_rfl) (by kernel_rfl))
    have HK := Lib.hid hfin
    clear hG hcl hdep hfr hK hfin hLi 
    go_simp
    exact HK.out
  | 7, ho =>
    simp only [opsSqor10, List.getElem?_toArray, List.getElem?_cons_succ, List.getElem?_cons_zero, Option.some.injEq] at ho
    subst ho
    have x46 : a.tmps[46]?.getD undef = .agg #[.slice A7 n7 c7] := by rw [← ev]; exact hG.val 3 4 46 _ rfl (hdep ⟨4, .data⟩ (by simp) rfl)
    have x47 : a.tmps[47]?.getD undef = .int .i64 x := by rw [← ev]; exact hG.val 4 5 47 _ rfl (hdep ⟨5, .data⟩ (by simp) rfl)
    have x48 : a.tmps[48]?.getD undef = .int .i64 y := by rw [← ev]; exact hG.val 5 6 48 _ rfl (hdep ⟨6, .data⟩ (by simp) rfl)
    rw [if_pos (show Region.wanted _ _ = true from rfl)]
    have hSj := hG.1
    have hf0 : flagsOf sqor10C L 0 = true := (flagsOf_at (C := sqor10C) (j := 0) rfl L).trans (hdep ⟨3, .chain⟩ (by simp) rfl)
    have hf1 : flagsOf sqor10C L 1 = false := (flagsOf_at (C := sqor10C) (j := 1) rfl L).trans hLi
    have hfin := fun v w' hs => hK v w' (hG.call 1 (7, 49) rfl (by kernel_rfl) v w' hs)
    have HK := Lib.hid hfin
    generalize (resOf sqor10C fun t => a.eval (.tmp t)) = R at *
    generalize flagsOf sqor10C L = f at *
    clear hG hcl hdep hfr hK hfin hLi
    have hc := Lib.hid (hc1 _ _ _ hSj hf1)
    clear hSj hx hr hc0 hc1
    go_simp
    go_at_call 12
    refine hc.out.mono ?_
    rintro e w' ⟨rfl, hs⟩
    exact HK.out _ w' hs
  | 8, ho =>
    simp only [opsSqor10, List.getElem?_toArray, List.getElem?_cons_succ, List.getElem?_cons_zero, Option.some.injEq] at ho
    subst ho
    rw [if_pos (show Region.wanted _ _ = true from rfl)]
    have hSp := hG.1
    have hf0 : flagsOf sqor10C L 0 = true := (flagsOf_at (C := sqor10C) (j := 0) rfl L).trans (hdep ⟨3, .data⟩ (by simp) rfl)
    have hf1 : flagsOf sqor10C L 1 = true := (flagsOf_at (C := sqor10C) (j := 1) rfl L).trans (hdep ⟨7, .data⟩ (by simp) rfl)
    have r45 : a.tmps[45]?.getD undef = resOf sqor10C (fun t => a.eval (.tmp t)) 0 := by rw [← ev]; exact (resOf_at (C := sqor10C) (j := 0) rfl a).symm
    have r49 : a.tmps[49]?.getD undef = resOf sqor10C (fun t => a.eval (.tmp t)) 1 := by rw [← ev]; exact (resOf_at (C := sqor10C) (j := 1) rfl a).symm
    have hfin := hK (.bool true) w (hG.quiet 6 8 50 _ rfl (by kernel_rfl) (by kernel_rfl))
    have HK := Lib.hid hfin
    generalize (resOf sqor10C fun t => a.eval (.tmp t)) = R at *
    generalize flagsOf sqor10C L = f at *
    obtain ⟨q1, q2⟩ := hr _ _ _ hSp
    rw [q1 hf0] at r45
    rw [q2 hf1] at r49
    clear hx hr hc0 hc1 q1 q2
    clear hSp
    clear hG hcl hdep hfr hK hfin hLi 
    go_simp
    exact HK.out
  | 9, ho =>
    simp only [opsSqor10, List.getElem?_toArray, List.getElem?_cons_succ, List.getElem?_cons_zero, Option.some.injEq] at ho
    subst ho
    have x50 : a.tmps[50]?.getD undef = .bool true := by rw [← ev]; exact hG.val 6 8 50 _ rfl (hdep ⟨8, .data⟩ (by simp) rfl)
    rw [if_pos (show Region.wanted _ _ = true from rfl)]
    have hfin := hK (.bool true) w (hG.quiet 7 9 6 _ rfl (by kernel_rfl) (by kernel_rfl))
    have HK := Lib.hid hfin
    clear hG hcl hdep hfr hK hfin hLi 
    go_simp
    exact HK.out
  | n + 10, ho => exact absurd (Array.getElem?_eq_some_iff.1 ho).1 (by show ¬ n + 10 < 10; omega)
end Go.Proofs.YtmcglecdidnhlaaDoor
