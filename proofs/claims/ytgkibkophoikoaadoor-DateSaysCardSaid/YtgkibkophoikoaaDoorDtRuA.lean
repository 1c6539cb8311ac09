/- DtRu3, DtRUnix: these texts in one. -/
import Derived.Test.YtgkibkophoikoaaDoorVals
import Derived.Test.YtgkibkophoikoaaDoorAppend
import Derived.WalkKit
import Derived.WalkSpells
import Derived.WalkLawsBesides
import Derived.Lib.Hide
import Derived.Test.YtgkibkophoikoaaDoorDtRGood
namespace Go.Proofs.YtgkibkophoikoaaDoor
open Go.RowKit
set_option linter.unusedVariables false
set_option linter.unusedSimpArgs false

def opsRu3 : Array Oper := #[
  { dst := some 6, op := Op.load 33 (Operand.tmp 1), type := 33, pos := "ref.go:405", after := #[], guard := none },
  { dst := some 7, op := Op.call { callee := Callee.value (Operand.func 42), args := #[Operand.tmp 6], argTypes := #[33] }, type := 2, pos := "ref.go:405", after := #[{ on := 0, ground := Ground.data }], guard := none },
  { dst := some 8, op := Op.binOp BinOp.mul 2 (Operand.tmp 7) (Operand.const (Value.int IntKind.i64 86400)) 2, type := 2, pos := "ref.go:405", after := #[{ on := 1, ground := Ground.data }], guard := none },
  { dst := some 9, op := Op.fieldAddr 33 (Operand.tmp 1) 3, type := 0, pos := "ref.go:405", after := #[], guard := none },
  { dst := some 10, op := Op.load 3 (Operand.tmp 9), type := 3, pos := "ref.go:405", after := #[{ on := 3, ground := Ground.data }], guard := none },
  { dst := some 11, op := Op.binOp BinOp.mul 3 (Operand.tmp 10) (Operand.const (Value.int IntKind.i64 3600)) 3, type := 3, pos := "ref.go:405", after := #[{ on := 4, ground := Ground.data }], guard := none },
  { dst := some 12, op := Op.fieldAddr 33 (Operand.tmp 1) 4, type := 0, pos := "ref.go:405", after := #[], guard := none },
  { dst := some 13, op := Op.load 3 (Operand.tmp 12), type := 3, pos := "ref.go:405", after := #[{ on := 6, ground := Ground.data }], guard := none },
  { dst := some 14, op := Op.binOp BinOp.mul 3 (Operand.tmp 13) (Operand.const (Value.int IntKind.i64 60)) 3, type := 3, pos := "ref.go:405", after := #[{ on := 7, ground := Ground.data }], guard := none },
  { dst := some 15, op := Op.binOp BinOp.add 3 (Operand.tmp 11) (Operand.tmp 14) 3, type := 3, pos := "ref.go:405", after := #[{ on := 5, ground := Ground.data }, { on := 8, ground := Ground.data }], guard := none },
  { dst := some 16, op := Op.fieldAddr 33 (Operand.tmp 1) 5, type := 0, pos := "ref.go:405", after := #[], guard := none },
  { dst := some 17, op := Op.load 3 (Operand.tmp 16), type := 3, pos := "ref.go:405", after := #[{ on := 10, ground := Ground.data }], guard := none },
  { dst := some 18, op := Op.binOp BinOp.add 3 (Operand.tmp 15) (Operand.tmp 17) 3, type := 3, pos := "ref.go:405", after := #[{ on := 9, ground := Ground.data }, { on := 11, ground := Ground.data }], guard := none },
  { dst := some 19, op := Op.fieldAddr 33 (Operand.tmp 1) 6, type := 0, pos := "ref.go:405", after := #[], guard := none },
  { dst := some 20, op := Op.load 3 (Operand.tmp 19), type := 3, pos := "ref.go:405", after := #[{ on := 13, ground := Ground.data }], guard := none },
  { dst := some 21, op := Op.binOp BinOp.mul 3 (Operand.tmp 20) (Operand.const (Value.int IntKind.i64 60)) 3, type := 3, pos := "ref.go:405", after := #[{ on := 14, ground := Ground.data }], guard := none },
  { dst := some 22, op := Op.binOp BinOp.sub 3 (Operand.tmp 18) (Operand.tmp 21) 3, type := 3, pos := "ref.go:405", after := #[{ on := 12, ground := Ground.data }, { on := 15, ground := Ground.data }], guard := none },
  { dst := some 23, op := Op.binOp BinOp.add 2 (Operand.tmp 8) (Operand.tmp 22) 2, type := 2, pos := "ref.go:405", after := #[{ on := 2, ground := Ground.data }, { on := 16, ground := Ground.data }], guard := none },
  { dst := some 2, op := Op.assign (Operand.tmp 23), type := 2, pos := "ref.go:405", after := #[{ on := 17, ground := Ground.data }, { on := 1, ground := Ground.chain }, { on := 0, ground := Ground.phase }, { on := 1, ground := Ground.phase }, { on := 2, ground := Ground.phase }, { on := 3, ground := Ground.phase }, { on := 4, ground := Ground.phase }, { on := 5, ground := Ground.phase }, { on := 6, ground := Ground.phase }, { on := 7, ground := Ground.phase }, { on := 8, ground := Ground.phase }, { on := 9, ground := Ground.phase }, { on := 10, ground := Ground.phase }, { on := 11, ground := Ground.phase }, { on := 12, ground := Ground.phase }, { on := 13, ground := Ground.phase }, { on := 14, ground := Ground.phase }, { on := 15, ground := Ground.phase }, { on := 16, ground := Ground.phase }, { on := 17, ground := Ground.phase }], guard := none }]

def ru3Vals (b : Nat) (y m k hh mi s z n u1 u2 u3 u4 u5 u6 u7 u8 : Int) : List (Nat × Nat × Value) := [(0, 6, .agg #[.int .i64 y, .int .i64 m, .int .i64 k, .int .i64 hh, .int .i64 mi, .int .i64 s, .int .i64 z]), (2, 8, .int .i64 u1), (3, 9, .pointer (some ⟨b, 3, none⟩)), (4, 10, .int .i64 hh), (5, 11, .int .i64 u2), (6, 12, .pointer (some ⟨b, 4, none⟩)), (7, 13, .int .i64 mi), (8, 14, .int .i64 u3), (9, 15, .int .i64 u4), (10, 16, .pointer (some ⟨b, 5, none⟩)), (11, 17, .int .i64 s), (12, 18, .int .i64 u5), (13, 19, .pointer (some ⟨b, 6, none⟩)), (14, 20, .int .i64 z), (15, 21, .int .i64 u6), (16, 22, .int .i64 u7), (17, 23, .int .i64 u8), (18, 2, .int .i64 u8)]
def ru3C : List (Nat × Nat) := [(1, 7)]

set_option maxHeartbeats 4000000 in
set_option maxRecDepth 100000 in
theorem ru3 {Q : Exit → Act → World → Prop} {a0 : Act} {wp : World} (b : Nat) (y m k hh mi s z n u1 u2 u3 u4 u5 u6 u7 u8 : Int) (S : Nat → (Nat → Value) → World → Prop)
    (hsz : 23 < a0.tmps.size) (in1 : a0.eval (.tmp 1) = .pointer (some ⟨b, 0, none⟩))
    (hx : ∀ p R w, S p R w → w.cell? ⟨b, 0, none⟩ = some (.int .i64 y) ∧ w.cell? ⟨b, 1, none⟩ = some (.int .i64 m) ∧ w.cell? ⟨b, 2, none⟩ = some (.int .i64 k) ∧ w.cell? ⟨b, 3, none⟩ = some (.int .i64 hh) ∧ w.cell? ⟨b, 4, none⟩ = some (.int .i64 mi) ∧ w.cell? ⟨b, 5, none⟩ = some (.int .i64 s) ∧ w.cell? ⟨b, 6, none⟩ = some (.int .i64 z))
    (g1 : IntKind.i64.wrap (n * 86400) = u1) (g2 : IntKind.i64.wrap (hh * 3600) = u2) (g3 : IntKind.i64.wrap (mi * 60) = u3) (g4 : IntKind.i64.wrap (u2 + u3) = u4) (g5 : IntKind.i64.wrap (u4 + s) = u5) (g6 : IntKind.i64.wrap (z * 60) = u6) (g7 : IntKind.i64.wrap (u5 - u6) = u7) (g8 : IntKind.i64.wrap (u1 + u7) = u8)
    (hc : ∀ R w, S 0 R w → Calls Tryd.prog 42 #[.agg #[.int .i64 y, .int .i64 m, .int .i64 k, .int .i64 hh, .int .i64 mi, .int .i64 s, .int .i64 z]] w fun e w' => ∃ v, e = .returned v ∧ S 1 (setR R 0 v) w')
    (hv : ∀ p R w, S p R w → 0 < p → R 0 = .int .i64 n)
    (hS : S 0 (resOf ru3C fun t => a0.eval (.tmp t)) wp.drew)
    (fin : ∀ a w, Fr [6, 7, 8, 9, 10, 11, 12, 13, 14, 15, 16, 17, 18, 19, 20, 21, 22, 23, 2] a0 a → a.eval (.tmp 2) = .int .i64 u8 → S 1 (resOf ru3C fun t => a.eval (.tmp t)) w → Q .normal a w) :
    (Code.region 3 opsRu3 true).wp Tryd.prog Q a0 wp := by
  refine region_inv (by kernel_rfl) [6, 7, 8, 9, 10, 11, 12, 13, 14, 15, 16, 17, 18, 19, 20, 21, 22, 23, 2] (by kernel_rfl) (by kernel_rfl) (fun t ht => by simp at ht; omega) (GV (ru3Vals b y m k hh mi s z n u1 u2 u3 u4 u5 u6 u7 u8) ru3C S) (.start hS) ?_
    (fun L a w hf hall hG => fin a w hf (hG.val 17 18 2 _ rfl (hall 18 (by decide))) (hG.fin (fun c hc => by simp [ru3C] at hc; subst hc; exact hall _ (by decide))))
  clear hS fin
  intro ix oo ho L a w hfr hG hLi hdep hcl K hK
  have e1 : a.tmps[1]?.getD undef = .pointer (some ⟨b, 0, none⟩) := by rw [← ev]; exact (hfr.same 1 (by decide)).trans in1
  clear in1
  match ix, ho with
  | 0, ho =>
    simp only [opsRu3, List.getElem?_toArray, List.getElem?_cons_zero, Option.some.injEq] at ho
    subst ho
    rw [if_pos (show Region.wanted _ _ = true from rfl)]
    obtain ⟨ph, hSp, hdone⟩ := hG.any
    have hfin := hK (.agg #[.int .i64 y, .int .i64 m, .int .i64 k, .int .i64 hh, .int .i64 mi, .int .i64 s, .int .i64 z]) w (hG.quiet 0 0 6 _ rfl (by kernel_rfl) (by kernel_rfl))
    have HK := Lib.hid hfin
    generalize (resOf ru3C fun t => a.eval (.tmp t)) = R at *
    obtain ⟨q0, q1, q2, q3, q4, q5, q6⟩ := hx _ _ _ hSp
    clear hx hc hv g1 g2 g3 g4 g5 g6 g7 g8
    clear hSp hdone
    clear hG hcl hdep hfr hK hfin hLi 
    go_simp
    exact HK.out
  | 1, ho =>
    simp only [opsRu3, List.getElem?_toArray, List.getElem?_cons_succ, List.getElem?_cons_zero, Option.some.injEq] at ho
    subst ho
    have x6 : a.tmps[6]?.getD undef = .agg #[.int .i64 y, .int .i64 m, .int .i64 k, .int .i64 hh, .int .i64 mi, .int .i64 s, .int .i64 z] := by rw [← ev]; exact hG.val 0 0 6 _ rfl (hdep ⟨0, .data⟩ (by simp) rfl)
    rw [if_pos (show Region.wanted _ _ = true from rfl)]
    have hSj := hG.at 0 (1, 7) rfl hLi (fun c h0 hc => absurd h0 (by decide))
    have hfin := fun v w' hs => hK v w' (hG.call 0 (1, 7) rfl hLi (fun c h0 hc => absurd h0 (by decide)) (by kernel_rfl) v w' hs)
    have HK := Lib.hid hfin
    generalize (resOf ru3C fun t => a.eval (.tmp t)) = R at *
    clear hG hcl hdep hfr hK hfin hLi
    have hcc := Lib.hid (hc _ _ hSj)
    clear hSj hx hc hv g1 g2 g3 g4 g5 g6 g7 g8
    go_simp
    go_at_call 42
    refine hcc.out.mono ?_
    rintro e w' ⟨v, rfl, hs⟩
    exact HK.out v w' hs
  | 2, ho =>
    simp only [opsRu3, List.getElem?_toArray, List.getElem?_cons_succ, List.getElem?_cons_zero, Option.some.injEq] at ho
    subst ho
    rw [if_pos (show Region.wanted _ _ = true from rfl)]
    obtain ⟨ph, hSp, hdone⟩ := hG.any
    have hd7 : 0 < ph := hdone 0 (1, 7) rfl (hdep ⟨1, .data⟩ (by simp) rfl)
    have r7 : a.tmps[7]?.getD undef = resOf ru3C (fun t => a.eval (.tmp t)) 0 := by rw [← ev]; exact (resOf_at (C := ru3C) (j := 0) rfl a).symm
    have hfin := hK (.int .i64 u1) w (hG.quiet 1 2 8 _ rfl (by kernel_rfl) (by kernel_rfl))
    have HK := Lib.hid hfin
    generalize (resOf ru3C fun t => a.eval (.tmp t)) = R at *
    rw [hv _ _ _ hSp hd7] at r7
    clear hd7
    clear hx hc hv g2 g3 g4 g5 g6 g7 g8
    clear hSp hdone
    clear hG hcl hdep hfr hK hfin hLi 
    go_simp
    exact HK.out
  | 3, ho =>
    simp only [opsRu3, List.getElem?_toArray, List.getElem?_cons_succ, List.getElem?_cons_zero, Option.some.injEq] at ho
    subst ho
    rw [if_pos (show Region.wanted _ _ = true from rfl)]
    obtain ⟨ph, hSp, hdone⟩ := hG.any
    have hfin := hK (.pointer (some ⟨b, 3, none⟩)) w (hG.quiet 2 3 9 _ rfl (by kernel_rfl) (by kernel_rfl))
    have HK := Lib.hid hfin
    generalize (resOf ru3C fun t => a.eval (.tmp t)) = R at *
    clear hx hc hv g1 g2 g3 g4 g5 g6 g7 g8
    clear hSp hdone
    clear hG hcl hdep hfr hK hfin hLi 
    go_simp
    exact HK.out
  | 4, ho =>
    simp only [opsRu3, List.getElem?_toArray, List.getElem?_cons_succ, List.getElem?_cons_zero, Option.some.injEq] at ho
    subst ho
    have x9 : a.tmps[9]?.getD undef = .pointer (some ⟨b, 3, none⟩) := by rw [← ev]; exact hG.val 2 3 9 _ rfl (hdep ⟨3, .data⟩ (by simp) rfl)
    rw [if_pos (show Region.wanted _ _ = true from rfl)]
    obtain ⟨ph, hSp, hdone⟩ := hG.any
    have hfin := hK (.int .i64 hh) w (hG.quiet 3 4 10 _ rfl (by kernel_rfl) (by kernel_rfl))
    have HK := Lib.hid hfin
    generalize (resOf ru3C fun t => a.eval (.tmp t)) = R at *
    obtain ⟨q0, q1, q2, q3, q4, q5, q6⟩ := hx _ _ _ hSp
    clear hx hc hv g1 g2 g3 g4 g5 g6 g7 g8
    clear q0 q1 q2 q4 q5 q6
    clear hSp hdone
    clear hG hcl hdep hfr hK hfin hLi 
    go_simp
    exact HK.out
  | 5, ho =>
    simp only [opsRu3, List.getElem?_toArray, List.getElem?_cons_succ, List.getElem?_cons_zero, Option.some.injEq] at ho
    subst ho
    have x10 : a.tmps[10]?.getD undef = .int .i64 hh := by rw [← ev]; exact hG.val 3 4 10 _ rfl (hdep ⟨4, .data⟩ (by simp) rfl)
    rw [if_pos (show Region.wanted _ _ = true from rfl)]
    obtain ⟨ph, hSp, hdone⟩ := hG.any
    have hfin := hK (.int .i64 u2) w (hG.quiet 4 5 11 _ rfl (by kernel_rfl) (by kernel_rfl))
    have HK := Lib.hid hfin
    generalize (resOf ru3C fun t => a.eval (.tmp t)) = R at *
    clear hx hc hv g1 g3 g4 g5 g6 g7 g8
    clear hSp hdone
    clear hG hcl hdep hfr hK hfin hLi 
    go_simp
    exact HK.out
  | 6, ho =>
    simp only [opsRu3, List.getElem?_toArray, List.getElem?_cons_succ, List.getElem?_cons_zero, Option.some.injEq] at ho
    subst ho
    rw [if_pos (show Region.wanted _ _ = true from rfl)]
    obtain ⟨ph, hSp, hdone⟩ := hG.any
    have hfin := hK (.pointer (some ⟨b, 4, none⟩)) w (hG.quiet 5 6 12 _ rfl (by kernel_rfl) (by kernel_rfl))
    have HK := Lib.hid hfin
    generalize (resOf ru3C fun t => a.eval (.tmp t)) = R at *
    clear hx hc hv g1 g2 g3 g4 g5 g6 g7 g8
    clear hSp hdone
    clear hG hcl hdep hfr hK hfin hLi 
    go_simp
    exact HK.out
  | 7, ho =>
    simp only [opsRu3, List.getElem?_toArray, List.getElem?_cons_succ, List.getElem?_cons_zero, Option.some.injEq] at ho
    subst ho
    have x12 : a.tmps[12]?.getD undef = .pointer (some ⟨b, 4, none⟩) := by rw [← ev]; exact hG.val 5 6 12 _ rfl (hdep ⟨6, .data⟩ (by simp) rfl)
    rw [if_pos (show Region.wanted _ _ = true from rfl)]
    obtain ⟨ph, hSp, hdone⟩ := hG.any
    have hfin := hK (.int .i64 mi) w (hG.quiet 6 7 13 _ rfl (by kernel_rfl) (by kernel_rfl))
    have HK := Lib.hid hfin
    generalize (resOf ru3C fun t => a.eval (.tmp t)) = R at *
    obtain ⟨q0, q1, q2, q3, q4, q5, q6⟩ := hx _ _ _ hSp
    clear hx hc hv g1 g2 g3 g4 g5 g6 g7 g8
    clear q0 q1 q2 q3 q5 q6
    clear hSp hdone
    clear hG hcl hdep hfr hK hfin hLi 
    go_simp
    exact HK.out
  | 8, ho =>
    simp only [opsRu3, List.getElem?_toArray, List.getElem?_cons_succ, List.getElem?_cons_zero, Option.some.injEq] at ho
    subst ho
    have x13 : a.tmps[13]?.getD undef = .int .i64 mi := by rw [← ev]; exact hG.val 6 7 13 _ rfl (hdep ⟨7, .data⟩ (by simp) rfl)
    rw [if_pos (show Region.wanted _ _ = true from rfl)]
    obtain ⟨ph, hSp, hdone⟩ := hG.any
    have hfin := hK (.int .i64 u3) w (hG.quiet 7 8 14 _ rfl (by kernel_rfl) (by kernel_rfl))
    have HK := Lib.hid hfin
    generalize (resOf ru3C fun t => a.eval (.tmp t)) = R at *
    clear hx hc hv g1 g2 g4 g5 g6 g7 g8
    clear hSp hdone
    clear hG hcl hdep hfr hK hfin hLi 
    go_simp
    exact HK.out
  | 9, ho =>
    simp only [opsRu3, List.getElem?_toArray, List.getElem?_cons_succ, List.getElem?_cons_zero, Option.some.injEq] at ho
    subst ho
    have x11 : a.tmps[11]?.getD undef = .int .i64 u2 := by rw [← ev]; exact hG.val 4 5 11 _ rfl (hdep ⟨5, .data⟩ (by simp) rfl)
    have x14 : a.tmps[14]?.getD undef = .int .i64 u3 := by rw [← ev]; exact hG.val 7 8 14 _ rfl (hdep ⟨8, .data⟩ (by simp) rfl)
    rw [if_pos (show Region.wanted _ _ = true from rfl)]
    obtain ⟨ph, hSp, hdone⟩ := hG.any
    have hfin := hK (.int .i64 u4) w (hG.quiet 8 9 15 _ rfl (by kernel_rfl) (by kernel_rfl))
    have HK := Lib.hid hfin
    generalize (resOf ru3C fun t => a.eval (.tmp t)) = R at *
    clear hx hc hv g1 g2 g3 g5 g6 g7 g8
    clear hSp hdone
    clear hG hcl hdep hfr hK hfin hLi 
    go_simp
    exact HK.out
  | 10, ho =>
    simp only [opsRu3, List.getElem?_toArray, List.getElem?_cons_succ, List.getElem?_cons_zero, Option.some.injEq] at ho
    subst ho
    rw [if_pos (show Region.wanted _ _ = true from rfl)]
    obtain ⟨ph, hSp, hdone⟩ := hG.any
    have hfin := hK (.pointer (some ⟨b, 5, none⟩)) w (hG.quiet 9 10 16 _ rfl (by kernel_rfl) (by kernel_rfl))
    have HK := Lib.hid hfin
    generalize (resOf ru3C fun t => a.eval (.tmp t)) = R at *
    clear hx hc hv g1 g2 g3 g4 g5 g6 g7 g8
    clear hSp hdone
    clear hG hcl hdep hfr hK hfin hLi 
    go_simp
    exact HK.out
  | 11, ho =>
    simp only [opsRu3, List.getElem?_toArray, List.getElem?_cons_succ, List.getElem?_cons_zero, Option.some.injEq] at ho
    subst ho
    have x16 : a.tmps[16]?.getD undef = .pointer (some ⟨b, 5, none⟩) := by rw [← ev]; exact hG.val 9 10 16 _ rfl (hdep ⟨10, .data⟩ (by simp) rfl)
    rw [if_pos (show Region.wanted _ _ = true from rfl)]
    obtain ⟨ph, hSp, hdone⟩ := hG.any
    have hfin := hK (.int .i64 s) w (hG.quiet 10 11 17 _ rfl (by kernel_rfl) (by kernel_rfl))
    have HK := Lib.hid hfin
    generalize (resOf ru3C fun t => a.eval (.tmp t)) = R at *
    obtain ⟨q0, q1, q2, q3, q4, q5, q6⟩ := hx _ _ _ hSp
    clear hx hc hv g1 g2 g3 g4 g5 g6 g7 g8
    clear q0 q1 q2 q3 q4 q6
    clear hSp hdone
    clear hG hcl hdep hfr hK hfin hLi 
    go_simp
    exact HK.out
  | 12, ho =>
    simp only [opsRu3, List.getElem?_toArray, List.getElem?_cons_succ, List.getElem?_cons_zero, Option.some.injEq] at ho
    subst ho
    have x15 : a.tmps[15]?.getD undef = .int .i64 u4 := by rw [← ev]; exact hG.val 8 9 15 _ rfl (hdep ⟨9, .data⟩ (by simp) rfl)
    have x17 : a.tmps[17]?.getD undef = .int .i64 s := by rw [← ev]; exact hG.val 10 11 17 _ rfl (hdep ⟨11, .data⟩ (by simp) rfl)
    rw [if_pos (show Region.wanted _ _ = true from rfl)]
    obtain ⟨ph, hSp, hdone⟩ := hG.any
    have hfin := hK (.int .i64 u5) w (hG.quiet 11 12 18 _ rfl (by kernel_rfl) (by kernel_rfl))
    have HK := Lib.hid hfin
    generalize (resOf ru3C fun t => a.eval (.tmp t)) = R at *
    clear hx hc hv g1 g2 g3 g4 g6 g7 g8
    clear hSp hdone
    clear hG hcl hdep hfr hK hfin hLi 
    go_simp
    exact HK.out
  | 13, ho =>
    simp only [opsRu3, List.getElem?_toArray, List.getElem?_cons_succ, List.getElem?_cons_zero, Option.some.injEq] at ho
    subst ho
    rw [if_pos (show Region.wanted _ _ = true from rfl)]
    obtain ⟨ph, hSp, hdone⟩ := hG.any
    have hfin := hK (.pointer (some ⟨b, 6, none⟩)) w (hG.quiet 12 13 19 _ rfl (by kernel_rfl) (by kernel_rfl))
    have HK := Lib.hid hfin
    generalize (resOf ru3C fun t => a.eval (.tmp t)) = R at *
    clear hx hc hv g1 g2 g3 g4 g5 g6 g7 g8
    clear hSp hdone
    clear hG hcl hdep hfr hK hfin hLi 
    go_simp
    exact HK.out
  | 14, ho =>
    simp only [opsRu3, List.getElem?_toArray, List.getElem?_cons_succ, List.getElem?_cons_zero, Option.some.injEq] at ho
    subst ho
    have x19 : a.tmps[19]?.getD undef = .pointer (some ⟨b, 6, none⟩) := by rw [← ev]; exact hG.val 12 13 19 _ rfl (hdep ⟨13, .data⟩ (by simp) rfl)
    rw [if_pos (show Region.wanted _ _ = true from rfl)]
    obtain ⟨ph, hSp, hdone⟩ := hG.any
    have hfin := hK (.int .i64 z) w (hG.quiet 13 14 20 _ rfl (by kernel_rfl) (by kernel_rfl))
    have HK := Lib.hid hfin
    generalize (resOf ru3C fun t => a.eval (.tmp t)) = R at *
    obtain ⟨q0, q1, q2, q3, q4, q5, q6⟩ := hx _ _ _ hSp
    clear hx hc hv g1 g2 g3 g4 g5 g6 g7 g8
    clear q0 q1 q2 q3 q4 q5
    clear hSp hdone
    clear hG hcl hdep hfr hK hfin hLi 
    go_simp
    exact HK.out
  | 15, ho =>
    simp only [opsRu3, List.getElem?_toArray, List.getElem?_cons_succ, List.getElem?_cons_zero, Option.some.injEq] at ho
    subst ho
    have x20 : a.tmps[20]?.getD undef = .int .i64 z := by rw [← ev]; exact hG.val 13 14 20 _ rfl (hdep ⟨14, .data⟩ (by simp) rfl)
    rw [if_pos (show Region.wanted _ _ = true from rfl)]
    obtain ⟨ph, hSp, hdone⟩ := hG.any
    have hfin := hK (.int .i64 u6) w (hG.quiet 14 15 21 _ rfl (by kernel_rfl) (by kernel_rfl))
    have HK := Lib.hid hfin
    generalize (resOf ru3C fun t => a.eval (.tmp t)) = R at *
    clear hx hc hv g1 g2 g3 g4 g5 g7 g8
    clear hSp hdone
    clear hG hcl hdep hfr hK hfin hLi 
    go_simp
    exact HK.out
  | 16, ho =>
    simp only [opsRu3, List.getElem?_toArray, List.getElem?_cons_succ, List.getElem?_cons_zero, Option.some.injEq] at ho
    subst ho
    have x18 : a.tmps[18]?.getD undef = .int .i64 u5 := by rw [← ev]; exact hG.val 11 12 18 _ rfl (hdep ⟨12, .data⟩ (by simp) rfl)
    have x21 : a.tmps[21]?.getD undef = .int .i64 u6 := by rw [← ev]; exact hG.val 14 15 21 _ rfl (hdep ⟨15, .data⟩ (by simp) rfl)
    rw [if_pos (show Region.wanted _ _ = true from rfl)]
    obtain ⟨ph, hSp, hdone⟩ := hG.any
    have hfin := hK (.int .i64 u7) w (hG.quiet 15 16 22 _ rfl (by kernel_rfl) (by kernel_rfl))
    have HK := Lib.hid hfin
    generalize (resOf ru3C fun t => a.eval (.tmp t)) = R at *
    clear hx hc hv g1 g2 g3 g4 g5 g6 g8
    clear hSp hdone
    clear hG hcl hdep hfr hK hfin hLi 
    go_simp
    exact HK.out
  | 17, ho =>
    simp only [opsRu3, List.getElem?_toArray, List.getElem?_cons_succ, List.getElem?_cons_zero, Option.some.injEq] at ho
    subst ho
    have x8 : a.tmps[8]?.getD undef = .int .i64 u1 := by rw [← ev]; exact hG.val 1 2 8 _ rfl (hdep ⟨2, .data⟩ (by simp) rfl)
    have x22 : a.tmps[22]?.getD undef = .int .i64 u7 := by rw [← ev]; exact hG.val 15 16 22 _ rfl (hdep ⟨16, .data⟩ (by simp) rfl)
    rw [if_pos (show Region.wanted _ _ = true from rfl)]
    obtain ⟨ph, hSp, hdone⟩ := hG.any
    have hfin := hK (.int .i64 u8) w (hG.quiet 16 17 23 _ rfl (by kernel_rfl) (by kernel_rfl))
    have HK := Lib.hid hfin
    generalize (resOf ru3C fun t => a.eval (.tmp t)) = R at *
    clear hx hc hv g1 g2 g3 g4 g5 g6 g7
    clear hSp hdone
    clear hG hcl hdep hfr hK hfin hLi 
    go_simp
    exact HK.out
  | 18, ho =>
    simp only [opsRu3, List.getElem?_toArray, List.getElem?_cons_succ, List.getElem?_cons_zero, Option.some.injEq] at ho
    subst ho
    have x23 : a.tmps[23]?.getD undef = .int .i64 u8 := by rw [← ev]; exact hG.val 16 17 23 _ rfl (hdep ⟨17, .data⟩ (by simp) rfl)
    rw [if_pos (show Region.wanted _ _ = true from rfl)]
    have hfin := hK (.int .i64 u8) w (hG.quiet 17 18 2 _ rfl (by kernel_rfl) (by kernel_rfl))
    have HK := Lib.hid hfin
    clear hG hcl hdep hfr hK hfin hLi 
    go_simp
    exact HK.out
  | n + 19, ho => exact absurd (Array.getElem?_eq_some_iff.1 ho).1 (by show ¬ n + 19 < 19; omega)
end Go.Proofs.YtgkibkophoikoaaDoor

namespace Go.Proofs.YtgkibkophoikoaaDoor
open Go.RowKit
set_option linter.unusedVariables false
set_option maxRecDepth 100000

set_option maxHeartbeats 3200000 in
theorem rdn_any (y m k : Nat) (hh mi s z : Int) (n : Int) (hn : n = (Dt.num y m k : Int)) (hy : 1970 ≤ y) (hy2 : y ≤ 9999) (hm : 1 ≤ m) (hm2 : m ≤ 12) (hk : 1 ≤ k) (hk2 : k ≤ 31) (w : World) :
    Calls Tryd.prog 42 #[.agg #[.int .i64 (y : Int), .int .i64 (m : Int), .int .i64 (k : Int), .int .i64 hh, .int .i64 mi, .int .i64 s, .int .i64 z]] w fun e w' => e = .returned (.int .i64 n) ∧ Below w.heap.size w w' := by
  obtain ⟨w1, Hw1⟩ : ∃ w1, Hid (w1 = w.alloc (.cells #[.int .i64 (y : Int), .int .i64 (m : Int), .int .i64 (k : Int), .int .i64 hh, .int .i64 mi, .int .i64 s, .int .i64 z] 33)) := ⟨_, Lib.hid rfl⟩
  have HB1 : Hid (Below w.heap.size w w1) := Lib.hid (by rw [Hw1.out]; exact (Below.refl _ _).alloc (Nat.le_refl _) _)
  have HG1 : Hid (Blk w1 w.heap.size 33 #[.int .i64 (y : Int), .int .i64 (m : Int), .int .i64 (k : Int), .int .i64 hh, .int .i64 mi, .int .i64 s, .int .i64 z]) := Lib.hid (by rw [Hw1.out]; exact Blk.new w _ _)
  obtain ⟨a, Ha⟩ : ∃ a, Hid (a = Dt.ahead y) := ⟨_, Lib.hid rfl⟩
  have ha : a ≤ 2932897 := by rw [Ha.out]; exact Dt.ahead_top y hy (by omega)
  have HA := Lib.hid (rahead_any y (a : Int) (by rw [Ha.out]) hy (by omega))
  have HD := Lib.hid (fun (j : Nat) (d : Int) (hd : d = (Dt.dm y j : Int)) (h1 : 1 ≤ j) (h2 : j ≤ 12) => rdays_any y j d hd (by omega) h1 h2)
  have HN : Hid (n = ((a + Dt.ms y (m - 1) + (k - 1) : Nat) : Int)) := Lib.hid (by rw [hn, Ha.out]; unfold Dt.num; rfl)
  obtain ⟨k1, hk1⟩ : ∃ k1 : Nat, (k : Int) - 1 = (k1 : Int) := ⟨k - 1, by omega⟩
  have HK1 : Hid (k - 1 = k1) := Lib.hid (by omega)
  have ik : IntKind.i64.wrap (k1 : Int) = (k1 : Int) := IntWalk.i64_in _ (by omega)
  have ik2 : IntKind.i64.wrap ((k : Int) - 1) = (k1 : Int) := by rw [hk1]; exact ik
  clear hn
  go_enter Tryd.func42, Tryd.ntmps42
  go_wp2_with fail
  rw [← Hw1.out]
  refine (HA.out w1).mono ?_
  rintro e w2 ⟨rfl, rfl⟩
  go_wp2
  go_loopw [3, 4] (fun s3 s4 wr => ∃ j t : Nat, 1 ≤ j ∧ j ≤ m ∧ t ≤ 31 * (j - 1) ∧ s3 = .int .i64 ((a + t : Nat) : Int) ∧ s4 = .int .i64 j ∧ Hid (t = Dt.ms y (j - 1)) ∧ Hid (Blk wr w.heap.size 33 #[.int .i64 (y : Int), .int .i64 (m : Int), .int .i64 (k : Int), .int .i64 hh, .int .i64 mi, .int .i64 s, .int .i64 z]) ∧ Hid (Below w.heap.size w wr)) (fun _ s4 _ => m - (intOf s4).toNat)
  case atStart => exact ⟨1, 0, Nat.le_refl _, hm, Nat.zero_le _, rfl, rfl, Lib.hid rfl, HG1, HB1⟩
  case round =>
    obtain ⟨j, t, h1, h2, ht, rfl, rfl, HT, HGr, HBr⟩ := hrel
    have x0 := HGr.out.cell 0 _ rfl
    have x1 := HGr.out.cell 1 _ rfl
    have x2 := HGr.out.cell 2 _ rfl
    by_cases hlt : j < m
    · obtain ⟨d, Hd⟩ : ∃ d : Nat, Hid (d = Dt.dm y j) := ⟨_, Lib.hid rfl⟩
      have hd31 : d ≤ 31 := by rw [Hd.out]; exact (Dt.dm_pos y j).2
      have HDJ := Lib.hid (HD.out j (d : Int) (by rw [Hd.out]) h1 (by omega))
      have HN2 : Hid (t + d = Dt.ms y (j + 1 - 1)) := Lib.hid (by
        rw [Nat.add_sub_cancel, HT.out, Hd.out]
        obtain ⟨q, rfl⟩ : ∃ q, j = q + 1 := ⟨j - 1, by omega⟩
        rfl)
      obtain ⟨u, hu⟩ : ∃ u : Nat, a + t = u := ⟨_, rfl⟩
      have hu2 : u ≤ 3000000 := by omega
      have i4 : IntKind.i64.wrap ((u : Int) + (d : Int)) = (u : Int) + (d : Int) := IntWalk.i64_in _ (by omega)
      have i5 : IntKind.i64.wrap (d : Int) = (d : Int) := IntWalk.i64_in _ (by omega)
      have HU := Lib.hid hu
      rw [hu]
      clear hu
      go_wp2_with fail
      refine (HDJ.out _).mono ?_
      rintro e w3 ⟨rfl, hb3⟩
      have HG3 := Lib.hid (HGr.out.below hb3 HGr.out.lt)
      have HB3 := Lib.hid (HBr.out.trans (hb3.mono HBr.out.size))
      clear hb3 x0 x1 x2
      go_wp2
      go_roundw
      case rel => exact ⟨j + 1, t + d, by omega, by omega, by omega, by rw [← Nat.add_assoc, HU.out]; go_num, by go_num, HN2, HG3, HB3⟩
      case measure => simp [intOf]; omega
    · obtain rfl : j = m := by omega
      have i6 : IntKind.i64.wrap (((a + t : Nat) : Int) + (k1 : Int)) = ((a + t : Nat) : Int) + (k1 : Int) := IntWalk.i64_in _ (by omega)
      have HE : Hid (n = ((a + t : Nat) : Int) + (k1 : Int)) := Lib.hid (by rw [HN.out, HT.out, HK1.out]; omega)
      go_wp2
      go_ret
      exact ⟨by rw [HE.out]; rfl, HBr.out⟩

set_option maxHeartbeats 3200000 in
theorem runix_any (y m k hh mi s z : Int) (w : World) : Calls Tryd.prog 20 #[.agg #[.int .i64 y, .int .i64 m, .int .i64 k, .int .i64 hh, .int .i64 mi, .int .i64 s, .int .i64 z]] w fun e w' => e = .returned (.int .i64 (if Dt.Good ⟨y, m, k, hh, mi, s, z⟩ then Dt.unix ⟨y, m, k, hh, mi, s, z⟩ else 0)) ∧ Below w.heap.size w w' := by
  have HG := Lib.hid (rgood_any y m k hh mi s z)
  obtain ⟨w1, Hw1⟩ : ∃ w1, Hid (w1 = w.alloc (.cells #[.int .i64 y, .int .i64 m, .int .i64 k, .int .i64 hh, .int .i64 mi, .int .i64 s, .int .i64 z] 33)) := ⟨_, Lib.hid rfl⟩
  have HB1 : Hid (Below w.heap.size w w1) := Lib.hid (by rw [Hw1.out]; exact (Below.refl _ _).alloc (Nat.le_refl _) _)
  have HG1 : Hid (Blk w1 w.heap.size 33 #[.int .i64 y, .int .i64 m, .int .i64 k, .int .i64 hh, .int .i64 mi, .int .i64 s, .int .i64 z]) := Lib.hid (by rw [Hw1.out]; exact Blk.new w _ _)
  by_cases hg : Dt.Good ⟨y, m, k, hh, mi, s, z⟩
  · rw [if_pos hg]
    have HDEC := Lib.hid (decide_eq_true hg)
    obtain ⟨u, HU⟩ : ∃ u, Hid (u = Dt.unix ⟨y, m, k, hh, mi, s, z⟩) := ⟨_, Lib.hid rfl⟩
    rw [← HU.out]
    obtain ⟨⟨a1, a2, a3, a4, a5, a6⟩, ⟨c1, c2⟩, ⟨d1, d2⟩, ⟨e1, e2⟩, f1, f2⟩ := hg
    simp only at a1 a2 a3 a4 a5 a6 c1 c2 d1 d2 e1 e2 f1 f2
    obtain ⟨Y, rfl⟩ : ∃ Y : Nat, y = (Y : Int) := ⟨y.toNat, by omega⟩
    obtain ⟨M, rfl⟩ : ∃ M : Nat, m = (M : Int) := ⟨m.toNat, by omega⟩
    obtain ⟨K, rfl⟩ : ∃ K : Nat, k = (K : Int) := ⟨k.toNat, by omega⟩
    simp only [Int.toNat_natCast] at a6
    have hdm := (Dt.dm_pos Y M).2
    obtain ⟨n, HN⟩ : ∃ n : Nat, Hid (n = Dt.num Y M K) := ⟨_, Lib.hid rfl⟩
    have hn : n < 2932897 := by rw [HN.out]; exact Dt.num_lt_top (by omega) (by omega) (by omega) (by omega) (by omega) (by omega)
    have HDN := Lib.hid (rdn_any Y M K hh mi s z (n : Int) (by rw [HN.out]) (by omega) (by omega) (by omega) (by omega) (by omega) (by omega))
    have hu : (n : Int) * 86400 + (hh * 3600 + mi * 60 + s - z * 60) = u := by
      rw [HU.out, HN.out]
      simp only [Dt.unix, Dt.dnum, Int.toNat_natCast]
      omega
    have i1 : IntKind.i64.wrap ((n : Int) * 86400) = (n : Int) * 86400 := IntWalk.i64_in _ (by omega)
    have i2 : IntKind.i64.wrap (hh * 3600) = hh * 3600 := IntWalk.i64_in _ (by omega)
    have i3 : IntKind.i64.wrap (mi * 60) = mi * 60 := IntWalk.i64_in _ (by omega)
    have i4 : IntKind.i64.wrap (hh * 3600 + mi * 60) = hh * 3600 + mi * 60 := IntWalk.i64_in _ (by omega)
    have i5 : IntKind.i64.wrap (hh * 3600 + mi * 60 + s) = hh * 3600 + mi * 60 + s := IntWalk.i64_in _ (by omega)
    have i6 : IntKind.i64.wrap (z * 60) = z * 60 := IntWalk.i64_in _ (by omega)
    have i7 : IntKind.i64.wrap (hh * 3600 + mi * 60 + s - z * 60) = hh * 3600 + mi * 60 + s - z * 60 := IntWalk.i64_in _ (by omega)
    have i8 : IntKind.i64.wrap ((n : Int) * 86400 + (hh * 3600 + mi * 60 + s - z * 60)) = u := by rw [← hu]; exact IntWalk.i64_in _ (by omega)
    have I := Lib.hid (And.intro i1 (And.intro i2 (And.intro i3 (And.intro i4 (And.intro i5 (And.intro i6 (And.intro i7 i8)))))))
    clear hu a1 a2 a3 a4 a5 a6 c1 c2 d1 d2 e1 e2 f1 f2 hdm i1 i2 i3 i4 i5 i6 i7 i8
    go_enter Tryd.func20, Tryd.ntmps20
    go_wp2_with fail
    rw [← Hw1.out]
    refine (HG.out _).mono ?_
    rintro e w2 ⟨rfl, hb2⟩
    rw [HDEC.out]
    have HB2 := Lib.hid (HB1.out.trans (hb2.mono HB1.out.size))
    have HG2 := Lib.hid (HG1.out.below hb2 HG1.out.lt)
    clear hb2
    go_wp2
    refine ru3 w.heap.size (Y : Int) (M : Int) (K : Int) hh mi s z (n : Int) _ _ _ _ _ _ _ u (fun p R W => Below w2.heap.size w2 W ∧ (0 < p → R 0 = .int .i64 (n : Int))) (by show 23 < 24; omega) rfl ?_ I.out.1 I.out.2.1 I.out.2.2.1 I.out.2.2.2.1 I.out.2.2.2.2.1 I.out.2.2.2.2.2.1 I.out.2.2.2.2.2.2.1 I.out.2.2.2.2.2.2.2 ?_ (fun p R W h => h.2) ⟨(Below.refl _ _).drew, fun h => absurd h (by decide)⟩ ?_
    · intro p R W h
      have g := HG2.out.below h.1 HG2.out.lt
      exact ⟨g.cell 0 _ rfl, g.cell 1 _ rfl, g.cell 2 _ rfl, g.cell 3 _ rfl, g.cell 4 _ rfl, g.cell 5 _ rfl, g.cell 6 _ rfl⟩
    · intro R W h
      refine (HDN.out W).mono ?_
      rintro e w' ⟨rfl, hb⟩
      exact ⟨_, rfl, h.1.trans (hb.mono h.1.size), fun _ => setR_self _ _ _⟩
    · intro af wN hfr h2 hS
      have HBN := Lib.hid (HB2.out.trans (hS.1.mono HB2.out.size))
      clear hS
      have ha := hfr.eq (by intro t ht; simp at ht; show t < 24; omega)
      simp only [List.foldl_cons, List.foldl_nil] at ha
      clear hfr
      rw [h2] at ha
      clear h2
      generalize af.eval (.tmp 6) = u6 at ha
      generalize af.eval (.tmp 7) = u7 at ha
      generalize af.eval (.tmp 8) = u8 at ha
      generalize af.eval (.tmp 9) = u9 at ha
      generalize af.eval (.tmp 10) = u10 at ha
      generalize af.eval (.tmp 11) = u11 at ha
      generalize af.eval (.tmp 12) = u12 at ha
      generalize af.eval (.tmp 13) = u13 at ha
      generalize af.eval (.tmp 14) = u14 at ha
      generalize af.eval (.tmp 15) = u15 at ha
      generalize af.eval (.tmp 16) = u16 at ha
      generalize af.eval (.tmp 17) = u17 at ha
      generalize af.eval (.tmp 18) = u18 at ha
      generalize af.eval (.tmp 19) = u19 at ha
      generalize af.eval (.tmp 20) = u20 at ha
      generalize af.eval (.tmp 21) = u21 at ha
      generalize af.eval (.tmp 22) = u22 at ha
      generalize af.eval (.tmp 23) = u23 at ha
      subst ha
      simp only [Act.put, List.setIfInBounds_toArray, List.set_cons_zero, List.set_cons_succ]
      go_wp2
      go_ret
      exact ⟨rfl, HBN.out⟩
  · rw [if_neg hg]
    have HDEC := Lib.hid (decide_eq_false hg)
    clear hg
    go_enter Tryd.func20, Tryd.ntmps20
    go_wp2_with fail
    rw [← Hw1.out]
    refine (HG.out _).mono ?_
    rintro e w2 ⟨rfl, hb2⟩
    rw [HDEC.out]
    have HB2 := Lib.hid (HB1.out.trans (hb2.mono HB1.out.size))
    clear hb2
    go_wp2
    go_ret
    exact ⟨rfl, HB2.out⟩
end Go.Proofs.YtgkibkophoikoaaDoor
