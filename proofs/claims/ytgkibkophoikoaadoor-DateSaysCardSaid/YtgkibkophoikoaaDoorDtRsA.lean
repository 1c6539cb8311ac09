/- DtRs9, DtRShow: these texts in one. -/
import Derived.Test.YtgkibkophoikoaaDoorVals
import Derived.Test.YtgkibkophoikoaaDoorAppend
import Derived.WalkKit
import Derived.WalkSpells
import Derived.WalkLawsBesides
import Derived.Lib.Hide
import Derived.Laws.Strings3
import Derived.Test.YtgkibkophoikoaaDoorDtRGood
import Derived.Test.YtgkibkophoikoaaDoorDtRTwo
import Derived.Test.YtgkibkophoikoaaDoorFlags
namespace Go.Proofs.YtgkibkophoikoaaDoor
open Go.RowKit
set_option linter.unusedVariables false
set_option linter.unusedSimpArgs false

def opsRs9 : Array Oper := #[
  { dst := some 24, op := Op.move (Operand.tmp 3), type := 9, pos := "ref.go:452", after := #[], guard := none },
  { dst := some 25, op := Op.binOp BinOp.add 9 (Operand.tmp 24) (Operand.const (Value.string { data := #[45] })) 9, type := 9, pos := "ref.go:452", after := #[{ on := 0, ground := Ground.data }], guard := none },
  { dst := some 26, op := Op.call { callee := Callee.value (Operand.func 39), args := #[], argTypes := #[] }, type := 62, pos := "ref.go:452", after := #[], guard := none },
  { dst := some 27, op := Op.fieldAddr 33 (Operand.tmp 1) 1, type := 0, pos := "ref.go:452", after := #[], guard := none },
  { dst := some 28, op := Op.load 3 (Operand.tmp 27), type := 3, pos := "ref.go:452", after := #[{ on := 3, ground := Ground.data }], guard := none },
  { dst := some 29, op := Op.binOp BinOp.sub 3 (Operand.tmp 28) (Operand.const (Value.int IntKind.i64 1)) 3, type := 3, pos := "ref.go:452", after := #[{ on := 4, ground := Ground.data }], guard := none },
  { dst := some 30, op := Op.indexAddr 62 (Operand.tmp 26) (Operand.tmp 29), type := 0, pos := "ref.go:452", after := #[{ on := 2, ground := Ground.data }, { on := 5, ground := Ground.data }], guard := none },
  { dst := some 31, op := Op.load 9 (Operand.tmp 30), type := 9, pos := "ref.go:452", after := #[{ on := 6, ground := Ground.data }], guard := none },
  { dst := some 32, op := Op.binOp BinOp.add 9 (Operand.tmp 25) (Operand.tmp 31) 9, type := 9, pos := "ref.go:452", after := #[{ on := 1, ground := Ground.data }, { on := 7, ground := Ground.data }], guard := none },
  { dst := some 33, op := Op.binOp BinOp.add 9 (Operand.tmp 32) (Operand.const (Value.string { data := #[45] })) 9, type := 9, pos := "ref.go:452", after := #[{ on := 8, ground := Ground.data }], guard := none },
  { dst := some 34, op := Op.fieldAddr 33 (Operand.tmp 1) 0, type := 0, pos := "ref.go:452", after := #[], guard := none },
  { dst := some 35, op := Op.load 3 (Operand.tmp 34), type := 3, pos := "ref.go:452", after := #[{ on := 10, ground := Ground.data }], guard := none },
  { dst := some 36, op := Op.call { callee := Callee.value (Operand.func 45), args := #[Operand.tmp 35], argTypes := #[2] }, type := 9, pos := "ref.go:452", after := #[{ on := 11, ground := Ground.data }, { on := 2, ground := Ground.chain }], guard := none },
  { dst := some 37, op := Op.binOp BinOp.add 9 (Operand.tmp 33) (Operand.tmp 36) 9, type := 9, pos := "ref.go:452", after := #[{ on := 9, ground := Ground.data }, { on := 12, ground := Ground.data }], guard := none },
  { dst := some 38, op := Op.binOp BinOp.add 9 (Operand.tmp 37) (Operand.const (Value.string { data := #[32] })) 9, type := 9, pos := "ref.go:452", after := #[{ on := 13, ground := Ground.data }], guard := none },
  { dst := some 39, op := Op.fieldAddr 33 (Operand.tmp 1) 3, type := 0, pos := "ref.go:452", after := #[], guard := none },
  { dst := some 40, op := Op.load 3 (Operand.tmp 39), type := 3, pos := "ref.go:452", after := #[{ on := 15, ground := Ground.data }], guard := none },
  { dst := some 41, op := Op.call { callee := Callee.value (Operand.func 44), args := #[Operand.tmp 40], argTypes := #[3] }, type := 9, pos := "ref.go:452", after := #[{ on := 16, ground := Ground.data }, { on := 12, ground := Ground.chain }], guard := none },
  { dst := some 42, op := Op.binOp BinOp.add 9 (Operand.tmp 38) (Operand.tmp 41) 9, type := 9, pos := "ref.go:452", after := #[{ on := 14, ground := Ground.data }, { on := 17, ground := Ground.data }], guard := none },
  { dst := some 43, op := Op.binOp BinOp.add 9 (Operand.tmp 42) (Operand.const (Value.string { data := #[58] })) 9, type := 9, pos := "ref.go:452", after := #[{ on := 18, ground := Ground.data }], guard := none },
  { dst := some 44, op := Op.fieldAddr 33 (Operand.tmp 1) 4, type := 0, pos := "ref.go:452", after := #[], guard := none },
  { dst := some 45, op := Op.load 3 (Operand.tmp 44), type := 3, pos := "ref.go:452", after := #[{ on := 20, ground := Ground.data }], guard := none },
  { dst := some 46, op := Op.call { callee := Callee.value (Operand.func 44), args := #[Operand.tmp 45], argTypes := #[3] }, type := 9, pos := "ref.go:452", after := #[{ on := 21, ground := Ground.data }, { on := 17, ground := Ground.chain }], guard := none },
  { dst := some 47, op := Op.binOp BinOp.add 9 (Operand.tmp 43) (Operand.tmp 46) 9, type := 9, pos := "ref.go:452", after := #[{ on := 19, ground := Ground.data }, { on := 22, ground := Ground.data }], guard := none },
  { dst := some 48, op := Op.binOp BinOp.add 9 (Operand.tmp 47) (Operand.const (Value.string { data := #[58] })) 9, type := 9, pos := "ref.go:452", after := #[{ on := 23, ground := Ground.data }], guard := none },
  { dst := some 49, op := Op.fieldAddr 33 (Operand.tmp 1) 5, type := 0, pos := "ref.go:452", after := #[], guard := none },
  { dst := some 50, op := Op.load 3 (Operand.tmp 49), type := 3, pos := "ref.go:452", after := #[{ on := 25, ground := Ground.data }], guard := none },
  { dst := some 51, op := Op.call { callee := Callee.value (Operand.func 44), args := #[Operand.tmp 50], argTypes := #[3] }, type := 9, pos := "ref.go:452", after := #[{ on := 26, ground := Ground.data }, { on := 22, ground := Ground.chain }], guard := none },
  { dst := some 52, op := Op.binOp BinOp.add 9 (Operand.tmp 48) (Operand.tmp 51) 9, type := 9, pos := "ref.go:452", after := #[{ on := 24, ground := Ground.data }, { on := 27, ground := Ground.data }], guard := none },
  { dst := some 53, op := Op.binOp BinOp.add 9 (Operand.tmp 52) (Operand.const (Value.string { data := #[32] })) 9, type := 9, pos := "ref.go:452", after := #[{ on := 28, ground := Ground.data }], guard := none },
  { dst := some 54, op := Op.move (Operand.tmp 5), type := 9, pos := "ref.go:452", after := #[], guard := none },
  { dst := some 55, op := Op.binOp BinOp.add 9 (Operand.tmp 53) (Operand.tmp 54) 9, type := 9, pos := "ref.go:452", after := #[{ on := 29, ground := Ground.data }, { on := 30, ground := Ground.data }], guard := none },
  { dst := some 56, op := Op.move (Operand.tmp 4), type := 3, pos := "ref.go:452", after := #[], guard := none },
  { dst := some 57, op := Op.binOp BinOp.quo 3 (Operand.tmp 56) (Operand.const (Value.int IntKind.i64 60)) 3, type := 3, pos := "ref.go:452", after := #[{ on := 32, ground := Ground.data }], guard := none },
  { dst := some 58, op := Op.call { callee := Callee.value (Operand.func 44), args := #[Operand.tmp 57], argTypes := #[3] }, type := 9, pos := "ref.go:452", after := #[{ on := 33, ground := Ground.data }, { on := 27, ground := Ground.chain }], guard := none },
  { dst := some 59, op := Op.binOp BinOp.add 9 (Operand.tmp 55) (Operand.tmp 58) 9, type := 9, pos := "ref.go:452", after := #[{ on := 31, ground := Ground.data }, { on := 34, ground := Ground.data }], guard := none },
  { dst := some 60, op := Op.move (Operand.tmp 4), type := 3, pos := "ref.go:452", after := #[], guard := none },
  { dst := some 61, op := Op.binOp BinOp.rem 3 (Operand.tmp 60) (Operand.const (Value.int IntKind.i64 60)) 3, type := 3, pos := "ref.go:452", after := #[{ on := 36, ground := Ground.data }], guard := none },
  { dst := some 62, op := Op.call { callee := Callee.value (Operand.func 44), args := #[Operand.tmp 61], argTypes := #[3] }, type := 9, pos := "ref.go:452", after := #[{ on := 37, ground := Ground.data }, { on := 34, ground := Ground.chain }], guard := none },
  { dst := some 63, op := Op.binOp BinOp.add 9 (Operand.tmp 59) (Operand.tmp 62) 9, type := 9, pos := "ref.go:452", after := #[{ on := 35, ground := Ground.data }, { on := 38, ground := Ground.data }], guard := none },
  { dst := some 2, op := Op.assign (Operand.tmp 63), type := 9, pos := "ref.go:452", after := #[{ on := 39, ground := Ground.data }, { on := 38, ground := Ground.chain }, { on := 0, ground := Ground.phase }, { on := 1, ground := Ground.phase }, { on := 2, ground := Ground.phase }, { on := 3, ground := Ground.phase }, { on := 4, ground := Ground.phase }, { on := 5, ground := Ground.phase }, { on := 6, ground := Ground.phase }, { on := 7, ground := Ground.phase }, { on := 8, ground := Ground.phase }, { on := 9, ground := Ground.phase }, { on := 10, ground := Ground.phase }, { on := 11, ground := Ground.phase }, { on := 12, ground := Ground.phase }, { on := 13, ground := Ground.phase }, { on := 14, ground := Ground.phase }, { on := 15, ground := Ground.phase }, { on := 16, ground := Ground.phase }, { on := 17, ground := Ground.phase }, { on := 18, ground := Ground.phase }, { on := 19, ground := Ground.phase }, { on := 20, ground := Ground.phase }, { on := 21, ground := Ground.phase }, { on := 22, ground := Ground.phase }, { on := 23, ground := Ground.phase }, { on := 24, ground := Ground.phase }, { on := 25, ground := Ground.phase }, { on := 26, ground := Ground.phase }, { on := 27, ground := Ground.phase }, { on := 28, ground := Ground.phase }, { on := 29, ground := Ground.phase }, { on := 30, ground := Ground.phase }, { on := 31, ground := Ground.phase }, { on := 32, ground := Ground.phase }, { on := 33, ground := Ground.phase }, { on := 34, ground := Ground.phase }, { on := 35, ground := Ground.phase }, { on := 36, ground := Ground.phase }, { on := 37, ground := Ground.phase }, { on := 38, ground := Ground.phase }, { on := 39, ground := Ground.phase }], guard := none }]

def rs9Vals (b g k n zq zr : Nat) (y m hh mi s : Int) (sx c1 mn c2 c3 dy c4 c5 th c6 c7 tm c8 c9 ts c10 c11 sg c12 x1 c13 x2 c14 : ByteArray) : List (Nat × Nat × Value) := [(0, 24, .string sx), (1, 25, .string c1), (3, 27, .pointer (some ⟨b, 1, none⟩)), (4, 28, .int .i64 m), (5, 29, .int .i64 (k : Int)), (6, 30, .pointer (some ⟨g, k, none⟩)), (7, 31, .string mn), (8, 32, .string c2), (9, 33, .string c3), (10, 34, .pointer (some ⟨b, 0, none⟩)), (11, 35, .int .i64 y), (13, 37, .string c4), (14, 38, .string c5), (15, 39, .pointer (some ⟨b, 3, none⟩)), (16, 40, .int .i64 hh), (18, 42, .string c6), (19, 43, .string c7), (20, 44, .pointer (some ⟨b, 4, none⟩)), (21, 45, .int .i64 mi), (23, 47, .string c8), (24, 48, .string c9), (25, 49, .pointer (some ⟨b, 5, none⟩)), (26, 50, .int .i64 s), (28, 52, .string c10), (29, 53, .string c11), (30, 54, .string sg), (31, 55, .string c12), (32, 56, .int .i64 (n : Int)), (33, 57, .int .i64 (zq : Int)), (35, 59, .string c13), (36, 60, .int .i64 (n : Int)), (37, 61, .int .i64 (zr : Int)), (39, 63, .string c14), (40, 2, .string c14)]
def rs9C : List (Nat × Nat) := [(2, 26), (12, 36), (17, 41), (22, 46), (27, 51), (34, 58), (38, 62)]

set_option maxHeartbeats 8000000 in
set_option maxRecDepth 100000 in
theorem rs9 {Q : Exit → Act → World → Prop} {a0 : Act} {wp : World} (b g k n zq zr : Nat) (y m hh mi s : Int) (sx c1 mn c2 c3 dy c4 c5 th c6 c7 tm c8 c9 ts c10 c11 sg c12 x1 c13 x2 c14 : ByteArray) (S : Nat → (Nat → Value) → World → Prop)
    (hsz : 63 < a0.tmps.size) (in1 : a0.eval (.tmp 1) = .pointer (some ⟨b, 0, none⟩)) (in3 : a0.eval (.tmp 3) = .string sx) (in4 : a0.eval (.tmp 4) = .int .i64 (n : Int)) (in5 : a0.eval (.tmp 5) = .string sg)
    (h0 : sx ++ ⟨#[45]⟩ = c1) (z0 : ¬ 9223372036854775807 < sx.size + 1) (h1 : c1 ++ mn = c2) (z1 : ¬ 9223372036854775807 < c1.size + mn.size) (h2 : c2 ++ ⟨#[45]⟩ = c3) (z2 : ¬ 9223372036854775807 < c2.size + 1) (h3 : c3 ++ dy = c4) (z3 : ¬ 9223372036854775807 < c3.size + dy.size) (h4 : c4 ++ ⟨#[32]⟩ = c5) (z4 : ¬ 9223372036854775807 < c4.size + 1) (h5 : c5 ++ th = c6) (z5 : ¬ 9223372036854775807 < c5.size + th.size) (h6 : c6 ++ ⟨#[58]⟩ = c7) (z6 : ¬ 9223372036854775807 < c6.size + 1) (h7 : c7 ++ tm = c8) (z7 : ¬ 9223372036854775807 < c7.size + tm.size) (h8 : c8 ++ ⟨#[58]⟩ = c9) (z8 : ¬ 9223372036854775807 < c8.size + 1) (h9 : c9 ++ ts = c10) (z9 : ¬ 9223372036854775807 < c9.size + ts.size) (h10 : c10 ++ ⟨#[32]⟩ = c11) (z10 : ¬ 9223372036854775807 < c10.size + 1) (h11 : c11 ++ sg = c12) (z11 : ¬ 9223372036854775807 < c11.size + sg.size) (h12 : c12 ++ x1 = c13) (z12 : ¬ 9223372036854775807 < c12.size + x1.size) (h13 : c13 ++ x2 = c14) (z13 : ¬ 9223372036854775807 < c13.size + x2.size) (hx : ∀ p R w, S p R w → w.cell? ⟨b, 0, none⟩ = some (.int .i64 y) ∧ w.cell? ⟨b, 1, none⟩ = some (.int .i64 m) ∧ w.cell? ⟨b, 3, none⟩ = some (.int .i64 hh) ∧ w.cell? ⟨b, 4, none⟩ = some (.int .i64 mi) ∧ w.cell? ⟨b, 5, none⟩ = some (.int .i64 s))
    (hm : ∀ p R w, S p R w → 0 < p → w.cell? ⟨g, k, none⟩ = some (.string mn))
    (k1 : IntKind.i64.wrap (m - 1) = (k : Int)) (k2 : k < 12) (d1 : (n : Int) / 60 = (zq : Int)) (d2 : IntKind.i64.wrap (zq : Int) = (zq : Int)) (d3 : (n : Int).tmod 60 = (zr : Int))
    (hv : ∀ p R w, S p R w → ∀ j v, j < p → ([.slice (some ⟨g, 0, none⟩) 12 12, .string dy, .string th, .string tm, .string ts, .string x1, .string x2] : List Value)[j]? = some v → R j = v)
    (f0 : ∀ R w, S 0 R w → Calls Tryd.prog 39 #[] w fun e w' => ∃ v, e = .returned v ∧ S 1 (setR R 0 v) w')
    (f1 : ∀ R w, S 1 R w → Calls Tryd.prog 45 #[.int .i64 y] w fun e w' => ∃ v, e = .returned v ∧ S 2 (setR R 1 v) w')
    (f2 : ∀ R w, S 2 R w → Calls Tryd.prog 44 #[.int .i64 hh] w fun e w' => ∃ v, e = .returned v ∧ S 3 (setR R 2 v) w')
    (f3 : ∀ R w, S 3 R w → Calls Tryd.prog 44 #[.int .i64 mi] w fun e w' => ∃ v, e = .returned v ∧ S 4 (setR R 3 v) w')
    (f4 : ∀ R w, S 4 R w → Calls Tryd.prog 44 #[.int .i64 s] w fun e w' => ∃ v, e = .returned v ∧ S 5 (setR R 4 v) w')
    (f5 : ∀ R w, S 5 R w → Calls Tryd.prog 44 #[.int .i64 (zq : Int)] w fun e w' => ∃ v, e = .returned v ∧ S 6 (setR R 5 v) w')
    (f6 : ∀ R w, S 6 R w → Calls Tryd.prog 44 #[.int .i64 (zr : Int)] w fun e w' => ∃ v, e = .returned v ∧ S 7 (setR R 6 v) w')
    (hS : S 0 (resOf rs9C fun t => a0.eval (.tmp t)) wp.drew)
    (fin : ∀ a w, Fr [24, 25, 26, 27, 28, 29, 30, 31, 32, 33, 34, 35, 36, 37, 38, 39, 40, 41, 42, 43, 44, 45, 46, 47, 48, 49, 50, 51, 52, 53, 54, 55, 56, 57, 58, 59, 60, 61, 62, 63, 2] a0 a → a.eval (.tmp 2) = .string c14 → S 7 (resOf rs9C fun t => a.eval (.tmp t)) w → Q .normal a w) :
    (Code.region 9 opsRs9 true).wp Tryd.prog Q a0 wp := by
  refine region_inv (by kernel_rfl) [24, 25, 26, 27, 28, 29, 30, 31, 32, 33, 34, 35, 36, 37, 38, 39, 40, 41, 42, 43, 44, 45, 46, 47, 48, 49, 50, 51, 52, 53, 54, 55, 56, 57, 58, 59, 60, 61, 62, 63, 2] (by kernel_rfl) (by kernel_rfl) (fun t ht => by simp at ht; omega) (GV (rs9Vals b g k n zq zr y m hh mi s sx c1 mn c2 c3 dy c4 c5 th c6 c7 tm c8 c9 ts c10 c11 sg c12 x1 c13 x2 c14) rs9C S) (.start hS) ?_
    (fun L a w hf hall hG => fin a w hf (hG.val 33 40 2 _ rfl (hall 40 (by decide))) (hG.fin (fun c hc => by simp [rs9C] at hc; rcases hc with rfl | rfl | rfl | rfl | rfl | rfl | rfl <;> exact hall _ (by decide))))
  clear hS fin
  intro ix oo ho L a w hfr hG hLi hdep hcl K hK
  have e1 : a.tmps[1]?.getD undef = .pointer (some ⟨b, 0, none⟩) := by rw [← ev]; exact (hfr.same 1 (by decide)).trans in1
  have e3 : a.tmps[3]?.getD undef = .string sx := by rw [← ev]; exact (hfr.same 3 (by decide)).trans in3
  have e4 : a.tmps[4]?.getD undef = .int .i64 (n : Int) := by rw [← ev]; exact (hfr.same 4 (by decide)).trans in4
  have e5 : a.tmps[5]?.getD undef = .string sg := by rw [← ev]; exact (hfr.same 5 (by decide)).trans in5
  clear in1 in3 in4 in5
  match ix, ho with
  | 0, ho =>
    simp only [opsRs9, List.getElem?_toArray, List.getElem?_cons_zero, Option.some.injEq] at ho
    subst ho
    rw [if_pos (show Region.wanted _ _ = true from rfl)]
    obtain ⟨ph, hSp, hdone⟩ := hG.any
    have hfin := hK (.string sx) w (hG.quiet 0 0 24 _ rfl (by kernel_rfl) (by kernel_rfl))
    have HK := Lib.hid hfin
    generalize (resOf rs9C fun t => a.eval (.tmp t)) = R at *
    clear hx hm hv f0 f1 f2 f3 f4 f5 f6 h0 h1 h2 h3 h4 h5 h6 h7 h8 h9 h10 h11 h12 h13 z0 z1 z2 z3 z4 z5 z6 z7 z8 z9 z10 z11 z12 z13 k1 k2 d1 d2 d3
    clear hSp hdone
    clear hG hcl hdep hfr hK hfin hLi 
    go_simp
    exact HK.out
  | 1, ho =>
    simp only [opsRs9, List.getElem?_toArray, List.getElem?_cons_succ, List.getElem?_cons_zero, Option.some.injEq] at ho
    subst ho
    have x24 : a.tmps[24]?.getD undef = .string sx := by rw [← ev]; exact hG.val 0 0 24 _ rfl (hdep ⟨0, .data⟩ (by simp) rfl)
    rw [if_pos (show Region.wanted _ _ = true from rfl)]
    obtain ⟨ph, hSp, hdone⟩ := hG.any
    have hfin := hK (.string c1) w (hG.quiet 1 1 25 _ rfl (by kernel_rfl) (by kernel_rfl))
    have HK := Lib.hid hfin
    generalize (resOf rs9C fun t => a.eval (.tmp t)) = R at *
    clear hx hm hv f0 f1 f2 f3 f4 f5 f6 h1 h2 h3 h4 h5 h6 h7 h8 h9 h10 h11 h12 h13 z1 z2 z3 z4 z5 z6 z7 z8 z9 z10 z11 z12 z13 k1 k2 d1 d2 d3
    clear hSp hdone
    clear hG hcl hdep hfr hK hfin hLi 
    go_simp
    exact HK.out
  | 2, ho =>
    simp only [opsRs9, List.getElem?_toArray, List.getElem?_cons_succ, List.getElem?_cons_zero, Option.some.injEq] at ho
    subst ho
    rw [if_pos (show Region.wanted _ _ = true from rfl)]
    have hSj := hG.at 0 (2, 26) rfl hLi (fun c h0 hc => absurd h0 (by decide))
    have hfin := fun v w' hs => hK v w' (hG.call 0 (2, 26) rfl hLi (fun c h0 hc => absurd h0 (by decide)) (by kernel_rfl) v w' hs)
    have HK := Lib.hid hfin
    generalize (resOf rs9C fun t => a.eval (.tmp t)) = R at *
    clear hG hcl hdep hfr hK hfin hLi
    have hcc := Lib.hid (f0 _ _ hSj)
    clear hSj hx hm hv f0 f1 f2 f3 f4 f5 f6 h0 h1 h2 h3 h4 h5 h6 h7 h8 h9 h10 h11 h12 h13 z0 z1 z2 z3 z4 z5 z6 z7 z8 z9 z10 z11 z12 z13 k1 k2 d1 d2 d3
    go_simp
    go_at_call 39
    refine hcc.out.mono ?_
    rintro e w' ⟨v, rfl, hs⟩
    exact HK.out v w' hs
  | 3, ho =>
    simp only [opsRs9, List.getElem?_toArray, List.getElem?_cons_succ, List.getElem?_cons_zero, Option.some.injEq] at ho
    subst ho
    rw [if_pos (show Region.wanted _ _ = true from rfl)]
    obtain ⟨ph, hSp, hdone⟩ := hG.any
    have hfin := hK (.pointer (some ⟨b, 1, none⟩)) w (hG.quiet 2 3 27 _ rfl (by kernel_rfl) (by kernel_rfl))
    have HK := Lib.hid hfin
    generalize (resOf rs9C fun t => a.eval (.tmp t)) = R at *
    clear hx hm hv f0 f1 f2 f3 f4 f5 f6 h0 h1 h2 h3 h4 h5 h6 h7 h8 h9 h10 h11 h12 h13 z0 z1 z2 z3 z4 z5 z6 z7 z8 z9 z10 z11 z12 z13 k1 k2 d1 d2 d3
    clear hSp hdone
    clear hG hcl hdep hfr hK hfin hLi 
    go_simp
    exact HK.out
  | 4, ho =>
    simp only [opsRs9, List.getElem?_toArray, List.getElem?_cons_succ, List.getElem?_cons_zero, Option.some.injEq] at ho
    subst ho
    have x27 : a.tmps[27]?.getD undef = .pointer (some ⟨b, 1, none⟩) := by rw [← ev]; exact hG.val 2 3 27 _ rfl (hdep ⟨3, .data⟩ (by simp) rfl)
    rw [if_pos (show Region.wanted _ _ = true from rfl)]
    obtain ⟨ph, hSp, hdone⟩ := hG.any
    have hfin := hK (.int .i64 m) w (hG.quiet 3 4 28 _ rfl (by kernel_rfl) (by kernel_rfl))
    have HK := Lib.hid hfin
    generalize (resOf rs9C fun t => a.eval (.tmp t)) = R at *
    obtain ⟨q0, q1, q2, q3, q4⟩ := hx _ _ _ hSp
    clear hx hm hv f0 f1 f2 f3 f4 f5 f6 h0 h1 h2 h3 h4 h5 h6 h7 h8 h9 h10 h11 h12 h13 z0 z1 z2 z3 z4 z5 z6 z7 z8 z9 z10 z11 z12 z13 k1 k2 d1 d2 d3
    clear q0 q2 q3 q4
    clear hSp hdone
    clear hG hcl hdep hfr hK hfin hLi 
    go_simp
    exact HK.out
  | 5, ho =>
    simp only [opsRs9, List.getElem?_toArray, List.getElem?_cons_succ, List.getElem?_cons_zero, Option.some.injEq] at ho
    subst ho
    have x28 : a.tmps[28]?.getD undef = .int .i64 m := by rw [← ev]; exact hG.val 3 4 28 _ rfl (hdep ⟨4, .data⟩ (by simp) rfl)
    rw [if_pos (show Region.wanted _ _ = true from rfl)]
    obtain ⟨ph, hSp, hdone⟩ := hG.any
    have hfin := hK (.int .i64 (k : Int)) w (hG.quiet 4 5 29 _ rfl (by kernel_rfl) (by kernel_rfl))
    have HK := Lib.hid hfin
    generalize (resOf rs9C fun t => a.eval (.tmp t)) = R at *
    clear hx hm hv f0 f1 f2 f3 f4 f5 f6 h0 h1 h2 h3 h4 h5 h6 h7 h8 h9 h10 h11 h12 h13 z0 z1 z2 z3 z4 z5 z6 z7 z8 z9 z10 z11 z12 z13 k2 d1 d2 d3
    clear hSp hdone
    clear hG hcl hdep hfr hK hfin hLi 
    go_simp
    exact HK.out
  | 6, ho =>
    simp only [opsRs9, List.getElem?_toArray, List.getElem?_cons_succ, List.getElem?_cons_zero, Option.some.injEq] at ho
    subst ho
    have x29 : a.tmps[29]?.getD undef = .int .i64 (k : Int) := by rw [← ev]; exact hG.val 4 5 29 _ rfl (hdep ⟨5, .data⟩ (by simp) rfl)
    rw [if_pos (show Region.wanted _ _ = true from rfl)]
    obtain ⟨ph, hSp, hdone⟩ := hG.any
    have hd26 : 0 < ph := hdone 0 (2, 26) rfl (hdep ⟨2, .data⟩ (by simp) rfl)
    have r26 : a.tmps[26]?.getD undef = resOf rs9C (fun t => a.eval (.tmp t)) 0 := by rw [← ev]; exact (resOf_at (C := rs9C) (j := 0) rfl a).symm
    have hfin := hK (.pointer (some ⟨g, k, none⟩)) w (hG.quiet 5 6 30 _ rfl (by kernel_rfl) (by kernel_rfl))
    have HK := Lib.hid hfin
    generalize (resOf rs9C fun t => a.eval (.tmp t)) = R at *
    rw [hv _ _ _ hSp 0 _ hd26 rfl] at r26
    clear hd26
    clear hx hm hv f0 f1 f2 f3 f4 f5 f6 h0 h1 h2 h3 h4 h5 h6 h7 h8 h9 h10 h11 h12 h13 z0 z1 z2 z3 z4 z5 z6 z7 z8 z9 z10 z11 z12 z13 k1 d1 d2 d3
    have k3 : (k : Int) < 12 := by omega
    have k4 : (0 : Int) ≤ (k : Int) := by omega
    clear hSp hdone
    clear hG hcl hdep hfr hK hfin hLi 
    go_simp
    exact HK.out
  | 7, ho =>
    simp only [opsRs9, List.getElem?_toArray, List.getElem?_cons_succ, List.getElem?_cons_zero, Option.some.injEq] at ho
    subst ho
    have x30 : a.tmps[30]?.getD undef = .pointer (some ⟨g, k, none⟩) := by rw [← ev]; exact hG.val 5 6 30 _ rfl (hdep ⟨6, .data⟩ (by simp) rfl)
    rw [if_pos (show Region.wanted _ _ = true from rfl)]
    obtain ⟨ph, hSp, hdone⟩ := hG.any
    have hfin := hK (.string mn) w (hG.quiet 6 7 31 _ rfl (by kernel_rfl) (by kernel_rfl))
    have HK := Lib.hid hfin
    generalize (resOf rs9C fun t => a.eval (.tmp t)) = R at *
    have hd0 : 0 < ph := hdone 0 (2, 26) rfl (hcl 6 _ rfl (hdep ⟨6, .data⟩ (by simp) rfl) ⟨2, .data⟩ (by simp [opsRs9]) rfl)
    have q0 := hm _ _ _ hSp hd0
    clear hd0
    clear hx hm hv f0 f1 f2 f3 f4 f5 f6 h0 h1 h2 h3 h4 h5 h6 h7 h8 h9 h10 h11 h12 h13 z0 z1 z2 z3 z4 z5 z6 z7 z8 z9 z10 z11 z12 z13 k1 k2 d1 d2 d3
    clear hSp hdone
    clear hG hcl hdep hfr hK hfin hLi 
    go_simp
    exact HK.out
  | 8, ho =>
    simp only [opsRs9, List.getElem?_toArray, List.getElem?_cons_succ, List.getElem?_cons_zero, Option.some.injEq] at ho
    subst ho
    have x25 : a.tmps[25]?.getD undef = .string c1 := by rw [← ev]; exact hG.val 1 1 25 _ rfl (hdep ⟨1, .data⟩ (by simp) rfl)
    have x31 : a.tmps[31]?.getD undef = .string mn := by rw [← ev]; exact hG.val 6 7 31 _ rfl (hdep ⟨7, .data⟩ (by simp) rfl)
    rw [if_pos (show Region.wanted _ _ = true from rfl)]
    obtain ⟨ph, hSp, hdone⟩ := hG.any
    have hfin := hK (.string c2) w (hG.quiet 7 8 32 _ rfl (by kernel_rfl) (by kernel_rfl))
    have HK := Lib.hid hfin
    generalize (resOf rs9C fun t => a.eval (.tmp t)) = R at *
    clear hx hm hv f0 f1 f2 f3 f4 f5 f6 h0 h2 h3 h4 h5 h6 h7 h8 h9 h10 h11 h12 h13 z0 z2 z3 z4 z5 z6 z7 z8 z9 z10 z11 z12 z13 k1 k2 d1 d2 d3
    clear hSp hdone
    clear hG hcl hdep hfr hK hfin hLi 
    go_simp
    exact HK.out
  | 9, ho =>
    simp only [opsRs9, List.getElem?_toArray, List.getElem?_cons_succ, List.getElem?_cons_zero, Option.some.injEq] at ho
    subst ho
    have x32 : a.tmps[32]?.getD undef = .string c2 := by rw [← ev]; exact hG.val 7 8 32 _ rfl (hdep ⟨8, .data⟩ (by simp) rfl)
    rw [if_pos (show Region.wanted _ _ = true from rfl)]
    obtain ⟨ph, hSp, hdone⟩ := hG.any
    have hfin := hK (.string c3) w (hG.quiet 8 9 33 _ rfl (by kernel_rfl) (by kernel_rfl))
    have HK := Lib.hid hfin
    generalize (resOf rs9C fun t => a.eval (.tmp t)) = R at *
    clear hx hm hv f0 f1 f2 f3 f4 f5 f6 h0 h1 h3 h4 h5 h6 h7 h8 h9 h10 h11 h12 h13 z0 z1 z3 z4 z5 z6 z7 z8 z9 z10 z11 z12 z13 k1 k2 d1 d2 d3
    clear hSp hdone
    clear hG hcl hdep hfr hK hfin hLi 
    go_simp
    exact HK.out
  | 10, ho =>
    simp only [opsRs9, List.getElem?_toArray, List.getElem?_cons_succ, List.getElem?_cons_zero, Option.some.injEq] at ho
    subst ho
    rw [if_pos (show Region.wanted _ _ = true from rfl)]
    obtain ⟨ph, hSp, hdone⟩ := hG.any
    have hfin := hK (.pointer (some ⟨b, 0, none⟩)) w (hG.quiet 9 10 34 _ rfl (by kernel_rfl) (by kernel_rfl))
    have HK := Lib.hid hfin
    generalize (resOf rs9C fun t => a.eval (.tmp t)) = R at *
    clear hx hm hv f0 f1 f2 f3 f4 f5 f6 h0 h1 h2 h3 h4 h5 h6 h7 h8 h9 h10 h11 h12 h13 z0 z1 z2 z3 z4 z5 z6 z7 z8 z9 z10 z11 z12 z13 k1 k2 d1 d2 d3
    clear hSp hdone
    clear hG hcl hdep hfr hK hfin hLi 
    go_simp
    exact HK.out
  | 11, ho =>
    simp only [opsRs9, List.getElem?_toArray, List.getElem?_cons_succ, List.getElem?_cons_zero, Option.some.injEq] at ho
    subst ho
    have x34 : a.tmps[34]?.getD undef = .pointer (some ⟨b, 0, none⟩) := by rw [← ev]; exact hG.val 9 10 34 _ rfl (hdep ⟨10, .data⟩ (by simp) rfl)
    rw [if_pos (show Region.wanted _ _ = true from rfl)]
    obtain ⟨ph, hSp, hdone⟩ := hG.any
    have hfin := hK (.int .i64 y) w (hG.quiet 10 11 35 _ rfl (by kernel_rfl) (by kernel_rfl))
    have HK := Lib.hid hfin
    generalize (resOf rs9C fun t => a.eval (.tmp t)) = R at *
    obtain ⟨q0, q1, q2, q3, q4⟩ := hx _ _ _ hSp
    clear hx hm hv f0 f1 f2 f3 f4 f5 f6 h0 h1 h2 h3 h4 h5 h6 h7 h8 h9 h10 h11 h12 h13 z0 z1 z2 z3 z4 z5 z6 z7 z8 z9 z10 z11 z12 z13 k1 k2 d1 d2 d3
    clear q1 q2 q3 q4
    clear hSp hdone
    clear hG hcl hdep hfr hK hfin hLi 
    go_simp
    exact HK.out
  | 12, ho =>
    simp only [opsRs9, List.getElem?_toArray, List.getElem?_cons_succ, List.getElem?_cons_zero, Option.some.injEq] at ho
    subst ho
    have x35 : a.tmps[35]?.getD undef = .int .i64 y := by rw [← ev]; exact hG.val 10 11 35 _ rfl (hdep ⟨11, .data⟩ (by simp) rfl)
    rw [if_pos (show Region.wanted _ _ = true from rfl)]
    have hSj := hG.at 1 (12, 36) rfl hLi (fun c h0 hc => by simp [rs9C] at hc; subst hc; exact hdep ⟨2, .chain⟩ (by simp) rfl)
    have hfin := fun v w' hs => hK v w' (hG.call 1 (12, 36) rfl hLi (fun c h0 hc => by simp [rs9C] at hc; subst hc; exact hdep ⟨2, .chain⟩ (by simp) rfl) (by kernel_rfl) v w' hs)
    have HK := Lib.hid hfin
    generalize (resOf rs9C fun t => a.eval (.tmp t)) = R at *
    clear hG hcl hdep hfr hK hfin hLi
    have hcc := Lib.hid (f1 _ _ hSj)
    clear hSj hx hm hv f0 f1 f2 f3 f4 f5 f6 h0 h1 h2 h3 h4 h5 h6 h7 h8 h9 h10 h11 h12 h13 z0 z1 z2 z3 z4 z5 z6 z7 z8 z9 z10 z11 z12 z13 k1 k2 d1 d2 d3
    go_simp
    go_at_call 45
    refine hcc.out.mono ?_
    rintro e w' ⟨v, rfl, hs⟩
    exact HK.out v w' hs
  | 13, ho =>
    simp only [opsRs9, List.getElem?_toArray, List.getElem?_cons_succ, List.getElem?_cons_zero, Option.some.injEq] at ho
    subst ho
    have x33 : a.tmps[33]?.getD undef = .string c3 := by rw [← ev]; exact hG.val 8 9 33 _ rfl (hdep ⟨9, .data⟩ (by simp) rfl)
    rw [if_pos (show Region.wanted _ _ = true from rfl)]
    obtain ⟨ph, hSp, hdone⟩ := hG.any
    have hd36 : 1 < ph := hdone 1 (12, 36) rfl (hdep ⟨12, .data⟩ (by simp) rfl)
    have r36 : a.tmps[36]?.getD undef = resOf rs9C (fun t => a.eval (.tmp t)) 1 := by rw [← ev]; exact (resOf_at (C := rs9C) (j := 1) rfl a).symm
    have hfin := hK (.string c4) w (hG.quiet 11 13 37 _ rfl (by kernel_rfl) (by kernel_rfl))
    have HK := Lib.hid hfin
    generalize (resOf rs9C fun t => a.eval (.tmp t)) = R at *
    rw [hv _ _ _ hSp 1 _ hd36 rfl] at r36
    clear hd36
    clear hx hm hv f0 f1 f2 f3 f4 f5 f6 h0 h1 h2 h4 h5 h6 h7 h8 h9 h10 h11 h12 h13 z0 z1 z2 z4 z5 z6 z7 z8 z9 z10 z11 z12 z13 k1 k2 d1 d2 d3
    clear hSp hdone
    clear hG hcl hdep hfr hK hfin hLi 
    go_simp
    exact HK.out
  | 14, ho =>
    simp only [opsRs9, List.getElem?_toArray, List.getElem?_cons_succ, List.getElem?_cons_zero, Option.some.injEq] at ho
    subst ho
    have x37 : a.tmps[37]?.getD undef = .string c4 := by rw [← ev]; exact hG.val 11 13 37 _ rfl (hdep ⟨13, .data⟩ (by simp) rfl)
    rw [if_pos (show Region.wanted _ _ = true from rfl)]
    obtain ⟨ph, hSp, hdone⟩ := hG.any
    have hfin := hK (.string c5) w (hG.quiet 12 14 38 _ rfl (by kernel_rfl) (by kernel_rfl))
    have HK := Lib.hid hfin
    generalize (resOf rs9C fun t => a.eval (.tmp t)) = R at *
    clear hx hm hv f0 f1 f2 f3 f4 f5 f6 h0 h1 h2 h3 h5 h6 h7 h8 h9 h10 h11 h12 h13 z0 z1 z2 z3 z5 z6 z7 z8 z9 z10 z11 z12 z13 k1 k2 d1 d2 d3
    clear hSp hdone
    clear hG hcl hdep hfr hK hfin hLi 
    go_simp
    exact HK.out
  | 15, ho =>
    simp only [opsRs9, List.getElem?_toArray, List.getElem?_cons_succ, List.getElem?_cons_zero, Option.some.injEq] at ho
    subst ho
    rw [if_pos (show Region.wanted _ _ = true from rfl)]
    obtain ⟨ph, hSp, hdone⟩ := hG.any
    have hfin := hK (.pointer (some ⟨b, 3, none⟩)) w (hG.quiet 13 15 39 _ rfl (by kernel_rfl) (by kernel_rfl))
    have HK := Lib.hid hfin
    generalize (resOf rs9C fun t => a.eval (.tmp t)) = R at *
    clear hx hm hv f0 f1 f2 f3 f4 f5 f6 h0 h1 h2 h3 h4 h5 h6 h7 h8 h9 h10 h11 h12 h13 z0 z1 z2 z3 z4 z5 z6 z7 z8 z9 z10 z11 z12 z13 k1 k2 d1 d2 d3
    clear hSp hdone
    clear hG hcl hdep hfr hK hfin hLi 
    go_simp
    exact HK.out
  | 16, ho =>
    simp only [opsRs9, List.getElem?_toArray, List.getElem?_cons_succ, List.getElem?_cons_zero, Option.some.injEq] at ho
    subst ho
    have x39 : a.tmps[39]?.getD undef = .pointer (some ⟨b, 3, none⟩) := by rw [← ev]; exact hG.val 13 15 39 _ rfl (hdep ⟨15, .data⟩ (by simp) rfl)
    rw [if_pos (show Region.wanted _ _ = true from rfl)]
    obtain ⟨ph, hSp, hdone⟩ := hG.any
    have hfin := hK (.int .i64 hh) w (hG.quiet 14 16 40 _ rfl (by kernel_rfl) (by kernel_rfl))
    have HK := Lib.hid hfin
    generalize (resOf rs9C fun t => a.eval (.tmp t)) = R at *
    obtain ⟨q0, q1, q2, q3, q4⟩ := hx _ _ _ hSp
    clear hx hm hv f0 f1 f2 f3 f4 f5 f6 h0 h1 h2 h3 h4 h5 h6 h7 h8 h9 h10 h11 h12 h13 z0 z1 z2 z3 z4 z5 z6 z7 z8 z9 z10 z11 z12 z13 k1 k2 d1 d2 d3
    clear q0 q1 q3 q4
    clear hSp hdone
    clear hG hcl hdep hfr hK hfin hLi 
    go_simp
    exact HK.out
  | 17, ho =>
    simp only [opsRs9, List.getElem?_toArray, List.getElem?_cons_succ, List.getElem?_cons_zero, Option.some.injEq] at ho
    subst ho
    have x40 : a.tmps[40]?.getD undef = .int .i64 hh := by rw [← ev]; exact hG.val 14 16 40 _ rfl (hdep ⟨16, .data⟩ (by simp) rfl)
    rw [if_pos (show Region.wanted _ _ = true from rfl)]
    have hSj := hG.at 2 (17, 41) rfl hLi (fun c h0 hc => by simp [rs9C] at hc; subst hc; exact hdep ⟨12, .chain⟩ (by simp) rfl)
    have hfin := fun v w' hs => hK v w' (hG.call 2 (17, 41) rfl hLi (fun c h0 hc => by simp [rs9C] at hc; subst hc; exact hdep ⟨12, .chain⟩ (by simp) rfl) (by kernel_rfl) v w' hs)
    have HK := Lib.hid hfin
    generalize (resOf rs9C fun t => a.eval (.tmp t)) = R at *
    clear hG hcl hdep hfr hK hfin hLi
    have hcc := Lib.hid (f2 _ _ hSj)
    clear hSj hx hm hv f0 f1 f2 f3 f4 f5 f6 h0 h1 h2 h3 h4 h5 h6 h7 h8 h9 h10 h11 h12 h13 z0 z1 z2 z3 z4 z5 z6 z7 z8 z9 z10 z11 z12 z13 k1 k2 d1 d2 d3
    go_simp
    go_at_call 44
    refine hcc.out.mono ?_
    rintro e w' ⟨v, rfl, hs⟩
    exact HK.out v w' hs
  | 18, ho =>
    simp only [opsRs9, List.getElem?_toArray, List.getElem?_cons_succ, List.getElem?_cons_zero, Option.some.injEq] at ho
    subst ho
    have x38 : a.tmps[38]?.getD undef = .string c5 := by rw [← ev]; exact hG.val 12 14 38 _ rfl (hdep ⟨14, .data⟩ (by simp) rfl)
    rw [if_pos (show Region.wanted _ _ = true from rfl)]
    obtain ⟨ph, hSp, hdone⟩ := hG.any
    have hd41 : 2 < ph := hdone 2 (17, 41) rfl (hdep ⟨17, .data⟩ (by simp) rfl)
    have r41 : a.tmps[41]?.getD undef = resOf rs9C (fun t => a.eval (.tmp t)) 2 := by rw [← ev]; exact (resOf_at (C := rs9C) (j := 2) rfl a).symm
    have hfin := hK (.string c6) w (hG.quiet 15 18 42 _ rfl (by kernel_rfl) (by kernel_rfl))
    have HK := Lib.hid hfin
    generalize (resOf rs9C fun t => a.eval (.tmp t)) = R at *
    rw [hv _ _ _ hSp 2 _ hd41 rfl] at r41
    clear hd41
    clear hx hm hv f0 f1 f2 f3 f4 f5 f6 h0 h1 h2 h3 h4 h6 h7 h8 h9 h10 h11 h12 h13 z0 z1 z2 z3 z4 z6 z7 z8 z9 z10 z11 z12 z13 k1 k2 d1 d2 d3
    clear hSp hdone
    clear hG hcl hdep hfr hK hfin hLi 
    go_simp
    exact HK.out
  | 19, ho =>
    simp only [opsRs9, List.getElem?_toArray, List.getElem?_cons_succ, List.getElem?_cons_zero, Option.some.injEq] at ho
    subst ho
    have x42 : a.tmps[42]?.getD undef = .string c6 := by rw [← ev]; exact hG.val 15 18 42 _ rfl (hdep ⟨18, .data⟩ (by simp) rfl)
    rw [if_pos (show Region.wanted _ _ = true from rfl)]
    obtain ⟨ph, hSp, hdone⟩ := hG.any
    have hfin := hK (.string c7) w (hG.quiet 16 19 43 _ rfl (by kernel_rfl) (by kernel_rfl))
    have HK := Lib.hid hfin
    generalize (resOf rs9C fun t => a.eval (.tmp t)) = R at *
    clear hx hm hv f0 f1 f2 f3 f4 f5 f6 h0 h1 h2 h3 h4 h5 h7 h8 h9 h10 h11 h12 h13 z0 z1 z2 z3 z4 z5 z7 z8 z9 z10 z11 z12 z13 k1 k2 d1 d2 d3
    clear hSp hdone
    clear hG hcl hdep hfr hK hfin hLi 
    go_simp
    exact HK.out
  | 20, ho =>
    simp only [opsRs9, List.getElem?_toArray, List.getElem?_cons_succ, List.getElem?_cons_zero, Option.some.injEq] at ho
    subst ho
    rw [if_pos (show Region.wanted _ _ = true from rfl)]
    obtain ⟨ph, hSp, hdone⟩ := hG.any
    have hfin := hK (.pointer (some ⟨b, 4, none⟩)) w (hG.quiet 17 20 44 _ rfl (by kernel_rfl) (by kernel_rfl))
    have HK := Lib.hid hfin
    generalize (resOf rs9C fun t => a.eval (.tmp t)) = R at *
    clear hx hm hv f0 f1 f2 f3 f4 f5 f6 h0 h1 h2 h3 h4 h5 h6 h7 h8 h9 h10 h11 h12 h13 z0 z1 z2 z3 z4 z5 z6 z7 z8 z9 z10 z11 z12 z13 k1 k2 d1 d2 d3
    clear hSp hdone
    clear hG hcl hdep hfr hK hfin hLi 
    go_simp
    exact HK.out
  | 21, ho =>
    simp only [opsRs9, List.getElem?_toArray, List.getElem?_cons_succ, List.getElem?_cons_zero, Option.some.injEq] at ho
    subst ho
    have x44 : a.tmps[44]?.getD undef = .pointer (some ⟨b, 4, none⟩) := by rw [← ev]; exact hG.val 17 20 44 _ rfl (hdep ⟨20, .data⟩ (by simp) rfl)
    rw [if_pos (show Region.wanted _ _ = true from rfl)]
    obtain ⟨ph, hSp, hdone⟩ := hG.any
    have hfin := hK (.int .i64 mi) w (hG.quiet 18 21 45 _ rfl (by kernel_rfl) (by kernel_rfl))
    have HK := Lib.hid hfin
    generalize (resOf rs9C fun t => a.eval (.tmp t)) = R at *
    obtain ⟨q0, q1, q2, q3, q4⟩ := hx _ _ _ hSp
    clear hx hm hv f0 f1 f2 f3 f4 f5 f6 h0 h1 h2 h3 h4 h5 h6 h7 h8 h9 h10 h11 h12 h13 z0 z1 z2 z3 z4 z5 z6 z7 z8 z9 z10 z11 z12 z13 k1 k2 d1 d2 d3
    clear q0 q1 q2 q4
    clear hSp hdone
    clear hG hcl hdep hfr hK hfin hLi 
    go_simp
    exact HK.out
  | 22, ho =>
    simp only [opsRs9, List.getElem?_toArray, List.getElem?_cons_succ, List.getElem?_cons_zero, Option.some.injEq] at ho
    subst ho
    have x45 : a.tmps[45]?.getD undef = .int .i64 mi := by rw [← ev]; exact hG.val 18 21 45 _ rfl (hdep ⟨21, .data⟩ (by simp) rfl)
    rw [if_pos (show Region.wanted _ _ = true from rfl)]
    have hSj := hG.at 3 (22, 46) rfl hLi (fun c h0 hc => by simp [rs9C] at hc; subst hc; exact hdep ⟨17, .chain⟩ (by simp) rfl)
    have hfin := fun v w' hs => hK v w' (hG.call 3 (22, 46) rfl hLi (fun c h0 hc => by simp [rs9C] at hc; subst hc; exact hdep ⟨17, .chain⟩ (by simp) rfl) (by kernel_rfl) v w' hs)
    have HK := Lib.hid hfin
    generalize (resOf rs9C fun t => a.eval (.tmp t)) = R at *
    clear hG hcl hdep hfr hK hfin hLi
    have hcc := Lib.hid (f3 _ _ hSj)
    clear hSj hx hm hv f0 f1 f2 f3 f4 f5 f6 h0 h1 h2 h3 h4 h5 h6 h7 h8 h9 h10 h11 h12 h13 z0 z1 z2 z3 z4 z5 z6 z7 z8 z9 z10 z11 z12 z13 k1 k2 d1 d2 d3
    go_simp
    go_at_call 44
    refine hcc.out.mono ?_
    rintro e w' ⟨v, rfl, hs⟩
    exact HK.out v w' hs
  | 23, ho =>
    simp only [opsRs9, List.getElem?_toArray, List.getElem?_cons_succ, List.getElem?_cons_zero, Option.some.injEq] at ho
    subst ho
    have x43 : a.tmps[43]?.getD undef = .string c7 := by rw [← ev]; exact hG.val 16 19 43 _ rfl (hdep ⟨19, .data⟩ (by simp) rfl)
    rw [if_pos (show Region.wanted _ _ = true from rfl)]
    obtain ⟨ph, hSp, hdone⟩ := hG.any
    have hd46 : 3 < ph := hdone 3 (22, 46) rfl (hdep ⟨22, .data⟩ (by simp) rfl)
    have r46 : a.tmps[46]?.getD undef = resOf rs9C (fun t => a.eval (.tmp t)) 3 := by rw [← ev]; exact (resOf_at (C := rs9C) (j := 3) rfl a).symm
    have hfin := hK (.string c8) w (hG.quiet 19 23 47 _ rfl (by kernel_rfl) (by kernel_rfl))
    have HK := Lib.hid hfin
    generalize (resOf rs9C fun t => a.eval (.tmp t)) = R at *
    rw [hv _ _ _ hSp 3 _ hd46 rfl] at r46
    clear hd46
    clear hx hm hv f0 f1 f2 f3 f4 f5 f6 h0 h1 h2 h3 h4 h5 h6 h8 h9 h10 h11 h12 h13 z0 z1 z2 z3 z4 z5 z6 z8 z9 z10 z11 z12 z13 k1 k2 d1 d2 d3
    clear hSp hdone
    clear hG hcl hdep hfr hK hfin hLi 
    go_simp
    exact HK.out
  | 24, ho =>
    simp only [opsRs9, List.getElem?_toArray, List.getElem?_cons_succ, List.getElem?_cons_zero, Option.some.injEq] at ho
    subst ho
    have x47 : a.tmps[47]?.getD undef = .string c8 := by rw [← ev]; exact hG.val 19 23 47 _ rfl (hdep ⟨23, .data⟩ (by simp) rfl)
    rw [if_pos (show Region.wanted _ _ = true from rfl)]
    obtain ⟨ph, hSp, hdone⟩ := hG.any
    have hfin := hK (.string c9) w (hG.quiet 20 24 48 _ rfl (by kernel_rfl) (by kernel_rfl))
    have HK := Lib.hid hfin
    generalize (resOf rs9C fun t => a.eval (.tmp t)) = R at *
    clear hx hm hv f0 f1 f2 f3 f4 f5 f6 h0 h1 h2 h3 h4 h5 h6 h7 h9 h10 h11 h12 h13 z0 z1 z2 z3 z4 z5 z6 z7 z9 z10 z11 z12 z13 k1 k2 d1 d2 d3
    clear hSp hdone
    clear hG hcl hdep hfr hK hfin hLi 
    go_simp
    exact HK.out
  | 25, ho =>
    simp only [opsRs9, List.getElem?_toArray, List.getElem?_cons_succ, List.getElem?_cons_zero, Option.some.injEq] at ho
    subst ho
    rw [if_pos (show Region.wanted _ _ = true from rfl)]
    obtain ⟨ph, hSp, hdone⟩ := hG.any
    have hfin := hK (.pointer (some ⟨b, 5, none⟩)) w (hG.quiet 21 25 49 _ rfl (by kernel_rfl) (by kernel_rfl))
    have HK := Lib.hid hfin
    generalize (resOf rs9C fun t => a.eval (.tmp t)) = R at *
    clear hx hm hv f0 f1 f2 f3 f4 f5 f6 h0 h1 h2 h3 h4 h5 h6 h7 h8 h9 h10 h11 h12 h13 z0 z1 z2 z3 z4 z5 z6 z7 z8 z9 z10 z11 z12 z13 k1 k2 d1 d2 d3
    clear hSp hdone
    clear hG hcl hdep hfr hK hfin hLi 
    go_simp
    exact HK.out
  | 26, ho =>
    simp only [opsRs9, List.getElem?_toArray, List.getElem?_cons_succ, List.getElem?_cons_zero, Option.some.injEq] at ho
    subst ho
    have x49 : a.tmps[49]?.getD undef = .pointer (some ⟨b, 5, none⟩) := by rw [← ev]; exact hG.val 21 25 49 _ rfl (hdep ⟨25, .data⟩ (by simp) rfl)
    rw [if_pos (show Region.wanted _ _ = true from rfl)]
    obtain ⟨ph, hSp, hdone⟩ := hG.any
    have hfin := hK (.int .i64 s) w (hG.quiet 22 26 50 _ rfl (by kernel_rfl) (by kernel_rfl))
    have HK := Lib.hid hfin
    generalize (resOf rs9C fun t => a.eval (.tmp t)) = R at *
    obtain ⟨q0, q1, q2, q3, q4⟩ := hx _ _ _ hSp
    clear hx hm hv f0 f1 f2 f3 f4 f5 f6 h0 h1 h2 h3 h4 h5 h6 h7 h8 h9 h10 h11 h12 h13 z0 z1 z2 z3 z4 z5 z6 z7 z8 z9 z10 z11 z12 z13 k1 k2 d1 d2 d3
    clear q0 q1 q2 q3
    clear hSp hdone
    clear hG hcl hdep hfr hK hfin hLi 
    go_simp
    exact HK.out
  | 27, ho =>
    simp only [opsRs9, List.getElem?_toArray, List.getElem?_cons_succ, List.getElem?_cons_zero, Option.some.injEq] at ho
    subst ho
    have x50 : a.tmps[50]?.getD undef = .int .i64 s := by rw [← ev]; exact hG.val 22 26 50 _ rfl (hdep ⟨26, .data⟩ (by simp) rfl)
    rw [if_pos (show Region.wanted _ _ = true from rfl)]
    have hSj := hG.at 4 (27, 51) rfl hLi (fun c h0 hc => by simp [rs9C] at hc; subst hc; exact hdep ⟨22, .chain⟩ (by simp) rfl)
    have hfin := fun v w' hs => hK v w' (hG.call 4 (27, 51) rfl hLi (fun c h0 hc => by simp [rs9C] at hc; subst hc; exact hdep ⟨22, .chain⟩ (by simp) rfl) (by kernel_rfl) v w' hs)
    have HK := Lib.hid hfin
    generalize (resOf rs9C fun t => a.eval (.tmp t)) = R at *
    clear hG hcl hdep hfr hK hfin hLi
    have hcc := Lib.hid (f4 _ _ hSj)
    clear hSj hx hm hv f0 f1 f2 f3 f4 f5 f6 h0 h1 h2 h3 h4 h5 h6 h7 h8 h9 h10 h11 h12 h13 z0 z1 z2 z3 z4 z5 z6 z7 z8 z9 z10 z11 z12 z13 k1 k2 d1 d2 d3
    go_simp
    go_at_call 44
    refine hcc.out.mono ?_
    rintro e w' ⟨v, rfl, hs⟩
    exact HK.out v w' hs
  | 28, ho =>
    simp only [opsRs9, List.getElem?_toArray, List.getElem?_cons_succ, List.getElem?_cons_zero, Option.some.injEq] at ho
    subst ho
    have x48 : a.tmps[48]?.getD undef = .string c9 := by rw [← ev]; exact hG.val 20 24 48 _ rfl (hdep ⟨24, .data⟩ (by simp) rfl)
    rw [if_pos (show Region.wanted _ _ = true from rfl)]
    obtain ⟨ph, hSp, hdone⟩ := hG.any
    have hd51 : 4 < ph := hdone 4 (27, 51) rfl (hdep ⟨27, .data⟩ (by simp) rfl)
    have r51 : a.tmps[51]?.getD undef = resOf rs9C (fun t => a.eval (.tmp t)) 4 := by rw [← ev]; exact (resOf_at (C := rs9C) (j := 4) rfl a).symm
    have hfin := hK (.string c10) w (hG.quiet 23 28 52 _ rfl (by kernel_rfl) (by kernel_rfl))
    have HK := Lib.hid hfin
    generalize (resOf rs9C fun t => a.eval (.tmp t)) = R at *
    rw [hv _ _ _ hSp 4 _ hd51 rfl] at r51
    clear hd51
    clear hx hm hv f0 f1 f2 f3 f4 f5 f6 h0 h1 h2 h3 h4 h5 h6 h7 h8 h10 h11 h12 h13 z0 z1 z2 z3 z4 z5 z6 z7 z8 z10 z11 z12 z13 k1 k2 d1 d2 d3
    clear hSp hdone
    clear hG hcl hdep hfr hK hfin hLi 
    go_simp
    exact HK.out
  | 29, ho =>
    simp only [opsRs9, List.getElem?_toArray, List.getElem?_cons_succ, List.getElem?_cons_zero, Option.some.injEq] at ho
    subst ho
    have x52 : a.tmps[52]?.getD undef = .string c10 := by rw [← ev]; exact hG.val 23 28 52 _ rfl (hdep ⟨28, .data⟩ (by simp) rfl)
    rw [if_pos (show Region.wanted _ _ = true from rfl)]
    obtain ⟨ph, hSp, hdone⟩ := hG.any
    have hfin := hK (.string c11) w (hG.quiet 24 29 53 _ rfl (by kernel_rfl) (by kernel_rfl))
    have HK := Lib.hid hfin
    generalize (resOf rs9C fun t => a.eval (.tmp t)) = R at *
    clear hx hm hv f0 f1 f2 f3 f4 f5 f6 h0 h1 h2 h3 h4 h5 h6 h7 h8 h9 h11 h12 h13 z0 z1 z2 z3 z4 z5 z6 z7 z8 z9 z11 z12 z13 k1 k2 d1 d2 d3
    clear hSp hdone
    clear hG hcl hdep hfr hK hfin hLi 
    go_simp
    exact HK.out
  | 30, ho =>
    simp only [opsRs9, List.getElem?_toArray, List.getElem?_cons_succ, List.getElem?_cons_zero, Option.some.injEq] at ho
    subst ho
    rw [if_pos (show Region.wanted _ _ = true from rfl)]
    obtain ⟨ph, hSp, hdone⟩ := hG.any
    have hfin := hK (.string sg) w (hG.quiet 25 30 54 _ rfl (by kernel_rfl) (by kernel_rfl))
    have HK := Lib.hid hfin
    generalize (resOf rs9C fun t => a.eval (.tmp t)) = R at *
    clear hx hm hv f0 f1 f2 f3 f4 f5 f6 h0 h1 h2 h3 h4 h5 h6 h7 h8 h9 h10 h11 h12 h13 z0 z1 z2 z3 z4 z5 z6 z7 z8 z9 z10 z11 z12 z13 k1 k2 d1 d2 d3
    clear hSp hdone
    clear hG hcl hdep hfr hK hfin hLi 
    go_simp
    exact HK.out
  | 31, ho =>
    simp only [opsRs9, List.getElem?_toArray, List.getElem?_cons_succ, List.getElem?_cons_zero, Option.some.injEq] at ho
    subst ho
    have x53 : a.tmps[53]?.getD undef = .string c11 := by rw [← ev]; exact hG.val 24 29 53 _ rfl (hdep ⟨29, .data⟩ (by simp) rfl)
    have x54 : a.tmps[54]?.getD undef = .string sg := by rw [← ev]; exact hG.val 25 30 54 _ rfl (hdep ⟨30, .data⟩ (by simp) rfl)
    rw [if_pos (show Region.wanted _ _ = true from rfl)]
    obtain ⟨ph, hSp, hdone⟩ := hG.any
    have hfin := hK (.string c12) w (hG.quiet 26 31 55 _ rfl (by kernel_rfl) (by kernel_rfl))
    have HK := Lib.hid hfin
    generalize (resOf rs9C fun t => a.eval (.tmp t)) = R at *
    clear hx hm hv f0 f1 f2 f3 f4 f5 f6 h0 h1 h2 h3 h4 h5 h6 h7 h8 h9 h10 h12 h13 z0 z1 z2 z3 z4 z5 z6 z7 z8 z9 z10 z12 z13 k1 k2 d1 d2 d3
    clear hSp hdone
    clear hG hcl hdep hfr hK hfin hLi 
    go_simp
    exact HK.out
  | 32, ho =>
    simp only [opsRs9, List.getElem?_toArray, List.getElem?_cons_succ, List.getElem?_cons_zero, Option.some.injEq] at ho
    subst ho
    rw [if_pos (show Region.wanted _ _ = true from rfl)]
    obtain ⟨ph, hSp, hdone⟩ := hG.any
    have hfin := hK (.int .i64 (n : Int)) w (hG.quiet 27 32 56 _ rfl (by kernel_rfl) (by kernel_rfl))
    have HK := Lib.hid hfin
    generalize (resOf rs9C fun t => a.eval (.tmp t)) = R at *
    clear hx hm hv f0 f1 f2 f3 f4 f5 f6 h0 h1 h2 h3 h4 h5 h6 h7 h8 h9 h10 h11 h12 h13 z0 z1 z2 z3 z4 z5 z6 z7 z8 z9 z10 z11 z12 z13 k1 k2 d1 d2 d3
    clear hSp hdone
    clear hG hcl hdep hfr hK hfin hLi 
    go_simp
    exact HK.out
  | 33, ho =>
    simp only [opsRs9, List.getElem?_toArray, List.getElem?_cons_succ, List.getElem?_cons_zero, Option.some.injEq] at ho
    subst ho
    have x56 : a.tmps[56]?.getD undef = .int .i64 (n : Int) := by rw [← ev]; exact hG.val 27 32 56 _ rfl (hdep ⟨32, .data⟩ (by simp) rfl)
    rw [if_pos (show Region.wanted _ _ = true from rfl)]
    obtain ⟨ph, hSp, hdone⟩ := hG.any
    have hfin := hK (.int .i64 (zq : Int)) w (hG.quiet 28 33 57 _ rfl (by kernel_rfl) (by kernel_rfl))
    have HK := Lib.hid hfin
    generalize (resOf rs9C fun t => a.eval (.tmp t)) = R at *
    clear hx hm hv f0 f1 f2 f3 f4 f5 f6 h0 h1 h2 h3 h4 h5 h6 h7 h8 h9 h10 h11 h12 h13 z0 z1 z2 z3 z4 z5 z6 z7 z8 z9 z10 z11 z12 z13 k1 k2 d3
    clear hSp hdone
    clear hG hcl hdep hfr hK hfin hLi 
    go_simp
    exact HK.out
  | 34, ho =>
    simp only [opsRs9, List.getElem?_toArray, List.getElem?_cons_succ, List.getElem?_cons_zero, Option.some.injEq] at ho
    subst ho
    have x57 : a.tmps[57]?.getD undef = .int .i64 (zq : Int) := by rw [← ev]; exact hG.val 28 33 57 _ rfl (hdep ⟨33, .data⟩ (by simp) rfl)
    rw [if_pos (show Region.wanted _ _ = true from rfl)]
    have hSj := hG.at 5 (34, 58) rfl hLi (fun c h0 hc => by simp [rs9C] at hc; subst hc; exact hdep ⟨27, .chain⟩ (by simp) rfl)
    have hfin := fun v w' hs => hK v w' (hG.call 5 (34, 58) rfl hLi (fun c h0 hc => by simp [rs9C] at hc; subst hc; exact hdep ⟨27, .chain⟩ (by simp) rfl) (by kernel_rfl) v w' hs)
    have HK := Lib.hid hfin
    generalize (resOf rs9C fun t => a.eval (.tmp t)) = R at *
    clear hG hcl hdep hfr hK hfin hLi
    have hcc := Lib.hid (f5 _ _ hSj)
    clear hSj hx hm hv f0 f1 f2 f3 f4 f5 f6 h0 h1 h2 h3 h4 h5 h6 h7 h8 h9 h10 h11 h12 h13 z0 z1 z2 z3 z4 z5 z6 z7 z8 z9 z10 z11 z12 z13 k1 k2 d1 d2 d3
    go_simp
    go_at_call 44
    refine hcc.out.mono ?_
    rintro e w' ⟨v, rfl, hs⟩
    exact HK.out v w' hs
  | 35, ho =>
    simp only [opsRs9, List.getElem?_toArray, List.getElem?_cons_succ, List.getElem?_cons_zero, Option.some.injEq] at ho
    subst ho
    have x55 : a.tmps[55]?.getD undef = .string c12 := by rw [← ev]; exact hG.val 26 31 55 _ rfl (hdep ⟨31, .data⟩ (by simp) rfl)
    rw [if_pos (show Region.wanted _ _ = true from rfl)]
    obtain ⟨ph, hSp, hdone⟩ := hG.any
    have hd58 : 5 < ph := hdone 5 (34, 58) rfl (hdep ⟨34, .data⟩ (by simp) rfl)
    have r58 : a.tmps[58]?.getD undef = resOf rs9C (fun t => a.eval (.tmp t)) 5 := by rw [← ev]; exact (resOf_at (C := rs9C) (j := 5) rfl a).symm
    have hfin := hK (.string c13) w (hG.quiet 29 35 59 _ rfl (by kernel_rfl) (by kernel_rfl))
    have HK := Lib.hid hfin
    generalize (resOf rs9C fun t => a.eval (.tmp t)) = R at *
    rw [hv _ _ _ hSp 5 _ hd58 rfl] at r58
    clear hd58
    clear hx hm hv f0 f1 f2 f3 f4 f5 f6 h0 h1 h2 h3 h4 h5 h6 h7 h8 h9 h10 h11 h13 z0 z1 z2 z3 z4 z5 z6 z7 z8 z9 z10 z11 z13 k1 k2 d1 d2 d3
    clear hSp hdone
    clear hG hcl hdep hfr hK hfin hLi 
    go_simp
    exact HK.out
  | 36, ho =>
    simp only [opsRs9, List.getElem?_toArray, List.getElem?_cons_succ, List.getElem?_cons_zero, Option.some.injEq] at ho
    subst ho
    rw [if_pos (show Region.wanted _ _ = true from rfl)]
    obtain ⟨ph, hSp, hdone⟩ := hG.any
    have hfin := hK (.int .i64 (n : Int)) w (hG.quiet 30 36 60 _ rfl (by kernel_rfl) (by kernel_rfl))
    have HK := Lib.hid hfin
    generalize (resOf rs9C fun t => a.eval (.tmp t)) = R at *
    clear hx hm hv f0 f1 f2 f3 f4 f5 f6 h0 h1 h2 h3 h4 h5 h6 h7 h8 h9 h10 h11 h12 h13 z0 z1 z2 z3 z4 z5 z6 z7 z8 z9 z10 z11 z12 z13 k1 k2 d1 d2 d3
    clear hSp hdone
    clear hG hcl hdep hfr hK hfin hLi 
    go_simp
    exact HK.out
  | 37, ho =>
    simp only [opsRs9, List.getElem?_toArray, List.getElem?_cons_succ, List.getElem?_cons_zero, Option.some.injEq] at ho
    subst ho
    have x60 : a.tmps[60]?.getD undef = .int .i64 (n : Int) := by rw [← ev]; exact hG.val 30 36 60 _ rfl (hdep ⟨36, .data⟩ (by simp) rfl)
    rw [if_pos (show Region.wanted _ _ = true from rfl)]
    obtain ⟨ph, hSp, hdone⟩ := hG.any
    have hfin := hK (.int .i64 (zr : Int)) w (hG.quiet 31 37 61 _ rfl (by kernel_rfl) (by kernel_rfl))
    have HK := Lib.hid hfin
    generalize (resOf rs9C fun t => a.eval (.tmp t)) = R at *
    clear hx hm hv f0 f1 f2 f3 f4 f5 f6 h0 h1 h2 h3 h4 h5 h6 h7 h8 h9 h10 h11 h12 h13 z0 z1 z2 z3 z4 z5 z6 z7 z8 z9 z10 z11 z12 z13 k1 k2 d1 d2
    clear hSp hdone
    clear hG hcl hdep hfr hK hfin hLi 
    go_simp
    exact HK.out
  | 38, ho =>
    simp only [opsRs9, List.getElem?_toArray, List.getElem?_cons_succ, List.getElem?_cons_zero, Option.some.injEq] at ho
    subst ho
    have x61 : a.tmps[61]?.getD undef = .int .i64 (zr : Int) := by rw [← ev]; exact hG.val 31 37 61 _ rfl (hdep ⟨37, .data⟩ (by simp) rfl)
    rw [if_pos (show Region.wanted _ _ = true from rfl)]
    have hSj := hG.at 6 (38, 62) rfl hLi (fun c h0 hc => by simp [rs9C] at hc; subst hc; exact hdep ⟨34, .chain⟩ (by simp) rfl)
    have hfin := fun v w' hs => hK v w' (hG.call 6 (38, 62) rfl hLi (fun c h0 hc => by simp [rs9C] at hc; subst hc; exact hdep ⟨34, .chain⟩ (by simp) rfl) (by kernel_rfl) v w' hs)
    have HK := Lib.hid hfin
    generalize (resOf rs9C fun t => a.eval (.tmp t)) = R at *
    clear hG hcl hdep hfr hK hfin hLi
    have hcc := Lib.hid (f6 _ _ hSj)
    clear hSj hx hm hv f0 f1 f2 f3 f4 f5 f6 h0 h1 h2 h3 h4 h5 h6 h7 h8 h9 h10 h11 h12 h13 z0 z1 z2 z3 z4 z5 z6 z7 z8 z9 z10 z11 z12 z13 k1 k2 d1 d2 d3
    go_simp
    go_at_call 44
    refine hcc.out.mono ?_
    rintro e w' ⟨v, rfl, hs⟩
    exact HK.out v w' hs
  | 39, ho =>
    simp only [opsRs9, List.getElem?_toArray, List.getElem?_cons_succ, List.getElem?_cons_zero, Option.some.injEq] at ho
    subst ho
    have x59 : a.tmps[59]?.getD undef = .string c13 := by rw [← ev]; exact hG.val 29 35 59 _ rfl (hdep ⟨35, .data⟩ (by simp) rfl)
    rw [if_pos (show Region.wanted _ _ = true from rfl)]
    obtain ⟨ph, hSp, hdone⟩ := hG.any
    have hd62 : 6 < ph := hdone 6 (38, 62) rfl (hdep ⟨38, .data⟩ (by simp) rfl)
    have r62 : a.tmps[62]?.getD undef = resOf rs9C (fun t => a.eval (.tmp t)) 6 := by rw [← ev]; exact (resOf_at (C := rs9C) (j := 6) rfl a).symm
    have hfin := hK (.string c14) w (hG.quiet 32 39 63 _ rfl (by kernel_rfl) (by kernel_rfl))
    have HK := Lib.hid hfin
    generalize (resOf rs9C fun t => a.eval (.tmp t)) = R at *
    rw [hv _ _ _ hSp 6 _ hd62 rfl] at r62
    clear hd62
    clear hx hm hv f0 f1 f2 f3 f4 f5 f6 h0 h1 h2 h3 h4 h5 h6 h7 h8 h9 h10 h11 h12 z0 z1 z2 z3 z4 z5 z6 z7 z8 z9 z10 z11 z12 k1 k2 d1 d2 d3
    clear hSp hdone
    clear hG hcl hdep hfr hK hfin hLi 
    go_simp
    exact HK.out
  | 40, ho =>
    simp only [opsRs9, List.getElem?_toArray, List.getElem?_cons_succ, List.getElem?_cons_zero, Option.some.injEq] at ho
    subst ho
    have x63 : a.tmps[63]?.getD undef = .string c14 := by rw [← ev]; exact hG.val 32 39 63 _ rfl (hdep ⟨39, .data⟩ (by simp) rfl)
    rw [if_pos (show Region.wanted _ _ = true from rfl)]
    have hfin := hK (.string c14) w (hG.quiet 33 40 2 _ rfl (by kernel_rfl) (by kernel_rfl))
    have HK := Lib.hid hfin
    clear hG hcl hdep hfr hK hfin hLi 
    go_simp
    exact HK.out
  | n + 41, ho => exact absurd (Array.getElem?_eq_some_iff.1 ho).1 (by show ¬ n + 41 < 41; omega)
end Go.Proofs.YtgkibkophoikoaaDoor

namespace Go.Proofs.YtgkibkophoikoaaDoor
open Go.RowKit
set_option linter.unusedVariables false
set_option linter.unusedSimpArgs false
set_option maxRecDepth 100000

theorem cat (a b : ByteArray) (k : Nat) (ha : a.size ≤ k) (hb : b.size ≤ 4) (hk : k ≤ 1000) : ∃ c, a ++ b = c ∧ c.size ≤ k + 4 ∧ c.data.toList = a.data.toList ++ b.data.toList ∧ ¬ 9223372036854775807 < a.size + b.size :=
  ⟨_, rfl, by rw [ByteArray.size_append]; omega, by rw [ByteArray.data_append]; simp, by omega⟩
theorem size_of (x : ByteArray) (l : List UInt8) (n : Nat) (h : x.data.toList = l) (hn : l.length = n) : x.size = n := by
  have h1 : x.data.toList.length = x.size := rfl
  rw [h, hn] at h1
  exact h1.symm

/-- ShowDate's region under way. -/
structure RS (w3 : World) (dy th tm ts x1 x2 : ByteArray) (p : Nat) (R : Nat → Value) (W : World) : Prop where
  below : Below w3.heap.size w3 W
  mon : 0 < p → Blk W w3.heap.size 9 mcells
  val : ∀ j v, j < p → ([.slice (some ⟨w3.heap.size, 0, none⟩) 12 12, .string dy, .string th, .string tm, .string ts, .string x1, .string x2] : List Value)[j]? = some v → R j = v
  size : p = 0 → W.heap.size = w3.heap.size
theorem RS.first {w3 W W' : World} {dy th tm ts x1 x2 : ByteArray} {R : Nat → Value} (h : RS w3 dy th tm ts x1 x2 0 R W) (hm : Blk W' W.heap.size 9 mcells) (hb : Below W.heap.size W W') : RS w3 dy th tm ts x1 x2 1 (setR R 0 (.slice (some ⟨W.heap.size, 0, none⟩) 12 12)) W' := by
  have e := h.size rfl
  rw [e] at hm hb ⊢
  refine ⟨h.below.trans hb, fun _ => hm, fun j v hj hv => ?_, fun h => by cases h⟩
  obtain rfl : j = 0 := by omega
  rw [setR_self]
  exact Option.some.inj hv
theorem RS.next {w3 W W' : World} {dy th tm ts x1 x2 : ByteArray} {R : Nat → Value} {p : Nat} {u : Value} (h : RS w3 dy th tm ts x1 x2 p R W) (hp : 0 < p) (hb : Below W.heap.size W W') (hu : ([.slice (some ⟨w3.heap.size, 0, none⟩) 12 12, .string dy, .string th, .string tm, .string ts, .string x1, .string x2] : List Value)[p]? = some u) : RS w3 dy th tm ts x1 x2 (p + 1) (setR R p u) W' := by
  refine ⟨h.below.trans (hb.mono h.below.size), fun _ => (h.mon hp).below hb (h.mon hp).lt, fun j v hj hv => ?_, fun h => by cases h⟩
  by_cases e : j = p
  · subst e; rw [setR_self]; exact Option.some.inj (hu.symm.trans hv)
  · rw [setR_ne R u e]; exact h.val j v (by omega) hv

set_option maxHeartbeats 6400000 in
theorem rshow_any (y m k hh mi s z : Int) (w : World) : Calls Tryd.prog 21 #[.agg #[.int .i64 y, .int .i64 m, .int .i64 k, .int .i64 hh, .int .i64 mi, .int .i64 s, .int .i64 z]] w fun e w' => e = .returned (.string ⟨(Dt.shown ⟨y, m, k, hh, mi, s, z⟩).toArray⟩) ∧ Below w.heap.size w w' := by
  have HG := Lib.hid (rgood_any y m k hh mi s z)
  obtain ⟨w1, Hw1⟩ : ∃ w1, Hid (w1 = w.alloc (.cells #[.int .i64 y, .int .i64 m, .int .i64 k, .int .i64 hh, .int .i64 mi, .int .i64 s, .int .i64 z] 33)) := ⟨_, Lib.hid rfl⟩
  have HB1 : Hid (Below w.heap.size w w1) := Lib.hid (by rw [Hw1.out]; exact (Below.refl _ _).alloc (Nat.le_refl _) _)
  have HG1 : Hid (Blk w1 w.heap.size 33 #[.int .i64 y, .int .i64 m, .int .i64 k, .int .i64 hh, .int .i64 mi, .int .i64 s, .int .i64 z]) := Lib.hid (by rw [Hw1.out]; exact Blk.new w _ _)
  by_cases hg : Dt.Good ⟨y, m, k, hh, mi, s, z⟩
  case neg =>
    have HS : Hid (Dt.shown ⟨y, m, k, hh, mi, s, z⟩ = []) := Lib.hid (Dt.shown_bad hg)
    have HDEC := Lib.hid (decide_eq_false hg)
    clear hg
    go_enter Tryd.func21, Tryd.ntmps21
    go_wp2_with fail
    rw [← Hw1.out]
    refine (HG.out _).mono ?_
    rintro e w2 ⟨rfl, hb2⟩
    rw [HDEC.out]
    have HB2 := Lib.hid (HB1.out.trans (hb2.mono HB1.out.size))
    clear hb2
    go_wp2
    go_ret
    exact ⟨by rw [HS.out]; rfl, HB2.out⟩
  have HDEC := Lib.hid (decide_eq_true hg)
  have HS : Hid (Dt.shown ⟨y, m, k, hh, mi, s, z⟩ = Dt.text ⟨y, m, k, hh, mi, s, z⟩) := Lib.hid (Dt.shown_good hg)
  obtain ⟨⟨a1, a2, a3, a4, a5, a6⟩, ⟨c1, c2⟩, ⟨d1, d2⟩, ⟨e1, e2⟩, f1, f2⟩ := hg
  simp only at a1 a2 a3 a4 a5 a6 c1 c2 d1 d2 e1 e2 f1 f2
  obtain ⟨Y, rfl⟩ : ∃ Y : Nat, y = (Y : Int) := ⟨y.toNat, by omega⟩
  obtain ⟨M, rfl⟩ : ∃ M : Nat, m = (M : Int) := ⟨m.toNat, by omega⟩
  obtain ⟨K, rfl⟩ : ∃ K : Nat, k = (K : Int) := ⟨k.toNat, by omega⟩
  obtain ⟨H, rfl⟩ : ∃ H : Nat, hh = (H : Int) := ⟨hh.toNat, by omega⟩
  obtain ⟨I, rfl⟩ : ∃ I : Nat, mi = (I : Int) := ⟨mi.toNat, by omega⟩
  obtain ⟨S, rfl⟩ : ∃ S : Nat, s = (S : Int) := ⟨s.toNat, by omega⟩
  simp only [Int.toNat_natCast] at a6
  have hdm := (Dt.dm_pos Y M).2
  have hK : K ≤ 31 := by omega
  obtain ⟨n, Hn⟩ : ∃ n : Nat, Hid (n = z.natAbs) := ⟨_, Lib.hid rfl⟩
  have hn : n ≤ 1439 := by rw [Hn.out]; omega
  obtain ⟨zq, Hzq⟩ : ∃ zq : Nat, Hid (zq = n / 60) := ⟨_, Lib.hid rfl⟩
  obtain ⟨zr, Hzr⟩ : ∃ zr : Nat, Hid (zr = n % 60) := ⟨_, Lib.hid rfl⟩
  have hzq : zq < 24 := by rw [Hzq.out]; omega
  have hzr : zr < 60 := by rw [Hzr.out]; omega
  obtain ⟨km, Hkm⟩ : ∃ km : Nat, Hid (M = km + 1) := ⟨M - 1, Lib.hid (by omega)⟩
  have hkm : km < 12 := by have := Hkm.out; omega
  have K1 : Hid (IntKind.i64.wrap ((M : Int) - 1) = (km : Int)) := Lib.hid (by have := Hkm.out; rw [show (M : Int) - 1 = (km : Int) by omega]; exact IntWalk.i64_in _ (by omega))
  have D1 : Hid ((n : Int) / 60 = (zq : Int)) := Lib.hid (by rw [Hzq.out]; exact quo_nat n 60)
  have D2 : Hid (IntKind.i64.wrap (zq : Int) = (zq : Int)) := Lib.hid (IntWalk.i64_in _ (by omega))
  have D3 : Hid ((n : Int).tmod 60 = (zr : Int)) := Lib.hid (by rw [Hzr.out]; exact tmod_nat n 60 (by decide))
  have hstr : ∀ l : List UInt8, ∃ x : ByteArray, x.data.toList = l := fun l => ⟨⟨l.toArray⟩, rfl⟩
  obtain ⟨x0, dx0⟩ := hstr (Dt.two K)
  obtain ⟨dy, ddy⟩ := hstr (Dt.four Y)
  obtain ⟨th, dth⟩ := hstr (Dt.two H)
  obtain ⟨tm, dtm⟩ := hstr (Dt.two I)
  obtain ⟨ts, dts⟩ := hstr (Dt.two S)
  obtain ⟨x1, dx1⟩ := hstr (Dt.two zq)
  obtain ⟨x2, dx2⟩ := hstr (Dt.two zr)
  obtain ⟨mn, Hmn⟩ : ∃ mn : ByteArray, Hid (mn = ⟨(Dt.mname (km + 1)).toArray⟩) := ⟨_, Lib.hid rfl⟩
  have dmn : mn.data.toList = Dt.mname M := by rw [Hmn.out, Hkm.out]
  have HT0 := Lib.hid (rtwo_any K (by omega) x0 dx0)
  have HTH := Lib.hid (rtwo_any H (by omega) th dth)
  have HTI := Lib.hid (rtwo_any I (by omega) tm dtm)
  have HTS := Lib.hid (rtwo_any S (by omega) ts dts)
  have HTQ := Lib.hid (rtwo_any zq (by omega) x1 dx1)
  have HTR := Lib.hid (rtwo_any zr (by omega) x2 dx2)
  have HDY : Hid (∀ W, Calls Tryd.prog 45 #[.int .i64 (Y : Int)] W fun e w' => e = .returned (.string dy) ∧ Below W.heap.size W w') := Lib.hid (fun W => by
    have := digits_any Y (by omega) W
    rw [Dt.four_dec Y (by omega) (by omega), ← ddy] at this
    exact this)
  have zx0 := size_of x0 _ 2 dx0 rfl
  have zdy := size_of dy _ 4 ddy rfl
  have zth := size_of th _ 2 dth rfl
  have ztm := size_of tm _ 2 dtm rfl
  have zts := size_of ts _ 2 dts rfl
  have zx1 := size_of x1 _ 2 dx1 rfl
  have zx2 := size_of x2 _ 2 dx2 rfl
  have zmn := size_of mn _ 3 dmn (Dt.mname_len M)
  have DX0 := Lib.hid dx0
  have DD := Lib.hid (And.intro ddy (And.intro dth (And.intro dtm (And.intro dts (And.intro dx1 (And.intro dx2 dmn))))))
  have ZX0 := Lib.hid zx0
  have ZZ := Lib.hid (And.intro zdy (And.intro zth (And.intro ztm (And.intro zts (And.intro zx1 (And.intro zx2 zmn))))))
  clear a1 a2 a3 a4 a5 a6 c1 c2 d1 d2 e1 e2 hdm hstr dx0 ddy dth dtm dts dx1 dx2 dmn zx0 zdy zth ztm zts zx1 zx2 zmn
  by_cases h10 : K < 10
  · have k10 : (K : Int) < 10 := by omega
    obtain ⟨q, hq⟩ : ∃ q, x0.extract 1 x0.size = q := ⟨_, rfl⟩
    have dq : q.data.toList = [Dt.dg (K % 10)] := by rw [← hq, Lib.extract_data, DX0.out, ZX0.out]; rfl
    have zq1 := size_of q _ 1 dq rfl
    obtain ⟨sx, hsx, zsx, dsx, bsx⟩ := cat ⟨#[32]⟩ q 1 (by decide) (by omega) (by decide)
    have bsx2 : ¬ 9223372036854775807 < 1 + q.size := bsx
    have DSX : Hid (sx.data.toList = Dt.day2 K) := Lib.hid (by rw [dsx, dq]; unfold Dt.day2; rw [if_pos h10]; rfl)
    have hx1 : (1 : Int) ≤ (x0.size : Int) := by rw [ZX0.out]; decide
    have zsx4 : sx.size ≤ 4 := by have := size_of sx _ 2 DSX.out rfl; omega
    clear dq dsx zsx bsx h10
    by_cases hz : z < 0
    · have iz : IntKind.i64.wrap (-z) = (n : Int) := by rw [show -z = (n : Int) by rw [Hn.out]; omega]; exact IntWalk.i64_in _ (by omega)
      have HTX : Hid (Dt.text ⟨Y, M, K, H, I, S, z⟩ = (((((((((((((Dt.day2 K ++ [45]) ++ Dt.mname M) ++ [45]) ++ Dt.four Y) ++ [32]) ++ Dt.two H) ++ [58]) ++ Dt.two I) ++ [58]) ++ Dt.two S) ++ [32]) ++ [45]) ++ Dt.two zq) ++ Dt.two zr) := Lib.hid (by
        have e1 : decide ((z : Int) < 0) = true := decide_eq_true hz
        simp only [Dt.text, Dt.shownN, Dt.day2, Int.toNat_natCast, List.append_assoc, List.cons_append, List.nil_append, e1, ← Hn.out, ← Hzq.out, ← Hzr.out, if_true, Bool.false_eq_true, if_false])
      go_enter Tryd.func21, Tryd.ntmps21
      go_wp2_with fail
      rw [← Hw1.out]
      refine (HG.out _).mono ?_
      rintro e w2 ⟨rfl, hb2⟩
      rw [HDEC.out]
      have HB2 := Lib.hid (HB1.out.trans (hb2.mono HB1.out.size))
      have HG2 := Lib.hid (HG1.out.below hb2 HG1.out.lt)
      have v2 := HG2.out.cell 2 _ rfl
      clear hb2
      go_wp2_with fail
      clear v2
      refine (HT0.out _).mono ?_
      rintro e w3 ⟨rfl, hb3⟩
      have HB3 := Lib.hid (HB2.out.trans (hb3.mono HB2.out.size))
      have HG3 := Lib.hid (HG2.out.below hb3 HG2.out.lt)
      have v2 := HG3.out.cell 2 _ rfl
      have v6 := HG3.out.cell 6 _ rfl
      clear hb3
      go_wp2
      clear v2 v6
      obtain ⟨zdy, zth, ztm, zts, zx1, zx2, zmn⟩ := ZZ.out
      obtain ⟨ddy, dth, dtm, dts, dx1, dx2, dmn⟩ := DD.out
      obtain ⟨c1, h0, s0, t0, z0⟩ := cat sx ⟨#[45]⟩ 4 (by omega) (by decide) (by decide)
      obtain ⟨c2, h1, s1, t1, z1⟩ := cat c1 mn 8 (by omega) (by omega) (by decide)
      obtain ⟨c3, h2, s2, t2, z2⟩ := cat c2 ⟨#[45]⟩ 12 (by omega) (by decide) (by decide)
      obtain ⟨c4, h3, s3, t3, z3⟩ := cat c3 dy 16 (by omega) (by omega) (by decide)
      obtain ⟨c5, h4, s4, t4, z4⟩ := cat c4 ⟨#[32]⟩ 20 (by omega) (by decide) (by decide)
      obtain ⟨c6, h5, s5, t5, z5⟩ := cat c5 th 24 (by omega) (by omega) (by decide)
      obtain ⟨c7, h6, s6, t6, z6⟩ := cat c6 ⟨#[58]⟩ 28 (by omega) (by decide) (by decide)
      obtain ⟨c8, h7, s7, t7, z7⟩ := cat c7 tm 32 (by omega) (by omega) (by decide)
      obtain ⟨c9, h8, s8, t8, z8⟩ := cat c8 ⟨#[58]⟩ 36 (by omega) (by decide) (by decide)
      obtain ⟨c10, h9, s9, t9, z9⟩ := cat c9 ts 40 (by omega) (by omega) (by decide)
      obtain ⟨c11, h10, s10, t10, z10⟩ := cat c10 ⟨#[32]⟩ 44 (by omega) (by decide) (by decide)
      obtain ⟨c12, h11, s11, t11, z11⟩ := cat c11 ⟨#[45]⟩ 48 (by omega) (by decide) (by decide)
      obtain ⟨c13, h12, s12, t12, z12⟩ := cat c12 x1 52 (by omega) (by omega) (by decide)
      obtain ⟨c14, h13, s13, t13, z13⟩ := cat c13 x2 56 (by omega) (by omega) (by decide)
      have HF : Hid (c14.data.toList = Dt.shown ⟨Y, M, K, H, I, S, z⟩) := Lib.hid (by
        rw [HS.out, HTX.out, t13, t12, t11, t10, t9, t8, t7, t6, t5, t4, t3, t2, t1, t0, DSX.out, ddy, dth, dtm, dts, dx1, dx2, dmn])
      have HQ := Lib.hid (And.intro h0 (And.intro h1 (And.intro h2 (And.intro h3 (And.intro h4 (And.intro h5 (And.intro h6 (And.intro h7 (And.intro h8 (And.intro h9 (And.intro h10 (And.intro h11 (And.intro h12 h13)))))))))))))
      have HZ2 := Lib.hid (And.intro z0 (And.intro z1 (And.intro z2 (And.intro z3 (And.intro z4 (And.intro z5 (And.intro z6 (And.intro z7 (And.intro z8 (And.intro z9 (And.intro z10 (And.intro z11 (And.intro z12 z13)))))))))))))
      clear zdy zth ztm zts zx1 zx2 zmn ddy dth dtm dts dx1 dx2 dmn h0 h1 h2 h3 h4 h5 h6 h7 h8 h9 h10 h11 h12 h13 s0 s1 s2 s3 s4 s5 s6 s7 s8 s9 s10 s11 s12 s13 t0 t1 t2 t3 t4 t5 t6 t7 t8 t9 t10 t11 t12 t13 z0 z1 z2 z3 z4 z5 z6 z7 z8 z9 z10 z11 z12 z13
      refine rs9 w.heap.size w3.heap.size km n zq zr (Y : Int) (M : Int) (H : Int) (I : Int) (S : Int) sx c1 mn c2 c3 dy c4 c5 th c6 c7 tm c8 c9 ts c10 c11 ⟨#[45]⟩ c12 x1 c13 x2 c14 (RS w3 dy th tm ts x1 x2) (by show 63 < 64; omega) rfl rfl rfl rfl (HQ.out.1) (HZ2.out.1) (HQ.out.2.1) (HZ2.out.2.1) (HQ.out.2.2.1) (HZ2.out.2.2.1) (HQ.out.2.2.2.1) (HZ2.out.2.2.2.1) (HQ.out.2.2.2.2.1) (HZ2.out.2.2.2.2.1) (HQ.out.2.2.2.2.2.1) (HZ2.out.2.2.2.2.2.1) (HQ.out.2.2.2.2.2.2.1) (HZ2.out.2.2.2.2.2.2.1) (HQ.out.2.2.2.2.2.2.2.1) (HZ2.out.2.2.2.2.2.2.2.1) (HQ.out.2.2.2.2.2.2.2.2.1) (HZ2.out.2.2.2.2.2.2.2.2.1) (HQ.out.2.2.2.2.2.2.2.2.2.1) (HZ2.out.2.2.2.2.2.2.2.2.2.1) (HQ.out.2.2.2.2.2.2.2.2.2.2.1) (HZ2.out.2.2.2.2.2.2.2.2.2.2.1) (HQ.out.2.2.2.2.2.2.2.2.2.2.2.1) (HZ2.out.2.2.2.2.2.2.2.2.2.2.2.1) (HQ.out.2.2.2.2.2.2.2.2.2.2.2.2.1) (HZ2.out.2.2.2.2.2.2.2.2.2.2.2.2.1) (HQ.out.2.2.2.2.2.2.2.2.2.2.2.2.2) (HZ2.out.2.2.2.2.2.2.2.2.2.2.2.2.2) ?_ ?_ K1.out hkm D1.out D2.out D3.out (fun p R W h => h.val) ?_ ?_ ?_ ?_ ?_ ?_ ?_ ⟨(Below.refl _ _).drew, fun h => absurd h (by decide), fun j v hj => absurd hj (by omega), fun _ => rfl⟩ ?_
      · intro p R W h
        have g := HG3.out.below h.below HG3.out.lt
        exact ⟨g.cell 0 _ rfl, g.cell 1 _ rfl, g.cell 3 _ rfl, g.cell 4 _ rfl, g.cell 5 _ rfl⟩
      · intro p R W h hp
        rw [Hmn.out]
        exact (h.mon hp).cell km _ (mcells_at km hkm)
      · intro R W h
        have hs := h.size rfl
        refine (rmonths_any W).mono ?_
        rintro e w' ⟨rfl, hm, hb⟩
        exact ⟨_, rfl, RS.first h hm hb⟩
      · intro R W h
        refine (HDY.out W).mono ?_
        rintro e w' ⟨rfl, hb⟩
        exact ⟨_, rfl, RS.next h (by decide) hb rfl⟩
      · intro R W h
        refine (HTH.out W).mono ?_
        rintro e w' ⟨rfl, hb⟩
        exact ⟨_, rfl, RS.next h (by decide) hb rfl⟩
      · intro R W h
        refine (HTI.out W).mono ?_
        rintro e w' ⟨rfl, hb⟩
        exact ⟨_, rfl, RS.next h (by decide) hb rfl⟩
      · intro R W h
        refine (HTS.out W).mono ?_
        rintro e w' ⟨rfl, hb⟩
        exact ⟨_, rfl, RS.next h (by decide) hb rfl⟩
      · intro R W h
        refine (HTQ.out W).mono ?_
        rintro e w' ⟨rfl, hb⟩
        exact ⟨_, rfl, RS.next h (by decide) hb rfl⟩
      · intro R W h
        refine (HTR.out W).mono ?_
        rintro e w' ⟨rfl, hb⟩
        exact ⟨_, rfl, RS.next h (by decide) hb rfl⟩
      · intro af wN hfr h2 hS
        have HBN := Lib.hid (HB3.out.trans (hS.below.mono HB3.out.size))
        clear hS
        have ha := hfr.eq (by intro t ht; simp at ht; show t < 64; omega)
        simp only [List.foldl_cons, List.foldl_nil] at ha
        clear hfr
        rw [h2] at ha
        clear h2
        generalize af.eval (.tmp 24) = u24 at ha
        generalize af.eval (.tmp 25) = u25 at ha
        generalize af.eval (.tmp 26) = u26 at ha
        generalize af.eval (.tmp 27) = u27 at ha
        generalize af.eval (.tmp 28) = u28 at ha
        generalize af.eval (.tmp 29) = u29 at ha
        generalize af.eval (.tmp 30) = u30 at ha
        generalize af.eval (.tmp 31) = u31 at ha
        generalize af.eval (.tmp 32) = u32 at ha
        generalize af.eval (.tmp 33) = u33 at ha
        generalize af.eval (.tmp 34) = u34 at ha
        generalize af.eval (.tmp 35) = u35 at ha
        generalize af.eval (.tmp 36) = u36 at ha
        generalize af.eval (.tmp 37) = u37 at ha
        generalize af.eval (.tmp 38) = u38 at ha
        generalize af.eval (.tmp 39) = u39 at ha
        generalize af.eval (.tmp 40) = u40 at ha
        generalize af.eval (.tmp 41) = u41 at ha
        generalize af.eval (.tmp 42) = u42 at ha
        generalize af.eval (.tmp 43) = u43 at ha
        generalize af.eval (.tmp 44) = u44 at ha
        generalize af.eval (.tmp 45) = u45 at ha
        generalize af.eval (.tmp 46) = u46 at ha
        generalize af.eval (.tmp 47) = u47 at ha
        generalize af.eval (.tmp 48) = u48 at ha
        generalize af.eval (.tmp 49) = u49 at ha
        generalize af.eval (.tmp 50) = u50 at ha
        generalize af.eval (.tmp 51) = u51 at ha
        generalize af.eval (.tmp 52) = u52 at ha
        generalize af.eval (.tmp 53) = u53 at ha
        generalize af.eval (.tmp 54) = u54 at ha
        generalize af.eval (.tmp 55) = u55 at ha
        generalize af.eval (.tmp 56) = u56 at ha
        generalize af.eval (.tmp 57) = u57 at ha
        generalize af.eval (.tmp 58) = u58 at ha
        generalize af.eval (.tmp 59) = u59 at ha
        generalize af.eval (.tmp 60) = u60 at ha
        generalize af.eval (.tmp 61) = u61 at ha
        generalize af.eval (.tmp 62) = u62 at ha
        generalize af.eval (.tmp 63) = u63 at ha
        subst ha
        simp only [Act.put, List.setIfInBounds_toArray, List.set_cons_zero, List.set_cons_succ]
        go_wp2
        go_ret
        exact ⟨by rw [← HF.out]; rfl, HBN.out⟩
    · obtain rfl : z = (n : Int) := by rw [Hn.out]; omega
      have HTX : Hid (Dt.text ⟨Y, M, K, H, I, S, (n : Int)⟩ = (((((((((((((Dt.day2 K ++ [45]) ++ Dt.mname M) ++ [45]) ++ Dt.four Y) ++ [32]) ++ Dt.two H) ++ [58]) ++ Dt.two I) ++ [58]) ++ Dt.two S) ++ [32]) ++ [43]) ++ Dt.two zq) ++ Dt.two zr) := Lib.hid (by
        have e1 : decide (((n : Int) : Int) < 0) = false := decide_eq_false hz
        simp only [Dt.text, Dt.shownN, Dt.day2, Int.toNat_natCast, List.append_assoc, List.cons_append, List.nil_append, e1, ← Hn.out, ← Hzq.out, ← Hzr.out, if_true, Bool.false_eq_true, if_false])
      go_enter Tryd.func21, Tryd.ntmps21
      go_wp2_with fail
      rw [← Hw1.out]
      refine (HG.out _).mono ?_
      rintro e w2 ⟨rfl, hb2⟩
      rw [HDEC.out]
      have HB2 := Lib.hid (HB1.out.trans (hb2.mono HB1.out.size))
      have HG2 := Lib.hid (HG1.out.below hb2 HG1.out.lt)
      have v2 := HG2.out.cell 2 _ rfl
      clear hb2
      go_wp2_with fail
      clear v2
      refine (HT0.out _).mono ?_
      rintro e w3 ⟨rfl, hb3⟩
      have HB3 := Lib.hid (HB2.out.trans (hb3.mono HB2.out.size))
      have HG3 := Lib.hid (HG2.out.below hb3 HG2.out.lt)
      have v2 := HG3.out.cell 2 _ rfl
      have v6 := HG3.out.cell 6 _ rfl
      clear hb3
      go_wp2
      clear v2 v6
      obtain ⟨zdy, zth, ztm, zts, zx1, zx2, zmn⟩ := ZZ.out
      obtain ⟨ddy, dth, dtm, dts, dx1, dx2, dmn⟩ := DD.out
      obtain ⟨c1, h0, s0, t0, z0⟩ := cat sx ⟨#[45]⟩ 4 (by omega) (by decide) (by decide)
      obtain ⟨c2, h1, s1, t1, z1⟩ := cat c1 mn 8 (by omega) (by omega) (by decide)
      obtain ⟨c3, h2, s2, t2, z2⟩ := cat c2 ⟨#[45]⟩ 12 (by omega) (by decide) (by decide)
      obtain ⟨c4, h3, s3, t3, z3⟩ := cat c3 dy 16 (by omega) (by omega) (by decide)
      obtain ⟨c5, h4, s4, t4, z4⟩ := cat c4 ⟨#[32]⟩ 20 (by omega) (by decide) (by decide)
      obtain ⟨c6, h5, s5, t5, z5⟩ := cat c5 th 24 (by omega) (by omega) (by decide)
      obtain ⟨c7, h6, s6, t6, z6⟩ := cat c6 ⟨#[58]⟩ 28 (by omega) (by decide) (by decide)
      obtain ⟨c8, h7, s7, t7, z7⟩ := cat c7 tm 32 (by omega) (by omega) (by decide)
      obtain ⟨c9, h8, s8, t8, z8⟩ := cat c8 ⟨#[58]⟩ 36 (by omega) (by decide) (by decide)
      obtain ⟨c10, h9, s9, t9, z9⟩ := cat c9 ts 40 (by omega) (by omega) (by decide)
      obtain ⟨c11, h10, s10, t10, z10⟩ := cat c10 ⟨#[32]⟩ 44 (by omega) (by decide) (by decide)
      obtain ⟨c12, h11, s11, t11, z11⟩ := cat c11 ⟨#[43]⟩ 48 (by omega) (by decide) (by decide)
      obtain ⟨c13, h12, s12, t12, z12⟩ := cat c12 x1 52 (by omega) (by omega) (by decide)
      obtain ⟨c14, h13, s13, t13, z13⟩ := cat c13 x2 56 (by omega) (by omega) (by decide)
      have HF : Hid (c14.data.toList = Dt.shown ⟨Y, M, K, H, I, S, (n : Int)⟩) := Lib.hid (by
        rw [HS.out, HTX.out, t13, t12, t11, t10, t9, t8, t7, t6, t5, t4, t3, t2, t1, t0, DSX.out, ddy, dth, dtm, dts, dx1, dx2, dmn])
      have HQ := Lib.hid (And.intro h0 (And.intro h1 (And.intro h2 (And.intro h3 (And.intro h4 (And.intro h5 (And.intro h6 (And.intro h7 (And.intro h8 (And.intro h9 (And.intro h10 (And.intro h11 (And.intro h12 h13)))))))))))))
      have HZ2 := Lib.hid (And.intro z0 (And.intro z1 (And.intro z2 (And.intro z3 (And.intro z4 (And.intro z5 (And.intro z6 (And.intro z7 (And.intro z8 (And.intro z9 (And.intro z10 (And.intro z11 (And.intro z12 z13)))))))))))))
      clear zdy zth ztm zts zx1 zx2 zmn ddy dth dtm dts dx1 dx2 dmn h0 h1 h2 h3 h4 h5 h6 h7 h8 h9 h10 h11 h12 h13 s0 s1 s2 s3 s4 s5 s6 s7 s8 s9 s10 s11 s12 s13 t0 t1 t2 t3 t4 t5 t6 t7 t8 t9 t10 t11 t12 t13 z0 z1 z2 z3 z4 z5 z6 z7 z8 z9 z10 z11 z12 z13
      refine rs9 w.heap.size w3.heap.size km n zq zr (Y : Int) (M : Int) (H : Int) (I : Int) (S : Int) sx c1 mn c2 c3 dy c4 c5 th c6 c7 tm c8 c9 ts c10 c11 ⟨#[43]⟩ c12 x1 c13 x2 c14 (RS w3 dy th tm ts x1 x2) (by show 63 < 64; omega) rfl rfl rfl rfl (HQ.out.1) (HZ2.out.1) (HQ.out.2.1) (HZ2.out.2.1) (HQ.out.2.2.1) (HZ2.out.2.2.1) (HQ.out.2.2.2.1) (HZ2.out.2.2.2.1) (HQ.out.2.2.2.2.1) (HZ2.out.2.2.2.2.1) (HQ.out.2.2.2.2.2.1) (HZ2.out.2.2.2.2.2.1) (HQ.out.2.2.2.2.2.2.1) (HZ2.out.2.2.2.2.2.2.1) (HQ.out.2.2.2.2.2.2.2.1) (HZ2.out.2.2.2.2.2.2.2.1) (HQ.out.2.2.2.2.2.2.2.2.1) (HZ2.out.2.2.2.2.2.2.2.2.1) (HQ.out.2.2.2.2.2.2.2.2.2.1) (HZ2.out.2.2.2.2.2.2.2.2.2.1) (HQ.out.2.2.2.2.2.2.2.2.2.2.1) (HZ2.out.2.2.2.2.2.2.2.2.2.2.1) (HQ.out.2.2.2.2.2.2.2.2.2.2.2.1) (HZ2.out.2.2.2.2.2.2.2.2.2.2.2.1) (HQ.out.2.2.2.2.2.2.2.2.2.2.2.2.1) (HZ2.out.2.2.2.2.2.2.2.2.2.2.2.2.1) (HQ.out.2.2.2.2.2.2.2.2.2.2.2.2.2) (HZ2.out.2.2.2.2.2.2.2.2.2.2.2.2.2) ?_ ?_ K1.out hkm D1.out D2.out D3.out (fun p R W h => h.val) ?_ ?_ ?_ ?_ ?_ ?_ ?_ ⟨(Below.refl _ _).drew, fun h => absurd h (by decide), fun j v hj => absurd hj (by omega), fun _ => rfl⟩ ?_
      · intro p R W h
        have g := HG3.out.below h.below HG3.out.lt
        exact ⟨g.cell 0 _ rfl, g.cell 1 _ rfl, g.cell 3 _ rfl, g.cell 4 _ rfl, g.cell 5 _ rfl⟩
      · intro p R W h hp
        rw [Hmn.out]
        exact (h.mon hp).cell km _ (mcells_at km hkm)
      · intro R W h
        have hs := h.size rfl
        refine (rmonths_any W).mono ?_
        rintro e w' ⟨rfl, hm, hb⟩
        exact ⟨_, rfl, RS.first h hm hb⟩
      · intro R W h
        refine (HDY.out W).mono ?_
        rintro e w' ⟨rfl, hb⟩
        exact ⟨_, rfl, RS.next h (by decide) hb rfl⟩
      · intro R W h
        refine (HTH.out W).mono ?_
        rintro e w' ⟨rfl, hb⟩
        exact ⟨_, rfl, RS.next h (by decide) hb rfl⟩
      · intro R W h
        refine (HTI.out W).mono ?_
        rintro e w' ⟨rfl, hb⟩
        exact ⟨_, rfl, RS.next h (by decide) hb rfl⟩
      · intro R W h
        refine (HTS.out W).mono ?_
        rintro e w' ⟨rfl, hb⟩
        exact ⟨_, rfl, RS.next h (by decide) hb rfl⟩
      · intro R W h
        refine (HTQ.out W).mono ?_
        rintro e w' ⟨rfl, hb⟩
        exact ⟨_, rfl, RS.next h (by decide) hb rfl⟩
      · intro R W h
        refine (HTR.out W).mono ?_
        rintro e w' ⟨rfl, hb⟩
        exact ⟨_, rfl, RS.next h (by decide) hb rfl⟩
      · intro af wN hfr h2 hS
        have HBN := Lib.hid (HB3.out.trans (hS.below.mono HB3.out.size))
        clear hS
        have ha := hfr.eq (by intro t ht; simp at ht; show t < 64; omega)
        simp only [List.foldl_cons, List.foldl_nil] at ha
        clear hfr
        rw [h2] at ha
        clear h2
        generalize af.eval (.tmp 24) = u24 at ha
        generalize af.eval (.tmp 25) = u25 at ha
        generalize af.eval (.tmp 26) = u26 at ha
        generalize af.eval (.tmp 27) = u27 at ha
        generalize af.eval (.tmp 28) = u28 at ha
        generalize af.eval (.tmp 29) = u29 at ha
        generalize af.eval (.tmp 30) = u30 at ha
        generalize af.eval (.tmp 31) = u31 at ha
        generalize af.eval (.tmp 32) = u32 at ha
        generalize af.eval (.tmp 33) = u33 at ha
        generalize af.eval (.tmp 34) = u34 at ha
        generalize af.eval (.tmp 35) = u35 at ha
        generalize af.eval (.tmp 36) = u36 at ha
        generalize af.eval (.tmp 37) = u37 at ha
        generalize af.eval (.tmp 38) = u38 at ha
        generalize af.eval (.tmp 39) = u39 at ha
        generalize af.eval (.tmp 40) = u40 at ha
        generalize af.eval (.tmp 41) = u41 at ha
        generalize af.eval (.tmp 42) = u42 at ha
        generalize af.eval (.tmp 43) = u43 at ha
        generalize af.eval (.tmp 44) = u44 at ha
        generalize af.eval (.tmp 45) = u45 at ha
        generalize af.eval (.tmp 46) = u46 at ha
        generalize af.eval (.tmp 47) = u47 at ha
        generalize af.eval (.tmp 48) = u48 at ha
        generalize af.eval (.tmp 49) = u49 at ha
        generalize af.eval (.tmp 50) = u50 at ha
        generalize af.eval (.tmp 51) = u51 at ha
        generalize af.eval (.tmp 52) = u52 at ha
        generalize af.eval (.tmp 53) = u53 at ha
        generalize af.eval (.tmp 54) = u54 at ha
        generalize af.eval (.tmp 55) = u55 at ha
        generalize af.eval (.tmp 56) = u56 at ha
        generalize af.eval (.tmp 57) = u57 at ha
        generalize af.eval (.tmp 58) = u58 at ha
        generalize af.eval (.tmp 59) = u59 at ha
        generalize af.eval (.tmp 60) = u60 at ha
        generalize af.eval (.tmp 61) = u61 at ha
        generalize af.eval (.tmp 62) = u62 at ha
        generalize af.eval (.tmp 63) = u63 at ha
        subst ha
        simp only [Act.put, List.setIfInBounds_toArray, List.set_cons_zero, List.set_cons_succ]
        go_wp2
        go_ret
        exact ⟨by rw [← HF.out]; rfl, HBN.out⟩
  · have k10 : ¬ (K : Int) < 10 := by omega
    obtain ⟨sx, hsx⟩ : ∃ sx, x0 = sx := ⟨_, rfl⟩
    subst hsx
    obtain ⟨sx, hsx⟩ : ∃ sx, sx = x0 := ⟨_, rfl⟩
    subst hsx
    have DSX : Hid (sx.data.toList = Dt.day2 K) := Lib.hid (by rw [DX0.out]; unfold Dt.day2 Dt.two; rw [if_neg h10])
    have zsx4 : sx.size ≤ 4 := by have := ZX0.out; omega
    clear h10
    by_cases hz : z < 0
    · have iz : IntKind.i64.wrap (-z) = (n : Int) := by rw [show -z = (n : Int) by rw [Hn.out]; omega]; exact IntWalk.i64_in _ (by omega)
      have HTX : Hid (Dt.text ⟨Y, M, K, H, I, S, z⟩ = (((((((((((((Dt.day2 K ++ [45]) ++ Dt.mname M) ++ [45]) ++ Dt.four Y) ++ [32]) ++ Dt.two H) ++ [58]) ++ Dt.two I) ++ [58]) ++ Dt.two S) ++ [32]) ++ [45]) ++ Dt.two zq) ++ Dt.two zr) := Lib.hid (by
        have e1 : decide ((z : Int) < 0) = true := decide_eq_true hz
        simp only [Dt.text, Dt.shownN, Dt.day2, Int.toNat_natCast, List.append_assoc, List.cons_append, List.nil_append, e1, ← Hn.out, ← Hzq.out, ← Hzr.out, if_true, Bool.false_eq_true, if_false])
      go_enter Tryd.func21, Tryd.ntmps21
      go_wp2_with fail
      rw [← Hw1.out]
      refine (HG.out _).mono ?_
      rintro e w2 ⟨rfl, hb2⟩
      rw [HDEC.out]
      have HB2 := Lib.hid (HB1.out.trans (hb2.mono HB1.out.size))
      have HG2 := Lib.hid (HG1.out.below hb2 HG1.out.lt)
      have v2 := HG2.out.cell 2 _ rfl
      clear hb2
      go_wp2_with fail
      clear v2
      refine (HT0.out _).mono ?_
      rintro e w3 ⟨rfl, hb3⟩
      have HB3 := Lib.hid (HB2.out.trans (hb3.mono HB2.out.size))
      have HG3 := Lib.hid (HG2.out.below hb3 HG2.out.lt)
      have v2 := HG3.out.cell 2 _ rfl
      have v6 := HG3.out.cell 6 _ rfl
      clear hb3
      go_wp2
      clear v2 v6
      obtain ⟨zdy, zth, ztm, zts, zx1, zx2, zmn⟩ := ZZ.out
      obtain ⟨ddy, dth, dtm, dts, dx1, dx2, dmn⟩ := DD.out
      obtain ⟨c1, h0, s0, t0, z0⟩ := cat sx ⟨#[45]⟩ 4 (by omega) (by decide) (by decide)
      obtain ⟨c2, h1, s1, t1, z1⟩ := cat c1 mn 8 (by omega) (by omega) (by decide)
      obtain ⟨c3, h2, s2, t2, z2⟩ := cat c2 ⟨#[45]⟩ 12 (by omega) (by decide) (by decide)
      obtain ⟨c4, h3, s3, t3, z3⟩ := cat c3 dy 16 (by omega) (by omega) (by decide)
      obtain ⟨c5, h4, s4, t4, z4⟩ := cat c4 ⟨#[32]⟩ 20 (by omega) (by decide) (by decide)
      obtain ⟨c6, h5, s5, t5, z5⟩ := cat c5 th 24 (by omega) (by omega) (by decide)
      obtain ⟨c7, h6, s6, t6, z6⟩ := cat c6 ⟨#[58]⟩ 28 (by omega) (by decide) (by decide)
      obtain ⟨c8, h7, s7, t7, z7⟩ := cat c7 tm 32 (by omega) (by omega) (by decide)
      obtain ⟨c9, h8, s8, t8, z8⟩ := cat c8 ⟨#[58]⟩ 36 (by omega) (by decide) (by decide)
      obtain ⟨c10, h9, s9, t9, z9⟩ := cat c9 ts 40 (by omega) (by omega) (by decide)
      obtain ⟨c11, h10, s10, t10, z10⟩ := cat c10 ⟨#[32]⟩ 44 (by omega) (by decide) (by decide)
      obtain ⟨c12, h11, s11, t11, z11⟩ := cat c11 ⟨#[45]⟩ 48 (by omega) (by decide) (by decide)
      obtain ⟨c13, h12, s12, t12, z12⟩ := cat c12 x1 52 (by omega) (by omega) (by decide)
      obtain ⟨c14, h13, s13, t13, z13⟩ := cat c13 x2 56 (by omega) (by omega) (by decide)
      have HF : Hid (c14.data.toList = Dt.shown ⟨Y, M, K, H, I, S, z⟩) := Lib.hid (by
        rw [HS.out, HTX.out, t13, t12, t11, t10, t9, t8, t7, t6, t5, t4, t3, t2, t1, t0, DSX.out, ddy, dth, dtm, dts, dx1, dx2, dmn])
      have HQ := Lib.hid (And.intro h0 (And.intro h1 (And.intro h2 (And.intro h3 (And.intro h4 (And.intro h5 (And.intro h6 (And.intro h7 (And.intro h8 (And.intro h9 (And.intro h10 (And.intro h11 (And.intro h12 h13)))))))))))))
      have HZ2 := Lib.hid (And.intro z0 (And.intro z1 (And.intro z2 (And.intro z3 (And.intro z4 (And.intro z5 (And.intro z6 (And.intro z7 (And.intro z8 (And.intro z9 (And.intro z10 (And.intro z11 (And.intro z12 z13)))))))))))))
      clear zdy zth ztm zts zx1 zx2 zmn ddy dth dtm dts dx1 dx2 dmn h0 h1 h2 h3 h4 h5 h6 h7 h8 h9 h10 h11 h12 h13 s0 s1 s2 s3 s4 s5 s6 s7 s8 s9 s10 s11 s12 s13 t0 t1 t2 t3 t4 t5 t6 t7 t8 t9 t10 t11 t12 t13 z0 z1 z2 z3 z4 z5 z6 z7 z8 z9 z10 z11 z12 z13
      refine rs9 w.heap.size w3.heap.size km n zq zr (Y : Int) (M : Int) (H : Int) (I : Int) (S : Int) sx c1 mn c2 c3 dy c4 c5 th c6 c7 tm c8 c9 ts c10 c11 ⟨#[45]⟩ c12 x1 c13 x2 c14 (RS w3 dy th tm ts x1 x2) (by show 63 < 64; omega) rfl rfl rfl rfl (HQ.out.1) (HZ2.out.1) (HQ.out.2.1) (HZ2.out.2.1) (HQ.out.2.2.1) (HZ2.out.2.2.1) (HQ.out.2.2.2.1) (HZ2.out.2.2.2.1) (HQ.out.2.2.2.2.1) (HZ2.out.2.2.2.2.1) (HQ.out.2.2.2.2.2.1) (HZ2.out.2.2.2.2.2.1) (HQ.out.2.2.2.2.2.2.1) (HZ2.out.2.2.2.2.2.2.1) (HQ.out.2.2.2.2.2.2.2.1) (HZ2.out.2.2.2.2.2.2.2.1) (HQ.out.2.2.2.2.2.2.2.2.1) (HZ2.out.2.2.2.2.2.2.2.2.1) (HQ.out.2.2.2.2.2.2.2.2.2.1) (HZ2.out.2.2.2.2.2.2.2.2.2.1) (HQ.out.2.2.2.2.2.2.2.2.2.2.1) (HZ2.out.2.2.2.2.2.2.2.2.2.2.1) (HQ.out.2.2.2.2.2.2.2.2.2.2.2.1) (HZ2.out.2.2.2.2.2.2.2.2.2.2.2.1) (HQ.out.2.2.2.2.2.2.2.2.2.2.2.2.1) (HZ2.out.2.2.2.2.2.2.2.2.2.2.2.2.1) (HQ.out.2.2.2.2.2.2.2.2.2.2.2.2.2) (HZ2.out.2.2.2.2.2.2.2.2.2.2.2.2.2) ?_ ?_ K1.out hkm D1.out D2.out D3.out (fun p R W h => h.val) ?_ ?_ ?_ ?_ ?_ ?_ ?_ ⟨(Below.refl _ _).drew, fun h => absurd h (by decide), fun j v hj => absurd hj (by omega), fun _ => rfl⟩ ?_
      · intro p R W h
        have g := HG3.out.below h.below HG3.out.lt
        exact ⟨g.cell 0 _ rfl, g.cell 1 _ rfl, g.cell 3 _ rfl, g.cell 4 _ rfl, g.cell 5 _ rfl⟩
      · intro p R W h hp
        rw [Hmn.out]
        exact (h.mon hp).cell km _ (mcells_at km hkm)
      · intro R W h
        have hs := h.size rfl
        refine (rmonths_any W).mono ?_
        rintro e w' ⟨rfl, hm, hb⟩
        exact ⟨_, rfl, RS.first h hm hb⟩
      · intro R W h
        refine (HDY.out W).mono ?_
        rintro e w' ⟨rfl, hb⟩
        exact ⟨_, rfl, RS.next h (by decide) hb rfl⟩
      · intro R W h
        refine (HTH.out W).mono ?_
        rintro e w' ⟨rfl, hb⟩
        exact ⟨_, rfl, RS.next h (by decide) hb rfl⟩
      · intro R W h
        refine (HTI.out W).mono ?_
        rintro e w' ⟨rfl, hb⟩
        exact ⟨_, rfl, RS.next h (by decide) hb rfl⟩
      · intro R W h
        refine (HTS.out W).mono ?_
        rintro e w' ⟨rfl, hb⟩
        exact ⟨_, rfl, RS.next h (by decide) hb rfl⟩
      · intro R W h
        refine (HTQ.out W).mono ?_
        rintro e w' ⟨rfl, hb⟩
        exact ⟨_, rfl, RS.next h (by decide) hb rfl⟩
      · intro R W h
        refine (HTR.out W).mono ?_
        rintro e w' ⟨rfl, hb⟩
        exact ⟨_, rfl, RS.next h (by decide) hb rfl⟩
      · intro af wN hfr h2 hS
        have HBN := Lib.hid (HB3.out.trans (hS.below.mono HB3.out.size))
        clear hS
        have ha := hfr.eq (by intro t ht; simp at ht; show t < 64; omega)
        simp only [List.foldl_cons, List.foldl_nil] at ha
        clear hfr
        rw [h2] at ha
        clear h2
        generalize af.eval (.tmp 24) = u24 at ha
        generalize af.eval (.tmp 25) = u25 at ha
        generalize af.eval (.tmp 26) = u26 at ha
        generalize af.eval (.tmp 27) = u27 at ha
        generalize af.eval (.tmp 28) = u28 at ha
        generalize af.eval (.tmp 29) = u29 at ha
        generalize af.eval (.tmp 30) = u30 at ha
        generalize af.eval (.tmp 31) = u31 at ha
        generalize af.eval (.tmp 32) = u32 at ha
        generalize af.eval (.tmp 33) = u33 at ha
        generalize af.eval (.tmp 34) = u34 at ha
        generalize af.eval (.tmp 35) = u35 at ha
        generalize af.eval (.tmp 36) = u36 at ha
        generalize af.eval (.tmp 37) = u37 at ha
        generalize af.eval (.tmp 38) = u38 at ha
        generalize af.eval (.tmp 39) = u39 at ha
        generalize af.eval (.tmp 40) = u40 at ha
        generalize af.eval (.tmp 41) = u41 at ha
        generalize af.eval (.tmp 42) = u42 at ha
        generalize af.eval (.tmp 43) = u43 at ha
        generalize af.eval (.tmp 44) = u44 at ha
        generalize af.eval (.tmp 45) = u45 at ha
        generalize af.eval (.tmp 46) = u46 at ha
        generalize af.eval (.tmp 47) = u47 at ha
        generalize af.eval (.tmp 48) = u48 at ha
        generalize af.eval (.tmp 49) = u49 at ha
        generalize af.eval (.tmp 50) = u50 at ha
        generalize af.eval (.tmp 51) = u51 at ha
        generalize af.eval (.tmp 52) = u52 at ha
        generalize af.eval (.tmp 53) = u53 at ha
        generalize af.eval (.tmp 54) = u54 at ha
        generalize af.eval (.tmp 55) = u55 at ha
        generalize af.eval (.tmp 56) = u56 at ha
        generalize af.eval (.tmp 57) = u57 at ha
        generalize af.eval (.tmp 58) = u58 at ha
        generalize af.eval (.tmp 59) = u59 at ha
        generalize af.eval (.tmp 60) = u60 at ha
        generalize af.eval (.tmp 61) = u61 at ha
        generalize af.eval (.tmp 62) = u62 at ha
        generalize af.eval (.tmp 63) = u63 at ha
        subst ha
        simp only [Act.put, List.setIfInBounds_toArray, List.set_cons_zero, List.set_cons_succ]
        go_wp2
        go_ret
        exact ⟨by rw [← HF.out]; rfl, HBN.out⟩
    · obtain rfl : z = (n : Int) := by rw [Hn.out]; omega
      have HTX : Hid (Dt.text ⟨Y, M, K, H, I, S, (n : Int)⟩ = (((((((((((((Dt.day2 K ++ [45]) ++ Dt.mname M) ++ [45]) ++ Dt.four Y) ++ [32]) ++ Dt.two H) ++ [58]) ++ Dt.two I) ++ [58]) ++ Dt.two S) ++ [32]) ++ [43]) ++ Dt.two zq) ++ Dt.two zr) := Lib.hid (by
        have e1 : decide (((n : Int) : Int) < 0) = false := decide_eq_false hz
        simp only [Dt.text, Dt.shownN, Dt.day2, Int.toNat_natCast, List.append_assoc, List.cons_append, List.nil_append, e1, ← Hn.out, ← Hzq.out, ← Hzr.out, if_true, Bool.false_eq_true, if_false])
      go_enter Tryd.func21, Tryd.ntmps21
      go_wp2_with fail
      rw [← Hw1.out]
      refine (HG.out _).mono ?_
      rintro e w2 ⟨rfl, hb2⟩
      rw [HDEC.out]
      have HB2 := Lib.hid (HB1.out.trans (hb2.mono HB1.out.size))
      have HG2 := Lib.hid (HG1.out.below hb2 HG1.out.lt)
      have v2 := HG2.out.cell 2 _ rfl
      clear hb2
      go_wp2_with fail
      clear v2
      refine (HT0.out _).mono ?_
      rintro e w3 ⟨rfl, hb3⟩
      have HB3 := Lib.hid (HB2.out.trans (hb3.mono HB2.out.size))
      have HG3 := Lib.hid (HG2.out.below hb3 HG2.out.lt)
      have v2 := HG3.out.cell 2 _ rfl
      have v6 := HG3.out.cell 6 _ rfl
      clear hb3
      go_wp2
      clear v2 v6
      obtain ⟨zdy, zth, ztm, zts, zx1, zx2, zmn⟩ := ZZ.out
      obtain ⟨ddy, dth, dtm, dts, dx1, dx2, dmn⟩ := DD.out
      obtain ⟨c1, h0, s0, t0, z0⟩ := cat sx ⟨#[45]⟩ 4 (by omega) (by decide) (by decide)
      obtain ⟨c2, h1, s1, t1, z1⟩ := cat c1 mn 8 (by omega) (by omega) (by decide)
      obtain ⟨c3, h2, s2, t2, z2⟩ := cat c2 ⟨#[45]⟩ 12 (by omega) (by decide) (by decide)
      obtain ⟨c4, h3, s3, t3, z3⟩ := cat c3 dy 16 (by omega) (by omega) (by decide)
      obtain ⟨c5, h4, s4, t4, z4⟩ := cat c4 ⟨#[32]⟩ 20 (by omega) (by decide) (by decide)
      obtain ⟨c6, h5, s5, t5, z5⟩ := cat c5 th 24 (by omega) (by omega) (by decide)
      obtain ⟨c7, h6, s6, t6, z6⟩ := cat c6 ⟨#[58]⟩ 28 (by omega) (by decide) (by decide)
      obtain ⟨c8, h7, s7, t7, z7⟩ := cat c7 tm 32 (by omega) (by omega) (by decide)
      obtain ⟨c9, h8, s8, t8, z8⟩ := cat c8 ⟨#[58]⟩ 36 (by omega) (by decide) (by decide)
      obtain ⟨c10, h9, s9, t9, z9⟩ := cat c9 ts 40 (by omega) (by omega) (by decide)
      obtain ⟨c11, h10, s10, t10, z10⟩ := cat c10 ⟨#[32]⟩ 44 (by omega) (by decide) (by decide)
      obtain ⟨c12, h11, s11, t11, z11⟩ := cat c11 ⟨#[43]⟩ 48 (by omega) (by decide) (by decide)
      obtain ⟨c13, h12, s12, t12, z12⟩ := cat c12 x1 52 (by omega) (by omega) (by decide)
      obtain ⟨c14, h13, s13, t13, z13⟩ := cat c13 x2 56 (by omega) (by omega) (by decide)
      have HF : Hid (c14.data.toList = Dt.shown ⟨Y, M, K, H, I, S, (n : Int)⟩) := Lib.hid (by
        rw [HS.out, HTX.out, t13, t12, t11, t10, t9, t8, t7, t6, t5, t4, t3, t2, t1, t0, DSX.out, ddy, dth, dtm, dts, dx1, dx2, dmn])
      have HQ := Lib.hid (And.intro h0 (And.intro h1 (And.intro h2 (And.intro h3 (And.intro h4 (And.intro h5 (And.intro h6 (And.intro h7 (And.intro h8 (And.intro h9 (And.intro h10 (And.intro h11 (And.intro h12 h13)))))))))))))
      have HZ2 := Lib.hid (And.intro z0 (And.intro z1 (And.intro z2 (And.intro z3 (And.intro z4 (And.intro z5 (And.intro z6 (And.intro z7 (And.intro z8 (And.intro z9 (And.intro z10 (And.intro z11 (And.intro z12 z13)))))))))))))
      clear zdy zth ztm zts zx1 zx2 zmn ddy dth dtm dts dx1 dx2 dmn h0 h1 h2 h3 h4 h5 h6 h7 h8 h9 h10 h11 h12 h13 s0 s1 s2 s3 s4 s5 s6 s7 s8 s9 s10 s11 s12 s13 t0 t1 t2 t3 t4 t5 t6 t7 t8 t9 t10 t11 t12 t13 z0 z1 z2 z3 z4 z5 z6 z7 z8 z9 z10 z11 z12 z13
      refine rs9 w.heap.size w3.heap.size km n zq zr (Y : Int) (M : Int) (H : Int) (I : Int) (S : Int) sx c1 mn c2 c3 dy c4 c5 th c6 c7 tm c8 c9 ts c10 c11 ⟨#[43]⟩ c12 x1 c13 x2 c14 (RS w3 dy th tm ts x1 x2) (by show 63 < 64; omega) rfl rfl rfl rfl (HQ.out.1) (HZ2.out.1) (HQ.out.2.1) (HZ2.out.2.1) (HQ.out.2.2.1) (HZ2.out.2.2.1) (HQ.out.2.2.2.1) (HZ2.out.2.2.2.1) (HQ.out.2.2.2.2.1) (HZ2.out.2.2.2.2.1) (HQ.out.2.2.2.2.2.1) (HZ2.out.2.2.2.2.2.1) (HQ.out.2.2.2.2.2.2.1) (HZ2.out.2.2.2.2.2.2.1) (HQ.out.2.2.2.2.2.2.2.1) (HZ2.out.2.2.2.2.2.2.2.1) (HQ.out.2.2.2.2.2.2.2.2.1) (HZ2.out.2.2.2.2.2.2.2.2.1) (HQ.out.2.2.2.2.2.2.2.2.2.1) (HZ2.out.2.2.2.2.2.2.2.2.2.1) (HQ.out.2.2.2.2.2.2.2.2.2.2.1) (HZ2.out.2.2.2.2.2.2.2.2.2.2.1) (HQ.out.2.2.2.2.2.2.2.2.2.2.2.1) (HZ2.out.2.2.2.2.2.2.2.2.2.2.2.1) (HQ.out.2.2.2.2.2.2.2.2.2.2.2.2.1) (HZ2.out.2.2.2.2.2.2.2.2.2.2.2.2.1) (HQ.out.2.2.2.2.2.2.2.2.2.2.2.2.2) (HZ2.out.2.2.2.2.2.2.2.2.2.2.2.2.2) ?_ ?_ K1.out hkm D1.out D2.out D3.out (fun p R W h => h.val) ?_ ?_ ?_ ?_ ?_ ?_ ?_ ⟨(Below.refl _ _).drew, fun h => absurd h (by decide), fun j v hj => absurd hj (by omega), fun _ => rfl⟩ ?_
      · intro p R W h
        have g := HG3.out.below h.below HG3.out.lt
        exact ⟨g.cell 0 _ rfl, g.cell 1 _ rfl, g.cell 3 _ rfl, g.cell 4 _ rfl, g.cell 5 _ rfl⟩
      · intro p R W h hp
        rw [Hmn.out]
        exact (h.mon hp).cell km _ (mcells_at km hkm)
      · intro R W h
        have hs := h.size rfl
        refine (rmonths_any W).mono ?_
        rintro e w' ⟨rfl, hm, hb⟩
        exact ⟨_, rfl, RS.first h hm hb⟩
      · intro R W h
        refine (HDY.out W).mono ?_
        rintro e w' ⟨rfl, hb⟩
        exact ⟨_, rfl, RS.next h (by decide) hb rfl⟩
      · intro R W h
        refine (HTH.out W).mono ?_
        rintro e w' ⟨rfl, hb⟩
        exact ⟨_, rfl, RS.next h (by decide) hb rfl⟩
      · intro R W h
        refine (HTI.out W).mono ?_
        rintro e w' ⟨rfl, hb⟩
        exact ⟨_, rfl, RS.next h (by decide) hb rfl⟩
      · intro R W h
        refine (HTS.out W).mono ?_
        rintro e w' ⟨rfl, hb⟩
        exact ⟨_, rfl, RS.next h (by decide) hb rfl⟩
      · intro R W h
        refine (HTQ.out W).mono ?_
        rintro e w' ⟨rfl, hb⟩
        exact ⟨_, rfl, RS.next h (by decide) hb rfl⟩
      · intro R W h
        refine (HTR.out W).mono ?_
        rintro e w' ⟨rfl, hb⟩
        exact ⟨_, rfl, RS.next h (by decide) hb rfl⟩
      · intro af wN hfr h2 hS
        have HBN := Lib.hid (HB3.out.trans (hS.below.mono HB3.out.size))
        clear hS
        have ha := hfr.eq (by intro t ht; simp at ht; show t < 64; omega)
        simp only [List.foldl_cons, List.foldl_nil] at ha
        clear hfr
        rw [h2] at ha
        clear h2
        generalize af.eval (.tmp 24) = u24 at ha
        generalize af.eval (.tmp 25) = u25 at ha
        generalize af.eval (.tmp 26) = u26 at ha
        generalize af.eval (.tmp 27) = u27 at ha
        generalize af.eval (.tmp 28) = u28 at ha
        generalize af.eval (.tmp 29) = u29 at ha
        generalize af.eval (.tmp 30) = u30 at ha
        generalize af.eval (.tmp 31) = u31 at ha
        generalize af.eval (.tmp 32) = u32 at ha
        generalize af.eval (.tmp 33) = u33 at ha
        generalize af.eval (.tmp 34) = u34 at ha
        generalize af.eval (.tmp 35) = u35 at ha
        generalize af.eval (.tmp 36) = u36 at ha
        generalize af.eval (.tmp 37) = u37 at ha
        generalize af.eval (.tmp 38) = u38 at ha
        generalize af.eval (.tmp 39) = u39 at ha
        generalize af.eval (.tmp 40) = u40 at ha
        generalize af.eval (.tmp 41) = u41 at ha
        generalize af.eval (.tmp 42) = u42 at ha
        generalize af.eval (.tmp 43) = u43 at ha
        generalize af.eval (.tmp 44) = u44 at ha
        generalize af.eval (.tmp 45) = u45 at ha
        generalize af.eval (.tmp 46) = u46 at ha
        generalize af.eval (.tmp 47) = u47 at ha
        generalize af.eval (.tmp 48) = u48 at ha
        generalize af.eval (.tmp 49) = u49 at ha
        generalize af.eval (.tmp 50) = u50 at ha
        generalize af.eval (.tmp 51) = u51 at ha
        generalize af.eval (.tmp 52) = u52 at ha
        generalize af.eval (.tmp 53) = u53 at ha
        generalize af.eval (.tmp 54) = u54 at ha
        generalize af.eval (.tmp 55) = u55 at ha
        generalize af.eval (.tmp 56) = u56 at ha
        generalize af.eval (.tmp 57) = u57 at ha
        generalize af.eval (.tmp 58) = u58 at ha
        generalize af.eval (.tmp 59) = u59 at ha
        generalize af.eval (.tmp 60) = u60 at ha
        generalize af.eval (.tmp 61) = u61 at ha
        generalize af.eval (.tmp 62) = u62 at ha
        generalize af.eval (.tmp 63) = u63 at ha
        subst ha
        simp only [Act.put, List.setIfInBounds_toArray, List.set_cons_zero, List.set_cons_succ]
        go_wp2
        go_ret
        exact ⟨by rw [← HF.out]; rfl, HBN.out⟩
end Go.Proofs.YtgkibkophoikoaaDoor
