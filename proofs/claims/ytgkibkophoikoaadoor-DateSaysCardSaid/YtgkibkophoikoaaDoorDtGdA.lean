/- The reference's GoodDate. -/
import Derived.Test.YtgkibkophoikoaaDoorVals
import Derived.Test.YtgkibkophoikoaaDoorAppend
import Derived.WalkKit
import Derived.WalkSpells
import Derived.WalkLawsBesides
import Derived.Lib.Hide
namespace Go.Proofs.YtgkibkophoikoaaDoor
open Go.RowKit
set_option linter.unusedVariables false
set_option linter.unusedSimpArgs false

def opsGd : Array Oper := ([
  { dst := some 3, op := Op.fieldAddr 33 (Operand.tmp 1) 0, type := 0, pos := "ref.go:382", after := #[], guard := none },
  { dst := some 4, op := Op.load 3 (Operand.tmp 3), type := 3, pos := "ref.go:382", after := #[{ on := 0, ground := Ground.data }], guard := none },
  { dst := some 5, op := Op.binOp BinOp.geq 3 (Operand.tmp 4) (Operand.const (Value.int IntKind.i64 1970)) 3, type := 4, pos := "ref.go:382", after := #[{ on := 1, ground := Ground.data }], guard := none },
  { dst := some 6, op := Op.move (Operand.tmp 5), type := 4, pos := "ref.go:382", after := #[{ on := 2, ground := Ground.data }], guard := none },
  { dst := some 7, op := Op.fieldAddr 33 (Operand.tmp 1) 0, type := 0, pos := "ref.go:382", after := #[{ on := 3, ground := Ground.guard }], guard := some (3, true) },
  { dst := some 8, op := Op.load 3 (Operand.tmp 7), type := 3, pos := "ref.go:382", after := #[{ on := 4, ground := Ground.data }, { on := 3, ground := Ground.guard }], guard := some (3, true) },
  { dst := some 9, op := Op.binOp BinOp.leq 3 (Operand.tmp 8) (Operand.const (Value.int IntKind.i64 9999)) 3, type := 4, pos := "ref.go:382", after := #[{ on := 5, ground := Ground.data }, { on := 3, ground := Ground.guard }], guard := some (3, true) },
  { dst := some 10, op := Op.pick (Operand.tmp 6) (Operand.tmp 9) (Operand.const (Value.bool false)), type := 4, pos := "ref.go:382", after := #[{ on := 3, ground := Ground.data }, { on := 6, ground := Ground.data }], guard := none },
  { dst := some 11, op := Op.move (Operand.tmp 10), type := 4, pos := "ref.go:382", after := #[{ on := 7, ground := Ground.data }, { on := 3, ground := Ground.chain }], guard := none },
  { dst := some 12, op := Op.fieldAddr 33 (Operand.tmp 1) 1, type := 0, pos := "ref.go:382", after := #[{ on := 8, ground := Ground.guard }], guard := some (8, true) },
  { dst := some 13, op := Op.load 3 (Operand.tmp 12), type := 3, pos := "ref.go:382", after := #[{ on := 9, ground := Ground.data }, { on := 8, ground := Ground.guard }], guard := some (8, true) },
  { dst := some 14, op := Op.binOp BinOp.geq 3 (Operand.tmp 13) (Operand.const (Value.int IntKind.i64 1)) 3, type := 4, pos := "ref.go:382", after := #[{ on := 10, ground := Ground.data }, { on := 8, ground := Ground.guard }], guard := some (8, true) },
  { dst := some 15, op := Op.pick (Operand.tmp 11) (Operand.tmp 14) (Operand.const (Value.bool false)), type := 4, pos := "ref.go:382", after := #[{ on := 8, ground := Ground.data }, { on := 11, ground := Ground.data }], guard := none },
  { dst := some 16, op := Op.move (Operand.tmp 15), type := 4, pos := "ref.go:382", after := #[{ on := 12, ground := Ground.data }, { on := 8, ground := Ground.chain }], guard := none },
  { dst := some 17, op := Op.fieldAddr 33 (Operand.tmp 1) 1, type := 0, pos := "ref.go:382", after := #[{ on := 13, ground := Ground.guard }], guard := some (13, true) },
  { dst := some 18, op := Op.load 3 (Operand.tmp 17), type := 3, pos := "ref.go:382", after := #[{ on := 14, ground := Ground.data }, { on := 13, ground := Ground.guard }], guard := some (13, true) },
  { dst := some 19, op := Op.binOp BinOp.leq 3 (Operand.tmp 18) (Operand.const (Value.int IntKind.i64 12)) 3, type := 4, pos := "ref.go:382", after := #[{ on := 15, ground := Ground.data }, { on := 13, ground := Ground.guard }], guard := some (13, true) },
  { dst := some 20, op := Op.pick (Operand.tmp 16) (Operand.tmp 19) (Operand.const (Value.bool false)), type := 4, pos := "ref.go:382", after := #[{ on := 13, ground := Ground.data }, { on := 16, ground := Ground.data }], guard := none },
  { dst := some 21, op := Op.move (Operand.tmp 20), type := 4, pos := "ref.go:382", after := #[{ on := 17, ground := Ground.data }, { on := 13, ground := Ground.chain }], guard := none },
  { dst := some 22, op := Op.fieldAddr 33 (Operand.tmp 1) 2, type := 0, pos := "ref.go:382", after := #[{ on := 18, ground := Ground.guard }], guard := some (18, true) },
  { dst := some 23, op := Op.load 3 (Operand.tmp 22), type := 3, pos := "ref.go:382", after := #[{ on := 19, ground := Ground.data }, { on := 18, ground := Ground.guard }], guard := some (18, true) },
  { dst := some 24, op := Op.binOp BinOp.geq 3 (Operand.tmp 23) (Operand.const (Value.int IntKind.i64 1)) 3, type := 4, pos := "ref.go:382", after := #[{ on := 20, ground := Ground.data }, { on := 18, ground := Ground.guard }], guard := some (18, true) },
  { dst := some 25, op := Op.pick (Operand.tmp 21) (Operand.tmp 24) (Operand.const (Value.bool false)), type := 4, pos := "ref.go:382", after := #[{ on := 18, ground := Ground.data }, { on := 21, ground := Ground.data }], guard := none },
  { dst := some 26, op := Op.move (Operand.tmp 25), type := 4, pos := "ref.go:382", after := #[{ on := 22, ground := Ground.data }, { on := 18, ground := Ground.chain }], guard := none },
  { dst := some 27, op := Op.fieldAddr 33 (Operand.tmp 1) 2, type := 0, pos := "ref.go:382", after := #[{ on := 23, ground := Ground.guard }], guard := some (23, true) },
  { dst := some 28, op := Op.load 3 (Operand.tmp 27), type := 3, pos := "ref.go:382", after := #[{ on := 24, ground := Ground.data }, { on := 23, ground := Ground.guard }], guard := some (23, true) },
  { dst := some 29, op := Op.fieldAddr 33 (Operand.tmp 1) 0, type := 0, pos := "ref.go:382", after := #[{ on := 23, ground := Ground.guard }], guard := some (23, true) },
  { dst := some 30, op := Op.load 3 (Operand.tmp 29), type := 3, pos := "ref.go:382", after := #[{ on := 26, ground := Ground.data }, { on := 23, ground := Ground.guard }], guard := some (23, true) },
  { dst := some 31, op := Op.fieldAddr 33 (Operand.tmp 1) 1, type := 0, pos := "ref.go:382", after := #[{ on := 23, ground := Ground.guard }], guard := some (23, true) },
  { dst := some 32, op := Op.load 3 (Operand.tmp 31), type := 3, pos := "ref.go:382", after := #[{ on := 28, ground := Ground.data }, { on := 23, ground := Ground.guard }], guard := some (23, true) },
  { dst := some 33, op := Op.call { callee := Callee.value (Operand.func 37), args := #[Operand.tmp 30, Operand.tmp 32], argTypes := #[3, 3] }, type := 3, pos := "ref.go:382", after := #[{ on := 27, ground := Ground.data }, { on := 29, ground := Ground.data }, { on := 23, ground := Ground.chain }, { on := 23, ground := Ground.guard }], guard := some (23, true) },
  { dst := some 34, op := Op.binOp BinOp.leq 3 (Operand.tmp 28) (Operand.tmp 33) 3, type := 4, pos := "ref.go:382", after := #[{ on := 25, ground := Ground.data }, { on := 30, ground := Ground.data }, { on := 23, ground := Ground.guard }], guard := some (23, true) },
  { dst := some 35, op := Op.pick (Operand.tmp 26) (Operand.tmp 34) (Operand.const (Value.bool false)), type := 4, pos := "ref.go:382", after := #[{ on := 23, ground := Ground.data }, { on := 31, ground := Ground.data }], guard := none },
  { dst := some 36, op := Op.move (Operand.tmp 35), type := 4, pos := "ref.go:382", after := #[{ on := 32, ground := Ground.data }, { on := 30, ground := Ground.chain }], guard := none },
  { dst := some 37, op := Op.fieldAddr 33 (Operand.tmp 1) 3, type := 0, pos := "ref.go:382", after := #[{ on := 33, ground := Ground.guard }], guard := some (33, true) },
  { dst := some 38, op := Op.load 3 (Operand.tmp 37), type := 3, pos := "ref.go:382", after := #[{ on := 34, ground := Ground.data }, { on := 33, ground := Ground.guard }], guard := some (33, true) },
  { dst := some 39, op := Op.binOp BinOp.geq 3 (Operand.tmp 38) (Operand.const (Value.int IntKind.i64 0)) 3, type := 4, pos := "ref.go:382", after := #[{ on := 35, ground := Ground.data }, { on := 33, ground := Ground.guard }], guard := some (33, true) },
  { dst := some 40, op := Op.pick (Operand.tmp 36) (Operand.tmp 39) (Operand.const (Value.bool false)), type := 4, pos := "ref.go:382", after := #[{ on := 33, ground := Ground.data }, { on := 36, ground := Ground.data }], guard := none },
  { dst := some 41, op := Op.move (Operand.tmp 40), type := 4, pos := "ref.go:382", after := #[{ on := 37, ground := Ground.data }, { on := 33, ground := Ground.chain }], guard := none },
  { dst := some 42, op := Op.fieldAddr 33 (Operand.tmp 1) 3, type := 0, pos := "ref.go:382", after := #[{ on := 38, ground := Ground.guard }], guard := some (38, true) },
  { dst := some 43, op := Op.load 3 (Operand.tmp 42), type := 3, pos := "ref.go:382", after := #[{ on := 39, ground := Ground.data }, { on := 38, ground := Ground.guard }], guard := some (38, true) },
  { dst := some 44, op := Op.binOp BinOp.leq 3 (Operand.tmp 43) (Operand.const (Value.int IntKind.i64 23)) 3, type := 4, pos := "ref.go:382", after := #[{ on := 40, ground := Ground.data }, { on := 38, ground := Ground.guard }], guard := some (38, true) },
  { dst := some 45, op := Op.pick (Operand.tmp 41) (Operand.tmp 44) (Operand.const (Value.bool false)), type := 4, pos := "ref.go:382", after := #[{ on := 38, ground := Ground.data }, { on := 41, ground := Ground.data }], guard := none },
  { dst := some 46, op := Op.move (Operand.tmp 45), type := 4, pos := "ref.go:382", after := #[{ on := 42, ground := Ground.data }, { on := 38, ground := Ground.chain }], guard := none },
  { dst := some 47, op := Op.fieldAddr 33 (Operand.tmp 1) 4, type := 0, pos := "ref.go:382", after := #[{ on := 43, ground := Ground.guard }], guard := some (43, true) },
  { dst := some 48, op := Op.load 3 (Operand.tmp 47), type := 3, pos := "ref.go:382", after := #[{ on := 44, ground := Ground.data }, { on := 43, ground := Ground.guard }], guard := some (43, true) },
  { dst := some 49, op := Op.binOp BinOp.geq 3 (Operand.tmp 48) (Operand.const (Value.int IntKind.i64 0)) 3, type := 4, pos := "ref.go:382", after := #[{ on := 45, ground := Ground.data }, { on := 43, ground := Ground.guard }], guard := some (43, true) },
  { dst := some 50, op := Op.pick (Operand.tmp 46) (Operand.tmp 49) (Operand.const (Value.bool false)), type := 4, pos := "ref.go:382", after := #[{ on := 43, ground := Ground.data }, { on := 46, ground := Ground.data }], guard := none },
  { dst := some 51, op := Op.move (Operand.tmp 50), type := 4, pos := "ref.go:382", after := #[{ on := 47, ground := Ground.data }, { on := 43, ground := Ground.chain }], guard := none },
  { dst := some 52, op := Op.fieldAddr 33 (Operand.tmp 1) 4, type := 0, pos := "ref.go:382", after := #[{ on := 48, ground := Ground.guard }], guard := some (48, true) },
  { dst := some 53, op := Op.load 3 (Operand.tmp 52), type := 3, pos := "ref.go:382", after := #[{ on := 49, ground := Ground.data }, { on := 48, ground := Ground.guard }], guard := some (48, true) },
  { dst := some 54, op := Op.binOp BinOp.leq 3 (Operand.tmp 53) (Operand.const (Value.int IntKind.i64 59)) 3, type := 4, pos := "ref.go:382", after := #[{ on := 50, ground := Ground.data }, { on := 48, ground := Ground.guard }], guard := some (48, true) },
  { dst := some 55, op := Op.pick (Operand.tmp 51) (Operand.tmp 54) (Operand.const (Value.bool false)), type := 4, pos := "ref.go:382", after := #[{ on := 48, ground := Ground.data }, { on := 51, ground := Ground.data }], guard := none },
  { dst := some 56, op := Op.move (Operand.tmp 55), type := 4, pos := "ref.go:382", after := #[{ on := 52, ground := Ground.data }, { on := 48, ground := Ground.chain }], guard := none },
  { dst := some 57, op := Op.fieldAddr 33 (Operand.tmp 1) 5, type := 0, pos := "ref.go:382", after := #[{ on := 53, ground := Ground.guard }], guard := some (53, true) },
  { dst := some 58, op := Op.load 3 (Operand.tmp 57), type := 3, pos := "ref.go:382", after := #[{ on := 54, ground := Ground.data }, { on := 53, ground := Ground.guard }], guard := some (53, true) },
  { dst := some 59, op := Op.binOp BinOp.geq 3 (Operand.tmp 58) (Operand.const (Value.int IntKind.i64 0)) 3, type := 4, pos := "ref.go:382", after := #[{ on := 55, ground := Ground.data }, { on := 53, ground := Ground.guard }], guard := some (53, true) },
  { dst := some 60, op := Op.pick (Operand.tmp 56) (Operand.tmp 59) (Operand.const (Value.bool false)), type := 4, pos := "ref.go:382", after := #[{ on := 53, ground := Ground.data }, { on := 56, ground := Ground.data }], guard := none },
  { dst := some 61, op := Op.move (Operand.tmp 60), type := 4, pos := "ref.go:382", after := #[{ on := 57, ground := Ground.data }, { on := 53, ground := Ground.chain }], guard := none },
  { dst := some 62, op := Op.fieldAddr 33 (Operand.tmp 1) 5, type := 0, pos := "ref.go:382", after := #[{ on := 58, ground := Ground.guard }], guard := some (58, true) },
  { dst := some 63, op := Op.load 3 (Operand.tmp 62), type := 3, pos := "ref.go:382", after := #[{ on := 59, ground := Ground.data }, { on := 58, ground := Ground.guard }], guard := some (58, true) },
  { dst := some 64, op := Op.binOp BinOp.leq 3 (Operand.tmp 63) (Operand.const (Value.int IntKind.i64 59)) 3, type := 4, pos := "ref.go:382", after := #[{ on := 60, ground := Ground.data }, { on := 58, ground := Ground.guard }], guard := some (58, true) },
  { dst := some 65, op := Op.pick (Operand.tmp 61) (Operand.tmp 64) (Operand.const (Value.bool false)), type := 4, pos := "ref.go:382", after := #[{ on := 58, ground := Ground.data }, { on := 61, ground := Ground.data }], guard := none },
  { dst := some 66, op := Op.move (Operand.tmp 65), type := 4, pos := "ref.go:382", after := #[{ on := 62, ground := Ground.data }, { on := 58, ground := Ground.chain }], guard := none },
  { dst := some 67, op := Op.fieldAddr 33 (Operand.tmp 1) 6, type := 0, pos := "ref.go:382", after := #[{ on := 63, ground := Ground.guard }], guard := some (63, true) },
  { dst := some 68, op := Op.load 3 (Operand.tmp 67), type := 3, pos := "ref.go:382", after := #[{ on := 64, ground := Ground.data }, { on := 63, ground := Ground.guard }], guard := some (63, true) },
  { dst := some 69, op := Op.binOp BinOp.geq 3 (Operand.tmp 68) (Operand.const (Value.int IntKind.i64 (-1439))) 3, type := 4, pos := "ref.go:382", after := #[{ on := 65, ground := Ground.data }, { on := 63, ground := Ground.guard }], guard := some (63, true) },
  { dst := some 70, op := Op.pick (Operand.tmp 66) (Operand.tmp 69) (Operand.const (Value.bool false)), type := 4, pos := "ref.go:382", after := #[{ on := 63, ground := Ground.data }, { on := 66, ground := Ground.data }], guard := none },
  { dst := some 71, op := Op.move (Operand.tmp 70), type := 4, pos := "ref.go:382", after := #[{ on := 67, ground := Ground.data }, { on := 63, ground := Ground.chain }], guard := none },
  { dst := some 72, op := Op.fieldAddr 33 (Operand.tmp 1) 6, type := 0, pos := "ref.go:382", after := #[{ on := 68, ground := Ground.guard }], guard := some (68, true) },
  { dst := some 73, op := Op.load 3 (Operand.tmp 72), type := 3, pos := "ref.go:382", after := #[{ on := 69, ground := Ground.data }, { on := 68, ground := Ground.guard }], guard := some (68, true) },
  { dst := some 74, op := Op.binOp BinOp.leq 3 (Operand.tmp 73) (Operand.const (Value.int IntKind.i64 1439)) 3, type := 4, pos := "ref.go:382", after := #[{ on := 70, ground := Ground.data }, { on := 68, ground := Ground.guard }], guard := some (68, true) },
  { dst := some 75, op := Op.pick (Operand.tmp 71) (Operand.tmp 74) (Operand.const (Value.bool false)), type := 4, pos := "ref.go:382", after := #[{ on := 68, ground := Ground.data }, { on := 71, ground := Ground.data }], guard := none },
  { dst := some 2, op := Op.assign (Operand.tmp 75), type := 4, pos := "ref.go:382", after := ([{ on := 72, ground := Ground.data }, { on := 68, ground := Ground.chain }, { on := 0, ground := Ground.phase }, { on := 1, ground := Ground.phase }, { on := 2, ground := Ground.phase }, { on := 3, ground := Ground.phase }, { on := 4, ground := Ground.phase }, { on := 5, ground := Ground.phase }, { on := 6, ground := Ground.phase }, { on := 7, ground := Ground.phase }, { on := 8, ground := Ground.phase }, { on := 9, ground := Ground.phase }, { on := 10, ground := Ground.phase }, { on := 11, ground := Ground.phase }, { on := 12, ground := Ground.phase }, { on := 13, ground := Ground.phase }, { on := 14, ground := Ground.phase }, { on := 15, ground := Ground.phase }, { on := 16, ground := Ground.phase }, { on := 17, ground := Ground.phase }, { on := 18, ground := Ground.phase }, { on := 19, ground := Ground.phase }, { on := 20, ground := Ground.phase }, { on := 21, ground := Ground.phase }, { on := 22, ground := Ground.phase }, { on := 23, ground := Ground.phase }, { on := 24, ground := Ground.phase }, { on := 25, ground := Ground.phase }, { on := 26, ground := Ground.phase }, { on := 27, ground := Ground.phase }, { on := 28, ground := Ground.phase }, { on := 29, ground := Ground.phase }, { on := 30, ground := Ground.phase }, { on := 31, ground := Ground.phase }, { on := 32, ground := Ground.phase }, { on := 33, ground := Ground.phase }, { on := 34, ground := Ground.phase }, { on := 35, ground := Ground.phase }, { on := 36, ground := Ground.phase }, { on := 37, ground := Ground.phase }, { on := 38, ground := Ground.phase }, { on := 39, ground := Ground.phase }, { on := 40, ground := Ground.phase }, { on := 41, ground := Ground.phase }, { on := 42, ground := Ground.phase }, { on := 43, ground := Ground.phase }, { on := 44, ground := Ground.phase }, { on := 45, ground := Ground.phase }, { on := 46, ground := Ground.phase }, { on := 47, ground := Ground.phase }, { on := 48, ground := Ground.phase }, { on := 49, ground := Ground.phase }, { on := 50, ground := Ground.phase }, { on := 51, ground := Ground.phase }, { on := 52, ground := Ground.phase }, { on := 53, ground := Ground.phase }, { on := 54, ground := Ground.phase }, { on := 55, ground := Ground.phase }, { on := 56, ground := Ground.phase }, { on := 57, ground := Ground.phase }, { on := 58, ground := Ground.phase }, { on := 59, ground := Ground.phase }, { on := 60, ground := Ground.phase }, { on := 61, ground := Ground.phase }, { on := 62, ground := Ground.phase }, { on := 63, ground := Ground.phase }, { on := 64, ground := Ground.phase }, { on := 65, ground := Ground.phase }, { on := 66, ground := Ground.phase }, { on := 67, ground := Ground.phase }, { on := 68, ground := Ground.phase }, { on := 69, ground := Ground.phase }, { on := 70, ground := Ground.phase }, { on := 71, ground := Ground.phase }, { on := 72, ground := Ground.phase }]).toArray, guard := none }]).toArray

theorem gdX {a : Act} {t : Nat} {v : Value} (h : a.eval (.tmp t) = v) : a.tmps[t]?.getD undef = v := by rw [← ev]; exact h
theorem gdWT {a : Act} {o : Oper} {g s : Nat} (hg : o.guard = some (g, true)) (hs : (opsGd[g]?).bind (·.dst) = some s) (h : a.eval (.tmp s) = .bool true) : Region.wanted o (yielded opsGd a.tmps) = true := (wanted_of hg hs (gdX h)).trans rfl
theorem gdWF {a : Act} {o : Oper} {g s : Nat} (hg : o.guard = some (g, true)) (hs : (opsGd[g]?).bind (·.dst) = some s) (h : a.eval (.tmp s) = .bool false) : ¬ Region.wanted o (yielded opsGd a.tmps) = true := fun e => by
  rw [wanted_of hg hs (gdX h)] at e
  exact absurd e (by decide)
theorem gdO0 {o : Oper} (ho : opsGd[0]? = some o) : o = { dst := some 3, op := Op.fieldAddr 33 (Operand.tmp 1) 0, type := 0, pos := "ref.go:382", after := #[], guard := none } := by
  simp only [opsGd, List.getElem?_toArray, List.getElem?_cons_succ, List.getElem?_cons_zero, Option.some.injEq] at ho
  exact ho.symm
theorem gdO1 {o : Oper} (ho : opsGd[1]? = some o) : o = { dst := some 4, op := Op.load 3 (Operand.tmp 3), type := 3, pos := "ref.go:382", after := #[{ on := 0, ground := Ground.data }], guard := none } := by
  simp only [opsGd, List.getElem?_toArray, List.getElem?_cons_succ, List.getElem?_cons_zero, Option.some.injEq] at ho
  exact ho.symm
theorem gdO2 {o : Oper} (ho : opsGd[2]? = some o) : o = { dst := some 5, op := Op.binOp BinOp.geq 3 (Operand.tmp 4) (Operand.const (Value.int IntKind.i64 1970)) 3, type := 4, pos := "ref.go:382", after := #[{ on := 1, ground := Ground.data }], guard := none } := by
  simp only [opsGd, List.getElem?_toArray, List.getElem?_cons_succ, List.getElem?_cons_zero, Option.some.injEq] at ho
  exact ho.symm
theorem gdO3 {o : Oper} (ho : opsGd[3]? = some o) : o = { dst := some 6, op := Op.move (Operand.tmp 5), type := 4, pos := "ref.go:382", after := #[{ on := 2, ground := Ground.data }], guard := none } := by
  simp only [opsGd, List.getElem?_toArray, List.getElem?_cons_succ, List.getElem?_cons_zero, Option.some.injEq] at ho
  exact ho.symm
theorem gdO4 {o : Oper} (ho : opsGd[4]? = some o) : o = { dst := some 7, op := Op.fieldAddr 33 (Operand.tmp 1) 0, type := 0, pos := "ref.go:382", after := #[{ on := 3, ground := Ground.guard }], guard := some (3, true) } := by
  simp only [opsGd, List.getElem?_toArray, List.getElem?_cons_succ, List.getElem?_cons_zero, Option.some.injEq] at ho
  exact ho.symm
theorem gdT4 {a : Act} (h : a.eval (.tmp 6) = .bool true) : Region.wanted { dst := some 7, op := Op.fieldAddr 33 (Operand.tmp 1) 0, type := 0, pos := "ref.go:382", after := #[{ on := 3, ground := Ground.guard }], guard := some (3, true) } (yielded opsGd a.tmps) = true := gdWT rfl rfl h
theorem gdF4 {a : Act} (h : a.eval (.tmp 6) = .bool false) : ¬ Region.wanted { dst := some 7, op := Op.fieldAddr 33 (Operand.tmp 1) 0, type := 0, pos := "ref.go:382", after := #[{ on := 3, ground := Ground.guard }], guard := some (3, true) } (yielded opsGd a.tmps) = true := gdWF rfl rfl h
theorem gdO5 {o : Oper} (ho : opsGd[5]? = some o) : o = { dst := some 8, op := Op.load 3 (Operand.tmp 7), type := 3, pos := "ref.go:382", after := #[{ on := 4, ground := Ground.data }, { on := 3, ground := Ground.guard }], guard := some (3, true) } := by
  simp only [opsGd, List.getElem?_toArray, List.getElem?_cons_succ, List.getElem?_cons_zero, Option.some.injEq] at ho
  exact ho.symm
theorem gdT5 {a : Act} (h : a.eval (.tmp 6) = .bool true) : Region.wanted { dst := some 8, op := Op.load 3 (Operand.tmp 7), type := 3, pos := "ref.go:382", after := #[{ on := 4, ground := Ground.data }, { on := 3, ground := Ground.guard }], guard := some (3, true) } (yielded opsGd a.tmps) = true := gdWT rfl rfl h
theorem gdF5 {a : Act} (h : a.eval (.tmp 6) = .bool false) : ¬ Region.wanted { dst := some 8, op := Op.load 3 (Operand.tmp 7), type := 3, pos := "ref.go:382", after := #[{ on := 4, ground := Ground.data }, { on := 3, ground := Ground.guard }], guard := some (3, true) } (yielded opsGd a.tmps) = true := gdWF rfl rfl h
theorem gdO6 {o : Oper} (ho : opsGd[6]? = some o) : o = { dst := some 9, op := Op.binOp BinOp.leq 3 (Operand.tmp 8) (Operand.const (Value.int IntKind.i64 9999)) 3, type := 4, pos := "ref.go:382", after := #[{ on := 5, ground := Ground.data }, { on := 3, ground := Ground.guard }], guard := some (3, true) } := by
  simp only [opsGd, List.getElem?_toArray, List.getElem?_cons_succ, List.getElem?_cons_zero, Option.some.injEq] at ho
  exact ho.symm
theorem gdT6 {a : Act} (h : a.eval (.tmp 6) = .bool true) : Region.wanted { dst := some 9, op := Op.binOp BinOp.leq 3 (Operand.tmp 8) (Operand.const (Value.int IntKind.i64 9999)) 3, type := 4, pos := "ref.go:382", after := #[{ on := 5, ground := Ground.data }, { on := 3, ground := Ground.guard }], guard := some (3, true) } (yielded opsGd a.tmps) = true := gdWT rfl rfl h
theorem gdF6 {a : Act} (h : a.eval (.tmp 6) = .bool false) : ¬ Region.wanted { dst := some 9, op := Op.binOp BinOp.leq 3 (Operand.tmp 8) (Operand.const (Value.int IntKind.i64 9999)) 3, type := 4, pos := "ref.go:382", after := #[{ on := 5, ground := Ground.data }, { on := 3, ground := Ground.guard }], guard := some (3, true) } (yielded opsGd a.tmps) = true := gdWF rfl rfl h
theorem gdO7 {o : Oper} (ho : opsGd[7]? = some o) : o = { dst := some 10, op := Op.pick (Operand.tmp 6) (Operand.tmp 9) (Operand.const (Value.bool false)), type := 4, pos := "ref.go:382", after := #[{ on := 3, ground := Ground.data }, { on := 6, ground := Ground.data }], guard := none } := by
  simp only [opsGd, List.getElem?_toArray, List.getElem?_cons_succ, List.getElem?_cons_zero, Option.some.injEq] at ho
  exact ho.symm
theorem gdO8 {o : Oper} (ho : opsGd[8]? = some o) : o = { dst := some 11, op := Op.move (Operand.tmp 10), type := 4, pos := "ref.go:382", after := #[{ on := 7, ground := Ground.data }, { on := 3, ground := Ground.chain }], guard := none } := by
  simp only [opsGd, List.getElem?_toArray, List.getElem?_cons_succ, List.getElem?_cons_zero, Option.some.injEq] at ho
  exact ho.symm
theorem gdO9 {o : Oper} (ho : opsGd[9]? = some o) : o = { dst := some 12, op := Op.fieldAddr 33 (Operand.tmp 1) 1, type := 0, pos := "ref.go:382", after := #[{ on := 8, ground := Ground.guard }], guard := some (8, true) } := by
  simp only [opsGd, List.getElem?_toArray, List.getElem?_cons_succ, List.getElem?_cons_zero, Option.some.injEq] at ho
  exact ho.symm
theorem gdT9 {a : Act} (h : a.eval (.tmp 11) = .bool true) : Region.wanted { dst := some 12, op := Op.fieldAddr 33 (Operand.tmp 1) 1, type := 0, pos := "ref.go:382", after := #[{ on := 8, ground := Ground.guard }], guard := some (8, true) } (yielded opsGd a.tmps) = true := gdWT rfl rfl h
theorem gdF9 {a : Act} (h : a.eval (.tmp 11) = .bool false) : ¬ Region.wanted { dst := some 12, op := Op.fieldAddr 33 (Operand.tmp 1) 1, type := 0, pos := "ref.go:382", after := #[{ on := 8, ground := Ground.guard }], guard := some (8, true) } (yielded opsGd a.tmps) = true := gdWF rfl rfl h
theorem gdO10 {o : Oper} (ho : opsGd[10]? = some o) : o = { dst := some 13, op := Op.load 3 (Operand.tmp 12), type := 3, pos := "ref.go:382", after := #[{ on := 9, ground := Ground.data }, { on := 8, ground := Ground.guard }], guard := some (8, true) } := by
  simp only [opsGd, List.getElem?_toArray, List.getElem?_cons_succ, List.getElem?_cons_zero, Option.some.injEq] at ho
  exact ho.symm
theorem gdT10 {a : Act} (h : a.eval (.tmp 11) = .bool true) : Region.wanted { dst := some 13, op := Op.load 3 (Operand.tmp 12), type := 3, pos := "ref.go:382", after := #[{ on := 9, ground := Ground.data }, { on := 8, ground := Ground.guard }], guard := some (8, true) } (yielded opsGd a.tmps) = true := gdWT rfl rfl h
theorem gdF10 {a : Act} (h : a.eval (.tmp 11) = .bool false) : ¬ Region.wanted { dst := some 13, op := Op.load 3 (Operand.tmp 12), type := 3, pos := "ref.go:382", after := #[{ on := 9, ground := Ground.data }, { on := 8, ground := Ground.guard }], guard := some (8, true) } (yielded opsGd a.tmps) = true := gdWF rfl rfl h
theorem gdO11 {o : Oper} (ho : opsGd[11]? = some o) : o = { dst := some 14, op := Op.binOp BinOp.geq 3 (Operand.tmp 13) (Operand.const (Value.int IntKind.i64 1)) 3, type := 4, pos := "ref.go:382", after := #[{ on := 10, ground := Ground.data }, { on := 8, ground := Ground.guard }], guard := some (8, true) } := by
  simp only [opsGd, List.getElem?_toArray, List.getElem?_cons_succ, List.getElem?_cons_zero, Option.some.injEq] at ho
  exact ho.symm
theorem gdT11 {a : Act} (h : a.eval (.tmp 11) = .bool true) : Region.wanted { dst := some 14, op := Op.binOp BinOp.geq 3 (Operand.tmp 13) (Operand.const (Value.int IntKind.i64 1)) 3, type := 4, pos := "ref.go:382", after := #[{ on := 10, ground := Ground.data }, { on := 8, ground := Ground.guard }], guard := some (8, true) } (yielded opsGd a.tmps) = true := gdWT rfl rfl h
theorem gdF11 {a : Act} (h : a.eval (.tmp 11) = .bool false) : ¬ Region.wanted { dst := some 14, op := Op.binOp BinOp.geq 3 (Operand.tmp 13) (Operand.const (Value.int IntKind.i64 1)) 3, type := 4, pos := "ref.go:382", after := #[{ on := 10, ground := Ground.data }, { on := 8, ground := Ground.guard }], guard := some (8, true) } (yielded opsGd a.tmps) = true := gdWF rfl rfl h
theorem gdO12 {o : Oper} (ho : opsGd[12]? = some o) : o = { dst := some 15, op := Op.pick (Operand.tmp 11) (Operand.tmp 14) (Operand.const (Value.bool false)), type := 4, pos := "ref.go:382", after := #[{ on := 8, ground := Ground.data }, { on := 11, ground := Ground.data }], guard := none } := by
  simp only [opsGd, List.getElem?_toArray, List.getElem?_cons_succ, List.getElem?_cons_zero, Option.some.injEq] at ho
  exact ho.symm
theorem gdO13 {o : Oper} (ho : opsGd[13]? = some o) : o = { dst := some 16, op := Op.move (Operand.tmp 15), type := 4, pos := "ref.go:382", after := #[{ on := 12, ground := Ground.data }, { on := 8, ground := Ground.chain }], guard := none } := by
  simp only [opsGd, List.getElem?_toArray, List.getElem?_cons_succ, List.getElem?_cons_zero, Option.some.injEq] at ho
  exact ho.symm
theorem gdO14 {o : Oper} (ho : opsGd[14]? = some o) : o = { dst := some 17, op := Op.fieldAddr 33 (Operand.tmp 1) 1, type := 0, pos := "ref.go:382", after := #[{ on := 13, ground := Ground.guard }], guard := some (13, true) } := by
  simp only [opsGd, List.getElem?_toArray, List.getElem?_cons_succ, List.getElem?_cons_zero, Option.some.injEq] at ho
  exact ho.symm
theorem gdT14 {a : Act} (h : a.eval (.tmp 16) = .bool true) : Region.wanted { dst := some 17, op := Op.fieldAddr 33 (Operand.tmp 1) 1, type := 0, pos := "ref.go:382", after := #[{ on := 13, ground := Ground.guard }], guard := some (13, true) } (yielded opsGd a.tmps) = true := gdWT rfl rfl h
theorem gdF14 {a : Act} (h : a.eval (.tmp 16) = .bool false) : ¬ Region.wanted { dst := some 17, op := Op.fieldAddr 33 (Operand.tmp 1) 1, type := 0, pos := "ref.go:382", after := #[{ on := 13, ground := Ground.guard }], guard := some (13, true) } (yielded opsGd a.tmps) = true := gdWF rfl rfl h
theorem gdO15 {o : Oper} (ho : opsGd[15]? = some o) : o = { dst := some 18, op := Op.load 3 (Operand.tmp 17), type := 3, pos := "ref.go:382", after := #[{ on := 14, ground := Ground.data }, { on := 13, ground := Ground.guard }], guard := some (13, true) } := by
  simp only [opsGd, List.getElem?_toArray, List.getElem?_cons_succ, List.getElem?_cons_zero, Option.some.injEq] at ho
  exact ho.symm
theorem gdT15 {a : Act} (h : a.eval (.tmp 16) = .bool true) : Region.wanted { dst := some 18, op := Op.load 3 (Operand.tmp 17), type := 3, pos := "ref.go:382", after := #[{ on := 14, ground := Ground.data }, { on := 13, ground := Ground.guard }], guard := some (13, true) } (yielded opsGd a.tmps) = true := gdWT rfl rfl h
theorem gdF15 {a : Act} (h : a.eval (.tmp 16) = .bool false) : ¬ Region.wanted { dst := some 18, op := Op.load 3 (Operand.tmp 17), type := 3, pos := "ref.go:382", after := #[{ on := 14, ground := Ground.data }, { on := 13, ground := Ground.guard }], guard := some (13, true) } (yielded opsGd a.tmps) = true := gdWF rfl rfl h
theorem gdO16 {o : Oper} (ho : opsGd[16]? = some o) : o = { dst := some 19, op := Op.binOp BinOp.leq 3 (Operand.tmp 18) (Operand.const (Value.int IntKind.i64 12)) 3, type := 4, pos := "ref.go:382", after := #[{ on := 15, ground := Ground.data }, { on := 13, ground := Ground.guard }], guard := some (13, true) } := by
  simp only [opsGd, List.getElem?_toArray, List.getElem?_cons_succ, List.getElem?_cons_zero, Option.some.injEq] at ho
  exact ho.symm
theorem gdT16 {a : Act} (h : a.eval (.tmp 16) = .bool true) : Region.wanted { dst := some 19, op := Op.binOp BinOp.leq 3 (Operand.tmp 18) (Operand.const (Value.int IntKind.i64 12)) 3, type := 4, pos := "ref.go:382", after := #[{ on := 15, ground := Ground.data }, { on := 13, ground := Ground.guard }], guard := some (13, true) } (yielded opsGd a.tmps) = true := gdWT rfl rfl h
theorem gdF16 {a : Act} (h : a.eval (.tmp 16) = .bool false) : ¬ Region.wanted { dst := some 19, op := Op.binOp BinOp.leq 3 (Operand.tmp 18) (Operand.const (Value.int IntKind.i64 12)) 3, type := 4, pos := "ref.go:382", after := #[{ on := 15, ground := Ground.data }, { on := 13, ground := Ground.guard }], guard := some (13, true) } (yielded opsGd a.tmps) = true := gdWF rfl rfl h
theorem gdO17 {o : Oper} (ho : opsGd[17]? = some o) : o = { dst := some 20, op := Op.pick (Operand.tmp 16) (Operand.tmp 19) (Operand.const (Value.bool false)), type := 4, pos := "ref.go:382", after := #[{ on := 13, ground := Ground.data }, { on := 16, ground := Ground.data }], guard := none } := by
  simp only [opsGd, List.getElem?_toArray, List.getElem?_cons_succ, List.getElem?_cons_zero, Option.some.injEq] at ho
  exact ho.symm
theorem gdO18 {o : Oper} (ho : opsGd[18]? = some o) : o = { dst := some 21, op := Op.move (Operand.tmp 20), type := 4, pos := "ref.go:382", after := #[{ on := 17, ground := Ground.data }, { on := 13, ground := Ground.chain }], guard := none } := by
  simp only [opsGd, List.getElem?_toArray, List.getElem?_cons_succ, List.getElem?_cons_zero, Option.some.injEq] at ho
  exact ho.symm
theorem gdO19 {o : Oper} (ho : opsGd[19]? = some o) : o = { dst := some 22, op := Op.fieldAddr 33 (Operand.tmp 1) 2, type := 0, pos := "ref.go:382", after := #[{ on := 18, ground := Ground.guard }], guard := some (18, true) } := by
  simp only [opsGd, List.getElem?_toArray, List.getElem?_cons_succ, List.getElem?_cons_zero, Option.some.injEq] at ho
  exact ho.symm
theorem gdT19 {a : Act} (h : a.eval (.tmp 21) = .bool true) : Region.wanted { dst := some 22, op := Op.fieldAddr 33 (Operand.tmp 1) 2, type := 0, pos := "ref.go:382", after := #[{ on := 18, ground := Ground.guard }], guard := some (18, true) } (yielded opsGd a.tmps) = true := gdWT rfl rfl h
theorem gdF19 {a : Act} (h : a.eval (.tmp 21) = .bool false) : ¬ Region.wanted { dst := some 22, op := Op.fieldAddr 33 (Operand.tmp 1) 2, type := 0, pos := "ref.go:382", after := #[{ on := 18, ground := Ground.guard }], guard := some (18, true) } (yielded opsGd a.tmps) = true := gdWF rfl rfl h
theorem gdO20 {o : Oper} (ho : opsGd[20]? = some o) : o = { dst := some 23, op := Op.load 3 (Operand.tmp 22), type := 3, pos := "ref.go:382", after := #[{ on := 19, ground := Ground.data }, { on := 18, ground := Ground.guard }], guard := some (18, true) } := by
  simp only [opsGd, List.getElem?_toArray, List.getElem?_cons_succ, List.getElem?_cons_zero, Option.some.injEq] at ho
  exact ho.symm
theorem gdT20 {a : Act} (h : a.eval (.tmp 21) = .bool true) : Region.wanted { dst := some 23, op := Op.load 3 (Operand.tmp 22), type := 3, pos := "ref.go:382", after := #[{ on := 19, ground := Ground.data }, { on := 18, ground := Ground.guard }], guard := some (18, true) } (yielded opsGd a.tmps) = true := gdWT rfl rfl h
theorem gdF20 {a : Act} (h : a.eval (.tmp 21) = .bool false) : ¬ Region.wanted { dst := some 23, op := Op.load 3 (Operand.tmp 22), type := 3, pos := "ref.go:382", after := #[{ on := 19, ground := Ground.data }, { on := 18, ground := Ground.guard }], guard := some (18, true) } (yielded opsGd a.tmps) = true := gdWF rfl rfl h
theorem gdO21 {o : Oper} (ho : opsGd[21]? = some o) : o = { dst := some 24, op := Op.binOp BinOp.geq 3 (Operand.tmp 23) (Operand.const (Value.int IntKind.i64 1)) 3, type := 4, pos := "ref.go:382", after := #[{ on := 20, ground := Ground.data }, { on := 18, ground := Ground.guard }], guard := some (18, true) } := by
  simp only [opsGd, List.getElem?_toArray, List.getElem?_cons_succ, List.getElem?_cons_zero, Option.some.injEq] at ho
  exact ho.symm
theorem gdT21 {a : Act} (h : a.eval (.tmp 21) = .bool true) : Region.wanted { dst := some 24, op := Op.binOp BinOp.geq 3 (Operand.tmp 23) (Operand.const (Value.int IntKind.i64 1)) 3, type := 4, pos := "ref.go:382", after := #[{ on := 20, ground := Ground.data }, { on := 18, ground := Ground.guard }], guard := some (18, true) } (yielded opsGd a.tmps) = true := gdWT rfl rfl h
theorem gdF21 {a : Act} (h : a.eval (.tmp 21) = .bool false) : ¬ Region.wanted { dst := some 24, op := Op.binOp BinOp.geq 3 (Operand.tmp 23) (Operand.const (Value.int IntKind.i64 1)) 3, type := 4, pos := "ref.go:382", after := #[{ on := 20, ground := Ground.data }, { on := 18, ground := Ground.guard }], guard := some (18, true) } (yielded opsGd a.tmps) = true := gdWF rfl rfl h
theorem gdO22 {o : Oper} (ho : opsGd[22]? = some o) : o = { dst := some 25, op := Op.pick (Operand.tmp 21) (Operand.tmp 24) (Operand.const (Value.bool false)), type := 4, pos := "ref.go:382", after := #[{ on := 18, ground := Ground.data }, { on := 21, ground := Ground.data }], guard := none } := by
  simp only [opsGd, List.getElem?_toArray, List.getElem?_cons_succ, List.getElem?_cons_zero, Option.some.injEq] at ho
  exact ho.symm
theorem gdO23 {o : Oper} (ho : opsGd[23]? = some o) : o = { dst := some 26, op := Op.move (Operand.tmp 25), type := 4, pos := "ref.go:382", after := #[{ on := 22, ground := Ground.data }, { on := 18, ground := Ground.chain }], guard := none } := by
  simp only [opsGd, List.getElem?_toArray, List.getElem?_cons_succ, List.getElem?_cons_zero, Option.some.injEq] at ho
  exact ho.symm
theorem gdO24 {o : Oper} (ho : opsGd[24]? = some o) : o = { dst := some 27, op := Op.fieldAddr 33 (Operand.tmp 1) 2, type := 0, pos := "ref.go:382", after := #[{ on := 23, ground := Ground.guard }], guard := some (23, true) } := by
  simp only [opsGd, List.getElem?_toArray, List.getElem?_cons_succ, List.getElem?_cons_zero, Option.some.injEq] at ho
  exact ho.symm
theorem gdT24 {a : Act} (h : a.eval (.tmp 26) = .bool true) : Region.wanted { dst := some 27, op := Op.fieldAddr 33 (Operand.tmp 1) 2, type := 0, pos := "ref.go:382", after := #[{ on := 23, ground := Ground.guard }], guard := some (23, true) } (yielded opsGd a.tmps) = true := gdWT rfl rfl h
theorem gdF24 {a : Act} (h : a.eval (.tmp 26) = .bool false) : ¬ Region.wanted { dst := some 27, op := Op.fieldAddr 33 (Operand.tmp 1) 2, type := 0, pos := "ref.go:382", after := #[{ on := 23, ground := Ground.guard }], guard := some (23, true) } (yielded opsGd a.tmps) = true := gdWF rfl rfl h
theorem gdO25 {o : Oper} (ho : opsGd[25]? = some o) : o = { dst := some 28, op := Op.load 3 (Operand.tmp 27), type := 3, pos := "ref.go:382", after := #[{ on := 24, ground := Ground.data }, { on := 23, ground := Ground.guard }], guard := some (23, true) } := by
  simp only [opsGd, List.getElem?_toArray, List.getElem?_cons_succ, List.getElem?_cons_zero, Option.some.injEq] at ho
  exact ho.symm
theorem gdT25 {a : Act} (h : a.eval (.tmp 26) = .bool true) : Region.wanted { dst := some 28, op := Op.load 3 (Operand.tmp 27), type := 3, pos := "ref.go:382", after := #[{ on := 24, ground := Ground.data }, { on := 23, ground := Ground.guard }], guard := some (23, true) } (yielded opsGd a.tmps) = true := gdWT rfl rfl h
theorem gdF25 {a : Act} (h : a.eval (.tmp 26) = .bool false) : ¬ Region.wanted { dst := some 28, op := Op.load 3 (Operand.tmp 27), type := 3, pos := "ref.go:382", after := #[{ on := 24, ground := Ground.data }, { on := 23, ground := Ground.guard }], guard := some (23, true) } (yielded opsGd a.tmps) = true := gdWF rfl rfl h
theorem gdO26 {o : Oper} (ho : opsGd[26]? = some o) : o = { dst := some 29, op := Op.fieldAddr 33 (Operand.tmp 1) 0, type := 0, pos := "ref.go:382", after := #[{ on := 23, ground := Ground.guard }], guard := some (23, true) } := by
  simp only [opsGd, List.getElem?_toArray, List.getElem?_cons_succ, List.getElem?_cons_zero, Option.some.injEq] at ho
  exact ho.symm
theorem gdT26 {a : Act} (h : a.eval (.tmp 26) = .bool true) : Region.wanted { dst := some 29, op := Op.fieldAddr 33 (Operand.tmp 1) 0, type := 0, pos := "ref.go:382", after := #[{ on := 23, ground := Ground.guard }], guard := some (23, true) } (yielded opsGd a.tmps) = true := gdWT rfl rfl h
theorem gdF26 {a : Act} (h : a.eval (.tmp 26) = .bool false) : ¬ Region.wanted { dst := some 29, op := Op.fieldAddr 33 (Operand.tmp 1) 0, type := 0, pos := "ref.go:382", after := #[{ on := 23, ground := Ground.guard }], guard := some (23, true) } (yielded opsGd a.tmps) = true := gdWF rfl rfl h
theorem gdO27 {o : Oper} (ho : opsGd[27]? = some o) : o = { dst := some 30, op := Op.load 3 (Operand.tmp 29), type := 3, pos := "ref.go:382", after := #[{ on := 26, ground := Ground.data }, { on := 23, ground := Ground.guard }], guard := some (23, true) } := by
  simp only [opsGd, List.getElem?_toArray, List.getElem?_cons_succ, List.getElem?_cons_zero, Option.some.injEq] at ho
  exact ho.symm
theorem gdT27 {a : Act} (h : a.eval (.tmp 26) = .bool true) : Region.wanted { dst := some 30, op := Op.load 3 (Operand.tmp 29), type := 3, pos := "ref.go:382", after := #[{ on := 26, ground := Ground.data }, { on := 23, ground := Ground.guard }], guard := some (23, true) } (yielded opsGd a.tmps) = true := gdWT rfl rfl h
theorem gdF27 {a : Act} (h : a.eval (.tmp 26) = .bool false) : ¬ Region.wanted { dst := some 30, op := Op.load 3 (Operand.tmp 29), type := 3, pos := "ref.go:382", after := #[{ on := 26, ground := Ground.data }, { on := 23, ground := Ground.guard }], guard := some (23, true) } (yielded opsGd a.tmps) = true := gdWF rfl rfl h
theorem gdO28 {o : Oper} (ho : opsGd[28]? = some o) : o = { dst := some 31, op := Op.fieldAddr 33 (Operand.tmp 1) 1, type := 0, pos := "ref.go:382", after := #[{ on := 23, ground := Ground.guard }], guard := some (23, true) } := by
  simp only [opsGd, List.getElem?_toArray, List.getElem?_cons_succ, List.getElem?_cons_zero, Option.some.injEq] at ho
  exact ho.symm
theorem gdT28 {a : Act} (h : a.eval (.tmp 26) = .bool true) : Region.wanted { dst := some 31, op := Op.fieldAddr 33 (Operand.tmp 1) 1, type := 0, pos := "ref.go:382", after := #[{ on := 23, ground := Ground.guard }], guard := some (23, true) } (yielded opsGd a.tmps) = true := gdWT rfl rfl h
theorem gdF28 {a : Act} (h : a.eval (.tmp 26) = .bool false) : ¬ Region.wanted { dst := some 31, op := Op.fieldAddr 33 (Operand.tmp 1) 1, type := 0, pos := "ref.go:382", after := #[{ on := 23, ground := Ground.guard }], guard := some (23, true) } (yielded opsGd a.tmps) = true := gdWF rfl rfl h
theorem gdO29 {o : Oper} (ho : opsGd[29]? = some o) : o = { dst := some 32, op := Op.load 3 (Operand.tmp 31), type := 3, pos := "ref.go:382", after := #[{ on := 28, ground := Ground.data }, { on := 23, ground := Ground.guard }], guard := some (23, true) } := by
  simp only [opsGd, List.getElem?_toArray, List.getElem?_cons_succ, List.getElem?_cons_zero, Option.some.injEq] at ho
  exact ho.symm
theorem gdT29 {a : Act} (h : a.eval (.tmp 26) = .bool true) : Region.wanted { dst := some 32, op := Op.load 3 (Operand.tmp 31), type := 3, pos := "ref.go:382", after := #[{ on := 28, ground := Ground.data }, { on := 23, ground := Ground.guard }], guard := some (23, true) } (yielded opsGd a.tmps) = true := gdWT rfl rfl h
theorem gdF29 {a : Act} (h : a.eval (.tmp 26) = .bool false) : ¬ Region.wanted { dst := some 32, op := Op.load 3 (Operand.tmp 31), type := 3, pos := "ref.go:382", after := #[{ on := 28, ground := Ground.data }, { on := 23, ground := Ground.guard }], guard := some (23, true) } (yielded opsGd a.tmps) = true := gdWF rfl rfl h
theorem gdO30 {o : Oper} (ho : opsGd[30]? = some o) : o = { dst := some 33, op := Op.call { callee := Callee.value (Operand.func 37), args := #[Operand.tmp 30, Operand.tmp 32], argTypes := #[3, 3] }, type := 3, pos := "ref.go:382", after := #[{ on := 27, ground := Ground.data }, { on := 29, ground := Ground.data }, { on := 23, ground := Ground.chain }, { on := 23, ground := Ground.guard }], guard := some (23, true) } := by
  simp only [opsGd, List.getElem?_toArray, List.getElem?_cons_succ, List.getElem?_cons_zero, Option.some.injEq] at ho
  exact ho.symm
theorem gdT30 {a : Act} (h : a.eval (.tmp 26) = .bool true) : Region.wanted { dst := some 33, op := Op.call { callee := Callee.value (Operand.func 37), args := #[Operand.tmp 30, Operand.tmp 32], argTypes := #[3, 3] }, type := 3, pos := "ref.go:382", after := #[{ on := 27, ground := Ground.data }, { on := 29, ground := Ground.data }, { on := 23, ground := Ground.chain }, { on := 23, ground := Ground.guard }], guard := some (23, true) } (yielded opsGd a.tmps) = true := gdWT rfl rfl h
theorem gdF30 {a : Act} (h : a.eval (.tmp 26) = .bool false) : ¬ Region.wanted { dst := some 33, op := Op.call { callee := Callee.value (Operand.func 37), args := #[Operand.tmp 30, Operand.tmp 32], argTypes := #[3, 3] }, type := 3, pos := "ref.go:382", after := #[{ on := 27, ground := Ground.data }, { on := 29, ground := Ground.data }, { on := 23, ground := Ground.chain }, { on := 23, ground := Ground.guard }], guard := some (23, true) } (yielded opsGd a.tmps) = true := gdWF rfl rfl h
theorem gdO31 {o : Oper} (ho : opsGd[31]? = some o) : o = { dst := some 34, op := Op.binOp BinOp.leq 3 (Operand.tmp 28) (Operand.tmp 33) 3, type := 4, pos := "ref.go:382", after := #[{ on := 25, ground := Ground.data }, { on := 30, ground := Ground.data }, { on := 23, ground := Ground.guard }], guard := some (23, true) } := by
  simp only [opsGd, List.getElem?_toArray, List.getElem?_cons_succ, List.getElem?_cons_zero, Option.some.injEq] at ho
  exact ho.symm
theorem gdT31 {a : Act} (h : a.eval (.tmp 26) = .bool true) : Region.wanted { dst := some 34, op := Op.binOp BinOp.leq 3 (Operand.tmp 28) (Operand.tmp 33) 3, type := 4, pos := "ref.go:382", after := #[{ on := 25, ground := Ground.data }, { on := 30, ground := Ground.data }, { on := 23, ground := Ground.guard }], guard := some (23, true) } (yielded opsGd a.tmps) = true := gdWT rfl rfl h
theorem gdF31 {a : Act} (h : a.eval (.tmp 26) = .bool false) : ¬ Region.wanted { dst := some 34, op := Op.binOp BinOp.leq 3 (Operand.tmp 28) (Operand.tmp 33) 3, type := 4, pos := "ref.go:382", after := #[{ on := 25, ground := Ground.data }, { on := 30, ground := Ground.data }, { on := 23, ground := Ground.guard }], guard := some (23, true) } (yielded opsGd a.tmps) = true := gdWF rfl rfl h
theorem gdO32 {o : Oper} (ho : opsGd[32]? = some o) : o = { dst := some 35, op := Op.pick (Operand.tmp 26) (Operand.tmp 34) (Operand.const (Value.bool false)), type := 4, pos := "ref.go:382", after := #[{ on := 23, ground := Ground.data }, { on := 31, ground := Ground.data }], guard := none } := by
  simp only [opsGd, List.getElem?_toArray, List.getElem?_cons_succ, List.getElem?_cons_zero, Option.some.injEq] at ho
  exact ho.symm
theorem gdO33 {o : Oper} (ho : opsGd[33]? = some o) : o = { dst := some 36, op := Op.move (Operand.tmp 35), type := 4, pos := "ref.go:382", after := #[{ on := 32, ground := Ground.data }, { on := 30, ground := Ground.chain }], guard := none } := by
  simp only [opsGd, List.getElem?_toArray, List.getElem?_cons_succ, List.getElem?_cons_zero, Option.some.injEq] at ho
  exact ho.symm
theorem gdO34 {o : Oper} (ho : opsGd[34]? = some o) : o = { dst := some 37, op := Op.fieldAddr 33 (Operand.tmp 1) 3, type := 0, pos := "ref.go:382", after := #[{ on := 33, ground := Ground.guard }], guard := some (33, true) } := by
  simp only [opsGd, List.getElem?_toArray, List.getElem?_cons_succ, List.getElem?_cons_zero, Option.some.injEq] at ho
  exact ho.symm
theorem gdT34 {a : Act} (h : a.eval (.tmp 36) = .bool true) : Region.wanted { dst := some 37, op := Op.fieldAddr 33 (Operand.tmp 1) 3, type := 0, pos := "ref.go:382", after := #[{ on := 33, ground := Ground.guard }], guard := some (33, true) } (yielded opsGd a.tmps) = true := gdWT rfl rfl h
theorem gdF34 {a : Act} (h : a.eval (.tmp 36) = .bool false) : ¬ Region.wanted { dst := some 37, op := Op.fieldAddr 33 (Operand.tmp 1) 3, type := 0, pos := "ref.go:382", after := #[{ on := 33, ground := Ground.guard }], guard := some (33, true) } (yielded opsGd a.tmps) = true := gdWF rfl rfl h
theorem gdO35 {o : Oper} (ho : opsGd[35]? = some o) : o = { dst := some 38, op := Op.load 3 (Operand.tmp 37), type := 3, pos := "ref.go:382", after := #[{ on := 34, ground := Ground.data }, { on := 33, ground := Ground.guard }], guard := some (33, true) } := by
  simp only [opsGd, List.getElem?_toArray, List.getElem?_cons_succ, List.getElem?_cons_zero, Option.some.injEq] at ho
  exact ho.symm
theorem gdT35 {a : Act} (h : a.eval (.tmp 36) = .bool true) : Region.wanted { dst := some 38, op := Op.load 3 (Operand.tmp 37), type := 3, pos := "ref.go:382", after := #[{ on := 34, ground := Ground.data }, { on := 33, ground := Ground.guard }], guard := some (33, true) } (yielded opsGd a.tmps) = true := gdWT rfl rfl h
theorem gdF35 {a : Act} (h : a.eval (.tmp 36) = .bool false) : ¬ Region.wanted { dst := some 38, op := Op.load 3 (Operand.tmp 37), type := 3, pos := "ref.go:382", after := #[{ on := 34, ground := Ground.data }, { on := 33, ground := Ground.guard }], guard := some (33, true) } (yielded opsGd a.tmps) = true := gdWF rfl rfl h
theorem gdO36 {o : Oper} (ho : opsGd[36]? = some o) : o = { dst := some 39, op := Op.binOp BinOp.geq 3 (Operand.tmp 38) (Operand.const (Value.int IntKind.i64 0)) 3, type := 4, pos := "ref.go:382", after := #[{ on := 35, ground := Ground.data }, { on := 33, ground := Ground.guard }], guard := some (33, true) } := by
  simp only [opsGd, List.getElem?_toArray, List.getElem?_cons_succ, List.getElem?_cons_zero, Option.some.injEq] at ho
  exact ho.symm
theorem gdT36 {a : Act} (h : a.eval (.tmp 36) = .bool true) : Region.wanted { dst := some 39, op := Op.binOp BinOp.geq 3 (Operand.tmp 38) (Operand.const (Value.int IntKind.i64 0)) 3, type := 4, pos := "ref.go:382", after := #[{ on := 35, ground := Ground.data }, { on := 33, ground := Ground.guard }], guard := some (33, true) } (yielded opsGd a.tmps) = true := gdWT rfl rfl h
theorem gdF36 {a : Act} (h : a.eval (.tmp 36) = .bool false) : ¬ Region.wanted { dst := some 39, op := Op.binOp BinOp.geq 3 (Operand.tmp 38) (Operand.const (Value.int IntKind.i64 0)) 3, type := 4, pos := "ref.go:382", after := #[{ on := 35, ground := Ground.data }, { on := 33, ground := Ground.guard }], guard := some (33, true) } (yielded opsGd a.tmps) = true := gdWF rfl rfl h
theorem gdO37 {o : Oper} (ho : opsGd[37]? = some o) : o = { dst := some 40, op := Op.pick (Operand.tmp 36) (Operand.tmp 39) (Operand.const (Value.bool false)), type := 4, pos := "ref.go:382", after := #[{ on := 33, ground := Ground.data }, { on := 36, ground := Ground.data }], guard := none } := by
  simp only [opsGd, List.getElem?_toArray, List.getElem?_cons_succ, List.getElem?_cons_zero, Option.some.injEq] at ho
  exact ho.symm
theorem gdO38 {o : Oper} (ho : opsGd[38]? = some o) : o = { dst := some 41, op := Op.move (Operand.tmp 40), type := 4, pos := "ref.go:382", after := #[{ on := 37, ground := Ground.data }, { on := 33, ground := Ground.chain }], guard := none } := by
  simp only [opsGd, List.getElem?_toArray, List.getElem?_cons_succ, List.getElem?_cons_zero, Option.some.injEq] at ho
  exact ho.symm
theorem gdO39 {o : Oper} (ho : opsGd[39]? = some o) : o = { dst := some 42, op := Op.fieldAddr 33 (Operand.tmp 1) 3, type := 0, pos := "ref.go:382", after := #[{ on := 38, ground := Ground.guard }], guard := some (38, true) } := by
  simp only [opsGd, List.getElem?_toArray, List.getElem?_cons_succ, List.getElem?_cons_zero, Option.some.injEq] at ho
  exact ho.symm
theorem gdT39 {a : Act} (h : a.eval (.tmp 41) = .bool true) : Region.wanted { dst := some 42, op := Op.fieldAddr 33 (Operand.tmp 1) 3, type := 0, pos := "ref.go:382", after := #[{ on := 38, ground := Ground.guard }], guard := some (38, true) } (yielded opsGd a.tmps) = true := gdWT rfl rfl h
theorem gdF39 {a : Act} (h : a.eval (.tmp 41) = .bool false) : ¬ Region.wanted { dst := some 42, op := Op.fieldAddr 33 (Operand.tmp 1) 3, type := 0, pos := "ref.go:382", after := #[{ on := 38, ground := Ground.guard }], guard := some (38, true) } (yielded opsGd a.tmps) = true := gdWF rfl rfl h
theorem gdO40 {o : Oper} (ho : opsGd[40]? = some o) : o = { dst := some 43, op := Op.load 3 (Operand.tmp 42), type := 3, pos := "ref.go:382", after := #[{ on := 39, ground := Ground.data }, { on := 38, ground := Ground.guard }], guard := some (38, true) } := by
  simp only [opsGd, List.getElem?_toArray, List.getElem?_cons_succ, List.getElem?_cons_zero, Option.some.injEq] at ho
  exact ho.symm
theorem gdT40 {a : Act} (h : a.eval (.tmp 41) = .bool true) : Region.wanted { dst := some 43, op := Op.load 3 (Operand.tmp 42), type := 3, pos := "ref.go:382", after := #[{ on := 39, ground := Ground.data }, { on := 38, ground := Ground.guard }], guard := some (38, true) } (yielded opsGd a.tmps) = true := gdWT rfl rfl h
theorem gdF40 {a : Act} (h : a.eval (.tmp 41) = .bool false) : ¬ Region.wanted { dst := some 43, op := Op.load 3 (Operand.tmp 42), type := 3, pos := "ref.go:382", after := #[{ on := 39, ground := Ground.data }, { on := 38, ground := Ground.guard }], guard := some (38, true) } (yielded opsGd a.tmps) = true := gdWF rfl rfl h
theorem gdO41 {o : Oper} (ho : opsGd[41]? = some o) : o = { dst := some 44, op := Op.binOp BinOp.leq 3 (Operand.tmp 43) (Operand.const (Value.int IntKind.i64 23)) 3, type := 4, pos := "ref.go:382", after := #[{ on := 40, ground := Ground.data }, { on := 38, ground := Ground.guard }], guard := some (38, true) } := by
  simp only [opsGd, List.getElem?_toArray, List.getElem?_cons_succ, List.getElem?_cons_zero, Option.some.injEq] at ho
  exact ho.symm
theorem gdT41 {a : Act} (h : a.eval (.tmp 41) = .bool true) : Region.wanted { dst := some 44, op := Op.binOp BinOp.leq 3 (Operand.tmp 43) (Operand.const (Value.int IntKind.i64 23)) 3, type := 4, pos := "ref.go:382", after := #[{ on := 40, ground := Ground.data }, { on := 38, ground := Ground.guard }], guard := some (38, true) } (yielded opsGd a.tmps) = true := gdWT rfl rfl h
theorem gdF41 {a : Act} (h : a.eval (.tmp 41) = .bool false) : ¬ Region.wanted { dst := some 44, op := Op.binOp BinOp.leq 3 (Operand.tmp 43) (Operand.const (Value.int IntKind.i64 23)) 3, type := 4, pos := "ref.go:382", after := #[{ on := 40, ground := Ground.data }, { on := 38, ground := Ground.guard }], guard := some (38, true) } (yielded opsGd a.tmps) = true := gdWF rfl rfl h
theorem gdO42 {o : Oper} (ho : opsGd[42]? = some o) : o = { dst := some 45, op := Op.pick (Operand.tmp 41) (Operand.tmp 44) (Operand.const (Value.bool false)), type := 4, pos := "ref.go:382", after := #[{ on := 38, ground := Ground.data }, { on := 41, ground := Ground.data }], guard := none } := by
  simp only [opsGd, List.getElem?_toArray, List.getElem?_cons_succ, List.getElem?_cons_zero, Option.some.injEq] at ho
  exact ho.symm
theorem gdO43 {o : Oper} (ho : opsGd[43]? = some o) : o = { dst := some 46, op := Op.move (Operand.tmp 45), type := 4, pos := "ref.go:382", after := #[{ on := 42, ground := Ground.data }, { on := 38, ground := Ground.chain }], guard := none } := by
  simp only [opsGd, List.getElem?_toArray, List.getElem?_cons_succ, List.getElem?_cons_zero, Option.some.injEq] at ho
  exact ho.symm
theorem gdO44 {o : Oper} (ho : opsGd[44]? = some o) : o = { dst := some 47, op := Op.fieldAddr 33 (Operand.tmp 1) 4, type := 0, pos := "ref.go:382", after := #[{ on := 43, ground := Ground.guard }], guard := some (43, true) } := by
  simp only [opsGd, List.getElem?_toArray, List.getElem?_cons_succ, List.getElem?_cons_zero, Option.some.injEq] at ho
  exact ho.symm
theorem gdT44 {a : Act} (h : a.eval (.tmp 46) = .bool true) : Region.wanted { dst := some 47, op := Op.fieldAddr 33 (Operand.tmp 1) 4, type := 0, pos := "ref.go:382", after := #[{ on := 43, ground := Ground.guard }], guard := some (43, true) } (yielded opsGd a.tmps) = true := gdWT rfl rfl h
theorem gdF44 {a : Act} (h : a.eval (.tmp 46) = .bool false) : ¬ Region.wanted { dst := some 47, op := Op.fieldAddr 33 (Operand.tmp 1) 4, type := 0, pos := "ref.go:382", after := #[{ on := 43, ground := Ground.guard }], guard := some (43, true) } (yielded opsGd a.tmps) = true := gdWF rfl rfl h
theorem gdO45 {o : Oper} (ho : opsGd[45]? = some o) : o = { dst := some 48, op := Op.load 3 (Operand.tmp 47), type := 3, pos := "ref.go:382", after := #[{ on := 44, ground := Ground.data }, { on := 43, ground := Ground.guard }], guard := some (43, true) } := by
  simp only [opsGd, List.getElem?_toArray, List.getElem?_cons_succ, List.getElem?_cons_zero, Option.some.injEq] at ho
  exact ho.symm
theorem gdT45 {a : Act} (h : a.eval (.tmp 46) = .bool true) : Region.wanted { dst := some 48, op := Op.load 3 (Operand.tmp 47), type := 3, pos := "ref.go:382", after := #[{ on := 44, ground := Ground.data }, { on := 43, ground := Ground.guard }], guard := some (43, true) } (yielded opsGd a.tmps) = true := gdWT rfl rfl h
theorem gdF45 {a : Act} (h : a.eval (.tmp 46) = .bool false) : ¬ Region.wanted { dst := some 48, op := Op.load 3 (Operand.tmp 47), type := 3, pos := "ref.go:382", after := #[{ on := 44, ground := Ground.data }, { on := 43, ground := Ground.guard }], guard := some (43, true) } (yielded opsGd a.tmps) = true := gdWF rfl rfl h
theorem gdO46 {o : Oper} (ho : opsGd[46]? = some o) : o = { dst := some 49, op := Op.binOp BinOp.geq 3 (Operand.tmp 48) (Operand.const (Value.int IntKind.i64 0)) 3, type := 4, pos := "ref.go:382", after := #[{ on := 45, ground := Ground.data }, { on := 43, ground := Ground.guard }], guard := some (43, true) } := by
  simp only [opsGd, List.getElem?_toArray, List.getElem?_cons_succ, List.getElem?_cons_zero, Option.some.injEq] at ho
  exact ho.symm
theorem gdT46 {a : Act} (h : a.eval (.tmp 46) = .bool true) : Region.wanted { dst := some 49, op := Op.binOp BinOp.geq 3 (Operand.tmp 48) (Operand.const (Value.int IntKind.i64 0)) 3, type := 4, pos := "ref.go:382", after := #[{ on := 45, ground := Ground.data }, { on := 43, ground := Ground.guard }], guard := some (43, true) } (yielded opsGd a.tmps) = true := gdWT rfl rfl h
theorem gdF46 {a : Act} (h : a.eval (.tmp 46) = .bool false) : ¬ Region.wanted { dst := some 49, op := Op.binOp BinOp.geq 3 (Operand.tmp 48) (Operand.const (Value.int IntKind.i64 0)) 3, type := 4, pos := "ref.go:382", after := #[{ on := 45, ground := Ground.data }, { on := 43, ground := Ground.guard }], guard := some (43, true) } (yielded opsGd a.tmps) = true := gdWF rfl rfl h
theorem gdO47 {o : Oper} (ho : opsGd[47]? = some o) : o = { dst := some 50, op := Op.pick (Operand.tmp 46) (Operand.tmp 49) (Operand.const (Value.bool false)), type := 4, pos := "ref.go:382", after := #[{ on := 43, ground := Ground.data }, { on := 46, ground := Ground.data }], guard := none } := by
  simp only [opsGd, List.getElem?_toArray, List.getElem?_cons_succ, List.getElem?_cons_zero, Option.some.injEq] at ho
  exact ho.symm
theorem gdO48 {o : Oper} (ho : opsGd[48]? = some o) : o = { dst := some 51, op := Op.move (Operand.tmp 50), type := 4, pos := "ref.go:382", after := #[{ on := 47, ground := Ground.data }, { on := 43, ground := Ground.chain }], guard := none } := by
  simp only [opsGd, List.getElem?_toArray, List.getElem?_cons_succ, List.getElem?_cons_zero, Option.some.injEq] at ho
  exact ho.symm
theorem gdO49 {o : Oper} (ho : opsGd[49]? = some o) : o = { dst := some 52, op := Op.fieldAddr 33 (Operand.tmp 1) 4, type := 0, pos := "ref.go:382", after := #[{ on := 48, ground := Ground.guard }], guard := some (48, true) } := by
  simp only [opsGd, List.getElem?_toArray, List.getElem?_cons_succ, List.getElem?_cons_zero, Option.some.injEq] at ho
  exact ho.symm
theorem gdT49 {a : Act} (h : a.eval (.tmp 51) = .bool true) : Region.wanted { dst := some 52, op := Op.fieldAddr 33 (Operand.tmp 1) 4, type := 0, pos := "ref.go:382", after := #[{ on := 48, ground := Ground.guard }], guard := some (48, true) } (yielded opsGd a.tmps) = true := gdWT rfl rfl h
theorem gdF49 {a : Act} (h : a.eval (.tmp 51) = .bool false) : ¬ Region.wanted { dst := some 52, op := Op.fieldAddr 33 (Operand.tmp 1) 4, type := 0, pos := "ref.go:382", after := #[{ on := 48, ground := Ground.guard }], guard := some (48, true) } (yielded opsGd a.tmps) = true := gdWF rfl rfl h
theorem gdO50 {o : Oper} (ho : opsGd[50]? = some o) : o = { dst := some 53, op := Op.load 3 (Operand.tmp 52), type := 3, pos := "ref.go:382", after := #[{ on := 49, ground := Ground.data }, { on := 48, ground := Ground.guard }], guard := some (48, true) } := by
  simp only [opsGd, List.getElem?_toArray, List.getElem?_cons_succ, List.getElem?_cons_zero, Option.some.injEq] at ho
  exact ho.symm
theorem gdT50 {a : Act} (h : a.eval (.tmp 51) = .bool true) : Region.wanted { dst := some 53, op := Op.load 3 (Operand.tmp 52), type := 3, pos := "ref.go:382", after := #[{ on := 49, ground := Ground.data }, { on := 48, ground := Ground.guard }], guard := some (48, true) } (yielded opsGd a.tmps) = true := gdWT rfl rfl h
theorem gdF50 {a : Act} (h : a.eval (.tmp 51) = .bool false) : ¬ Region.wanted { dst := some 53, op := Op.load 3 (Operand.tmp 52), type := 3, pos := "ref.go:382", after := #[{ on := 49, ground := Ground.data }, { on := 48, ground := Ground.guard }], guard := some (48, true) } (yielded opsGd a.tmps) = true := gdWF rfl rfl h
theorem gdO51 {o : Oper} (ho : opsGd[51]? = some o) : o = { dst := some 54, op := Op.binOp BinOp.leq 3 (Operand.tmp 53) (Operand.const (Value.int IntKind.i64 59)) 3, type := 4, pos := "ref.go:382", after := #[{ on := 50, ground := Ground.data }, { on := 48, ground := Ground.guard }], guard := some (48, true) } := by
  simp only [opsGd, List.getElem?_toArray, List.getElem?_cons_succ, List.getElem?_cons_zero, Option.some.injEq] at ho
  exact ho.symm
theorem gdT51 {a : Act} (h : a.eval (.tmp 51) = .bool true) : Region.wanted { dst := some 54, op := Op.binOp BinOp.leq 3 (Operand.tmp 53) (Operand.const (Value.int IntKind.i64 59)) 3, type := 4, pos := "ref.go:382", after := #[{ on := 50, ground := Ground.data }, { on := 48, ground := Ground.guard }], guard := some (48, true) } (yielded opsGd a.tmps) = true := gdWT rfl rfl h
theorem gdF51 {a : Act} (h : a.eval (.tmp 51) = .bool false) : ¬ Region.wanted { dst := some 54, op := Op.binOp BinOp.leq 3 (Operand.tmp 53) (Operand.const (Value.int IntKind.i64 59)) 3, type := 4, pos := "ref.go:382", after := #[{ on := 50, ground := Ground.data }, { on := 48, ground := Ground.guard }], guard := some (48, true) } (yielded opsGd a.tmps) = true := gdWF rfl rfl h
theorem gdO52 {o : Oper} (ho : opsGd[52]? = some o) : o = { dst := some 55, op := Op.pick (Operand.tmp 51) (Operand.tmp 54) (Operand.const (Value.bool false)), type := 4, pos := "ref.go:382", after := #[{ on := 48, ground := Ground.data }, { on := 51, ground := Ground.data }], guard := none } := by
  simp only [opsGd, List.getElem?_toArray, List.getElem?_cons_succ, List.getElem?_cons_zero, Option.some.injEq] at ho
  exact ho.symm
theorem gdO53 {o : Oper} (ho : opsGd[53]? = some o) : o = { dst := some 56, op := Op.move (Operand.tmp 55), type := 4, pos := "ref.go:382", after := #[{ on := 52, ground := Ground.data }, { on := 48, ground := Ground.chain }], guard := none } := by
  simp only [opsGd, List.getElem?_toArray, List.getElem?_cons_succ, List.getElem?_cons_zero, Option.some.injEq] at ho
  exact ho.symm
theorem gdO54 {o : Oper} (ho : opsGd[54]? = some o) : o = { dst := some 57, op := Op.fieldAddr 33 (Operand.tmp 1) 5, type := 0, pos := "ref.go:382", after := #[{ on := 53, ground := Ground.guard }], guard := some (53, true) } := by
  simp only [opsGd, List.getElem?_toArray, List.getElem?_cons_succ, List.getElem?_cons_zero, Option.some.injEq] at ho
  exact ho.symm
theorem gdT54 {a : Act} (h : a.eval (.tmp 56) = .bool true) : Region.wanted { dst := some 57, op := Op.fieldAddr 33 (Operand.tmp 1) 5, type := 0, pos := "ref.go:382", after := #[{ on := 53, ground := Ground.guard }], guard := some (53, true) } (yielded opsGd a.tmps) = true := gdWT rfl rfl h
theorem gdF54 {a : Act} (h : a.eval (.tmp 56) = .bool false) : ¬ Region.wanted { dst := some 57, op := Op.fieldAddr 33 (Operand.tmp 1) 5, type := 0, pos := "ref.go:382", after := #[{ on := 53, ground := Ground.guard }], guard := some (53, true) } (yielded opsGd a.tmps) = true := gdWF rfl rfl h
theorem gdO55 {o : Oper} (ho : opsGd[55]? = some o) : o = { dst := some 58, op := Op.load 3 (Operand.tmp 57), type := 3, pos := "ref.go:382", after := #[{ on := 54, ground := Ground.data }, { on := 53, ground := Ground.guard }], guard := some (53, true) } := by
  simp only [opsGd, List.getElem?_toArray, List.getElem?_cons_succ, List.getElem?_cons_zero, Option.some.injEq] at ho
  exact ho.symm
theorem gdT55 {a : Act} (h : a.eval (.tmp 56) = .bool true) : Region.wanted { dst := some 58, op := Op.load 3 (Operand.tmp 57), type := 3, pos := "ref.go:382", after := #[{ on := 54, ground := Ground.data }, { on := 53, ground := Ground.guard }], guard := some (53, true) } (yielded opsGd a.tmps) = true := gdWT rfl rfl h
theorem gdF55 {a : Act} (h : a.eval (.tmp 56) = .bool false) : ¬ Region.wanted { dst := some 58, op := Op.load 3 (Operand.tmp 57), type := 3, pos := "ref.go:382", after := #[{ on := 54, ground := Ground.data }, { on := 53, ground := Ground.guard }], guard := some (53, true) } (yielded opsGd a.tmps) = true := gdWF rfl rfl h
theorem gdO56 {o : Oper} (ho : opsGd[56]? = some o) : o = { dst := some 59, op := Op.binOp BinOp.geq 3 (Operand.tmp 58) (Operand.const (Value.int IntKind.i64 0)) 3, type := 4, pos := "ref.go:382", after := #[{ on := 55, ground := Ground.data }, { on := 53, ground := Ground.guard }], guard := some (53, true) } := by
  simp only [opsGd, List.getElem?_toArray, List.getElem?_cons_succ, List.getElem?_cons_zero, Option.some.injEq] at ho
  exact ho.symm
theorem gdT56 {a : Act} (h : a.eval (.tmp 56) = .bool true) : Region.wanted { dst := some 59, op := Op.binOp BinOp.geq 3 (Operand.tmp 58) (Operand.const (Value.int IntKind.i64 0)) 3, type := 4, pos := "ref.go:382", after := #[{ on := 55, ground := Ground.data }, { on := 53, ground := Ground.guard }], guard := some (53, true) } (yielded opsGd a.tmps) = true := gdWT rfl rfl h
theorem gdF56 {a : Act} (h : a.eval (.tmp 56) = .bool false) : ¬ Region.wanted { dst := some 59, op := Op.binOp BinOp.geq 3 (Operand.tmp 58) (Operand.const (Value.int IntKind.i64 0)) 3, type := 4, pos := "ref.go:382", after := #[{ on := 55, ground := Ground.data }, { on := 53, ground := Ground.guard }], guard := some (53, true) } (yielded opsGd a.tmps) = true := gdWF rfl rfl h
theorem gdO57 {o : Oper} (ho : opsGd[57]? = some o) : o = { dst := some 60, op := Op.pick (Operand.tmp 56) (Operand.tmp 59) (Operand.const (Value.bool false)), type := 4, pos := "ref.go:382", after := #[{ on := 53, ground := Ground.data }, { on := 56, ground := Ground.data }], guard := none } := by
  simp only [opsGd, List.getElem?_toArray, List.getElem?_cons_succ, List.getElem?_cons_zero, Option.some.injEq] at ho
  exact ho.symm
theorem gdO58 {o : Oper} (ho : opsGd[58]? = some o) : o = { dst := some 61, op := Op.move (Operand.tmp 60), type := 4, pos := "ref.go:382", after := #[{ on := 57, ground := Ground.data }, { on := 53, ground := Ground.chain }], guard := none } := by
  simp only [opsGd, List.getElem?_toArray, List.getElem?_cons_succ, List.getElem?_cons_zero, Option.some.injEq] at ho
  exact ho.symm
theorem gdO59 {o : Oper} (ho : opsGd[59]? = some o) : o = { dst := some 62, op := Op.fieldAddr 33 (Operand.tmp 1) 5, type := 0, pos := "ref.go:382", after := #[{ on := 58, ground := Ground.guard }], guard := some (58, true) } := by
  simp only [opsGd, List.getElem?_toArray, List.getElem?_cons_succ, List.getElem?_cons_zero, Option.some.injEq] at ho
  exact ho.symm
theorem gdT59 {a : Act} (h : a.eval (.tmp 61) = .bool true) : Region.wanted { dst := some 62, op := Op.fieldAddr 33 (Operand.tmp 1) 5, type := 0, pos := "ref.go:382", after := #[{ on := 58, ground := Ground.guard }], guard := some (58, true) } (yielded opsGd a.tmps) = true := gdWT rfl rfl h
theorem gdF59 {a : Act} (h : a.eval (.tmp 61) = .bool false) : ¬ Region.wanted { dst := some 62, op := Op.fieldAddr 33 (Operand.tmp 1) 5, type := 0, pos := "ref.go:382", after := #[{ on := 58, ground := Ground.guard }], guard := some (58, true) } (yielded opsGd a.tmps) = true := gdWF rfl rfl h
theorem gdO60 {o : Oper} (ho : opsGd[60]? = some o) : o = { dst := some 63, op := Op.load 3 (Operand.tmp 62), type := 3, pos := "ref.go:382", after := #[{ on := 59, ground := Ground.data }, { on := 58, ground := Ground.guard }], guard := some (58, true) } := by
  simp only [opsGd, List.getElem?_toArray, List.getElem?_cons_succ, List.getElem?_cons_zero, Option.some.injEq] at ho
  exact ho.symm
theorem gdT60 {a : Act} (h : a.eval (.tmp 61) = .bool true) : Region.wanted { dst := some 63, op := Op.load 3 (Operand.tmp 62), type := 3, pos := "ref.go:382", after := #[{ on := 59, ground := Ground.data }, { on := 58, ground := Ground.guard }], guard := some (58, true) } (yielded opsGd a.tmps) = true := gdWT rfl rfl h
theorem gdF60 {a : Act} (h : a.eval (.tmp 61) = .bool false) : ¬ Region.wanted { dst := some 63, op := Op.load 3 (Operand.tmp 62), type := 3, pos := "ref.go:382", after := #[{ on := 59, ground := Ground.data }, { on := 58, ground := Ground.guard }], guard := some (58, true) } (yielded opsGd a.tmps) = true := gdWF rfl rfl h
theorem gdO61 {o : Oper} (ho : opsGd[61]? = some o) : o = { dst := some 64, op := Op.binOp BinOp.leq 3 (Operand.tmp 63) (Operand.const (Value.int IntKind.i64 59)) 3, type := 4, pos := "ref.go:382", after := #[{ on := 60, ground := Ground.data }, { on := 58, ground := Ground.guard }], guard := some (58, true) } := by
  simp only [opsGd, List.getElem?_toArray, List.getElem?_cons_succ, List.getElem?_cons_zero, Option.some.injEq] at ho
  exact ho.symm
theorem gdT61 {a : Act} (h : a.eval (.tmp 61) = .bool true) : Region.wanted { dst := some 64, op := Op.binOp BinOp.leq 3 (Operand.tmp 63) (Operand.const (Value.int IntKind.i64 59)) 3, type := 4, pos := "ref.go:382", after := #[{ on := 60, ground := Ground.data }, { on := 58, ground := Ground.guard }], guard := some (58, true) } (yielded opsGd a.tmps) = true := gdWT rfl rfl h
theorem gdF61 {a : Act} (h : a.eval (.tmp 61) = .bool false) : ¬ Region.wanted { dst := some 64, op := Op.binOp BinOp.leq 3 (Operand.tmp 63) (Operand.const (Value.int IntKind.i64 59)) 3, type := 4, pos := "ref.go:382", after := #[{ on := 60, ground := Ground.data }, { on := 58, ground := Ground.guard }], guard := some (58, true) } (yielded opsGd a.tmps) = true := gdWF rfl rfl h
theorem gdO62 {o : Oper} (ho : opsGd[62]? = some o) : o = { dst := some 65, op := Op.pick (Operand.tmp 61) (Operand.tmp 64) (Operand.const (Value.bool false)), type := 4, pos := "ref.go:382", after := #[{ on := 58, ground := Ground.data }, { on := 61, ground := Ground.data }], guard := none } := by
  simp only [opsGd, List.getElem?_toArray, List.getElem?_cons_succ, List.getElem?_cons_zero, Option.some.injEq] at ho
  exact ho.symm
theorem gdO63 {o : Oper} (ho : opsGd[63]? = some o) : o = { dst := some 66, op := Op.move (Operand.tmp 65), type := 4, pos := "ref.go:382", after := #[{ on := 62, ground := Ground.data }, { on := 58, ground := Ground.chain }], guard := none } := by
  simp only [opsGd, List.getElem?_toArray, List.getElem?_cons_succ, List.getElem?_cons_zero, Option.some.injEq] at ho
  exact ho.symm
theorem gdO64 {o : Oper} (ho : opsGd[64]? = some o) : o = { dst := some 67, op := Op.fieldAddr 33 (Operand.tmp 1) 6, type := 0, pos := "ref.go:382", after := #[{ on := 63, ground := Ground.guard }], guard := some (63, true) } := by
  simp only [opsGd, List.getElem?_toArray, List.getElem?_cons_succ, List.getElem?_cons_zero, Option.some.injEq] at ho
  exact ho.symm
theorem gdT64 {a : Act} (h : a.eval (.tmp 66) = .bool true) : Region.wanted { dst := some 67, op := Op.fieldAddr 33 (Operand.tmp 1) 6, type := 0, pos := "ref.go:382", after := #[{ on := 63, ground := Ground.guard }], guard := some (63, true) } (yielded opsGd a.tmps) = true := gdWT rfl rfl h
theorem gdF64 {a : Act} (h : a.eval (.tmp 66) = .bool false) : ¬ Region.wanted { dst := some 67, op := Op.fieldAddr 33 (Operand.tmp 1) 6, type := 0, pos := "ref.go:382", after := #[{ on := 63, ground := Ground.guard }], guard := some (63, true) } (yielded opsGd a.tmps) = true := gdWF rfl rfl h
theorem gdO65 {o : Oper} (ho : opsGd[65]? = some o) : o = { dst := some 68, op := Op.load 3 (Operand.tmp 67), type := 3, pos := "ref.go:382", after := #[{ on := 64, ground := Ground.data }, { on := 63, ground := Ground.guard }], guard := some (63, true) } := by
  simp only [opsGd, List.getElem?_toArray, List.getElem?_cons_succ, List.getElem?_cons_zero, Option.some.injEq] at ho
  exact ho.symm
theorem gdT65 {a : Act} (h : a.eval (.tmp 66) = .bool true) : Region.wanted { dst := some 68, op := Op.load 3 (Operand.tmp 67), type := 3, pos := "ref.go:382", after := #[{ on := 64, ground := Ground.data }, { on := 63, ground := Ground.guard }], guard := some (63, true) } (yielded opsGd a.tmps) = true := gdWT rfl rfl h
theorem gdF65 {a : Act} (h : a.eval (.tmp 66) = .bool false) : ¬ Region.wanted { dst := some 68, op := Op.load 3 (Operand.tmp 67), type := 3, pos := "ref.go:382", after := #[{ on := 64, ground := Ground.data }, { on := 63, ground := Ground.guard }], guard := some (63, true) } (yielded opsGd a.tmps) = true := gdWF rfl rfl h
theorem gdO66 {o : Oper} (ho : opsGd[66]? = some o) : o = { dst := some 69, op := Op.binOp BinOp.geq 3 (Operand.tmp 68) (Operand.const (Value.int IntKind.i64 (-1439))) 3, type := 4, pos := "ref.go:382", after := #[{ on := 65, ground := Ground.data }, { on := 63, ground := Ground.guard }], guard := some (63, true) } := by
  simp only [opsGd, List.getElem?_toArray, List.getElem?_cons_succ, List.getElem?_cons_zero, Option.some.injEq] at ho
  exact ho.symm
theorem gdT66 {a : Act} (h : a.eval (.tmp 66) = .bool true) : Region.wanted { dst := some 69, op := Op.binOp BinOp.geq 3 (Operand.tmp 68) (Operand.const (Value.int IntKind.i64 (-1439))) 3, type := 4, pos := "ref.go:382", after := #[{ on := 65, ground := Ground.data }, { on := 63, ground := Ground.guard }], guard := some (63, true) } (yielded opsGd a.tmps) = true := gdWT rfl rfl h
theorem gdF66 {a : Act} (h : a.eval (.tmp 66) = .bool false) : ¬ Region.wanted { dst := some 69, op := Op.binOp BinOp.geq 3 (Operand.tmp 68) (Operand.const (Value.int IntKind.i64 (-1439))) 3, type := 4, pos := "ref.go:382", after := #[{ on := 65, ground := Ground.data }, { on := 63, ground := Ground.guard }], guard := some (63, true) } (yielded opsGd a.tmps) = true := gdWF rfl rfl h
theorem gdO67 {o : Oper} (ho : opsGd[67]? = some o) : o = { dst := some 70, op := Op.pick (Operand.tmp 66) (Operand.tmp 69) (Operand.const (Value.bool false)), type := 4, pos := "ref.go:382", after := #[{ on := 63, ground := Ground.data }, { on := 66, ground := Ground.data }], guard := none } := by
  simp only [opsGd, List.getElem?_toArray, List.getElem?_cons_succ, List.getElem?_cons_zero, Option.some.injEq] at ho
  exact ho.symm
theorem gdO68 {o : Oper} (ho : opsGd[68]? = some o) : o = { dst := some 71, op := Op.move (Operand.tmp 70), type := 4, pos := "ref.go:382", after := #[{ on := 67, ground := Ground.data }, { on := 63, ground := Ground.chain }], guard := none } := by
  simp only [opsGd, List.getElem?_toArray, List.getElem?_cons_succ, List.getElem?_cons_zero, Option.some.injEq] at ho
  exact ho.symm
theorem gdO69 {o : Oper} (ho : opsGd[69]? = some o) : o = { dst := some 72, op := Op.fieldAddr 33 (Operand.tmp 1) 6, type := 0, pos := "ref.go:382", after := #[{ on := 68, ground := Ground.guard }], guard := some (68, true) } := by
  simp only [opsGd, List.getElem?_toArray, List.getElem?_cons_succ, List.getElem?_cons_zero, Option.some.injEq] at ho
  exact ho.symm
theorem gdT69 {a : Act} (h : a.eval (.tmp 71) = .bool true) : Region.wanted { dst := some 72, op := Op.fieldAddr 33 (Operand.tmp 1) 6, type := 0, pos := "ref.go:382", after := #[{ on := 68, ground := Ground.guard }], guard := some (68, true) } (yielded opsGd a.tmps) = true := gdWT rfl rfl h
theorem gdF69 {a : Act} (h : a.eval (.tmp 71) = .bool false) : ¬ Region.wanted { dst := some 72, op := Op.fieldAddr 33 (Operand.tmp 1) 6, type := 0, pos := "ref.go:382", after := #[{ on := 68, ground := Ground.guard }], guard := some (68, true) } (yielded opsGd a.tmps) = true := gdWF rfl rfl h
theorem gdO70 {o : Oper} (ho : opsGd[70]? = some o) : o = { dst := some 73, op := Op.load 3 (Operand.tmp 72), type := 3, pos := "ref.go:382", after := #[{ on := 69, ground := Ground.data }, { on := 68, ground := Ground.guard }], guard := some (68, true) } := by
  simp only [opsGd, List.getElem?_toArray, List.getElem?_cons_succ, List.getElem?_cons_zero, Option.some.injEq] at ho
  exact ho.symm
theorem gdT70 {a : Act} (h : a.eval (.tmp 71) = .bool true) : Region.wanted { dst := some 73, op := Op.load 3 (Operand.tmp 72), type := 3, pos := "ref.go:382", after := #[{ on := 69, ground := Ground.data }, { on := 68, ground := Ground.guard }], guard := some (68, true) } (yielded opsGd a.tmps) = true := gdWT rfl rfl h
theorem gdF70 {a : Act} (h : a.eval (.tmp 71) = .bool false) : ¬ Region.wanted { dst := some 73, op := Op.load 3 (Operand.tmp 72), type := 3, pos := "ref.go:382", after := #[{ on := 69, ground := Ground.data }, { on := 68, ground := Ground.guard }], guard := some (68, true) } (yielded opsGd a.tmps) = true := gdWF rfl rfl h
theorem gdO71 {o : Oper} (ho : opsGd[71]? = some o) : o = { dst := some 74, op := Op.binOp BinOp.leq 3 (Operand.tmp 73) (Operand.const (Value.int IntKind.i64 1439)) 3, type := 4, pos := "ref.go:382", after := #[{ on := 70, ground := Ground.data }, { on := 68, ground := Ground.guard }], guard := some (68, true) } := by
  simp only [opsGd, List.getElem?_toArray, List.getElem?_cons_succ, List.getElem?_cons_zero, Option.some.injEq] at ho
  exact ho.symm
theorem gdT71 {a : Act} (h : a.eval (.tmp 71) = .bool true) : Region.wanted { dst := some 74, op := Op.binOp BinOp.leq 3 (Operand.tmp 73) (Operand.const (Value.int IntKind.i64 1439)) 3, type := 4, pos := "ref.go:382", after := #[{ on := 70, ground := Ground.data }, { on := 68, ground := Ground.guard }], guard := some (68, true) } (yielded opsGd a.tmps) = true := gdWT rfl rfl h
theorem gdF71 {a : Act} (h : a.eval (.tmp 71) = .bool false) : ¬ Region.wanted { dst := some 74, op := Op.binOp BinOp.leq 3 (Operand.tmp 73) (Operand.const (Value.int IntKind.i64 1439)) 3, type := 4, pos := "ref.go:382", after := #[{ on := 70, ground := Ground.data }, { on := 68, ground := Ground.guard }], guard := some (68, true) } (yielded opsGd a.tmps) = true := gdWF rfl rfl h
theorem gdO72 {o : Oper} (ho : opsGd[72]? = some o) : o = { dst := some 75, op := Op.pick (Operand.tmp 71) (Operand.tmp 74) (Operand.const (Value.bool false)), type := 4, pos := "ref.go:382", after := #[{ on := 68, ground := Ground.data }, { on := 71, ground := Ground.data }], guard := none } := by
  simp only [opsGd, List.getElem?_toArray, List.getElem?_cons_succ, List.getElem?_cons_zero, Option.some.injEq] at ho
  exact ho.symm
theorem gdO73 {o : Oper} (ho : opsGd[73]? = some o) : o = { dst := some 2, op := Op.assign (Operand.tmp 75), type := 4, pos := "ref.go:382", after := ([{ on := 72, ground := Ground.data }, { on := 68, ground := Ground.chain }, { on := 0, ground := Ground.phase }, { on := 1, ground := Ground.phase }, { on := 2, ground := Ground.phase }, { on := 3, ground := Ground.phase }, { on := 4, ground := Ground.phase }, { on := 5, ground := Ground.phase }, { on := 6, ground := Ground.phase }, { on := 7, ground := Ground.phase }, { on := 8, ground := Ground.phase }, { on := 9, ground := Ground.phase }, { on := 10, ground := Ground.phase }, { on := 11, ground := Ground.phase }, { on := 12, ground := Ground.phase }, { on := 13, ground := Ground.phase }, { on := 14, ground := Ground.phase }, { on := 15, ground := Ground.phase }, { on := 16, ground := Ground.phase }, { on := 17, ground := Ground.phase }, { on := 18, ground := Ground.phase }, { on := 19, ground := Ground.phase }, { on := 20, ground := Ground.phase }, { on := 21, ground := Ground.phase }, { on := 22, ground := Ground.phase }, { on := 23, ground := Ground.phase }, { on := 24, ground := Ground.phase }, { on := 25, ground := Ground.phase }, { on := 26, ground := Ground.phase }, { on := 27, ground := Ground.phase }, { on := 28, ground := Ground.phase }, { on := 29, ground := Ground.phase }, { on := 30, ground := Ground.phase }, { on := 31, ground := Ground.phase }, { on := 32, ground := Ground.phase }, { on := 33, ground := Ground.phase }, { on := 34, ground := Ground.phase }, { on := 35, ground := Ground.phase }, { on := 36, ground := Ground.phase }, { on := 37, ground := Ground.phase }, { on := 38, ground := Ground.phase }, { on := 39, ground := Ground.phase }, { on := 40, ground := Ground.phase }, { on := 41, ground := Ground.phase }, { on := 42, ground := Ground.phase }, { on := 43, ground := Ground.phase }, { on := 44, ground := Ground.phase }, { on := 45, ground := Ground.phase }, { on := 46, ground := Ground.phase }, { on := 47, ground := Ground.phase }, { on := 48, ground := Ground.phase }, { on := 49, ground := Ground.phase }, { on := 50, ground := Ground.phase }, { on := 51, ground := Ground.phase }, { on := 52, ground := Ground.phase }, { on := 53, ground := Ground.phase }, { on := 54, ground := Ground.phase }, { on := 55, ground := Ground.phase }, { on := 56, ground := Ground.phase }, { on := 57, ground := Ground.phase }, { on := 58, ground := Ground.phase }, { on := 59, ground := Ground.phase }, { on := 60, ground := Ground.phase }, { on := 61, ground := Ground.phase }, { on := 62, ground := Ground.phase }, { on := 63, ground := Ground.phase }, { on := 64, ground := Ground.phase }, { on := 65, ground := Ground.phase }, { on := 66, ground := Ground.phase }, { on := 67, ground := Ground.phase }, { on := 68, ground := Ground.phase }, { on := 69, ground := Ground.phase }, { on := 70, ground := Ground.phase }, { on := 71, ground := Ground.phase }, { on := 72, ground := Ground.phase }]).toArray, guard := none } := by
  simp only [opsGd, List.getElem?_toArray, List.getElem?_cons_succ, List.getElem?_cons_zero, Option.some.injEq] at ho
  exact ho.symm

def gd5Vals (b : Nat) (y m k hh mi s z d : Int) : List (Nat × Nat × Value) := [(0, 3, .pointer (some ⟨b, 0, none⟩)), (1, 4, .int .i64 y), (2, 5, .bool true), (3, 6, .bool true), (4, 7, .pointer (some ⟨b, 0, none⟩)), (5, 8, .int .i64 y), (6, 9, .bool true), (7, 10, .bool true), (8, 11, .bool true), (9, 12, .pointer (some ⟨b, 1, none⟩)), (10, 13, .int .i64 m), (11, 14, .bool true), (12, 15, .bool true), (13, 16, .bool true), (14, 17, .pointer (some ⟨b, 1, none⟩)), (15, 18, .int .i64 m), (16, 19, .bool true), (17, 20, .bool true), (18, 21, .bool true), (19, 22, .pointer (some ⟨b, 2, none⟩)), (20, 23, .int .i64 k), (21, 24, .bool true), (22, 25, .bool true), (23, 26, .bool true), (24, 27, .pointer (some ⟨b, 2, none⟩)), (25, 28, .int .i64 k), (26, 29, .pointer (some ⟨b, 0, none⟩)), (27, 30, .int .i64 y), (28, 31, .pointer (some ⟨b, 1, none⟩)), (29, 32, .int .i64 m), (31, 34, .bool false), (32, 35, .bool false), (33, 36, .bool false), (34, 37, undef), (35, 38, undef), (36, 39, undef), (37, 40, .bool false), (38, 41, .bool false), (39, 42, undef), (40, 43, undef), (41, 44, undef), (42, 45, .bool false), (43, 46, .bool false), (44, 47, undef), (45, 48, undef), (46, 49, undef), (47, 50, .bool false), (48, 51, .bool false), (49, 52, undef), (50, 53, undef), (51, 54, undef), (52, 55, .bool false), (53, 56, .bool false), (54, 57, undef), (55, 58, undef), (56, 59, undef), (57, 60, .bool false), (58, 61, .bool false), (59, 62, undef), (60, 63, undef), (61, 64, undef), (62, 65, .bool false), (63, 66, .bool false), (64, 67, undef), (65, 68, undef), (66, 69, undef), (67, 70, .bool false), (68, 71, .bool false), (69, 72, undef), (70, 73, undef), (71, 74, undef), (72, 75, .bool false), (73, 2, .bool false)]
def gd5C : List (Nat × Nat) := [(30, 33)]

set_option maxHeartbeats 4000000 in
set_option maxRecDepth 100000 in
theorem gd5 {Q : Exit → Act → World → Prop} {a0 : Act} {wp : World} (b : Nat) (y m k hh mi s z d : Int) (S : Nat → (Nat → Value) → World → Prop)
    (hsz : 75 < a0.tmps.size) (in1 : a0.eval (.tmp 1) = .pointer (some ⟨b, 0, none⟩))
    (hx : ∀ p R w, S p R w → w.cell? ⟨b, 0, none⟩ = some (.int .i64 y) ∧ w.cell? ⟨b, 1, none⟩ = some (.int .i64 m) ∧ w.cell? ⟨b, 2, none⟩ = some (.int .i64 k) ∧ w.cell? ⟨b, 3, none⟩ = some (.int .i64 hh) ∧ w.cell? ⟨b, 4, none⟩ = some (.int .i64 mi) ∧ w.cell? ⟨b, 5, none⟩ = some (.int .i64 s) ∧ w.cell? ⟨b, 6, none⟩ = some (.int .i64 z)) (c0 : decide (1970 ≤ y) = true) (c1 : decide (y ≤ 9999) = true) (c2 : decide (1 ≤ m) = true) (c3 : decide (m ≤ 12) = true) (c4 : decide (1 ≤ k) = true) (c5 : decide (k ≤ d) = false)
    (hc : ∀ R w, S 0 R w → Calls Tryd.prog 37 #[.int .i64 y, .int .i64 m] w fun e w' => ∃ v, e = .returned v ∧ S 1 (setR R 0 v) w')
    (hv : ∀ p R w, S p R w → 0 < p → R 0 = .int .i64 d)
    (hS : S 0 (resOf gd5C fun t => a0.eval (.tmp t)) wp.drew)
    (fin : ∀ a w, Fr [3, 4, 5, 6, 7, 8, 9, 10, 11, 12, 13, 14, 15, 16, 17, 18, 19, 20, 21, 22, 23, 24, 25, 26, 27, 28, 29, 30, 31, 32, 33, 34, 35, 36, 37, 38, 39, 40, 41, 42, 43, 44, 45, 46, 47, 48, 49, 50, 51, 52, 53, 54, 55, 56, 57, 58, 59, 60, 61, 62, 63, 64, 65, 66, 67, 68, 69, 70, 71, 72, 73, 74, 75, 2] a0 a → a.eval (.tmp 2) = .bool false → S 1 (resOf gd5C fun t => a.eval (.tmp t)) w → Q .normal a w) :
    (Code.region 1 opsGd true).wp Tryd.prog Q a0 wp := by
  refine region_inv (by kernel_rfl) [3, 4, 5, 6, 7, 8, 9, 10, 11, 12, 13, 14, 15, 16, 17, 18, 19, 20, 21, 22, 23, 24, 25, 26, 27, 28, 29, 30, 31, 32, 33, 34, 35, 36, 37, 38, 39, 40, 41, 42, 43, 44, 45, 46, 47, 48, 49, 50, 51, 52, 53, 54, 55, 56, 57, 58, 59, 60, 61, 62, 63, 64, 65, 66, 67, 68, 69, 70, 71, 72, 73, 74, 75, 2] (by kernel_rfl) (by kernel_rfl) (fun t ht => by simp at ht; omega) (GV (gd5Vals b y m k hh mi s z d) gd5C S) (.start hS) ?_
    (fun L a w hf hall hG => fin a w hf (hG.val 72 73 2 _ rfl (hall 73 (by decide))) (hG.fin (fun c hc => by simp [gd5C] at hc; subst hc; exact hall _ (by decide))))
  clear hS fin
  intro ix oo ho L a w hfr hG hLi hdep hcl K hK
  have e1 : a.tmps[1]?.getD undef = .pointer (some ⟨b, 0, none⟩) := by rw [← ev]; exact (hfr.same 1 (by decide)).trans in1
  clear in1
  match ix, ho with
  | 0, ho =>
   obtain rfl := gdO0 ho
   rw [if_pos (show Region.wanted _ _ = true from rfl)]
   have HK := Lib.hid (hK (.pointer (some ⟨b, 0, none⟩)) w (hG.quiet 0 0 3 _ rfl (by kernel_rfl) (by kernel_rfl)))
   clear hx hc hv c0 c1 c2 c3 c4 c5
   clear hG hcl hdep hfr hK hLi
   go_simp
   exact HK.out
  | 1, ho =>
   obtain rfl := gdO1 ho
   have x3 := gdX (hG.val 0 0 3 _ rfl (hdep ⟨0, .data⟩ (by simp) rfl))
   rw [if_pos (show Region.wanted _ _ = true from rfl)]
   obtain ⟨ph, hSp, hdone⟩ := hG.any
   have HK := Lib.hid (hK (.int .i64 y) w (hG.quiet 1 1 4 _ rfl (by kernel_rfl) (by kernel_rfl)))
   generalize (resOf gd5C fun t => a.eval (.tmp t)) = R at *
   obtain ⟨q0, q1, q2, q3, q4, q5, q6⟩ := hx _ _ _ hSp
   clear hx hc hv c0 c1 c2 c3 c4 c5 q1 q2 q3 q4 q5 q6
   clear hSp hdone
   clear hG hcl hdep hfr hK hLi
   go_simp
   exact HK.out
  | 2, ho =>
   obtain rfl := gdO2 ho
   have x4 := gdX (hG.val 1 1 4 _ rfl (hdep ⟨1, .data⟩ (by simp) rfl))
   rw [if_pos (show Region.wanted _ _ = true from rfl)]
   have HK := Lib.hid (hK (.bool true) w (hG.quiet 2 2 5 _ rfl (by kernel_rfl) (by kernel_rfl)))
   clear hx hc hv c1 c2 c3 c4 c5
   clear hG hcl hdep hfr hK hLi
   go_simp
   exact HK.out
  | 3, ho =>
   obtain rfl := gdO3 ho
   have x5 := gdX (hG.val 2 2 5 _ rfl (hdep ⟨2, .data⟩ (by simp) rfl))
   rw [if_pos (show Region.wanted _ _ = true from rfl)]
   have HK := Lib.hid (hK (.bool true) w (hG.quiet 3 3 6 _ rfl (by kernel_rfl) (by kernel_rfl)))
   clear hG hcl hdep hfr hK hLi
   go_simp
   exact HK.out
  | 4, ho =>
   obtain rfl := gdO4 ho
   rw [if_pos (gdT4 (hG.val 3 3 6 _ rfl (hdep ⟨3, .guard⟩ (by simp) rfl)))]
   have HK := Lib.hid (hK (.pointer (some ⟨b, 0, none⟩)) w (hG.quiet 4 4 7 _ rfl (by kernel_rfl) (by kernel_rfl)))
   clear hx hc hv c0 c1 c2 c3 c4 c5
   clear hG hcl hdep hfr hK hLi
   go_simp
   exact HK.out
  | 5, ho =>
   obtain rfl := gdO5 ho
   have x7 := gdX (hG.val 4 4 7 _ rfl (hdep ⟨4, .data⟩ (by simp) rfl))
   rw [if_pos (gdT5 (hG.val 3 3 6 _ rfl (hdep ⟨3, .guard⟩ (by simp) rfl)))]
   obtain ⟨ph, hSp, hdone⟩ := hG.any
   have HK := Lib.hid (hK (.int .i64 y) w (hG.quiet 5 5 8 _ rfl (by kernel_rfl) (by kernel_rfl)))
   generalize (resOf gd5C fun t => a.eval (.tmp t)) = R at *
   obtain ⟨q0, q1, q2, q3, q4, q5, q6⟩ := hx _ _ _ hSp
   clear hx hc hv c0 c1 c2 c3 c4 c5 q1 q2 q3 q4 q5 q6
   clear hSp hdone
   clear hG hcl hdep hfr hK hLi
   go_simp
   exact HK.out
  | 6, ho =>
   obtain rfl := gdO6 ho
   have x8 := gdX (hG.val 5 5 8 _ rfl (hdep ⟨5, .data⟩ (by simp) rfl))
   rw [if_pos (gdT6 (hG.val 3 3 6 _ rfl (hdep ⟨3, .guard⟩ (by simp) rfl)))]
   have HK := Lib.hid (hK (.bool true) w (hG.quiet 6 6 9 _ rfl (by kernel_rfl) (by kernel_rfl)))
   clear hx hc hv c0 c2 c3 c4 c5
   clear hG hcl hdep hfr hK hLi
   go_simp
   exact HK.out
  | 7, ho =>
   obtain rfl := gdO7 ho
   have x6 := gdX (hG.val 3 3 6 _ rfl (hdep ⟨3, .data⟩ (by simp) rfl))
   have x9 := gdX (hG.val 6 6 9 _ rfl (hdep ⟨6, .data⟩ (by simp) rfl))
   rw [if_pos (show Region.wanted _ _ = true from rfl)]
   have HK := Lib.hid (hK (.bool true) w (hG.quiet 7 7 10 _ rfl (by kernel_rfl) (by kernel_rfl)))
   clear hG hcl hdep hfr hK hLi
   go_simp
   exact HK.out
  | 8, ho =>
   obtain rfl := gdO8 ho
   have x10 := gdX (hG.val 7 7 10 _ rfl (hdep ⟨7, .data⟩ (by simp) rfl))
   rw [if_pos (show Region.wanted _ _ = true from rfl)]
   have HK := Lib.hid (hK (.bool true) w (hG.quiet 8 8 11 _ rfl (by kernel_rfl) (by kernel_rfl)))
   clear hG hcl hdep hfr hK hLi
   go_simp
   exact HK.out
  | 9, ho =>
   obtain rfl := gdO9 ho
   rw [if_pos (gdT9 (hG.val 8 8 11 _ rfl (hdep ⟨8, .guard⟩ (by simp) rfl)))]
   have HK := Lib.hid (hK (.pointer (some ⟨b, 1, none⟩)) w (hG.quiet 9 9 12 _ rfl (by kernel_rfl) (by kernel_rfl)))
   clear hx hc hv c0 c1 c2 c3 c4 c5
   clear hG hcl hdep hfr hK hLi
   go_simp
   exact HK.out
  | 10, ho =>
   obtain rfl := gdO10 ho
   have x12 := gdX (hG.val 9 9 12 _ rfl (hdep ⟨9, .data⟩ (by simp) rfl))
   rw [if_pos (gdT10 (hG.val 8 8 11 _ rfl (hdep ⟨8, .guard⟩ (by simp) rfl)))]
   obtain ⟨ph, hSp, hdone⟩ := hG.any
   have HK := Lib.hid (hK (.int .i64 m) w (hG.quiet 10 10 13 _ rfl (by kernel_rfl) (by kernel_rfl)))
   generalize (resOf gd5C fun t => a.eval (.tmp t)) = R at *
   obtain ⟨q0, q1, q2, q3, q4, q5, q6⟩ := hx _ _ _ hSp
   clear hx hc hv c0 c1 c2 c3 c4 c5 q0 q2 q3 q4 q5 q6
   clear hSp hdone
   clear hG hcl hdep hfr hK hLi
   go_simp
   exact HK.out
  | 11, ho =>
   obtain rfl := gdO11 ho
   have x13 := gdX (hG.val 10 10 13 _ rfl (hdep ⟨10, .data⟩ (by simp) rfl))
   rw [if_pos (gdT11 (hG.val 8 8 11 _ rfl (hdep ⟨8, .guard⟩ (by simp) rfl)))]
   have HK := Lib.hid (hK (.bool true) w (hG.quiet 11 11 14 _ rfl (by kernel_rfl) (by kernel_rfl)))
   clear hx hc hv c0 c1 c3 c4 c5
   clear hG hcl hdep hfr hK hLi
   go_simp
   exact HK.out
  | 12, ho =>
   obtain rfl := gdO12 ho
   have x11 := gdX (hG.val 8 8 11 _ rfl (hdep ⟨8, .data⟩ (by simp) rfl))
   have x14 := gdX (hG.val 11 11 14 _ rfl (hdep ⟨11, .data⟩ (by simp) rfl))
   rw [if_pos (show Region.wanted _ _ = true from rfl)]
   have HK := Lib.hid (hK (.bool true) w (hG.quiet 12 12 15 _ rfl (by kernel_rfl) (by kernel_rfl)))
   clear hG hcl hdep hfr hK hLi
   go_simp
   exact HK.out
  | 13, ho =>
   obtain rfl := gdO13 ho
   have x15 := gdX (hG.val 12 12 15 _ rfl (hdep ⟨12, .data⟩ (by simp) rfl))
   rw [if_pos (show Region.wanted _ _ = true from rfl)]
   have HK := Lib.hid (hK (.bool true) w (hG.quiet 13 13 16 _ rfl (by kernel_rfl) (by kernel_rfl)))
   clear hG hcl hdep hfr hK hLi
   go_simp
   exact HK.out
  | 14, ho =>
   obtain rfl := gdO14 ho
   rw [if_pos (gdT14 (hG.val 13 13 16 _ rfl (hdep ⟨13, .guard⟩ (by simp) rfl)))]
   have HK := Lib.hid (hK (.pointer (some ⟨b, 1, none⟩)) w (hG.quiet 14 14 17 _ rfl (by kernel_rfl) (by kernel_rfl)))
   clear hx hc hv c0 c1 c2 c3 c4 c5
   clear hG hcl hdep hfr hK hLi
   go_simp
   exact HK.out
  | 15, ho =>
   obtain rfl := gdO15 ho
   have x17 := gdX (hG.val 14 14 17 _ rfl (hdep ⟨14, .data⟩ (by simp) rfl))
   rw [if_pos (gdT15 (hG.val 13 13 16 _ rfl (hdep ⟨13, .guard⟩ (by simp) rfl)))]
   obtain ⟨ph, hSp, hdone⟩ := hG.any
   have HK := Lib.hid (hK (.int .i64 m) w (hG.quiet 15 15 18 _ rfl (by kernel_rfl) (by kernel_rfl)))
   generalize (resOf gd5C fun t => a.eval (.tmp t)) = R at *
   obtain ⟨q0, q1, q2, q3, q4, q5, q6⟩ := hx _ _ _ hSp
   clear hx hc hv c0 c1 c2 c3 c4 c5 q0 q2 q3 q4 q5 q6
   clear hSp hdone
   clear hG hcl hdep hfr hK hLi
   go_simp
   exact HK.out
  | 16, ho =>
   obtain rfl := gdO16 ho
   have x18 := gdX (hG.val 15 15 18 _ rfl (hdep ⟨15, .data⟩ (by simp) rfl))
   rw [if_pos (gdT16 (hG.val 13 13 16 _ rfl (hdep ⟨13, .guard⟩ (by simp) rfl)))]
   have HK := Lib.hid (hK (.bool true) w (hG.quiet 16 16 19 _ rfl (by kernel_rfl) (by kernel_rfl)))
   clear hx hc hv c0 c1 c2 c4 c5
   clear hG hcl hdep hfr hK hLi
   go_simp
   exact HK.out
  | 17, ho =>
   obtain rfl := gdO17 ho
   have x16 := gdX (hG.val 13 13 16 _ rfl (hdep ⟨13, .data⟩ (by simp) rfl))
   have x19 := gdX (hG.val 16 16 19 _ rfl (hdep ⟨16, .data⟩ (by simp) rfl))
   rw [if_pos (show Region.wanted _ _ = true from rfl)]
   have HK := Lib.hid (hK (.bool true) w (hG.quiet 17 17 20 _ rfl (by kernel_rfl) (by kernel_rfl)))
   clear hG hcl hdep hfr hK hLi
   go_simp
   exact HK.out
  | 18, ho =>
   obtain rfl := gdO18 ho
   have x20 := gdX (hG.val 17 17 20 _ rfl (hdep ⟨17, .data⟩ (by simp) rfl))
   rw [if_pos (show Region.wanted _ _ = true from rfl)]
   have HK := Lib.hid (hK (.bool true) w (hG.quiet 18 18 21 _ rfl (by kernel_rfl) (by kernel_rfl)))
   clear hG hcl hdep hfr hK hLi
   go_simp
   exact HK.out
  | 19, ho =>
   obtain rfl := gdO19 ho
   rw [if_pos (gdT19 (hG.val 18 18 21 _ rfl (hdep ⟨18, .guard⟩ (by simp) rfl)))]
   have HK := Lib.hid (hK (.pointer (some ⟨b, 2, none⟩)) w (hG.quiet 19 19 22 _ rfl (by kernel_rfl) (by kernel_rfl)))
   clear hx hc hv c0 c1 c2 c3 c4 c5
   clear hG hcl hdep hfr hK hLi
   go_simp
   exact HK.out
  | 20, ho =>
   obtain rfl := gdO20 ho
   have x22 := gdX (hG.val 19 19 22 _ rfl (hdep ⟨19, .data⟩ (by simp) rfl))
   rw [if_pos (gdT20 (hG.val 18 18 21 _ rfl (hdep ⟨18, .guard⟩ (by simp) rfl)))]
   obtain ⟨ph, hSp, hdone⟩ := hG.any
   have HK := Lib.hid (hK (.int .i64 k) w (hG.quiet 20 20 23 _ rfl (by kernel_rfl) (by kernel_rfl)))
   generalize (resOf gd5C fun t => a.eval (.tmp t)) = R at *
   obtain ⟨q0, q1, q2, q3, q4, q5, q6⟩ := hx _ _ _ hSp
   clear hx hc hv c0 c1 c2 c3 c4 c5 q0 q1 q3 q4 q5 q6
   clear hSp hdone
   clear hG hcl hdep hfr hK hLi
   go_simp
   exact HK.out
  | 21, ho =>
   obtain rfl := gdO21 ho
   have x23 := gdX (hG.val 20 20 23 _ rfl (hdep ⟨20, .data⟩ (by simp) rfl))
   rw [if_pos (gdT21 (hG.val 18 18 21 _ rfl (hdep ⟨18, .guard⟩ (by simp) rfl)))]
   have HK := Lib.hid (hK (.bool true) w (hG.quiet 21 21 24 _ rfl (by kernel_rfl) (by kernel_rfl)))
   clear hx hc hv c0 c1 c2 c3 c5
   clear hG hcl hdep hfr hK hLi
   go_simp
   exact HK.out
  | 22, ho =>
   obtain rfl := gdO22 ho
   have x21 := gdX (hG.val 18 18 21 _ rfl (hdep ⟨18, .data⟩ (by simp) rfl))
   have x24 := gdX (hG.val 21 21 24 _ rfl (hdep ⟨21, .data⟩ (by simp) rfl))
   rw [if_pos (show Region.wanted _ _ = true from rfl)]
   have HK := Lib.hid (hK (.bool true) w (hG.quiet 22 22 25 _ rfl (by kernel_rfl) (by kernel_rfl)))
   clear hG hcl hdep hfr hK hLi
   go_simp
   exact HK.out
  | 23, ho =>
   obtain rfl := gdO23 ho
   have x25 := gdX (hG.val 22 22 25 _ rfl (hdep ⟨22, .data⟩ (by simp) rfl))
   rw [if_pos (show Region.wanted _ _ = true from rfl)]
   have HK := Lib.hid (hK (.bool true) w (hG.quiet 23 23 26 _ rfl (by kernel_rfl) (by kernel_rfl)))
   clear hG hcl hdep hfr hK hLi
   go_simp
   exact HK.out
  | 24, ho =>
   obtain rfl := gdO24 ho
   rw [if_pos (gdT24 (hG.val 23 23 26 _ rfl (hdep ⟨23, .guard⟩ (by simp) rfl)))]
   have HK := Lib.hid (hK (.pointer (some ⟨b, 2, none⟩)) w (hG.quiet 24 24 27 _ rfl (by kernel_rfl) (by kernel_rfl)))
   clear hx hc hv c0 c1 c2 c3 c4 c5
   clear hG hcl hdep hfr hK hLi
   go_simp
   exact HK.out
  | 25, ho =>
   obtain rfl := gdO25 ho
   have x27 := gdX (hG.val 24 24 27 _ rfl (hdep ⟨24, .data⟩ (by simp) rfl))
   rw [if_pos (gdT25 (hG.val 23 23 26 _ rfl (hdep ⟨23, .guard⟩ (by simp) rfl)))]
   obtain ⟨ph, hSp, hdone⟩ := hG.any
   have HK := Lib.hid (hK (.int .i64 k) w (hG.quiet 25 25 28 _ rfl (by kernel_rfl) (by kernel_rfl)))
   generalize (resOf gd5C fun t => a.eval (.tmp t)) = R at *
   obtain ⟨q0, q1, q2, q3, q4, q5, q6⟩ := hx _ _ _ hSp
   clear hx hc hv c0 c1 c2 c3 c4 c5 q0 q1 q3 q4 q5 q6
   clear hSp hdone
   clear hG hcl hdep hfr hK hLi
   go_simp
   exact HK.out
  | 26, ho =>
   obtain rfl := gdO26 ho
   rw [if_pos (gdT26 (hG.val 23 23 26 _ rfl (hdep ⟨23, .guard⟩ (by simp) rfl)))]
   have HK := Lib.hid (hK (.pointer (some ⟨b, 0, none⟩)) w (hG.quiet 26 26 29 _ rfl (by kernel_rfl) (by kernel_rfl)))
   clear hx hc hv c0 c1 c2 c3 c4 c5
   clear hG hcl hdep hfr hK hLi
   go_simp
   exact HK.out
  | 27, ho =>
   obtain rfl := gdO27 ho
   have x29 := gdX (hG.val 26 26 29 _ rfl (hdep ⟨26, .data⟩ (by simp) rfl))
   rw [if_pos (gdT27 (hG.val 23 23 26 _ rfl (hdep ⟨23, .guard⟩ (by simp) rfl)))]
   obtain ⟨ph, hSp, hdone⟩ := hG.any
   have HK := Lib.hid (hK (.int .i64 y) w (hG.quiet 27 27 30 _ rfl (by kernel_rfl) (by kernel_rfl)))
   generalize (resOf gd5C fun t => a.eval (.tmp t)) = R at *
   obtain ⟨q0, q1, q2, q3, q4, q5, q6⟩ := hx _ _ _ hSp
   clear hx hc hv c0 c1 c2 c3 c4 c5 q1 q2 q3 q4 q5 q6
   clear hSp hdone
   clear hG hcl hdep hfr hK hLi
   go_simp
   exact HK.out
  | 28, ho =>
   obtain rfl := gdO28 ho
   rw [if_pos (gdT28 (hG.val 23 23 26 _ rfl (hdep ⟨23, .guard⟩ (by simp) rfl)))]
   have HK := Lib.hid (hK (.pointer (some ⟨b, 1, none⟩)) w (hG.quiet 28 28 31 _ rfl (by kernel_rfl) (by kernel_rfl)))
   clear hx hc hv c0 c1 c2 c3 c4 c5
   clear hG hcl hdep hfr hK hLi
   go_simp
   exact HK.out
  | 29, ho =>
   obtain rfl := gdO29 ho
   have x31 := gdX (hG.val 28 28 31 _ rfl (hdep ⟨28, .data⟩ (by simp) rfl))
   rw [if_pos (gdT29 (hG.val 23 23 26 _ rfl (hdep ⟨23, .guard⟩ (by simp) rfl)))]
   obtain ⟨ph, hSp, hdone⟩ := hG.any
   have HK := Lib.hid (hK (.int .i64 m) w (hG.quiet 29 29 32 _ rfl (by kernel_rfl) (by kernel_rfl)))
   generalize (resOf gd5C fun t => a.eval (.tmp t)) = R at *
   obtain ⟨q0, q1, q2, q3, q4, q5, q6⟩ := hx _ _ _ hSp
   clear hx hc hv c0 c1 c2 c3 c4 c5 q0 q2 q3 q4 q5 q6
   clear hSp hdone
   clear hG hcl hdep hfr hK hLi
   go_simp
   exact HK.out
  | 30, ho =>
   obtain rfl := gdO30 ho
   have x30 := gdX (hG.val 27 27 30 _ rfl (hdep ⟨27, .data⟩ (by simp) rfl))
   have x32 := gdX (hG.val 29 29 32 _ rfl (hdep ⟨29, .data⟩ (by simp) rfl))
   rw [if_pos (gdT30 (hG.val 23 23 26 _ rfl (hdep ⟨23, .chain⟩ (by simp) rfl)))]
   have hSj := hG.at 0 (30, 33) rfl hLi (fun c h0 hc => absurd h0 (by decide))
   have hfin := fun v w' hs => hK v w' (hG.call 0 (30, 33) rfl hLi (fun c h0 hc => absurd h0 (by decide)) (by kernel_rfl) v w' hs)
   have HK := Lib.hid hfin
   generalize (resOf gd5C fun t => a.eval (.tmp t)) = R at *
   clear hG hcl hdep hfr hK hfin hLi
   have hcc := Lib.hid (hc _ _ hSj)
   clear hSj hx hc hv c0 c1 c2 c3 c4 c5
   go_simp
   go_at_call 37
   refine hcc.out.mono ?_
   rintro e w' ⟨v, rfl, hs⟩
   exact HK.out v w' hs
  | 31, ho =>
   obtain rfl := gdO31 ho
   have x28 := gdX (hG.val 25 25 28 _ rfl (hdep ⟨25, .data⟩ (by simp) rfl))
   rw [if_pos (gdT31 (hG.val 23 23 26 _ rfl (hdep ⟨23, .guard⟩ (by simp) rfl)))]
   obtain ⟨ph, hSp, hdone⟩ := hG.any
   have hd33 : 0 < ph := hdone 0 (30, 33) rfl (hdep ⟨30, .data⟩ (by simp) rfl)
   have r33 : a.tmps[33]?.getD undef = resOf gd5C (fun t => a.eval (.tmp t)) 0 := by rw [← ev]; exact (resOf_at (C := gd5C) (j := 0) rfl a).symm
   have HK := Lib.hid (hK (.bool false) w (hG.quiet 30 31 34 _ rfl (by kernel_rfl) (by kernel_rfl)))
   generalize (resOf gd5C fun t => a.eval (.tmp t)) = R at *
   rw [hv _ _ _ hSp hd33] at r33
   clear hd33
   clear hx hc hv c0 c1 c2 c3 c4
   clear hSp hdone
   clear hG hcl hdep hfr hK hLi
   go_simp
   exact HK.out
  | 32, ho =>
   obtain rfl := gdO32 ho
   have x26 := gdX (hG.val 23 23 26 _ rfl (hdep ⟨23, .data⟩ (by simp) rfl))
   have x34 := gdX (hG.val 30 31 34 _ rfl (hdep ⟨31, .data⟩ (by simp) rfl))
   rw [if_pos (show Region.wanted _ _ = true from rfl)]
   have HK := Lib.hid (hK (.bool false) w (hG.quiet 31 32 35 _ rfl (by kernel_rfl) (by kernel_rfl)))
   clear hG hcl hdep hfr hK hLi
   go_simp
   exact HK.out
  | 33, ho =>
   obtain rfl := gdO33 ho
   have x35 := gdX (hG.val 31 32 35 _ rfl (hdep ⟨32, .data⟩ (by simp) rfl))
   rw [if_pos (show Region.wanted _ _ = true from rfl)]
   have HK := Lib.hid (hK (.bool false) w (hG.quiet 32 33 36 _ rfl (by kernel_rfl) (by kernel_rfl)))
   clear hG hcl hdep hfr hK hLi
   go_simp
   exact HK.out
  | 34, ho =>
   obtain rfl := gdO34 ho
   rw [if_neg (gdF34 (hG.val 32 33 36 _ rfl (hdep ⟨33, .guard⟩ (by simp) rfl)))]
   have HK := Lib.hid (hK (undef) w (hG.quiet 33 34 37 _ rfl (by kernel_rfl) (by kernel_rfl)))
   clear hG hcl hdep hfr hK hLi
   exact HK.out
  | 35, ho =>
   obtain rfl := gdO35 ho
   have x37 := gdX (hG.val 33 34 37 _ rfl (hdep ⟨34, .data⟩ (by simp) rfl))
   rw [if_neg (gdF35 (hG.val 32 33 36 _ rfl (hdep ⟨33, .guard⟩ (by simp) rfl)))]
   have HK := Lib.hid (hK (undef) w (hG.quiet 34 35 38 _ rfl (by kernel_rfl) (by kernel_rfl)))
   clear hG hcl hdep hfr hK hLi
   exact HK.out
  | 36, ho =>
   obtain rfl := gdO36 ho
   have x38 := gdX (hG.val 34 35 38 _ rfl (hdep ⟨35, .data⟩ (by simp) rfl))
   rw [if_neg (gdF36 (hG.val 32 33 36 _ rfl (hdep ⟨33, .guard⟩ (by simp) rfl)))]
   have HK := Lib.hid (hK (undef) w (hG.quiet 35 36 39 _ rfl (by kernel_rfl) (by kernel_rfl)))
   clear hG hcl hdep hfr hK hLi
   exact HK.out
  | 37, ho =>
   obtain rfl := gdO37 ho
   have x36 := gdX (hG.val 32 33 36 _ rfl (hdep ⟨33, .data⟩ (by simp) rfl))
   have x39 := gdX (hG.val 35 36 39 _ rfl (hdep ⟨36, .data⟩ (by simp) rfl))
   rw [if_pos (show Region.wanted _ _ = true from rfl)]
   have HK := Lib.hid (hK (.bool false) w (hG.quiet 36 37 40 _ rfl (by kernel_rfl) (by kernel_rfl)))
   clear hG hcl hdep hfr hK hLi
   go_simp
   exact HK.out
  | 38, ho =>
   obtain rfl := gdO38 ho
   have x40 := gdX (hG.val 36 37 40 _ rfl (hdep ⟨37, .data⟩ (by simp) rfl))
   rw [if_pos (show Region.wanted _ _ = true from rfl)]
   have HK := Lib.hid (hK (.bool false) w (hG.quiet 37 38 41 _ rfl (by kernel_rfl) (by kernel_rfl)))
   clear hG hcl hdep hfr hK hLi
   go_simp
   exact HK.out
  | 39, ho =>
   obtain rfl := gdO39 ho
   rw [if_neg (gdF39 (hG.val 37 38 41 _ rfl (hdep ⟨38, .guard⟩ (by simp) rfl)))]
   have HK := Lib.hid (hK (undef) w (hG.quiet 38 39 42 _ rfl (by kernel_rfl) (by kernel_rfl)))
   clear hG hcl hdep hfr hK hLi
   exact HK.out
  | 40, ho =>
   obtain rfl := gdO40 ho
   have x42 := gdX (hG.val 38 39 42 _ rfl (hdep ⟨39, .data⟩ (by simp) rfl))
   rw [if_neg (gdF40 (hG.val 37 38 41 _ rfl (hdep ⟨38, .guard⟩ (by simp) rfl)))]
   have HK := Lib.hid (hK (undef) w (hG.quiet 39 40 43 _ rfl (by kernel_rfl) (by kernel_rfl)))
   clear hG hcl hdep hfr hK hLi
   exact HK.out
  | 41, ho =>
   obtain rfl := gdO41 ho
   have x43 := gdX (hG.val 39 40 43 _ rfl (hdep ⟨40, .data⟩ (by simp) rfl))
   rw [if_neg (gdF41 (hG.val 37 38 41 _ rfl (hdep ⟨38, .guard⟩ (by simp) rfl)))]
   have HK := Lib.hid (hK (undef) w (hG.quiet 40 41 44 _ rfl (by kernel_rfl) (by kernel_rfl)))
   clear hG hcl hdep hfr hK hLi
   exact HK.out
  | 42, ho =>
   obtain rfl := gdO42 ho
   have x41 := gdX (hG.val 37 38 41 _ rfl (hdep ⟨38, .data⟩ (by simp) rfl))
   have x44 := gdX (hG.val 40 41 44 _ rfl (hdep ⟨41, .data⟩ (by simp) rfl))
   rw [if_pos (show Region.wanted _ _ = true from rfl)]
   have HK := Lib.hid (hK (.bool false) w (hG.quiet 41 42 45 _ rfl (by kernel_rfl) (by kernel_rfl)))
   clear hG hcl hdep hfr hK hLi
   go_simp
   exact HK.out
  | 43, ho =>
   obtain rfl := gdO43 ho
   have x45 := gdX (hG.val 41 42 45 _ rfl (hdep ⟨42, .data⟩ (by simp) rfl))
   rw [if_pos (show Region.wanted _ _ = true from rfl)]
   have HK := Lib.hid (hK (.bool false) w (hG.quiet 42 43 46 _ rfl (by kernel_rfl) (by kernel_rfl)))
   clear hG hcl hdep hfr hK hLi
   go_simp
   exact HK.out
  | 44, ho =>
   obtain rfl := gdO44 ho
   rw [if_neg (gdF44 (hG.val 42 43 46 _ rfl (hdep ⟨43, .guard⟩ (by simp) rfl)))]
   have HK := Lib.hid (hK (undef) w (hG.quiet 43 44 47 _ rfl (by kernel_rfl) (by kernel_rfl)))
   clear hG hcl hdep hfr hK hLi
   exact HK.out
  | 45, ho =>
   obtain rfl := gdO45 ho
   have x47 := gdX (hG.val 43 44 47 _ rfl (hdep ⟨44, .data⟩ (by simp) rfl))
   rw [if_neg (gdF45 (hG.val 42 43 46 _ rfl (hdep ⟨43, .guard⟩ (by simp) rfl)))]
   have HK := Lib.hid (hK (undef) w (hG.quiet 44 45 48 _ rfl (by kernel_rfl) (by kernel_rfl)))
   clear hG hcl hdep hfr hK hLi
   exact HK.out
  | 46, ho =>
   obtain rfl := gdO46 ho
   have x48 := gdX (hG.val 44 45 48 _ rfl (hdep ⟨45, .data⟩ (by simp) rfl))
   rw [if_neg (gdF46 (hG.val 42 43 46 _ rfl (hdep ⟨43, .guard⟩ (by simp) rfl)))]
   have HK := Lib.hid (hK (undef) w (hG.quiet 45 46 49 _ rfl (by kernel_rfl) (by kernel_rfl)))
   clear hG hcl hdep hfr hK hLi
   exact HK.out
  | 47, ho =>
   obtain rfl := gdO47 ho
   have x46 := gdX (hG.val 42 43 46 _ rfl (hdep ⟨43, .data⟩ (by simp) rfl))
   have x49 := gdX (hG.val 45 46 49 _ rfl (hdep ⟨46, .data⟩ (by simp) rfl))
   rw [if_pos (show Region.wanted _ _ = true from rfl)]
   have HK := Lib.hid (hK (.bool false) w (hG.quiet 46 47 50 _ rfl (by kernel_rfl) (by kernel_rfl)))
   clear hG hcl hdep hfr hK hLi
   go_simp
   exact HK.out
  | 48, ho =>
   obtain rfl := gdO48 ho
   have x50 := gdX (hG.val 46 47 50 _ rfl (hdep ⟨47, .data⟩ (by simp) rfl))
   rw [if_pos (show Region.wanted _ _ = true from rfl)]
   have HK := Lib.hid (hK (.bool false) w (hG.quiet 47 48 51 _ rfl (by kernel_rfl) (by kernel_rfl)))
   clear hG hcl hdep hfr hK hLi
   go_simp
   exact HK.out
  | 49, ho =>
   obtain rfl := gdO49 ho
   rw [if_neg (gdF49 (hG.val 47 48 51 _ rfl (hdep ⟨48, .guard⟩ (by simp) rfl)))]
   have HK := Lib.hid (hK (undef) w (hG.quiet 48 49 52 _ rfl (by kernel_rfl) (by kernel_rfl)))
   clear hG hcl hdep hfr hK hLi
   exact HK.out
  | 50, ho =>
   obtain rfl := gdO50 ho
   have x52 := gdX (hG.val 48 49 52 _ rfl (hdep ⟨49, .data⟩ (by simp) rfl))
   rw [if_neg (gdF50 (hG.val 47 48 51 _ rfl (hdep ⟨48, .guard⟩ (by simp) rfl)))]
   have HK := Lib.hid (hK (undef) w (hG.quiet 49 50 53 _ rfl (by kernel_rfl) (by kernel_rfl)))
   clear hG hcl hdep hfr hK hLi
   exact HK.out
  | 51, ho =>
   obtain rfl := gdO51 ho
   have x53 := gdX (hG.val 49 50 53 _ rfl (hdep ⟨50, .data⟩ (by simp) rfl))
   rw [if_neg (gdF51 (hG.val 47 48 51 _ rfl (hdep ⟨48, .guard⟩ (by simp) rfl)))]
   have HK := Lib.hid (hK (undef) w (hG.quiet 50 51 54 _ rfl (by kernel_rfl) (by kernel_rfl)))
   clear hG hcl hdep hfr hK hLi
   exact HK.out
  | 52, ho =>
   obtain rfl := gdO52 ho
   have x51 := gdX (hG.val 47 48 51 _ rfl (hdep ⟨48, .data⟩ (by simp) rfl))
   have x54 := gdX (hG.val 50 51 54 _ rfl (hdep ⟨51, .data⟩ (by simp) rfl))
   rw [if_pos (show Region.wanted _ _ = true from rfl)]
   have HK := Lib.hid (hK (.bool false) w (hG.quiet 51 52 55 _ rfl (by kernel_rfl) (by kernel_rfl)))
   clear hG hcl hdep hfr hK hLi
   go_simp
   exact HK.out
  | 53, ho =>
   obtain rfl := gdO53 ho
   have x55 := gdX (hG.val 51 52 55 _ rfl (hdep ⟨52, .data⟩ (by simp) rfl))
   rw [if_pos (show Region.wanted _ _ = true from rfl)]
   have HK := Lib.hid (hK (.bool false) w (hG.quiet 52 53 56 _ rfl (by kernel_rfl) (by kernel_rfl)))
   clear hG hcl hdep hfr hK hLi
   go_simp
   exact HK.out
  | 54, ho =>
   obtain rfl := gdO54 ho
   rw [if_neg (gdF54 (hG.val 52 53 56 _ rfl (hdep ⟨53, .guard⟩ (by simp) rfl)))]
   have HK := Lib.hid (hK (undef) w (hG.quiet 53 54 57 _ rfl (by kernel_rfl) (by kernel_rfl)))
   clear hG hcl hdep hfr hK hLi
   exact HK.out
  | 55, ho =>
   obtain rfl := gdO55 ho
   have x57 := gdX (hG.val 53 54 57 _ rfl (hdep ⟨54, .data⟩ (by simp) rfl))
   rw [if_neg (gdF55 (hG.val 52 53 56 _ rfl (hdep ⟨53, .guard⟩ (by simp) rfl)))]
   have HK := Lib.hid (hK (undef) w (hG.quiet 54 55 58 _ rfl (by kernel_rfl) (by kernel_rfl)))
   clear hG hcl hdep hfr hK hLi
   exact HK.out
  | 56, ho =>
   obtain rfl := gdO56 ho
   have x58 := gdX (hG.val 54 55 58 _ rfl (hdep ⟨55, .data⟩ (by simp) rfl))
   rw [if_neg (gdF56 (hG.val 52 53 56 _ rfl (hdep ⟨53, .guard⟩ (by simp) rfl)))]
   have HK := Lib.hid (hK (undef) w (hG.quiet 55 56 59 _ rfl (by kernel_rfl) (by kernel_rfl)))
   clear hG hcl hdep hfr hK hLi
   exact HK.out
  | 57, ho =>
   obtain rfl := gdO57 ho
   have x56 := gdX (hG.val 52 53 56 _ rfl (hdep ⟨53, .data⟩ (by simp) rfl))
   have x59 := gdX (hG.val 55 56 59 _ rfl (hdep ⟨56, .data⟩ (by simp) rfl))
   rw [if_pos (show Region.wanted _ _ = true from rfl)]
   have HK := Lib.hid (hK (.bool false) w (hG.quiet 56 57 60 _ rfl (by kernel_rfl) (by kernel_rfl)))
   clear hG hcl hdep hfr hK hLi
   go_simp
   exact HK.out
  | 58, ho =>
   obtain rfl := gdO58 ho
   have x60 := gdX (hG.val 56 57 60 _ rfl (hdep ⟨57, .data⟩ (by simp) rfl))
   rw [if_pos (show Region.wanted _ _ = true from rfl)]
   have HK := Lib.hid (hK (.bool false) w (hG.quiet 57 58 61 _ rfl (by kernel_rfl) (by kernel_rfl)))
   clear hG hcl hdep hfr hK hLi
   go_simp
   exact HK.out
  | 59, ho =>
   obtain rfl := gdO59 ho
   rw [if_neg (gdF59 (hG.val 57 58 61 _ rfl (hdep ⟨58, .guard⟩ (by simp) rfl)))]
   have HK := Lib.hid (hK (undef) w (hG.quiet 58 59 62 _ rfl (by kernel_rfl) (by kernel_rfl)))
   clear hG hcl hdep hfr hK hLi
   exact HK.out
  | 60, ho =>
   obtain rfl := gdO60 ho
   have x62 := gdX (hG.val 58 59 62 _ rfl (hdep ⟨59, .data⟩ (by simp) rfl))
   rw [if_neg (gdF60 (hG.val 57 58 61 _ rfl (hdep ⟨58, .guard⟩ (by simp) rfl)))]
   have HK := Lib.hid (hK (undef) w (hG.quiet 59 60 63 _ rfl (by kernel_rfl) (by kernel_rfl)))
   clear hG hcl hdep hfr hK hLi
   exact HK.out
  | 61, ho =>
   obtain rfl := gdO61 ho
   have x63 := gdX (hG.val 59 60 63 _ rfl (hdep ⟨60, .data⟩ (by simp) rfl))
   rw [if_neg (gdF61 (hG.val 57 58 61 _ rfl (hdep ⟨58, .guard⟩ (by simp) rfl)))]
   have HK := Lib.hid (hK (undef) w (hG.quiet 60 61 64 _ rfl (by kernel_rfl) (by kernel_rfl)))
   clear hG hcl hdep hfr hK hLi
   exact HK.out
  | 62, ho =>
   obtain rfl := gdO62 ho
   have x61 := gdX (hG.val 57 58 61 _ rfl (hdep ⟨58, .data⟩ (by simp) rfl))
   have x64 := gdX (hG.val 60 61 64 _ rfl (hdep ⟨61, .data⟩ (by simp) rfl))
   rw [if_pos (show Region.wanted _ _ = true from rfl)]
   have HK := Lib.hid (hK (.bool false) w (hG.quiet 61 62 65 _ rfl (by kernel_rfl) (by kernel_rfl)))
   clear hG hcl hdep hfr hK hLi
   go_simp
   exact HK.out
  | 63, ho =>
   obtain rfl := gdO63 ho
   have x65 := gdX (hG.val 61 62 65 _ rfl (hdep ⟨62, .data⟩ (by simp) rfl))
   rw [if_pos (show Region.wanted _ _ = true from rfl)]
   have HK := Lib.hid (hK (.bool false) w (hG.quiet 62 63 66 _ rfl (by kernel_rfl) (by kernel_rfl)))
   clear hG hcl hdep hfr hK hLi
   go_simp
   exact HK.out
  | 64, ho =>
   obtain rfl := gdO64 ho
   rw [if_neg (gdF64 (hG.val 62 63 66 _ rfl (hdep ⟨63, .guard⟩ (by simp) rfl)))]
   have HK := Lib.hid (hK (undef) w (hG.quiet 63 64 67 _ rfl (by kernel_rfl) (by kernel_rfl)))
   clear hG hcl hdep hfr hK hLi
   exact HK.out
  | 65, ho =>
   obtain rfl := gdO65 ho
   have x67 := gdX (hG.val 63 64 67 _ rfl (hdep ⟨64, .data⟩ (by simp) rfl))
   rw [if_neg (gdF65 (hG.val 62 63 66 _ rfl (hdep ⟨63, .guard⟩ (by simp) rfl)))]
   have HK := Lib.hid (hK (undef) w (hG.quiet 64 65 68 _ rfl (by kernel_rfl) (by kernel_rfl)))
   clear hG hcl hdep hfr hK hLi
   exact HK.out
  | 66, ho =>
   obtain rfl := gdO66 ho
   have x68 := gdX (hG.val 64 65 68 _ rfl (hdep ⟨65, .data⟩ (by simp) rfl))
   rw [if_neg (gdF66 (hG.val 62 63 66 _ rfl (hdep ⟨63, .guard⟩ (by simp) rfl)))]
   have HK := Lib.hid (hK (undef) w (hG.quiet 65 66 69 _ rfl (by kernel_rfl) (by kernel_rfl)))
   clear hG hcl hdep hfr hK hLi
   exact HK.out
  | 67, ho =>
   obtain rfl := gdO67 ho
   have x66 := gdX (hG.val 62 63 66 _ rfl (hdep ⟨63, .data⟩ (by simp) rfl))
   have x69 := gdX (hG.val 65 66 69 _ rfl (hdep ⟨66, .data⟩ (by simp) rfl))
   rw [if_pos (show Region.wanted _ _ = true from rfl)]
   have HK := Lib.hid (hK (.bool false) w (hG.quiet 66 67 70 _ rfl (by kernel_rfl) (by kernel_rfl)))
   clear hG hcl hdep hfr hK hLi
   go_simp
   exact HK.out
  | 68, ho =>
   obtain rfl := gdO68 ho
   have x70 := gdX (hG.val 66 67 70 _ rfl (hdep ⟨67, .data⟩ (by simp) rfl))
   rw [if_pos (show Region.wanted _ _ = true from rfl)]
   have HK := Lib.hid (hK (.bool false) w (hG.quiet 67 68 71 _ rfl (by kernel_rfl) (by kernel_rfl)))
   clear hG hcl hdep hfr hK hLi
   go_simp
   exact HK.out
  | 69, ho =>
   obtain rfl := gdO69 ho
   rw [if_neg (gdF69 (hG.val 67 68 71 _ rfl (hdep ⟨68, .guard⟩ (by simp) rfl)))]
   have HK := Lib.hid (hK (undef) w (hG.quiet 68 69 72 _ rfl (by kernel_rfl) (by kernel_rfl)))
   clear hG hcl hdep hfr hK hLi
   exact HK.out
  | 70, ho =>
   obtain rfl := gdO70 ho
   have x72 := gdX (hG.val 68 69 72 _ rfl (hdep ⟨69, .data⟩ (by simp) rfl))
   rw [if_neg (gdF70 (hG.val 67 68 71 _ rfl (hdep ⟨68, .guard⟩ (by simp) rfl)))]
   have HK := Lib.hid (hK (undef) w (hG.quiet 69 70 73 _ rfl (by kernel_rfl) (by kernel_rfl)))
   clear hG hcl hdep hfr hK hLi
   exact HK.out
  | 71, ho =>
   obtain rfl := gdO71 ho
   have x73 := gdX (hG.val 69 70 73 _ rfl (hdep ⟨70, .data⟩ (by simp) rfl))
   rw [if_neg (gdF71 (hG.val 67 68 71 _ rfl (hdep ⟨68, .guard⟩ (by simp) rfl)))]
   have HK := Lib.hid (hK (undef) w (hG.quiet 70 71 74 _ rfl (by kernel_rfl) (by kernel_rfl)))
   clear hG hcl hdep hfr hK hLi
   exact HK.out
  | 72, ho =>
   obtain rfl := gdO72 ho
   have x71 := gdX (hG.val 67 68 71 _ rfl (hdep ⟨68, .data⟩ (by simp) rfl))
   have x74 := gdX (hG.val 70 71 74 _ rfl (hdep ⟨71, .data⟩ (by simp) rfl))
   rw [if_pos (show Region.wanted _ _ = true from rfl)]
   have HK := Lib.hid (hK (.bool false) w (hG.quiet 71 72 75 _ rfl (by kernel_rfl) (by kernel_rfl)))
   clear hG hcl hdep hfr hK hLi
   go_simp
   exact HK.out
  | 73, ho =>
   obtain rfl := gdO73 ho
   have x75 := gdX (hG.val 71 72 75 _ rfl (hdep ⟨72, .data⟩ (by simp) rfl))
   rw [if_pos (show Region.wanted _ _ = true from rfl)]
   have HK := Lib.hid (hK (.bool false) w (hG.quiet 72 73 2 _ rfl (by kernel_rfl) (by kernel_rfl)))
   clear hG hcl hdep hfr hK hLi
   go_simp
   exact HK.out
  | n + 74, ho => exact absurd (Array.getElem?_eq_some_iff.1 ho).1 (by show ¬ n + 74 < 74; omega)


def gd6Vals (b : Nat) (y m k hh mi s z d : Int) : List (Nat × Nat × Value) := [(0, 3, .pointer (some ⟨b, 0, none⟩)), (1, 4, .int .i64 y), (2, 5, .bool true), (3, 6, .bool true), (4, 7, .pointer (some ⟨b, 0, none⟩)), (5, 8, .int .i64 y), (6, 9, .bool true), (7, 10, .bool true), (8, 11, .bool true), (9, 12, .pointer (some ⟨b, 1, none⟩)), (10, 13, .int .i64 m), (11, 14, .bool true), (12, 15, .bool true), (13, 16, .bool true), (14, 17, .pointer (some ⟨b, 1, none⟩)), (15, 18, .int .i64 m), (16, 19, .bool true), (17, 20, .bool true), (18, 21, .bool true), (19, 22, .pointer (some ⟨b, 2, none⟩)), (20, 23, .int .i64 k), (21, 24, .bool true), (22, 25, .bool true), (23, 26, .bool true), (24, 27, .pointer (some ⟨b, 2, none⟩)), (25, 28, .int .i64 k), (26, 29, .pointer (some ⟨b, 0, none⟩)), (27, 30, .int .i64 y), (28, 31, .pointer (some ⟨b, 1, none⟩)), (29, 32, .int .i64 m), (31, 34, .bool true), (32, 35, .bool true), (33, 36, .bool true), (34, 37, .pointer (some ⟨b, 3, none⟩)), (35, 38, .int .i64 hh), (36, 39, .bool false), (37, 40, .bool false), (38, 41, .bool false), (39, 42, undef), (40, 43, undef), (41, 44, undef), (42, 45, .bool false), (43, 46, .bool false), (44, 47, undef), (45, 48, undef), (46, 49, undef), (47, 50, .bool false), (48, 51, .bool false), (49, 52, undef), (50, 53, undef), (51, 54, undef), (52, 55, .bool false), (53, 56, .bool false), (54, 57, undef), (55, 58, undef), (56, 59, undef), (57, 60, .bool false), (58, 61, .bool false), (59, 62, undef), (60, 63, undef), (61, 64, undef), (62, 65, .bool false), (63, 66, .bool false), (64, 67, undef), (65, 68, undef), (66, 69, undef), (67, 70, .bool false), (68, 71, .bool false), (69, 72, undef), (70, 73, undef), (71, 74, undef), (72, 75, .bool false), (73, 2, .bool false)]
def gd6C : List (Nat × Nat) := [(30, 33)]

set_option maxHeartbeats 4000000 in
set_option maxRecDepth 100000 in
theorem gd6 {Q : Exit → Act → World → Prop} {a0 : Act} {wp : World} (b : Nat) (y m k hh mi s z d : Int) (S : Nat → (Nat → Value) → World → Prop)
    (hsz : 75 < a0.tmps.size) (in1 : a0.eval (.tmp 1) = .pointer (some ⟨b, 0, none⟩))
    (hx : ∀ p R w, S p R w → w.cell? ⟨b, 0, none⟩ = some (.int .i64 y) ∧ w.cell? ⟨b, 1, none⟩ = some (.int .i64 m) ∧ w.cell? ⟨b, 2, none⟩ = some (.int .i64 k) ∧ w.cell? ⟨b, 3, none⟩ = some (.int .i64 hh) ∧ w.cell? ⟨b, 4, none⟩ = some (.int .i64 mi) ∧ w.cell? ⟨b, 5, none⟩ = some (.int .i64 s) ∧ w.cell? ⟨b, 6, none⟩ = some (.int .i64 z)) (c0 : decide (1970 ≤ y) = true) (c1 : decide (y ≤ 9999) = true) (c2 : decide (1 ≤ m) = true) (c3 : decide (m ≤ 12) = true) (c4 : decide (1 ≤ k) = true) (c5 : decide (k ≤ d) = true) (c6 : decide (0 ≤ hh) = false)
    (hc : ∀ R w, S 0 R w → Calls Tryd.prog 37 #[.int .i64 y, .int .i64 m] w fun e w' => ∃ v, e = .returned v ∧ S 1 (setR R 0 v) w')
    (hv : ∀ p R w, S p R w → 0 < p → R 0 = .int .i64 d)
    (hS : S 0 (resOf gd6C fun t => a0.eval (.tmp t)) wp.drew)
    (fin : ∀ a w, Fr [3, 4, 5, 6, 7, 8, 9, 10, 11, 12, 13, 14, 15, 16, 17, 18, 19, 20, 21, 22, 23, 24, 25, 26, 27, 28, 29, 30, 31, 32, 33, 34, 35, 36, 37, 38, 39, 40, 41, 42, 43, 44, 45, 46, 47, 48, 49, 50, 51, 52, 53, 54, 55, 56, 57, 58, 59, 60, 61, 62, 63, 64, 65, 66, 67, 68, 69, 70, 71, 72, 73, 74, 75, 2] a0 a → a.eval (.tmp 2) = .bool false → S 1 (resOf gd6C fun t => a.eval (.tmp t)) w → Q .normal a w) :
    (Code.region 1 opsGd true).wp Tryd.prog Q a0 wp := by
  refine region_inv (by kernel_rfl) [3, 4, 5, 6, 7, 8, 9, 10, 11, 12, 13, 14, 15, 16, 17, 18, 19, 20, 21, 22, 23, 24, 25, 26, 27, 28, 29, 30, 31, 32, 33, 34, 35, 36, 37, 38, 39, 40, 41, 42, 43, 44, 45, 46, 47, 48, 49, 50, 51, 52, 53, 54, 55, 56, 57, 58, 59, 60, 61, 62, 63, 64, 65, 66, 67, 68, 69, 70, 71, 72, 73, 74, 75, 2] (by kernel_rfl) (by kernel_rfl) (fun t ht => by simp at ht; omega) (GV (gd6Vals b y m k hh mi s z d) gd6C S) (.start hS) ?_
    (fun L a w hf hall hG => fin a w hf (hG.val 72 73 2 _ rfl (hall 73 (by decide))) (hG.fin (fun c hc => by simp [gd6C] at hc; subst hc; exact hall _ (by decide))))
  clear hS fin
  intro ix oo ho L a w hfr hG hLi hdep hcl K hK
  have e1 : a.tmps[1]?.getD undef = .pointer (some ⟨b, 0, none⟩) := by rw [← ev]; exact (hfr.same 1 (by decide)).trans in1
  clear in1
  match ix, ho with
  | 0, ho =>
   obtain rfl := gdO0 ho
   rw [if_pos (show Region.wanted _ _ = true from rfl)]
   have HK := Lib.hid (hK (.pointer (some ⟨b, 0, none⟩)) w (hG.quiet 0 0 3 _ rfl (by kernel_rfl) (by kernel_rfl)))
   clear hx hc hv c0 c1 c2 c3 c4 c5 c6
   clear hG hcl hdep hfr hK hLi
   go_simp
   exact HK.out
  | 1, ho =>
   obtain rfl := gdO1 ho
   have x3 := gdX (hG.val 0 0 3 _ rfl (hdep ⟨0, .data⟩ (by simp) rfl))
   rw [if_pos (show Region.wanted _ _ = true from rfl)]
   obtain ⟨ph, hSp, hdone⟩ := hG.any
   have HK := Lib.hid (hK (.int .i64 y) w (hG.quiet 1 1 4 _ rfl (by kernel_rfl) (by kernel_rfl)))
   generalize (resOf gd6C fun t => a.eval (.tmp t)) = R at *
   obtain ⟨q0, q1, q2, q3, q4, q5, q6⟩ := hx _ _ _ hSp
   clear hx hc hv c0 c1 c2 c3 c4 c5 c6 q1 q2 q3 q4 q5 q6
   clear hSp hdone
   clear hG hcl hdep hfr hK hLi
   go_simp
   exact HK.out
  | 2, ho =>
   obtain rfl := gdO2 ho
   have x4 := gdX (hG.val 1 1 4 _ rfl (hdep ⟨1, .data⟩ (by simp) rfl))
   rw [if_pos (show Region.wanted _ _ = true from rfl)]
   have HK := Lib.hid (hK (.bool true) w (hG.quiet 2 2 5 _ rfl (by kernel_rfl) (by kernel_rfl)))
   clear hx hc hv c1 c2 c3 c4 c5 c6
   clear hG hcl hdep hfr hK hLi
   go_simp
   exact HK.out
  | 3, ho =>
   obtain rfl := gdO3 ho
   have x5 := gdX (hG.val 2 2 5 _ rfl (hdep ⟨2, .data⟩ (by simp) rfl))
   rw [if_pos (show Region.wanted _ _ = true from rfl)]
   have HK := Lib.hid (hK (.bool true) w (hG.quiet 3 3 6 _ rfl (by kernel_rfl) (by kernel_rfl)))
   clear hG hcl hdep hfr hK hLi
   go_simp
   exact HK.out
  | 4, ho =>
   obtain rfl := gdO4 ho
   rw [if_pos (gdT4 (hG.val 3 3 6 _ rfl (hdep ⟨3, .guard⟩ (by simp) rfl)))]
   have HK := Lib.hid (hK (.pointer (some ⟨b, 0, none⟩)) w (hG.quiet 4 4 7 _ rfl (by kernel_rfl) (by kernel_rfl)))
   clear hx hc hv c0 c1 c2 c3 c4 c5 c6
   clear hG hcl hdep hfr hK hLi
   go_simp
   exact HK.out
  | 5, ho =>
   obtain rfl := gdO5 ho
   have x7 := gdX (hG.val 4 4 7 _ rfl (hdep ⟨4, .data⟩ (by simp) rfl))
   rw [if_pos (gdT5 (hG.val 3 3 6 _ rfl (hdep ⟨3, .guard⟩ (by simp) rfl)))]
   obtain ⟨ph, hSp, hdone⟩ := hG.any
   have HK := Lib.hid (hK (.int .i64 y) w (hG.quiet 5 5 8 _ rfl (by kernel_rfl) (by kernel_rfl)))
   generalize (resOf gd6C fun t => a.eval (.tmp t)) = R at *
   obtain ⟨q0, q1, q2, q3, q4, q5, q6⟩ := hx _ _ _ hSp
   clear hx hc hv c0 c1 c2 c3 c4 c5 c6 q1 q2 q3 q4 q5 q6
   clear hSp hdone
   clear hG hcl hdep hfr hK hLi
   go_simp
   exact HK.out
  | 6, ho =>
   obtain rfl := gdO6 ho
   have x8 := gdX (hG.val 5 5 8 _ rfl (hdep ⟨5, .data⟩ (by simp) rfl))
   rw [if_pos (gdT6 (hG.val 3 3 6 _ rfl (hdep ⟨3, .guard⟩ (by simp) rfl)))]
   have HK := Lib.hid (hK (.bool true) w (hG.quiet 6 6 9 _ rfl (by kernel_rfl) (by kernel_rfl)))
   clear hx hc hv c0 c2 c3 c4 c5 c6
   clear hG hcl hdep hfr hK hLi
   go_simp
   exact HK.out
  | 7, ho =>
   obtain rfl := gdO7 ho
   have x6 := gdX (hG.val 3 3 6 _ rfl (hdep ⟨3, .data⟩ (by simp) rfl))
   have x9 := gdX (hG.val 6 6 9 _ rfl (hdep ⟨6, .data⟩ (by simp) rfl))
   rw [if_pos (show Region.wanted _ _ = true from rfl)]
   have HK := Lib.hid (hK (.bool true) w (hG.quiet 7 7 10 _ rfl (by kernel_rfl) (by kernel_rfl)))
   clear hG hcl hdep hfr hK hLi
   go_simp
   exact HK.out
  | 8, ho =>
   obtain rfl := gdO8 ho
   have x10 := gdX (hG.val 7 7 10 _ rfl (hdep ⟨7, .data⟩ (by simp) rfl))
   rw [if_pos (show Region.wanted _ _ = true from rfl)]
   have HK := Lib.hid (hK (.bool true) w (hG.quiet 8 8 11 _ rfl (by kernel_rfl) (by kernel_rfl)))
   clear hG hcl hdep hfr hK hLi
   go_simp
   exact HK.out
  | 9, ho =>
   obtain rfl := gdO9 ho
   rw [if_pos (gdT9 (hG.val 8 8 11 _ rfl (hdep ⟨8, .guard⟩ (by simp) rfl)))]
   have HK := Lib.hid (hK (.pointer (some ⟨b, 1, none⟩)) w (hG.quiet 9 9 12 _ rfl (by kernel_rfl) (by kernel_rfl)))
   clear hx hc hv c0 c1 c2 c3 c4 c5 c6
   clear hG hcl hdep hfr hK hLi
   go_simp
   exact HK.out
  | 10, ho =>
   obtain rfl := gdO10 ho
   have x12 := gdX (hG.val 9 9 12 _ rfl (hdep ⟨9, .data⟩ (by simp) rfl))
   rw [if_pos (gdT10 (hG.val 8 8 11 _ rfl (hdep ⟨8, .guard⟩ (by simp) rfl)))]
   obtain ⟨ph, hSp, hdone⟩ := hG.any
   have HK := Lib.hid (hK (.int .i64 m) w (hG.quiet 10 10 13 _ rfl (by kernel_rfl) (by kernel_rfl)))
   generalize (resOf gd6C fun t => a.eval (.tmp t)) = R at *
   obtain ⟨q0, q1, q2, q3, q4, q5, q6⟩ := hx _ _ _ hSp
   clear hx hc hv c0 c1 c2 c3 c4 c5 c6 q0 q2 q3 q4 q5 q6
   clear hSp hdone
   clear hG hcl hdep hfr hK hLi
   go_simp
   exact HK.out
  | 11, ho =>
   obtain rfl := gdO11 ho
   have x13 := gdX (hG.val 10 10 13 _ rfl (hdep ⟨10, .data⟩ (by simp) rfl))
   rw [if_pos (gdT11 (hG.val 8 8 11 _ rfl (hdep ⟨8, .guard⟩ (by simp) rfl)))]
   have HK := Lib.hid (hK (.bool true) w (hG.quiet 11 11 14 _ rfl (by kernel_rfl) (by kernel_rfl)))
   clear hx hc hv c0 c1 c3 c4 c5 c6
   clear hG hcl hdep hfr hK hLi
   go_simp
   exact HK.out
  | 12, ho =>
   obtain rfl := gdO12 ho
   have x11 := gdX (hG.val 8 8 11 _ rfl (hdep ⟨8, .data⟩ (by simp) rfl))
   have x14 := gdX (hG.val 11 11 14 _ rfl (hdep ⟨11, .data⟩ (by simp) rfl))
   rw [if_pos (show Region.wanted _ _ = true from rfl)]
   have HK := Lib.hid (hK (.bool true) w (hG.quiet 12 12 15 _ rfl (by kernel_rfl) (by kernel_rfl)))
   clear hG hcl hdep hfr hK hLi
   go_simp
   exact HK.out
  | 13, ho =>
   obtain rfl := gdO13 ho
   have x15 := gdX (hG.val 12 12 15 _ rfl (hdep ⟨12, .data⟩ (by simp) rfl))
   rw [if_pos (show Region.wanted _ _ = true from rfl)]
   have HK := Lib.hid (hK (.bool true) w (hG.quiet 13 13 16 _ rfl (by kernel_rfl) (by kernel_rfl)))
   clear hG hcl hdep hfr hK hLi
   go_simp
   exact HK.out
  | 14, ho =>
   obtain rfl := gdO14 ho
   rw [if_pos (gdT14 (hG.val 13 13 16 _ rfl (hdep ⟨13, .guard⟩ (by simp) rfl)))]
   have HK := Lib.hid (hK (.pointer (some ⟨b, 1, none⟩)) w (hG.quiet 14 14 17 _ rfl (by kernel_rfl) (by kernel_rfl)))
   clear hx hc hv c0 c1 c2 c3 c4 c5 c6
   clear hG hcl hdep hfr hK hLi
   go_simp
   exact HK.out
  | 15, ho =>
   obtain rfl := gdO15 ho
   have x17 := gdX (hG.val 14 14 17 _ rfl (hdep ⟨14, .data⟩ (by simp) rfl))
   rw [if_pos (gdT15 (hG.val 13 13 16 _ rfl (hdep ⟨13, .guard⟩ (by simp) rfl)))]
   obtain ⟨ph, hSp, hdone⟩ := hG.any
   have HK := Lib.hid (hK (.int .i64 m) w (hG.quiet 15 15 18 _ rfl (by kernel_rfl) (by kernel_rfl)))
   generalize (resOf gd6C fun t => a.eval (.tmp t)) = R at *
   obtain ⟨q0, q1, q2, q3, q4, q5, q6⟩ := hx _ _ _ hSp
   clear hx hc hv c0 c1 c2 c3 c4 c5 c6 q0 q2 q3 q4 q5 q6
   clear hSp hdone
   clear hG hcl hdep hfr hK hLi
   go_simp
   exact HK.out
  | 16, ho =>
   obtain rfl := gdO16 ho
   have x18 := gdX (hG.val 15 15 18 _ rfl (hdep ⟨15, .data⟩ (by simp) rfl))
   rw [if_pos (gdT16 (hG.val 13 13 16 _ rfl (hdep ⟨13, .guard⟩ (by simp) rfl)))]
   have HK := Lib.hid (hK (.bool true) w (hG.quiet 16 16 19 _ rfl (by kernel_rfl) (by kernel_rfl)))
   clear hx hc hv c0 c1 c2 c4 c5 c6
   clear hG hcl hdep hfr hK hLi
   go_simp
   exact HK.out
  | 17, ho =>
   obtain rfl := gdO17 ho
   have x16 := gdX (hG.val 13 13 16 _ rfl (hdep ⟨13, .data⟩ (by simp) rfl))
   have x19 := gdX (hG.val 16 16 19 _ rfl (hdep ⟨16, .data⟩ (by simp) rfl))
   rw [if_pos (show Region.wanted _ _ = true from rfl)]
   have HK := Lib.hid (hK (.bool true) w (hG.quiet 17 17 20 _ rfl (by kernel_rfl) (by kernel_rfl)))
   clear hG hcl hdep hfr hK hLi
   go_simp
   exact HK.out
  | 18, ho =>
   obtain rfl := gdO18 ho
   have x20 := gdX (hG.val 17 17 20 _ rfl (hdep ⟨17, .data⟩ (by simp) rfl))
   rw [if_pos (show Region.wanted _ _ = true from rfl)]
   have HK := Lib.hid (hK (.bool true) w (hG.quiet 18 18 21 _ rfl (by kernel_rfl) (by kernel_rfl)))
   clear hG hcl hdep hfr hK hLi
   go_simp
   exact HK.out
  | 19, ho =>
   obtain rfl := gdO19 ho
   rw [if_pos (gdT19 (hG.val 18 18 21 _ rfl (hdep ⟨18, .guard⟩ (by simp) rfl)))]
   have HK := Lib.hid (hK (.pointer (some ⟨b, 2, none⟩)) w (hG.quiet 19 19 22 _ rfl (by kernel_rfl) (by kernel_rfl)))
   clear hx hc hv c0 c1 c2 c3 c4 c5 c6
   clear hG hcl hdep hfr hK hLi
   go_simp
   exact HK.out
  | 20, ho =>
   obtain rfl := gdO20 ho
   have x22 := gdX (hG.val 19 19 22 _ rfl (hdep ⟨19, .data⟩ (by simp) rfl))
   rw [if_pos (gdT20 (hG.val 18 18 21 _ rfl (hdep ⟨18, .guard⟩ (by simp) rfl)))]
   obtain ⟨ph, hSp, hdone⟩ := hG.any
   have HK := Lib.hid (hK (.int .i64 k) w (hG.quiet 20 20 23 _ rfl (by kernel_rfl) (by kernel_rfl)))
   generalize (resOf gd6C fun t => a.eval (.tmp t)) = R at *
   obtain ⟨q0, q1, q2, q3, q4, q5, q6⟩ := hx _ _ _ hSp
   clear hx hc hv c0 c1 c2 c3 c4 c5 c6 q0 q1 q3 q4 q5 q6
   clear hSp hdone
   clear hG hcl hdep hfr hK hLi
   go_simp
   exact HK.out
  | 21, ho =>
   obtain rfl := gdO21 ho
   have x23 := gdX (hG.val 20 20 23 _ rfl (hdep ⟨20, .data⟩ (by simp) rfl))
   rw [if_pos (gdT21 (hG.val 18 18 21 _ rfl (hdep ⟨18, .guard⟩ (by simp) rfl)))]
   have HK := Lib.hid (hK (.bool true) w (hG.quiet 21 21 24 _ rfl (by kernel_rfl) (by kernel_rfl)))
   clear hx hc hv c0 c1 c2 c3 c5 c6
   clear hG hcl hdep hfr hK hLi
   go_simp
   exact HK.out
  | 22, ho =>
   obtain rfl := gdO22 ho
   have x21 := gdX (hG.val 18 18 21 _ rfl (hdep ⟨18, .data⟩ (by simp) rfl))
   have x24 := gdX (hG.val 21 21 24 _ rfl (hdep ⟨21, .data⟩ (by simp) rfl))
   rw [if_pos (show Region.wanted _ _ = true from rfl)]
   have HK := Lib.hid (hK (.bool true) w (hG.quiet 22 22 25 _ rfl (by kernel_rfl) (by kernel_rfl)))
   clear hG hcl hdep hfr hK hLi
   go_simp
   exact HK.out
  | 23, ho =>
   obtain rfl := gdO23 ho
   have x25 := gdX (hG.val 22 22 25 _ rfl (hdep ⟨22, .data⟩ (by simp) rfl))
   rw [if_pos (show Region.wanted _ _ = true from rfl)]
   have HK := Lib.hid (hK (.bool true) w (hG.quiet 23 23 26 _ rfl (by kernel_rfl) (by kernel_rfl)))
   clear hG hcl hdep hfr hK hLi
   go_simp
   exact HK.out
  | 24, ho =>
   obtain rfl := gdO24 ho
   rw [if_pos (gdT24 (hG.val 23 23 26 _ rfl (hdep ⟨23, .guard⟩ (by simp) rfl)))]
   have HK := Lib.hid (hK (.pointer (some ⟨b, 2, none⟩)) w (hG.quiet 24 24 27 _ rfl (by kernel_rfl) (by kernel_rfl)))
   clear hx hc hv c0 c1 c2 c3 c4 c5 c6
   clear hG hcl hdep hfr hK hLi
   go_simp
   exact HK.out
  | 25, ho =>
   obtain rfl := gdO25 ho
   have x27 := gdX (hG.val 24 24 27 _ rfl (hdep ⟨24, .data⟩ (by simp) rfl))
   rw [if_pos (gdT25 (hG.val 23 23 26 _ rfl (hdep ⟨23, .guard⟩ (by simp) rfl)))]
   obtain ⟨ph, hSp, hdone⟩ := hG.any
   have HK := Lib.hid (hK (.int .i64 k) w (hG.quiet 25 25 28 _ rfl (by kernel_rfl) (by kernel_rfl)))
   generalize (resOf gd6C fun t => a.eval (.tmp t)) = R at *
   obtain ⟨q0, q1, q2, q3, q4, q5, q6⟩ := hx _ _ _ hSp
   clear hx hc hv c0 c1 c2 c3 c4 c5 c6 q0 q1 q3 q4 q5 q6
   clear hSp hdone
   clear hG hcl hdep hfr hK hLi
   go_simp
   exact HK.out
  | 26, ho =>
   obtain rfl := gdO26 ho
   rw [if_pos (gdT26 (hG.val 23 23 26 _ rfl (hdep ⟨23, .guard⟩ (by simp) rfl)))]
   have HK := Lib.hid (hK (.pointer (some ⟨b, 0, none⟩)) w (hG.quiet 26 26 29 _ rfl (by kernel_rfl) (by kernel_rfl)))
   clear hx hc hv c0 c1 c2 c3 c4 c5 c6
   clear hG hcl hdep hfr hK hLi
   go_simp
   exact HK.out
  | 27, ho =>
   obtain rfl := gdO27 ho
   have x29 := gdX (hG.val 26 26 29 _ rfl (hdep ⟨26, .data⟩ (by simp) rfl))
   rw [if_pos (gdT27 (hG.val 23 23 26 _ rfl (hdep ⟨23, .guard⟩ (by simp) rfl)))]
   obtain ⟨ph, hSp, hdone⟩ := hG.any
   have HK := Lib.hid (hK (.int .i64 y) w (hG.quiet 27 27 30 _ rfl (by kernel_rfl) (by kernel_rfl)))
   generalize (resOf gd6C fun t => a.eval (.tmp t)) = R at *
   obtain ⟨q0, q1, q2, q3, q4, q5, q6⟩ := hx _ _ _ hSp
   clear hx hc hv c0 c1 c2 c3 c4 c5 c6 q1 q2 q3 q4 q5 q6
   clear hSp hdone
   clear hG hcl hdep hfr hK hLi
   go_simp
   exact HK.out
  | 28, ho =>
   obtain rfl := gdO28 ho
   rw [if_pos (gdT28 (hG.val 23 23 26 _ rfl (hdep ⟨23, .guard⟩ (by simp) rfl)))]
   have HK := Lib.hid (hK (.pointer (some ⟨b, 1, none⟩)) w (hG.quiet 28 28 31 _ rfl (by kernel_rfl) (by kernel_rfl)))
   clear hx hc hv c0 c1 c2 c3 c4 c5 c6
   clear hG hcl hdep hfr hK hLi
   go_simp
   exact HK.out
  | 29, ho =>
   obtain rfl := gdO29 ho
   have x31 := gdX (hG.val 28 28 31 _ rfl (hdep ⟨28, .data⟩ (by simp) rfl))
   rw [if_pos (gdT29 (hG.val 23 23 26 _ rfl (hdep ⟨23, .guard⟩ (by simp) rfl)))]
   obtain ⟨ph, hSp, hdone⟩ := hG.any
   have HK := Lib.hid (hK (.int .i64 m) w (hG.quiet 29 29 32 _ rfl (by kernel_rfl) (by kernel_rfl)))
   generalize (resOf gd6C fun t => a.eval (.tmp t)) = R at *
   obtain ⟨q0, q1, q2, q3, q4, q5, q6⟩ := hx _ _ _ hSp
   clear hx hc hv c0 c1 c2 c3 c4 c5 c6 q0 q2 q3 q4 q5 q6
   clear hSp hdone
   clear hG hcl hdep hfr hK hLi
   go_simp
   exact HK.out
  | 30, ho =>
   obtain rfl := gdO30 ho
   have x30 := gdX (hG.val 27 27 30 _ rfl (hdep ⟨27, .data⟩ (by simp) rfl))
   have x32 := gdX (hG.val 29 29 32 _ rfl (hdep ⟨29, .data⟩ (by simp) rfl))
   rw [if_pos (gdT30 (hG.val 23 23 26 _ rfl (hdep ⟨23, .chain⟩ (by simp) rfl)))]
   have hSj := hG.at 0 (30, 33) rfl hLi (fun c h0 hc => absurd h0 (by decide))
   have hfin := fun v w' hs => hK v w' (hG.call 0 (30, 33) rfl hLi (fun c h0 hc => absurd h0 (by decide)) (by kernel_rfl) v w' hs)
   have HK := Lib.hid hfin
   generalize (resOf gd6C fun t => a.eval (.tmp t)) = R at *
   clear hG hcl hdep hfr hK hfin hLi
   have hcc := Lib.hid (hc _ _ hSj)
   clear hSj hx hc hv c0 c1 c2 c3 c4 c5 c6
   go_simp
   go_at_call 37
   refine hcc.out.mono ?_
   rintro e w' ⟨v, rfl, hs⟩
   exact HK.out v w' hs
  | 31, ho =>
   obtain rfl := gdO31 ho
   have x28 := gdX (hG.val 25 25 28 _ rfl (hdep ⟨25, .data⟩ (by simp) rfl))
   rw [if_pos (gdT31 (hG.val 23 23 26 _ rfl (hdep ⟨23, .guard⟩ (by simp) rfl)))]
   obtain ⟨ph, hSp, hdone⟩ := hG.any
   have hd33 : 0 < ph := hdone 0 (30, 33) rfl (hdep ⟨30, .data⟩ (by simp) rfl)
   have r33 : a.tmps[33]?.getD undef = resOf gd6C (fun t => a.eval (.tmp t)) 0 := by rw [← ev]; exact (resOf_at (C := gd6C) (j := 0) rfl a).symm
   have HK := Lib.hid (hK (.bool true) w (hG.quiet 30 31 34 _ rfl (by kernel_rfl) (by kernel_rfl)))
   generalize (resOf gd6C fun t => a.eval (.tmp t)) = R at *
   rw [hv _ _ _ hSp hd33] at r33
   clear hd33
   clear hx hc hv c0 c1 c2 c3 c4 c6
   clear hSp hdone
   clear hG hcl hdep hfr hK hLi
   go_simp
   exact HK.out
  | 32, ho =>
   obtain rfl := gdO32 ho
   have x26 := gdX (hG.val 23 23 26 _ rfl (hdep ⟨23, .data⟩ (by simp) rfl))
   have x34 := gdX (hG.val 30 31 34 _ rfl (hdep ⟨31, .data⟩ (by simp) rfl))
   rw [if_pos (show Region.wanted _ _ = true from rfl)]
   have HK := Lib.hid (hK (.bool true) w (hG.quiet 31 32 35 _ rfl (by kernel_rfl) (by kernel_rfl)))
   clear hG hcl hdep hfr hK hLi
   go_simp
   exact HK.out
  | 33, ho =>
   obtain rfl := gdO33 ho
   have x35 := gdX (hG.val 31 32 35 _ rfl (hdep ⟨32, .data⟩ (by simp) rfl))
   rw [if_pos (show Region.wanted _ _ = true from rfl)]
   have HK := Lib.hid (hK (.bool true) w (hG.quiet 32 33 36 _ rfl (by kernel_rfl) (by kernel_rfl)))
   clear hG hcl hdep hfr hK hLi
   go_simp
   exact HK.out
  | 34, ho =>
   obtain rfl := gdO34 ho
   rw [if_pos (gdT34 (hG.val 32 33 36 _ rfl (hdep ⟨33, .guard⟩ (by simp) rfl)))]
   have HK := Lib.hid (hK (.pointer (some ⟨b, 3, none⟩)) w (hG.quiet 33 34 37 _ rfl (by kernel_rfl) (by kernel_rfl)))
   clear hx hc hv c0 c1 c2 c3 c4 c5 c6
   clear hG hcl hdep hfr hK hLi
   go_simp
   exact HK.out
  | 35, ho =>
   obtain rfl := gdO35 ho
   have x37 := gdX (hG.val 33 34 37 _ rfl (hdep ⟨34, .data⟩ (by simp) rfl))
   rw [if_pos (gdT35 (hG.val 32 33 36 _ rfl (hdep ⟨33, .guard⟩ (by simp) rfl)))]
   obtain ⟨ph, hSp, hdone⟩ := hG.any
   have HK := Lib.hid (hK (.int .i64 hh) w (hG.quiet 34 35 38 _ rfl (by kernel_rfl) (by kernel_rfl)))
   generalize (resOf gd6C fun t => a.eval (.tmp t)) = R at *
   obtain ⟨q0, q1, q2, q3, q4, q5, q6⟩ := hx _ _ _ hSp
   clear hx hc hv c0 c1 c2 c3 c4 c5 c6 q0 q1 q2 q4 q5 q6
   clear hSp hdone
   clear hG hcl hdep hfr hK hLi
   go_simp
   exact HK.out
  | 36, ho =>
   obtain rfl := gdO36 ho
   have x38 := gdX (hG.val 34 35 38 _ rfl (hdep ⟨35, .data⟩ (by simp) rfl))
   rw [if_pos (gdT36 (hG.val 32 33 36 _ rfl (hdep ⟨33, .guard⟩ (by simp) rfl)))]
   have HK := Lib.hid (hK (.bool false) w (hG.quiet 35 36 39 _ rfl (by kernel_rfl) (by kernel_rfl)))
   clear hx hc hv c0 c1 c2 c3 c4 c5
   clear hG hcl hdep hfr hK hLi
   go_simp
   exact HK.out
  | 37, ho =>
   obtain rfl := gdO37 ho
   have x36 := gdX (hG.val 32 33 36 _ rfl (hdep ⟨33, .data⟩ (by simp) rfl))
   have x39 := gdX (hG.val 35 36 39 _ rfl (hdep ⟨36, .data⟩ (by simp) rfl))
   rw [if_pos (show Region.wanted _ _ = true from rfl)]
   have HK := Lib.hid (hK (.bool false) w (hG.quiet 36 37 40 _ rfl (by kernel_rfl) (by kernel_rfl)))
   clear hG hcl hdep hfr hK hLi
   go_simp
   exact HK.out
  | 38, ho =>
   obtain rfl := gdO38 ho
   have x40 := gdX (hG.val 36 37 40 _ rfl (hdep ⟨37, .data⟩ (by simp) rfl))
   rw [if_pos (show Region.wanted _ _ = true from rfl)]
   have HK := Lib.hid (hK (.bool false) w (hG.quiet 37 38 41 _ rfl (by kernel_rfl) (by kernel_rfl)))
   clear hG hcl hdep hfr hK hLi
   go_simp
   exact HK.out
  | 39, ho =>
   obtain rfl := gdO39 ho
   rw [if_neg (gdF39 (hG.val 37 38 41 _ rfl (hdep ⟨38, .guard⟩ (by simp) rfl)))]
   have HK := Lib.hid (hK (undef) w (hG.quiet 38 39 42 _ rfl (by kernel_rfl) (by kernel_rfl)))
   clear hG hcl hdep hfr hK hLi
   exact HK.out
  | 40, ho =>
   obtain rfl := gdO40 ho
   have x42 := gdX (hG.val 38 39 42 _ rfl (hdep ⟨39, .data⟩ (by simp) rfl))
   rw [if_neg (gdF40 (hG.val 37 38 41 _ rfl (hdep ⟨38, .guard⟩ (by simp) rfl)))]
   have HK := Lib.hid (hK (undef) w (hG.quiet 39 40 43 _ rfl (by kernel_rfl) (by kernel_rfl)))
   clear hG hcl hdep hfr hK hLi
   exact HK.out
  | 41, ho =>
   obtain rfl := gdO41 ho
   have x43 := gdX (hG.val 39 40 43 _ rfl (hdep ⟨40, .data⟩ (by simp) rfl))
   rw [if_neg (gdF41 (hG.val 37 38 41 _ rfl (hdep ⟨38, .guard⟩ (by simp) rfl)))]
   have HK := Lib.hid (hK (undef) w (hG.quiet 40 41 44 _ rfl (by kernel_rfl) (by kernel_rfl)))
   clear hG hcl hdep hfr hK hLi
   exact HK.out
  | 42, ho =>
   obtain rfl := gdO42 ho
   have x41 := gdX (hG.val 37 38 41 _ rfl (hdep ⟨38, .data⟩ (by simp) rfl))
   have x44 := gdX (hG.val 40 41 44 _ rfl (hdep ⟨41, .data⟩ (by simp) rfl))
   rw [if_pos (show Region.wanted _ _ = true from rfl)]
   have HK := Lib.hid (hK (.bool false) w (hG.quiet 41 42 45 _ rfl (by kernel_rfl) (by kernel_rfl)))
   clear hG hcl hdep hfr hK hLi
   go_simp
   exact HK.out
  | 43, ho =>
   obtain rfl := gdO43 ho
   have x45 := gdX (hG.val 41 42 45 _ rfl (hdep ⟨42, .data⟩ (by simp) rfl))
   rw [if_pos (show Region.wanted _ _ = true from rfl)]
   have HK := Lib.hid (hK (.bool false) w (hG.quiet 42 43 46 _ rfl (by kernel_rfl) (by kernel_rfl)))
   clear hG hcl hdep hfr hK hLi
   go_simp
   exact HK.out
  | 44, ho =>
   obtain rfl := gdO44 ho
   rw [if_neg (gdF44 (hG.val 42 43 46 _ rfl (hdep ⟨43, .guard⟩ (by simp) rfl)))]
   have HK := Lib.hid (hK (undef) w (hG.quiet 43 44 47 _ rfl (by kernel_rfl) (by kernel_rfl)))
   clear hG hcl hdep hfr hK hLi
   exact HK.out
  | 45, ho =>
   obtain rfl := gdO45 ho
   have x47 := gdX (hG.val 43 44 47 _ rfl (hdep ⟨44, .data⟩ (by simp) rfl))
   rw [if_neg (gdF45 (hG.val 42 43 46 _ rfl (hdep ⟨43, .guard⟩ (by simp) rfl)))]
   have HK := Lib.hid (hK (undef) w (hG.quiet 44 45 48 _ rfl (by kernel_rfl) (by kernel_rfl)))
   clear hG hcl hdep hfr hK hLi
   exact HK.out
  | 46, ho =>
   obtain rfl := gdO46 ho
   have x48 := gdX (hG.val 44 45 48 _ rfl (hdep ⟨45, .data⟩ (by simp) rfl))
   rw [if_neg (gdF46 (hG.val 42 43 46 _ rfl (hdep ⟨43, .guard⟩ (by simp) rfl)))]
   have HK := Lib.hid (hK (undef) w (hG.quiet 45 46 49 _ rfl (by kernel_rfl) (by kernel_rfl)))
   clear hG hcl hdep hfr hK hLi
   exact HK.out
  | 47, ho =>
   obtain rfl := gdO47 ho
   have x46 := gdX (hG.val 42 43 46 _ rfl (hdep ⟨43, .data⟩ (by simp) rfl))
   have x49 := gdX (hG.val 45 46 49 _ rfl (hdep ⟨46, .data⟩ (by simp) rfl))
   rw [if_pos (show Region.wanted _ _ = true from rfl)]
   have HK := Lib.hid (hK (.bool false) w (hG.quiet 46 47 50 _ rfl (by kernel_rfl) (by kernel_rfl)))
   clear hG hcl hdep hfr hK hLi
   go_simp
   exact HK.out
  | 48, ho =>
   obtain rfl := gdO48 ho
   have x50 := gdX (hG.val 46 47 50 _ rfl (hdep ⟨47, .data⟩ (by simp) rfl))
   rw [if_pos (show Region.wanted _ _ = true from rfl)]
   have HK := Lib.hid (hK (.bool false) w (hG.quiet 47 48 51 _ rfl (by kernel_rfl) (by kernel_rfl)))
   clear hG hcl hdep hfr hK hLi
   go_simp
   exact HK.out
  | 49, ho =>
   obtain rfl := gdO49 ho
   rw [if_neg (gdF49 (hG.val 47 48 51 _ rfl (hdep ⟨48, .guard⟩ (by simp) rfl)))]
   have HK := Lib.hid (hK (undef) w (hG.quiet 48 49 52 _ rfl (by kernel_rfl) (by kernel_rfl)))
   clear hG hcl hdep hfr hK hLi
   exact HK.out
  | 50, ho =>
   obtain rfl := gdO50 ho
   have x52 := gdX (hG.val 48 49 52 _ rfl (hdep ⟨49, .data⟩ (by simp) rfl))
   rw [if_neg (gdF50 (hG.val 47 48 51 _ rfl (hdep ⟨48, .guard⟩ (by simp) rfl)))]
   have HK := Lib.hid (hK (undef) w (hG.quiet 49 50 53 _ rfl (by kernel_rfl) (by kernel_rfl)))
   clear hG hcl hdep hfr hK hLi
   exact HK.out
  | 51, ho =>
   obtain rfl := gdO51 ho
   have x53 := gdX (hG.val 49 50 53 _ rfl (hdep ⟨50, .data⟩ (by simp) rfl))
   rw [if_neg (gdF51 (hG.val 47 48 51 _ rfl (hdep ⟨48, .guard⟩ (by simp) rfl)))]
   have HK := Lib.hid (hK (undef) w (hG.quiet 50 51 54 _ rfl (by kernel_rfl) (by kernel_rfl)))
   clear hG hcl hdep hfr hK hLi
   exact HK.out
  | 52, ho =>
   obtain rfl := gdO52 ho
   have x51 := gdX (hG.val 47 48 51 _ rfl (hdep ⟨48, .data⟩ (by simp) rfl))
   have x54 := gdX (hG.val 50 51 54 _ rfl (hdep ⟨51, .data⟩ (by simp) rfl))
   rw [if_pos (show Region.wanted _ _ = true from rfl)]
   have HK := Lib.hid (hK (.bool false) w (hG.quiet 51 52 55 _ rfl (by kernel_rfl) (by kernel_rfl)))
   clear hG hcl hdep hfr hK hLi
   go_simp
   exact HK.out
  | 53, ho =>
   obtain rfl := gdO53 ho
   have x55 := gdX (hG.val 51 52 55 _ rfl (hdep ⟨52, .data⟩ (by simp) rfl))
   rw [if_pos (show Region.wanted _ _ = true from rfl)]
   have HK := Lib.hid (hK (.bool false) w (hG.quiet 52 53 56 _ rfl (by kernel_rfl) (by kernel_rfl)))
   clear hG hcl hdep hfr hK hLi
   go_simp
   exact HK.out
  | 54, ho =>
   obtain rfl := gdO54 ho
   rw [if_neg (gdF54 (hG.val 52 53 56 _ rfl (hdep ⟨53, .guard⟩ (by simp) rfl)))]
   have HK := Lib.hid (hK (undef) w (hG.quiet 53 54 57 _ rfl (by kernel_rfl) (by kernel_rfl)))
   clear hG hcl hdep hfr hK hLi
   exact HK.out
  | 55, ho =>
   obtain rfl := gdO55 ho
   have x57 := gdX (hG.val 53 54 57 _ rfl (hdep ⟨54, .data⟩ (by simp) rfl))
   rw [if_neg (gdF55 (hG.val 52 53 56 _ rfl (hdep ⟨53, .guard⟩ (by simp) rfl)))]
   have HK := Lib.hid (hK (undef) w (hG.quiet 54 55 58 _ rfl (by kernel_rfl) (by kernel_rfl)))
   clear hG hcl hdep hfr hK hLi
   exact HK.out
  | 56, ho =>
   obtain rfl := gdO56 ho
   have x58 := gdX (hG.val 54 55 58 _ rfl (hdep ⟨55, .data⟩ (by simp) rfl))
   rw [if_neg (gdF56 (hG.val 52 53 56 _ rfl (hdep ⟨53, .guard⟩ (by simp) rfl)))]
   have HK := Lib.hid (hK (undef) w (hG.quiet 55 56 59 _ rfl (by kernel_rfl) (by kernel_rfl)))
   clear hG hcl hdep hfr hK hLi
   exact HK.out
  | 57, ho =>
   obtain rfl := gdO57 ho
   have x56 := gdX (hG.val 52 53 56 _ rfl (hdep ⟨53, .data⟩ (by simp) rfl))
   have x59 := gdX (hG.val 55 56 59 _ rfl (hdep ⟨56, .data⟩ (by simp) rfl))
   rw [if_pos (show Region.wanted _ _ = true from rfl)]
   have HK := Lib.hid (hK (.bool false) w (hG.quiet 56 57 60 _ rfl (by kernel_rfl) (by kernel_rfl)))
   clear hG hcl hdep hfr hK hLi
   go_simp
   exact HK.out
  | 58, ho =>
   obtain rfl := gdO58 ho
   have x60 := gdX (hG.val 56 57 60 _ rfl (hdep ⟨57, .data⟩ (by simp) rfl))
   rw [if_pos (show Region.wanted _ _ = true from rfl)]
   have HK := Lib.hid (hK (.bool false) w (hG.quiet 57 58 61 _ rfl (by kernel_rfl) (by kernel_rfl)))
   clear hG hcl hdep hfr hK hLi
   go_simp
   exact HK.out
  | 59, ho =>
   obtain rfl := gdO59 ho
   rw [if_neg (gdF59 (hG.val 57 58 61 _ rfl (hdep ⟨58, .guard⟩ (by simp) rfl)))]
   have HK := Lib.hid (hK (undef) w (hG.quiet 58 59 62 _ rfl (by kernel_rfl) (by kernel_rfl)))
   clear hG hcl hdep hfr hK hLi
   exact HK.out
  | 60, ho =>
   obtain rfl := gdO60 ho
   have x62 := gdX (hG.val 58 59 62 _ rfl (hdep ⟨59, .data⟩ (by simp) rfl))
   rw [if_neg (gdF60 (hG.val 57 58 61 _ rfl (hdep ⟨58, .guard⟩ (by simp) rfl)))]
   have HK := Lib.hid (hK (undef) w (hG.quiet 59 60 63 _ rfl (by kernel_rfl) (by kernel_rfl)))
   clear hG hcl hdep hfr hK hLi
   exact HK.out
  | 61, ho =>
   obtain rfl := gdO61 ho
   have x63 := gdX (hG.val 59 60 63 _ rfl (hdep ⟨60, .data⟩ (by simp) rfl))
   rw [if_neg (gdF61 (hG.val 57 58 61 _ rfl (hdep ⟨58, .guard⟩ (by simp) rfl)))]
   have HK := Lib.hid (hK (undef) w (hG.quiet 60 61 64 _ rfl (by kernel_rfl) (by kernel_rfl)))
   clear hG hcl hdep hfr hK hLi
   exact HK.out
  | 62, ho =>
   obtain rfl := gdO62 ho
   have x61 := gdX (hG.val 57 58 61 _ rfl (hdep ⟨58, .data⟩ (by simp) rfl))
   have x64 := gdX (hG.val 60 61 64 _ rfl (hdep ⟨61, .data⟩ (by simp) rfl))
   rw [if_pos (show Region.wanted _ _ = true from rfl)]
   have HK := Lib.hid (hK (.bool false) w (hG.quiet 61 62 65 _ rfl (by kernel_rfl) (by kernel_rfl)))
   clear hG hcl hdep hfr hK hLi
   go_simp
   exact HK.out
  | 63, ho =>
   obtain rfl := gdO63 ho
   have x65 := gdX (hG.val 61 62 65 _ rfl (hdep ⟨62, .data⟩ (by simp) rfl))
   rw [if_pos (show Region.wanted _ _ = true from rfl)]
   have HK := Lib.hid (hK (.bool false) w (hG.quiet 62 63 66 _ rfl (by kernel_rfl) (by kernel_rfl)))
   clear hG hcl hdep hfr hK hLi
   go_simp
   exact HK.out
  | 64, ho =>
   obtain rfl := gdO64 ho
   rw [if_neg (gdF64 (hG.val 62 63 66 _ rfl (hdep ⟨63, .guard⟩ (by simp) rfl)))]
   have HK := Lib.hid (hK (undef) w (hG.quiet 63 64 67 _ rfl (by kernel_rfl) (by kernel_rfl)))
   clear hG hcl hdep hfr hK hLi
   exact HK.out
  | 65, ho =>
   obtain rfl := gdO65 ho
   have x67 := gdX (hG.val 63 64 67 _ rfl (hdep ⟨64, .data⟩ (by simp) rfl))
   rw [if_neg (gdF65 (hG.val 62 63 66 _ rfl (hdep ⟨63, .guard⟩ (by simp) rfl)))]
   have HK := Lib.hid (hK (undef) w (hG.quiet 64 65 68 _ rfl (by kernel_rfl) (by kernel_rfl)))
   clear hG hcl hdep hfr hK hLi
   exact HK.out
  | 66, ho =>
   obtain rfl := gdO66 ho
   have x68 := gdX (hG.val 64 65 68 _ rfl (hdep ⟨65, .data⟩ (by simp) rfl))
   rw [if_neg (gdF66 (hG.val 62 63 66 _ rfl (hdep ⟨63, .guard⟩ (by simp) rfl)))]
   have HK := Lib.hid (hK (undef) w (hG.quiet 65 66 69 _ rfl (by kernel_rfl) (by kernel_rfl)))
   clear hG hcl hdep hfr hK hLi
   exact HK.out
  | 67, ho =>
   obtain rfl := gdO67 ho
   have x66 := gdX (hG.val 62 63 66 _ rfl (hdep ⟨63, .data⟩ (by simp) rfl))
   have x69 := gdX (hG.val 65 66 69 _ rfl (hdep ⟨66, .data⟩ (by simp) rfl))
   rw [if_pos (show Region.wanted _ _ = true from rfl)]
   have HK := Lib.hid (hK (.bool false) w (hG.quiet 66 67 70 _ rfl (by kernel_rfl) (by kernel_rfl)))
   clear hG hcl hdep hfr hK hLi
   go_simp
   exact HK.out
  | 68, ho =>
   obtain rfl := gdO68 ho
   have x70 := gdX (hG.val 66 67 70 _ rfl (hdep ⟨67, .data⟩ (by simp) rfl))
   rw [if_pos (show Region.wanted _ _ = true from rfl)]
   have HK := Lib.hid (hK (.bool false) w (hG.quiet 67 68 71 _ rfl (by kernel_rfl) (by kernel_rfl)))
   clear hG hcl hdep hfr hK hLi
   go_simp
   exact HK.out
  | 69, ho =>
   obtain rfl := gdO69 ho
   rw [if_neg (gdF69 (hG.val 67 68 71 _ rfl (hdep ⟨68, .guard⟩ (by simp) rfl)))]
   have HK := Lib.hid (hK (undef) w (hG.quiet 68 69 72 _ rfl (by kernel_rfl) (by kernel_rfl)))
   clear hG hcl hdep hfr hK hLi
   exact HK.out
  | 70, ho =>
   obtain rfl := gdO70 ho
   have x72 := gdX (hG.val 68 69 72 _ rfl (hdep ⟨69, .data⟩ (by simp) rfl))
   rw [if_neg (gdF70 (hG.val 67 68 71 _ rfl (hdep ⟨68, .guard⟩ (by simp) rfl)))]
   have HK := Lib.hid (hK (undef) w (hG.quiet 69 70 73 _ rfl (by kernel_rfl) (by kernel_rfl)))
   clear hG hcl hdep hfr hK hLi
   exact HK.out
  | 71, ho =>
   obtain rfl := gdO71 ho
   have x73 := gdX (hG.val 69 70 73 _ rfl (hdep ⟨70, .data⟩ (by simp) rfl))
   rw [if_neg (gdF71 (hG.val 67 68 71 _ rfl (hdep ⟨68, .guard⟩ (by simp) rfl)))]
   have HK := Lib.hid (hK (undef) w (hG.quiet 70 71 74 _ rfl (by kernel_rfl) (by kernel_rfl)))
   clear hG hcl hdep hfr hK hLi
   exact HK.out
  | 72, ho =>
   obtain rfl := gdO72 ho
   have x71 := gdX (hG.val 67 68 71 _ rfl (hdep ⟨68, .data⟩ (by simp) rfl))
   have x74 := gdX (hG.val 70 71 74 _ rfl (hdep ⟨71, .data⟩ (by simp) rfl))
   rw [if_pos (show Region.wanted _ _ = true from rfl)]
   have HK := Lib.hid (hK (.bool false) w (hG.quiet 71 72 75 _ rfl (by kernel_rfl) (by kernel_rfl)))
   clear hG hcl hdep hfr hK hLi
   go_simp
   exact HK.out
  | 73, ho =>
   obtain rfl := gdO73 ho
   have x75 := gdX (hG.val 71 72 75 _ rfl (hdep ⟨72, .data⟩ (by simp) rfl))
   rw [if_pos (show Region.wanted _ _ = true from rfl)]
   have HK := Lib.hid (hK (.bool false) w (hG.quiet 72 73 2 _ rfl (by kernel_rfl) (by kernel_rfl)))
   clear hG hcl hdep hfr hK hLi
   go_simp
   exact HK.out
  | n + 74, ho => exact absurd (Array.getElem?_eq_some_iff.1 ho).1 (by show ¬ n + 74 < 74; omega)


def gd7Vals (b : Nat) (y m k hh mi s z d : Int) : List (Nat × Nat × Value) := [(0, 3, .pointer (some ⟨b, 0, none⟩)), (1, 4, .int .i64 y), (2, 5, .bool true), (3, 6, .bool true), (4, 7, .pointer (some ⟨b, 0, none⟩)), (5, 8, .int .i64 y), (6, 9, .bool true), (7, 10, .bool true), (8, 11, .bool true), (9, 12, .pointer (some ⟨b, 1, none⟩)), (10, 13, .int .i64 m), (11, 14, .bool true), (12, 15, .bool true), (13, 16, .bool true), (14, 17, .pointer (some ⟨b, 1, none⟩)), (15, 18, .int .i64 m), (16, 19, .bool true), (17, 20, .bool true), (18, 21, .bool true), (19, 22, .pointer (some ⟨b, 2, none⟩)), (20, 23, .int .i64 k), (21, 24, .bool true), (22, 25, .bool true), (23, 26, .bool true), (24, 27, .pointer (some ⟨b, 2, none⟩)), (25, 28, .int .i64 k), (26, 29, .pointer (some ⟨b, 0, none⟩)), (27, 30, .int .i64 y), (28, 31, .pointer (some ⟨b, 1, none⟩)), (29, 32, .int .i64 m), (31, 34, .bool true), (32, 35, .bool true), (33, 36, .bool true), (34, 37, .pointer (some ⟨b, 3, none⟩)), (35, 38, .int .i64 hh), (36, 39, .bool true), (37, 40, .bool true), (38, 41, .bool true), (39, 42, .pointer (some ⟨b, 3, none⟩)), (40, 43, .int .i64 hh), (41, 44, .bool false), (42, 45, .bool false), (43, 46, .bool false), (44, 47, undef), (45, 48, undef), (46, 49, undef), (47, 50, .bool false), (48, 51, .bool false), (49, 52, undef), (50, 53, undef), (51, 54, undef), (52, 55, .bool false), (53, 56, .bool false), (54, 57, undef), (55, 58, undef), (56, 59, undef), (57, 60, .bool false), (58, 61, .bool false), (59, 62, undef), (60, 63, undef), (61, 64, undef), (62, 65, .bool false), (63, 66, .bool false), (64, 67, undef), (65, 68, undef), (66, 69, undef), (67, 70, .bool false), (68, 71, .bool false), (69, 72, undef), (70, 73, undef), (71, 74, undef), (72, 75, .bool false), (73, 2, .bool false)]
def gd7C : List (Nat × Nat) := [(30, 33)]

set_option maxHeartbeats 4000000 in
set_option maxRecDepth 100000 in
theorem gd7 {Q : Exit → Act → World → Prop} {a0 : Act} {wp : World} (b : Nat) (y m k hh mi s z d : Int) (S : Nat → (Nat → Value) → World → Prop)
    (hsz : 75 < a0.tmps.size) (in1 : a0.eval (.tmp 1) = .pointer (some ⟨b, 0, none⟩))
    (hx : ∀ p R w, S p R w → w.cell? ⟨b, 0, none⟩ = some (.int .i64 y) ∧ w.cell? ⟨b, 1, none⟩ = some (.int .i64 m) ∧ w.cell? ⟨b, 2, none⟩ = some (.int .i64 k) ∧ w.cell? ⟨b, 3, none⟩ = some (.int .i64 hh) ∧ w.cell? ⟨b, 4, none⟩ = some (.int .i64 mi) ∧ w.cell? ⟨b, 5, none⟩ = some (.int .i64 s) ∧ w.cell? ⟨b, 6, none⟩ = some (.int .i64 z)) (c0 : decide (1970 ≤ y) = true) (c1 : decide (y ≤ 9999) = true) (c2 : decide (1 ≤ m) = true) (c3 : decide (m ≤ 12) = true) (c4 : decide (1 ≤ k) = true) (c5 : decide (k ≤ d) = true) (c6 : decide (0 ≤ hh) = true) (c7 : decide (hh ≤ 23) = false)
    (hc : ∀ R w, S 0 R w → Calls Tryd.prog 37 #[.int .i64 y, .int .i64 m] w fun e w' => ∃ v, e = .returned v ∧ S 1 (setR R 0 v) w')
    (hv : ∀ p R w, S p R w → 0 < p → R 0 = .int .i64 d)
    (hS : S 0 (resOf gd7C fun t => a0.eval (.tmp t)) wp.drew)
    (fin : ∀ a w, Fr [3, 4, 5, 6, 7, 8, 9, 10, 11, 12, 13, 14, 15, 16, 17, 18, 19, 20, 21, 22, 23, 24, 25, 26, 27, 28, 29, 30, 31, 32, 33, 34, 35, 36, 37, 38, 39, 40, 41, 42, 43, 44, 45, 46, 47, 48, 49, 50, 51, 52, 53, 54, 55, 56, 57, 58, 59, 60, 61, 62, 63, 64, 65, 66, 67, 68, 69, 70, 71, 72, 73, 74, 75, 2] a0 a → a.eval (.tmp 2) = .bool false → S 1 (resOf gd7C fun t => a.eval (.tmp t)) w → Q .normal a w) :
    (Code.region 1 opsGd true).wp Tryd.prog Q a0 wp := by
  refine region_inv (by kernel_rfl) [3, 4, 5, 6, 7, 8, 9, 10, 11, 12, 13, 14, 15, 16, 17, 18, 19, 20, 21, 22, 23, 24, 25, 26, 27, 28, 29, 30, 31, 32, 33, 34, 35, 36, 37, 38, 39, 40, 41, 42, 43, 44, 45, 46, 47, 48, 49, 50, 51, 52, 53, 54, 55, 56, 57, 58, 59, 60, 61, 62, 63, 64, 65, 66, 67, 68, 69, 70, 71, 72, 73, 74, 75, 2] (by kernel_rfl) (by kernel_rfl) (fun t ht => by simp at ht; omega) (GV (gd7Vals b y m k hh mi s z d) gd7C S) (.start hS) ?_
    (fun L a w hf hall hG => fin a w hf (hG.val 72 73 2 _ rfl (hall 73 (by decide))) (hG.fin (fun c hc => by simp [gd7C] at hc; subst hc; exact hall _ (by decide))))
  clear hS fin
  intro ix oo ho L a w hfr hG hLi hdep hcl K hK
  have e1 : a.tmps[1]?.getD undef = .pointer (some ⟨b, 0, none⟩) := by rw [← ev]; exact (hfr.same 1 (by decide)).trans in1
  clear in1
  match ix, ho with
  | 0, ho =>
   obtain rfl := gdO0 ho
   rw [if_pos (show Region.wanted _ _ = true from rfl)]
   have HK := Lib.hid (hK (.pointer (some ⟨b, 0, none⟩)) w (hG.quiet 0 0 3 _ rfl (by kernel_rfl) (by kernel_rfl)))
   clear hx hc hv c0 c1 c2 c3 c4 c5 c6 c7
   clear hG hcl hdep hfr hK hLi
   go_simp
   exact HK.out
  | 1, ho =>
   obtain rfl := gdO1 ho
   have x3 := gdX (hG.val 0 0 3 _ rfl (hdep ⟨0, .data⟩ (by simp) rfl))
   rw [if_pos (show Region.wanted _ _ = true from rfl)]
   obtain ⟨ph, hSp, hdone⟩ := hG.any
   have HK := Lib.hid (hK (.int .i64 y) w (hG.quiet 1 1 4 _ rfl (by kernel_rfl) (by kernel_rfl)))
   generalize (resOf gd7C fun t => a.eval (.tmp t)) = R at *
   obtain ⟨q0, q1, q2, q3, q4, q5, q6⟩ := hx _ _ _ hSp
   clear hx hc hv c0 c1 c2 c3 c4 c5 c6 c7 q1 q2 q3 q4 q5 q6
   clear hSp hdone
   clear hG hcl hdep hfr hK hLi
   go_simp
   exact HK.out
  | 2, ho =>
   obtain rfl := gdO2 ho
   have x4 := gdX (hG.val 1 1 4 _ rfl (hdep ⟨1, .data⟩ (by simp) rfl))
   rw [if_pos (show Region.wanted _ _ = true from rfl)]
   have HK := Lib.hid (hK (.bool true) w (hG.quiet 2 2 5 _ rfl (by kernel_rfl) (by kernel_rfl)))
   clear hx hc hv c1 c2 c3 c4 c5 c6 c7
   clear hG hcl hdep hfr hK hLi
   go_simp
   exact HK.out
  | 3, ho =>
   obtain rfl := gdO3 ho
   have x5 := gdX (hG.val 2 2 5 _ rfl (hdep ⟨2, .data⟩ (by simp) rfl))
   rw [if_pos (show Region.wanted _ _ = true from rfl)]
   have HK := Lib.hid (hK (.bool true) w (hG.quiet 3 3 6 _ rfl (by kernel_rfl) (by kernel_rfl)))
   clear hG hcl hdep hfr hK hLi
   go_simp
   exact HK.out
  | 4, ho =>
   obtain rfl := gdO4 ho
   rw [if_pos (gdT4 (hG.val 3 3 6 _ rfl (hdep ⟨3, .guard⟩ (by simp) rfl)))]
   have HK := Lib.hid (hK (.pointer (some ⟨b, 0, none⟩)) w (hG.quiet 4 4 7 _ rfl (by kernel_rfl) (by kernel_rfl)))
   clear hx hc hv c0 c1 c2 c3 c4 c5 c6 c7
   clear hG hcl hdep hfr hK hLi
   go_simp
   exact HK.out
  | 5, ho =>
   obtain rfl := gdO5 ho
   have x7 := gdX (hG.val 4 4 7 _ rfl (hdep ⟨4, .data⟩ (by simp) rfl))
   rw [if_pos (gdT5 (hG.val 3 3 6 _ rfl (hdep ⟨3, .guard⟩ (by simp) rfl)))]
   obtain ⟨ph, hSp, hdone⟩ := hG.any
   have HK := Lib.hid (hK (.int .i64 y) w (hG.quiet 5 5 8 _ rfl (by kernel_rfl) (by kernel_rfl)))
   generalize (resOf gd7C fun t => a.eval (.tmp t)) = R at *
   obtain ⟨q0, q1, q2, q3, q4, q5, q6⟩ := hx _ _ _ hSp
   clear hx hc hv c0 c1 c2 c3 c4 c5 c6 c7 q1 q2 q3 q4 q5 q6
   clear hSp hdone
   clear hG hcl hdep hfr hK hLi
   go_simp
   exact HK.out
  | 6, ho =>
   obtain rfl := gdO6 ho
   have x8 := gdX (hG.val 5 5 8 _ rfl (hdep ⟨5, .data⟩ (by simp) rfl))
   rw [if_pos (gdT6 (hG.val 3 3 6 _ rfl (hdep ⟨3, .guard⟩ (by simp) rfl)))]
   have HK := Lib.hid (hK (.bool true) w (hG.quiet 6 6 9 _ rfl (by kernel_rfl) (by kernel_rfl)))
   clear hx hc hv c0 c2 c3 c4 c5 c6 c7
   clear hG hcl hdep hfr hK hLi
   go_simp
   exact HK.out
  | 7, ho =>
   obtain rfl := gdO7 ho
   have x6 := gdX (hG.val 3 3 6 _ rfl (hdep ⟨3, .data⟩ (by simp) rfl))
   have x9 := gdX (hG.val 6 6 9 _ rfl (hdep ⟨6, .data⟩ (by simp) rfl))
   rw [if_pos (show Region.wanted _ _ = true from rfl)]
   have HK := Lib.hid (hK (.bool true) w (hG.quiet 7 7 10 _ rfl (by kernel_rfl) (by kernel_rfl)))
   clear hG hcl hdep hfr hK hLi
   go_simp
   exact HK.out
  | 8, ho =>
   obtain rfl := gdO8 ho
   have x10 := gdX (hG.val 7 7 10 _ rfl (hdep ⟨7, .data⟩ (by simp) rfl))
   rw [if_pos (show Region.wanted _ _ = true from rfl)]
   have HK := Lib.hid (hK (.bool true) w (hG.quiet 8 8 11 _ rfl (by kernel_rfl) (by kernel_rfl)))
   clear hG hcl hdep hfr hK hLi
   go_simp
   exact HK.out
  | 9, ho =>
   obtain rfl := gdO9 ho
   rw [if_pos (gdT9 (hG.val 8 8 11 _ rfl (hdep ⟨8, .guard⟩ (by simp) rfl)))]
   have HK := Lib.hid (hK (.pointer (some ⟨b, 1, none⟩)) w (hG.quiet 9 9 12 _ rfl (by kernel_rfl) (by kernel_rfl)))
   clear hx hc hv c0 c1 c2 c3 c4 c5 c6 c7
   clear hG hcl hdep hfr hK hLi
   go_simp
   exact HK.out
  | 10, ho =>
   obtain rfl := gdO10 ho
   have x12 := gdX (hG.val 9 9 12 _ rfl (hdep ⟨9, .data⟩ (by simp) rfl))
   rw [if_pos (gdT10 (hG.val 8 8 11 _ rfl (hdep ⟨8, .guard⟩ (by simp) rfl)))]
   obtain ⟨ph, hSp, hdone⟩ := hG.any
   have HK := Lib.hid (hK (.int .i64 m) w (hG.quiet 10 10 13 _ rfl (by kernel_rfl) (by kernel_rfl)))
   generalize (resOf gd7C fun t => a.eval (.tmp t)) = R at *
   obtain ⟨q0, q1, q2, q3, q4, q5, q6⟩ := hx _ _ _ hSp
   clear hx hc hv c0 c1 c2 c3 c4 c5 c6 c7 q0 q2 q3 q4 q5 q6
   clear hSp hdone
   clear hG hcl hdep hfr hK hLi
   go_simp
   exact HK.out
  | 11, ho =>
   obtain rfl := gdO11 ho
   have x13 := gdX (hG.val 10 10 13 _ rfl (hdep ⟨10, .data⟩ (by simp) rfl))
   rw [if_pos (gdT11 (hG.val 8 8 11 _ rfl (hdep ⟨8, .guard⟩ (by simp) rfl)))]
   have HK := Lib.hid (hK (.bool true) w (hG.quiet 11 11 14 _ rfl (by kernel_rfl) (by kernel_rfl)))
   clear hx hc hv c0 c1 c3 c4 c5 c6 c7
   clear hG hcl hdep hfr hK hLi
   go_simp
   exact HK.out
  | 12, ho =>
   obtain rfl := gdO12 ho
   have x11 := gdX (hG.val 8 8 11 _ rfl (hdep ⟨8, .data⟩ (by simp) rfl))
   have x14 := gdX (hG.val 11 11 14 _ rfl (hdep ⟨11, .data⟩ (by simp) rfl))
   rw [if_pos (show Region.wanted _ _ = true from rfl)]
   have HK := Lib.hid (hK (.bool true) w (hG.quiet 12 12 15 _ rfl (by kernel_rfl) (by kernel_rfl)))
   clear hG hcl hdep hfr hK hLi
   go_simp
   exact HK.out
  | 13, ho =>
   obtain rfl := gdO13 ho
   have x15 := gdX (hG.val 12 12 15 _ rfl (hdep ⟨12, .data⟩ (by simp) rfl))
   rw [if_pos (show Region.wanted _ _ = true from rfl)]
   have HK := Lib.hid (hK (.bool true) w (hG.quiet 13 13 16 _ rfl (by kernel_rfl) (by kernel_rfl)))
   clear hG hcl hdep hfr hK hLi
   go_simp
   exact HK.out
  | 14, ho =>
   obtain rfl := gdO14 ho
   rw [if_pos (gdT14 (hG.val 13 13 16 _ rfl (hdep ⟨13, .guard⟩ (by simp) rfl)))]
   have HK := Lib.hid (hK (.pointer (some ⟨b, 1, none⟩)) w (hG.quiet 14 14 17 _ rfl (by kernel_rfl) (by kernel_rfl)))
   clear hx hc hv c0 c1 c2 c3 c4 c5 c6 c7
   clear hG hcl hdep hfr hK hLi
   go_simp
   exact HK.out
  | 15, ho =>
   obtain rfl := gdO15 ho
   have x17 := gdX (hG.val 14 14 17 _ rfl (hdep ⟨14, .data⟩ (by simp) rfl))
   rw [if_pos (gdT15 (hG.val 13 13 16 _ rfl (hdep ⟨13, .guard⟩ (by simp) rfl)))]
   obtain ⟨ph, hSp, hdone⟩ := hG.any
   have HK := Lib.hid (hK (.int .i64 m) w (hG.quiet 15 15 18 _ rfl (by kernel_rfl) (by kernel_rfl)))
   generalize (resOf gd7C fun t => a.eval (.tmp t)) = R at *
   obtain ⟨q0, q1, q2, q3, q4, q5, q6⟩ := hx _ _ _ hSp
   clear hx hc hv c0 c1 c2 c3 c4 c5 c6 c7 q0 q2 q3 q4 q5 q6
   clear hSp hdone
   clear hG hcl hdep hfr hK hLi
   go_simp
   exact HK.out
  | 16, ho =>
   obtain rfl := gdO16 ho
   have x18 := gdX (hG.val 15 15 18 _ rfl (hdep ⟨15, .data⟩ (by simp) rfl))
   rw [if_pos (gdT16 (hG.val 13 13 16 _ rfl (hdep ⟨13, .guard⟩ (by simp) rfl)))]
   have HK := Lib.hid (hK (.bool true) w (hG.quiet 16 16 19 _ rfl (by kernel_rfl) (by kernel_rfl)))
   clear hx hc hv c0 c1 c2 c4 c5 c6 c7
   clear hG hcl hdep hfr hK hLi
   go_simp
   exact HK.out
  | 17, ho =>
   obtain rfl := gdO17 ho
   have x16 := gdX (hG.val 13 13 16 _ rfl (hdep ⟨13, .data⟩ (by simp) rfl))
   have x19 := gdX (hG.val 16 16 19 _ rfl (hdep ⟨16, .data⟩ (by simp) rfl))
   rw [if_pos (show Region.wanted _ _ = true from rfl)]
   have HK := Lib.hid (hK (.bool true) w (hG.quiet 17 17 20 _ rfl (by kernel_rfl) (by kernel_rfl)))
   clear hG hcl hdep hfr hK hLi
   go_simp
   exact HK.out
  | 18, ho =>
   obtain rfl := gdO18 ho
   have x20 := gdX (hG.val 17 17 20 _ rfl (hdep ⟨17, .data⟩ (by simp) rfl))
   rw [if_pos (show Region.wanted _ _ = true from rfl)]
   have HK := Lib.hid (hK (.bool true) w (hG.quiet 18 18 21 _ rfl (by kernel_rfl) (by kernel_rfl)))
   clear hG hcl hdep hfr hK hLi
   go_simp
   exact HK.out
  | 19, ho =>
   obtain rfl := gdO19 ho
   rw [if_pos (gdT19 (hG.val 18 18 21 _ rfl (hdep ⟨18, .guard⟩ (by simp) rfl)))]
   have HK := Lib.hid (hK (.pointer (some ⟨b, 2, none⟩)) w (hG.quiet 19 19 22 _ rfl (by kernel_rfl) (by kernel_rfl)))
   clear hx hc hv c0 c1 c2 c3 c4 c5 c6 c7
   clear hG hcl hdep hfr hK hLi
   go_simp
   exact HK.out
  | 20, ho =>
   obtain rfl := gdO20 ho
   have x22 := gdX (hG.val 19 19 22 _ rfl (hdep ⟨19, .data⟩ (by simp) rfl))
   rw [if_pos (gdT20 (hG.val 18 18 21 _ rfl (hdep ⟨18, .guard⟩ (by simp) rfl)))]
   obtain ⟨ph, hSp, hdone⟩ := hG.any
   have HK := Lib.hid (hK (.int .i64 k) w (hG.quiet 20 20 23 _ rfl (by kernel_rfl) (by kernel_rfl)))
   generalize (resOf gd7C fun t => a.eval (.tmp t)) = R at *
   obtain ⟨q0, q1, q2, q3, q4, q5, q6⟩ := hx _ _ _ hSp
   clear hx hc hv c0 c1 c2 c3 c4 c5 c6 c7 q0 q1 q3 q4 q5 q6
   clear hSp hdone
   clear hG hcl hdep hfr hK hLi
   go_simp
   exact HK.out
  | 21, ho =>
   obtain rfl := gdO21 ho
   have x23 := gdX (hG.val 20 20 23 _ rfl (hdep ⟨20, .data⟩ (by simp) rfl))
   rw [if_pos (gdT21 (hG.val 18 18 21 _ rfl (hdep ⟨18, .guard⟩ (by simp) rfl)))]
   have HK := Lib.hid (hK (.bool true) w (hG.quiet 21 21 24 _ rfl (by kernel_rfl) (by kernel_rfl)))
   clear hx hc hv c0 c1 c2 c3 c5 c6 c7
   clear hG hcl hdep hfr hK hLi
   go_simp
   exact HK.out
  | 22, ho =>
   obtain rfl := gdO22 ho
   have x21 := gdX (hG.val 18 18 21 _ rfl (hdep ⟨18, .data⟩ (by simp) rfl))
   have x24 := gdX (hG.val 21 21 24 _ rfl (hdep ⟨21, .data⟩ (by simp) rfl))
   rw [if_pos (show Region.wanted _ _ = true from rfl)]
   have HK := Lib.hid (hK (.bool true) w (hG.quiet 22 22 25 _ rfl (by kernel_rfl) (by kernel_rfl)))
   clear hG hcl hdep hfr hK hLi
   go_simp
   exact HK.out
  | 23, ho =>
   obtain rfl := gdO23 ho
   have x25 := gdX (hG.val 22 22 25 _ rfl (hdep ⟨22, .data⟩ (by simp) rfl))
   rw [if_pos (show Region.wanted _ _ = true from rfl)]
   have HK := Lib.hid (hK (.bool true) w (hG.quiet 23 23 26 _ rfl (by kernel_rfl) (by kernel_rfl)))
   clear hG hcl hdep hfr hK hLi
   go_simp
   exact HK.out
  | 24, ho =>
   obtain rfl := gdO24 ho
   rw [if_pos (gdT24 (hG.val 23 23 26 _ rfl (hdep ⟨23, .guard⟩ (by simp) rfl)))]
   have HK := Lib.hid (hK (.pointer (some ⟨b, 2, none⟩)) w (hG.quiet 24 24 27 _ rfl (by kernel_rfl) (by kernel_rfl)))
   clear hx hc hv c0 c1 c2 c3 c4 c5 c6 c7
   clear hG hcl hdep hfr hK hLi
   go_simp
   exact HK.out
  | 25, ho =>
   obtain rfl := gdO25 ho
   have x27 := gdX (hG.val 24 24 27 _ rfl (hdep ⟨24, .data⟩ (by simp) rfl))
   rw [if_pos (gdT25 (hG.val 23 23 26 _ rfl (hdep ⟨23, .guard⟩ (by simp) rfl)))]
   obtain ⟨ph, hSp, hdone⟩ := hG.any
   have HK := Lib.hid (hK (.int .i64 k) w (hG.quiet 25 25 28 _ rfl (by kernel_rfl) (by kernel_rfl)))
   generalize (resOf gd7C fun t => a.eval (.tmp t)) = R at *
   obtain ⟨q0, q1, q2, q3, q4, q5, q6⟩ := hx _ _ _ hSp
   clear hx hc hv c0 c1 c2 c3 c4 c5 c6 c7 q0 q1 q3 q4 q5 q6
   clear hSp hdone
   clear hG hcl hdep hfr hK hLi
   go_simp
   exact HK.out
  | 26, ho =>
   obtain rfl := gdO26 ho
   rw [if_pos (gdT26 (hG.val 23 23 26 _ rfl (hdep ⟨23, .guard⟩ (by simp) rfl)))]
   have HK := Lib.hid (hK (.pointer (some ⟨b, 0, none⟩)) w (hG.quiet 26 26 29 _ rfl (by kernel_rfl) (by kernel_rfl)))
   clear hx hc hv c0 c1 c2 c3 c4 c5 c6 c7
   clear hG hcl hdep hfr hK hLi
   go_simp
   exact HK.out
  | 27, ho =>
   obtain rfl := gdO27 ho
   have x29 := gdX (hG.val 26 26 29 _ rfl (hdep ⟨26, .data⟩ (by simp) rfl))
   rw [if_pos (gdT27 (hG.val 23 23 26 _ rfl (hdep ⟨23, .guard⟩ (by simp) rfl)))]
   obtain ⟨ph, hSp, hdone⟩ := hG.any
   have HK := Lib.hid (hK (.int .i64 y) w (hG.quiet 27 27 30 _ rfl (by kernel_rfl) (by kernel_rfl)))
   generalize (resOf gd7C fun t => a.eval (.tmp t)) = R at *
   obtain ⟨q0, q1, q2, q3, q4, q5, q6⟩ := hx _ _ _ hSp
   clear hx hc hv c0 c1 c2 c3 c4 c5 c6 c7 q1 q2 q3 q4 q5 q6
   clear hSp hdone
   clear hG hcl hdep hfr hK hLi
   go_simp
   exact HK.out
  | 28, ho =>
   obtain rfl := gdO28 ho
   rw [if_pos (gdT28 (hG.val 23 23 26 _ rfl (hdep ⟨23, .guard⟩ (by simp) rfl)))]
   have HK := Lib.hid (hK (.pointer (some ⟨b, 1, none⟩)) w (hG.quiet 28 28 31 _ rfl (by kernel_rfl) (by kernel_rfl)))
   clear hx hc hv c0 c1 c2 c3 c4 c5 c6 c7
   clear hG hcl hdep hfr hK hLi
   go_simp
   exact HK.out
  | 29, ho =>
   obtain rfl := gdO29 ho
   have x31 := gdX (hG.val 28 28 31 _ rfl (hdep ⟨28, .data⟩ (by simp) rfl))
   rw [if_pos (gdT29 (hG.val 23 23 26 _ rfl (hdep ⟨23, .guard⟩ (by simp) rfl)))]
   obtain ⟨ph, hSp, hdone⟩ := hG.any
   have HK := Lib.hid (hK (.int .i64 m) w (hG.quiet 29 29 32 _ rfl (by kernel_rfl) (by kernel_rfl)))
   generalize (resOf gd7C fun t => a.eval (.tmp t)) = R at *
   obtain ⟨q0, q1, q2, q3, q4, q5, q6⟩ := hx _ _ _ hSp
   clear hx hc hv c0 c1 c2 c3 c4 c5 c6 c7 q0 q2 q3 q4 q5 q6
   clear hSp hdone
   clear hG hcl hdep hfr hK hLi
   go_simp
   exact HK.out
  | 30, ho =>
   obtain rfl := gdO30 ho
   have x30 := gdX (hG.val 27 27 30 _ rfl (hdep ⟨27, .data⟩ (by simp) rfl))
   have x32 := gdX (hG.val 29 29 32 _ rfl (hdep ⟨29, .data⟩ (by simp) rfl))
   rw [if_pos (gdT30 (hG.val 23 23 26 _ rfl (hdep ⟨23, .chain⟩ (by simp) rfl)))]
   have hSj := hG.at 0 (30, 33) rfl hLi (fun c h0 hc => absurd h0 (by decide))
   have hfin := fun v w' hs => hK v w' (hG.call 0 (30, 33) rfl hLi (fun c h0 hc => absurd h0 (by decide)) (by kernel_rfl) v w' hs)
   have HK := Lib.hid hfin
   generalize (resOf gd7C fun t => a.eval (.tmp t)) = R at *
   clear hG hcl hdep hfr hK hfin hLi
   have hcc := Lib.hid (hc _ _ hSj)
   clear hSj hx hc hv c0 c1 c2 c3 c4 c5 c6 c7
   go_simp
   go_at_call 37
   refine hcc.out.mono ?_
   rintro e w' ⟨v, rfl, hs⟩
   exact HK.out v w' hs
  | 31, ho =>
   obtain rfl := gdO31 ho
   have x28 := gdX (hG.val 25 25 28 _ rfl (hdep ⟨25, .data⟩ (by simp) rfl))
   rw [if_pos (gdT31 (hG.val 23 23 26 _ rfl (hdep ⟨23, .guard⟩ (by simp) rfl)))]
   obtain ⟨ph, hSp, hdone⟩ := hG.any
   have hd33 : 0 < ph := hdone 0 (30, 33) rfl (hdep ⟨30, .data⟩ (by simp) rfl)
   have r33 : a.tmps[33]?.getD undef = resOf gd7C (fun t => a.eval (.tmp t)) 0 := by rw [← ev]; exact (resOf_at (C := gd7C) (j := 0) rfl a).symm
   have HK := Lib.hid (hK (.bool true) w (hG.quiet 30 31 34 _ rfl (by kernel_rfl) (by kernel_rfl)))
   generalize (resOf gd7C fun t => a.eval (.tmp t)) = R at *
   rw [hv _ _ _ hSp hd33] at r33
   clear hd33
   clear hx hc hv c0 c1 c2 c3 c4 c6 c7
   clear hSp hdone
   clear hG hcl hdep hfr hK hLi
   go_simp
   exact HK.out
  | 32, ho =>
   obtain rfl := gdO32 ho
   have x26 := gdX (hG.val 23 23 26 _ rfl (hdep ⟨23, .data⟩ (by simp) rfl))
   have x34 := gdX (hG.val 30 31 34 _ rfl (hdep ⟨31, .data⟩ (by simp) rfl))
   rw [if_pos (show Region.wanted _ _ = true from rfl)]
   have HK := Lib.hid (hK (.bool true) w (hG.quiet 31 32 35 _ rfl (by kernel_rfl) (by kernel_rfl)))
   clear hG hcl hdep hfr hK hLi
   go_simp
   exact HK.out
  | 33, ho =>
   obtain rfl := gdO33 ho
   have x35 := gdX (hG.val 31 32 35 _ rfl (hdep ⟨32, .data⟩ (by simp) rfl))
   rw [if_pos (show Region.wanted _ _ = true from rfl)]
   have HK := Lib.hid (hK (.bool true) w (hG.quiet 32 33 36 _ rfl (by kernel_rfl) (by kernel_rfl)))
   clear hG hcl hdep hfr hK hLi
   go_simp
   exact HK.out
  | 34, ho =>
   obtain rfl := gdO34 ho
   rw [if_pos (gdT34 (hG.val 32 33 36 _ rfl (hdep ⟨33, .guard⟩ (by simp) rfl)))]
   have HK := Lib.hid (hK (.pointer (some ⟨b, 3, none⟩)) w (hG.quiet 33 34 37 _ rfl (by kernel_rfl) (by kernel_rfl)))
   clear hx hc hv c0 c1 c2 c3 c4 c5 c6 c7
   clear hG hcl hdep hfr hK hLi
   go_simp
   exact HK.out
  | 35, ho =>
   obtain rfl := gdO35 ho
   have x37 := gdX (hG.val 33 34 37 _ rfl (hdep ⟨34, .data⟩ (by simp) rfl))
   rw [if_pos (gdT35 (hG.val 32 33 36 _ rfl (hdep ⟨33, .guard⟩ (by simp) rfl)))]
   obtain ⟨ph, hSp, hdone⟩ := hG.any
   have HK := Lib.hid (hK (.int .i64 hh) w (hG.quiet 34 35 38 _ rfl (by kernel_rfl) (by kernel_rfl)))
   generalize (resOf gd7C fun t => a.eval (.tmp t)) = R at *
   obtain ⟨q0, q1, q2, q3, q4, q5, q6⟩ := hx _ _ _ hSp
   clear hx hc hv c0 c1 c2 c3 c4 c5 c6 c7 q0 q1 q2 q4 q5 q6
   clear hSp hdone
   clear hG hcl hdep hfr hK hLi
   go_simp
   exact HK.out
  | 36, ho =>
   obtain rfl := gdO36 ho
   have x38 := gdX (hG.val 34 35 38 _ rfl (hdep ⟨35, .data⟩ (by simp) rfl))
   rw [if_pos (gdT36 (hG.val 32 33 36 _ rfl (hdep ⟨33, .guard⟩ (by simp) rfl)))]
   have HK := Lib.hid (hK (.bool true) w (hG.quiet 35 36 39 _ rfl (by kernel_rfl) (by kernel_rfl)))
   clear hx hc hv c0 c1 c2 c3 c4 c5 c7
   clear hG hcl hdep hfr hK hLi
   go_simp
   exact HK.out
  | 37, ho =>
   obtain rfl := gdO37 ho
   have x36 := gdX (hG.val 32 33 36 _ rfl (hdep ⟨33, .data⟩ (by simp) rfl))
   have x39 := gdX (hG.val 35 36 39 _ rfl (hdep ⟨36, .data⟩ (by simp) rfl))
   rw [if_pos (show Region.wanted _ _ = true from rfl)]
   have HK := Lib.hid (hK (.bool true) w (hG.quiet 36 37 40 _ rfl (by kernel_rfl) (by kernel_rfl)))
   clear hG hcl hdep hfr hK hLi
   go_simp
   exact HK.out
  | 38, ho =>
   obtain rfl := gdO38 ho
   have x40 := gdX (hG.val 36 37 40 _ rfl (hdep ⟨37, .data⟩ (by simp) rfl))
   rw [if_pos (show Region.wanted _ _ = true from rfl)]
   have HK := Lib.hid (hK (.bool true) w (hG.quiet 37 38 41 _ rfl (by kernel_rfl) (by kernel_rfl)))
   clear hG hcl hdep hfr hK hLi
   go_simp
   exact HK.out
  | 39, ho =>
   obtain rfl := gdO39 ho
   rw [if_pos (gdT39 (hG.val 37 38 41 _ rfl (hdep ⟨38, .guard⟩ (by simp) rfl)))]
   have HK := Lib.hid (hK (.pointer (some ⟨b, 3, none⟩)) w (hG.quiet 38 39 42 _ rfl (by kernel_rfl) (by kernel_rfl)))
   clear hx hc hv c0 c1 c2 c3 c4 c5 c6 c7
   clear hG hcl hdep hfr hK hLi
   go_simp
   exact HK.out
  | 40, ho =>
   obtain rfl := gdO40 ho
   have x42 := gdX (hG.val 38 39 42 _ rfl (hdep ⟨39, .data⟩ (by simp) rfl))
   rw [if_pos (gdT40 (hG.val 37 38 41 _ rfl (hdep ⟨38, .guard⟩ (by simp) rfl)))]
   obtain ⟨ph, hSp, hdone⟩ := hG.any
   have HK := Lib.hid (hK (.int .i64 hh) w (hG.quiet 39 40 43 _ rfl (by kernel_rfl) (by kernel_rfl)))
   generalize (resOf gd7C fun t => a.eval (.tmp t)) = R at *
   obtain ⟨q0, q1, q2, q3, q4, q5, q6⟩ := hx _ _ _ hSp
   clear hx hc hv c0 c1 c2 c3 c4 c5 c6 c7 q0 q1 q2 q4 q5 q6
   clear hSp hdone
   clear hG hcl hdep hfr hK hLi
   go_simp
   exact HK.out
  | 41, ho =>
   obtain rfl := gdO41 ho
   have x43 := gdX (hG.val 39 40 43 _ rfl (hdep ⟨40, .data⟩ (by simp) rfl))
   rw [if_pos (gdT41 (hG.val 37 38 41 _ rfl (hdep ⟨38, .guard⟩ (by simp) rfl)))]
   have HK := Lib.hid (hK (.bool false) w (hG.quiet 40 41 44 _ rfl (by kernel_rfl) (by kernel_rfl)))
   clear hx hc hv c0 c1 c2 c3 c4 c5 c6
   clear hG hcl hdep hfr hK hLi
   go_simp
   exact HK.out
  | 42, ho =>
   obtain rfl := gdO42 ho
   have x41 := gdX (hG.val 37 38 41 _ rfl (hdep ⟨38, .data⟩ (by simp) rfl))
   have x44 := gdX (hG.val 40 41 44 _ rfl (hdep ⟨41, .data⟩ (by simp) rfl))
   rw [if_pos (show Region.wanted _ _ = true from rfl)]
   have HK := Lib.hid (hK (.bool false) w (hG.quiet 41 42 45 _ rfl (by kernel_rfl) (by kernel_rfl)))
   clear hG hcl hdep hfr hK hLi
   go_simp
   exact HK.out
  | 43, ho =>
   obtain rfl := gdO43 ho
   have x45 := gdX (hG.val 41 42 45 _ rfl (hdep ⟨42, .data⟩ (by simp) rfl))
   rw [if_pos (show Region.wanted _ _ = true from rfl)]
   have HK := Lib.hid (hK (.bool false) w (hG.quiet 42 43 46 _ rfl (by kernel_rfl) (by kernel_rfl)))
   clear hG hcl hdep hfr hK hLi
   go_simp
   exact HK.out
  | 44, ho =>
   obtain rfl := gdO44 ho
   rw [if_neg (gdF44 (hG.val 42 43 46 _ rfl (hdep ⟨43, .guard⟩ (by simp) rfl)))]
   have HK := Lib.hid (hK (undef) w (hG.quiet 43 44 47 _ rfl (by kernel_rfl) (by kernel_rfl)))
   clear hG hcl hdep hfr hK hLi
   exact HK.out
  | 45, ho =>
   obtain rfl := gdO45 ho
   have x47 := gdX (hG.val 43 44 47 _ rfl (hdep ⟨44, .data⟩ (by simp) rfl))
   rw [if_neg (gdF45 (hG.val 42 43 46 _ rfl (hdep ⟨43, .guard⟩ (by simp) rfl)))]
   have HK := Lib.hid (hK (undef) w (hG.quiet 44 45 48 _ rfl (by kernel_rfl) (by kernel_rfl)))
   clear hG hcl hdep hfr hK hLi
   exact HK.out
  | 46, ho =>
   obtain rfl := gdO46 ho
   have x48 := gdX (hG.val 44 45 48 _ rfl (hdep ⟨45, .data⟩ (by simp) rfl))
   rw [if_neg (gdF46 (hG.val 42 43 46 _ rfl (hdep ⟨43, .guard⟩ (by simp) rfl)))]
   have HK := Lib.hid (hK (undef) w (hG.quiet 45 46 49 _ rfl (by kernel_rfl) (by kernel_rfl)))
   clear hG hcl hdep hfr hK hLi
   exact HK.out
  | 47, ho =>
   obtain rfl := gdO47 ho
   have x46 := gdX (hG.val 42 43 46 _ rfl (hdep ⟨43, .data⟩ (by simp) rfl))
   have x49 := gdX (hG.val 45 46 49 _ rfl (hdep ⟨46, .data⟩ (by simp) rfl))
   rw [if_pos (show Region.wanted _ _ = true from rfl)]
   have HK := Lib.hid (hK (.bool false) w (hG.quiet 46 47 50 _ rfl (by kernel_rfl) (by kernel_rfl)))
   clear hG hcl hdep hfr hK hLi
   go_simp
   exact HK.out
  | 48, ho =>
   obtain rfl := gdO48 ho
   have x50 := gdX (hG.val 46 47 50 _ rfl (hdep ⟨47, .data⟩ (by simp) rfl))
   rw [if_pos (show Region.wanted _ _ = true from rfl)]
   have HK := Lib.hid (hK (.bool false) w (hG.quiet 47 48 51 _ rfl (by kernel_rfl) (by kernel_rfl)))
   clear hG hcl hdep hfr hK hLi
   go_simp
   exact HK.out
  | 49, ho =>
   obtain rfl := gdO49 ho
   rw [if_neg (gdF49 (hG.val 47 48 51 _ rfl (hdep ⟨48, .guard⟩ (by simp) rfl)))]
   have HK := Lib.hid (hK (undef) w (hG.quiet 48 49 52 _ rfl (by kernel_rfl) (by kernel_rfl)))
   clear hG hcl hdep hfr hK hLi
   exact HK.out
  | 50, ho =>
   obtain rfl := gdO50 ho
   have x52 := gdX (hG.val 48 49 52 _ rfl (hdep ⟨49, .data⟩ (by simp) rfl))
   rw [if_neg (gdF50 (hG.val 47 48 51 _ rfl (hdep ⟨48, .guard⟩ (by simp) rfl)))]
   have HK := Lib.hid (hK (undef) w (hG.quiet 49 50 53 _ rfl (by kernel_rfl) (by kernel_rfl)))
   clear hG hcl hdep hfr hK hLi
   exact HK.out
  | 51, ho =>
   obtain rfl := gdO51 ho
   have x53 := gdX (hG.val 49 50 53 _ rfl (hdep ⟨50, .data⟩ (by simp) rfl))
   rw [if_neg (gdF51 (hG.val 47 48 51 _ rfl (hdep ⟨48, .guard⟩ (by simp) rfl)))]
   have HK := Lib.hid (hK (undef) w (hG.quiet 50 51 54 _ rfl (by kernel_rfl) (by kernel_rfl)))
   clear hG hcl hdep hfr hK hLi
   exact HK.out
  | 52, ho =>
   obtain rfl := gdO52 ho
   have x51 := gdX (hG.val 47 48 51 _ rfl (hdep ⟨48, .data⟩ (by simp) rfl))
   have x54 := gdX (hG.val 50 51 54 _ rfl (hdep ⟨51, .data⟩ (by simp) rfl))
   rw [if_pos (show Region.wanted _ _ = true from rfl)]
   have HK := Lib.hid (hK (.bool false) w (hG.quiet 51 52 55 _ rfl (by kernel_rfl) (by kernel_rfl)))
   clear hG hcl hdep hfr hK hLi
   go_simp
   exact HK.out
  | 53, ho =>
   obtain rfl := gdO53 ho
   have x55 := gdX (hG.val 51 52 55 _ rfl (hdep ⟨52, .data⟩ (by simp) rfl))
   rw [if_pos (show Region.wanted _ _ = true from rfl)]
   have HK := Lib.hid (hK (.bool false) w (hG.quiet 52 53 56 _ rfl (by kernel_rfl) (by kernel_rfl)))
   clear hG hcl hdep hfr hK hLi
   go_simp
   exact HK.out
  | 54, ho =>
   obtain rfl := gdO54 ho
   rw [if_neg (gdF54 (hG.val 52 53 56 _ rfl (hdep ⟨53, .guard⟩ (by simp) rfl)))]
   have HK := Lib.hid (hK (undef) w (hG.quiet 53 54 57 _ rfl (by kernel_rfl) (by kernel_rfl)))
   clear hG hcl hdep hfr hK hLi
   exact HK.out
  | 55, ho =>
   obtain rfl := gdO55 ho
   have x57 := gdX (hG.val 53 54 57 _ rfl (hdep ⟨54, .data⟩ (by simp) rfl))
   rw [if_neg (gdF55 (hG.val 52 53 56 _ rfl (hdep ⟨53, .guard⟩ (by simp) rfl)))]
   have HK := Lib.hid (hK (undef) w (hG.quiet 54 55 58 _ rfl (by kernel_rfl) (by kernel_rfl)))
   clear hG hcl hdep hfr hK hLi
   exact HK.out
  | 56, ho =>
   obtain rfl := gdO56 ho
   have x58 := gdX (hG.val 54 55 58 _ rfl (hdep ⟨55, .data⟩ (by simp) rfl))
   rw [if_neg (gdF56 (hG.val 52 53 56 _ rfl (hdep ⟨53, .guard⟩ (by simp) rfl)))]
   have HK := Lib.hid (hK (undef) w (hG.quiet 55 56 59 _ rfl (by kernel_rfl) (by kernel_rfl)))
   clear hG hcl hdep hfr hK hLi
   exact HK.out
  | 57, ho =>
   obtain rfl := gdO57 ho
   have x56 := gdX (hG.val 52 53 56 _ rfl (hdep ⟨53, .data⟩ (by simp) rfl))
   have x59 := gdX (hG.val 55 56 59 _ rfl (hdep ⟨56, .data⟩ (by simp) rfl))
   rw [if_pos (show Region.wanted _ _ = true from rfl)]
   have HK := Lib.hid (hK (.bool false) w (hG.quiet 56 57 60 _ rfl (by kernel_rfl) (by kernel_rfl)))
   clear hG hcl hdep hfr hK hLi
   go_simp
   exact HK.out
  | 58, ho =>
   obtain rfl := gdO58 ho
   have x60 := gdX (hG.val 56 57 60 _ rfl (hdep ⟨57, .data⟩ (by simp) rfl))
   rw [if_pos (show Region.wanted _ _ = true from rfl)]
   have HK := Lib.hid (hK (.bool false) w (hG.quiet 57 58 61 _ rfl (by kernel_rfl) (by kernel_rfl)))
   clear hG hcl hdep hfr hK hLi
   go_simp
   exact HK.out
  | 59, ho =>
   obtain rfl := gdO59 ho
   rw [if_neg (gdF59 (hG.val 57 58 61 _ rfl (hdep ⟨58, .guard⟩ (by simp) rfl)))]
   have HK := Lib.hid (hK (undef) w (hG.quiet 58 59 62 _ rfl (by kernel_rfl) (by kernel_rfl)))
   clear hG hcl hdep hfr hK hLi
   exact HK.out
  | 60, ho =>
   obtain rfl := gdO60 ho
   have x62 := gdX (hG.val 58 59 62 _ rfl (hdep ⟨59, .data⟩ (by simp) rfl))
   rw [if_neg (gdF60 (hG.val 57 58 61 _ rfl (hdep ⟨58, .guard⟩ (by simp) rfl)))]
   have HK := Lib.hid (hK (undef) w (hG.quiet 59 60 63 _ rfl (by kernel_rfl) (by kernel_rfl)))
   clear hG hcl hdep hfr hK hLi
   exact HK.out
  | 61, ho =>
   obtain rfl := gdO61 ho
   have x63 := gdX (hG.val 59 60 63 _ rfl (hdep ⟨60, .data⟩ (by simp) rfl))
   rw [if_neg (gdF61 (hG.val 57 58 61 _ rfl (hdep ⟨58, .guard⟩ (by simp) rfl)))]
   have HK := Lib.hid (hK (undef) w (hG.quiet 60 61 64 _ rfl (by kernel_rfl) (by kernel_rfl)))
   clear hG hcl hdep hfr hK hLi
   exact HK.out
  | 62, ho =>
   obtain rfl := gdO62 ho
   have x61 := gdX (hG.val 57 58 61 _ rfl (hdep ⟨58, .data⟩ (by simp) rfl))
   have x64 := gdX (hG.val 60 61 64 _ rfl (hdep ⟨61, .data⟩ (by simp) rfl))
   rw [if_pos (show Region.wanted _ _ = true from rfl)]
   have HK := Lib.hid (hK (.bool false) w (hG.quiet 61 62 65 _ rfl (by kernel_rfl) (by kernel_rfl)))
   clear hG hcl hdep hfr hK hLi
   go_simp
   exact HK.out
  | 63, ho =>
   obtain rfl := gdO63 ho
   have x65 := gdX (hG.val 61 62 65 _ rfl (hdep ⟨62, .data⟩ (by simp) rfl))
   rw [if_pos (show Region.wanted _ _ = true from rfl)]
   have HK := Lib.hid (hK (.bool false) w (hG.quiet 62 63 66 _ rfl (by kernel_rfl) (by kernel_rfl)))
   clear hG hcl hdep hfr hK hLi
   go_simp
   exact HK.out
  | 64, ho =>
   obtain rfl := gdO64 ho
   rw [if_neg (gdF64 (hG.val 62 63 66 _ rfl (hdep ⟨63, .guard⟩ (by simp) rfl)))]
   have HK := Lib.hid (hK (undef) w (hG.quiet 63 64 67 _ rfl (by kernel_rfl) (by kernel_rfl)))
   clear hG hcl hdep hfr hK hLi
   exact HK.out
  | 65, ho =>
   obtain rfl := gdO65 ho
   have x67 := gdX (hG.val 63 64 67 _ rfl (hdep ⟨64, .data⟩ (by simp) rfl))
   rw [if_neg (gdF65 (hG.val 62 63 66 _ rfl (hdep ⟨63, .guard⟩ (by simp) rfl)))]
   have HK := Lib.hid (hK (undef) w (hG.quiet 64 65 68 _ rfl (by kernel_rfl) (by kernel_rfl)))
   clear hG hcl hdep hfr hK hLi
   exact HK.out
  | 66, ho =>
   obtain rfl := gdO66 ho
   have x68 := gdX (hG.val 64 65 68 _ rfl (hdep ⟨65, .data⟩ (by simp) rfl))
   rw [if_neg (gdF66 (hG.val 62 63 66 _ rfl (hdep ⟨63, .guard⟩ (by simp) rfl)))]
   have HK := Lib.hid (hK (undef) w (hG.quiet 65 66 69 _ rfl (by kernel_rfl) (by kernel_rfl)))
   clear hG hcl hdep hfr hK hLi
   exact HK.out
  | 67, ho =>
   obtain rfl := gdO67 ho
   have x66 := gdX (hG.val 62 63 66 _ rfl (hdep ⟨63, .data⟩ (by simp) rfl))
   have x69 := gdX (hG.val 65 66 69 _ rfl (hdep ⟨66, .data⟩ (by simp) rfl))
   rw [if_pos (show Region.wanted _ _ = true from rfl)]
   have HK := Lib.hid (hK (.bool false) w (hG.quiet 66 67 70 _ rfl (by kernel_rfl) (by kernel_rfl)))
   clear hG hcl hdep hfr hK hLi
   go_simp
   exact HK.out
  | 68, ho =>
   obtain rfl := gdO68 ho
   have x70 := gdX (hG.val 66 67 70 _ rfl (hdep ⟨67, .data⟩ (by simp) rfl))
   rw [if_pos (show Region.wanted _ _ = true from rfl)]
   have HK := Lib.hid (hK (.bool false) w (hG.quiet 67 68 71 _ rfl (by kernel_rfl) (by kernel_rfl)))
   clear hG hcl hdep hfr hK hLi
   go_simp
   exact HK.out
  | 69, ho =>
   obtain rfl := gdO69 ho
   rw [if_neg (gdF69 (hG.val 67 68 71 _ rfl (hdep ⟨68, .guard⟩ (by simp) rfl)))]
   have HK := Lib.hid (hK (undef) w (hG.quiet 68 69 72 _ rfl (by kernel_rfl) (by kernel_rfl)))
   clear hG hcl hdep hfr hK hLi
   exact HK.out
  | 70, ho =>
   obtain rfl := gdO70 ho
   have x72 := gdX (hG.val 68 69 72 _ rfl (hdep ⟨69, .data⟩ (by simp) rfl))
   rw [if_neg (gdF70 (hG.val 67 68 71 _ rfl (hdep ⟨68, .guard⟩ (by simp) rfl)))]
   have HK := Lib.hid (hK (undef) w (hG.quiet 69 70 73 _ rfl (by kernel_rfl) (by kernel_rfl)))
   clear hG hcl hdep hfr hK hLi
   exact HK.out
  | 71, ho =>
   obtain rfl := gdO71 ho
   have x73 := gdX (hG.val 69 70 73 _ rfl (hdep ⟨70, .data⟩ (by simp) rfl))
   rw [if_neg (gdF71 (hG.val 67 68 71 _ rfl (hdep ⟨68, .guard⟩ (by simp) rfl)))]
   have HK := Lib.hid (hK (undef) w (hG.quiet 70 71 74 _ rfl (by kernel_rfl) (by kernel_rfl)))
   clear hG hcl hdep hfr hK hLi
   exact HK.out
  | 72, ho =>
   obtain rfl := gdO72 ho
   have x71 := gdX (hG.val 67 68 71 _ rfl (hdep ⟨68, .data⟩ (by simp) rfl))
   have x74 := gdX (hG.val 70 71 74 _ rfl (hdep ⟨71, .data⟩ (by simp) rfl))
   rw [if_pos (show Region.wanted _ _ = true from rfl)]
   have HK := Lib.hid (hK (.bool false) w (hG.quiet 71 72 75 _ rfl (by kernel_rfl) (by kernel_rfl)))
   clear hG hcl hdep hfr hK hLi
   go_simp
   exact HK.out
  | 73, ho =>
   obtain rfl := gdO73 ho
   have x75 := gdX (hG.val 71 72 75 _ rfl (hdep ⟨72, .data⟩ (by simp) rfl))
   rw [if_pos (show Region.wanted _ _ = true from rfl)]
   have HK := Lib.hid (hK (.bool false) w (hG.quiet 72 73 2 _ rfl (by kernel_rfl) (by kernel_rfl)))
   clear hG hcl hdep hfr hK hLi
   go_simp
   exact HK.out
  | n + 74, ho => exact absurd (Array.getElem?_eq_some_iff.1 ho).1 (by show ¬ n + 74 < 74; omega)


def gd8Vals (b : Nat) (y m k hh mi s z d : Int) : List (Nat × Nat × Value) := [(0, 3, .pointer (some ⟨b, 0, none⟩)), (1, 4, .int .i64 y), (2, 5, .bool true), (3, 6, .bool true), (4, 7, .pointer (some ⟨b, 0, none⟩)), (5, 8, .int .i64 y), (6, 9, .bool true), (7, 10, .bool true), (8, 11, .bool true), (9, 12, .pointer (some ⟨b, 1, none⟩)), (10, 13, .int .i64 m), (11, 14, .bool true), (12, 15, .bool true), (13, 16, .bool true), (14, 17, .pointer (some ⟨b, 1, none⟩)), (15, 18, .int .i64 m), (16, 19, .bool true), (17, 20, .bool true), (18, 21, .bool true), (19, 22, .pointer (some ⟨b, 2, none⟩)), (20, 23, .int .i64 k), (21, 24, .bool true), (22, 25, .bool true), (23, 26, .bool true), (24, 27, .pointer (some ⟨b, 2, none⟩)), (25, 28, .int .i64 k), (26, 29, .pointer (some ⟨b, 0, none⟩)), (27, 30, .int .i64 y), (28, 31, .pointer (some ⟨b, 1, none⟩)), (29, 32, .int .i64 m), (31, 34, .bool true), (32, 35, .bool true), (33, 36, .bool true), (34, 37, .pointer (some ⟨b, 3, none⟩)), (35, 38, .int .i64 hh), (36, 39, .bool true), (37, 40, .bool true), (38, 41, .bool true), (39, 42, .pointer (some ⟨b, 3, none⟩)), (40, 43, .int .i64 hh), (41, 44, .bool true), (42, 45, .bool true), (43, 46, .bool true), (44, 47, .pointer (some ⟨b, 4, none⟩)), (45, 48, .int .i64 mi), (46, 49, .bool false), (47, 50, .bool false), (48, 51, .bool false), (49, 52, undef), (50, 53, undef), (51, 54, undef), (52, 55, .bool false), (53, 56, .bool false), (54, 57, undef), (55, 58, undef), (56, 59, undef), (57, 60, .bool false), (58, 61, .bool false), (59, 62, undef), (60, 63, undef), (61, 64, undef), (62, 65, .bool false), (63, 66, .bool false), (64, 67, undef), (65, 68, undef), (66, 69, undef), (67, 70, .bool false), (68, 71, .bool false), (69, 72, undef), (70, 73, undef), (71, 74, undef), (72, 75, .bool false), (73, 2, .bool false)]
def gd8C : List (Nat × Nat) := [(30, 33)]

set_option maxHeartbeats 4000000 in
set_option maxRecDepth 100000 in
theorem gd8 {Q : Exit → Act → World → Prop} {a0 : Act} {wp : World} (b : Nat) (y m k hh mi s z d : Int) (S : Nat → (Nat → Value) → World → Prop)
    (hsz : 75 < a0.tmps.size) (in1 : a0.eval (.tmp 1) = .pointer (some ⟨b, 0, none⟩))
    (hx : ∀ p R w, S p R w → w.cell? ⟨b, 0, none⟩ = some (.int .i64 y) ∧ w.cell? ⟨b, 1, none⟩ = some (.int .i64 m) ∧ w.cell? ⟨b, 2, none⟩ = some (.int .i64 k) ∧ w.cell? ⟨b, 3, none⟩ = some (.int .i64 hh) ∧ w.cell? ⟨b, 4, none⟩ = some (.int .i64 mi) ∧ w.cell? ⟨b, 5, none⟩ = some (.int .i64 s) ∧ w.cell? ⟨b, 6, none⟩ = some (.int .i64 z)) (c0 : decide (1970 ≤ y) = true) (c1 : decide (y ≤ 9999) = true) (c2 : decide (1 ≤ m) = true) (c3 : decide (m ≤ 12) = true) (c4 : decide (1 ≤ k) = true) (c5 : decide (k ≤ d) = true) (c6 : decide (0 ≤ hh) = true) (c7 : decide (hh ≤ 23) = true) (c8 : decide (0 ≤ mi) = false)
    (hc : ∀ R w, S 0 R w → Calls Tryd.prog 37 #[.int .i64 y, .int .i64 m] w fun e w' => ∃ v, e = .returned v ∧ S 1 (setR R 0 v) w')
    (hv : ∀ p R w, S p R w → 0 < p → R 0 = .int .i64 d)
    (hS : S 0 (resOf gd8C fun t => a0.eval (.tmp t)) wp.drew)
    (fin : ∀ a w, Fr [3, 4, 5, 6, 7, 8, 9, 10, 11, 12, 13, 14, 15, 16, 17, 18, 19, 20, 21, 22, 23, 24, 25, 26, 27, 28, 29, 30, 31, 32, 33, 34, 35, 36, 37, 38, 39, 40, 41, 42, 43, 44, 45, 46, 47, 48, 49, 50, 51, 52, 53, 54, 55, 56, 57, 58, 59, 60, 61, 62, 63, 64, 65, 66, 67, 68, 69, 70, 71, 72, 73, 74, 75, 2] a0 a → a.eval (.tmp 2) = .bool false → S 1 (resOf gd8C fun t => a.eval (.tmp t)) w → Q .normal a w) :
    (Code.region 1 opsGd true).wp Tryd.prog Q a0 wp := by
  refine region_inv (by kernel_rfl) [3, 4, 5, 6, 7, 8, 9, 10, 11, 12, 13, 14, 15, 16, 17, 18, 19, 20, 21, 22, 23, 24, 25, 26, 27, 28, 29, 30, 31, 32, 33, 34, 35, 36, 37, 38, 39, 40, 41, 42, 43, 44, 45, 46, 47, 48, 49, 50, 51, 52, 53, 54, 55, 56, 57, 58, 59, 60, 61, 62, 63, 64, 65, 66, 67, 68, 69, 70, 71, 72, 73, 74, 75, 2] (by kernel_rfl) (by kernel_rfl) (fun t ht => by simp at ht; omega) (GV (gd8Vals b y m k hh mi s z d) gd8C S) (.start hS) ?_
    (fun L a w hf hall hG => fin a w hf (hG.val 72 73 2 _ rfl (hall 73 (by decide))) (hG.fin (fun c hc => by simp [gd8C] at hc; subst hc; exact hall _ (by decide))))
  clear hS fin
  intro ix oo ho L a w hfr hG hLi hdep hcl K hK
  have e1 : a.tmps[1]?.getD undef = .pointer (some ⟨b, 0, none⟩) := by rw [← ev]; exact (hfr.same 1 (by decide)).trans in1
  clear in1
  match ix, ho with
  | 0, ho =>
   obtain rfl := gdO0 ho
   rw [if_pos (show Region.wanted _ _ = true from rfl)]
   have HK := Lib.hid (hK (.pointer (some ⟨b, 0, none⟩)) w (hG.quiet 0 0 3 _ rfl (by kernel_rfl) (by kernel_rfl)))
   clear hx hc hv c0 c1 c2 c3 c4 c5 c6 c7 c8
   clear hG hcl hdep hfr hK hLi
   go_simp
   exact HK.out
  | 1, ho =>
   obtain rfl := gdO1 ho
   have x3 := gdX (hG.val 0 0 3 _ rfl (hdep ⟨0, .data⟩ (by simp) rfl))
   rw [if_pos (show Region.wanted _ _ = true from rfl)]
   obtain ⟨ph, hSp, hdone⟩ := hG.any
   have HK := Lib.hid (hK (.int .i64 y) w (hG.quiet 1 1 4 _ rfl (by kernel_rfl) (by kernel_rfl)))
   generalize (resOf gd8C fun t => a.eval (.tmp t)) = R at *
   obtain ⟨q0, q1, q2, q3, q4, q5, q6⟩ := hx _ _ _ hSp
   clear hx hc hv c0 c1 c2 c3 c4 c5 c6 c7 c8 q1 q2 q3 q4 q5 q6
   clear hSp hdone
   clear hG hcl hdep hfr hK hLi
   go_simp
   exact HK.out
  | 2, ho =>
   obtain rfl := gdO2 ho
   have x4 := gdX (hG.val 1 1 4 _ rfl (hdep ⟨1, .data⟩ (by simp) rfl))
   rw [if_pos (show Region.wanted _ _ = true from rfl)]
   have HK := Lib.hid (hK (.bool true) w (hG.quiet 2 2 5 _ rfl (by kernel_rfl) (by kernel_rfl)))
   clear hx hc hv c1 c2 c3 c4 c5 c6 c7 c8
   clear hG hcl hdep hfr hK hLi
   go_simp
   exact HK.out
  | 3, ho =>
   obtain rfl := gdO3 ho
   have x5 := gdX (hG.val 2 2 5 _ rfl (hdep ⟨2, .data⟩ (by simp) rfl))
   rw [if_pos (show Region.wanted _ _ = true from rfl)]
   have HK := Lib.hid (hK (.bool true) w (hG.quiet 3 3 6 _ rfl (by kernel_rfl) (by kernel_rfl)))
   clear hG hcl hdep hfr hK hLi
   go_simp
   exact HK.out
  | 4, ho =>
   obtain rfl := gdO4 ho
   rw [if_pos (gdT4 (hG.val 3 3 6 _ rfl (hdep ⟨3, .guard⟩ (by simp) rfl)))]
   have HK := Lib.hid (hK (.pointer (some ⟨b, 0, none⟩)) w (hG.quiet 4 4 7 _ rfl (by kernel_rfl) (by kernel_rfl)))
   clear hx hc hv c0 c1 c2 c3 c4 c5 c6 c7 c8
   clear hG hcl hdep hfr hK hLi
   go_simp
   exact HK.out
  | 5, ho =>
   obtain rfl := gdO5 ho
   have x7 := gdX (hG.val 4 4 7 _ rfl (hdep ⟨4, .data⟩ (by simp) rfl))
   rw [if_pos (gdT5 (hG.val 3 3 6 _ rfl (hdep ⟨3, .guard⟩ (by simp) rfl)))]
   obtain ⟨ph, hSp, hdone⟩ := hG.any
   have HK := Lib.hid (hK (.int .i64 y) w (hG.quiet 5 5 8 _ rfl (by kernel_rfl) (by kernel_rfl)))
   generalize (resOf gd8C fun t => a.eval (.tmp t)) = R at *
   obtain ⟨q0, q1, q2, q3, q4, q5, q6⟩ := hx _ _ _ hSp
   clear hx hc hv c0 c1 c2 c3 c4 c5 c6 c7 c8 q1 q2 q3 q4 q5 q6
   clear hSp hdone
   clear hG hcl hdep hfr hK hLi
   go_simp
   exact HK.out
  | 6, ho =>
   obtain rfl := gdO6 ho
   have x8 := gdX (hG.val 5 5 8 _ rfl (hdep ⟨5, .data⟩ (by simp) rfl))
   rw [if_pos (gdT6 (hG.val 3 3 6 _ rfl (hdep ⟨3, .guard⟩ (by simp) rfl)))]
   have HK := Lib.hid (hK (.bool true) w (hG.quiet 6 6 9 _ rfl (by kernel_rfl) (by kernel_rfl)))
   clear hx hc hv c0 c2 c3 c4 c5 c6 c7 c8
   clear hG hcl hdep hfr hK hLi
   go_simp
   exact HK.out
  | 7, ho =>
   obtain rfl := gdO7 ho
   have x6 := gdX (hG.val 3 3 6 _ rfl (hdep ⟨3, .data⟩ (by simp) rfl))
   have x9 := gdX (hG.val 6 6 9 _ rfl (hdep ⟨6, .data⟩ (by simp) rfl))
   rw [if_pos (show Region.wanted _ _ = true from rfl)]
   have HK := Lib.hid (hK (.bool true) w (hG.quiet 7 7 10 _ rfl (by kernel_rfl) (by kernel_rfl)))
   clear hG hcl hdep hfr hK hLi
   go_simp
   exact HK.out
  | 8, ho =>
   obtain rfl := gdO8 ho
   have x10 := gdX (hG.val 7 7 10 _ rfl (hdep ⟨7, .data⟩ (by simp) rfl))
   rw [if_pos (show Region.wanted _ _ = true from rfl)]
   have HK := Lib.hid (hK (.bool true) w (hG.quiet 8 8 11 _ rfl (by kernel_rfl) (by kernel_rfl)))
   clear hG hcl hdep hfr hK hLi
   go_simp
   exact HK.out
  | 9, ho =>
   obtain rfl := gdO9 ho
   rw [if_pos (gdT9 (hG.val 8 8 11 _ rfl (hdep ⟨8, .guard⟩ (by simp) rfl)))]
   have HK := Lib.hid (hK (.pointer (some ⟨b, 1, none⟩)) w (hG.quiet 9 9 12 _ rfl (by kernel_rfl) (by kernel_rfl)))
   clear hx hc hv c0 c1 c2 c3 c4 c5 c6 c7 c8
   clear hG hcl hdep hfr hK hLi
   go_simp
   exact HK.out
  | 10, ho =>
   obtain rfl := gdO10 ho
   have x12 := gdX (hG.val 9 9 12 _ rfl (hdep ⟨9, .data⟩ (by simp) rfl))
   rw [if_pos (gdT10 (hG.val 8 8 11 _ rfl (hdep ⟨8, .guard⟩ (by simp) rfl)))]
   obtain ⟨ph, hSp, hdone⟩ := hG.any
   have HK := Lib.hid (hK (.int .i64 m) w (hG.quiet 10 10 13 _ rfl (by kernel_rfl) (by kernel_rfl)))
   generalize (resOf gd8C fun t => a.eval (.tmp t)) = R at *
   obtain ⟨q0, q1, q2, q3, q4, q5, q6⟩ := hx _ _ _ hSp
   clear hx hc hv c0 c1 c2 c3 c4 c5 c6 c7 c8 q0 q2 q3 q4 q5 q6
   clear hSp hdone
   clear hG hcl hdep hfr hK hLi
   go_simp
   exact HK.out
  | 11, ho =>
   obtain rfl := gdO11 ho
   have x13 := gdX (hG.val 10 10 13 _ rfl (hdep ⟨10, .data⟩ (by simp) rfl))
   rw [if_pos (gdT11 (hG.val 8 8 11 _ rfl (hdep ⟨8, .guard⟩ (by simp) rfl)))]
   have HK := Lib.hid (hK (.bool true) w (hG.quiet 11 11 14 _ rfl (by kernel_rfl) (by kernel_rfl)))
   clear hx hc hv c0 c1 c3 c4 c5 c6 c7 c8
   clear hG hcl hdep hfr hK hLi
   go_simp
   exact HK.out
  | 12, ho =>
   obtain rfl := gdO12 ho
   have x11 := gdX (hG.val 8 8 11 _ rfl (hdep ⟨8, .data⟩ (by simp) rfl))
   have x14 := gdX (hG.val 11 11 14 _ rfl (hdep ⟨11, .data⟩ (by simp) rfl))
   rw [if_pos (show Region.wanted _ _ = true from rfl)]
   have HK := Lib.hid (hK (.bool true) w (hG.quiet 12 12 15 _ rfl (by kernel_rfl) (by kernel_rfl)))
   clear hG hcl hdep hfr hK hLi
   go_simp
   exact HK.out
  | 13, ho =>
   obtain rfl := gdO13 ho
   have x15 := gdX (hG.val 12 12 15 _ rfl (hdep ⟨12, .data⟩ (by simp) rfl))
   rw [if_pos (show Region.wanted _ _ = true from rfl)]
   have HK := Lib.hid (hK (.bool true) w (hG.quiet 13 13 16 _ rfl (by kernel_rfl) (by kernel_rfl)))
   clear hG hcl hdep hfr hK hLi
   go_simp
   exact HK.out
  | 14, ho =>
   obtain rfl := gdO14 ho
   rw [if_pos (gdT14 (hG.val 13 13 16 _ rfl (hdep ⟨13, .guard⟩ (by simp) rfl)))]
   have HK := Lib.hid (hK (.pointer (some ⟨b, 1, none⟩)) w (hG.quiet 14 14 17 _ rfl (by kernel_rfl) (by kernel_rfl)))
   clear hx hc hv c0 c1 c2 c3 c4 c5 c6 c7 c8
   clear hG hcl hdep hfr hK hLi
   go_simp
   exact HK.out
  | 15, ho =>
   obtain rfl := gdO15 ho
   have x17 := gdX (hG.val 14 14 17 _ rfl (hdep ⟨14, .data⟩ (by simp) rfl))
   rw [if_pos (gdT15 (hG.val 13 13 16 _ rfl (hdep ⟨13, .guard⟩ (by simp) rfl)))]
   obtain ⟨ph, hSp, hdone⟩ := hG.any
   have HK := Lib.hid (hK (.int .i64 m) w (hG.quiet 15 15 18 _ rfl (by kernel_rfl) (by kernel_rfl)))
   generalize (resOf gd8C fun t => a.eval (.tmp t)) = R at *
   obtain ⟨q0, q1, q2, q3, q4, q5, q6⟩ := hx _ _ _ hSp
   clear hx hc hv c0 c1 c2 c3 c4 c5 c6 c7 c8 q0 q2 q3 q4 q5 q6
   clear hSp hdone
   clear hG hcl hdep hfr hK hLi
   go_simp
   exact HK.out
  | 16, ho =>
   obtain rfl := gdO16 ho
   have x18 := gdX (hG.val 15 15 18 _ rfl (hdep ⟨15, .data⟩ (by simp) rfl))
   rw [if_pos (gdT16 (hG.val 13 13 16 _ rfl (hdep ⟨13, .guard⟩ (by simp) rfl)))]
   have HK := Lib.hid (hK (.bool true) w (hG.quiet 16 16 19 _ rfl (by kernel_rfl) (by kernel_rfl)))
   clear hx hc hv c0 c1 c2 c4 c5 c6 c7 c8
   clear hG hcl hdep hfr hK hLi
   go_simp
   exact HK.out
  | 17, ho =>
   obtain rfl := gdO17 ho
   have x16 := gdX (hG.val 13 13 16 _ rfl (hdep ⟨13, .data⟩ (by simp) rfl))
   have x19 := gdX (hG.val 16 16 19 _ rfl (hdep ⟨16, .data⟩ (by simp) rfl))
   rw [if_pos (show Region.wanted _ _ = true from rfl)]
   have HK := Lib.hid (hK (.bool true) w (hG.quiet 17 17 20 _ rfl (by kernel_rfl) (by kernel_rfl)))
   clear hG hcl hdep hfr hK hLi
   go_simp
   exact HK.out
  | 18, ho =>
   obtain rfl := gdO18 ho
   have x20 := gdX (hG.val 17 17 20 _ rfl (hdep ⟨17, .data⟩ (by simp) rfl))
   rw [if_pos (show Region.wanted _ _ = true from rfl)]
   have HK := Lib.hid (hK (.bool true) w (hG.quiet 18 18 21 _ rfl (by kernel_rfl) (by kernel_rfl)))
   clear hG hcl hdep hfr hK hLi
   go_simp
   exact HK.out
  | 19, ho =>
   obtain rfl := gdO19 ho
   rw [if_pos (gdT19 (hG.val 18 18 21 _ rfl (hdep ⟨18, .guard⟩ (by simp) rfl)))]
   have HK := Lib.hid (hK (.pointer (some ⟨b, 2, none⟩)) w (hG.quiet 19 19 22 _ rfl (by kernel_rfl) (by kernel_rfl)))
   clear hx hc hv c0 c1 c2 c3 c4 c5 c6 c7 c8
   clear hG hcl hdep hfr hK hLi
   go_simp
   exact HK.out
  | 20, ho =>
   obtain rfl := gdO20 ho
   have x22 := gdX (hG.val 19 19 22 _ rfl (hdep ⟨19, .data⟩ (by simp) rfl))
   rw [if_pos (gdT20 (hG.val 18 18 21 _ rfl (hdep ⟨18, .guard⟩ (by simp) rfl)))]
   obtain ⟨ph, hSp, hdone⟩ := hG.any
   have HK := Lib.hid (hK (.int .i64 k) w (hG.quiet 20 20 23 _ rfl (by kernel_rfl) (by kernel_rfl)))
   generalize (resOf gd8C fun t => a.eval (.tmp t)) = R at *
   obtain ⟨q0, q1, q2, q3, q4, q5, q6⟩ := hx _ _ _ hSp
   clear hx hc hv c0 c1 c2 c3 c4 c5 c6 c7 c8 q0 q1 q3 q4 q5 q6
   clear hSp hdone
   clear hG hcl hdep hfr hK hLi
   go_simp
   exact HK.out
  | 21, ho =>
   obtain rfl := gdO21 ho
   have x23 := gdX (hG.val 20 20 23 _ rfl (hdep ⟨20, .data⟩ (by simp) rfl))
   rw [if_pos (gdT21 (hG.val 18 18 21 _ rfl (hdep ⟨18, .guard⟩ (by simp) rfl)))]
   have HK := Lib.hid (hK (.bool true) w (hG.quiet 21 21 24 _ rfl (by kernel_rfl) (by kernel_rfl)))
   clear hx hc hv c0 c1 c2 c3 c5 c6 c7 c8
   clear hG hcl hdep hfr hK hLi
   go_simp
   exact HK.out
  | 22, ho =>
   obtain rfl := gdO22 ho
   have x21 := gdX (hG.val 18 18 21 _ rfl (hdep ⟨18, .data⟩ (by simp) rfl))
   have x24 := gdX (hG.val 21 21 24 _ rfl (hdep ⟨21, .data⟩ (by simp) rfl))
   rw [if_pos (show Region.wanted _ _ = true from rfl)]
   have HK := Lib.hid (hK (.bool true) w (hG.quiet 22 22 25 _ rfl (by kernel_rfl) (by kernel_rfl)))
   clear hG hcl hdep hfr hK hLi
   go_simp
   exact HK.out
  | 23, ho =>
   obtain rfl := gdO23 ho
   have x25 := gdX (hG.val 22 22 25 _ rfl (hdep ⟨22, .data⟩ (by simp) rfl))
   rw [if_pos (show Region.wanted _ _ = true from rfl)]
   have HK := Lib.hid (hK (.bool true) w (hG.quiet 23 23 26 _ rfl (by kernel_rfl) (by kernel_rfl)))
   clear hG hcl hdep hfr hK hLi
   go_simp
   exact HK.out
  | 24, ho =>
   obtain rfl := gdO24 ho
   rw [if_pos (gdT24 (hG.val 23 23 26 _ rfl (hdep ⟨23, .guard⟩ (by simp) rfl)))]
   have HK := Lib.hid (hK (.pointer (some ⟨b, 2, none⟩)) w (hG.quiet 24 24 27 _ rfl (by kernel_rfl) (by kernel_rfl)))
   clear hx hc hv c0 c1 c2 c3 c4 c5 c6 c7 c8
   clear hG hcl hdep hfr hK hLi
   go_simp
   exact HK.out
  | 25, ho =>
   obtain rfl := gdO25 ho
   have x27 := gdX (hG.val 24 24 27 _ rfl (hdep ⟨24, .data⟩ (by simp) rfl))
   rw [if_pos (gdT25 (hG.val 23 23 26 _ rfl (hdep ⟨23, .guard⟩ (by simp) rfl)))]
   obtain ⟨ph, hSp, hdone⟩ := hG.any
   have HK := Lib.hid (hK (.int .i64 k) w (hG.quiet 25 25 28 _ rfl (by kernel_rfl) (by kernel_rfl)))
   generalize (resOf gd8C fun t => a.eval (.tmp t)) = R at *
   obtain ⟨q0, q1, q2, q3, q4, q5, q6⟩ := hx _ _ _ hSp
   clear hx hc hv c0 c1 c2 c3 c4 c5 c6 c7 c8 q0 q1 q3 q4 q5 q6
   clear hSp hdone
   clear hG hcl hdep hfr hK hLi
   go_simp
   exact HK.out
  | 26, ho =>
   obtain rfl := gdO26 ho
   rw [if_pos (gdT26 (hG.val 23 23 26 _ rfl (hdep ⟨23, .guard⟩ (by simp) rfl)))]
   have HK := Lib.hid (hK (.pointer (some ⟨b, 0, none⟩)) w (hG.quiet 26 26 29 _ rfl (by kernel_rfl) (by kernel_rfl)))
   clear hx hc hv c0 c1 c2 c3 c4 c5 c6 c7 c8
   clear hG hcl hdep hfr hK hLi
   go_simp
   exact HK.out
  | 27, ho =>
   obtain rfl := gdO27 ho
   have x29 := gdX (hG.val 26 26 29 _ rfl (hdep ⟨26, .data⟩ (by simp) rfl))
   rw [if_pos (gdT27 (hG.val 23 23 26 _ rfl (hdep ⟨23, .guard⟩ (by simp) rfl)))]
   obtain ⟨ph, hSp, hdone⟩ := hG.any
   have HK := Lib.hid (hK (.int .i64 y) w (hG.quiet 27 27 30 _ rfl (by kernel_rfl) (by kernel_rfl)))
   generalize (resOf gd8C fun t => a.eval (.tmp t)) = R at *
   obtain ⟨q0, q1, q2, q3, q4, q5, q6⟩ := hx _ _ _ hSp
   clear hx hc hv c0 c1 c2 c3 c4 c5 c6 c7 c8 q1 q2 q3 q4 q5 q6
   clear hSp hdone
   clear hG hcl hdep hfr hK hLi
   go_simp
   exact HK.out
  | 28, ho =>
   obtain rfl := gdO28 ho
   rw [if_pos (gdT28 (hG.val 23 23 26 _ rfl (hdep ⟨23, .guard⟩ (by simp) rfl)))]
   have HK := Lib.hid (hK (.pointer (some ⟨b, 1, none⟩)) w (hG.quiet 28 28 31 _ rfl (by kernel_rfl) (by kernel_rfl)))
   clear hx hc hv c0 c1 c2 c3 c4 c5 c6 c7 c8
   clear hG hcl hdep hfr hK hLi
   go_simp
   exact HK.out
  | 29, ho =>
   obtain rfl := gdO29 ho
   have x31 := gdX (hG.val 28 28 31 _ rfl (hdep ⟨28, .data⟩ (by simp) rfl))
   rw [if_pos (gdT29 (hG.val 23 23 26 _ rfl (hdep ⟨23, .guard⟩ (by simp) rfl)))]
   obtain ⟨ph, hSp, hdone⟩ := hG.any
   have HK := Lib.hid (hK (.int .i64 m) w (hG.quiet 29 29 32 _ rfl (by kernel_rfl) (by kernel_rfl)))
   generalize (resOf gd8C fun t => a.eval (.tmp t)) = R at *
   obtain ⟨q0, q1, q2, q3, q4, q5, q6⟩ := hx _ _ _ hSp
   clear hx hc hv c0 c1 c2 c3 c4 c5 c6 c7 c8 q0 q2 q3 q4 q5 q6
   clear hSp hdone
   clear hG hcl hdep hfr hK hLi
   go_simp
   exact HK.out
  | 30, ho =>
   obtain rfl := gdO30 ho
   have x30 := gdX (hG.val 27 27 30 _ rfl (hdep ⟨27, .data⟩ (by simp) rfl))
   have x32 := gdX (hG.val 29 29 32 _ rfl (hdep ⟨29, .data⟩ (by simp) rfl))
   rw [if_pos (gdT30 (hG.val 23 23 26 _ rfl (hdep ⟨23, .chain⟩ (by simp) rfl)))]
   have hSj := hG.at 0 (30, 33) rfl hLi (fun c h0 hc => absurd h0 (by decide))
   have hfin := fun v w' hs => hK v w' (hG.call 0 (30, 33) rfl hLi (fun c h0 hc => absurd h0 (by decide)) (by kernel_rfl) v w' hs)
   have HK := Lib.hid hfin
   generalize (resOf gd8C fun t => a.eval (.tmp t)) = R at *
   clear hG hcl hdep hfr hK hfin hLi
   have hcc := Lib.hid (hc _ _ hSj)
   clear hSj hx hc hv c0 c1 c2 c3 c4 c5 c6 c7 c8
   go_simp
   go_at_call 37
   refine hcc.out.mono ?_
   rintro e w' ⟨v, rfl, hs⟩
   exact HK.out v w' hs
  | 31, ho =>
   obtain rfl := gdO31 ho
   have x28 := gdX (hG.val 25 25 28 _ rfl (hdep ⟨25, .data⟩ (by simp) rfl))
   rw [if_pos (gdT31 (hG.val 23 23 26 _ rfl (hdep ⟨23, .guard⟩ (by simp) rfl)))]
   obtain ⟨ph, hSp, hdone⟩ := hG.any
   have hd33 : 0 < ph := hdone 0 (30, 33) rfl (hdep ⟨30, .data⟩ (by simp) rfl)
   have r33 : a.tmps[33]?.getD undef = resOf gd8C (fun t => a.eval (.tmp t)) 0 := by rw [← ev]; exact (resOf_at (C := gd8C) (j := 0) rfl a).symm
   have HK := Lib.hid (hK (.bool true) w (hG.quiet 30 31 34 _ rfl (by kernel_rfl) (by kernel_rfl)))
   generalize (resOf gd8C fun t => a.eval (.tmp t)) = R at *
   rw [hv _ _ _ hSp hd33] at r33
   clear hd33
   clear hx hc hv c0 c1 c2 c3 c4 c6 c7 c8
   clear hSp hdone
   clear hG hcl hdep hfr hK hLi
   go_simp
   exact HK.out
  | 32, ho =>
   obtain rfl := gdO32 ho
   have x26 := gdX (hG.val 23 23 26 _ rfl (hdep ⟨23, .data⟩ (by simp) rfl))
   have x34 := gdX (hG.val 30 31 34 _ rfl (hdep ⟨31, .data⟩ (by simp) rfl))
   rw [if_pos (show Region.wanted _ _ = true from rfl)]
   have HK := Lib.hid (hK (.bool true) w (hG.quiet 31 32 35 _ rfl (by kernel_rfl) (by kernel_rfl)))
   clear hG hcl hdep hfr hK hLi
   go_simp
   exact HK.out
  | 33, ho =>
   obtain rfl := gdO33 ho
   have x35 := gdX (hG.val 31 32 35 _ rfl (hdep ⟨32, .data⟩ (by simp) rfl))
   rw [if_pos (show Region.wanted _ _ = true from rfl)]
   have HK := Lib.hid (hK (.bool true) w (hG.quiet 32 33 36 _ rfl (by kernel_rfl) (by kernel_rfl)))
   clear hG hcl hdep hfr hK hLi
   go_simp
   exact HK.out
  | 34, ho =>
   obtain rfl := gdO34 ho
   rw [if_pos (gdT34 (hG.val 32 33 36 _ rfl (hdep ⟨33, .guard⟩ (by simp) rfl)))]
   have HK := Lib.hid (hK (.pointer (some ⟨b, 3, none⟩)) w (hG.quiet 33 34 37 _ rfl (by kernel_rfl) (by kernel_rfl)))
   clear hx hc hv c0 c1 c2 c3 c4 c5 c6 c7 c8
   clear hG hcl hdep hfr hK hLi
   go_simp
   exact HK.out
  | 35, ho =>
   obtain rfl := gdO35 ho
   have x37 := gdX (hG.val 33 34 37 _ rfl (hdep ⟨34, .data⟩ (by simp) rfl))
   rw [if_pos (gdT35 (hG.val 32 33 36 _ rfl (hdep ⟨33, .guard⟩ (by simp) rfl)))]
   obtain ⟨ph, hSp, hdone⟩ := hG.any
   have HK := Lib.hid (hK (.int .i64 hh) w (hG.quiet 34 35 38 _ rfl (by kernel_rfl) (by kernel_rfl)))
   generalize (resOf gd8C fun t => a.eval (.tmp t)) = R at *
   obtain ⟨q0, q1, q2, q3, q4, q5, q6⟩ := hx _ _ _ hSp
   clear hx hc hv c0 c1 c2 c3 c4 c5 c6 c7 c8 q0 q1 q2 q4 q5 q6
   clear hSp hdone
   clear hG hcl hdep hfr hK hLi
   go_simp
   exact HK.out
  | 36, ho =>
   obtain rfl := gdO36 ho
   have x38 := gdX (hG.val 34 35 38 _ rfl (hdep ⟨35, .data⟩ (by simp) rfl))
   rw [if_pos (gdT36 (hG.val 32 33 36 _ rfl (hdep ⟨33, .guard⟩ (by simp) rfl)))]
   have HK := Lib.hid (hK (.bool true) w (hG.quiet 35 36 39 _ rfl (by kernel_rfl) (by kernel_rfl)))
   clear hx hc hv c0 c1 c2 c3 c4 c5 c7 c8
   clear hG hcl hdep hfr hK hLi
   go_simp
   exact HK.out
  | 37, ho =>
   obtain rfl := gdO37 ho
   have x36 := gdX (hG.val 32 33 36 _ rfl (hdep ⟨33, .data⟩ (by simp) rfl))
   have x39 := gdX (hG.val 35 36 39 _ rfl (hdep ⟨36, .data⟩ (by simp) rfl))
   rw [if_pos (show Region.wanted _ _ = true from rfl)]
   have HK := Lib.hid (hK (.bool true) w (hG.quiet 36 37 40 _ rfl (by kernel_rfl) (by kernel_rfl)))
   clear hG hcl hdep hfr hK hLi
   go_simp
   exact HK.out
  | 38, ho =>
   obtain rfl := gdO38 ho
   have x40 := gdX (hG.val 36 37 40 _ rfl (hdep ⟨37, .data⟩ (by simp) rfl))
   rw [if_pos (show Region.wanted _ _ = true from rfl)]
   have HK := Lib.hid (hK (.bool true) w (hG.quiet 37 38 41 _ rfl (by kernel_rfl) (by kernel_rfl)))
   clear hG hcl hdep hfr hK hLi
   go_simp
   exact HK.out
  | 39, ho =>
   obtain rfl := gdO39 ho
   rw [if_pos (gdT39 (hG.val 37 38 41 _ rfl (hdep ⟨38, .guard⟩ (by simp) rfl)))]
   have HK := Lib.hid (hK (.pointer (some ⟨b, 3, none⟩)) w (hG.quiet 38 39 42 _ rfl (by kernel_rfl) (by kernel_rfl)))
   clear hx hc hv c0 c1 c2 c3 c4 c5 c6 c7 c8
   clear hG hcl hdep hfr hK hLi
   go_simp
   exact HK.out
  | 40, ho =>
   obtain rfl := gdO40 ho
   have x42 := gdX (hG.val 38 39 42 _ rfl (hdep ⟨39, .data⟩ (by simp) rfl))
   rw [if_pos (gdT40 (hG.val 37 38 41 _ rfl (hdep ⟨38, .guard⟩ (by simp) rfl)))]
   obtain ⟨ph, hSp, hdone⟩ := hG.any
   have HK := Lib.hid (hK (.int .i64 hh) w (hG.quiet 39 40 43 _ rfl (by kernel_rfl) (by kernel_rfl)))
   generalize (resOf gd8C fun t => a.eval (.tmp t)) = R at *
   obtain ⟨q0, q1, q2, q3, q4, q5, q6⟩ := hx _ _ _ hSp
   clear hx hc hv c0 c1 c2 c3 c4 c5 c6 c7 c8 q0 q1 q2 q4 q5 q6
   clear hSp hdone
   clear hG hcl hdep hfr hK hLi
   go_simp
   exact HK.out
  | 41, ho =>
   obtain rfl := gdO41 ho
   have x43 := gdX (hG.val 39 40 43 _ rfl (hdep ⟨40, .data⟩ (by simp) rfl))
   rw [if_pos (gdT41 (hG.val 37 38 41 _ rfl (hdep ⟨38, .guard⟩ (by simp) rfl)))]
   have HK := Lib.hid (hK (.bool true) w (hG.quiet 40 41 44 _ rfl (by kernel_rfl) (by kernel_rfl)))
   clear hx hc hv c0 c1 c2 c3 c4 c5 c6 c8
   clear hG hcl hdep hfr hK hLi
   go_simp
   exact HK.out
  | 42, ho =>
   obtain rfl := gdO42 ho
   have x41 := gdX (hG.val 37 38 41 _ rfl (hdep ⟨38, .data⟩ (by simp) rfl))
   have x44 := gdX (hG.val 40 41 44 _ rfl (hdep ⟨41, .data⟩ (by simp) rfl))
   rw [if_pos (show Region.wanted _ _ = true from rfl)]
   have HK := Lib.hid (hK (.bool true) w (hG.quiet 41 42 45 _ rfl (by kernel_rfl) (by kernel_rfl)))
   clear hG hcl hdep hfr hK hLi
   go_simp
   exact HK.out
  | 43, ho =>
   obtain rfl := gdO43 ho
   have x45 := gdX (hG.val 41 42 45 _ rfl (hdep ⟨42, .data⟩ (by simp) rfl))
   rw [if_pos (show Region.wanted _ _ = true from rfl)]
   have HK := Lib.hid (hK (.bool true) w (hG.quiet 42 43 46 _ rfl (by kernel_rfl) (by kernel_rfl)))
   clear hG hcl hdep hfr hK hLi
   go_simp
   exact HK.out
  | 44, ho =>
   obtain rfl := gdO44 ho
   rw [if_pos (gdT44 (hG.val 42 43 46 _ rfl (hdep ⟨43, .guard⟩ (by simp) rfl)))]
   have HK := Lib.hid (hK (.pointer (some ⟨b, 4, none⟩)) w (hG.quiet 43 44 47 _ rfl (by kernel_rfl) (by kernel_rfl)))
   clear hx hc hv c0 c1 c2 c3 c4 c5 c6 c7 c8
   clear hG hcl hdep hfr hK hLi
   go_simp
   exact HK.out
  | 45, ho =>
   obtain rfl := gdO45 ho
   have x47 := gdX (hG.val 43 44 47 _ rfl (hdep ⟨44, .data⟩ (by simp) rfl))
   rw [if_pos (gdT45 (hG.val 42 43 46 _ rfl (hdep ⟨43, .guard⟩ (by simp) rfl)))]
   obtain ⟨ph, hSp, hdone⟩ := hG.any
   have HK := Lib.hid (hK (.int .i64 mi) w (hG.quiet 44 45 48 _ rfl (by kernel_rfl) (by kernel_rfl)))
   generalize (resOf gd8C fun t => a.eval (.tmp t)) = R at *
   obtain ⟨q0, q1, q2, q3, q4, q5, q6⟩ := hx _ _ _ hSp
   clear hx hc hv c0 c1 c2 c3 c4 c5 c6 c7 c8 q0 q1 q2 q3 q5 q6
   clear hSp hdone
   clear hG hcl hdep hfr hK hLi
   go_simp
   exact HK.out
  | 46, ho =>
   obtain rfl := gdO46 ho
   have x48 := gdX (hG.val 44 45 48 _ rfl (hdep ⟨45, .data⟩ (by simp) rfl))
   rw [if_pos (gdT46 (hG.val 42 43 46 _ rfl (hdep ⟨43, .guard⟩ (by simp) rfl)))]
   have HK := Lib.hid (hK (.bool false) w (hG.quiet 45 46 49 _ rfl (by kernel_rfl) (by kernel_rfl)))
   clear hx hc hv c0 c1 c2 c3 c4 c5 c6 c7
   clear hG hcl hdep hfr hK hLi
   go_simp
   exact HK.out
  | 47, ho =>
   obtain rfl := gdO47 ho
   have x46 := gdX (hG.val 42 43 46 _ rfl (hdep ⟨43, .data⟩ (by simp) rfl))
   have x49 := gdX (hG.val 45 46 49 _ rfl (hdep ⟨46, .data⟩ (by simp) rfl))
   rw [if_pos (show Region.wanted _ _ = true from rfl)]
   have HK := Lib.hid (hK (.bool false) w (hG.quiet 46 47 50 _ rfl (by kernel_rfl) (by kernel_rfl)))
   clear hG hcl hdep hfr hK hLi
   go_simp
   exact HK.out
  | 48, ho =>
   obtain rfl := gdO48 ho
   have x50 := gdX (hG.val 46 47 50 _ rfl (hdep ⟨47, .data⟩ (by simp) rfl))
   rw [if_pos (show Region.wanted _ _ = true from rfl)]
   have HK := Lib.hid (hK (.bool false) w (hG.quiet 47 48 51 _ rfl (by kernel_rfl) (by kernel_rfl)))
   clear hG hcl hdep hfr hK hLi
   go_simp
   exact HK.out
  | 49, ho =>
   obtain rfl := gdO49 ho
   rw [if_neg (gdF49 (hG.val 47 48 51 _ rfl (hdep ⟨48, .guard⟩ (by simp) rfl)))]
   have HK := Lib.hid (hK (undef) w (hG.quiet 48 49 52 _ rfl (by kernel_rfl) (by kernel_rfl)))
   clear hG hcl hdep hfr hK hLi
   exact HK.out
  | 50, ho =>
   obtain rfl := gdO50 ho
   have x52 := gdX (hG.val 48 49 52 _ rfl (hdep ⟨49, .data⟩ (by simp) rfl))
   rw [if_neg (gdF50 (hG.val 47 48 51 _ rfl (hdep ⟨48, .guard⟩ (by simp) rfl)))]
   have HK := Lib.hid (hK (undef) w (hG.quiet 49 50 53 _ rfl (by kernel_rfl) (by kernel_rfl)))
   clear hG hcl hdep hfr hK hLi
   exact HK.out
  | 51, ho =>
   obtain rfl := gdO51 ho
   have x53 := gdX (hG.val 49 50 53 _ rfl (hdep ⟨50, .data⟩ (by simp) rfl))
   rw [if_neg (gdF51 (hG.val 47 48 51 _ rfl (hdep ⟨48, .guard⟩ (by simp) rfl)))]
   have HK := Lib.hid (hK (undef) w (hG.quiet 50 51 54 _ rfl (by kernel_rfl) (by kernel_rfl)))
   clear hG hcl hdep hfr hK hLi
   exact HK.out
  | 52, ho =>
   obtain rfl := gdO52 ho
   have x51 := gdX (hG.val 47 48 51 _ rfl (hdep ⟨48, .data⟩ (by simp) rfl))
   have x54 := gdX (hG.val 50 51 54 _ rfl (hdep ⟨51, .data⟩ (by simp) rfl))
   rw [if_pos (show Region.wanted _ _ = true from rfl)]
   have HK := Lib.hid (hK (.bool false) w (hG.quiet 51 52 55 _ rfl (by kernel_rfl) (by kernel_rfl)))
   clear hG hcl hdep hfr hK hLi
   go_simp
   exact HK.out
  | 53, ho =>
   obtain rfl := gdO53 ho
   have x55 := gdX (hG.val 51 52 55 _ rfl (hdep ⟨52, .data⟩ (by simp) rfl))
   rw [if_pos (show Region.wanted _ _ = true from rfl)]
   have HK := Lib.hid (hK (.bool false) w (hG.quiet 52 53 56 _ rfl (by kernel_rfl) (by kernel_rfl)))
   clear hG hcl hdep hfr hK hLi
   go_simp
   exact HK.out
  | 54, ho =>
   obtain rfl := gdO54 ho
   rw [if_neg (gdF54 (hG.val 52 53 56 _ rfl (hdep ⟨53, .guard⟩ (by simp) rfl)))]
   have HK := Lib.hid (hK (undef) w (hG.quiet 53 54 57 _ rfl (by kernel_rfl) (by kernel_rfl)))
   clear hG hcl hdep hfr hK hLi
   exact HK.out
  | 55, ho =>
   obtain rfl := gdO55 ho
   have x57 := gdX (hG.val 53 54 57 _ rfl (hdep ⟨54, .data⟩ (by simp) rfl))
   rw [if_neg (gdF55 (hG.val 52 53 56 _ rfl (hdep ⟨53, .guard⟩ (by simp) rfl)))]
   have HK := Lib.hid (hK (undef) w (hG.quiet 54 55 58 _ rfl (by kernel_rfl) (by kernel_rfl)))
   clear hG hcl hdep hfr hK hLi
   exact HK.out
  | 56, ho =>
   obtain rfl := gdO56 ho
   have x58 := gdX (hG.val 54 55 58 _ rfl (hdep ⟨55, .data⟩ (by simp) rfl))
   rw [if_neg (gdF56 (hG.val 52 53 56 _ rfl (hdep ⟨53, .guard⟩ (by simp) rfl)))]
   have HK := Lib.hid (hK (undef) w (hG.quiet 55 56 59 _ rfl (by kernel_rfl) (by kernel_rfl)))
   clear hG hcl hdep hfr hK hLi
   exact HK.out
  | 57, ho =>
   obtain rfl := gdO57 ho
   have x56 := gdX (hG.val 52 53 56 _ rfl (hdep ⟨53, .data⟩ (by simp) rfl))
   have x59 := gdX (hG.val 55 56 59 _ rfl (hdep ⟨56, .data⟩ (by simp) rfl))
   rw [if_pos (show Region.wanted _ _ = true from rfl)]
   have HK := Lib.hid (hK (.bool false) w (hG.quiet 56 57 60 _ rfl (by kernel_rfl) (by kernel_rfl)))
   clear hG hcl hdep hfr hK hLi
   go_simp
   exact HK.out
  | 58, ho =>
   obtain rfl := gdO58 ho
   have x60 := gdX (hG.val 56 57 60 _ rfl (hdep ⟨57, .data⟩ (by simp) rfl))
   rw [if_pos (show Region.wanted _ _ = true from rfl)]
   have HK := Lib.hid (hK (.bool false) w (hG.quiet 57 58 61 _ rfl (by kernel_rfl) (by kernel_rfl)))
   clear hG hcl hdep hfr hK hLi
   go_simp
   exact HK.out
  | 59, ho =>
   obtain rfl := gdO59 ho
   rw [if_neg (gdF59 (hG.val 57 58 61 _ rfl (hdep ⟨58, .guard⟩ (by simp) rfl)))]
   have HK := Lib.hid (hK (undef) w (hG.quiet 58 59 62 _ rfl (by kernel_rfl) (by kernel_rfl)))
   clear hG hcl hdep hfr hK hLi
   exact HK.out
  | 60, ho =>
   obtain rfl := gdO60 ho
   have x62 := gdX (hG.val 58 59 62 _ rfl (hdep ⟨59, .data⟩ (by simp) rfl))
   rw [if_neg (gdF60 (hG.val 57 58 61 _ rfl (hdep ⟨58, .guard⟩ (by simp) rfl)))]
   have HK := Lib.hid (hK (undef) w (hG.quiet 59 60 63 _ rfl (by kernel_rfl) (by kernel_rfl)))
   clear hG hcl hdep hfr hK hLi
   exact HK.out
  | 61, ho =>
   obtain rfl := gdO61 ho
   have x63 := gdX (hG.val 59 60 63 _ rfl (hdep ⟨60, .data⟩ (by simp) rfl))
   rw [if_neg (gdF61 (hG.val 57 58 61 _ rfl (hdep ⟨58, .guard⟩ (by simp) rfl)))]
   have HK := Lib.hid (hK (undef) w (hG.quiet 60 61 64 _ rfl (by kernel_rfl) (by kernel_rfl)))
   clear hG hcl hdep hfr hK hLi
   exact HK.out
  | 62, ho =>
   obtain rfl := gdO62 ho
   have x61 := gdX (hG.val 57 58 61 _ rfl (hdep ⟨58, .data⟩ (by simp) rfl))
   have x64 := gdX (hG.val 60 61 64 _ rfl (hdep ⟨61, .data⟩ (by simp) rfl))
   rw [if_pos (show Region.wanted _ _ = true from rfl)]
   have HK := Lib.hid (hK (.bool false) w (hG.quiet 61 62 65 _ rfl (by kernel_rfl) (by kernel_rfl)))
   clear hG hcl hdep hfr hK hLi
   go_simp
   exact HK.out
  | 63, ho =>
   obtain rfl := gdO63 ho
   have x65 := gdX (hG.val 61 62 65 _ rfl (hdep ⟨62, .data⟩ (by simp) rfl))
   rw [if_pos (show Region.wanted _ _ = true from rfl)]
   have HK := Lib.hid (hK (.bool false) w (hG.quiet 62 63 66 _ rfl (by kernel_rfl) (by kernel_rfl)))
   clear hG hcl hdep hfr hK hLi
   go_simp
   exact HK.out
  | 64, ho =>
   obtain rfl := gdO64 ho
   rw [if_neg (gdF64 (hG.val 62 63 66 _ rfl (hdep ⟨63, .guard⟩ (by simp) rfl)))]
   have HK := Lib.hid (hK (undef) w (hG.quiet 63 64 67 _ rfl (by kernel_rfl) (by kernel_rfl)))
   clear hG hcl hdep hfr hK hLi
   exact HK.out
  | 65, ho =>
   obtain rfl := gdO65 ho
   have x67 := gdX (hG.val 63 64 67 _ rfl (hdep ⟨64, .data⟩ (by simp) rfl))
   rw [if_neg (gdF65 (hG.val 62 63 66 _ rfl (hdep ⟨63, .guard⟩ (by simp) rfl)))]
   have HK := Lib.hid (hK (undef) w (hG.quiet 64 65 68 _ rfl (by kernel_rfl) (by kernel_rfl)))
   clear hG hcl hdep hfr hK hLi
   exact HK.out
  | 66, ho =>
   obtain rfl := gdO66 ho
   have x68 := gdX (hG.val 64 65 68 _ rfl (hdep ⟨65, .data⟩ (by simp) rfl))
   rw [if_neg (gdF66 (hG.val 62 63 66 _ rfl (hdep ⟨63, .guard⟩ (by simp) rfl)))]
   have HK := Lib.hid (hK (undef) w (hG.quiet 65 66 69 _ rfl (by kernel_rfl) (by kernel_rfl)))
   clear hG hcl hdep hfr hK hLi
   exact HK.out
  | 67, ho =>
   obtain rfl := gdO67 ho
   have x66 := gdX (hG.val 62 63 66 _ rfl (hdep ⟨63, .data⟩ (by simp) rfl))
   have x69 := gdX (hG.val 65 66 69 _ rfl (hdep ⟨66, .data⟩ (by simp) rfl))
   rw [if_pos (show Region.wanted _ _ = true from rfl)]
   have HK := Lib.hid (hK (.bool false) w (hG.quiet 66 67 70 _ rfl (by kernel_rfl) (by kernel_rfl)))
   clear hG hcl hdep hfr hK hLi
   go_simp
   exact HK.out
  | 68, ho =>
   obtain rfl := gdO68 ho
   have x70 := gdX (hG.val 66 67 70 _ rfl (hdep ⟨67, .data⟩ (by simp) rfl))
   rw [if_pos (show Region.wanted _ _ = true from rfl)]
   have HK := Lib.hid (hK (.bool false) w (hG.quiet 67 68 71 _ rfl (by kernel_rfl) (by kernel_rfl)))
   clear hG hcl hdep hfr hK hLi
   go_simp
   exact HK.out
  | 69, ho =>
   obtain rfl := gdO69 ho
   rw [if_neg (gdF69 (hG.val 67 68 71 _ rfl (hdep ⟨68, .guard⟩ (by simp) rfl)))]
   have HK := Lib.hid (hK (undef) w (hG.quiet 68 69 72 _ rfl (by kernel_rfl) (by kernel_rfl)))
   clear hG hcl hdep hfr hK hLi
   exact HK.out
  | 70, ho =>
   obtain rfl := gdO70 ho
   have x72 := gdX (hG.val 68 69 72 _ rfl (hdep ⟨69, .data⟩ (by simp) rfl))
   rw [if_neg (gdF70 (hG.val 67 68 71 _ rfl (hdep ⟨68, .guard⟩ (by simp) rfl)))]
   have HK := Lib.hid (hK (undef) w (hG.quiet 69 70 73 _ rfl (by kernel_rfl) (by kernel_rfl)))
   clear hG hcl hdep hfr hK hLi
   exact HK.out
  | 71, ho =>
   obtain rfl := gdO71 ho
   have x73 := gdX (hG.val 69 70 73 _ rfl (hdep ⟨70, .data⟩ (by simp) rfl))
   rw [if_neg (gdF71 (hG.val 67 68 71 _ rfl (hdep ⟨68, .guard⟩ (by simp) rfl)))]
   have HK := Lib.hid (hK (undef) w (hG.quiet 70 71 74 _ rfl (by kernel_rfl) (by kernel_rfl)))
   clear hG hcl hdep hfr hK hLi
   exact HK.out
  | 72, ho =>
   obtain rfl := gdO72 ho
   have x71 := gdX (hG.val 67 68 71 _ rfl (hdep ⟨68, .data⟩ (by simp) rfl))
   have x74 := gdX (hG.val 70 71 74 _ rfl (hdep ⟨71, .data⟩ (by simp) rfl))
   rw [if_pos (show Region.wanted _ _ = true from rfl)]
   have HK := Lib.hid (hK (.bool false) w (hG.quiet 71 72 75 _ rfl (by kernel_rfl) (by kernel_rfl)))
   clear hG hcl hdep hfr hK hLi
   go_simp
   exact HK.out
  | 73, ho =>
   obtain rfl := gdO73 ho
   have x75 := gdX (hG.val 71 72 75 _ rfl (hdep ⟨72, .data⟩ (by simp) rfl))
   rw [if_pos (show Region.wanted _ _ = true from rfl)]
   have HK := Lib.hid (hK (.bool false) w (hG.quiet 72 73 2 _ rfl (by kernel_rfl) (by kernel_rfl)))
   clear hG hcl hdep hfr hK hLi
   go_simp
   exact HK.out
  | n + 74, ho => exact absurd (Array.getElem?_eq_some_iff.1 ho).1 (by show ¬ n + 74 < 74; omega)


def gd9Vals (b : Nat) (y m k hh mi s z d : Int) : List (Nat × Nat × Value) := [(0, 3, .pointer (some ⟨b, 0, none⟩)), (1, 4, .int .i64 y), (2, 5, .bool true), (3, 6, .bool true), (4, 7, .pointer (some ⟨b, 0, none⟩)), (5, 8, .int .i64 y), (6, 9, .bool true), (7, 10, .bool true), (8, 11, .bool true), (9, 12, .pointer (some ⟨b, 1, none⟩)), (10, 13, .int .i64 m), (11, 14, .bool true), (12, 15, .bool true), (13, 16, .bool true), (14, 17, .pointer (some ⟨b, 1, none⟩)), (15, 18, .int .i64 m), (16, 19, .bool true), (17, 20, .bool true), (18, 21, .bool true), (19, 22, .pointer (some ⟨b, 2, none⟩)), (20, 23, .int .i64 k), (21, 24, .bool true), (22, 25, .bool true), (23, 26, .bool true), (24, 27, .pointer (some ⟨b, 2, none⟩)), (25, 28, .int .i64 k), (26, 29, .pointer (some ⟨b, 0, none⟩)), (27, 30, .int .i64 y), (28, 31, .pointer (some ⟨b, 1, none⟩)), (29, 32, .int .i64 m), (31, 34, .bool true), (32, 35, .bool true), (33, 36, .bool true), (34, 37, .pointer (some ⟨b, 3, none⟩)), (35, 38, .int .i64 hh), (36, 39, .bool true), (37, 40, .bool true), (38, 41, .bool true), (39, 42, .pointer (some ⟨b, 3, none⟩)), (40, 43, .int .i64 hh), (41, 44, .bool true), (42, 45, .bool true), (43, 46, .bool true), (44, 47, .pointer (some ⟨b, 4, none⟩)), (45, 48, .int .i64 mi), (46, 49, .bool true), (47, 50, .bool true), (48, 51, .bool true), (49, 52, .pointer (some ⟨b, 4, none⟩)), (50, 53, .int .i64 mi), (51, 54, .bool false), (52, 55, .bool false), (53, 56, .bool false), (54, 57, undef), (55, 58, undef), (56, 59, undef), (57, 60, .bool false), (58, 61, .bool false), (59, 62, undef), (60, 63, undef), (61, 64, undef), (62, 65, .bool false), (63, 66, .bool false), (64, 67, undef), (65, 68, undef), (66, 69, undef), (67, 70, .bool false), (68, 71, .bool false), (69, 72, undef), (70, 73, undef), (71, 74, undef), (72, 75, .bool false), (73, 2, .bool false)]
def gd9C : List (Nat × Nat) := [(30, 33)]

set_option maxHeartbeats 4000000 in
set_option maxRecDepth 100000 in
theorem gd9 {Q : Exit → Act → World → Prop} {a0 : Act} {wp : World} (b : Nat) (y m k hh mi s z d : Int) (S : Nat → (Nat → Value) → World → Prop)
    (hsz : 75 < a0.tmps.size) (in1 : a0.eval (.tmp 1) = .pointer (some ⟨b, 0, none⟩))
    (hx : ∀ p R w, S p R w → w.cell? ⟨b, 0, none⟩ = some (.int .i64 y) ∧ w.cell? ⟨b, 1, none⟩ = some (.int .i64 m) ∧ w.cell? ⟨b, 2, none⟩ = some (.int .i64 k) ∧ w.cell? ⟨b, 3, none⟩ = some (.int .i64 hh) ∧ w.cell? ⟨b, 4, none⟩ = some (.int .i64 mi) ∧ w.cell? ⟨b, 5, none⟩ = some (.int .i64 s) ∧ w.cell? ⟨b, 6, none⟩ = some (.int .i64 z)) (c0 : decide (1970 ≤ y) = true) (c1 : decide (y ≤ 9999) = true) (c2 : decide (1 ≤ m) = true) (c3 : decide (m ≤ 12) = true) (c4 : decide (1 ≤ k) = true) (c5 : decide (k ≤ d) = true) (c6 : decide (0 ≤ hh) = true) (c7 : decide (hh ≤ 23) = true) (c8 : decide (0 ≤ mi) = true) (c9 : decide (mi ≤ 59) = false)
    (hc : ∀ R w, S 0 R w → Calls Tryd.prog 37 #[.int .i64 y, .int .i64 m] w fun e w' => ∃ v, e = .returned v ∧ S 1 (setR R 0 v) w')
    (hv : ∀ p R w, S p R w → 0 < p → R 0 = .int .i64 d)
    (hS : S 0 (resOf gd9C fun t => a0.eval (.tmp t)) wp.drew)
    (fin : ∀ a w, Fr [3, 4, 5, 6, 7, 8, 9, 10, 11, 12, 13, 14, 15, 16, 17, 18, 19, 20, 21, 22, 23, 24, 25, 26, 27, 28, 29, 30, 31, 32, 33, 34, 35, 36, 37, 38, 39, 40, 41, 42, 43, 44, 45, 46, 47, 48, 49, 50, 51, 52, 53, 54, 55, 56, 57, 58, 59, 60, 61, 62, 63, 64, 65, 66, 67, 68, 69, 70, 71, 72, 73, 74, 75, 2] a0 a → a.eval (.tmp 2) = .bool false → S 1 (resOf gd9C fun t => a.eval (.tmp t)) w → Q .normal a w) :
    (Code.region 1 opsGd true).wp Tryd.prog Q a0 wp := by
  refine region_inv (by kernel_rfl) [3, 4, 5, 6, 7, 8, 9, 10, 11, 12, 13, 14, 15, 16, 17, 18, 19, 20, 21, 22, 23, 24, 25, 26, 27, 28, 29, 30, 31, 32, 33, 34, 35, 36, 37, 38, 39, 40, 41, 42, 43, 44, 45, 46, 47, 48, 49, 50, 51, 52, 53, 54, 55, 56, 57, 58, 59, 60, 61, 62, 63, 64, 65, 66, 67, 68, 69, 70, 71, 72, 73, 74, 75, 2] (by kernel_rfl) (by kernel_rfl) (fun t ht => by simp at ht; omega) (GV (gd9Vals b y m k hh mi s z d) gd9C S) (.start hS) ?_
    (fun L a w hf hall hG => fin a w hf (hG.val 72 73 2 _ rfl (hall 73 (by decide))) (hG.fin (fun c hc => by simp [gd9C] at hc; subst hc; exact hall _ (by decide))))
  clear hS fin
  intro ix oo ho L a w hfr hG hLi hdep hcl K hK
  have e1 : a.tmps[1]?.getD undef = .pointer (some ⟨b, 0, none⟩) := by rw [← ev]; exact (hfr.same 1 (by decide)).trans in1
  clear in1
  match ix, ho with
  | 0, ho =>
   obtain rfl := gdO0 ho
   rw [if_pos (show Region.wanted _ _ = true from rfl)]
   have HK := Lib.hid (hK (.pointer (some ⟨b, 0, none⟩)) w (hG.quiet 0 0 3 _ rfl (by kernel_rfl) (by kernel_rfl)))
   clear hx hc hv c0 c1 c2 c3 c4 c5 c6 c7 c8 c9
   clear hG hcl hdep hfr hK hLi
   go_simp
   exact HK.out
  | 1, ho =>
   obtain rfl := gdO1 ho
   have x3 := gdX (hG.val 0 0 3 _ rfl (hdep ⟨0, .data⟩ (by simp) rfl))
   rw [if_pos (show Region.wanted _ _ = true from rfl)]
   obtain ⟨ph, hSp, hdone⟩ := hG.any
   have HK := Lib.hid (hK (.int .i64 y) w (hG.quiet 1 1 4 _ rfl (by kernel_rfl) (by kernel_rfl)))
   generalize (resOf gd9C fun t => a.eval (.tmp t)) = R at *
   obtain ⟨q0, q1, q2, q3, q4, q5, q6⟩ := hx _ _ _ hSp
   clear hx hc hv c0 c1 c2 c3 c4 c5 c6 c7 c8 c9 q1 q2 q3 q4 q5 q6
   clear hSp hdone
   clear hG hcl hdep hfr hK hLi
   go_simp
   exact HK.out
  | 2, ho =>
   obtain rfl := gdO2 ho
   have x4 := gdX (hG.val 1 1 4 _ rfl (hdep ⟨1, .data⟩ (by simp) rfl))
   rw [if_pos (show Region.wanted _ _ = true from rfl)]
   have HK := Lib.hid (hK (.bool true) w (hG.quiet 2 2 5 _ rfl (by kernel_rfl) (by kernel_rfl)))
   clear hx hc hv c1 c2 c3 c4 c5 c6 c7 c8 c9
   clear hG hcl hdep hfr hK hLi
   go_simp
   exact HK.out
  | 3, ho =>
   obtain rfl := gdO3 ho
   have x5 := gdX (hG.val 2 2 5 _ rfl (hdep ⟨2, .data⟩ (by simp) rfl))
   rw [if_pos (show Region.wanted _ _ = true from rfl)]
   have HK := Lib.hid (hK (.bool true) w (hG.quiet 3 3 6 _ rfl (by kernel_rfl) (by kernel_rfl)))
   clear hG hcl hdep hfr hK hLi
   go_simp
   exact HK.out
  | 4, ho =>
   obtain rfl := gdO4 ho
   rw [if_pos (gdT4 (hG.val 3 3 6 _ rfl (hdep ⟨3, .guard⟩ (by simp) rfl)))]
   have HK := Lib.hid (hK (.pointer (some ⟨b, 0, none⟩)) w (hG.quiet 4 4 7 _ rfl (by kernel_rfl) (by kernel_rfl)))
   clear hx hc hv c0 c1 c2 c3 c4 c5 c6 c7 c8 c9
   clear hG hcl hdep hfr hK hLi
   go_simp
   exact HK.out
  | 5, ho =>
   obtain rfl := gdO5 ho
   have x7 := gdX (hG.val 4 4 7 _ rfl (hdep ⟨4, .data⟩ (by simp) rfl))
   rw [if_pos (gdT5 (hG.val 3 3 6 _ rfl (hdep ⟨3, .guard⟩ (by simp) rfl)))]
   obtain ⟨ph, hSp, hdone⟩ := hG.any
   have HK := Lib.hid (hK (.int .i64 y) w (hG.quiet 5 5 8 _ rfl (by kernel_rfl) (by kernel_rfl)))
   generalize (resOf gd9C fun t => a.eval (.tmp t)) = R at *
   obtain ⟨q0, q1, q2, q3, q4, q5, q6⟩ := hx _ _ _ hSp
   clear hx hc hv c0 c1 c2 c3 c4 c5 c6 c7 c8 c9 q1 q2 q3 q4 q5 q6
   clear hSp hdone
   clear hG hcl hdep hfr hK hLi
   go_simp
   exact HK.out
  | 6, ho =>
   obtain rfl := gdO6 ho
   have x8 := gdX (hG.val 5 5 8 _ rfl (hdep ⟨5, .data⟩ (by simp) rfl))
   rw [if_pos (gdT6 (hG.val 3 3 6 _ rfl (hdep ⟨3, .guard⟩ (by simp) rfl)))]
   have HK := Lib.hid (hK (.bool true) w (hG.quiet 6 6 9 _ rfl (by kernel_rfl) (by kernel_rfl)))
   clear hx hc hv c0 c2 c3 c4 c5 c6 c7 c8 c9
   clear hG hcl hdep hfr hK hLi
   go_simp
   exact HK.out
  | 7, ho =>
   obtain rfl := gdO7 ho
   have x6 := gdX (hG.val 3 3 6 _ rfl (hdep ⟨3, .data⟩ (by simp) rfl))
   have x9 := gdX (hG.val 6 6 9 _ rfl (hdep ⟨6, .data⟩ (by simp) rfl))
   rw [if_pos (show Region.wanted _ _ = true from rfl)]
   have HK := Lib.hid (hK (.bool true) w (hG.quiet 7 7 10 _ rfl (by kernel_rfl) (by kernel_rfl)))
   clear hG hcl hdep hfr hK hLi
   go_simp
   exact HK.out
  | 8, ho =>
   obtain rfl := gdO8 ho
   have x10 := gdX (hG.val 7 7 10 _ rfl (hdep ⟨7, .data⟩ (by simp) rfl))
   rw [if_pos (show Region.wanted _ _ = true from rfl)]
   have HK := Lib.hid (hK (.bool true) w (hG.quiet 8 8 11 _ rfl (by kernel_rfl) (by kernel_rfl)))
   clear hG hcl hdep hfr hK hLi
   go_simp
   exact HK.out
  | 9, ho =>
   obtain rfl := gdO9 ho
   rw [if_pos (gdT9 (hG.val 8 8 11 _ rfl (hdep ⟨8, .guard⟩ (by simp) rfl)))]
   have HK := Lib.hid (hK (.pointer (some ⟨b, 1, none⟩)) w (hG.quiet 9 9 12 _ rfl (by kernel_rfl) (by kernel_rfl)))
   clear hx hc hv c0 c1 c2 c3 c4 c5 c6 c7 c8 c9
   clear hG hcl hdep hfr hK hLi
   go_simp
   exact HK.out
  | 10, ho =>
   obtain rfl := gdO10 ho
   have x12 := gdX (hG.val 9 9 12 _ rfl (hdep ⟨9, .data⟩ (by simp) rfl))
   rw [if_pos (gdT10 (hG.val 8 8 11 _ rfl (hdep ⟨8, .guard⟩ (by simp) rfl)))]
   obtain ⟨ph, hSp, hdone⟩ := hG.any
   have HK := Lib.hid (hK (.int .i64 m) w (hG.quiet 10 10 13 _ rfl (by kernel_rfl) (by kernel_rfl)))
   generalize (resOf gd9C fun t => a.eval (.tmp t)) = R at *
   obtain ⟨q0, q1, q2, q3, q4, q5, q6⟩ := hx _ _ _ hSp
   clear hx hc hv c0 c1 c2 c3 c4 c5 c6 c7 c8 c9 q0 q2 q3 q4 q5 q6
   clear hSp hdone
   clear hG hcl hdep hfr hK hLi
   go_simp
   exact HK.out
  | 11, ho =>
   obtain rfl := gdO11 ho
   have x13 := gdX (hG.val 10 10 13 _ rfl (hdep ⟨10, .data⟩ (by simp) rfl))
   rw [if_pos (gdT11 (hG.val 8 8 11 _ rfl (hdep ⟨8, .guard⟩ (by simp) rfl)))]
   have HK := Lib.hid (hK (.bool true) w (hG.quiet 11 11 14 _ rfl (by kernel_rfl) (by kernel_rfl)))
   clear hx hc hv c0 c1 c3 c4 c5 c6 c7 c8 c9
   clear hG hcl hdep hfr hK hLi
   go_simp
   exact HK.out
  | 12, ho =>
   obtain rfl := gdO12 ho
   have x11 := gdX (hG.val 8 8 11 _ rfl (hdep ⟨8, .data⟩ (by simp) rfl))
   have x14 := gdX (hG.val 11 11 14 _ rfl (hdep ⟨11, .data⟩ (by simp) rfl))
   rw [if_pos (show Region.wanted _ _ = true from rfl)]
   have HK := Lib.hid (hK (.bool true) w (hG.quiet 12 12 15 _ rfl (by kernel_rfl) (by kernel_rfl)))
   clear hG hcl hdep hfr hK hLi
   go_simp
   exact HK.out
  | 13, ho =>
   obtain rfl := gdO13 ho
   have x15 := gdX (hG.val 12 12 15 _ rfl (hdep ⟨12, .data⟩ (by simp) rfl))
   rw [if_pos (show Region.wanted _ _ = true from rfl)]
   have HK := Lib.hid (hK (.bool true) w (hG.quiet 13 13 16 _ rfl (by kernel_rfl) (by kernel_rfl)))
   clear hG hcl hdep hfr hK hLi
   go_simp
   exact HK.out
  | 14, ho =>
   obtain rfl := gdO14 ho
   rw [if_pos (gdT14 (hG.val 13 13 16 _ rfl (hdep ⟨13, .guard⟩ (by simp) rfl)))]
   have HK := Lib.hid (hK (.pointer (some ⟨b, 1, none⟩)) w (hG.quiet 14 14 17 _ rfl (by kernel_rfl) (by kernel_rfl)))
   clear hx hc hv c0 c1 c2 c3 c4 c5 c6 c7 c8 c9
   clear hG hcl hdep hfr hK hLi
   go_simp
   exact HK.out
  | 15, ho =>
   obtain rfl := gdO15 ho
   have x17 := gdX (hG.val 14 14 17 _ rfl (hdep ⟨14, .data⟩ (by simp) rfl))
   rw [if_pos (gdT15 (hG.val 13 13 16 _ rfl (hdep ⟨13, .guard⟩ (by simp) rfl)))]
   obtain ⟨ph, hSp, hdone⟩ := hG.any
   have HK := Lib.hid (hK (.int .i64 m) w (hG.quiet 15 15 18 _ rfl (by kernel_rfl) (by kernel_rfl)))
   generalize (resOf gd9C fun t => a.eval (.tmp t)) = R at *
   obtain ⟨q0, q1, q2, q3, q4, q5, q6⟩ := hx _ _ _ hSp
   clear hx hc hv c0 c1 c2 c3 c4 c5 c6 c7 c8 c9 q0 q2 q3 q4 q5 q6
   clear hSp hdone
   clear hG hcl hdep hfr hK hLi
   go_simp
   exact HK.out
  | 16, ho =>
   obtain rfl := gdO16 ho
   have x18 := gdX (hG.val 15 15 18 _ rfl (hdep ⟨15, .data⟩ (by simp) rfl))
   rw [if_pos (gdT16 (hG.val 13 13 16 _ rfl (hdep ⟨13, .guard⟩ (by simp) rfl)))]
   have HK := Lib.hid (hK (.bool true) w (hG.quiet 16 16 19 _ rfl (by kernel_rfl) (by kernel_rfl)))
   clear hx hc hv c0 c1 c2 c4 c5 c6 c7 c8 c9
   clear hG hcl hdep hfr hK hLi
   go_simp
   exact HK.out
  | 17, ho =>
   obtain rfl := gdO17 ho
   have x16 := gdX (hG.val 13 13 16 _ rfl (hdep ⟨13, .data⟩ (by simp) rfl))
   have x19 := gdX (hG.val 16 16 19 _ rfl (hdep ⟨16, .data⟩ (by simp) rfl))
   rw [if_pos (show Region.wanted _ _ = true from rfl)]
   have HK := Lib.hid (hK (.bool true) w (hG.quiet 17 17 20 _ rfl (by kernel_rfl) (by kernel_rfl)))
   clear hG hcl hdep hfr hK hLi
   go_simp
   exact HK.out
  | 18, ho =>
   obtain rfl := gdO18 ho
   have x20 := gdX (hG.val 17 17 20 _ rfl (hdep ⟨17, .data⟩ (by simp) rfl))
   rw [if_pos (show Region.wanted _ _ = true from rfl)]
   have HK := Lib.hid (hK (.bool true) w (hG.quiet 18 18 21 _ rfl (by kernel_rfl) (by kernel_rfl)))
   clear hG hcl hdep hfr hK hLi
   go_simp
   exact HK.out
  | 19, ho =>
   obtain rfl := gdO19 ho
   rw [if_pos (gdT19 (hG.val 18 18 21 _ rfl (hdep ⟨18, .guard⟩ (by simp) rfl)))]
   have HK := Lib.hid (hK (.pointer (some ⟨b, 2, none⟩)) w (hG.quiet 19 19 22 _ rfl (by kernel_rfl) (by kernel_rfl)))
   clear hx hc hv c0 c1 c2 c3 c4 c5 c6 c7 c8 c9
   clear hG hcl hdep hfr hK hLi
   go_simp
   exact HK.out
  | 20, ho =>
   obtain rfl := gdO20 ho
   have x22 := gdX (hG.val 19 19 22 _ rfl (hdep ⟨19, .data⟩ (by simp) rfl))
   rw [if_pos (gdT20 (hG.val 18 18 21 _ rfl (hdep ⟨18, .guard⟩ (by simp) rfl)))]
   obtain ⟨ph, hSp, hdone⟩ := hG.any
   have HK := Lib.hid (hK (.int .i64 k) w (hG.quiet 20 20 23 _ rfl (by kernel_rfl) (by kernel_rfl)))
   generalize (resOf gd9C fun t => a.eval (.tmp t)) = R at *
   obtain ⟨q0, q1, q2, q3, q4, q5, q6⟩ := hx _ _ _ hSp
   clear hx hc hv c0 c1 c2 c3 c4 c5 c6 c7 c8 c9 q0 q1 q3 q4 q5 q6
   clear hSp hdone
   clear hG hcl hdep hfr hK hLi
   go_simp
   exact HK.out
  | 21, ho =>
   obtain rfl := gdO21 ho
   have x23 := gdX (hG.val 20 20 23 _ rfl (hdep ⟨20, .data⟩ (by simp) rfl))
   rw [if_pos (gdT21 (hG.val 18 18 21 _ rfl (hdep ⟨18, .guard⟩ (by simp) rfl)))]
   have HK := Lib.hid (hK (.bool true) w (hG.quiet 21 21 24 _ rfl (by kernel_rfl) (by kernel_rfl)))
   clear hx hc hv c0 c1 c2 c3 c5 c6 c7 c8 c9
   clear hG hcl hdep hfr hK hLi
   go_simp
   exact HK.out
  | 22, ho =>
   obtain rfl := gdO22 ho
   have x21 := gdX (hG.val 18 18 21 _ rfl (hdep ⟨18, .data⟩ (by simp) rfl))
   have x24 := gdX (hG.val 21 21 24 _ rfl (hdep ⟨21, .data⟩ (by simp) rfl))
   rw [if_pos (show Region.wanted _ _ = true from rfl)]
   have HK := Lib.hid (hK (.bool true) w (hG.quiet 22 22 25 _ rfl (by kernel_rfl) (by kernel_rfl)))
   clear hG hcl hdep hfr hK hLi
   go_simp
   exact HK.out
  | 23, ho =>
   obtain rfl := gdO23 ho
   have x25 := gdX (hG.val 22 22 25 _ rfl (hdep ⟨22, .data⟩ (by simp) rfl))
   rw [if_pos (show Region.wanted _ _ = true from rfl)]
   have HK := Lib.hid (hK (.bool true) w (hG.quiet 23 23 26 _ rfl (by kernel_rfl) (by kernel_rfl)))
   clear hG hcl hdep hfr hK hLi
   go_simp
   exact HK.out
  | 24, ho =>
   obtain rfl := gdO24 ho
   rw [if_pos (gdT24 (hG.val 23 23 26 _ rfl (hdep ⟨23, .guard⟩ (by simp) rfl)))]
   have HK := Lib.hid (hK (.pointer (some ⟨b, 2, none⟩)) w (hG.quiet 24 24 27 _ rfl (by kernel_rfl) (by kernel_rfl)))
   clear hx hc hv c0 c1 c2 c3 c4 c5 c6 c7 c8 c9
   clear hG hcl hdep hfr hK hLi
   go_simp
   exact HK.out
  | 25, ho =>
   obtain rfl := gdO25 ho
   have x27 := gdX (hG.val 24 24 27 _ rfl (hdep ⟨24, .data⟩ (by simp) rfl))
   rw [if_pos (gdT25 (hG.val 23 23 26 _ rfl (hdep ⟨23, .guard⟩ (by simp) rfl)))]
   obtain ⟨ph, hSp, hdone⟩ := hG.any
   have HK := Lib.hid (hK (.int .i64 k) w (hG.quiet 25 25 28 _ rfl (by kernel_rfl) (by kernel_rfl)))
   generalize (resOf gd9C fun t => a.eval (.tmp t)) = R at *
   obtain ⟨q0, q1, q2, q3, q4, q5, q6⟩ := hx _ _ _ hSp
   clear hx hc hv c0 c1 c2 c3 c4 c5 c6 c7 c8 c9 q0 q1 q3 q4 q5 q6
   clear hSp hdone
   clear hG hcl hdep hfr hK hLi
   go_simp
   exact HK.out
  | 26, ho =>
   obtain rfl := gdO26 ho
   rw [if_pos (gdT26 (hG.val 23 23 26 _ rfl (hdep ⟨23, .guard⟩ (by simp) rfl)))]
   have HK := Lib.hid (hK (.pointer (some ⟨b, 0, none⟩)) w (hG.quiet 26 26 29 _ rfl (by kernel_rfl) (by kernel_rfl)))
   clear hx hc hv c0 c1 c2 c3 c4 c5 c6 c7 c8 c9
   clear hG hcl hdep hfr hK hLi
   go_simp
   exact HK.out
  | 27, ho =>
   obtain rfl := gdO27 ho
   have x29 := gdX (hG.val 26 26 29 _ rfl (hdep ⟨26, .data⟩ (by simp) rfl))
   rw [if_pos (gdT27 (hG.val 23 23 26 _ rfl (hdep ⟨23, .guard⟩ (by simp) rfl)))]
   obtain ⟨ph, hSp, hdone⟩ := hG.any
   have HK := Lib.hid (hK (.int .i64 y) w (hG.quiet 27 27 30 _ rfl (by kernel_rfl) (by kernel_rfl)))
   generalize (resOf gd9C fun t => a.eval (.tmp t)) = R at *
   obtain ⟨q0, q1, q2, q3, q4, q5, q6⟩ := hx _ _ _ hSp
   clear hx hc hv c0 c1 c2 c3 c4 c5 c6 c7 c8 c9 q1 q2 q3 q4 q5 q6
   clear hSp hdone
   clear hG hcl hdep hfr hK hLi
   go_simp
   exact HK.out
  | 28, ho =>
   obtain rfl := gdO28 ho
   rw [if_pos (gdT28 (hG.val 23 23 26 _ rfl (hdep ⟨23, .guard⟩ (by simp) rfl)))]
   have HK := Lib.hid (hK (.pointer (some ⟨b, 1, none⟩)) w (hG.quiet 28 28 31 _ rfl (by kernel_rfl) (by kernel_rfl)))
   clear hx hc hv c0 c1 c2 c3 c4 c5 c6 c7 c8 c9
   clear hG hcl hdep hfr hK hLi
   go_simp
   exact HK.out
  | 29, ho =>
   obtain rfl := gdO29 ho
   have x31 := gdX (hG.val 28 28 31 _ rfl (hdep ⟨28, .data⟩ (by simp) rfl))
   rw [if_pos (gdT29 (hG.val 23 23 26 _ rfl (hdep ⟨23, .guard⟩ (by simp) rfl)))]
   obtain ⟨ph, hSp, hdone⟩ := hG.any
   have HK := Lib.hid (hK (.int .i64 m) w (hG.quiet 29 29 32 _ rfl (by kernel_rfl) (by kernel_rfl)))
   generalize (resOf gd9C fun t => a.eval (.tmp t)) = R at *
   obtain ⟨q0, q1, q2, q3, q4, q5, q6⟩ := hx _ _ _ hSp
   clear hx hc hv c0 c1 c2 c3 c4 c5 c6 c7 c8 c9 q0 q2 q3 q4 q5 q6
   clear hSp hdone
   clear hG hcl hdep hfr hK hLi
   go_simp
   exact HK.out
  | 30, ho =>
   obtain rfl := gdO30 ho
   have x30 := gdX (hG.val 27 27 30 _ rfl (hdep ⟨27, .data⟩ (by simp) rfl))
   have x32 := gdX (hG.val 29 29 32 _ rfl (hdep ⟨29, .data⟩ (by simp) rfl))
   rw [if_pos (gdT30 (hG.val 23 23 26 _ rfl (hdep ⟨23, .chain⟩ (by simp) rfl)))]
   have hSj := hG.at 0 (30, 33) rfl hLi (fun c h0 hc => absurd h0 (by decide))
   have hfin := fun v w' hs => hK v w' (hG.call 0 (30, 33) rfl hLi (fun c h0 hc => absurd h0 (by decide)) (by kernel_rfl) v w' hs)
   have HK := Lib.hid hfin
   generalize (resOf gd9C fun t => a.eval (.tmp t)) = R at *
   clear hG hcl hdep hfr hK hfin hLi
   have hcc := Lib.hid (hc _ _ hSj)
   clear hSj hx hc hv c0 c1 c2 c3 c4 c5 c6 c7 c8 c9
   go_simp
   go_at_call 37
   refine hcc.out.mono ?_
   rintro e w' ⟨v, rfl, hs⟩
   exact HK.out v w' hs
  | 31, ho =>
   obtain rfl := gdO31 ho
   have x28 := gdX (hG.val 25 25 28 _ rfl (hdep ⟨25, .data⟩ (by simp) rfl))
   rw [if_pos (gdT31 (hG.val 23 23 26 _ rfl (hdep ⟨23, .guard⟩ (by simp) rfl)))]
   obtain ⟨ph, hSp, hdone⟩ := hG.any
   have hd33 : 0 < ph := hdone 0 (30, 33) rfl (hdep ⟨30, .data⟩ (by simp) rfl)
   have r33 : a.tmps[33]?.getD undef = resOf gd9C (fun t => a.eval (.tmp t)) 0 := by rw [← ev]; exact (resOf_at (C := gd9C) (j := 0) rfl a).symm
   have HK := Lib.hid (hK (.bool true) w (hG.quiet 30 31 34 _ rfl (by kernel_rfl) (by kernel_rfl)))
   generalize (resOf gd9C fun t => a.eval (.tmp t)) = R at *
   rw [hv _ _ _ hSp hd33] at r33
   clear hd33
   clear hx hc hv c0 c1 c2 c3 c4 c6 c7 c8 c9
   clear hSp hdone
   clear hG hcl hdep hfr hK hLi
   go_simp
   exact HK.out
  | 32, ho =>
   obtain rfl := gdO32 ho
   have x26 := gdX (hG.val 23 23 26 _ rfl (hdep ⟨23, .data⟩ (by simp) rfl))
   have x34 := gdX (hG.val 30 31 34 _ rfl (hdep ⟨31, .data⟩ (by simp) rfl))
   rw [if_pos (show Region.wanted _ _ = true from rfl)]
   have HK := Lib.hid (hK (.bool true) w (hG.quiet 31 32 35 _ rfl (by kernel_rfl) (by kernel_rfl)))
   clear hG hcl hdep hfr hK hLi
   go_simp
   exact HK.out
  | 33, ho =>
   obtain rfl := gdO33 ho
   have x35 := gdX (hG.val 31 32 35 _ rfl (hdep ⟨32, .data⟩ (by simp) rfl))
   rw [if_pos (show Region.wanted _ _ = true from rfl)]
   have HK := Lib.hid (hK (.bool true) w (hG.quiet 32 33 36 _ rfl (by kernel_rfl) (by kernel_rfl)))
   clear hG hcl hdep hfr hK hLi
   go_simp
   exact HK.out
  | 34, ho =>
   obtain rfl := gdO34 ho
   rw [if_pos (gdT34 (hG.val 32 33 36 _ rfl (hdep ⟨33, .guard⟩ (by simp) rfl)))]
   have HK := Lib.hid (hK (.pointer (some ⟨b, 3, none⟩)) w (hG.quiet 33 34 37 _ rfl (by kernel_rfl) (by kernel_rfl)))
   clear hx hc hv c0 c1 c2 c3 c4 c5 c6 c7 c8 c9
   clear hG hcl hdep hfr hK hLi
   go_simp
   exact HK.out
  | 35, ho =>
   obtain rfl := gdO35 ho
   have x37 := gdX (hG.val 33 34 37 _ rfl (hdep ⟨34, .data⟩ (by simp) rfl))
   rw [if_pos (gdT35 (hG.val 32 33 36 _ rfl (hdep ⟨33, .guard⟩ (by simp) rfl)))]
   obtain ⟨ph, hSp, hdone⟩ := hG.any
   have HK := Lib.hid (hK (.int .i64 hh) w (hG.quiet 34 35 38 _ rfl (by kernel_rfl) (by kernel_rfl)))
   generalize (resOf gd9C fun t => a.eval (.tmp t)) = R at *
   obtain ⟨q0, q1, q2, q3, q4, q5, q6⟩ := hx _ _ _ hSp
   clear hx hc hv c0 c1 c2 c3 c4 c5 c6 c7 c8 c9 q0 q1 q2 q4 q5 q6
   clear hSp hdone
   clear hG hcl hdep hfr hK hLi
   go_simp
   exact HK.out
  | 36, ho =>
   obtain rfl := gdO36 ho
   have x38 := gdX (hG.val 34 35 38 _ rfl (hdep ⟨35, .data⟩ (by simp) rfl))
   rw [if_pos (gdT36 (hG.val 32 33 36 _ rfl (hdep ⟨33, .guard⟩ (by simp) rfl)))]
   have HK := Lib.hid (hK (.bool true) w (hG.quiet 35 36 39 _ rfl (by kernel_rfl) (by kernel_rfl)))
   clear hx hc hv c0 c1 c2 c3 c4 c5 c7 c8 c9
   clear hG hcl hdep hfr hK hLi
   go_simp
   exact HK.out
  | 37, ho =>
   obtain rfl := gdO37 ho
   have x36 := gdX (hG.val 32 33 36 _ rfl (hdep ⟨33, .data⟩ (by simp) rfl))
   have x39 := gdX (hG.val 35 36 39 _ rfl (hdep ⟨36, .data⟩ (by simp) rfl))
   rw [if_pos (show Region.wanted _ _ = true from rfl)]
   have HK := Lib.hid (hK (.bool true) w (hG.quiet 36 37 40 _ rfl (by kernel_rfl) (by kernel_rfl)))
   clear hG hcl hdep hfr hK hLi
   go_simp
   exact HK.out
  | 38, ho =>
   obtain rfl := gdO38 ho
   have x40 := gdX (hG.val 36 37 40 _ rfl (hdep ⟨37, .data⟩ (by simp) rfl))
   rw [if_pos (show Region.wanted _ _ = true from rfl)]
   have HK := Lib.hid (hK (.bool true) w (hG.quiet 37 38 41 _ rfl (by kernel_rfl) (by kernel_rfl)))
   clear hG hcl hdep hfr hK hLi
   go_simp
   exact HK.out
  | 39, ho =>
   obtain rfl := gdO39 ho
   rw [if_pos (gdT39 (hG.val 37 38 41 _ rfl (hdep ⟨38, .guard⟩ (by simp) rfl)))]
   have HK := Lib.hid (hK (.pointer (some ⟨b, 3, none⟩)) w (hG.quiet 38 39 42 _ rfl (by kernel_rfl) (by kernel_rfl)))
   clear hx hc hv c0 c1 c2 c3 c4 c5 c6 c7 c8 c9
   clear hG hcl hdep hfr hK hLi
   go_simp
   exact HK.out
  | 40, ho =>
   obtain rfl := gdO40 ho
   have x42 := gdX (hG.val 38 39 42 _ rfl (hdep ⟨39, .data⟩ (by simp) rfl))
   rw [if_pos (gdT40 (hG.val 37 38 41 _ rfl (hdep ⟨38, .guard⟩ (by simp) rfl)))]
   obtain ⟨ph, hSp, hdone⟩ := hG.any
   have HK := Lib.hid (hK (.int .i64 hh) w (hG.quiet 39 40 43 _ rfl (by kernel_rfl) (by kernel_rfl)))
   generalize (resOf gd9C fun t => a.eval (.tmp t)) = R at *
   obtain ⟨q0, q1, q2, q3, q4, q5, q6⟩ := hx _ _ _ hSp
   clear hx hc hv c0 c1 c2 c3 c4 c5 c6 c7 c8 c9 q0 q1 q2 q4 q5 q6
   clear hSp hdone
   clear hG hcl hdep hfr hK hLi
   go_simp
   exact HK.out
  | 41, ho =>
   obtain rfl := gdO41 ho
   have x43 := gdX (hG.val 39 40 43 _ rfl (hdep ⟨40, .data⟩ (by simp) rfl))
   rw [if_pos (gdT41 (hG.val 37 38 41 _ rfl (hdep ⟨38, .guard⟩ (by simp) rfl)))]
   have HK := Lib.hid (hK (.bool true) w (hG.quiet 40 41 44 _ rfl (by kernel_rfl) (by kernel_rfl)))
   clear hx hc hv c0 c1 c2 c3 c4 c5 c6 c8 c9
   clear hG hcl hdep hfr hK hLi
   go_simp
   exact HK.out
  | 42, ho =>
   obtain rfl := gdO42 ho
   have x41 := gdX (hG.val 37 38 41 _ rfl (hdep ⟨38, .data⟩ (by simp) rfl))
   have x44 := gdX (hG.val 40 41 44 _ rfl (hdep ⟨41, .data⟩ (by simp) rfl))
   rw [if_pos (show Region.wanted _ _ = true from rfl)]
   have HK := Lib.hid (hK (.bool true) w (hG.quiet 41 42 45 _ rfl (by kernel_rfl) (by kernel_rfl)))
   clear hG hcl hdep hfr hK hLi
   go_simp
   exact HK.out
  | 43, ho =>
   obtain rfl := gdO43 ho
   have x45 := gdX (hG.val 41 42 45 _ rfl (hdep ⟨42, .data⟩ (by simp) rfl))
   rw [if_pos (show Region.wanted _ _ = true from rfl)]
   have HK := Lib.hid (hK (.bool true) w (hG.quiet 42 43 46 _ rfl (by kernel_rfl) (by kernel_rfl)))
   clear hG hcl hdep hfr hK hLi
   go_simp
   exact HK.out
  | 44, ho =>
   obtain rfl := gdO44 ho
   rw [if_pos (gdT44 (hG.val 42 43 46 _ rfl (hdep ⟨43, .guard⟩ (by simp) rfl)))]
   have HK := Lib.hid (hK (.pointer (some ⟨b, 4, none⟩)) w (hG.quiet 43 44 47 _ rfl (by kernel_rfl) (by kernel_rfl)))
   clear hx hc hv c0 c1 c2 c3 c4 c5 c6 c7 c8 c9
   clear hG hcl hdep hfr hK hLi
   go_simp
   exact HK.out
  | 45, ho =>
   obtain rfl := gdO45 ho
   have x47 := gdX (hG.val 43 44 47 _ rfl (hdep ⟨44, .data⟩ (by simp) rfl))
   rw [if_pos (gdT45 (hG.val 42 43 46 _ rfl (hdep ⟨43, .guard⟩ (by simp) rfl)))]
   obtain ⟨ph, hSp, hdone⟩ := hG.any
   have HK := Lib.hid (hK (.int .i64 mi) w (hG.quiet 44 45 48 _ rfl (by kernel_rfl) (by kernel_rfl)))
   generalize (resOf gd9C fun t => a.eval (.tmp t)) = R at *
   obtain ⟨q0, q1, q2, q3, q4, q5, q6⟩ := hx _ _ _ hSp
   clear hx hc hv c0 c1 c2 c3 c4 c5 c6 c7 c8 c9 q0 q1 q2 q3 q5 q6
   clear hSp hdone
   clear hG hcl hdep hfr hK hLi
   go_simp
   exact HK.out
  | 46, ho =>
   obtain rfl := gdO46 ho
   have x48 := gdX (hG.val 44 45 48 _ rfl (hdep ⟨45, .data⟩ (by simp) rfl))
   rw [if_pos (gdT46 (hG.val 42 43 46 _ rfl (hdep ⟨43, .guard⟩ (by simp) rfl)))]
   have HK := Lib.hid (hK (.bool true) w (hG.quiet 45 46 49 _ rfl (by kernel_rfl) (by kernel_rfl)))
   clear hx hc hv c0 c1 c2 c3 c4 c5 c6 c7 c9
   clear hG hcl hdep hfr hK hLi
   go_simp
   exact HK.out
  | 47, ho =>
   obtain rfl := gdO47 ho
   have x46 := gdX (hG.val 42 43 46 _ rfl (hdep ⟨43, .data⟩ (by simp) rfl))
   have x49 := gdX (hG.val 45 46 49 _ rfl (hdep ⟨46, .data⟩ (by simp) rfl))
   rw [if_pos (show Region.wanted _ _ = true from rfl)]
   have HK := Lib.hid (hK (.bool true) w (hG.quiet 46 47 50 _ rfl (by kernel_rfl) (by kernel_rfl)))
   clear hG hcl hdep hfr hK hLi
   go_simp
   exact HK.out
  | 48, ho =>
   obtain rfl := gdO48 ho
   have x50 := gdX (hG.val 46 47 50 _ rfl (hdep ⟨47, .data⟩ (by simp) rfl))
   rw [if_pos (show Region.wanted _ _ = true from rfl)]
   have HK := Lib.hid (hK (.bool true) w (hG.quiet 47 48 51 _ rfl (by kernel_rfl) (by kernel_rfl)))
   clear hG hcl hdep hfr hK hLi
   go_simp
   exact HK.out
  | 49, ho =>
   obtain rfl := gdO49 ho
   rw [if_pos (gdT49 (hG.val 47 48 51 _ rfl (hdep ⟨48, .guard⟩ (by simp) rfl)))]
   have HK := Lib.hid (hK (.pointer (some ⟨b, 4, none⟩)) w (hG.quiet 48 49 52 _ rfl (by kernel_rfl) (by kernel_rfl)))
   clear hx hc hv c0 c1 c2 c3 c4 c5 c6 c7 c8 c9
   clear hG hcl hdep hfr hK hLi
   go_simp
   exact HK.out
  | 50, ho =>
   obtain rfl := gdO50 ho
   have x52 := gdX (hG.val 48 49 52 _ rfl (hdep ⟨49, .data⟩ (by simp) rfl))
   rw [if_pos (gdT50 (hG.val 47 48 51 _ rfl (hdep ⟨48, .guard⟩ (by simp) rfl)))]
   obtain ⟨ph, hSp, hdone⟩ := hG.any
   have HK := Lib.hid (hK (.int .i64 mi) w (hG.quiet 49 50 53 _ rfl (by kernel_rfl) (by kernel_rfl)))
   generalize (resOf gd9C fun t => a.eval (.tmp t)) = R at *
   obtain ⟨q0, q1, q2, q3, q4, q5, q6⟩ := hx _ _ _ hSp
   clear hx hc hv c0 c1 c2 c3 c4 c5 c6 c7 c8 c9 q0 q1 q2 q3 q5 q6
   clear hSp hdone
   clear hG hcl hdep hfr hK hLi
   go_simp
   exact HK.out
  | 51, ho =>
   obtain rfl := gdO51 ho
   have x53 := gdX (hG.val 49 50 53 _ rfl (hdep ⟨50, .data⟩ (by simp) rfl))
   rw [if_pos (gdT51 (hG.val 47 48 51 _ rfl (hdep ⟨48, .guard⟩ (by simp) rfl)))]
   have HK := Lib.hid (hK (.bool false) w (hG.quiet 50 51 54 _ rfl (by kernel_rfl) (by kernel_rfl)))
   clear hx hc hv c0 c1 c2 c3 c4 c5 c6 c7 c8
   clear hG hcl hdep hfr hK hLi
   go_simp
   exact HK.out
  | 52, ho =>
   obtain rfl := gdO52 ho
   have x51 := gdX (hG.val 47 48 51 _ rfl (hdep ⟨48, .data⟩ (by simp) rfl))
   have x54 := gdX (hG.val 50 51 54 _ rfl (hdep ⟨51, .data⟩ (by simp) rfl))
   rw [if_pos (show Region.wanted _ _ = true from rfl)]
   have HK := Lib.hid (hK (.bool false) w (hG.quiet 51 52 55 _ rfl (by kernel_rfl) (by kernel_rfl)))
   clear hG hcl hdep hfr hK hLi
   go_simp
   exact HK.out
  | 53, ho =>
   obtain rfl := gdO53 ho
   have x55 := gdX (hG.val 51 52 55 _ rfl (hdep ⟨52, .data⟩ (by simp) rfl))
   rw [if_pos (show Region.wanted _ _ = true from rfl)]
   have HK := Lib.hid (hK (.bool false) w (hG.quiet 52 53 56 _ rfl (by kernel_rfl) (by kernel_rfl)))
   clear hG hcl hdep hfr hK hLi
   go_simp
   exact HK.out
  | 54, ho =>
   obtain rfl := gdO54 ho
   rw [if_neg (gdF54 (hG.val 52 53 56 _ rfl (hdep ⟨53, .guard⟩ (by simp) rfl)))]
   have HK := Lib.hid (hK (undef) w (hG.quiet 53 54 57 _ rfl (by kernel_rfl) (by kernel_rfl)))
   clear hG hcl hdep hfr hK hLi
   exact HK.out
  | 55, ho =>
   obtain rfl := gdO55 ho
   have x57 := gdX (hG.val 53 54 57 _ rfl (hdep ⟨54, .data⟩ (by simp) rfl))
   rw [if_neg (gdF55 (hG.val 52 53 56 _ rfl (hdep ⟨53, .guard⟩ (by simp) rfl)))]
   have HK := Lib.hid (hK (undef) w (hG.quiet 54 55 58 _ rfl (by kernel_rfl) (by kernel_rfl)))
   clear hG hcl hdep hfr hK hLi
   exact HK.out
  | 56, ho =>
   obtain rfl := gdO56 ho
   have x58 := gdX (hG.val 54 55 58 _ rfl (hdep ⟨55, .data⟩ (by simp) rfl))
   rw [if_neg (gdF56 (hG.val 52 53 56 _ rfl (hdep ⟨53, .guard⟩ (by simp) rfl)))]
   have HK := Lib.hid (hK (undef) w (hG.quiet 55 56 59 _ rfl (by kernel_rfl) (by kernel_rfl)))
   clear hG hcl hdep hfr hK hLi
   exact HK.out
  | 57, ho =>
   obtain rfl := gdO57 ho
   have x56 := gdX (hG.val 52 53 56 _ rfl (hdep ⟨53, .data⟩ (by simp) rfl))
   have x59 := gdX (hG.val 55 56 59 _ rfl (hdep ⟨56, .data⟩ (by simp) rfl))
   rw [if_pos (show Region.wanted _ _ = true from rfl)]
   have HK := Lib.hid (hK (.bool false) w (hG.quiet 56 57 60 _ rfl (by kernel_rfl) (by kernel_rfl)))
   clear hG hcl hdep hfr hK hLi
   go_simp
   exact HK.out
  | 58, ho =>
   obtain rfl := gdO58 ho
   have x60 := gdX (hG.val 56 57 60 _ rfl (hdep ⟨57, .data⟩ (by simp) rfl))
   rw [if_pos (show Region.wanted _ _ = true from rfl)]
   have HK := Lib.hid (hK (.bool false) w (hG.quiet 57 58 61 _ rfl (by kernel_rfl) (by kernel_rfl)))
   clear hG hcl hdep hfr hK hLi
   go_simp
   exact HK.out
  | 59, ho =>
   obtain rfl := gdO59 ho
   rw [if_neg (gdF59 (hG.val 57 58 61 _ rfl (hdep ⟨58, .guard⟩ (by simp) rfl)))]
   have HK := Lib.hid (hK (undef) w (hG.quiet 58 59 62 _ rfl (by kernel_rfl) (by kernel_rfl)))
   clear hG hcl hdep hfr hK hLi
   exact HK.out
  | 60, ho =>
   obtain rfl := gdO60 ho
   have x62 := gdX (hG.val 58 59 62 _ rfl (hdep ⟨59, .data⟩ (by simp) rfl))
   rw [if_neg (gdF60 (hG.val 57 58 61 _ rfl (hdep ⟨58, .guard⟩ (by simp) rfl)))]
   have HK := Lib.hid (hK (undef) w (hG.quiet 59 60 63 _ rfl (by kernel_rfl) (by kernel_rfl)))
   clear hG hcl hdep hfr hK hLi
   exact HK.out
  | 61, ho =>
   obtain rfl := gdO61 ho
   have x63 := gdX (hG.val 59 60 63 _ rfl (hdep ⟨60, .data⟩ (by simp) rfl))
   rw [if_neg (gdF61 (hG.val 57 58 61 _ rfl (hdep ⟨58, .guard⟩ (by simp) rfl)))]
   have HK := Lib.hid (hK (undef) w (hG.quiet 60 61 64 _ rfl (by kernel_rfl) (by kernel_rfl)))
   clear hG hcl hdep hfr hK hLi
   exact HK.out
  | 62, ho =>
   obtain rfl := gdO62 ho
   have x61 := gdX (hG.val 57 58 61 _ rfl (hdep ⟨58, .data⟩ (by simp) rfl))
   have x64 := gdX (hG.val 60 61 64 _ rfl (hdep ⟨61, .data⟩ (by simp) rfl))
   rw [if_pos (show Region.wanted _ _ = true from rfl)]
   have HK := Lib.hid (hK (.bool false) w (hG.quiet 61 62 65 _ rfl (by kernel_rfl) (by kernel_rfl)))
   clear hG hcl hdep hfr hK hLi
   go_simp
   exact HK.out
  | 63, ho =>
   obtain rfl := gdO63 ho
   have x65 := gdX (hG.val 61 62 65 _ rfl (hdep ⟨62, .data⟩ (by simp) rfl))
   rw [if_pos (show Region.wanted _ _ = true from rfl)]
   have HK := Lib.hid (hK (.bool false) w (hG.quiet 62 63 66 _ rfl (by kernel_rfl) (by kernel_rfl)))
   clear hG hcl hdep hfr hK hLi
   go_simp
   exact HK.out
  | 64, ho =>
   obtain rfl := gdO64 ho
   rw [if_neg (gdF64 (hG.val 62 63 66 _ rfl (hdep ⟨63, .guard⟩ (by simp) rfl)))]
   have HK := Lib.hid (hK (undef) w (hG.quiet 63 64 67 _ rfl (by kernel_rfl) (by kernel_rfl)))
   clear hG hcl hdep hfr hK hLi
   exact HK.out
  | 65, ho =>
   obtain rfl := gdO65 ho
   have x67 := gdX (hG.val 63 64 67 _ rfl (hdep ⟨64, .data⟩ (by simp) rfl))
   rw [if_neg (gdF65 (hG.val 62 63 66 _ rfl (hdep ⟨63, .guard⟩ (by simp) rfl)))]
   have HK := Lib.hid (hK (undef) w (hG.quiet 64 65 68 _ rfl (by kernel_rfl) (by kernel_rfl)))
   clear hG hcl hdep hfr hK hLi
   exact HK.out
  | 66, ho =>
   obtain rfl := gdO66 ho
   have x68 := gdX (hG.val 64 65 68 _ rfl (hdep ⟨65, .data⟩ (by simp) rfl))
   rw [if_neg (gdF66 (hG.val 62 63 66 _ rfl (hdep ⟨63, .guard⟩ (by simp) rfl)))]
   have HK := Lib.hid (hK (undef) w (hG.quiet 65 66 69 _ rfl (by kernel_rfl) (by kernel_rfl)))
   clear hG hcl hdep hfr hK hLi
   exact HK.out
  | 67, ho =>
   obtain rfl := gdO67 ho
   have x66 := gdX (hG.val 62 63 66 _ rfl (hdep ⟨63, .data⟩ (by simp) rfl))
   have x69 := gdX (hG.val 65 66 69 _ rfl (hdep ⟨66, .data⟩ (by simp) rfl))
   rw [if_pos (show Region.wanted _ _ = true from rfl)]
   have HK := Lib.hid (hK (.bool false) w (hG.quiet 66 67 70 _ rfl (by kernel_rfl) (by kernel_rfl)))
   clear hG hcl hdep hfr hK hLi
   go_simp
   exact HK.out
  | 68, ho =>
   obtain rfl := gdO68 ho
   have x70 := gdX (hG.val 66 67 70 _ rfl (hdep ⟨67, .data⟩ (by simp) rfl))
   rw [if_pos (show Region.wanted _ _ = true from rfl)]
   have HK := Lib.hid (hK (.bool false) w (hG.quiet 67 68 71 _ rfl (by kernel_rfl) (by kernel_rfl)))
   clear hG hcl hdep hfr hK hLi
   go_simp
   exact HK.out
  | 69, ho =>
   obtain rfl := gdO69 ho
   rw [if_neg (gdF69 (hG.val 67 68 71 _ rfl (hdep ⟨68, .guard⟩ (by simp) rfl)))]
   have HK := Lib.hid (hK (undef) w (hG.quiet 68 69 72 _ rfl (by kernel_rfl) (by kernel_rfl)))
   clear hG hcl hdep hfr hK hLi
   exact HK.out
  | 70, ho =>
   obtain rfl := gdO70 ho
   have x72 := gdX (hG.val 68 69 72 _ rfl (hdep ⟨69, .data⟩ (by simp) rfl))
   rw [if_neg (gdF70 (hG.val 67 68 71 _ rfl (hdep ⟨68, .guard⟩ (by simp) rfl)))]
   have HK := Lib.hid (hK (undef) w (hG.quiet 69 70 73 _ rfl (by kernel_rfl) (by kernel_rfl)))
   clear hG hcl hdep hfr hK hLi
   exact HK.out
  | 71, ho =>
   obtain rfl := gdO71 ho
   have x73 := gdX (hG.val 69 70 73 _ rfl (hdep ⟨70, .data⟩ (by simp) rfl))
   rw [if_neg (gdF71 (hG.val 67 68 71 _ rfl (hdep ⟨68, .guard⟩ (by simp) rfl)))]
   have HK := Lib.hid (hK (undef) w (hG.quiet 70 71 74 _ rfl (by kernel_rfl) (by kernel_rfl)))
   clear hG hcl hdep hfr hK hLi
   exact HK.out
  | 72, ho =>
   obtain rfl := gdO72 ho
   have x71 := gdX (hG.val 67 68 71 _ rfl (hdep ⟨68, .data⟩ (by simp) rfl))
   have x74 := gdX (hG.val 70 71 74 _ rfl (hdep ⟨71, .data⟩ (by simp) rfl))
   rw [if_pos (show Region.wanted _ _ = true from rfl)]
   have HK := Lib.hid (hK (.bool false) w (hG.quiet 71 72 75 _ rfl (by kernel_rfl) (by kernel_rfl)))
   clear hG hcl hdep hfr hK hLi
   go_simp
   exact HK.out
  | 73, ho =>
   obtain rfl := gdO73 ho
   have x75 := gdX (hG.val 71 72 75 _ rfl (hdep ⟨72, .data⟩ (by simp) rfl))
   rw [if_pos (show Region.wanted _ _ = true from rfl)]
   have HK := Lib.hid (hK (.bool false) w (hG.quiet 72 73 2 _ rfl (by kernel_rfl) (by kernel_rfl)))
   clear hG hcl hdep hfr hK hLi
   go_simp
   exact HK.out
  | n + 74, ho => exact absurd (Array.getElem?_eq_some_iff.1 ho).1 (by show ¬ n + 74 < 74; omega)
end Go.Proofs.YtgkibkophoikoaaDoor
